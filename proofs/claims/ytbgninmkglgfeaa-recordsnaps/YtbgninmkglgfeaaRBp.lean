/-
  What is written of what was read: plain laws.
-/
import Derived.Test.YtbgninmkglgfeaaRSm
namespace Go.Proofs.Ytbgninmkglgfeaa
open Go.RowKit Go.ChangeShapes Go.WideShapes Go.ChangeAt Go.Maps Go.Shelf
set_option linter.unusedVariables false
set_option linter.unusedSimpArgs false
def Byt (z : List Int) : Prop := ∀ y ∈ z, 0 ≤ y ∧ y ≤ 255
theorem byt_of {z : List Int} (h : InB z) : Byt z := fun y hy => by
  obtain ⟨i, hi, rfl⟩ := List.mem_iff_getElem.1 hy
  have := h i
  simpa [List.getD, hi] using this
theorem Byt.take {z : List Int} (h : Byt z) (k : Nat) : Byt (z.take k) := fun y hy => h y (List.mem_of_mem_take hy)
theorem Byt.drop {z : List Int} (h : Byt z) (k : Nat) : Byt (z.drop k) := fun y hy => h y (List.mem_of_mem_drop hy)
theorem Byt.tail {a b : List Int} (h : Byt (a ++ b)) : Byt b := fun y hy => h y (List.mem_append_right _ hy)
theorem beF_more (a r : Int) (s : Nat) : ∀ t, t ≤ s → beF (a * 256 ^ s + r) t = beF r t
  | 0, _ => rfl
  | t + 1, h => by
    rw [beF, beF, beF_more a r s t (by omega)]
    congr 1
    obtain ⟨d, rfl⟩ : ∃ d, s = t + 1 + d := ⟨s - (t + 1), by omega⟩
    have e : a * 256 ^ (t + 1 + d) + r = r + (a * 256 ^ d * 256) * 256 ^ t := by
      rw [Int.pow_add, Int.pow_succ]
      generalize (256 : Int) ^ t = P
      generalize (256 : Int) ^ d = Q
      have h : a * (P * 256 * Q) = a * Q * 256 * P := by ac_rfl
      rw [h, Int.add_comm]
    have hp : (256 : Int) ^ t ≠ 0 := by
      have : (0 : Int) < 256 ^ t := Int.pow_pos (by omega)
      omega
    rw [e, Int.add_mul_ediv_right _ _ hp, Int.add_mul_emod_self_right]
theorem numF_lt : ∀ (l : List Int), Byt l → 0 ≤ numF l ∧ numF l < 256 ^ l.length
  | [], _ => by simp [numF]
  | b :: t, h => by
    have hb := h b List.mem_cons_self
    have ih := numF_lt t (fun y hy => h y (List.mem_cons_of_mem _ hy))
    rw [numF_cons, List.length_cons, Int.pow_succ]
    have hp : (0 : Int) < 256 ^ t.length := Int.pow_pos (by omega)
    generalize (256 : Int) ^ t.length = P at *
    have h1 : 0 ≤ b * P := Int.mul_nonneg hb.1 (by omega)
    have h2 : b * P ≤ 255 * P := Int.mul_le_mul_of_nonneg_right hb.2 (by omega)
    omega
theorem beF_num : ∀ (l : List Int), Byt l → beF (numF l) l.length = l
  | [], _ => rfl
  | b :: t, h => by
    have hb := h b List.mem_cons_self
    have ht : Byt t := fun y hy => h y (List.mem_cons_of_mem _ hy)
    have ih := beF_num t ht
    have hl := numF_lt t ht
    rw [List.length_cons, beF, numF_cons, beF_more b (numF t) t.length t.length (Nat.le_refl _), ih]
    congr 1
    have hp : (256 : Int) ^ t.length ≠ 0 := by
      have : (0 : Int) < 256 ^ t.length := Int.pow_pos (by omega)
      omega
    rw [Int.add_comm, Int.add_mul_ediv_right _ _ hp, Int.ediv_eq_zero_of_lt hl.1 hl.2]
    omega
theorem numP_back {s : Nat} {z t : List Int} {m : Int} (h : Byt z) (hp : numP s z = some (m, t)) : z = beF m s ++ t := by
  unfold numP at hp
  by_cases q : s ≤ z.length
  · rw [if_pos q] at hp
    simp only [Option.some.injEq, Prod.mk.injEq] at hp
    have := beF_num (z.take s) (h.take s)
    rw [List.length_take, Nat.min_eq_left q] at this
    rw [← hp.1, ← hp.2, this, List.take_append_drop]
  · rw [if_neg q] at hp; cases hp
theorem shortP_back {z t ys : List Int} (h : Byt z) (hp : shortP z = some (ys, t)) : z = txF (Fr.tx ys) ++ t := by
  unfold shortP at hp
  rcases hn : numP 1 z with _ | ⟨m, u⟩
  · rw [hn] at hp; cases hp
  have hz := numP_back h hn
  rw [hn] at hp
  simp only at hp
  have hm : 0 ≤ m := by
    unfold numP at hn
    split at hn
    · simp only [Option.some.injEq, Prod.mk.injEq] at hn
      rw [← hn.1]; exact (numF_lt _ (h.take 1)).1
    · cases hn
  have hu : Byt u := by rw [hz] at h; exact h.tail
  by_cases q : m.toNat ≤ u.length
  · rw [if_pos q] at hp
    simp only [Option.some.injEq, Prod.mk.injEq] at hp
    rw [← hp.1, ← hp.2]
    unfold txF
    rw [Fr.bs_tx _ (hu.take _), Fr.tx_size, List.length_take, Nat.min_eq_left q, List.append_assoc, List.take_append_drop, hz]
    rw [show ((m.toNat : Nat) : Int) = m by omega]
  · rw [if_neg q] at hp; cases hp
theorem opP_back {z t : List Int} {x : Rec} (h : Byt z) (hp : opP z = some (x, t)) : z = opB x ++ t ∧ rightF x = true := by
  unfold opP at hp
  rcases h0 : numP 1 z with _ | ⟨k, z1⟩
  · rw [h0] at hp; cases hp
  rw [h0] at hp; simp only at hp
  have e0 := numP_back h h0
  have i1 : Byt z1 := by rw [e0] at h; exact h.tail
  rcases h1 : numP 4 z1 with _ | ⟨fid, z2⟩
  · rw [h1] at hp; cases hp
  rw [h1] at hp; simp only at hp
  have e1 := numP_back i1 h1
  have i2 : Byt z2 := by rw [e1] at i1; exact i1.tail
  rcases h2 : numP 4 z2 with _ | ⟨dir, z3⟩
  · rw [h2] at hp; cases hp
  rw [h2] at hp; simp only at hp
  have e2 := numP_back i2 h2
  have i3 : Byt z3 := by rw [e2] at i2; exact i2.tail
  rcases h3 : shortP z3 with _ | ⟨nm, z4⟩
  · rw [h3] at hp; cases hp
  rw [h3] at hp; simp only at hp
  have e3 := shortP_back i3 h3
  have i4 : Byt z4 := by rw [e3] at i3; exact i3.tail
  rcases h4 : numP 4 z4 with _ | ⟨tt, z5⟩
  · rw [h4] at hp; cases hp
  rw [h4] at hp; simp only at hp
  have e4 := numP_back i4 h4
  have i5 : Byt z5 := by rw [e4] at i4; exact i4.tail
  rcases h5 : shortP z5 with _ | ⟨nm2, z6⟩
  · rw [h5] at hp; cases hp
  rw [h5] at hp; simp only at hp
  have e5 := shortP_back i5 h5
  have i6 : Byt z6 := by rw [e5] at i5; exact i5.tail
  rcases h6 : numP 2 z6 with _ | ⟨md, z7⟩
  · rw [h6] at hp; cases hp
  rw [h6] at hp; simp only at hp
  have e6 := numP_back i6 h6
  have i7 : Byt z7 := by rw [e6] at i6; exact i6.tail
  rcases h7 : shortP z7 with _ | ⟨dt, z8⟩
  · rw [h7] at hp; cases hp
  rw [h7] at hp; simp only at hp
  have e7 := shortP_back i7 h7
  cases hr : rightF ⟨k, fid, dir, Fr.tx nm, tt, Fr.tx nm2, md, Fr.tx dt, 0⟩ with
  | true =>
    rw [hr, if_pos rfl] at hp
    simp only [Option.some.injEq, Prod.mk.injEq] at hp
    obtain ⟨rfl, rfl⟩ := hp
    refine ⟨?_, hr⟩
    unfold opB
    simp only [List.append_assoc]
    rw [← e7, ← e6, ← e5, ← e4, ← e3, ← e2, ← e1, ← e0]
  | false => rw [hr] at hp; simp at hp
theorem recP_back {z t : List Int} {x : Rec} (h : Byt z) (hp : recP z = some (x, t)) : z = recB x ++ t ∧ rightF x = true := by
  unfold recP at hp
  rcases h0 : numP 8 z with _ | ⟨sn, z1⟩
  · rw [h0] at hp; cases hp
  rw [h0] at hp; simp only at hp
  have e0 := numP_back h h0
  have i1 : Byt z1 := by rw [e0] at h; exact h.tail
  rcases h1 : opP z1 with _ | ⟨y, z2⟩
  · rw [h1] at hp; cases hp
  rw [h1] at hp; simp only [Option.some.injEq, Prod.mk.injEq] at hp
  obtain ⟨e1, r1⟩ := opP_back i1 h1
  obtain ⟨rfl, rfl⟩ := hp
  refine ⟨?_, r1⟩
  have e2 : opB { y with sn := sn } = opB y := rfl
  unfold recB
  rw [e2, List.append_assoc, ← e1, ← e0]
theorem recsN_back : ∀ (n : Nat) {z t : List Int} {l : List Rec}, Byt z → recsN n z = some (l, t) → z = recsB l ++ t ∧ (∀ x ∈ l, rightF x = true) ∧ l.length = n
  | 0, z, t, l, h, hp => by
    simp only [recsN, Option.some.injEq, Prod.mk.injEq] at hp
    obtain ⟨rfl, rfl⟩ := hp
    exact ⟨rfl, (fun x hx => by cases hx), rfl⟩
  | n + 1, z, t, l, h, hp => by
    rw [recsN_step] at hp
    rcases h0 : recP z with _ | ⟨x, z1⟩
    · rw [h0] at hp; cases hp
    rw [h0] at hp; simp only at hp
    obtain ⟨e0, r0⟩ := recP_back h h0
    have i1 : Byt z1 := by rw [e0] at h; exact h.tail
    rcases h1 : recsN n z1 with _ | ⟨l', u⟩
    · rw [h1] at hp; cases hp
    rw [h1] at hp; simp only [Option.some.injEq, Prod.mk.injEq] at hp
    obtain ⟨rfl, rfl⟩ := hp
    obtain ⟨e2, r2, n2⟩ := recsN_back n i1 h1
    refine ⟨?_, fun y hy => (List.mem_cons.1 hy).elim (fun e => by rw [e]; exact r0) (r2 y), by rw [List.length_cons, n2]⟩
    have e3 : recsB (x :: l') = recB x ++ recsB l' := by unfold recsB; rw [List.flatMap_cons]
    rw [e3, List.append_assoc, ← e2, ← e0]
/-- WHAT IS WRITTEN OF WHAT WAS READ ARE THE BYTES. -/
theorem recsAll_back {z : List Int} {l : List Rec} (hi : InB z) (hp : recsAll z = some l) : recsOk l = true ∧ recsA l = z ∧ ∀ x ∈ l, x.Wf := by
  have h := byt_of hi
  unfold recsAll at hp
  rcases h0 : recsP z with _ | ⟨k, t⟩
  · rw [h0] at hp; cases hp
  rw [h0] at hp
  rcases t with _ | ⟨q, qs⟩
  · simp only [Option.some.injEq] at hp
    subst hp
    unfold recsP at h0
    rcases h1 : numP 1 z with _ | ⟨m, z1⟩
    · rw [h1] at h0; cases h0
    rw [h1] at h0
    simp only at h0
    have e0 := numP_back h h1
    have i1 : Byt z1 := by rw [e0] at h; exact h.tail
    obtain ⟨⟨b0, _⟩, j1⟩ := numP_in hi h1
    by_cases q : m ≤ 24
    · rw [if_pos q] at h0
      obtain ⟨e2, r2, n2⟩ := recsN_back _ i1 h0
      obtain ⟨w2, _, _⟩ := recsN_in _ j1 h0
      have hm : (k.length : Int) = m := by omega
      refine ⟨?_, ?_, w2⟩
      · unfold recsOk
        simp only [Bool.and_eq_true, decide_eq_true_eq, Bool.not_eq_true', List.any_eq_false]
        refine ⟨by omega, fun x hx => ?_⟩
        unfold wrongF
        rw [r2 x hx]; simp
      · unfold recsA
        rw [List.append_nil] at e2
        rw [hm, ← e2, ← e0]
    · rw [if_neg q] at h0; cases h0
  · cases hp
end Go.Proofs.Ytbgninmkglgfeaa
