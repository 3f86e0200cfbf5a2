/-
  The disk and the document's disk side by side.
-/
import Derived.Test.YteimegacnmakaabROut
namespace Go.Proofs.Yteimegacnmakaab
open Go.RowKit Go.ChangeShapes Go.WideShapes Go.ChangeAt Go.Maps
set_option linter.unusedVariables false
set_option linter.unusedSimpArgs false
theorem bufAt_iff {B : List (Int × Sec)} (hp : B.Pairwise (fun p q => p.1 < q.1)) (i : Int) (s : Sec) : bufAt B i = some s ↔ (i, s) ∈ B := by
  induction B with
  | nil => simp [bufAt]
  | cons p B ih =>
    rw [List.pairwise_cons] at hp
    have ih := ih hp.2
    by_cases h : p.1 = i
    · have e : bufAt (p :: B) i = some p.2 := by simp [bufAt, h]
      rw [e]
      constructor
      · intro h2
        cases h2
        rw [← h]
        simp
      · intro h2
        rcases List.mem_cons.1 h2 with h3 | h3
        · rw [← h3]
        · have := hp.1 _ h3
          simp at this
          omega
    · have e : bufAt (p :: B) i = bufAt B i := by simp [bufAt, h]
      rw [e, ih]
      constructor
      · intro h2; exact List.mem_cons_of_mem _ h2
      · intro h2
        rcases List.mem_cons.1 h2 with h3 | h3
        · exact absurd (by rw [← h3]) h
        · exact h3
theorem opt_ext {a b : Option Sec} (h : ∀ s, a = some s ↔ b = some s) : a = b := by
  cases a with
  | none =>
    cases b with
    | none => rfl
    | some t => exact absurd ((h t).2 rfl) (by simp)
  | some s => exact ((h s).1 rfl).symm
theorem bufAt_ins {B : List (Int × Sec)} (hp : B.Pairwise (fun p q => p.1 < q.1)) (i : Int) (s : Sec) (k : Int) : bufAt (ins i s B) k = upd (bufAt B) i (some s) k := by
  apply opt_ext
  intro t
  rw [bufAt_iff (ins_rising i s B hp), ins_mem i s B hp]
  unfold upd
  by_cases hk : k = i
  · rw [if_pos hk, hk]
    simp
    exact eq_comm
  · rw [if_neg hk, bufAt_iff hp]
    simp [hk]
theorem outL_get (all : Bool) (ks : List Int) : ∀ (B : List (Int × Sec)) (L : List Sec), B.Pairwise (fun p q => p.1 < q.1) → (∀ p ∈ B, 0 ≤ p.1) → ∀ j : Nat, j < L.length →
    (outL all ks B L).getD j zsec = if all = true ∨ (j : Int) ∈ ks then (bufAt B j).getD (L.getD j zsec) else L.getD j zsec
  | [], L, _, _, j, hj => by simp [outL, bufAt]
  | p :: B, L, hp, h0, j, hj => by
    rw [List.pairwise_cons] at hp
    show (outL all ks B (outStep all ks L p)).getD j zsec = _
    have hl : (outStep all ks L p).length = L.length := by unfold outStep; split <;> simp
    rw [outL_get all ks B _ hp.2 (fun q hq => h0 q (by simp [hq])) j (by omega)]
    have hp0 := h0 p (by simp)
    by_cases hpj : p.1 = (j : Int)
    · have e1 : bufAt B (j : Int) = none := bufAt_none (fun q hq e => by have := hp.1 q hq; omega)
      have e2 : bufAt (p :: B) (j : Int) = some p.2 := by simp [bufAt, hpj]
      have e3 : p.1.toNat = j := by omega
      rw [e1, e2]
      unfold outStep
      rw [hpj]
      by_cases hc : all = true ∨ (j : Int) ∈ ks
      · rw [if_pos hc, if_pos hc, if_pos hc]
        simp [List.getD, hj]
      · rw [if_neg hc, if_neg hc, if_neg hc]
    · have e2 : bufAt (p :: B) (j : Int) = bufAt B j := by simp [bufAt, hpj]
      have e3 : (outStep all ks L p).getD j zsec = L.getD j zsec := by
        unfold outStep
        split
        · have : p.1.toNat ≠ j := by omega
          simp [List.getD, List.getElem?_set, this]
        · rfl
      rw [e2, e3]
/-- Both disks hold the same: on is what is on them, c is what is in their buffers. -/
def Pair (w : World) (d b1 b2 r N : Nat) (on : Int → Sec) (c : Int → Option Sec) : Prop :=
  IsD w d b1 b2 N on c ∧ ∃ L B, IsR w r N L B ∧ (∀ j : Nat, j < N → on j = L.getD j zsec) ∧ ∀ i, c i = bufAt B i
theorem Pair.later {w w' : World} {d b1 b2 r N : Nat} {on : Int → Sec} {c : Int → Option Sec} (h : Pair w d b1 b2 r N on c) (hb : Below w.heap.size w w') : Pair w' d b1 b2 r N on c := by
  obtain ⟨h1, L, B, h2, h3⟩ := h
  exact ⟨h1.later hb, L, B, h2.later hb, h3⟩
theorem Pair.lts {w : World} {d b1 b2 r N : Nat} {on : Int → Sec} {c : Int → Option Sec} (h : Pair w d b1 b2 r N on c) : N ≤ 8 ∧ 1 ≤ N := by
  obtain ⟨h1, L, B, h2, h3⟩ := h
  exact ⟨h2.2.2.2.2.2.2, h2.2.2.2.2.2.1⟩
/-- What is turned: the two maps, and the document's struct. -/
def Trio (b1 b2 r : Nat) (k : Nat) : Prop := k = b1 ∨ k = b2 ∨ k = r
theorem pair_write {w w' : World} {d b1 b2 r N : Nat} {on : Int → Sec} {c : Int → Option Sec} {i : Int} {s : Sec} (hd : IsD w' d b1 b2 N on (upd c i (some s))) {L : List Sec} {B : List (Int × Sec)} (hB : B.Pairwise (fun p q => p.1 < q.1)) (hr : IsR w' r N L (ins i s B)) (h1 : ∀ j : Nat, j < N → on j = L.getD j zsec) (h2 : ∀ i, c i = bufAt B i) : Pair w' d b1 b2 r N on (upd c i (some s)) :=
  ⟨hd, L, _, hr, h1, fun k => by rw [bufAt_ins hB]; unfold upd; rw [h2]⟩
theorem pair_out {w' : World} {d b1 b2 r N : Nat} {on : Int → Sec} {c : Int → Option Sec} {on' : Int → Sec} (all : Bool) (ks : List Int) {L : List Sec} {B : List (Int × Sec)} (hB : B.Pairwise (fun p q => p.1 < q.1)) (hB0 : ∀ p ∈ B, 0 ≤ p.1) (hL : L.length = N) (hd : IsD w' d b1 b2 N on' (fun _ => none)) (hr : IsR w' r N (outL all ks B L) [])
    (h1 : ∀ j : Nat, j < N → on j = L.getD j zsec) (h2 : ∀ i, c i = bufAt B i) (h3 : ∀ i, on' i = if all = true ∨ i ∈ ks then (c i).getD (on i) else on i) : Pair w' d b1 b2 r N on' (fun _ => none) := by
  refine ⟨hd, _, _, hr, fun j hj => ?_, fun i => rfl⟩
  rw [outL_get all ks B L hB hB0 j (by omega), h3, h2, h1 j hj]
end Go.Proofs.Yteimegacnmakaab
