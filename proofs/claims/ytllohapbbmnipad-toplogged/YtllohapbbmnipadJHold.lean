/-
  Plain laws on what a journal of 300 sectors holds, as long as it is never reset: a row of groups, and behind them no last sector.
-/
import Derived.Test.YtllohapbbmnipadJAdd
namespace Go.Proofs.Ytllohapbbmnipad
open Go.RowKit
set_option linter.unusedVariables false
set_option linter.unusedSimpArgs false
/-- The sectors of groups, one behind the other. -/
def runL (t : Int) : Int → List Jo.Gr → List (List Int)
  | _, [] => []
  | n, g :: L => Jo.laid g t n ++ runL t (n + 1) L
theorem runL_snoc (t : Int) (g : Jo.Gr) : ∀ (L : List Jo.Gr) (n : Int), runL t n (L ++ [g]) = runL t n L ++ Jo.laid g t (n + L.length)
  | [], n => by simp [runL]
  | a :: L, n => by
    have h := runL_snoc t g L (n + 1)
    simp only [List.cons_append, runL, h, List.append_assoc, List.length_cons]
    congr 3
    omega
theorem runL_len (t : Int) : ∀ (L : List Jo.Gr) (n : Int), (∀ g ∈ L, Jo.okG g = true) → (runL t n L).length = sumN L
  | [], n, _ => rfl
  | a :: L, n, h => by
    have ih := runL_len t L (n + 1) fun g hg => h g (by simp [hg])
    have e : sumN (a :: L) = Jo.needF a + sumN L := by unfold sumN; simp
    rw [runL, List.length_append, ih, Jo.laid_len, e, Jo.need_ok (h a (by simp))]
theorem groupsF_run (t : Int) (rest : List (List Int)) : ∀ (L : List Jo.Gr) (n : Int) (m : Nat), (∀ g ∈ L, Jo.okG g = true) → Jo.readF t (n + L.length) rest = none → L.length < m → Jo.groupsF t m n (runL t n L ++ rest) = L
  | [], n, m, _, hr, hm => by
    match m, hm with
    | m + 1, _ =>
      have hr' : Jo.readF t n rest = none := by simpa using hr
      simp [Jo.groupsF, runL, hr']
  | a :: L, n, m, h, hr, hm => by
    match m, hm with
    | m + 1, hm =>
      have ho := h a (by simp)
      have h1 : Jo.readF t n (runL t n (a :: L) ++ rest) = some a := Jo.read_of ⟨ho, runL t (n + 1) L ++ rest, by simp [runL]⟩
      have h2 : (runL t n (a :: L) ++ rest).drop (Jo.needF a) = runL t (n + 1) L ++ rest := by
        rw [Jo.need_ok ho, ← Jo.laid_len a t n, runL, List.append_assoc, List.drop_left]
      have ih := groupsF_run t rest L (n + 1) m (fun g hg => h g (by simp [hg])) (by rw [← hr]; congr 1; simp; omega) (by simp at hm; omega)
      unfold Jo.groupsF
      rw [h1]
      simp only
      rw [h2, ih]
theorem mark_last (t n : Int) : (Jo.lastS t n).getD 0 0 = 67 := rfl
theorem mark_first (t n k l : Int) : (Jo.firstS t n k l).getD 0 0 = 71 := rfl
theorem mark_data (l : List Int) (k : Nat) : (Jo.dataS l k).getD 0 0 = 68 := rfl
theorem read_not {t n : Int} {rest : List (List Int)} (hs : ∀ s ∈ rest, Jo.Sct s) (h : ∀ s ∈ rest, s.getD 0 0 ≠ 67) : Jo.readF t n rest = none := by
  cases e : Jo.readF t n rest with
  | none => rfl
  | some g =>
    obtain ⟨⟨_, r, hr⟩, _⟩ := Jo.of_read e hs
    exact absurd (mark_last t n) (h _ (by rw [hr]; unfold Jo.laid; simp))
theorem laid_front {g : Jo.Gr} {t n : Int} (ho : Jo.okG g = true) {s : List Int} (hs : s ∈ (Jo.laid g t n).take (Jo.needF g - 1)) : s.getD 0 0 ≠ 67 := by
  rw [Jo.need_ok ho] at hs
  unfold Jo.secsOf at hs
  rw [show 2 + Jo.many (Jo.loadF g).length - 1 = Jo.many (Jo.loadF g).length + 1 by omega] at hs
  unfold Jo.laid at hs
  rw [List.take_succ_cons] at hs
  rcases List.mem_cons.1 hs with rfl | hs
  · rw [mark_first]; decide
  · have hd : (Jo.dataL (Jo.loadF g) (Jo.many (Jo.loadF g).length)).length = Jo.many (Jo.loadF g).length := by unfold Jo.dataL; simp
    rw [List.take_left' hd] at hs
    unfold Jo.dataL at hs
    obtain ⟨k, _, rfl⟩ := List.mem_map.1 hs
    rw [mark_data]; decide
theorem secs_congr {v v' : Int → Sec} {st n : Nat} (h : ∀ i, i < n → v ((st + i : Nat) : Int) = v' ((st + i : Nat) : Int)) : secs v st n = secs v' st n := by
  unfold secs
  exact List.map_congr_left fun i hi => h i (List.mem_range.1 hi)
theorem secs_add (v : Int → Sec) (st a b : Nat) : secs v st (a + b) = secs v st a ++ secs v (st + a) b := by
  induction b with
  | zero => simp [secs]
  | succ b ih => rw [← Nat.add_assoc, secs_snoc, ih, secs_snoc, List.append_assoc, Nat.add_assoc]
theorem secs_get (v : Int → Sec) (st n i : Nat) (h : i < n) : (secs v st n)[i]? = some (v ((st + i : Nat) : Int)) := by unfold secs; simp [h]
theorem secs_upd (v : Int → Sec) (e : Nat) (l : List (List Int)) : secs (updO v e l) e l.length = l := by
  apply List.ext_getElem?
  intro i
  by_cases hi : i < l.length
  · rw [secs_get _ _ _ _ hi]
    unfold updO
    rw [if_pos (by omega)]
    have : (((e + i : Nat) : Int) - (e : Int)).toNat = i := by omega
    rw [this]
    simp [List.getD, hi]
  · rw [List.getElem?_eq_none (by rw [secs_len]; omega), List.getElem?_eq_none (by omega)]
/-- What lies on a disk: groups, and no last sector behind them. -/
structure Hold (v : Int → Sec) (L : List Jo.Gr) : Prop where
  z0 : v 0 = zsec
  z1 : v 1 = zsec
  ok : ∀ g ∈ L, Jo.okG g = true
  le : sumN L ≤ 149
  run : secs v 2 (sumN L) = runL 0 1 L
  no : ∀ p : Nat, 2 + sumN L ≤ p → p < 151 → (v (p : Int)).getD 0 0 ≠ 67
theorem turn_zero : Jo.turnOf zsec = 0 := by decide +kernel
theorem Hold.best {v : Int → Sec} {L : List Jo.Gr} (h : Hold v L) : best v 2 = (0, 0) := by
  have e0 : Jo.turnOf (v ((0 : Nat) : Int)) = 0 := by rw [show ((0 : Nat) : Int) = 0 from rfl, h.z0, turn_zero]
  have e1 : Jo.turnOf (v ((1 : Nat) : Int)) = 0 := by rw [show ((1 : Nat) : Int) = 1 from rfl, h.z1, turn_zero]
  have h1 : Go.Proofs.Ytllohapbbmnipad.best v 1 = (0, 0) := by
    rw [best_no (k := 0) (by rw [e0]; simp [Go.Proofs.Ytllohapbbmnipad.best])]; rfl
  rw [best_no (k := 1) (by rw [e1, h1]; simp), h1]
theorem Hold.grps {v : Int → Sec} {L : List Jo.Gr} (h : Hold v L) (hs : ∀ i, Jo.Sct (v i)) : grps v 300 = L := by
  have hb := h.best
  have hz : asz 300 = 149 := by decide
  unfold Go.Proofs.Ytllohapbbmnipad.grps allG
  rw [hb]
  simp only [Nat.zero_mul, Nat.add_zero]
  have e : secs v 2 (asz 300) = runL 0 1 L ++ secs v (2 + sumN L) (149 - sumN L) := by
    rw [← h.run, ← secs_add, hz]
    congr 1
    have := h.le; omega
  rw [e]
  refine groupsF_run 0 _ L 1 _ h.ok (read_not (secs_sct hs _ _) fun s hm => ?_) ?_
  · unfold secs at hm
    obtain ⟨i, hi, rfl⟩ := List.mem_map.1 hm
    exact h.no _ (by omega) (by have := List.mem_range.1 hi; have := h.le; omega)
  · have := runL_len 0 L 1 h.ok
    have h3 : L.length ≤ sumN L := by
      have hk := h.ok
      clear e hb hz h this
      induction L with
      | nil => simp
      | cons a L ih =>
        have e : sumN (a :: L) = Jo.needF a + sumN L := by unfold sumN; simp
        have := ih fun g hg => hk g (by simp [hg])
        have h2 := Jo.need_ok (hk a (by simp))
        unfold Jo.secsOf at h2
        rw [e, List.length_cons]; omega
    rw [List.length_append, this]; omega
theorem Hold.keep {v v' : Int → Sec} {L : List Jo.Gr} (h : Hold v L) (h1 : ∀ p : Nat, p < 2 + sumN L → v' (p : Int) = v (p : Int)) (h2 : ∀ p : Nat, 2 + sumN L ≤ p → p < 151 → (v' (p : Int)).getD 0 0 ≠ 67) : Hold v' L := by
  refine ⟨?_, ?_, h.ok, h.le, ?_, h2⟩
  · have := h1 0 (by omega); rw [← h.z0]; exact this
  · have := h1 1 (by omega); rw [← h.z1]; exact this
  · rw [← h.run]; exact secs_congr fun i hi => h1 _ (by omega)
theorem updO_at {v : Int → Sec} {e : Nat} {l : List (List Int)} (p : Nat) : updO v e l (p : Int) = if e ≤ p ∧ p < e + l.length then l.getD (p - e) [] else v (p : Int) := by
  unfold updO
  by_cases h : e ≤ p ∧ p < e + l.length
  · rw [if_pos (by omega), if_pos h]
    congr 1; omega
  · rw [if_neg (by omega), if_neg h]
theorem Hold.add {v : Int → Sec} {L : List Jo.Gr} (h : Hold v L) {g : Jo.Gr} (ho : Jo.okG g = true) (hr : sumN L + Jo.needF g ≤ 149) : Hold (updO v (2 + sumN L) (Jo.laid g 0 (L.length + 1))) (L ++ [g]) := by
  have hl : (Jo.laid g 0 (L.length + 1)).length = Jo.needF g := by rw [Jo.laid_len, Jo.need_ok ho]
  have hlow : ∀ p : Nat, p < 2 + sumN L → updO v (2 + sumN L) (Jo.laid g 0 (L.length + 1)) (p : Int) = v (p : Int) := fun p hp => by rw [updO_at, if_neg (by omega)]
  refine ⟨?_, ?_, ?_, ?_, ?_, ?_⟩
  · rw [← h.z0]; exact hlow 0 (by omega)
  · rw [← h.z1]; exact hlow 1 (by omega)
  · intro a ha
    rcases List.mem_append.1 ha with ha | ha
    · exact h.ok a ha
    · rw [List.mem_singleton.1 ha]; exact ho
  · rw [sumN_snoc]; exact hr
  · rw [sumN_snoc, secs_add, runL_snoc, ← hl, secs_upd]
    congr 1
    · rw [← h.run]; exact secs_congr fun i hi => hlow _ (by omega)
    · congr 1; omega
  · intro p hp hp2
    rw [sumN_snoc] at hp
    rw [updO_at, if_neg (by omega)]
    exact h.no p (by omega) hp2
theorem Hold.arEnd {v : Int → Sec} {L : List Jo.Gr} (h : Hold v L) (hs : ∀ i, Jo.Sct (v i)) : arEnd v 300 = 2 + sumN L ∧ arSt v 300 = 2 := by
  have e : arSt v 300 = 2 := by unfold arSt; rw [h.best]; simp
  exact ⟨by unfold Go.Proofs.Ytllohapbbmnipad.arEnd; rw [e, h.grps hs], e⟩
theorem Hold.zero : Hold (fun _ => zsec) [] := ⟨rfl, rfl, (fun g hg => absurd hg (by simp)), (by simp [sumN]), rfl, (fun p _ _ => by show zsec.getD 0 0 ≠ 67; decide)⟩
theorem Hold.added {v : Int → Sec} {L : List Jo.Gr} (h : Hold v L) (hs : ∀ i, Jo.Sct (v i)) {g : Jo.Gr} (ho : Jo.okG g = true) (hr : sumN L + Jo.needF g ≤ 149) : Hold (added v 300 g) (L ++ [g]) := by
  have h1 := h.add ho hr
  unfold Go.Proofs.Ytllohapbbmnipad.added
  rw [(h.arEnd hs).1, h.best, h.grps hs]
  exact h1
/-- What is on a disk behind a Torn of an Append. -/
def tornA (v : Int → Sec) (N : Nat) (g : Jo.Gr) (st : Int) (zs : List Int) : Int → Sec :=
  if st = 0 then fun i => if i ∈ zs then updO v (arEnd v N) ((Jo.laid g (best v 2).2 ((grps v N).length + 1)).take (Jo.needF g - 1)) i else v i
  else fun i => if i ∈ zs then Go.Proofs.Ytllohapbbmnipad.added v N g i else updO v (arEnd v N) ((Jo.laid g (best v 2).2 ((grps v N).length + 1)).take (Jo.needF g - 1)) i
theorem updO_front {v : Int → Sec} {L : List Jo.Gr} (h : Hold v L) {g : Jo.Gr} (ho : Jo.okG g = true) : (∀ p : Nat, p < 2 + sumN L → updO v (2 + sumN L) ((Jo.laid g 0 (L.length + 1)).take (Jo.needF g - 1)) (p : Int) = v (p : Int)) ∧ ∀ p : Nat, 2 + sumN L ≤ p → p < 151 → (updO v (2 + sumN L) ((Jo.laid g 0 (L.length + 1)).take (Jo.needF g - 1)) (p : Int)).getD 0 0 ≠ 67 := by
  refine ⟨fun p hp => by rw [updO_at, if_neg (by omega)], fun p hp hp2 => ?_⟩
  rw [updO_at]
  by_cases hc : 2 + sumN L ≤ p ∧ p < 2 + sumN L + ((Jo.laid g 0 (L.length + 1)).take (Jo.needF g - 1)).length
  · rw [if_pos hc]
    refine laid_front ho (t := 0) (n := L.length + 1) ?_
    have hi : p - (2 + sumN L) < ((Jo.laid g 0 (L.length + 1)).take (Jo.needF g - 1)).length := by omega
    rw [List.getD, List.getElem?_eq_getElem hi]
    exact List.getElem_mem hi
  · rw [if_neg hc]; exact h.no p hp hp2
theorem Hold.torn {v : Int → Sec} {L : List Jo.Gr} (h : Hold v L) (hs : ∀ i, Jo.Sct (v i)) {g : Jo.Gr} (ho : Jo.okG g = true) (hr : sumN L + Jo.needF g ≤ 149) (st : Int) (zs : List Int) : Hold (tornA v 300 g st zs) L ∨ Hold (tornA v 300 g st zs) (L ++ [g]) := by
  obtain ⟨f1, f2⟩ := updO_front h ho
  have hn : Jo.needF g = (Jo.needF g - 1) + 1 := by have := Jo.need_ok ho; unfold Jo.secsOf at this; omega
  have hl : (Jo.laid g 0 (L.length + 1)).length = Jo.needF g := by rw [Jo.laid_len, Jo.need_ok ho]
  unfold tornA
  have ha : Go.Proofs.Ytllohapbbmnipad.added v 300 g = updO v (2 + sumN L) (Jo.laid g 0 (L.length + 1)) := by unfold Go.Proofs.Ytllohapbbmnipad.added; rw [(h.arEnd hs).1, h.best, h.grps hs]
  rw [ha, (h.arEnd hs).1, h.best, h.grps hs]
  simp only
  by_cases h0 : st = 0
  · rw [if_pos h0]
    refine .inl (h.keep (fun p hp => ?_) fun p hp hp2 => ?_)
    · split
      · exact f1 p hp
      · rfl
    · split
      · exact f2 p hp hp2
      · exact h.no p hp hp2
  · rw [if_neg h0]
    have same : ∀ p : Nat, p ≠ 2 + sumN L + (Jo.needF g - 1) → updO v (2 + sumN L) (Jo.laid g 0 (L.length + 1)) (p : Int) = updO v (2 + sumN L) ((Jo.laid g 0 (L.length + 1)).take (Jo.needF g - 1)) (p : Int) := fun p hp => by
      have hlt : ((Jo.laid g 0 (L.length + 1)).take (Jo.needF g - 1)).length = Jo.needF g - 1 := by rw [List.length_take]; omega
      rw [updO_at, updO_at, hl, hlt]
      by_cases hc : 2 + sumN L ≤ p ∧ p < 2 + sumN L + (Jo.needF g - 1)
      · rw [if_pos (by omega), if_pos hc, List.getD, List.getD, List.getElem?_take, if_pos (by omega)]
      · rw [if_neg (by omega), if_neg hc]
    by_cases hm : ((2 + sumN L + (Jo.needF g - 1) : Nat) : Int) ∈ zs
    · have hA := h.add ho hr
      refine .inr ⟨?_, ?_, hA.ok, hA.le, ?_, fun p hp hp2 => ?_⟩
      · have := same 0 (by omega)
        rw [← hA.z0]
        split
        · rfl
        · exact this.symm
      · have := same 1 (by omega)
        rw [← hA.z1]
        split
        · rfl
        · exact this.symm
      · rw [← hA.run]
        refine secs_congr fun i hi => ?_
        by_cases hp : 2 + i = 2 + sumN L + (Jo.needF g - 1)
        · rw [hp, if_pos hm]
        · split
          · rfl
          · exact (same _ hp).symm
      · have hp' := hp
        rw [sumN_snoc] at hp
        have := hA.no p hp' hp2
        rw [same p (by omega)] at this
        split
        · rw [same p (by omega)]; exact this
        · exact this
    · refine .inl (h.keep (fun p hp => ?_) fun p hp hp2 => ?_)
      · split
        · rw [same p (by omega)]; exact f1 p hp
        · exact f1 p hp
      · split
        · rename_i hz
          rw [same p (fun e => hm (e ▸ hz))]; exact f2 p hp hp2
        · exact f2 p hp hp2
theorem need_one (t : List Int) (ht : t.length ≤ 100) : Jo.okG [t] = true ∧ Jo.needF [t] ≤ 6 := by
  have ho : Jo.okG [t] = true := Jo.ok_iff.2 ⟨by simp, by simp, fun p hp => by rw [List.mem_singleton.1 hp]; omega⟩
  refine ⟨ho, ?_⟩
  rw [Jo.need_ok ho, Jo.load_cons]
  simp [Jo.loadF, Jo.le4_len, Jo.secsOf, Jo.many]
  omega
end Go.Proofs.Ytllohapbbmnipad
