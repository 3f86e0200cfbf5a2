/-
  Plain laws on what a journal of 300 sectors holds, as long as it is never reset: a row of groups, and behind them no last sector.
  Plain laws on what a journal holds, also where it was reset: a row of groups of a turn; which last sectors lie behind them, and in the other area.
  few of the statements on journals: a group with not too many bytes.
  Plain laws for the document's group: the sectors of an area, what is asked of them one behind the other.
  Operations of drawn regions that only read: comparisons, numbers, sectors.
-/
import Derived.Test.YtfmkgflhgapeoabGE
import Derived.Test.YtfmkgflhgapeoabGF
import Derived.Test.YtfmkgflhgapeoabGI
namespace Go.Proofs.Ytfmkgflhgapeoab
open Go.RowKit
set_option linter.unusedVariables false
set_option linter.unusedSimpArgs false
/-- The sectors of groups, one behind the other. -/
def runL (t : Int) : Int → List Jo.Gr → List (List Int)
  | _, [] => []
  | n, g :: L => Jo.laid g t n ++ runL t (n + 1) L
theorem runL_snoc (t : Int) (g : Jo.Gr) : ∀ (L : List Jo.Gr) (n : Int), runL t n (L ++ [g]) = runL t n L ++ Jo.laid g t (n + L.length)
  | [], n => by simp [runL]
  | a :: L, n => by
    have h := runL_snoc t g L (n + 1)
    simp only [List.cons_append, runL, h, List.append_assoc, List.length_cons]
    congr 3
    omega
theorem runL_len (t : Int) : ∀ (L : List Jo.Gr) (n : Int), (∀ g ∈ L, Jo.okG g = true) → (runL t n L).length = sumN L
  | [], n, _ => rfl
  | a :: L, n, h => by
    have ih := runL_len t L (n + 1) fun g hg => h g (by simp [hg])
    have e : sumN (a :: L) = Jo.needF a + sumN L := by unfold sumN; simp
    rw [runL, List.length_append, ih, Jo.laid_len, e, Jo.need_ok (h a (by simp))]
theorem groupsF_run (t : Int) (rest : List (List Int)) : ∀ (L : List Jo.Gr) (n : Int) (m : Nat), (∀ g ∈ L, Jo.okG g = true) → Jo.readF t (n + L.length) rest = none → L.length < m → Jo.groupsF t m n (runL t n L ++ rest) = L
  | [], n, m, _, hr, hm => by
    match m, hm with
    | m + 1, _ =>
      have hr' : Jo.readF t n rest = none := by simpa using hr
      simp [Jo.groupsF, runL, hr']
  | a :: L, n, m, h, hr, hm => by
    match m, hm with
    | m + 1, hm =>
      have ho := h a (by simp)
      have h1 : Jo.readF t n (runL t n (a :: L) ++ rest) = some a := Jo.read_of ⟨ho, runL t (n + 1) L ++ rest, by simp [runL]⟩
      have h2 : (runL t n (a :: L) ++ rest).drop (Jo.needF a) = runL t (n + 1) L ++ rest := by
        rw [Jo.need_ok ho, ← Jo.laid_len a t n, runL, List.append_assoc, List.drop_left]
      have ih := groupsF_run t rest L (n + 1) m (fun g hg => h g (by simp [hg])) (by rw [← hr]; congr 1; simp; omega) (by simp at hm; omega)
      unfold Jo.groupsF
      rw [h1]
      simp only
      rw [h2, ih]
theorem mark_last (t n : Int) : (Jo.lastS t n).getD 0 0 = 67 := rfl
theorem mark_first (t n k l : Int) : (Jo.firstS t n k l).getD 0 0 = 71 := rfl
theorem mark_data (l : List Int) (k : Nat) : (Jo.dataS l k).getD 0 0 = 68 := rfl
theorem read_not {t n : Int} {rest : List (List Int)} (hs : ∀ s ∈ rest, Jo.Sct s) (h : ∀ s ∈ rest, s.getD 0 0 ≠ 67) : Jo.readF t n rest = none := by
  cases e : Jo.readF t n rest with
  | none => rfl
  | some g =>
    obtain ⟨⟨_, r, hr⟩, _⟩ := Jo.of_read e hs
    exact absurd (mark_last t n) (h _ (by rw [hr]; unfold Jo.laid; simp))
theorem laid_front {g : Jo.Gr} {t n : Int} (ho : Jo.okG g = true) {s : List Int} (hs : s ∈ (Jo.laid g t n).take (Jo.needF g - 1)) : s.getD 0 0 ≠ 67 := by
  rw [Jo.need_ok ho] at hs
  unfold Jo.secsOf at hs
  rw [show 2 + Jo.many (Jo.loadF g).length - 1 = Jo.many (Jo.loadF g).length + 1 by omega] at hs
  unfold Jo.laid at hs
  rw [List.take_succ_cons] at hs
  rcases List.mem_cons.1 hs with rfl | hs
  · rw [mark_first]; decide
  · have hd : (Jo.dataL (Jo.loadF g) (Jo.many (Jo.loadF g).length)).length = Jo.many (Jo.loadF g).length := by unfold Jo.dataL; simp
    rw [List.take_left' hd] at hs
    unfold Jo.dataL at hs
    obtain ⟨k, _, rfl⟩ := List.mem_map.1 hs
    rw [mark_data]; decide
theorem secs_congr {v v' : Int → Sec} {st n : Nat} (h : ∀ i, i < n → v ((st + i : Nat) : Int) = v' ((st + i : Nat) : Int)) : secs v st n = secs v' st n := by
  unfold secs
  exact List.map_congr_left fun i hi => h i (List.mem_range.1 hi)
theorem secs_add (v : Int → Sec) (st a b : Nat) : secs v st (a + b) = secs v st a ++ secs v (st + a) b := by
  induction b with
  | zero => simp [secs]
  | succ b ih => rw [← Nat.add_assoc, secs_snoc, ih, secs_snoc, List.append_assoc, Nat.add_assoc]
theorem secs_get (v : Int → Sec) (st n i : Nat) (h : i < n) : (secs v st n)[i]? = some (v ((st + i : Nat) : Int)) := by unfold secs; simp [h]
theorem secs_upd (v : Int → Sec) (e : Nat) (l : List (List Int)) : secs (updO v e l) e l.length = l := by
  apply List.ext_getElem?
  intro i
  by_cases hi : i < l.length
  · rw [secs_get _ _ _ _ hi]
    unfold updO
    rw [if_pos (by omega)]
    have : (((e + i : Nat) : Int) - (e : Int)).toNat = i := by omega
    rw [this]
    simp [List.getD, hi]
  · rw [List.getElem?_eq_none (by rw [secs_len]; omega), List.getElem?_eq_none (by omega)]
/-- What lies on a disk: groups, and no last sector behind them. -/
structure Hold (v : Int → Sec) (L : List Jo.Gr) : Prop where
  z0 : v 0 = zsec
  z1 : v 1 = zsec
  ok : ∀ g ∈ L, Jo.okG g = true
  le : sumN L ≤ 149
  run : secs v 2 (sumN L) = runL 0 1 L
  no : ∀ p : Nat, 2 + sumN L ≤ p → p < 151 → (v (p : Int)).getD 0 0 ≠ 67
theorem turn_zero : Jo.turnOf zsec = 0 := by decide +kernel
theorem Hold.best {v : Int → Sec} {L : List Jo.Gr} (h : Hold v L) : best v 2 = (0, 0) := by
  have e0 : Jo.turnOf (v ((0 : Nat) : Int)) = 0 := by rw [show ((0 : Nat) : Int) = 0 from rfl, h.z0, turn_zero]
  have e1 : Jo.turnOf (v ((1 : Nat) : Int)) = 0 := by rw [show ((1 : Nat) : Int) = 1 from rfl, h.z1, turn_zero]
  have h1 : Go.Proofs.Ytfmkgflhgapeoab.best v 1 = (0, 0) := by
    rw [best_no (k := 0) (by rw [e0]; simp [Go.Proofs.Ytfmkgflhgapeoab.best])]; rfl
  rw [best_no (k := 1) (by rw [e1, h1]; simp), h1]
theorem Hold.grps {v : Int → Sec} {L : List Jo.Gr} (h : Hold v L) (hs : ∀ i, Jo.Sct (v i)) : grps v 300 = L := by
  have hb := h.best
  have hz : asz 300 = 149 := by decide
  unfold Go.Proofs.Ytfmkgflhgapeoab.grps allG
  rw [hb]
  simp only [Nat.zero_mul, Nat.add_zero]
  have e : secs v 2 (asz 300) = runL 0 1 L ++ secs v (2 + sumN L) (149 - sumN L) := by
    rw [← h.run, ← secs_add, hz]
    congr 1
    have := h.le; omega
  rw [e]
  refine groupsF_run 0 _ L 1 _ h.ok (read_not (secs_sct hs _ _) fun s hm => ?_) ?_
  · unfold secs at hm
    obtain ⟨i, hi, rfl⟩ := List.mem_map.1 hm
    exact h.no _ (by omega) (by have := List.mem_range.1 hi; have := h.le; omega)
  · have := runL_len 0 L 1 h.ok
    have h3 : L.length ≤ sumN L := by
      have hk := h.ok
      clear e hb hz h this
      induction L with
      | nil => simp
      | cons a L ih =>
        have e : sumN (a :: L) = Jo.needF a + sumN L := by unfold sumN; simp
        have := ih fun g hg => hk g (by simp [hg])
        have h2 := Jo.need_ok (hk a (by simp))
        unfold Jo.secsOf at h2
        rw [e, List.length_cons]; omega
    rw [List.length_append, this]; omega
theorem Hold.keep {v v' : Int → Sec} {L : List Jo.Gr} (h : Hold v L) (h1 : ∀ p : Nat, p < 2 + sumN L → v' (p : Int) = v (p : Int)) (h2 : ∀ p : Nat, 2 + sumN L ≤ p → p < 151 → (v' (p : Int)).getD 0 0 ≠ 67) : Hold v' L := by
  refine ⟨?_, ?_, h.ok, h.le, ?_, h2⟩
  · have := h1 0 (by omega); rw [← h.z0]; exact this
  · have := h1 1 (by omega); rw [← h.z1]; exact this
  · rw [← h.run]; exact secs_congr fun i hi => h1 _ (by omega)
theorem updO_at {v : Int → Sec} {e : Nat} {l : List (List Int)} (p : Nat) : updO v e l (p : Int) = if e ≤ p ∧ p < e + l.length then l.getD (p - e) [] else v (p : Int) := by
  unfold updO
  by_cases h : e ≤ p ∧ p < e + l.length
  · rw [if_pos (by omega), if_pos h]
    congr 1; omega
  · rw [if_neg (by omega), if_neg h]
theorem Hold.add {v : Int → Sec} {L : List Jo.Gr} (h : Hold v L) {g : Jo.Gr} (ho : Jo.okG g = true) (hr : sumN L + Jo.needF g ≤ 149) : Hold (updO v (2 + sumN L) (Jo.laid g 0 (L.length + 1))) (L ++ [g]) := by
  have hl : (Jo.laid g 0 (L.length + 1)).length = Jo.needF g := by rw [Jo.laid_len, Jo.need_ok ho]
  have hlow : ∀ p : Nat, p < 2 + sumN L → updO v (2 + sumN L) (Jo.laid g 0 (L.length + 1)) (p : Int) = v (p : Int) := fun p hp => by rw [updO_at, if_neg (by omega)]
  refine ⟨?_, ?_, ?_, ?_, ?_, ?_⟩
  · rw [← h.z0]; exact hlow 0 (by omega)
  · rw [← h.z1]; exact hlow 1 (by omega)
  · intro a ha
    rcases List.mem_append.1 ha with ha | ha
    · exact h.ok a ha
    · rw [List.mem_singleton.1 ha]; exact ho
  · rw [sumN_snoc]; exact hr
  · rw [sumN_snoc, secs_add, runL_snoc, ← hl, secs_upd]
    congr 1
    · rw [← h.run]; exact secs_congr fun i hi => hlow _ (by omega)
    · congr 1; omega
  · intro p hp hp2
    rw [sumN_snoc] at hp
    rw [updO_at, if_neg (by omega)]
    exact h.no p (by omega) hp2
theorem Hold.arEnd {v : Int → Sec} {L : List Jo.Gr} (h : Hold v L) (hs : ∀ i, Jo.Sct (v i)) : arEnd v 300 = 2 + sumN L ∧ arSt v 300 = 2 := by
  have e : arSt v 300 = 2 := by unfold arSt; rw [h.best]; simp
  exact ⟨by unfold Go.Proofs.Ytfmkgflhgapeoab.arEnd; rw [e, h.grps hs], e⟩
theorem Hold.zero : Hold (fun _ => zsec) [] := ⟨rfl, rfl, (fun g hg => absurd hg (by simp)), (by simp [sumN]), rfl, (fun p _ _ => by show zsec.getD 0 0 ≠ 67; decide)⟩
theorem Hold.added {v : Int → Sec} {L : List Jo.Gr} (h : Hold v L) (hs : ∀ i, Jo.Sct (v i)) {g : Jo.Gr} (ho : Jo.okG g = true) (hr : sumN L + Jo.needF g ≤ 149) : Hold (added v 300 g) (L ++ [g]) := by
  have h1 := h.add ho hr
  unfold Go.Proofs.Ytfmkgflhgapeoab.added
  rw [(h.arEnd hs).1, h.best, h.grps hs]
  exact h1
/-- What is on a disk behind a Torn of an Append. -/
def tornA (v : Int → Sec) (N : Nat) (g : Jo.Gr) (st : Int) (zs : List Int) : Int → Sec :=
  if st = 0 then fun i => if i ∈ zs then updO v (arEnd v N) ((Jo.laid g (best v 2).2 ((grps v N).length + 1)).take (Jo.needF g - 1)) i else v i
  else fun i => if i ∈ zs then Go.Proofs.Ytfmkgflhgapeoab.added v N g i else updO v (arEnd v N) ((Jo.laid g (best v 2).2 ((grps v N).length + 1)).take (Jo.needF g - 1)) i
theorem updO_front {v : Int → Sec} {L : List Jo.Gr} (h : Hold v L) {g : Jo.Gr} (ho : Jo.okG g = true) : (∀ p : Nat, p < 2 + sumN L → updO v (2 + sumN L) ((Jo.laid g 0 (L.length + 1)).take (Jo.needF g - 1)) (p : Int) = v (p : Int)) ∧ ∀ p : Nat, 2 + sumN L ≤ p → p < 151 → (updO v (2 + sumN L) ((Jo.laid g 0 (L.length + 1)).take (Jo.needF g - 1)) (p : Int)).getD 0 0 ≠ 67 := by
  refine ⟨fun p hp => by rw [updO_at, if_neg (by omega)], fun p hp hp2 => ?_⟩
  rw [updO_at]
  by_cases hc : 2 + sumN L ≤ p ∧ p < 2 + sumN L + ((Jo.laid g 0 (L.length + 1)).take (Jo.needF g - 1)).length
  · rw [if_pos hc]
    refine laid_front ho (t := 0) (n := L.length + 1) ?_
    have hi : p - (2 + sumN L) < ((Jo.laid g 0 (L.length + 1)).take (Jo.needF g - 1)).length := by omega
    rw [List.getD, List.getElem?_eq_getElem hi]
    exact List.getElem_mem hi
  · rw [if_neg hc]; exact h.no p hp hp2
theorem Hold.torn {v : Int → Sec} {L : List Jo.Gr} (h : Hold v L) (hs : ∀ i, Jo.Sct (v i)) {g : Jo.Gr} (ho : Jo.okG g = true) (hr : sumN L + Jo.needF g ≤ 149) (st : Int) (zs : List Int) : Hold (tornA v 300 g st zs) L ∨ Hold (tornA v 300 g st zs) (L ++ [g]) := by
  obtain ⟨f1, f2⟩ := updO_front h ho
  have hn : Jo.needF g = (Jo.needF g - 1) + 1 := by have := Jo.need_ok ho; unfold Jo.secsOf at this; omega
  have hl : (Jo.laid g 0 (L.length + 1)).length = Jo.needF g := by rw [Jo.laid_len, Jo.need_ok ho]
  unfold tornA
  have ha : Go.Proofs.Ytfmkgflhgapeoab.added v 300 g = updO v (2 + sumN L) (Jo.laid g 0 (L.length + 1)) := by unfold Go.Proofs.Ytfmkgflhgapeoab.added; rw [(h.arEnd hs).1, h.best, h.grps hs]
  rw [ha, (h.arEnd hs).1, h.best, h.grps hs]
  simp only
  by_cases h0 : st = 0
  · rw [if_pos h0]
    refine .inl (h.keep (fun p hp => ?_) fun p hp hp2 => ?_)
    · split
      · exact f1 p hp
      · rfl
    · split
      · exact f2 p hp hp2
      · exact h.no p hp hp2
  · rw [if_neg h0]
    have same : ∀ p : Nat, p ≠ 2 + sumN L + (Jo.needF g - 1) → updO v (2 + sumN L) (Jo.laid g 0 (L.length + 1)) (p : Int) = updO v (2 + sumN L) ((Jo.laid g 0 (L.length + 1)).take (Jo.needF g - 1)) (p : Int) := fun p hp => by
      have hlt : ((Jo.laid g 0 (L.length + 1)).take (Jo.needF g - 1)).length = Jo.needF g - 1 := by rw [List.length_take]; omega
      rw [updO_at, updO_at, hl, hlt]
      by_cases hc : 2 + sumN L ≤ p ∧ p < 2 + sumN L + (Jo.needF g - 1)
      · rw [if_pos (by omega), if_pos hc, List.getD, List.getD, List.getElem?_take, if_pos (by omega)]
      · rw [if_neg (by omega), if_neg hc]
    by_cases hm : ((2 + sumN L + (Jo.needF g - 1) : Nat) : Int) ∈ zs
    · have hA := h.add ho hr
      refine .inr ⟨?_, ?_, hA.ok, hA.le, ?_, fun p hp hp2 => ?_⟩
      · have := same 0 (by omega)
        rw [← hA.z0]
        split
        · rfl
        · exact this.symm
      · have := same 1 (by omega)
        rw [← hA.z1]
        split
        · rfl
        · exact this.symm
      · rw [← hA.run]
        refine secs_congr fun i hi => ?_
        by_cases hp : 2 + i = 2 + sumN L + (Jo.needF g - 1)
        · rw [hp, if_pos hm]
        · split
          · rfl
          · exact (same _ hp).symm
      · have hp' := hp
        rw [sumN_snoc] at hp
        have := hA.no p hp' hp2
        rw [same p (by omega)] at this
        split
        · rw [same p (by omega)]; exact this
        · exact this
    · refine .inl (h.keep (fun p hp => ?_) fun p hp hp2 => ?_)
      · split
        · rw [same p (by omega)]; exact f1 p hp
        · exact f1 p hp
      · split
        · rename_i hz
          rw [same p (fun e => hm (e ▸ hz))]; exact f2 p hp hp2
        · exact f2 p hp hp2
theorem need_one (t : List Int) (ht : t.length ≤ 100) : Jo.okG [t] = true ∧ Jo.needF [t] ≤ 6 := by
  have ho : Jo.okG [t] = true := Jo.ok_iff.2 ⟨by simp, by simp, fun p hp => by rw [List.mem_singleton.1 hp]; omega⟩
  refine ⟨ho, ?_⟩
  rw [Jo.need_ok ho, Jo.load_cons]
  simp [Jo.loadF, Jo.le4_len, Jo.secsOf, Jo.many]
  omega
end Go.Proofs.Ytfmkgflhgapeoab
namespace Go.Proofs.Ytfmkgflhgapeoab
open Go.RowKit
set_option linter.unusedVariables false
set_option linter.unusedSimpArgs false
theorem last_turn {t : Int} (n : Int) (h : 0 ≤ t ∧ t < 4294967296) : Fr.at4 (Jo.lastS t n) 1 = t := Fr.num4_le4 t h.1 h.2
theorem last_num (t : Int) {n : Int} (h : 0 ≤ n ∧ n < 4294967296) : Fr.at4 (Jo.lastS t n) 5 = n := Fr.num4_le4 n h.1 h.2
/-- A disk of N sectors holds the groups L, of turn t, in area k. -/
structure Held (v : Int → Sec) (N k : Nat) (t : Int) (L : List Jo.Gr) : Prop where
  k1 : k ≤ 1
  t0 : 0 ≤ t ∧ t < 4294967296
  bst : best v 2 = (k, t)
  ok : ∀ g ∈ L, Jo.okG g = true
  le : sumN L ≤ asz N
  few : N ≤ 2048
  run : secs v (2 + k * asz N) (sumN L) = runL t 1 L
  no : ∀ p : Nat, 2 + k * asz N + sumN L ≤ p → p < 2 + k * asz N + asz N → (v (p : Int)).getD 0 0 = 67 → Fr.at4 (v (p : Int)) 1 = t → Fr.at4 (v (p : Int)) 5 ≤ L.length
  old : ∀ p : Nat, 2 + k * asz N ≤ p → p < 2 + k * asz N + asz N → (v (p : Int)).getD 0 0 = 67 → Fr.at4 (v (p : Int)) 1 ≤ t
  oth : ∀ p : Nat, 2 + (1 - k) * asz N ≤ p → p < 2 + (1 - k) * asz N + asz N → (v (p : Int)).getD 0 0 = 67 → Fr.at4 (v (p : Int)) 1 ≤ t ∨ (Fr.at4 (v (p : Int)) 1 = t + 1 ∧ Fr.at4 (v (p : Int)) 5 ≤ 1)
theorem len_sum {L : List Jo.Gr} (hk : ∀ g ∈ L, Jo.okG g = true) : L.length ≤ sumN L := by
  induction L with
  | nil => simp
  | cons a L ih =>
    have e : sumN (a :: L) = Jo.needF a + sumN L := by unfold sumN; simp
    have := ih fun g hg => hk g (by simp [hg])
    have h2 := Jo.need_ok (hk a (by simp))
    unfold Jo.secsOf at h2
    rw [e, List.length_cons]; omega
theorem Held.len {v : Int → Sec} {N k : Nat} {t : Int} {L : List Jo.Gr} (h : Held v N k t L) : L.length ≤ 1023 := by
  have h1 := len_sum h.ok
  have h2 := h.le
  have h3 := h.few
  unfold asz at h2
  omega
theorem Held.grps {v : Int → Sec} {N k : Nat} {t : Int} {L : List Jo.Gr} (h : Held v N k t L) (hs : ∀ i, Jo.Sct (v i)) : grps v N = L := by
  have hlen := h.len
  unfold Go.Proofs.Ytfmkgflhgapeoab.grps allG
  rw [h.bst]
  simp only
  have e : secs v (2 + k * asz N) (asz N) = runL t 1 L ++ secs v (2 + k * asz N + sumN L) (asz N - sumN L) := by
    rw [← h.run, ← secs_add]
    congr 1
    have := h.le; omega
  rw [e]
  refine groupsF_run t _ L 1 _ h.ok ?_ ?_
  · cases hr : Jo.readF t (1 + (L.length : Int)) (secs v (2 + k * asz N + sumN L) (asz N - sumN L)) with
    | none => rfl
    | some g =>
      exfalso
      obtain ⟨⟨_, r, hr2⟩, _⟩ := Jo.of_read hr (secs_sct hs _ _)
      have hm : Jo.lastS t (1 + (L.length : Int)) ∈ secs v (2 + k * asz N + sumN L) (asz N - sumN L) := by rw [hr2]; unfold Jo.laid; simp
      unfold secs at hm
      obtain ⟨i, hi, he⟩ := List.mem_map.1 hm
      have hi := List.mem_range.1 hi
      have hle := h.le
      have := h.no (2 + k * asz N + sumN L + i) (by omega) (by omega) (by rw [he]; rfl) (by rw [he]; exact last_turn _ h.t0)
      rw [he, last_num _ (by omega)] at this
      omega
  · rw [List.length_append, runL_len t L 1 h.ok]
    have := len_sum h.ok
    omega
theorem Held.ar {v : Int → Sec} {N k : Nat} {t : Int} {L : List Jo.Gr} (h : Held v N k t L) (hs : ∀ i, Jo.Sct (v i)) : arSt v N = 2 + k * asz N ∧ arEnd v N = 2 + k * asz N + sumN L ∧ otSt v N = 2 + (1 - k) * asz N := by
  have e : arSt v N = 2 + k * asz N := by unfold arSt; rw [h.bst]
  exact ⟨e, by unfold arEnd; rw [e, h.grps hs], by unfold otSt; rw [h.bst]⟩
theorem best_eq (v : Int → Sec) : best v 2 = if (if (0 : Int) < Jo.turnOf (v 0) then Jo.turnOf (v 0) else 0) < Jo.turnOf (v 1) then (1, Jo.turnOf (v 1)) else (0, if (0 : Int) < Jo.turnOf (v 0) then Jo.turnOf (v 0) else 0) := by
  show (if (if (0 : Int) < Jo.turnOf (v 0) then ((0 : Nat), Jo.turnOf (v 0)) else (0, 0)).2 < Jo.turnOf (v 1) then (1, Jo.turnOf (v 1)) else (if (0 : Int) < Jo.turnOf (v 0) then ((0 : Nat), Jo.turnOf (v 0)) else (0, 0))) = _
  by_cases h : (0 : Int) < Jo.turnOf (v 0)
  · simp only [if_pos h]
  · simp only [if_neg h]
theorem best_cong {v v' : Int → Sec} (h0 : v' 0 = v 0) (h1 : v' 1 = v 1) : best v' 2 = best v 2 := by rw [best_eq, best_eq, h0, h1]
theorem best_le {v : Int → Sec} {k : Nat} {t : Int} (h : best v 2 = (k, t)) : Jo.turnOf (v 0) ≤ t ∧ Jo.turnOf (v 1) ≤ t ∧ k ≤ 1 := by
  rw [best_eq] at h
  by_cases h0 : (0 : Int) < Jo.turnOf (v 0)
  · simp only [if_pos h0] at h
    by_cases h1 : Jo.turnOf (v 0) < Jo.turnOf (v 1)
    · rw [if_pos h1] at h; injection h with h2 h3; omega
    · rw [if_neg h1] at h; injection h with h2 h3; omega
  · simp only [if_neg h0] at h
    by_cases h1 : 0 < Jo.turnOf (v 1)
    · rw [if_pos h1] at h; injection h with h2 h3; omega
    · rw [if_neg h1] at h; injection h with h2 h3; omega
/-- The two areas lie apart. -/
theorem apart {N k p : Nat} (hk : k ≤ 1) (h1 : 2 + k * asz N ≤ p) (h2 : p < 2 + k * asz N + asz N) : ¬ (2 + (1 - k) * asz N ≤ p ∧ p < 2 + (1 - k) * asz N + asz N) := by
  rcases (by omega : k = 0 ∨ k = 1) with rfl | rfl <;> simp only [Nat.zero_mul, Nat.one_mul, Nat.sub_zero, Nat.sub_self] at * <;> omega
/-- Where nothing of what is held is turned, and no last sector is laid. -/
theorem Held.keep {v v' : Int → Sec} {N k : Nat} {t : Int} {L : List Jo.Gr} (h : Held v N k t L) (h0 : v' 0 = v 0) (h1 : v' 1 = v 1)
    (ha : ∀ p : Nat, 2 + k * asz N ≤ p → p < 2 + k * asz N + sumN L → v' (p : Int) = v (p : Int))
    (hb : ∀ p : Nat, 2 + k * asz N + sumN L ≤ p → p < 2 + k * asz N + asz N → v' (p : Int) = v (p : Int) ∨ (v' (p : Int)).getD 0 0 ≠ 67)
    (hc : ∀ p : Nat, 2 + (1 - k) * asz N ≤ p → p < 2 + (1 - k) * asz N + asz N → v' (p : Int) = v (p : Int) ∨ (v' (p : Int)).getD 0 0 ≠ 67 ∨ v' (p : Int) = Jo.lastS (t + 1) 1) (ht : t ≠ 4294967295 ∨ ∀ p : Nat, 2 + (1 - k) * asz N ≤ p → p < 2 + (1 - k) * asz N + asz N → v' (p : Int) = v (p : Int)) : Held v' N k t L := by
  refine ⟨h.k1, h.t0, by rw [best_cong h0 h1]; exact h.bst, h.ok, h.le, h.few, ?_, ?_, ?_, ?_⟩
  · rw [← h.run]; exact secs_congr fun i hi => ha _ (by omega) (by omega)
  · intro p hp hp2 hm
    rcases hb p hp hp2 with e | e
    · rw [e] at hm ⊢; exact h.no p hp hp2 hm
    · exact absurd hm e
  · intro p hp hp2 hm
    by_cases hlt : p < 2 + k * asz N + sumN L
    · rw [ha p hp hlt] at hm ⊢; exact h.old p hp hp2 hm
    · rcases hb p (by omega) hp2 with e | e
      · rw [e] at hm ⊢; exact h.old p hp hp2 hm
      · exact absurd hm e
  · intro p hp hp2 hm
    rcases ht with ht | ht
    · rcases hc p hp hp2 with e | e | e
      · rw [e] at hm ⊢; exact h.oth p hp hp2 hm
      · exact absurd hm e
      · have := h.t0
        rw [e, last_turn _ (by omega), last_num _ (by omega)]; omega
    · rw [ht p hp hp2] at hm ⊢; exact h.oth p hp hp2 hm
theorem Held.cong {v v' : Int → Sec} {N k : Nat} {t : Int} {L : List Jo.Gr} (h : Held v N k t L) (hN : 8 ≤ N) (he : ∀ p : Nat, p < N → v' (p : Int) = v (p : Int)) : Held v' N k t L := by
  have hz : 2 + k * asz N + asz N ≤ N ∧ 2 + (1 - k) * asz N + asz N ≤ N := by
    have h2 : 2 * asz N + 2 ≤ N := by unfold asz; omega
    have hk := h.k1
    rcases (by omega : k = 0 ∨ k = 1) with rfl | rfl <;> simp only [Nat.zero_mul, Nat.one_mul, Nat.sub_zero, Nat.sub_self] <;> omega
  have hle := h.le
  refine h.keep (he 0 (by omega)) (he 1 (by omega)) (fun p _ hp => he p (by omega)) (fun p _ hp => .inl (he p (by omega))) (fun p _ hp => .inl (he p (by omega))) (.inr fun p _ hp => he p (by omega))
theorem laid_at {g : Jo.Gr} {t n : Int} (ho : Jo.okG g = true) (i : Nat) (hi : i < Jo.needF g) : ((Jo.laid g t n).getD i []).getD 0 0 ≠ 67 ∨ ((Jo.laid g t n).getD i [] = Jo.lastS t n ∧ i = Jo.needF g - 1) := by
  have hl : (Jo.laid g t n).length = Jo.needF g := by rw [Jo.laid_len, Jo.need_ok ho]
  by_cases hlt : i < Jo.needF g - 1
  · refine .inl (laid_front ho (t := t) (n := n) ?_)
    have hi2 : i < ((Jo.laid g t n).take (Jo.needF g - 1)).length := by rw [List.length_take]; omega
    have e : (Jo.laid g t n).getD i [] = ((Jo.laid g t n).take (Jo.needF g - 1))[i] := by rw [List.getD, List.getElem?_eq_getElem (by omega), List.getElem_take]; rfl
    rw [e]; exact List.getElem_mem hi2
  · have ei : i = Jo.needF g - 1 := by omega
    refine .inr ⟨?_, ei⟩
    have hd : (Jo.dataL (Jo.loadF g) (Jo.many (Jo.loadF g).length)).length = Jo.many (Jo.loadF g).length := by unfold Jo.dataL; simp
    have hn := Jo.need_ok ho
    unfold Jo.secsOf at hn
    rw [ei, hn]
    unfold Jo.laid
    rw [show 2 + Jo.many (Jo.loadF g).length - 1 = Jo.many (Jo.loadF g).length + 1 by omega, List.getD, List.getElem?_cons_succ, List.getElem?_append_right (by omega), hd, Nat.sub_self]; rfl
theorem Held.add {v : Int → Sec} {N k : Nat} {t : Int} {L : List Jo.Gr} (h : Held v N k t L) {g : Jo.Gr} (ho : Jo.okG g = true) (hr : sumN L + Jo.needF g ≤ asz N) : Held (updO v (2 + k * asz N + sumN L) (Jo.laid g t (L.length + 1))) N k t (L ++ [g]) := by
  have hl : (Jo.laid g t (L.length + 1)).length = Jo.needF g := by rw [Jo.laid_len, Jo.need_ok ho]
  have hlen := h.len
  have hk := h.k1
  have hlow : ∀ p : Nat, ¬ (2 + k * asz N + sumN L ≤ p ∧ p < 2 + k * asz N + sumN L + Jo.needF g) → updO v (2 + k * asz N + sumN L) (Jo.laid g t (L.length + 1)) (p : Int) = v (p : Int) := fun p hp => by rw [updO_at, if_neg (by omega)]
  refine ⟨hk, h.t0, ?_, ?_, ?_, h.few, ?_, ?_, ?_, ?_⟩
  · rw [best_cong (hlow 0 (by omega)) (hlow 1 (by omega))]; exact h.bst
  · intro a ha
    rcases List.mem_append.1 ha with ha | ha
    · exact h.ok a ha
    · rw [List.mem_singleton.1 ha]; exact ho
  · rw [sumN_snoc]; exact hr
  · rw [sumN_snoc, secs_add, runL_snoc, ← hl, secs_upd]
    congr 1
    · rw [← h.run]; exact secs_congr fun i hi => hlow _ (by omega)
    · congr 1; omega
  · intro p hp hp2 hm ht
    rw [sumN_snoc] at hp
    rw [hlow p (by omega)] at hm ht ⊢
    have := h.no p (by omega) hp2 hm ht
    simp; omega
  · intro p hp hp2 hm
    by_cases hc : 2 + k * asz N + sumN L ≤ p ∧ p < 2 + k * asz N + sumN L + Jo.needF g
    · rw [updO_at, if_pos (by omega)] at hm ⊢
      rcases laid_at (t := t) (n := L.length + 1) ho (p - (2 + k * asz N + sumN L)) (by omega) with e | ⟨e, _⟩
      · exact absurd hm e
      · rw [e, last_turn _ h.t0]; omega
    · rw [hlow p hc] at hm ⊢; exact h.old p hp hp2 hm
  · intro p hp hp2 hm
    have hap := apart (N := N) (k := 1 - k) (p := p) (by omega) hp hp2
    rw [show 1 - (1 - k) = k by omega] at hap
    rw [hlow p (by omega)] at hm ⊢
    exact h.oth p hp hp2 hm
theorem Held.added {v : Int → Sec} {N k : Nat} {t : Int} {L : List Jo.Gr} (h : Held v N k t L) (hs : ∀ i, Jo.Sct (v i)) {g : Jo.Gr} (ho : Jo.okG g = true) (hr : sumN L + Jo.needF g ≤ asz N) : Held (added v N g) N k t (L ++ [g]) := by
  have h1 := h.add ho hr
  unfold Go.Proofs.Ytfmkgflhgapeoab.added
  rw [(h.ar hs).2.1, h.bst, h.grps hs]
  exact h1
theorem best_other {v v' : Int → Sec} {k : Nat} {t : Int} (h : best v 2 = (k, t)) (ht : 0 ≤ t) (ht2 : t + 1 < 4294967296) (hk : v' (k : Int) = v (k : Int)) (hn : v' ((1 - k : Nat) : Int) = Jo.headS (t + 1)) : best v' 2 = (1 - k, t + 1) := by
  obtain ⟨b0, b1, bk⟩ := best_le h
  have hT : Jo.turnOf (Jo.headS (t + 1)) = t + 1 := Jo.turnOf_head (by omega) (by omega)
  rw [best_eq]
  rcases (by omega : k = 0 ∨ k = 1) with rfl | rfl
  · have e0 : v' 0 = v 0 := hk
    have e1 : v' 1 = Jo.headS (t + 1) := hn
    rw [e0, e1, hT, if_pos]
    split <;> omega
  · have e0 : v' 0 = Jo.headS (t + 1) := hn
    have e1 : v' 1 = v 1 := hk
    have h0 : (0 : Int) < t + 1 := by omega
    have h1 : ¬ t + 1 < Jo.turnOf (v 1) := by omega
    simp only [e0, e1, hT, if_pos h0, if_neg h1]
theorem Held.set {v v' : Int → Sec} {N k : Nat} {t : Int} {L : List Jo.Gr} (h : Held v N k t L) (hN : 8 ≤ N) (ht : t ≠ 4294967295) {g : Jo.Gr} (ho : Jo.okG g = true) (hr : Jo.needF g ≤ asz N)
    (hk : v' (k : Int) = v (k : Int)) (hn : v' ((1 - k : Nat) : Int) = Jo.headS (t + 1)) (ha : ∀ p : Nat, 2 ≤ p → p < N → v' (p : Int) = updO v (2 + (1 - k) * asz N) (Jo.laid g (t + 1) 1) (p : Int)) : Held v' N (1 - k) (t + 1) [g] := by
  have hl : (Jo.laid g (t + 1) 1).length = Jo.needF g := by rw [Jo.laid_len, Jo.need_ok ho]
  have hkk := h.k1
  have ht0 := h.t0
  have hz : 2 + k * asz N + asz N ≤ N ∧ 2 + (1 - k) * asz N + asz N ≤ N := by
    have h2 : 2 * asz N + 2 ≤ N := by unfold asz; omega
    rcases (by omega : k = 0 ∨ k = 1) with rfl | rfl <;> simp only [Nat.zero_mul, Nat.one_mul, Nat.sub_zero, Nat.sub_self] <;> omega
  have es : sumN [g] = Jo.needF g := by unfold sumN; simp
  have e1 : 1 - (1 - k) = k := by omega
  refine ⟨by omega, by omega, best_other h.bst ht0.1 (by omega) hk hn, ?_, by rw [es]; exact hr, h.few, ?_, ?_, ?_, ?_⟩
  · intro a ha; rw [List.mem_singleton.1 ha]; exact ho
  · rw [es]
    have e2 : secs v' (2 + (1 - k) * asz N) (Jo.needF g) = secs (updO v (2 + (1 - k) * asz N) (Jo.laid g (t + 1) 1)) (2 + (1 - k) * asz N) (Jo.needF g) := secs_congr fun i hi => ha _ (by omega) (by omega)
    rw [e2, ← hl, secs_upd]
    simp [runL]
  · intro p hp hp2 hm htt
    rw [es] at hp
    rw [ha p (by omega) (by omega), updO_at, if_neg (by omega)] at hm htt ⊢
    rcases h.oth p (by omega) hp2 hm with e | e
    · omega
    · simp; omega
  · intro p hp hp2 hm
    rw [ha p (by omega) (by omega), updO_at] at hm ⊢
    by_cases hc : 2 + (1 - k) * asz N ≤ p ∧ p < 2 + (1 - k) * asz N + (Jo.laid g (t + 1) 1).length
    · rw [if_pos hc] at hm ⊢
      rcases laid_at (t := t + 1) (n := 1) ho (p - (2 + (1 - k) * asz N)) (by omega) with e | ⟨e, _⟩
      · exact absurd hm e
      · rw [e, last_turn _ (by omega)]; omega
    · rw [if_neg hc] at hm ⊢
      have := h.oth p hp hp2 hm
      omega
  · rw [e1]
    intro p hp hp2 hm
    have hap := apart (N := N) (k := k) (p := p) hkk hp hp2
    rw [ha p (by omega) (by omega), updO_at, if_neg (by omega)] at hm ⊢
    have := h.old p hp hp2 hm
    omega
theorem Held.setTo {v : Int → Sec} {N k : Nat} {t : Int} {L : List Jo.Gr} (h : Held v N k t L) (hN : 8 ≤ N) (hs : ∀ i, Jo.Sct (v i)) (ht : t ≠ 4294967295) {g : Jo.Gr} (ho : Jo.okG g = true) (hr : Jo.needF g ≤ asz N) : Held (setTo v N g) N (1 - k) (t + 1) [g] := by
  have hkk := h.k1
  unfold Go.Proofs.Ytfmkgflhgapeoab.setTo
  rw [(h.ar hs).2.2, h.bst]
  simp only
  refine h.set hN ht ho hr ?_ ?_ fun p hp hp2 => ?_
  · rw [updO_at, if_neg (by simp; omega), updO_at, if_neg (by omega)]
  · rw [updO_at, if_pos (by simp)]; simp [List.getD]
  · rw [updO_at, if_neg (by simp; omega)]
/-- Behind a Torn of an Append. -/
theorem Held.tornA {v : Int → Sec} {N k : Nat} {t : Int} {L : List Jo.Gr} (h : Held v N k t L) (hN : 8 ≤ N) (hs : ∀ i, Jo.Sct (v i)) {g : Jo.Gr} (ho : Jo.okG g = true) (hr : sumN L + Jo.needF g ≤ asz N) (st : Int) (zs : List Int) :
    Held (tornF st zs v (updO v (arEnd v N) ((Jo.laid g (best v 2).2 ((Go.Proofs.Ytfmkgflhgapeoab.grps v N).length + 1)).take (Jo.needF g - 1))) (Go.Proofs.Ytfmkgflhgapeoab.added v N g)) N k t L ∨ Held (tornF st zs v (updO v (arEnd v N) ((Jo.laid g (best v 2).2 ((Go.Proofs.Ytfmkgflhgapeoab.grps v N).length + 1)).take (Jo.needF g - 1))) (Go.Proofs.Ytfmkgflhgapeoab.added v N g)) N k t (L ++ [g]) := by
  have hA := h.added hs ho hr
  have hn : 2 ≤ Jo.needF g := by have := Jo.need_ok ho; unfold Jo.secsOf at this; omega
  have hl : (Jo.laid g t (L.length + 1)).length = Jo.needF g := by rw [Jo.laid_len, Jo.need_ok ho]
  have hlt : ((Jo.laid g t (L.length + 1)).take (Jo.needF g - 1)).length = Jo.needF g - 1 := by rw [List.length_take]; omega
  have hkk := h.k1
  have ha : Go.Proofs.Ytfmkgflhgapeoab.added v N g = updO v (2 + k * asz N + sumN L) (Jo.laid g t (L.length + 1)) := by unfold Go.Proofs.Ytfmkgflhgapeoab.added; rw [(h.ar hs).2.1, h.bst, h.grps hs]
  rw [(h.ar hs).2.1, h.bst, h.grps hs]
  simp only
  obtain ⟨f, hf⟩ : ∃ f, f = updO v (2 + k * asz N + sumN L) ((Jo.laid g t (L.length + 1)).take (Jo.needF g - 1)) := ⟨_, rfl⟩
  rw [← hf]
  have f1 : ∀ p : Nat, ¬ (2 + k * asz N + sumN L ≤ p ∧ p < 2 + k * asz N + sumN L + (Jo.needF g - 1)) → f (p : Int) = v (p : Int) := fun p hp => by rw [hf, updO_at, if_neg (by omega)]
  have f2 : ∀ p : Nat, 2 + k * asz N + sumN L ≤ p → f (p : Int) = v (p : Int) ∨ (f (p : Int)).getD 0 0 ≠ 67 := fun p hp => by
    by_cases hc : p < 2 + k * asz N + sumN L + (Jo.needF g - 1)
    · right
      rw [hf, updO_at, if_pos (by omega)]
      refine laid_front ho (t := t) (n := L.length + 1) ?_
      rw [List.getD, List.getElem?_eq_getElem (by omega)]
      exact List.getElem_mem _
    · exact .inl (f1 p (by omega))
  have f3 : ∀ p : Nat, p ≠ 2 + k * asz N + sumN L + (Jo.needF g - 1) → Go.Proofs.Ytfmkgflhgapeoab.added v N g (p : Int) = f (p : Int) := fun p hp => by
    rw [ha, hf, updO_at, updO_at, hl, hlt]
    by_cases hc : 2 + k * asz N + sumN L ≤ p ∧ p < 2 + k * asz N + sumN L + (Jo.needF g - 1)
    · rw [if_pos (by omega), if_pos hc, List.getD, List.getD, List.getElem?_take, if_pos (by omega)]
    · rw [if_neg (by omega), if_neg hc]
  have other : ∀ p : Nat, 2 + (1 - k) * asz N ≤ p → p < 2 + (1 - k) * asz N + asz N → f (p : Int) = v (p : Int) := fun p hp hp2 => by
    have hap := apart (N := N) (k := 1 - k) (p := p) (by omega) hp hp2
    rw [show 1 - (1 - k) = k by omega] at hap
    exact f1 p (by omega)
  have key : ∀ u : Int → Sec, (∀ p : Nat, u (p : Int) = v (p : Int) ∨ u (p : Int) = f (p : Int)) → Held u N k t L := fun u hu => by
    have g1 : ∀ p : Nat, f (p : Int) = v (p : Int) → u (p : Int) = v (p : Int) := fun p e => by rcases hu p with h | h; exact h; rw [h, e]
    exact h.keep (g1 0 (f1 0 (by omega))) (g1 1 (f1 1 (by omega))) (fun p hp hp2 => g1 p (f1 p (by omega))) (fun p hp hp2 => by
      rcases hu p with e | e
      · exact .inl e
      · rw [e]; exact f2 p hp) (fun p hp hp2 => .inl (g1 p (other p hp hp2))) (.inr fun p hp hp2 => g1 p (other p hp hp2))
  unfold tornF
  by_cases h0 : st = 0
  · rw [if_pos h0]
    refine .inl (key _ fun p => ?_)
    show (if (p : Int) ∈ zs then _ else _) = _ ∨ (if (p : Int) ∈ zs then _ else _) = _
    split
    · exact .inr rfl
    · exact .inl rfl
  · rw [if_neg h0]
    by_cases hm : ((2 + k * asz N + sumN L + (Jo.needF g - 1) : Nat) : Int) ∈ zs
    · refine .inr (hA.cong hN fun p _ => ?_)
      show (if (p : Int) ∈ zs then _ else _) = _
      by_cases hp : p = 2 + k * asz N + sumN L + (Jo.needF g - 1)
      · rw [hp, if_pos hm]
      · split
        · rfl
        · exact (f3 p hp).symm
    · refine .inl (key _ fun p => ?_)
      show (if (p : Int) ∈ zs then _ else _) = _ ∨ (if (p : Int) ∈ zs then _ else _) = _
      by_cases hp : p = 2 + k * asz N + sumN L + (Jo.needF g - 1)
      · rw [hp, if_neg hm]; exact .inr rfl
      · rw [f3 p hp]; simp
/-- Behind a Torn of a Reset. -/
theorem Held.tornR {v : Int → Sec} {N k : Nat} {t : Int} {L : List Jo.Gr} (h : Held v N k t L) (hN : 8 ≤ N) (hs : ∀ i, Jo.Sct (v i)) (ht : t ≠ 4294967295) {g : Jo.Gr} (ho : Jo.okG g = true) (hr : Jo.needF g ≤ asz N) (st : Int) (zs : List Int) :
    Held (tornF st zs v (updO v (otSt v N) (Jo.laid g ((best v 2).2 + 1) 1)) (Go.Proofs.Ytfmkgflhgapeoab.setTo v N g)) N k t L ∨ Held (tornF st zs v (updO v (otSt v N) (Jo.laid g ((best v 2).2 + 1) 1)) (Go.Proofs.Ytfmkgflhgapeoab.setTo v N g)) N (1 - k) (t + 1) [g] := by
  have hA := h.setTo hN hs ht ho hr
  have hl : (Jo.laid g (t + 1) 1).length = Jo.needF g := by rw [Jo.laid_len, Jo.need_ok ho]
  have hkk := h.k1
  have ha : Go.Proofs.Ytfmkgflhgapeoab.setTo v N g = updO (updO v (2 + (1 - k) * asz N) (Jo.laid g (t + 1) 1)) (1 - k) [Jo.headS (t + 1)] := by unfold Go.Proofs.Ytfmkgflhgapeoab.setTo; rw [(h.ar hs).2.2, h.bst]
  rw [(h.ar hs).2.2, h.bst]
  simp only
  obtain ⟨f, hf⟩ : ∃ f, f = updO v (2 + (1 - k) * asz N) (Jo.laid g (t + 1) 1) := ⟨_, rfl⟩
  rw [← hf] at ha ⊢
  have f1 : ∀ p : Nat, ¬ (2 + (1 - k) * asz N ≤ p ∧ p < 2 + (1 - k) * asz N + Jo.needF g) → f (p : Int) = v (p : Int) := fun p hp => by rw [hf, updO_at, if_neg (by omega)]
  have f2 : ∀ p : Nat, 2 + (1 - k) * asz N ≤ p → f (p : Int) = v (p : Int) ∨ (f (p : Int)).getD 0 0 ≠ 67 ∨ f (p : Int) = Jo.lastS (t + 1) 1 := fun p hp => by
    by_cases hc : p < 2 + (1 - k) * asz N + Jo.needF g
    · right
      rw [hf, updO_at, if_pos (by omega)]
      rcases laid_at (t := t + 1) (n := 1) ho (p - (2 + (1 - k) * asz N)) (by omega) with e | ⟨e, _⟩
      · exact .inl e
      · exact .inr e
    · exact .inl (f1 p (by omega))
  have f3 : ∀ p : Nat, p ≠ 1 - k → Go.Proofs.Ytfmkgflhgapeoab.setTo v N g (p : Int) = f (p : Int) := fun p hp => by
    rw [ha, updO_at, if_neg (by simp; omega)]
  have area : ∀ p : Nat, 2 + k * asz N ≤ p → p < 2 + k * asz N + asz N → f (p : Int) = v (p : Int) := fun p hp hp2 => by
    have hap := apart (N := N) (k := k) (p := p) hkk hp hp2
    exact f1 p (by omega)
  have key : ∀ u : Int → Sec, (∀ p : Nat, u (p : Int) = v (p : Int) ∨ u (p : Int) = f (p : Int)) → Held u N k t L := fun u hu => by
    have g1 : ∀ p : Nat, f (p : Int) = v (p : Int) → u (p : Int) = v (p : Int) := fun p e => by rcases hu p with h | h; exact h; rw [h, e]
    have hle := h.le
    exact h.keep (g1 0 (f1 0 (by omega))) (g1 1 (f1 1 (by omega))) (fun p hp hp2 => g1 p (area p hp (by omega))) (fun p hp hp2 => .inl (g1 p (area p (by omega) hp2))) (fun p hp hp2 => by
      rcases hu p with e | e
      · exact .inl e
      · rw [e]; exact f2 p hp) (.inl ht)
  unfold tornF
  by_cases h0 : st = 0
  · rw [if_pos h0]
    refine .inl (key _ fun p => ?_)
    show (if (p : Int) ∈ zs then _ else _) = _ ∨ (if (p : Int) ∈ zs then _ else _) = _
    split
    · exact .inr rfl
    · exact .inl rfl
  · rw [if_neg h0]
    by_cases hm : ((1 - k : Nat) : Int) ∈ zs
    · refine .inr (hA.cong hN fun p _ => ?_)
      show (if (p : Int) ∈ zs then _ else _) = _
      by_cases hp : p = 1 - k
      · rw [hp, if_pos hm]
      · split
        · rfl
        · exact (f3 p hp).symm
    · refine .inl (key _ fun p => ?_)
      show (if (p : Int) ∈ zs then _ else _) = _ ∨ (if (p : Int) ∈ zs then _ else _) = _
      by_cases hp : p = 1 - k
      · rw [hp, if_neg hm]; exact .inr rfl
      · rw [f3 p hp]; simp
theorem Held.zero (N : Nat) (h8 : 8 ≤ N) (hN : N ≤ 2048) : Held (fun _ => zsec) N 0 0 [] := by
  have hb : best (fun _ => zsec) 2 = (0, 0) := by simp [best, turn_zero]
  have hm : ¬ zsec.getD 0 0 = 67 := by decide
  exact ⟨by omega, by omega, hb, (fun g hg => absurd hg (by simp)), (by simp [sumN]), hN, rfl, fun p _ _ h => absurd h hm, fun p _ _ h => absurd h hm, fun p _ _ h => absurd h hm⟩
end Go.Proofs.Ytfmkgflhgapeoab
namespace Go.Proofs.Ytfmkgflhgapeoab
open Go.RowKit Go.ChangeShapes Go.WideShapes Go.ChangeAt Go.Maps
set_option linter.unusedVariables false
set_option linter.unusedSimpArgs false
/-- A group with not too many bytes. -/
def fewG (g : Jo.Gr) : Jo.Gr := (g.take 6).map (List.take 300)
theorem fewG_len (g : Jo.Gr) : (fewG g).length = min 6 g.length := by unfold fewG; simp
theorem fewG_at (g : Jo.Gr) (i : Nat) (hi : i < min 6 g.length) : (fewG g).getD i [] = (g.getD i []).take 300 := by
  unfold fewG
  have h1 : i < g.length := by omega
  have h2 : i < 6 := by omega
  simp [List.getD, List.getElem?_take, h1, h2]
/-- What few has gathered so far. -/
def FewI (w : World) (gs : Jo.Gr) (k : Nat) (wr : World) (v : Value) : Prop := ∃ vals : List Value, wr.ownsRow w.heap.size 31 1 v k vals ∧
  ∀ i, i < k → ∃ pa pc, vals[i]? = some (.slice pa (gs.getD i []).length pc) ∧ IsB w pa (gs.getD i []).length (gs.getD i []) ∧ (gs.getD i []).length ≤ pc ∧ (pa = none → pc = 0)
theorem FewI.isG0 {w wr : World} {gs : Jo.Gr} {v : Value} (h : FewI w gs gs.length wr v) (hb : Below w.heap.size w wr) (hm : gs.length ≤ 100000) : ∃ a cap, v = .slice a gs.length cap ∧ IsG0 wr a gs.length gs ∧ gs.length ≤ cap ∧ (a = none → cap = 0) := by
  obtain ⟨vals, h1, h2⟩ := h
  rcases h1.2 with ⟨rfl, hn⟩ | ⟨g, cap, cur, rfl, hg, hbk, hnc, hcm, hcs, ht⟩
  · exact ⟨none, 0, by rw [hn], ⟨rfl, by unfold maxLen; omega, fun hp => by omega⟩, by omega, fun _ => rfl⟩
  · refine ⟨some ⟨g, 0, none⟩, cap, rfl, ⟨rfl, by unfold maxLen; omega, fun hp => ⟨g, 0, rfl, fun i hi => ?_⟩⟩, hnc, fun e => by cases e⟩
    obtain ⟨pa, pc, e1, e2, e3, e4⟩ := h2 i hi
    refine ⟨pa, pc, ?_, e2.later hb, e3, e4⟩
    rw [cell_of_row wr g _ cur 31 (0, 0) hbk]
    have e5 : (cur.toList.take (gs.length * 1))[i]? = vals[i]? := by rw [ht]
    rw [List.getElem?_take, if_pos (by omega)] at e5
    rw [Nat.zero_add, ← Array.getElem?_toList, e5, e1]
set_option maxRecDepth 20000 in
set_option maxHeartbeats 2000000 in
theorem few_c (a : Option Addr) (len cap : Nat) (g : Jo.Gr) (w : World) (h : IsG0 w a len g) (hlc : len ≤ cap) :
    Calls Try.prog 30 #[.slice a len cap] w fun e w' => ∃ ga gc, e = .returned (.slice ga (fewG g).length gc) ∧ IsG0 w' ga (fewG g).length (fewG g) ∧ (fewG g).length ≤ gc ∧ (ga = none → gc = 0) ∧ Below w.heap.size w w' := by
  have HL := hid (fewG_len g)
  have HA := hid (fewG_at g)
  obtain ⟨h1, h2, h3⟩ := h
  rw [h1] at HL HA
  unfold maxLen at h2
  have H3 := hid h3
  obtain ⟨i0, hi, hz0, hz1, hz2⟩ := info54
  clear h3 h1
  obtain ⟨gs, hgs⟩ : ∃ gs, gs = fewG g := ⟨_, rfl⟩
  rw [← hgs] at HL HA ⊢
  clear hgs
  by_cases h6 : 6 < len
  · have h6I : (6 : Int) < len := by omega
    have hc6 : (6 : Int) ≤ cap := by omega
    have hmin : min 6 len = 6 := by omega
    rw [hmin] at HL HA
    go_enter Try.func30, Try.ntmps30
    go_wp2
    go_loopw [3, 4] (fun v i wr => ∃ k : Nat, k ≤ 6 ∧ i = .int .i64 k ∧ FewI w gs k wr v ∧ Below w.heap.size w wr) (fun _ i _ => 6 - (intOf i).toNat)
    case atStart => exact ⟨0, Nat.zero_le _, rfl, ⟨[], World.ownsRow_nil w w.heap.size 31 1, fun i hi => by omega⟩, Below.refl _ _⟩
    case round =>
      obtain ⟨k, hk, rfl, hF, hB⟩ := hrel
      have HF := hid hF
      have HB := hid hB
      clear hF hB
      by_cases hlt : k < 6
      · obtain ⟨b, off, rfl, hc⟩ := H3.out (by omega)
        obtain ⟨pa, pc, c1, c2, c3, c4⟩ := hc k (by omega)
        have c1' := cell_later HB.out c1
        have C2 := hid c2
        have C4 := hid c4
        have HAT := hid (HA.out k hlt)
        generalize hp : g.getD k [] = p at *
        clear hc c1 c2 c4 hp
        have hltI : (k : Int) < (6 : Int) := by omega
        by_cases hbig : 300 < p.length
        · have hbI : (300 : Int) < p.length := by omega
          have hcI : (300 : Int) ≤ pc := by omega
          have HPL : Hid ((gs.getD k []).length = 300) := by show _ = _; rw [HAT.out, List.length_take]; omega
          have HPI : Hid (IsB w pa 300 (gs.getD k [])) := by
            show IsB _ _ _ _
            rw [HAT.out]; exact C2.out.front 300 (by omega)
          obtain ⟨vals, hrow, hall⟩ := HF.out
          have HRW := hid hrow
          have HAL := hid hall
          obtain ⟨va, vc, rfl⟩ := own_shape6 hrow
          clear hrow hall
          go_wp2_with (at_builtin; refine wpList_append_own _ rfl _ _ 22 rfl w.heap.size 31 i0 (.slice none 0 0) 1 24 Try.underlying22 hi hz0 hz1 hz2 rfl (by decide) _ _ _ rfl (HRW.out.alloc _) ⟨wr.heap.size, 0, none⟩ 1 1 [.slice pa 300 pc] rfl rfl (cell_one_new _ _ _) (fun y hy => by simp at hy; subst hy; rfl) (by unfold maxLen; omega) (by omega) (by have := HB.out.size; simp; omega) ?_; intro v9 w9 hown9 hgrow9 hnil9)
          have B9 : Below w.heap.size w w9 := below_grown (HB.out.alloc HB.out.size _) (HRW.out.alloc _) (Nat.le_refl _) (by have := HB.out.size; simp; omega) hgrow9
          obtain ⟨a9, c9, rfl⟩ := own_shape6 hown9
          have hvl : vals.length = k := by simpa using HRW.out.1
          go_roundw
          case rel =>
            refine ⟨k + 1, by omega, by go_num, ⟨vals ++ [.slice pa 300 pc], hown9, fun i hi => ?_⟩, B9⟩
            by_cases hlt2 : i < k
            · obtain ⟨pa', pc', q1, q2⟩ := HAL.out i hlt2
              exact ⟨pa', pc', by rw [List.getElem?_append_left (by omega)]; exact q1, q2⟩
            · have ei : i = k := by omega
              subst ei
              refine ⟨pa, pc, by rw [HPL.out, ← hvl]; simp, by rw [HPL.out]; exact HPI.out, by rw [HPL.out]; omega, C4.out⟩
          case measure => simp [intOf]; omega
        · have hbI : ¬ (300 : Int) < p.length := by omega
          have hpe : p.take 300 = p := List.take_of_length_le (by omega)
          have HPL : Hid ((gs.getD k []).length = p.length) := by show _ = _; rw [HAT.out, hpe]
          have HPI : Hid (IsB w pa p.length (gs.getD k [])) := by
            show IsB _ _ _ _
            rw [HAT.out, hpe]; exact C2.out
          clear hpe
          obtain ⟨vals, hrow, hall⟩ := HF.out
          have HRW := hid hrow
          have HAL := hid hall
          obtain ⟨va, vc, rfl⟩ := own_shape6 hrow
          clear hrow hall
          go_wp2_with (at_builtin; refine wpList_append_own _ rfl _ _ 22 rfl w.heap.size 31 i0 (.slice none 0 0) 1 24 Try.underlying22 hi hz0 hz1 hz2 rfl (by decide) _ _ _ rfl (HRW.out.alloc _) ⟨wr.heap.size, 0, none⟩ 1 1 [.slice pa p.length pc] rfl rfl (cell_one_new _ _ _) (fun y hy => by simp at hy; subst hy; rfl) (by unfold maxLen; omega) (by omega) (by have := HB.out.size; simp; omega) ?_; intro v9 w9 hown9 hgrow9 hnil9)
          have B9 : Below w.heap.size w w9 := below_grown (HB.out.alloc HB.out.size _) (HRW.out.alloc _) (Nat.le_refl _) (by have := HB.out.size; simp; omega) hgrow9
          obtain ⟨a9, c9, rfl⟩ := own_shape6 hown9
          have hvl : vals.length = k := by simpa using HRW.out.1
          go_roundw
          case rel =>
            refine ⟨k + 1, by omega, by go_num, ⟨vals ++ [.slice pa p.length pc], hown9, fun i hi => ?_⟩, B9⟩
            by_cases hlt2 : i < k
            · obtain ⟨pa', pc', q1, q2⟩ := HAL.out i hlt2
              exact ⟨pa', pc', by rw [List.getElem?_append_left (by omega)]; exact q1, q2⟩
            · have ei : i = k := by omega
              subst ei
              refine ⟨pa, pc, by rw [HPL.out, ← hvl]; simp, by rw [HPL.out]; exact HPI.out, by rw [HPL.out]; omega, C4.out⟩
          case measure => simp [intOf]; omega
      · have ek : k = 6 := by omega
        rw [ek] at HF ⊢
        clear ek
        obtain ⟨ga, gc, hv, hG, hgc, hnc⟩ := FewI.isG0 (gs := gs) (by rw [HL.out]; exact HF.out) HB.out (by rw [HL.out]; omega)
        rw [HL.out] at hv hG hgc
        subst hv
        have HG := hid hG
        have HN := hid hnc
        clear hG hnc
        go_wp2
        go_ret
        rw [HL.out]
        exact ⟨_, _, rfl, HG.out, hgc, HN.out, HB.out⟩
  · have h6I : ¬ (6 : Int) < len := by omega
    have hmin : min 6 len = len := by omega
    rw [hmin] at HL HA
    go_enter Try.func30, Try.ntmps30
    go_wp2
    go_loopw [3, 4] (fun v i wr => ∃ k : Nat, k ≤ len ∧ i = .int .i64 k ∧ FewI w gs k wr v ∧ Below w.heap.size w wr) (fun _ i _ => len - (intOf i).toNat)
    case atStart => exact ⟨0, Nat.zero_le _, rfl, ⟨[], World.ownsRow_nil w w.heap.size 31 1, fun i hi => by omega⟩, Below.refl _ _⟩
    case round =>
      obtain ⟨k, hk, rfl, hF, hB⟩ := hrel
      have HF := hid hF
      have HB := hid hB
      clear hF hB
      by_cases hlt : k < len
      · obtain ⟨b, off, rfl, hc⟩ := H3.out (by omega)
        obtain ⟨pa, pc, c1, c2, c3, c4⟩ := hc k (by omega)
        have c1' := cell_later HB.out c1
        have C2 := hid c2
        have C4 := hid c4
        have HAT := hid (HA.out k hlt)
        generalize hp : g.getD k [] = p at *
        clear hc c1 c2 c4 hp
        have hltI : (k : Int) < (len : Int) := by omega
        by_cases hbig : 300 < p.length
        · have hbI : (300 : Int) < p.length := by omega
          have hcI : (300 : Int) ≤ pc := by omega
          have HPL : Hid ((gs.getD k []).length = 300) := by show _ = _; rw [HAT.out, List.length_take]; omega
          have HPI : Hid (IsB w pa 300 (gs.getD k [])) := by
            show IsB _ _ _ _
            rw [HAT.out]; exact C2.out.front 300 (by omega)
          obtain ⟨vals, hrow, hall⟩ := HF.out
          have HRW := hid hrow
          have HAL := hid hall
          obtain ⟨va, vc, rfl⟩ := own_shape6 hrow
          clear hrow hall
          go_wp2_with (at_builtin; refine wpList_append_own _ rfl _ _ 22 rfl w.heap.size 31 i0 (.slice none 0 0) 1 24 Try.underlying22 hi hz0 hz1 hz2 rfl (by decide) _ _ _ rfl (HRW.out.alloc _) ⟨wr.heap.size, 0, none⟩ 1 1 [.slice pa 300 pc] rfl rfl (cell_one_new _ _ _) (fun y hy => by simp at hy; subst hy; rfl) (by unfold maxLen; omega) (by omega) (by have := HB.out.size; simp; omega) ?_; intro v9 w9 hown9 hgrow9 hnil9)
          have B9 : Below w.heap.size w w9 := below_grown (HB.out.alloc HB.out.size _) (HRW.out.alloc _) (Nat.le_refl _) (by have := HB.out.size; simp; omega) hgrow9
          obtain ⟨a9, c9, rfl⟩ := own_shape6 hown9
          have hvl : vals.length = k := by simpa using HRW.out.1
          go_roundw
          case rel =>
            refine ⟨k + 1, by omega, by go_num, ⟨vals ++ [.slice pa 300 pc], hown9, fun i hi => ?_⟩, B9⟩
            by_cases hlt2 : i < k
            · obtain ⟨pa', pc', q1, q2⟩ := HAL.out i hlt2
              exact ⟨pa', pc', by rw [List.getElem?_append_left (by omega)]; exact q1, q2⟩
            · have ei : i = k := by omega
              subst ei
              refine ⟨pa, pc, by rw [HPL.out, ← hvl]; simp, by rw [HPL.out]; exact HPI.out, by rw [HPL.out]; omega, C4.out⟩
          case measure => simp [intOf]; omega
        · have hbI : ¬ (300 : Int) < p.length := by omega
          have hpe : p.take 300 = p := List.take_of_length_le (by omega)
          have HPL : Hid ((gs.getD k []).length = p.length) := by show _ = _; rw [HAT.out, hpe]
          have HPI : Hid (IsB w pa p.length (gs.getD k [])) := by
            show IsB _ _ _ _
            rw [HAT.out, hpe]; exact C2.out
          clear hpe
          obtain ⟨vals, hrow, hall⟩ := HF.out
          have HRW := hid hrow
          have HAL := hid hall
          obtain ⟨va, vc, rfl⟩ := own_shape6 hrow
          clear hrow hall
          go_wp2_with (at_builtin; refine wpList_append_own _ rfl _ _ 22 rfl w.heap.size 31 i0 (.slice none 0 0) 1 24 Try.underlying22 hi hz0 hz1 hz2 rfl (by decide) _ _ _ rfl (HRW.out.alloc _) ⟨wr.heap.size, 0, none⟩ 1 1 [.slice pa p.length pc] rfl rfl (cell_one_new _ _ _) (fun y hy => by simp at hy; subst hy; rfl) (by unfold maxLen; omega) (by omega) (by have := HB.out.size; simp; omega) ?_; intro v9 w9 hown9 hgrow9 hnil9)
          have B9 : Below w.heap.size w w9 := below_grown (HB.out.alloc HB.out.size _) (HRW.out.alloc _) (Nat.le_refl _) (by have := HB.out.size; simp; omega) hgrow9
          obtain ⟨a9, c9, rfl⟩ := own_shape6 hown9
          have hvl : vals.length = k := by simpa using HRW.out.1
          go_roundw
          case rel =>
            refine ⟨k + 1, by omega, by go_num, ⟨vals ++ [.slice pa p.length pc], hown9, fun i hi => ?_⟩, B9⟩
            by_cases hlt2 : i < k
            · obtain ⟨pa', pc', q1, q2⟩ := HAL.out i hlt2
              exact ⟨pa', pc', by rw [List.getElem?_append_left (by omega)]; exact q1, q2⟩
            · have ei : i = k := by omega
              subst ei
              refine ⟨pa, pc, by rw [HPL.out, ← hvl]; simp, by rw [HPL.out]; exact HPI.out, by rw [HPL.out]; omega, C4.out⟩
          case measure => simp [intOf]; omega
      · have ek : k = len := by omega
        rw [ek] at HF ⊢
        clear ek
        obtain ⟨ga, gc, hv, hG, hgc, hnc⟩ := FewI.isG0 (gs := gs) (by rw [HL.out]; exact HF.out) HB.out (by rw [HL.out]; omega)
        rw [HL.out] at hv hG hgc
        subst hv
        have HG := hid hG
        have HN := hid hnc
        clear hG hnc
        go_wp2
        go_ret
        rw [HL.out]
        exact ⟨_, _, rfl, HG.out, hgc, HN.out, HB.out⟩
end Go.Proofs.Ytfmkgflhgapeoab
namespace Go.Proofs.Ytfmkgflhgapeoab
open Go.RowKit
set_option linter.unusedVariables false
set_option linter.unusedSimpArgs false
theorem secs_cons (v : Int → Sec) (st n : Nat) : secs v st (n + 1) = v (st : Int) :: secs v (st + 1) n := by
  unfold secs
  rw [List.range_succ_eq_map]
  simp only [List.map_cons, List.map_map, Nat.add_zero, List.cons.injEq, true_and]
  apply List.map_congr_left
  intro i _
  simp only [Function.comp]
  congr 2
  omega
theorem secs_take (v : Int → Sec) (st n m : Nat) (h : m ≤ n) : (secs v st n).take m = secs v st m := by
  unfold secs
  rw [← List.map_take, List.take_range, Nat.min_eq_left h]
theorem secs_getD (v : Int → Sec) (st n m : Nat) (h : m < n) : (secs v st n).getD m [] = v ((st + m : Nat) : Int) := by
  unfold secs
  simp [List.getD, h]
theorem secs_mem {v : Int → Sec} {st n : Nat} {s : Sec} (h : s ∈ secs v st n) : ∃ i, i < n ∧ s = v ((st + i : Nat) : Int) := by
  unfold secs at h
  obtain ⟨i, hi, rfl⟩ := List.mem_map.1 h
  exact ⟨i, List.mem_range.1 hi, rfl⟩
theorem body_snoc (v : Int → Sec) (st k : Nat) : bodyR (secs v st (k + 1)) = bodyR (secs v st k) ++ (v ((st + k : Nat) : Int)).drop 1 := by
  rw [secs_snoc]; unfold bodyR; simp
theorem body_secs {v : Int → Sec} (h : ∀ i, Jo.Sct (v i)) (st k : Nat) : (bodyR (secs v st k)).length = 31 * k := by
  rw [body_len (fun s hs => (secs_sct h st k s hs).1), secs_len]
/-- No group where one of the things that are asked fails. -/
theorem read_no {t n : Int} {v : Int → Sec} {st k : Nat} (h : ∀ i, Jo.Sct (v i)) (hg : ∀ g, ¬ GrR t n (v (st : Int)) (secs v (st + 1) k) g) : Jo.readF t n (secs v st (k + 1)) = none := by
  rw [secs_cons]
  cases e : Jo.readF t n (v (st : Int) :: secs v (st + 1) k) with
  | none => rfl
  | some g => exact absurd (grR_of e (by rw [← secs_cons]; exact secs_sct h _ _)) (hg g)
theorem read_zero (t n : Int) (v : Int → Sec) (st : Nat) : Jo.readF t n (secs v st 0) = none := rfl
/-- A group where all that is asked holds. -/
theorem read_yes {t n : Int} {v : Int → Sec} {st k : Nat} (h : ∀ i, Jo.Sct (v i)) {g : Jo.Gr} {q z : Nat} (e9 : (v (st : Int)).getD 9 0 = q) (e10 : Fr.at4 (v (st : Int)) 10 = z) (h1 : v (st : Int) = Jo.firstS t n q z) (h2 : 1 ≤ q ∧ q ≤ 8) (h3 : z ≤ 31 * (k + 1))
    (h4 : Jo.many z < k) (h5 : ∀ i, i < Jo.many z → (v ((st + 1 + i : Nat) : Int)).getD 0 0 = 68) (h6 : ∀ i, z ≤ i → i < 31 * Jo.many z → (bodyR (secs v (st + 1) (Jo.many z))).getD i 0 = 0)
    (h7 : v ((st + 1 + Jo.many z : Nat) : Int) = Jo.lastS t n) (h8 : partsR q ((bodyR (secs v (st + 1) (Jo.many z))).take z) = some g) (h9 : Jo.needF g = Jo.many z + 2) : Jo.readF t n (secs v st (k + 1)) = some g := by
  rw [secs_cons]
  have ez : (Fr.at4 (v (st : Int)) 10).toNat = z := by rw [e10]; omega
  have eq' : ((v (st : Int)).getD 9 0).toNat = q := by rw [e9]; omega
  refine GrR.read ⟨?_, ?_, ?_, ?_, ?_, ?_, ?_, ?_, ?_⟩ (h _) (secs_sct h _ _)
  · rw [e9, e10]; exact h1
  · rw [e9]; omega
  · rw [e10, secs_len]; omega
  · rw [ez, secs_len]; exact h4
  · rw [ez, secs_take _ _ _ _ (by omega)]
    intro s hs
    obtain ⟨i, hi, rfl⟩ := secs_mem hs
    exact h5 i hi
  · rw [ez, secs_take _ _ _ _ (by omega)]
    intro i hi
    by_cases hl : i < 31 * Jo.many z
    · exact h6 i hi hl
    · rw [List.getD, List.getElem?_eq_none (by rw [body_secs h]; omega)]; rfl
  · rw [ez, secs_getD _ _ _ _ h4]; exact h7
  · rw [ez, eq', secs_take _ _ _ _ (by omega)]; exact h8
  · rw [ez]; exact h9
/-- What is asked, in plain words: each fails by itself. -/
theorem no_first {t n : Int} {v : Int → Sec} {st k : Nat} (h : ∀ i, Jo.Sct (v i)) (hf : v (st : Int) ≠ Jo.firstS t n ((v (st : Int)).getD 9 0) (Fr.at4 (v (st : Int)) 10)) : Jo.readF t n (secs v st (k + 1)) = none := read_no h fun g G => hf G.first
theorem no_few {t n : Int} {v : Int → Sec} {st k : Nat} (h : ∀ i, Jo.Sct (v i)) (hf : (v (st : Int)).getD 9 0 < 1 ∨ 8 < (v (st : Int)).getD 9 0) : Jo.readF t n (secs v st (k + 1)) = none := read_no h fun g G => by have := G.few; omega
theorem no_room {t n : Int} {v : Int → Sec} {st k z : Nat} (h : ∀ i, Jo.Sct (v i)) (e10 : Fr.at4 (v (st : Int)) 10 = z) (hf : 31 * (k + 1) < z) : Jo.readF t n (secs v st (k + 1)) = none := read_no h fun g G => by
  have := G.room; rw [e10, secs_len] at this; omega
theorem no_fits {t n : Int} {v : Int → Sec} {st k z : Nat} (h : ∀ i, Jo.Sct (v i)) (e10 : Fr.at4 (v (st : Int)) 10 = z) (hf : k ≤ Jo.many z) : Jo.readF t n (secs v st (k + 1)) = none := read_no h fun g G => by
  have := G.fits; rw [e10, secs_len] at this; simp only [Int.toNat_natCast] at this; omega
theorem no_mark {t n : Int} {v : Int → Sec} {st k z i : Nat} (h : ∀ i, Jo.Sct (v i)) (e10 : Fr.at4 (v (st : Int)) 10 = z) (hk : Jo.many z < k) (hi : i < Jo.many z) (hf : (v ((st + 1 + i : Nat) : Int)).getD 0 0 ≠ 68) : Jo.readF t n (secs v st (k + 1)) = none := read_no h fun g G => by
  have := G.marks
  rw [e10] at this
  simp only [Int.toNat_natCast] at this
  rw [secs_take _ _ _ _ (by omega)] at this
  refine hf (this _ ?_)
  unfold secs
  exact List.mem_map.2 ⟨i, List.mem_range.2 hi, rfl⟩
theorem no_zero {t n : Int} {v : Int → Sec} {st k z i : Nat} (h : ∀ i, Jo.Sct (v i)) (e10 : Fr.at4 (v (st : Int)) 10 = z) (hk : Jo.many z < k) (hi : z ≤ i) (hf : (bodyR (secs v (st + 1) (Jo.many z))).getD i 0 ≠ 0) : Jo.readF t n (secs v st (k + 1)) = none := read_no h fun g G => by
  have := G.zeros
  rw [e10] at this
  simp only [Int.toNat_natCast] at this
  rw [secs_take _ _ _ _ (by omega)] at this
  exact hf (this i hi)
theorem no_last {t n : Int} {v : Int → Sec} {st k z : Nat} (h : ∀ i, Jo.Sct (v i)) (e10 : Fr.at4 (v (st : Int)) 10 = z) (hk : Jo.many z < k) (hf : v ((st + 1 + Jo.many z : Nat) : Int) ≠ Jo.lastS t n) : Jo.readF t n (secs v st (k + 1)) = none := read_no h fun g G => by
  have := G.last
  rw [e10] at this
  simp only [Int.toNat_natCast] at this
  rw [secs_getD _ _ _ _ hk] at this
  exact hf this
theorem no_parts {t n : Int} {v : Int → Sec} {st k z q : Nat} (h : ∀ i, Jo.Sct (v i)) (e9 : (v (st : Int)).getD 9 0 = q) (e10 : Fr.at4 (v (st : Int)) 10 = z) (hk : Jo.many z < k) (hf : partsR q ((bodyR (secs v (st + 1) (Jo.many z))).take z) = none) : Jo.readF t n (secs v st (k + 1)) = none := read_no h fun g G => by
  have := G.parts
  rw [e9, e10] at this
  simp only [Int.toNat_natCast] at this
  rw [secs_take _ _ _ _ (by omega), hf] at this
  cases this
theorem no_need {t n : Int} {v : Int → Sec} {st k z q : Nat} (h : ∀ i, Jo.Sct (v i)) (e9 : (v (st : Int)).getD 9 0 = q) (e10 : Fr.at4 (v (st : Int)) 10 = z) (hk : Jo.many z < k) {g : Jo.Gr} (hp : partsR q ((bodyR (secs v (st + 1) (Jo.many z))).take z) = some g) (hf : Jo.needF g ≠ Jo.many z + 2) : Jo.readF t n (secs v st (k + 1)) = none := read_no h fun g' G => by
  have := G.parts
  rw [e9, e10] at this
  simp only [Int.toNat_natCast] at this
  rw [secs_take _ _ _ _ (by omega), hp] at this
  cases this
  have := G.need
  rw [e10] at this
  simp only [Int.toNat_natCast] at this
  exact hf this
end Go.Proofs.Ytfmkgflhgapeoab
namespace Go.Proofs.Ytfmkgflhgapeoab
open Go.RowKit Go.ChangeShapes Go.WideShapes Go.ChangeAt Go.Maps
set_option linter.unusedVariables false
set_option linter.unusedSimpArgs false
theorem qneqR {o : Oper} {a : Act} {C : World → Prop} {w : World} (x y : Operand) (t : TypeId) (s u : Sec) (hop : o.op = .binOp .neq 36 x y t) (hx : a.eval x = secV s) (hy : a.eval y = secV u) (hs : IsSec s) (hu : IsSec u) (b : Bool) (hb : (s != u) = b) (hC : C w) : o.quietAt Try.prog a C w (.bool b) := by
  have e1 := secEq (P := Try.prog) w 36 5 Try.underlying36 Try.underlying5 size8 hs hu
  have e2 : (eqGuard .neq 36 x y (secV s) (secV u)).run Try.prog w = .ok () w := run_eqGuard_agg w .neq 36 x y _ _ (by kernel_rfl)
  have e3 : (binOp .neq 36 (secV s) (secV u)).run Try.prog w = .ok (.bool (s != u)) w := by
    have e4 := e1
    unfold secV at e4 ⊢
    rw [run_eql_struct] at e4
    rw [run_neq_struct]
    cases hR : (Op.equalIn 10000 36 (.agg (s.map by8).toArray) (.agg (u.map by8).toArray)).run Try.prog w with
    | ok b w' =>
      rw [hR] at e4
      simp [Result.andThen] at e4 ⊢
      exact ⟨by rw [e4.1]; simp [bne], e4.2⟩
    | halt h w' =>
      rw [hR] at e4
      simp [Result.andThen] at e4
  unfold Oper.quietAt
  simp only [execOp, hop, hx, hy, Sem.run_bind, e3, e2, Result.andThen, Sem.run_pure, hb]
  exact ⟨rfl, rfl⟩
theorem qlssI {o : Oper} {a : Act} {C : World → Prop} {w : World} (x y : Operand) (t : TypeId) (m n : Int) (hop : o.op = .binOp .lss 3 x y t) (hx : a.eval x = .int .i64 m) (hy : a.eval y = .int .i64 n) (b : Bool) (hb : decide (m < n) = b) (hC : C w) : o.quietAt Try.prog a C w (.bool b) := by
  unfold Oper.quietAt
  simp only [execOp, hop, hx, hy]
  rw [← hb]
  simp [go_sem, Result.andThen, hC, eqGuard]
theorem qgtrI {o : Oper} {a : Act} {C : World → Prop} {w : World} (x y : Operand) (t : TypeId) (m n : Int) (hop : o.op = .binOp .gtr 3 x y t) (hx : a.eval x = .int .i64 m) (hy : a.eval y = .int .i64 n) (b : Bool) (hb : decide (n < m) = b) (hC : C w) : o.quietAt Try.prog a C w (.bool b) := by
  unfold Oper.quietAt
  simp only [execOp, hop, hx, hy]
  rw [← hb]
  simp [go_sem, Result.andThen, hC, eqGuard]
theorem qgtr64 {o : Oper} {a : Act} {C : World → Prop} {w : World} (x y : Operand) (t : TypeId) (m n : Int) (hop : o.op = .binOp .gtr 136 x y t) (hx : a.eval x = .int .u64 m) (hy : a.eval y = .int .u64 n) (b : Bool) (hb : decide (n < m) = b) (hC : C w) : o.quietAt Try.prog a C w (.bool b) := by
  unfold Oper.quietAt
  simp only [execOp, hop, hx, hy]
  rw [← hb]
  simp [go_sem, Result.andThen, hC, eqGuard]
theorem qeqlI {o : Oper} {a : Act} {C : World → Prop} {w : World} (x y : Operand) (t : TypeId) (m n : Int) (hop : o.op = .binOp .eql 3 x y t) (hx : a.eval x = .int .i64 m) (hy : a.eval y = .int .i64 n) (b : Bool) (hb : (m == n) = b) (hC : C w) : o.quietAt Try.prog a C w (.bool b) := by
  unfold Oper.quietAt
  simp only [execOp, hop, hx, hy]
  rw [← hb]
  simp [go_sem, Result.andThen, hC, eqGuard]
theorem qsubI {o : Oper} {a : Act} {C : World → Prop} {w : World} (x y : Operand) (t : TypeId) (m n d : Nat) (hop : o.op = .binOp .sub 3 x y t) (hx : a.eval x = .int .i64 m) (hy : a.eval y = .int .i64 n) (hd : m = n + d) (hm : m ≤ 100000) (hC : C w) : o.quietAt Try.prog a C w (.int .i64 d) := by
  unfold Oper.quietAt
  simp only [execOp, hop, hx, hy]
  have e : ((m : Int) - n) = d := by omega
  simp [go_sem, Result.andThen, hC, eqGuard, e]
  exact IntWalk.i64_in _ (by omega)
theorem qaddI {o : Oper} {a : Act} {C : World → Prop} {w : World} (x y : Operand) (t : TypeId) (m n d : Nat) (hop : o.op = .binOp .add 3 x y t) (hx : a.eval x = .int .i64 m) (hy : a.eval y = .int .i64 n) (hd : d = m + n) (hm : d ≤ 1000000) (hC : C w) : o.quietAt Try.prog a C w (.int .i64 d) := by
  unfold Oper.quietAt
  simp only [execOp, hop, hx, hy]
  have e : ((m : Int) + n) = d := by omega
  simp [go_sem, Result.andThen, hC, eqGuard, e]
  exact IntWalk.i64_in _ (by omega)
theorem qmulI {o : Oper} {a : Act} {C : World → Prop} {w : World} (x y : Operand) (t : TypeId) (m n d : Nat) (hop : o.op = .binOp .mul 3 x y t) (hx : a.eval x = .int .i64 m) (hy : a.eval y = .int .i64 n) (hd : d = m * n) (hm : d ≤ 1000000) (hC : C w) : o.quietAt Try.prog a C w (.int .i64 d) := by
  unfold Oper.quietAt
  simp only [execOp, hop, hx, hy]
  have e : ((m : Int) * n) = d := by rw [hd]; simp
  simp [go_sem, Result.andThen, hC, eqGuard, e]
  exact IntWalk.i64_in _ (by omega)
theorem qconvI {o : Oper} {a : Act} {C : World → Prop} {w : World} (x : Operand) (z : Nat) (hop : o.op = .convert 136 3 x) (hx : a.eval x = .int .u64 z) (hz : z < 4294967296) (hC : C w) : o.quietAt Try.prog a C w (.int .i64 z) := by
  unfold Oper.quietAt
  simp only [execOp, hop, hx]
  simp [go_sem, Result.andThen, hC, convert]
  exact IntWalk.i64_in _ (by omega)
theorem qconvU {o : Oper} {a : Act} {C : World → Prop} {w : World} (x : Operand) (z : Nat) (hop : o.op = .convert 3 136 x) (hx : a.eval x = .int .i64 z) (hz : z < 4294967296) (hC : C w) : o.quietAt Try.prog a C w (.int .u64 z) := by
  unfold Oper.quietAt
  simp only [execOp, hop, hx]
  simp [go_sem, Result.andThen, hC, convert]
  exact IntWalk.u64_in _ (by omega)
end Go.Proofs.Ytfmkgflhgapeoab
