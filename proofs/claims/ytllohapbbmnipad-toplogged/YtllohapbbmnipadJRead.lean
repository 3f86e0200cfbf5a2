/-
  Rows of sectors that are read: slices.Equal, readLoad.
-/
import Derived.Test.YtllohapbbmnipadJLay
import Derived.BigQuiet
import Derived.Deep.QuietTactic
namespace Go.Proofs.Ytllohapbbmnipad
open Go.RowKit Go.ChangeShapes Go.WideShapes Go.ChangeAt Go.Maps
set_option linter.unusedVariables false
set_option linter.unusedSimpArgs false
/-- A slice of sectors. -/
def IsSS (w : World) (a : Option Addr) (n : Nat) (ss : List (List Int)) : Prop :=
  ss.length = n ∧ n ≤ 100000 ∧ (∀ s ∈ ss, Jo.Sct s) ∧ (0 < n → ∃ b off, a = some ⟨b, off, none⟩ ∧ ∀ i, i < n → w.rangeAt b (off + i * 32) ((ss.getD i []).map by8))
theorem range_later {w w' : World} {b off : Nat} {l : List Value} (h : w.rangeAt b off l) (hb : Below w.heap.size w w') : w'.rangeAt b off l := fun j v hv => cell_later hb (h j v hv)
theorem IsSS.later {w w' : World} {a : Option Addr} {n : Nat} {ss : List (List Int)} (h : IsSS w a n ss) (hb : Below w.heap.size w w') : IsSS w' a n ss := by
  obtain ⟨h1, h2, h3, h4⟩ := h
  refine ⟨h1, h2, h3, fun hp => ?_⟩
  obtain ⟨b, off, e, hc⟩ := h4 hp
  exact ⟨b, off, e, fun i hi => range_later (hc i hi) hb⟩
theorem IsSS.at {w : World} {b off n : Nat} {ss : List (List Int)} (h : IsSS w (some ⟨b, off, none⟩) n ss) (i : Nat) (hi : i < n) : w.rangeAt b (off + i * 32) ((ss.getD i []).map by8) ∧ Jo.Sct (ss.getD i []) := by
  obtain ⟨h1, h2, h3, h4⟩ := h
  obtain ⟨b', off', e, hc⟩ := h4 (by omega)
  cases e
  exact ⟨hc i hi, h3 _ (by rw [List.getD, List.getElem?_eq_getElem (by omega)]; exact List.getElem_mem (by omega))⟩
/-- Sectors from the i-th on. -/
theorem IsSS.sub {w : World} {b off n : Nat} {ss : List (List Int)} (h : IsSS w (some ⟨b, off, none⟩) n ss) (i m : Nat) (him : i + m ≤ n) : IsSS w (some ⟨b, off + i * 32, none⟩) m ((ss.drop i).take m) := by
  have h0 := h
  obtain ⟨h1, h2, h3, h4⟩ := h
  refine ⟨by simp; omega, by omega, fun s hs => h3 s (List.mem_of_mem_drop (List.mem_of_mem_take hs)), fun hp => ⟨b, off + i * 32, rfl, fun j hj => ?_⟩⟩
  have e : ((ss.drop i).take m).getD j [] = ss.getD (i + j) [] := by simp [List.getD, List.getElem?_take, hj, List.getElem?_drop]
  rw [e, show off + i * 32 + j * 32 = off + (i + j) * 32 by omega]
  exact (h0.at (i + j) (by omega)).1
theorem scells_get {ss : List (List Int)} (h : ∀ s ∈ ss, s.length = 32) : ∀ i, i < ss.length → ∀ j, j < 32 → (scells ss)[i * 32 + j]? = ((ss.getD i []).map by8)[j]? := by
  induction ss with
  | nil => intro i hi; simp at hi
  | cons s ss ih =>
    intro i hi j hj
    have h1 := h s (by simp)
    have e : scells (s :: ss) = s.map by8 ++ scells ss := rfl
    rw [e]
    cases i with
    | zero => rw [List.getElem?_append_left (by simp [h1]; omega)]; simp
    | succ i =>
      rw [List.getElem?_append_right (by simp [h1]; omega)]
      have := ih (fun u hu => h u (by simp [hu])) i (by simpa using hi) j hj
      simp only [List.length_map, h1]
      rw [show (i + 1) * 32 + j - 32 = i * 32 + j by omega, this]
      simp
/-- What is read of a row of sectors that was made here. -/
theorem own_isSS {w : World} {base : Nat} {v : Value} {ss : List (List Int)} (h : w.ownsRow base 90 32 v ss.length (scells ss)) (hs : ∀ s ∈ ss, Jo.Sct s) (hm : ss.length ≤ 100000) : ∃ a cap, v = .slice a ss.length cap ∧ IsSS w a ss.length ss ∧ ss.length ≤ cap ∧ (∀ q, a = some q → base ≤ q.block ∧ q.block < w.heap.size) := by
  have hlt := h.lt
  rcases h with ⟨hl, ⟨rfl, hn⟩ | ⟨g, cap, cur, rfl, hg, hbk, hnc, hcm, hcs, ht⟩⟩
  · exact ⟨none, 0, by rw [hn], ⟨rfl, hm, hs, fun hp => by omega⟩, by omega, fun q e => by cases e⟩
  · refine ⟨some ⟨g, 0, none⟩, cap, rfl, ⟨rfl, hm, hs, fun hp => ⟨g, 0, rfl, fun i hi => ?_⟩⟩, hnc, fun q e => by cases e; exact hlt g rfl⟩
    intro j v hv
    have hj : j < 32 := by
      have h1 := (List.getElem?_eq_some_iff.1 hv).1
      have h2 := (hs (ss.getD i []) (by rw [List.getD, List.getElem?_eq_getElem hi]; exact List.getElem_mem hi)).1
      rw [List.length_map, h2] at h1; exact h1
    rw [cell_of_row w g _ cur 90 (0, 0) hbk]
    have e1 : (cur.toList.take (ss.length * 32))[i * 32 + j]? = (scells ss)[i * 32 + j]? := by rw [ht]
    rw [List.getElem?_take, if_pos (by omega)] at e1
    rw [Nat.zero_add, ← Array.getElem?_toList, e1, scells_get (fun s h => (hs s h).1) i hi j hj]
    exact hv
theorem secEqIn (w : World) {s u : Sec} (hs : IsSec s) (hu : IsSec u) : (Op.equalIn 10000 90 (.agg (s.map by8).toArray) (.agg (u.map by8).toArray)).run Try.prog w = .ok (s == u) w := by
  have e4 := secEq (P := Try.prog) w 90 5 Try.underlying90 Try.underlying5 size8 hs hu
  unfold secV at e4
  rw [run_eql_struct] at e4
  cases hR : (Op.equalIn 10000 90 (.agg (s.map by8).toArray) (.agg (u.map by8).toArray)).run Try.prog w with
  | ok b w' =>
    rw [hR] at e4
    simp [Result.andThen] at e4
    rw [e4.1, e4.2]
  | halt h w' =>
    rw [hR] at e4
    simp [Result.andThen] at e4
theorem qload {o : Oper} {a : Act} {C : World → Prop} {w : World} {v : Value} (x : Operand) (T : TypeId) (p : Value) (hop : o.op = .load T x) (hx : a.eval x = p) (hl : (Instr.loadAt T p).run Try.prog w = .ok v w) (hC : C w) : o.quietAt Try.prog a C w v := by
  unfold Oper.quietAt
  simp only [execOp, hop, hx, Sem.run_bind, hl, Result.andThen, Sem.run_pure]
  exact ⟨rfl, rfl⟩
theorem secNeq (w : World) {s u : Sec} (hs : IsSec s) (hu : IsSec u) : (binOp .neq 90 (secV s) (secV u)).run Try.prog w = .ok (.bool (!(s == u))) w := by
  unfold secV
  rw [run_neq_struct, secEqIn w hs hu]
  rfl
theorem qneq {o : Oper} {a : Act} {C : World → Prop} {w : World} (x y : Operand) (t : TypeId) (s u : Sec) (hop : o.op = .binOp .neq 90 x y t) (hx : a.eval x = secV s) (hy : a.eval y = secV u) (hs : IsSec s) (hu : IsSec u) (b : Bool) (hb : (s == u) = b) (hC : C w) : o.quietAt Try.prog a C w (.bool (!b)) := by
  have e1 := secNeq w hs hu
  have e2 : (eqGuard .neq 90 x y (secV s) (secV u)).run Try.prog w = .ok () w := run_eqGuard_agg w .neq 90 x y _ _ guardS
  unfold Oper.quietAt
  simp only [execOp, hop, hx, hy, Sem.run_bind, e1, e2, Result.andThen, Sem.run_pure, hb]
  exact ⟨rfl, rfl⟩
theorem qsec {w : World} {b o : Nat} {s : List Int} (h : w.rangeAt b o (s.map by8)) (hs : s.length = 32) : (Instr.loadAt 90 (.pointer (some ⟨b, o, none⟩))).run Try.prog w = .ok (secV s) w :=
  run_loadAt_mid w b o 90 (s.map by8) _ h Try.underlying90 rfl (by rw [sizeS]; simp [hs])
theorem sct_sec {s : List Int} (h : Jo.Sct s) : IsSec s := ⟨h.1, h.2⟩
theorem take_eq_snoc {A B : List (List Int)} {k : Nat} (h : A.take k = B.take k) (hA : k < A.length) (hB : k < B.length) (e : A.getD k [] = B.getD k []) : A.take (k + 1) = B.take (k + 1) := by
  rw [List.take_succ_eq_append_getElem hA, List.take_succ_eq_append_getElem hB, h]
  simp [List.getD, hA, hB] at e
  rw [e]
set_option maxRecDepth 20000 in
set_option maxHeartbeats 2000000 in
theorem equal_c (b off n cap : Nat) (b' off' n' cap' : Nat) (ss tt : List (List Int)) (w : World) (h : IsSS w (some ⟨b, off, none⟩) n ss) (h' : IsSS w (some ⟨b', off', none⟩) n' tt) :
    Calls Try.prog 68 #[.slice (some ⟨b, off, none⟩) n cap, .slice (some ⟨b', off', none⟩) n' cap'] w fun e w' => e = .returned (.bool (ss == tt)) ∧ Below w.heap.size w w' := by
  have l1 := h.1
  have l2 := h'.1
  have m1 := h.2.1
  have m2 := h'.2.1
  by_cases hn : n = n'
  · subst hn
    have H := hid h
    have H' := hid h'
    have L1 := hid l1
    have L2 := hid l2
    clear h h' l1 l2
    go_enter Try.func68, Try.ntmps68
    go_wp2
    go_loopw [13] (fun i wr => ∃ k : Nat, k ≤ n ∧ i = .int .i64 k ∧ ss.take k = tt.take k ∧ Below w.heap.size w wr) (fun i _ => n - (intOf i).toNat)
    case atStart => exact ⟨0, Nat.zero_le _, rfl, rfl, Below.refl _ _⟩
    case round =>
      obtain ⟨k, hk, rfl, heq, hB⟩ := hrel
      have HE := hid heq
      have HB := hid hB
      clear heq hB
      by_cases hlt : k < n
      · obtain ⟨r1, s1⟩ := (H.out.later HB.out).at k hlt
        obtain ⟨r2, s2⟩ := (H'.out.later HB.out).at k hlt
        have hsn := hid (fun e => take_eq_snoc HE.out (by rw [L1.out]; exact hlt) (by rw [L2.out]; exact hlt) e)
        have hne : Hid (ss.getD k [] ≠ tt.getD k [] → ss ≠ tt) := fun hne e => hne (by rw [e])
        have R1 := hid r1
        have R2 := hid r2
        have S1 := hid s1
        have S2 := hid s2
        clear r1 r2 s1 s2
        generalize ss.getD k [] = S at *
        generalize tt.getD k [] = T at *
        cases hST : (S == T) with
        | true =>
          have HST := hid hST
          clear hST
          go_wp2_with fail
          refine wp_region_class (by kernel_rfl) (by kernel_rfl) ?_
          repeat (first
            | go_big_quiet_skip
            | (go_big_quiet_want
               apply quiet_by
               · intro w1 hw1
                 exact qload _ 90 _ rfl rfl (qsec (range_later R1.out hw1) S1.out.1) hw1
               · go_simp; rfl
               go_big_quiet_on)
            | (go_big_quiet_want
               apply quiet_by
               · intro w1 hw1
                 exact qload _ 90 _ rfl rfl (qsec (range_later R2.out hw1) S2.out.1) hw1
               · go_simp; rfl
               go_big_quiet_on)
            | (go_big_quiet_want
               apply quiet_by
               · intro w1 hw1
                 exact qneq _ _ _ S T rfl rfl rfl (sct_sec S1.out) (sct_sec S2.out) _ HST.out hw1
               · go_simp; rfl
               go_big_quiet_on)
            | (go_big_quiet_want
               apply quiet_by
               · intro w1 hw1
                 go_simp
                 rfl
               · go_simp; rfl
               go_big_quiet_on))
          refine wpQuiet_nil ?_
          intro w12 hw12
          go_wp2
          go_roundw
          case rel => exact ⟨k + 1, by omega, by go_num, hsn.out (by simpa using HST.out), HB.out.trans (hw12.mono HB.out.size)⟩
          case measure => simp [intOf]; omega
        | false =>
          have HN := hid (hne.out (by simpa using hST))
          have HST := hid hST
          clear hST
          go_wp2_with fail
          refine wp_region_class (by kernel_rfl) (by kernel_rfl) ?_
          repeat (first
            | go_big_quiet_skip
            | (go_big_quiet_want
               apply quiet_by
               · intro w1 hw1
                 exact qload _ 90 _ rfl rfl (qsec (range_later R1.out hw1) S1.out.1) hw1
               · go_simp; rfl
               go_big_quiet_on)
            | (go_big_quiet_want
               apply quiet_by
               · intro w1 hw1
                 exact qload _ 90 _ rfl rfl (qsec (range_later R2.out hw1) S2.out.1) hw1
               · go_simp; rfl
               go_big_quiet_on)
            | (go_big_quiet_want
               apply quiet_by
               · intro w1 hw1
                 exact qneq _ _ _ S T rfl rfl rfl (sct_sec S1.out) (sct_sec S2.out) _ HST.out hw1
               · go_simp; rfl
               go_big_quiet_on)
            | (go_big_quiet_want
               apply quiet_by
               · intro w1 hw1
                 go_simp
                 rfl
               · go_simp; rfl
               go_big_quiet_on))
          refine wpQuiet_nil ?_
          intro w12 hw12
          go_wp2
          go_ret
          exact ⟨ret_bool (by have := HN.out; simp [this]), HB.out.trans (hw12.mono HB.out.size)⟩
      · have e : ss = tt := by
          have e1 : ss.take k = ss := List.take_of_length_le (by rw [L1.out]; omega)
          have e2 : tt.take k = tt := List.take_of_length_le (by rw [L2.out]; omega)
          rw [← e1, ← e2]; exact HE.out
        have E := hid e
        clear e
        go_wp2
        go_ret
        exact ⟨ret_bool (by rw [E.out]; simp), HB.out⟩
  · have hn' : ((n : Int) == (n' : Int)) = false := by simp; omega
    have hn2 : ¬ (n : Int) = n' := by omega
    have E : Hid ((ss == tt) = false) := by
      show _ = _
      simp only [beq_eq_false_iff_ne]
      intro e; apply hn; rw [← l1, ← l2, e]
    clear h h' l1 l2
    go_enter Try.func68, Try.ntmps68
    go_wp2
    go_ret
    exact ⟨ret_bool E.out.symm, Below.refl _ _⟩
end Go.Proofs.Ytllohapbbmnipad
