/-
  The document's journal on its disk: Open, area, Disk, pause of backwaterref05.
  The area that counts, by the document: counts of backwaterref05.
  The parts of a load, by the document: parts of backwaterref05.
  Plain laws: a load is told by its parts; which sectors the document takes for a group.
  The disk and the document's disk side by side.
  Same of backwaterref05, of groups that are the same.
-/
import Derived.Test.YtfmkgflhgapeoabGH
import Derived.Test.YtfmkgflhgapeoabGF
namespace Go.Proofs.Ytfmkgflhgapeoab
open Go.RowKit Go.ChangeShapes Go.WideShapes Go.ChangeAt Go.Maps
set_option linter.unusedVariables false
set_option linter.unusedSimpArgs false
/-- The document's journal. -/
def IsRJ (w : World) (j r N : Nat) (L : List Sec) (B : List (Int × Sec)) : Prop := w.heap[j]? = some (.cells #[pD r] 61 (0, 0)) ∧ IsR w r N L B ∧ 8 ≤ N
/-- What is read of the document's disk. -/
def vwR (L : List Sec) (B : List (Int × Sec)) (i : Int) : Sec := (bufAt B i).getD (L.getD i.toNat zsec)
theorem IsRJ.later {w w' : World} {j r N : Nat} {L : List Sec} {B : List (Int × Sec)} (h : IsRJ w j r N L B) (hb : Below w.heap.size w w') : IsRJ w' j r N L B := ⟨(hb.block _ (lt_blk h.1)).trans h.1, h.2.1.later hb, h.2.2⟩
theorem IsRJ.cell {w : World} {j r N : Nat} {L : List Sec} {B : List (Int × Sec)} (h : IsRJ w j r N L B) : w.cell? ⟨j, 0, none⟩ = some (pD r) := by rw [cell_of_row w j 0 _ _ _ h.1]; rfl
theorem IsRJ.two {w : World} {j r N : Nat} {L : List Sec} {B : List (Int × Sec)} (h : IsRJ w j r N L B) : 8 ≤ N ∧ N ≤ 2048 := ⟨h.2.2, h.2.1.2.2.2.2.2.2⟩
theorem IsRJ.next {w w' : World} {j r N : Nat} {L L' : List Sec} {B B' : List (Int × Sec)} (h : IsRJ w j r N L B) (h' : IsR w' r N L' B') (ho : Out (fun k => k = r) w w') : IsRJ w' j r N L' B' := by
  refine ⟨?_, h', h.2.2⟩
  rw [ho.block j (lt_blk h.1) (fun e => ?_)]
  · exact h.1
  · obtain ⟨lv, bv, hr, _⟩ := h.2.1.1
    have := h.1
    rw [e, hr] at this
    injection this with this
    injection this with _ this
    exact absurd this (by decide)
set_option maxHeartbeats 400000 in
theorem rarea_c {w : World} {j r N : Nat} {L : List Sec} {B : List (Int × Sec)} (h : IsRJ w j r N L B) :
    Calls Try.prog 45 #[pB j] w fun e w' => e = .returned (.int .i64 (asz N : Nat)) ∧ w' = w := by
  have c0 := h.cell
  have hN := h.two
  have SC := hid (rsize_c h.2.1)
  have e1 : ((asz N : Nat) : Int) = ((N : Int) - 2) / 2 := by unfold asz; omega
  rw [e1]
  clear h
  go_enter Try.func45, Try.ntmps45
  go_wp2_with (go_at_call 16; refine SC.out.mono ?_; rintro _ w1 ⟨rfl, rfl⟩)
  go_ret
  refine ⟨?_, rfl⟩
  first | rfl | exact ret_int (by first | omega | (rw [Int.tdiv_eq_ediv_of_nonneg (by omega)]))
set_option maxHeartbeats 400000 in
theorem ropen_c {w : World} {r N : Nat} {L : List Sec} {B : List (Int × Sec)} (h : IsR w r N L B) (h8 : 8 ≤ N) :
    Calls Try.prog 9 #[pD r] w fun e w' => ∃ j r', e = .returned (pB j) ∧ IsRJ w' j r' N L B ∧ (w.heap.size ≤ j ∧ w.heap.size ≤ r') ∧ Below w.heap.size w w' := by
  have SC := hid (rsize_c h)
  have FC := hid (rfork_c h)
  have hI : ¬ (N : Int) < 8 := by omega
  clear h
  go_enter Try.func9, Try.ntmps9
  go_wp2_with (first
    | (go_at_call 16; refine SC.out.mono ?_; rintro _ w1 ⟨rfl, rfl⟩)
    | (go_at_call 17; refine FC.out.mono ?_; rintro _ w2 ⟨r', rfl, hR, hl, hb⟩))
  go_ret
  have hb3 : Below w2.heap.size w2 (w2.alloc (.cells #[pD r'] 61 (0, 0))) := (Below.refl _ _).alloc (Nat.le_refl _) _
  exact ⟨_, _, rfl, ⟨heap_alloc_new w2 _, hR.later hb3, h8⟩, ⟨hb.size, hl⟩, hb.trans (hb3.mono hb.size)⟩
set_option maxHeartbeats 400000 in
theorem rjdisk_c {w : World} {j r N : Nat} {L : List Sec} {B : List (Int × Sec)} (h : IsRJ w j r N L B) :
    Calls Try.prog 23 #[pB j] w fun e w' => ∃ r', e = .returned (pD r') ∧ IsR w' r' N L B ∧ w.heap.size ≤ r' ∧ Below w.heap.size w w' := by
  have c0 := h.cell
  have FC := hid (rfork_c h.2.1)
  clear h
  go_enter Try.func23, Try.ntmps23
  go_wp2_with (go_at_call 17; refine FC.out.mono ?_; rintro _ w2 ⟨r', rfl, hR, hl, hb⟩)
  go_ret
  exact ⟨_, rfl, hR, hl, hb⟩
set_option maxHeartbeats 400000 in
theorem rpause_f {w : World} {j r N : Nat} {L : List Sec} {B : List (Int × Sec)} (h : IsRJ w j r N L B) (z : Option Addr) (zl zc : Nat) :
    Calls Try.prog 65 #[pB j, .bool false, .slice z zl zc] w fun e w' => e = .returned (.bool true) ∧ IsRJ w' j r N (outL true [] B L) [] ∧ Out (fun k => k = r) w w' := by
  have c0 := h.cell
  have FC := hid (rflush_c h.2.1)
  have H := hid h
  clear h
  go_enter Try.func65, Try.ntmps65
  go_wp2_with (go_at_call 86; refine FC.out.mono ?_; rintro _ w2 ⟨rfl, hR, ho⟩)
  go_ret
  exact ⟨rfl, H.out.next hR ho, ho⟩
set_option maxHeartbeats 400000 in
theorem rpause_t {w : World} {j r N : Nat} {L : List Sec} {B : List (Int × Sec)} (h : IsRJ w j r N L B) (z : Option Addr) (zl zc : Nat) (zs : List Int) (hz : IsZ w z zl zs) :
    Calls Try.prog 65 #[pB j, .bool true, .slice z zl zc] w fun e w' => e = .returned (.bool false) ∧ IsRJ w' j r N (outL false zs B L) [] ∧ Out (fun k => k = r) w w' := by
  have c0 := h.cell
  have FC := hid (rcrash_c h.2.1 z zl zc zs hz)
  have H := hid h
  clear h
  go_enter Try.func65, Try.ntmps65
  go_wp2_with (go_at_call 85; refine FC.out.mono ?_; rintro _ w2 ⟨rfl, hR, ho⟩)
  go_ret
  exact ⟨rfl, H.out.next hR ho, ho⟩
end Go.Proofs.Ytfmkgflhgapeoab
namespace Go.Proofs.Ytfmkgflhgapeoab
open Go.RowKit Go.ChangeShapes Go.WideShapes Go.ChangeAt Go.Maps
set_option linter.unusedVariables false
set_option linter.unusedSimpArgs false
theorem IsR.sec {w : World} {r N : Nat} {L : List Sec} {B : List (Int × Sec)} (h : IsR w r N L B) (i : Int) : Jo.Sct (vwR L B i) := by
  obtain ⟨_, hl, hL, _, hB, _, _⟩ := h
  have key : IsSec (vwR L B i) := by
    unfold vwR
    cases hc : bufAt B i with
    | some s =>
      unfold bufAt at hc
      rw [Option.map_eq_some_iff] at hc
      obtain ⟨p, hp, rfl⟩ := hc
      exact (hB p (List.mem_of_find?_eq_some hp)).1
    | none =>
      rw [Option.getD_none, List.getD]
      cases hg : L[i.toNat]? with
      | none => exact zsec_is
      | some s => exact hL s (List.mem_of_getElem? hg)
  exact ⟨key.1, key.2⟩
theorem qsecR {w : World} {b o : Nat} {s : List Int} (h : w.rangeAt b o (s.map by8)) (hs : s.length = 32) : (Instr.loadAt 36 (.pointer (some ⟨b, o, none⟩))).run Try.prog w = .ok (secV s) w :=
  run_loadAt_mid w b o 36 (s.map by8) _ h Try.underlying36 rfl (by rw [sizeR5]; simp [hs])
theorem qeqR {o : Oper} {a : Act} {C : World → Prop} {w : World} (x y : Operand) (t : TypeId) (s u : Sec) (hop : o.op = .binOp .eql 36 x y t) (hx : a.eval x = secV s) (hy : a.eval y = secV u) (hs : IsSec s) (hu : IsSec u) (b : Bool) (hb : (s == u) = b) (hC : C w) : o.quietAt Try.prog a C w (.bool b) := by
  have e1 := secEq (P := Try.prog) w 36 5 Try.underlying36 Try.underlying5 size8 hs hu
  have e2 : (eqGuard .eql 36 x y (secV s) (secV u)).run Try.prog w = .ok () w := run_eqGuard_agg w .eql 36 x y _ _ (by kernel_rfl)
  unfold Oper.quietAt
  simp only [execOp, hop, hx, hy, Sem.run_bind, e1, e2, Result.andThen, Sem.run_pure, hb]
  exact ⟨rfl, rfl⟩
theorem qneq32 {o : Oper} {a : Act} {C : World → Prop} {w : World} (x y : Operand) (t : TypeId) (m n : Int) (hop : o.op = .binOp .neq 84 x y t) (hx : a.eval x = .int .u32 m) (hy : a.eval y = .int .u32 n) (b : Bool) (hb : (m != n) = b) (hC : C w) : o.quietAt Try.prog a C w (.bool b) := by
  unfold Oper.quietAt
  simp only [execOp, hop, hx, hy]
  rw [← hb]
  simp [go_sem, Result.andThen, hC, eqGuard]
theorem qgtr32 {o : Oper} {a : Act} {C : World → Prop} {w : World} (x y : Operand) (t : TypeId) (m n : Int) (hop : o.op = .binOp .gtr 84 x y t) (hx : a.eval x = .int .u32 m) (hy : a.eval y = .int .u32 n) (b : Bool) (hb : decide (n < m) = b) (hC : C w) : o.quietAt Try.prog a C w (.bool b) := by
  unfold Oper.quietAt
  simp only [execOp, hop, hx, hy]
  rw [← hb]
  simp [go_sem, Result.andThen, hC, eqGuard]
set_option maxRecDepth 20000 in
set_option maxHeartbeats 4000000 in
theorem rcounts_c {w : World} {j r N : Nat} {L : List Sec} {B : List (Int × Sec)} (h : IsRJ w j r N L B) :
    Calls Try.prog 43 #[pB j] w fun e w' => e = .returned (.tuple #[.int .i64 ((best (vwR L B) 2).1 : Nat), .int .u32 (best (vwR L B) 2).2]) ∧ Below w.heap.size w w' := by
  have H := hid h
  have hN := h.two
  have HV := hid (fun i => h.2.1.sec i)
  clear h
  go_enter Try.func43, Try.ntmps43
  go_wp2
  go_loopw [4, 5, 6] (fun p q i wr => ∃ k : Nat, k ≤ 2 ∧ i = .int .i64 k ∧ p = .int .i64 ((best (vwR L B) k).1 : Nat) ∧ q = .int .u32 (best (vwR L B) k).2 ∧ Below w.heap.size w wr) (fun _ _ i _ => (2 - intOf i).toNat)
  case atStart => exact ⟨0, by omega, rfl, rfl, rfl, Below.refl _ _⟩
  case round =>
    obtain ⟨k, hk, rfl, rfl, rfl, hB⟩ := hrel
    by_cases hlt : k < 2
    · have hJ := H.out.later hB
      have c0 := hJ.cell
      have RC := hid (rread_c hJ.2.1 k (by omega))
      have hs := HV.out (k : Int)
      have hbb := best_bd HV.out k (by omega)
      have eS : (bufAt B k).getD (L.getD k zsec) = vwR L B (k : Int) := by unfold vwR; simp
      rw [eS] at RC
      have HNX : Hid (best (vwR L B) (k + 1) = if (best (vwR L B) k).2 < Jo.turnOf (vwR L B k) then (k, Jo.turnOf (vwR L B k)) else best (vwR L B) k) := rfl
      have HBW := hid hB
      clear hJ eS hB
      generalize vwR L B (k : Int) = s at *
      go_wp2_with fail
      refine RC.out.mono ?_
      rintro _ w1 ⟨rfl, hb1⟩
      have zz := zlit
      have zn : ¬ zsec = [] := by decide
      have hx1 : Bx (w1.alloc (.cells (s.map by8).toArray 36)) w1.heap.size 36 s := heap_alloc_new w1 _
      have HI1 := hid (bx_isB hx1 hs.2 1 4 (by rw [hs.1]; omega) (by decide))
      have HR1 := hid (range_sec hx1)
      have hb1' : Below w.heap.size w (w1.alloc (.cells (s.map by8).toArray 36)) := (HBW.out.trans (hb1.mono HBW.out.size)).alloc (Nat.le_trans HBW.out.size hb1.size) _
      have HB1 := hid hb1'
      have hbd := at4_bd hs.2 1
      have hsS := hs.1
      clear hb1' hx1 hb1 RC
      go_wp2_with (first
        | (refine wpList_storeS _ rfl _ _ _ rfl sizeR5 _ rfl (by simp) s rfl hsS _ (by simp; decide) ?_)
        | (go_at_call 60; refine (rnum_c _ 4 _ _ _ HI1.out (by omega)).mono ?_; rintro _ w2 ⟨rfl, hb2⟩; rw [at4_drop]))
      have HRG := hid (range_later HR1.out hb2)
      have HB2 := hid (HB1.out.trans (hb2.mono HB1.out.size))
      clear HR1 HI1 hb2
      obtain ⟨t, hte⟩ : ∃ t, t = Fr.at4 s 1 := ⟨_, rfl⟩
      rw [← hte] at hbd ⊢
      have HTE := hid hte
      clear hte
      by_cases h0 : t = 0
      · have E := hid (turn_none (s := s) (.inl (by rw [← HTE.out]; exact h0)))
        have hz : (t != 0) = false := by simp [h0]
        have EB : Hid (best (vwR L B) (k + 1) = best (vwR L B) k) := by
          show _ = _
          rw [HNX.out, E.out, if_neg (by omega)]
        rw [← EB.out]
        refine wp_region_class (by kernel_rfl) (by kernel_rfl) ?_
        repeat (first
          | go_big_quiet_skip
          | (go_big_quiet_want
             apply quiet_by (v := .bool false)
             · intro w4 hw4
               exact qneq32 _ _ _ t 0 rfl rfl rfl _ hz hw4
             · go_simp; rfl
             go_big_quiet_on)
          | (go_big_quiet_want
             apply quiet_by
             · intro w4 hw4
               go_simp
               first
                 | rfl
                 | (go_at_call 61; exact class_of hw4 (rhead_c t _ hbd))
             · go_simp; rfl
             go_big_quiet_on))
        refine wpQuiet_nil ?_
        intro w12 hw12
        go_wp2
        go_roundw
        case rel => exact ⟨k + 1, by omega, by go_num, rfl, rfl, HB2.out.trans (hw12.mono HB2.out.size)⟩
        case measure => simp [intOf]; omega
      · have hz : (t != 0) = true := by simpa using h0
        have hsT := Jo.head_sct t
        cases hq : (s == Jo.headS t) with
        | false =>
          have E := hid (turn_none (s := s) (.inr (by rw [← HTE.out]; simpa using hq)))
          have HQ := hid hq
          have EB : Hid (best (vwR L B) (k + 1) = best (vwR L B) k) := by
            show _ = _
            rw [HNX.out, E.out, if_neg (by omega)]
          rw [← EB.out]
          clear hq
          refine wp_region_class (by kernel_rfl) (by kernel_rfl) ?_
          repeat (first
            | go_big_quiet_skip
            | (go_big_quiet_want
               apply quiet_by (v := .bool true)
               · intro w4 hw4
                 exact qneq32 _ _ _ t 0 rfl rfl rfl _ hz hw4
               · go_simp; rfl
               go_big_quiet_on)
            | (go_big_quiet_want
               apply quiet_by
               · intro w4 hw4
                 exact qload _ 36 _ rfl rfl (qsecR (range_later HRG.out hw4) hs.1) hw4
               · go_simp; rfl
               go_big_quiet_on)
            | (go_big_quiet_want
               apply quiet_by
               · intro w4 hw4
                 exact qeqR _ _ _ s (Jo.headS t) rfl rfl rfl (sct_sec hs) (sct_sec hsT) _ HQ.out hw4
               · go_simp; rfl
               go_big_quiet_on)
            | (go_big_quiet_want
               apply quiet_by
               · intro w4 hw4
                 go_simp
                 first
                   | rfl
                   | (go_at_call 61; exact class_of hw4 (rhead_c t _ hbd))
               · go_simp; rfl
               go_big_quiet_on))
          refine wpQuiet_nil ?_
          intro w12 hw12
          go_wp2
          go_roundw
          case rel => exact ⟨k + 1, by omega, by go_num, rfl, rfl, HB2.out.trans (hw12.mono HB2.out.size)⟩
          case measure => simp [intOf]; omega
        | true =>
          have hq' : s = Jo.headS t := by simpa using hq
          have E : Hid (Jo.turnOf s = t) := by
            show _ = _
            unfold Jo.turnOf
            rw [← HTE.out, if_pos ⟨h0, hq'⟩]
          have HQ := hid hq
          clear hq hq'
          obtain ⟨b2, hb2⟩ : ∃ b2, b2 = (best (vwR L B) k).2 := ⟨_, rfl⟩
          by_cases hg : b2 < t
          · have HG := hid (decide_eq_true hg)
            have EB : Hid (best (vwR L B) (k + 1) = (k, t)) := by
              show _ = _
              rw [HNX.out, E.out, ← hb2, if_pos hg]
            rw [← hb2]
            clear hb2
            refine wp_region_class (by kernel_rfl) (by kernel_rfl) ?_
            repeat (first
              | go_big_quiet_skip
              | (go_big_quiet_want
                 apply quiet_by (v := .bool true)
                 · intro w4 hw4
                   exact qneq32 _ _ _ t 0 rfl rfl rfl _ hz hw4
                 · go_simp; rfl
                 go_big_quiet_on)
              | (go_big_quiet_want
                 apply quiet_by
                 · intro w4 hw4
                   exact qload _ 36 _ rfl rfl (qsecR (range_later HRG.out hw4) hs.1) hw4
                 · go_simp; rfl
                 go_big_quiet_on)
              | (go_big_quiet_want
                 apply quiet_by
                 · intro w4 hw4
                   exact qeqR _ _ _ s (Jo.headS t) rfl rfl rfl (sct_sec hs) (sct_sec hsT) _ HQ.out hw4
                 · go_simp; rfl
                 go_big_quiet_on)
              | (go_big_quiet_want
                 apply quiet_by
                 · intro w4 hw4
                   exact qgtr32 _ _ _ t b2 rfl rfl rfl _ HG.out hw4
                 · go_simp; rfl
                 go_big_quiet_on)
              | (go_big_quiet_want
                 apply quiet_by
                 · intro w4 hw4
                   go_simp
                   first
                     | rfl
                     | (go_at_call 61; exact class_of hw4 (rhead_c t _ hbd))
                 · go_simp; rfl
                 go_big_quiet_on))
            refine wpQuiet_nil ?_
            intro w12 hw12
            go_wp2
            go_roundw
            case rel => exact ⟨k + 1, by omega, by go_num, by rw [EB.out], by rw [EB.out], HB2.out.trans (hw12.mono HB2.out.size)⟩
            case measure => simp [intOf]; omega
          · have HG := hid (decide_eq_false hg)
            have EB : Hid (best (vwR L B) (k + 1) = best (vwR L B) k) := by
              show _ = _
              rw [HNX.out, E.out, ← hb2, if_neg hg]
            have EB2 : Hid ((best (vwR L B) (k + 1)).2 = b2) := by show _ = _; rw [EB.out, hb2]
            have EB1 : Hid ((best (vwR L B) (k + 1)).1 = (best (vwR L B) k).1) := by show _ = _; rw [EB.out]
            rw [← hb2, ← EB1.out]
            clear hb2
            refine wp_region_class (by kernel_rfl) (by kernel_rfl) ?_
            repeat (first
              | go_big_quiet_skip
              | (go_big_quiet_want
                 apply quiet_by (v := .bool true)
                 · intro w4 hw4
                   exact qneq32 _ _ _ t 0 rfl rfl rfl _ hz hw4
                 · go_simp; rfl
                 go_big_quiet_on)
              | (go_big_quiet_want
                 apply quiet_by
                 · intro w4 hw4
                   exact qload _ 36 _ rfl rfl (qsecR (range_later HRG.out hw4) hs.1) hw4
                 · go_simp; rfl
                 go_big_quiet_on)
              | (go_big_quiet_want
                 apply quiet_by
                 · intro w4 hw4
                   exact qeqR _ _ _ s (Jo.headS t) rfl rfl rfl (sct_sec hs) (sct_sec hsT) _ HQ.out hw4
                 · go_simp; rfl
                 go_big_quiet_on)
              | (go_big_quiet_want
                 apply quiet_by
                 · intro w4 hw4
                   exact qgtr32 _ _ _ t b2 rfl rfl rfl _ HG.out hw4
                 · go_simp; rfl
                 go_big_quiet_on)
              | (go_big_quiet_want
                 apply quiet_by
                 · intro w4 hw4
                   go_simp
                   first
                     | rfl
                     | (go_at_call 61; exact class_of hw4 (rhead_c t _ hbd))
                 · go_simp; rfl
                 go_big_quiet_on))
            refine wpQuiet_nil ?_
            intro w12 hw12
            go_wp2
            go_roundw
            case rel => exact ⟨k + 1, by omega, by go_num, rfl, by rw [EB2.out], HB2.out.trans (hw12.mono HB2.out.size)⟩
            case measure => simp [intOf]; omega
    · have hk2 : k = 2 := by omega
      subst hk2
      have HB9 := hid hB
      clear hB
      go_wp2
      go_ret2
      exact ⟨rfl, HB9.out⟩
end Go.Proofs.Ytfmkgflhgapeoab
namespace Go.Proofs.Ytfmkgflhgapeoab
open Go.RowKit Go.ChangeShapes Go.WideShapes Go.ChangeAt Go.Maps
set_option linter.unusedVariables false
set_option linter.unusedSimpArgs false
/-- As many parts as asked for, if they make up the load, however long each is. -/
def partsR : Nat → List Int → Option Jo.Gr
  | 0, l => if l.length = 0 then some [] else none
  | k + 1, l => if l.length < 4 then none else if ((l.length - 4 : Nat) : Int) < Fr.at4 l 0 then none else
      match partsR k ((l.drop 4).drop (Fr.at4 l 0).toNat) with
      | none => none
      | some g => some ((l.drop 4).take (Fr.at4 l 0).toNat :: g)
/-- What is left to be done behind gs. -/
def RestR (cnt : Nat) (L : List Int) (k : Nat) (gs : Jo.Gr) (r : List Int) : Prop :=
  gs.length = k ∧ partsR cnt L = (match partsR (cnt - k) r with | none => none | some g => some (gs ++ g))
theorem RestR.step {cnt k : Nat} {L r : List Int} {gs : Jo.Gr} (h : RestR cnt L k gs r) (hk : k < cnt) (h4 : ¬ r.length < 4) (hx : ¬ ((r.length - 4 : Nat) : Int) < Fr.at4 r 0) :
    RestR cnt L (k + 1) (gs ++ [(r.drop 4).take (Fr.at4 r 0).toNat]) ((r.drop 4).drop (Fr.at4 r 0).toNat) := by
  refine ⟨by simp [h.1], ?_⟩
  rw [h.2]
  obtain ⟨j, hj⟩ : ∃ j, cnt - k = j + 1 := ⟨cnt - k - 1, by omega⟩
  have e : cnt - (k + 1) = j := by omega
  rw [hj, e]
  conv => lhs; unfold partsR
  rw [if_neg h4, if_neg hx]
  cases partsR j ((r.drop 4).drop (Fr.at4 r 0).toNat) with
  | none => rfl
  | some g => simp
theorem RestR.stop {cnt k : Nat} {L r : List Int} {gs : Jo.Gr} (h : RestR cnt L k gs r) (hk : k < cnt) (hx : r.length < 4 ∨ ((r.length - 4 : Nat) : Int) < Fr.at4 r 0) : partsR cnt L = none := by
  rw [h.2]
  obtain ⟨j, hj⟩ : ∃ j, cnt - k = j + 1 := ⟨cnt - k - 1, by omega⟩
  rw [hj]
  have : partsR (j + 1) r = none := by
    unfold partsR
    by_cases h4 : r.length < 4
    · rw [if_pos h4]
    · rw [if_neg h4, if_pos (by omega)]
  rw [this]
theorem RestR.last {cnt : Nat} {L r : List Int} {gs : Jo.Gr} (h : RestR cnt L cnt gs r) : partsR cnt L = if r.length = 0 then some gs else none := by
  rw [h.2, Nat.sub_self]
  unfold partsR
  by_cases h0 : r.length = 0
  · rw [if_pos h0, if_pos h0]; simp
  · rw [if_neg h0, if_neg h0]
/-- The two say the same where no part is too long. -/
theorem parts_both : ∀ (k : Nat) (l : List Int) (g : Jo.Gr), Jo.partsF k l = some g ↔ partsR k l = some g ∧ ∀ p ∈ g, p.length ≤ 16384
  | 0, l, g => by
    unfold Jo.partsF partsR
    by_cases h : l.length = 0
    · rw [if_pos h]
      constructor
      · intro e; cases e; exact ⟨rfl, fun p hp => by cases hp⟩
      · intro e; exact e.1
    · rw [if_neg h]; simp
  | k + 1, l, g => by
    unfold Jo.partsF partsR
    by_cases h4 : l.length < 4
    · rw [if_pos h4, if_pos h4]; simp
    · rw [if_neg h4, if_neg h4]
      by_cases hr : ((l.length - 4 : Nat) : Int) < Fr.at4 l 0
      · rw [if_pos (.inr hr), if_pos hr]; simp
      · rw [if_neg hr]
        have hlen : ((l.drop 4).take (Fr.at4 l 0).toNat).length = (Fr.at4 l 0).toNat := by
          rw [List.length_take, List.length_drop]; omega
        by_cases hb : 16384 < Fr.at4 l 0
        · rw [if_pos (.inl hb)]
          constructor
          · intro e; cases e
          · rintro ⟨e, hp⟩
            exfalso
            cases hq : partsR k ((l.drop 4).drop (Fr.at4 l 0).toNat) with
            | none => rw [hq] at e; cases e
            | some g' =>
              rw [hq] at e
              simp only [Option.some.injEq] at e
              have := hp ((l.drop 4).take (Fr.at4 l 0).toNat) (by rw [← e]; simp)
              rw [hlen] at this; omega
        · rw [if_neg (by omega)]
          have ih := parts_both k ((l.drop 4).drop (Fr.at4 l 0).toNat)
          constructor
          · intro e
            cases hq : Jo.partsF k ((l.drop 4).drop (Fr.at4 l 0).toNat) with
            | none => rw [hq] at e; cases e
            | some g' =>
              rw [hq] at e
              simp only [Option.some.injEq] at e
              obtain ⟨i1, i2⟩ := (ih g').1 hq
              rw [i1]
              refine ⟨by simp only [Option.some.injEq]; exact e, fun p hp => ?_⟩
              rw [← e] at hp
              rcases List.mem_cons.1 hp with rfl | hp
              · rw [hlen]; omega
              · exact i2 p hp
          · rintro ⟨e, hp⟩
            cases hq : partsR k ((l.drop 4).drop (Fr.at4 l 0).toNat) with
            | none => rw [hq] at e; cases e
            | some g' =>
              rw [hq] at e
              simp only [Option.some.injEq] at e
              have := (ih g').2 ⟨hq, fun p h => hp p (by rw [← e]; simp [h])⟩
              rw [this]
              simp only [Option.some.injEq]; exact e
/-- What parts answers. -/
def PartsRPost (cnt : Nat) (L : List Int) (w : World) (e : Ending) (w' : World) : Prop :=
  (∃ v ok, e = .returned (.tuple #[v, .bool ok]) ∧ ((∃ g, partsR cnt L = some g ∧ ok = true ∧ PG w.heap.size w' v g) ∨ (partsR cnt L = none ∧ ok = false))) ∧ Below w.heap.size w w'
set_option maxRecDepth 20000 in
set_option maxHeartbeats 4000000 in
theorem rparts_c (la : Option Addr) (len cap cnt : Nat) (L : List Int) (w : World) (h : IsB w la len L) (hlc : len ≤ cap) (hc : cnt < 256) (hcap : cap ≤ 9223372036854775807 ∧ len ≤ 1000000) :
    Calls Try.prog 82 #[.slice la len cap, .int .i64 cnt] w (PartsRPost cnt L w) := by
  have hby : Jo.Bytes L := fun x hx => by have := mem_isB h x hx; omega
  obtain ⟨i0, hi, hz0, hz1, hz2⟩ := info54
  have HB0 := hid hby
  have H0 := hid h
  clear h hby
  go_enter Try.func82, Try.ntmps82
  go_wp2
  go_loopw [0, 6, 7] (fun s v i wr => ∃ (k : Nat) (r : List Int) (a : Option Addr) (m c : Nat) (gs : Jo.Gr), k ≤ cnt ∧ i = .int .i64 k ∧ s = .slice a m c ∧ IsB w a m r ∧ m ≤ c ∧ (c ≤ 9223372036854775807 ∧ m ≤ 1000000) ∧ Jo.Bytes r ∧ RestR cnt L k gs r ∧ PG w.heap.size wr v gs ∧ Below w.heap.size w wr) (fun _ _ i _ => cnt - (intOf i).toNat)
  case atStart => exact ⟨0, L, la, len, cap, [], Nat.zero_le _, rfl, rfl, H0.out, hlc, hcap, HB0.out, ⟨rfl, by cases partsR (cnt - 0) L <;> simp_all⟩, PG.nil _ _, Below.refl _ _⟩
  case round =>
    obtain ⟨k, r, a, m, c, gs, hk, rfl, rfl, hI, hmc, hc1, hby, hR, hP, hB⟩ := hrel
    have hrl := hI.1
    have HR := hid hR
    have HP := hid hP
    have HB := hid hB
    have HI := hid hI
    have HY := hid hby
    obtain ⟨gv, gc, rfl⟩ : ∃ gv gc, u6 = .slice gv gs.length gc := by obtain ⟨vals, h1, _⟩ := hP; exact own_shape6 h1
    clear hR hP hB hI hby
    by_cases hlt : k < cnt
    · by_cases h4 : m < 4
      · have E := hid (HR.out.stop hlt (.inl (by rw [hrl]; exact h4)))
        have h4' : (m : Int) < 4 := by omega
        go_wp2
        go_ret2
        exact ⟨⟨_, _, rfl, .inr ⟨E.out, rfl⟩⟩, HB.out⟩
      · obtain ⟨b, off, rfl, _⟩ := HI.out.2.2.1 (by omega)
        have hx := Fr.num4_lt (r.getD 0 0) (r.getD 1 0) (r.getD 2 0) (r.getD 3 0) (HI.out.2.2.2 0) (HI.out.2.2.2 1) (HI.out.2.2.2 2) (HI.out.2.2.2 3)
        have hx' : 0 ≤ Fr.at4 r 0 ∧ Fr.at4 r 0 < 4294967296 := hx
        obtain ⟨x, hxe⟩ : ∃ x : Nat, Fr.at4 r 0 = x := ⟨(Fr.at4 r 0).toNat, by omega⟩
        have RN : Hid (∀ W, Below w.heap.size w W → Calls Try.prog 60 #[.slice (some ⟨b, off, none⟩) m c] W fun e w' => e = .returned (.int .u32 x) ∧ Below W.heap.size W w') := fun W hW => by
          have := rnum_c (some ⟨b, off, none⟩) m c r W (HI.out.later hW) (by omega)
          rw [hxe] at this; exact this
        clear hx
        have h4' : ¬ (m : Int) < 4 := by omega
        have h4c : (4 : Int) ≤ m := by omega
        by_cases hbad : m - 4 < x
        · have E := hid (HR.out.stop hlt (.inr (by rw [hxe, hrl]; omega)))
          have hb2' : (m : Int) - 4 < x := by omega
          rw [hxe] at hx'
          go_wp2_with (go_at_call 60; refine (RN.out _ HB.out).mono ?_; rintro e w1 ⟨rfl, hb1⟩)
          all_goals
            go_ret2
            exact ⟨⟨_, _, rfl, .inr ⟨E.out, rfl⟩⟩, HB.out.trans (hb1.mono HB.out.size)⟩
        · have HS := hid (HR.out.step hlt (by omega) (by rw [hxe, hrl]; omega))
          have hxt : (Fr.at4 r 0).toNat = x := by omega
          rw [hxt] at HS
          have hg4 : gs.length ≤ 256 := by rw [HR.out.1]; omega
          have b2 : ¬ (m : Int) - 4 < x := by omega
          have b3 : (x : Int) ≤ ((m - 4 : Nat) : Int) := by omega
          have b0 : (0 : Int) ≤ x := by omega
          have b5 : 4 + (x : Int) ≤ m := by omega
          have b6 : 4 + (x : Int) ≤ c := by omega
          clear hxe hxt hx'
          by_cases hc4 : c = 4
          · have hm4 : m = 4 := by omega
            have hx0 : x = 0 := by omega
            have c1 : c - 4 = 0 := by omega
            have c3 : c - (4 + x) = 0 := by omega
            have hd0 : r.drop 4 = [] := List.eq_nil_of_length_eq_zero (by rw [List.length_drop]; omega)
            have CI0 : Hid (∀ W, Below w.heap.size w W → IsB W (some ⟨b, off, none⟩) x ((r.drop 4).take x)) := fun W hW => by
              rw [hd0, hx0]; exact ⟨rfl, by decide, fun h => absurd h (by omega), fun i => by simp⟩
            have NI : Hid (IsB w (some ⟨b, off, none⟩) (m - (4 + x)) ((r.drop 4).drop x)) := by
              rw [hd0, show m - (4 + x) = 0 by omega]; simp only [List.drop_nil]; exact ⟨rfl, by decide, fun h => absurd h (by omega), fun i => by simp⟩
            have HM4 := hid hm4
            have HX0 := hid hx0
            have HC4 := hid hc4
            clear hm4 hx0 hc4 hd0
            go_wp2_with (first
              | (have _q := K3.out; clear _q K3; at_builtin; (refine wpList_append_own _ rfl _ _ 22 rfl w.heap.size 31 i0 (.slice none 0 0) 1 24 Try.underlying22 hi hz0 hz1 hz2 rfl (by decide) _ _ _ rfl (P1.alloc _) ⟨w5.heap.size, 0, none⟩ 1 1 [.slice ua ul uc] rfl rfl (cell_one_new _ _ _) (fun y hy => by simp at hy; subst hy; rfl) (by unfold maxLen; omega) (by omega) (by have := HB5.out.size; simp; omega) ?_; intro v9 w9 hown9 hgrow9 hnil9))
              | (have _q := K2.out; clear _q K2; at_builtin; refine wpList_appendB _ rfl _ _ rfl w2.heap.size _ _ _ rfl (own_emptyB w2) (some ⟨b, off, none⟩) (4 + x - 4) _ ((r.drop 4).take x) rfl (by rw [Nat.add_sub_cancel_left]; exact CI.out _ ((Below.refl _ w2).alloc (Nat.le_refl _) (.cells #[] 5))) (fun e => by cases e) (by omega) (by simp) ?_; intro u5 w5 hu5 hgrow5; (have B5 : Below w2.heap.size w2 w5 := below_grown ((Below.refl _ w2).alloc (Nat.le_refl _) (.cells #[] 5)) (own_emptyB w2) (Nat.le_refl _) (by simp) hgrow5); (have HB5 := hid (HB2.out.trans (B5.mono HB2.out.size))); obtain ⟨vals, P1, P2⟩ := (HP.out.later ((HWR.out).trans (B5.mono HWR.out.size))); rw [List.nil_append, Nat.zero_add, Nat.add_sub_cancel_left] at hu5; obtain ⟨ul, hul⟩ : ∃ ul, ul = x := ⟨_, rfl⟩; rw [← hul] at hu5; obtain ⟨ua, uc, rfl⟩ := own_shape6 hu5; (have HUL := hid hul); clear hul; (have K3 : Hid True := hid trivial))
              | (go_at_call 60; refine (RN.out _ HB1.out).mono ?_; rintro e w2 ⟨rfl, hb2⟩; (have HB2 := hid (HB1.out.trans (hb2.mono HB1.out.size))); (have HWR := hid (HW1.out.trans (hb2.mono HW1.out.size))); (have CI : Hid (∀ W, Below w2.heap.size w2 W → IsB W (some ⟨b, off, none⟩) x ((r.drop 4).take x)) := fun W hW => CI0.out W (HB2.out.trans (hW.mono HB2.out.size))); (have K2 : Hid True := hid trivial))
              | (go_at_call 60; refine (RN.out _ HB.out).mono ?_; rintro e w1 ⟨rfl, hb1⟩; (have HB1 := hid (HB.out.trans (hb1.mono HB.out.size))); (have HW1 := hid hb1)))
            have hul := HUL.out
            clear HUL
            subst hul
            have hlx : ((r.drop 4).take ul).length = ul := by rw [List.length_take, List.length_drop]; omega
            have hu6 : w5.ownsRow w.heap.size 5 1 (.slice ua ul uc) ((r.drop 4).take ul).length (((r.drop 4).take ul).map by8) := by rw [hlx]; exact own_base hu5 HB2.out.size
            have P9 := PG.snoc (w := w5.alloc (.cells #[.slice ua _ uc] 31)) (P1.alloc _) (fun i hi => by obtain ⟨u, e1, e2, e3⟩ := P2 i hi; exact ⟨u, e1, e2.alloc _, e3⟩) (hu6.alloc _) (Jo.bytes_take (Jo.bytes_drop HY.out 4) _) hgrow9 hown9
            have B9 : Below w.heap.size w w9 := below_grown (HB5.out.alloc HB5.out.size _) (P1.alloc _) (Nat.le_refl _) (by have := HB5.out.size; simp; omega) hgrow9
            obtain ⟨a9, c9, rfl⟩ := own_shape6 hown9
            go_roundw
            case rel => exact ⟨k + 1, (r.drop 4).drop ul, (some ⟨b, off, none⟩), _, _, _, by omega, by go_num, rfl, NI.out, by omega, by omega, Jo.bytes_drop (Jo.bytes_drop HY.out _) _, HS.out, P9, B9⟩
            case measure => simp [intOf]; omega
          · have c2 : ¬ c - 4 = 0 := by omega
            have CI0 : Hid (∀ W, Below w.heap.size w W → IsB W (some ⟨b, off + 4, none⟩) x ((r.drop 4).take x)) := fun W hW => by
              have h1 := isB_sub (HI.out.later hW) 4 (m - 4) (by omega)
              rw [List.take_of_length_le (by simp; omega)] at h1
              exact h1.front x (by omega)
            by_cases hxm : c = 4 + x
            · have hd0 : (r.drop 4).drop x = [] := List.eq_nil_of_length_eq_zero (by rw [List.length_drop, List.length_drop]; omega)
              have NI : Hid (IsB w (some ⟨b, off, none⟩) (m - (4 + x)) ((r.drop 4).drop x)) := by
                rw [hd0, show m - (4 + x) = 0 by omega]; exact ⟨rfl, by decide, fun h => absurd h (by omega), fun i => by simp⟩
              have c3 : c - (4 + x) = 0 := by omega
              have HXM := hid hxm
              clear hxm hd0
              go_wp2_with (first
                | (have _q := K3.out; clear _q K3; at_builtin; (refine wpList_append_own _ rfl _ _ 22 rfl w.heap.size 31 i0 (.slice none 0 0) 1 24 Try.underlying22 hi hz0 hz1 hz2 rfl (by decide) _ _ _ rfl (P1.alloc _) ⟨w5.heap.size, 0, none⟩ 1 1 [.slice ua ul uc] rfl rfl (cell_one_new _ _ _) (fun y hy => by simp at hy; subst hy; rfl) (by unfold maxLen; omega) (by omega) (by have := HB5.out.size; simp; omega) ?_; intro v9 w9 hown9 hgrow9 hnil9))
                | (have _q := K2.out; clear _q K2; at_builtin; refine wpList_appendB _ rfl _ _ rfl w2.heap.size _ _ _ rfl (own_emptyB w2) (some ⟨b, off + 4, none⟩) (4 + x - 4) _ ((r.drop 4).take x) rfl (by rw [Nat.add_sub_cancel_left]; exact CI.out _ ((Below.refl _ w2).alloc (Nat.le_refl _) (.cells #[] 5))) (fun e => by cases e) (by omega) (by simp) ?_; intro u5 w5 hu5 hgrow5; (have B5 : Below w2.heap.size w2 w5 := below_grown ((Below.refl _ w2).alloc (Nat.le_refl _) (.cells #[] 5)) (own_emptyB w2) (Nat.le_refl _) (by simp) hgrow5); (have HB5 := hid (HB2.out.trans (B5.mono HB2.out.size))); obtain ⟨vals, P1, P2⟩ := (HP.out.later ((HWR.out).trans (B5.mono HWR.out.size))); rw [List.nil_append, Nat.zero_add, Nat.add_sub_cancel_left] at hu5; obtain ⟨ul, hul⟩ : ∃ ul, ul = x := ⟨_, rfl⟩; rw [← hul] at hu5; obtain ⟨ua, uc, rfl⟩ := own_shape6 hu5; (have HUL := hid hul); clear hul; (have K3 : Hid True := hid trivial))
                | (go_at_call 60; refine (RN.out _ HB1.out).mono ?_; rintro e w2 ⟨rfl, hb2⟩; (have HB2 := hid (HB1.out.trans (hb2.mono HB1.out.size))); (have HWR := hid (HW1.out.trans (hb2.mono HW1.out.size))); (have CI : Hid (∀ W, Below w2.heap.size w2 W → IsB W (some ⟨b, off + 4, none⟩) x ((r.drop 4).take x)) := fun W hW => CI0.out W (HB2.out.trans (hW.mono HB2.out.size))); (have K2 : Hid True := hid trivial))
                | (go_at_call 60; refine (RN.out _ HB.out).mono ?_; rintro e w1 ⟨rfl, hb1⟩; (have HB1 := hid (HB.out.trans (hb1.mono HB.out.size))); (have HW1 := hid hb1)))
              have hul := HUL.out
              clear HUL
              subst hul
              have hlx : ((r.drop 4).take ul).length = ul := by rw [List.length_take, List.length_drop]; omega
              have hu6 : w5.ownsRow w.heap.size 5 1 (.slice ua ul uc) ((r.drop 4).take ul).length (((r.drop 4).take ul).map by8) := by rw [hlx]; exact own_base hu5 HB2.out.size
              have P9 := PG.snoc (w := w5.alloc (.cells #[.slice ua _ uc] 31)) (P1.alloc _) (fun i hi => by obtain ⟨u, e1, e2, e3⟩ := P2 i hi; exact ⟨u, e1, e2.alloc _, e3⟩) (hu6.alloc _) (Jo.bytes_take (Jo.bytes_drop HY.out 4) _) hgrow9 hown9
              have B9 : Below w.heap.size w w9 := below_grown (HB5.out.alloc HB5.out.size _) (P1.alloc _) (Nat.le_refl _) (by have := HB5.out.size; simp; omega) hgrow9
              obtain ⟨a9, c9, rfl⟩ := own_shape6 hown9
              go_roundw
              case rel => exact ⟨k + 1, (r.drop 4).drop ul, (some ⟨b, off, none⟩), _, _, _, by omega, by go_num, rfl, NI.out, by omega, by omega, Jo.bytes_drop (Jo.bytes_drop HY.out _) _, HS.out, P9, B9⟩
              case measure => simp [intOf]; omega
            · have NI : Hid (IsB w (some ⟨b, off + (4 + x), none⟩) (m - (4 + x)) ((r.drop 4).drop x)) := by
                have h1 := isB_sub HI.out (4 + x) (m - (4 + x)) (by omega)
                rw [List.take_of_length_le (by simp; omega), ← List.drop_drop] at h1
                exact h1
              have c3 : ¬ c - (4 + x) = 0 := by omega
              go_wp2_with (first
                | (have _q := K3.out; clear _q K3; at_builtin; (refine wpList_append_own _ rfl _ _ 22 rfl w.heap.size 31 i0 (.slice none 0 0) 1 24 Try.underlying22 hi hz0 hz1 hz2 rfl (by decide) _ _ _ rfl (P1.alloc _) ⟨w5.heap.size, 0, none⟩ 1 1 [.slice ua ul uc] rfl rfl (cell_one_new _ _ _) (fun y hy => by simp at hy; subst hy; rfl) (by unfold maxLen; omega) (by omega) (by have := HB5.out.size; simp; omega) ?_; intro v9 w9 hown9 hgrow9 hnil9))
                | (have _q := K2.out; clear _q K2; at_builtin; refine wpList_appendB _ rfl _ _ rfl w2.heap.size _ _ _ rfl (own_emptyB w2) (some ⟨b, off + 4, none⟩) (4 + x - 4) _ ((r.drop 4).take x) rfl (by rw [Nat.add_sub_cancel_left]; exact CI.out _ ((Below.refl _ w2).alloc (Nat.le_refl _) (.cells #[] 5))) (fun e => by cases e) (by omega) (by simp) ?_; intro u5 w5 hu5 hgrow5; (have B5 : Below w2.heap.size w2 w5 := below_grown ((Below.refl _ w2).alloc (Nat.le_refl _) (.cells #[] 5)) (own_emptyB w2) (Nat.le_refl _) (by simp) hgrow5); (have HB5 := hid (HB2.out.trans (B5.mono HB2.out.size))); obtain ⟨vals, P1, P2⟩ := (HP.out.later ((HWR.out).trans (B5.mono HWR.out.size))); rw [List.nil_append, Nat.zero_add, Nat.add_sub_cancel_left] at hu5; obtain ⟨ul, hul⟩ : ∃ ul, ul = x := ⟨_, rfl⟩; rw [← hul] at hu5; obtain ⟨ua, uc, rfl⟩ := own_shape6 hu5; (have HUL := hid hul); clear hul; (have K3 : Hid True := hid trivial))
                | (go_at_call 60; refine (RN.out _ HB1.out).mono ?_; rintro e w2 ⟨rfl, hb2⟩; (have HB2 := hid (HB1.out.trans (hb2.mono HB1.out.size))); (have HWR := hid (HW1.out.trans (hb2.mono HW1.out.size))); (have CI : Hid (∀ W, Below w2.heap.size w2 W → IsB W (some ⟨b, off + 4, none⟩) x ((r.drop 4).take x)) := fun W hW => CI0.out W (HB2.out.trans (hW.mono HB2.out.size))); (have K2 : Hid True := hid trivial))
                | (go_at_call 60; refine (RN.out _ HB.out).mono ?_; rintro e w1 ⟨rfl, hb1⟩; (have HB1 := hid (HB.out.trans (hb1.mono HB.out.size))); (have HW1 := hid hb1)))
              have hul := HUL.out
              clear HUL
              subst hul
              have hlx : ((r.drop 4).take ul).length = ul := by rw [List.length_take, List.length_drop]; omega
              have hu6 : w5.ownsRow w.heap.size 5 1 (.slice ua ul uc) ((r.drop 4).take ul).length (((r.drop 4).take ul).map by8) := by rw [hlx]; exact own_base hu5 HB2.out.size
              have P9 := PG.snoc (w := w5.alloc (.cells #[.slice ua _ uc] 31)) (P1.alloc _) (fun i hi => by obtain ⟨u, e1, e2, e3⟩ := P2 i hi; exact ⟨u, e1, e2.alloc _, e3⟩) (hu6.alloc _) (Jo.bytes_take (Jo.bytes_drop HY.out 4) _) hgrow9 hown9
              have B9 : Below w.heap.size w w9 := below_grown (HB5.out.alloc HB5.out.size _) (P1.alloc _) (Nat.le_refl _) (by have := HB5.out.size; simp; omega) hgrow9
              obtain ⟨a9, c9, rfl⟩ := own_shape6 hown9
              go_roundw
              case rel => exact ⟨k + 1, (r.drop 4).drop ul, (some ⟨b, off + (4 + ul), none⟩), _, _, _, by omega, by go_num, rfl, NI.out, by omega, by omega, Jo.bytes_drop (Jo.bytes_drop HY.out _) _, HS.out, P9, B9⟩
              case measure => simp [intOf]; omega
    · have hkc : k = cnt := by omega
      subst hkc
      have E := hid HR.out.last
      have hge : ¬ (k : Int) < k := by omega
      go_wp2
      go_ret2
      refine ⟨⟨_, _, rfl, ?_⟩, HB.out⟩
      rw [E.out, hrl]
      by_cases h0 : m = 0
      · rw [if_pos h0]; exact .inl ⟨_, rfl, by simp [h0], HP.out⟩
      · rw [if_neg h0]; exact .inr ⟨rfl, by simp [h0]⟩
end Go.Proofs.Ytfmkgflhgapeoab
namespace Go.Proofs.Ytfmkgflhgapeoab
open Go.RowKit
set_option linter.unusedVariables false
set_option linter.unusedSimpArgs false
theorem le4_at4 {l : List Int} (hb : Jo.Bytes l) (h4 : 4 ≤ l.length) : Fr.le4 (Fr.at4 l 0) = l.take 4 := by
  match l, h4 with
  | a :: b :: c :: d :: r, _ =>
    have h0 := hb a (by simp)
    have h1 := hb b (by simp)
    have h2 := hb c (by simp)
    have h3 := hb d (by simp)
    have e : Fr.at4 (a :: b :: c :: d :: r) 0 = Fr.num4 a b c d := rfl
    rw [e]
    show Fr.le4 (Fr.num4 a b c d) = [a, b, c, d]
    unfold Fr.le4 Fr.num4
    simp only [List.cons.injEq, and_true]
    omega
theorem parts_len : ∀ (k : Nat) (l : List Int) (g : Jo.Gr), partsR k l = some g → g.length = k
  | 0, l, g, h => by
    unfold partsR at h
    split at h
    · cases h; rfl
    · cases h
  | k + 1, l, g, h => by
    unfold partsR at h
    split at h
    · cases h
    · split at h
      · cases h
      · split at h
        · cases h
        · rename_i g' hg
          cases h
          simp [parts_len k _ g' hg]
theorem load_parts : ∀ (k : Nat) (l : List Int) (g : Jo.Gr), Jo.Bytes l → partsR k l = some g → Jo.loadF g = l
  | 0, l, g, _, h => by
    unfold partsR at h
    split at h
    · rename_i h0; cases h; rw [List.eq_nil_of_length_eq_zero h0]; rfl
    · cases h
  | k + 1, l, g, hb, h => by
    unfold partsR at h
    split at h
    · cases h
    · rename_i h4
      split at h
      · cases h
      · rename_i hx
        split at h
        · cases h
        · rename_i g' hg
          cases h
          have h0 : 0 ≤ Fr.at4 l 0 := (at4_bd hb 0).1
          have hlen : ((l.drop 4).take (Fr.at4 l 0).toNat).length = (Fr.at4 l 0).toNat := by rw [List.length_take, List.length_drop]; omega
          have ih := load_parts k _ g' (Jo.bytes_drop (Jo.bytes_drop hb _) _) hg
          rw [Jo.load_cons, ih, hlen]
          have e : (((Fr.at4 l 0).toNat : Nat) : Int) = Fr.at4 l 0 := by omega
          rw [e, le4_at4 hb (by omega), List.append_assoc, List.take_append_drop, List.take_append_drop]
/-- The bytes in sectors. -/
def bodyR (ss : List (List Int)) : List Int := (ss.map (List.drop 1)).flatten
theorem body_len {ss : List (List Int)} (h : ∀ s ∈ ss, s.length = 32) : (bodyR ss).length = 31 * ss.length := by
  unfold bodyR
  induction ss with
  | nil => rfl
  | cons s ss ih =>
    have h1 := h s (by simp)
    have h2 := ih fun u hu => h u (by simp [hu])
    simp only [List.map_cons, List.flatten_cons, List.length_append, h2, List.length_drop, h1, List.length_cons]
    omega
/-- Sectors that bear the mark of a load, and noughts behind it, are just those of the load. -/
theorem data_of : ∀ (m : Nat) (ss : List (List Int)) (l : List Int), ss.length = m → (∀ s ∈ ss, s.length = 32 ∧ s.getD 0 0 = 68) → 31 * m ≤ l.length + 30 → bodyR ss = l.take (31 * m) ++ List.replicate (31 * m - l.length) 0 → ss = Jo.dataL l m := by
  intro m
  induction m with
  | zero =>
    intro ss l hs _ _ _
    rw [List.eq_nil_of_length_eq_zero hs]; rfl
  | succ m ih =>
    intro ss l hs hm hl hb
    obtain ⟨a, s, rfl⟩ : ∃ a s, ss = a ++ [s] := ⟨ss.take m, ss[m], by rw [List.take_append_getElem]; exact (List.take_of_length_le (by omega)).symm⟩
    have hal : a.length = m := by simp at hs; omega
    have h1 : bodyR (a ++ [s]) = bodyR a ++ s.drop 1 := by unfold bodyR; simp
    have hbl : (bodyR a).length = 31 * m := by rw [body_len (fun u hu => (hm u (by simp [hu])).1), hal]
    have hsl := hm s (by simp)
    have e0 : l.take (31 * (m + 1)) = l.take (31 * m) ++ Jo.chunk l m := by
      unfold Jo.chunk; rw [show 31 * (m + 1) = 31 * m + 31 by omega, List.take_add]
    have e1 : 31 * m - l.length = 0 := by omega
    have htl : (l.take (31 * m)).length = 31 * m := by rw [List.length_take]; omega
    rw [h1, e0, List.append_assoc] at hb
    obtain ⟨p1, p2⟩ := List.append_inj hb (by rw [hbl, htl])
    have ia := ih a l hal (fun u hu => hm u (by simp [hu])) (by omega) (by rw [p1, e1]; simp)
    rw [Jo.dataL_snoc, ← ia]
    congr 1
    have hs0 : s = 68 :: s.drop 1 := by
      cases s with
      | nil => simp at hsl
      | cons x r => have := hsl.2; simp at this; simp [this]
    rw [hs0, p2]
    unfold Jo.dataS Jo.pad
    simp only [List.cons_append, List.length_cons, Jo.chunk_len]
    congr 3
    congr 1
    omega
theorem mark_data' (l : List Int) (k : Nat) : (Jo.dataS l k).getD 0 0 = 68 := rfl
/-- What the document asks of sectors that begin with a group. -/
structure GrR (t n : Int) (h : List Int) (rest : List (List Int)) (g : Jo.Gr) : Prop where
  first : h = Jo.firstS t n (h.getD 9 0) (Fr.at4 h 10)
  few : 1 ≤ h.getD 9 0 ∧ h.getD 9 0 ≤ 8
  room : Fr.at4 h 10 ≤ 31 * (rest.length + 1 : Nat)
  fits : Jo.many (Fr.at4 h 10).toNat < rest.length
  marks : ∀ s ∈ rest.take (Jo.many (Fr.at4 h 10).toNat), s.getD 0 0 = 68
  zeros : ∀ i : Nat, (Fr.at4 h 10).toNat ≤ i → (bodyR (rest.take (Jo.many (Fr.at4 h 10).toNat))).getD i 0 = 0
  last : rest.getD (Jo.many (Fr.at4 h 10).toNat) [] = Jo.lastS t n
  parts : partsR (h.getD 9 0).toNat ((bodyR (rest.take (Jo.many (Fr.at4 h 10).toNat))).take (Fr.at4 h 10).toNat) = some g
  need : Jo.needF g = Jo.many (Fr.at4 h 10).toNat + 2
theorem bytes_body {ss : List (List Int)} (h : ∀ s ∈ ss, Jo.Sct s) : Jo.Bytes (bodyR ss) := Jo.bytes_flat fun l hl => by
  obtain ⟨u, hu, rfl⟩ := List.mem_map.1 hl
  exact Jo.bytes_drop (h u hu).2 _
theorem GrR.read {t n : Int} {h : List Int} {rest : List (List Int)} {g : Jo.Gr} (G : GrR t n h rest g) (hh : Jo.Sct h) (hr : ∀ s ∈ rest, Jo.Sct s) : Jo.readF t n (h :: rest) = some g := by
  obtain ⟨g1, g2, g3, g4, g5, g6, g7, g8, g9⟩ := G
  have hbd := at4_bd hh.2 10
  obtain ⟨z, hz⟩ : ∃ z : Nat, Fr.at4 h 10 = z := ⟨(Fr.at4 h 10).toNat, by omega⟩
  obtain ⟨q, hq⟩ : ∃ q : Nat, h.getD 9 0 = q := ⟨(h.getD 9 0).toNat, by omega⟩
  rw [hz, hq] at g1
  rw [hz] at g3 g4 g5 g6 g7 g8 g9
  rw [hq] at g2 g8
  simp only [Int.toNat_natCast] at g4 g5 g6 g7 g8 g9
  have hm := Jo.many_le z
  obtain ⟨D, hD⟩ : ∃ D, D = rest.take (Jo.many z) := ⟨_, rfl⟩
  rw [← hD] at g5 g6 g8
  have hDl : D.length = Jo.many z := by rw [hD, List.length_take]; omega
  have hDs : ∀ s ∈ D, Jo.Sct s := fun s hs => hr s (by rw [hD] at hs; exact List.mem_of_mem_take hs)
  have hbl : (bodyR D).length = 31 * Jo.many z := by rw [body_len (fun s hs => (hDs s hs).1), hDl]
  obtain ⟨l, hl⟩ : ∃ l, l = (bodyR D).take z := ⟨_, rfl⟩
  rw [← hl] at g8
  have hll : l.length = z := by rw [hl, List.length_take]; omega
  have hlb : Jo.Bytes l := by rw [hl]; exact Jo.bytes_take (bytes_body hDs) _
  have hlo := load_parts _ _ _ hlb g8
  have hgl := parts_len _ _ _ g8
  have hne := Jo.need_pos (g := g) (by rw [g9]; omega)
  have hbody : bodyR D = l.take (31 * Jo.many z) ++ List.replicate (31 * Jo.many z - l.length) 0 := by
    rw [List.take_of_length_le (by omega), hll, hl]
    apply List.ext_getElem?
    intro i
    by_cases hi : i < z
    · rw [List.getElem?_append_left (by rw [List.length_take]; omega), List.getElem?_take, if_pos hi]
    · rw [List.getElem?_append_right (by rw [List.length_take]; omega), List.length_take, Nat.min_eq_left (by omega)]
      by_cases hi2 : i < 31 * Jo.many z
      · have := g6 i (by omega)
        rw [List.getD, List.getElem?_eq_getElem (by omega)] at this
        rw [List.getElem?_eq_getElem (by omega), List.getElem?_replicate, if_pos (by omega)]
        simpa using this
      · rw [List.getElem?_eq_none (by omega), List.getElem?_eq_none (by rw [List.length_replicate]; omega)]
  have hDd := data_of (Jo.many z) D l hDl (fun s hs => ⟨(hDs s hs).1, g5 s hs⟩) (by omega) hbody
  refine Jo.read_of ⟨hne.1, rest.drop (Jo.many z + 1), ?_⟩
  have hrest : rest = D ++ (Jo.lastS t n :: rest.drop (Jo.many z + 1)) := by
    have e1 : rest.getD (Jo.many z) [] = rest[Jo.many z] := by rw [List.getD, List.getElem?_eq_getElem g4]; rfl
    rw [← g7, e1, hD]
    conv => lhs; rw [← List.take_append_drop (Jo.many z) rest]
    rw [List.drop_eq_getElem_cons g4]
  unfold Jo.laid
  rw [hlo, hll, hgl]
  simp only [Int.toNat_natCast, List.cons_append, List.append_assoc, List.nil_append]
  rw [← hDd, ← hrest, ← g1]
theorem grR_of {t n : Int} {h : List Int} {rest : List (List Int)} {g : Jo.Gr} (e : Jo.readF t n (h :: rest) = some g) (hs : ∀ s ∈ h :: rest, Jo.Sct s) : GrR t n h rest g := by
  obtain ⟨⟨ho, r, hr⟩, hb⟩ := Jo.of_read e hs
  obtain ⟨o1, o2, o3⟩ := Jo.ok_iff.1 ho
  have hL := Jo.ok_load ho
  have hm := Jo.many_le (Jo.loadF g).length
  unfold Jo.laid at hr
  simp only [List.cons_append, List.append_assoc, List.nil_append, List.cons.injEq] at hr
  obtain ⟨rfl, hr2⟩ := hr
  have e9 : (Jo.firstS t n g.length (Jo.loadF g).length).getD 9 0 = g.length := Jo.getD_first _ _ _ _
  have e10 : Fr.at4 (Jo.firstS t n g.length (Jo.loadF g).length) 10 = (Jo.loadF g).length := Jo.at4_first _ _ _ _ (by omega) (by omega)
  have hdl : (Jo.dataL (Jo.loadF g) (Jo.many (Jo.loadF g).length)).length = Jo.many (Jo.loadF g).length := by unfold Jo.dataL; simp
  have htk : rest.take (Jo.many (Jo.loadF g).length) = Jo.dataL (Jo.loadF g) (Jo.many (Jo.loadF g).length) := by rw [hr2]; exact List.take_left' hdl
  have hrl : rest.length = Jo.many (Jo.loadF g).length + 1 + r.length := by rw [hr2]; simp [hdl]; omega
  have hbody : bodyR (Jo.dataL (Jo.loadF g) (Jo.many (Jo.loadF g).length)) = (Jo.loadF g).take (31 * Jo.many (Jo.loadF g).length) ++ List.replicate (31 * Jo.many (Jo.loadF g).length - (Jo.loadF g).length) 0 := Jo.data_flat _ _ hm.1
  rw [List.take_of_length_le hm.2] at hbody
  refine ⟨?_, ?_, ?_, ?_, ?_, ?_, ?_, ?_, ?_⟩
  · rw [e9, e10]
  · rw [e9]; omega
  · rw [e10, hrl]; omega
  · rw [e10]; simp only [Int.toNat_natCast]; omega
  · rw [e10]; simp only [Int.toNat_natCast]
    rw [htk]
    intro s hs'
    unfold Jo.dataL at hs'
    obtain ⟨k, _, rfl⟩ := List.mem_map.1 hs'
    exact mark_data' _ _
  · rw [e10]; simp only [Int.toNat_natCast]
    rw [htk, hbody]
    intro i hi
    rw [List.getD, List.getElem?_append_right hi]
    by_cases h2 : i - (Jo.loadF g).length < 31 * Jo.many (Jo.loadF g).length - (Jo.loadF g).length
    · rw [List.getElem?_replicate, if_pos h2]; rfl
    · rw [List.getElem?_eq_none (by rw [List.length_replicate]; omega)]; rfl
  · rw [e10]; simp only [Int.toNat_natCast]
    rw [hr2, List.getD, List.getElem?_append_right (by omega), hdl, Nat.sub_self]; rfl
  · rw [e9, e10]; simp only [Int.toNat_natCast]
    rw [htk, hbody, List.take_append_of_le_length (Nat.le_refl _), List.take_length]
    exact ((parts_both _ _ _).1 (Jo.parts_load g o3)).1
  · rw [e10]; simp only [Int.toNat_natCast]
    rw [Jo.need_ok ho]; unfold Jo.secsOf; omega
end Go.Proofs.Ytfmkgflhgapeoab
namespace Go.Proofs.Ytfmkgflhgapeoab
open Go.RowKit Go.ChangeShapes Go.WideShapes Go.ChangeAt Go.Maps
set_option linter.unusedVariables false
set_option linter.unusedSimpArgs false
theorem bufAt_iff {B : List (Int × Sec)} (hp : B.Pairwise (fun p q => p.1 < q.1)) (i : Int) (s : Sec) : bufAt B i = some s ↔ (i, s) ∈ B := by
  induction B with
  | nil => simp [bufAt]
  | cons p B ih =>
    rw [List.pairwise_cons] at hp
    have ih := ih hp.2
    by_cases h : p.1 = i
    · have e : bufAt (p :: B) i = some p.2 := by simp [bufAt, h]
      rw [e]
      constructor
      · intro h2
        cases h2
        rw [← h]
        simp
      · intro h2
        rcases List.mem_cons.1 h2 with h3 | h3
        · rw [← h3]
        · have := hp.1 _ h3
          simp at this
          omega
    · have e : bufAt (p :: B) i = bufAt B i := by simp [bufAt, h]
      rw [e, ih]
      constructor
      · intro h2; exact List.mem_cons_of_mem _ h2
      · intro h2
        rcases List.mem_cons.1 h2 with h3 | h3
        · exact absurd (by rw [← h3]) h
        · exact h3
theorem opt_ext {a b : Option Sec} (h : ∀ s, a = some s ↔ b = some s) : a = b := by
  cases a with
  | none =>
    cases b with
    | none => rfl
    | some t => exact absurd ((h t).2 rfl) (by simp)
  | some s => exact ((h s).1 rfl).symm
theorem bufAt_ins {B : List (Int × Sec)} (hp : B.Pairwise (fun p q => p.1 < q.1)) (i : Int) (s : Sec) (k : Int) : bufAt (ins i s B) k = upd (bufAt B) i (some s) k := by
  apply opt_ext
  intro t
  rw [bufAt_iff (ins_rising i s B hp), ins_mem i s B hp]
  unfold upd
  by_cases hk : k = i
  · rw [if_pos hk, hk]
    simp
    exact eq_comm
  · rw [if_neg hk, bufAt_iff hp]
    simp [hk]
theorem outL_get (all : Bool) (ks : List Int) : ∀ (B : List (Int × Sec)) (L : List Sec), B.Pairwise (fun p q => p.1 < q.1) → (∀ p ∈ B, 0 ≤ p.1) → ∀ j : Nat, j < L.length →
    (outL all ks B L).getD j zsec = if all = true ∨ (j : Int) ∈ ks then (bufAt B j).getD (L.getD j zsec) else L.getD j zsec
  | [], L, _, _, j, hj => by simp [outL, bufAt]
  | p :: B, L, hp, h0, j, hj => by
    rw [List.pairwise_cons] at hp
    show (outL all ks B (outStep all ks L p)).getD j zsec = _
    have hl : (outStep all ks L p).length = L.length := by unfold outStep; split <;> simp
    rw [outL_get all ks B _ hp.2 (fun q hq => h0 q (by simp [hq])) j (by omega)]
    have hp0 := h0 p (by simp)
    by_cases hpj : p.1 = (j : Int)
    · have e1 : bufAt B (j : Int) = none := bufAt_none (fun q hq e => by have := hp.1 q hq; omega)
      have e2 : bufAt (p :: B) (j : Int) = some p.2 := by simp [bufAt, hpj]
      have e3 : p.1.toNat = j := by omega
      rw [e1, e2]
      unfold outStep
      rw [hpj]
      by_cases hc : all = true ∨ (j : Int) ∈ ks
      · rw [if_pos hc, if_pos hc, if_pos hc]
        simp [List.getD, hj]
      · rw [if_neg hc, if_neg hc, if_neg hc]
    · have e2 : bufAt (p :: B) (j : Int) = bufAt B j := by simp [bufAt, hpj]
      have e3 : (outStep all ks L p).getD j zsec = L.getD j zsec := by
        unfold outStep
        split
        · have : p.1.toNat ≠ j := by omega
          simp [List.getD, List.getElem?_set, this]
        · rfl
      rw [e2, e3]
/-- Both disks hold the same: on is what is on them, c is what is in their buffers. -/
def Pair (w : World) (d b1 b2 r N : Nat) (on : Int → Sec) (c : Int → Option Sec) : Prop :=
  IsD w d b1 b2 N on c ∧ ∃ L B, IsR w r N L B ∧ (∀ j : Nat, j < N → on j = L.getD j zsec) ∧ ∀ i, c i = bufAt B i
theorem Pair.later {w w' : World} {d b1 b2 r N : Nat} {on : Int → Sec} {c : Int → Option Sec} (h : Pair w d b1 b2 r N on c) (hb : Below w.heap.size w w') : Pair w' d b1 b2 r N on c := by
  obtain ⟨h1, L, B, h2, h3⟩ := h
  exact ⟨h1.later hb, L, B, h2.later hb, h3⟩
theorem Pair.lts {w : World} {d b1 b2 r N : Nat} {on : Int → Sec} {c : Int → Option Sec} (h : Pair w d b1 b2 r N on c) : N ≤ 2048 ∧ 1 ≤ N := by
  obtain ⟨h1, L, B, h2, h3⟩ := h
  exact ⟨h2.2.2.2.2.2.2, h2.2.2.2.2.2.1⟩
/-- What is turned: the two maps, and the document's struct. -/
def Trio (b1 b2 r : Nat) (k : Nat) : Prop := k = b1 ∨ k = b2 ∨ k = r
theorem pair_write {w w' : World} {d b1 b2 r N : Nat} {on : Int → Sec} {c : Int → Option Sec} {i : Int} {s : Sec} (hd : IsD w' d b1 b2 N on (upd c i (some s))) {L : List Sec} {B : List (Int × Sec)} (hB : B.Pairwise (fun p q => p.1 < q.1)) (hr : IsR w' r N L (ins i s B)) (h1 : ∀ j : Nat, j < N → on j = L.getD j zsec) (h2 : ∀ i, c i = bufAt B i) : Pair w' d b1 b2 r N on (upd c i (some s)) :=
  ⟨hd, L, _, hr, h1, fun k => by rw [bufAt_ins hB]; unfold upd; rw [h2]⟩
theorem pair_out {w' : World} {d b1 b2 r N : Nat} {on : Int → Sec} {c : Int → Option Sec} {on' : Int → Sec} (all : Bool) (ks : List Int) {L : List Sec} {B : List (Int × Sec)} (hB : B.Pairwise (fun p q => p.1 < q.1)) (hB0 : ∀ p ∈ B, 0 ≤ p.1) (hL : L.length = N) (hd : IsD w' d b1 b2 N on' (fun _ => none)) (hr : IsR w' r N (outL all ks B L) [])
    (h1 : ∀ j : Nat, j < N → on j = L.getD j zsec) (h2 : ∀ i, c i = bufAt B i) (h3 : ∀ i, on' i = if all = true ∨ i ∈ ks then (c i).getD (on i) else on i) : Pair w' d b1 b2 r N on' (fun _ => none) := by
  refine ⟨hd, _, _, hr, fun j hj => ?_, fun i => rfl⟩
  rw [outL_get all ks B L hB hB0 j (by omega), h3, h2, h1 j hj]
end Go.Proofs.Ytfmkgflhgapeoab
namespace Go.Proofs.Ytfmkgflhgapeoab
open Go.RowKit Go.ChangeShapes Go.WideShapes Go.ChangeAt Go.Maps
set_option linter.unusedVariables false
set_option linter.unusedSimpArgs false
theorem conv_none (w : World) (p : Option Addr) (c : Nat) : (convert 31 9 (.slice p 0 c)).run Try.prog w = .ok (.string ByteArray.empty) w := by
  rw [run_convert_bytes_string w 31 9 5 _ 0 c Try.underlying31 Try.underlying5 Try.underlying9]
  cases p <;> simp [Conv.bytesToString, loadCells]
  all_goals rfl
/-- Bytes as a text. -/
theorem conv_any {w : World} {pa : Option Addr} {pc : Nat} {zs : List Int} (h : IsB w pa zs.length zs) : (convert 31 9 (.slice pa zs.length pc)).run Try.prog w = .ok (.string (Fr.tx zs)) w := by
  by_cases hp : 0 < zs.length
  · obtain ⟨b, off, rfl, _⟩ := h.2.2.1 hp
    exact isB_conv h hp
  · have h0 : zs.length = 0 := by omega
    rw [h0, conv_none, List.eq_nil_of_length_eq_zero h0]; rfl
set_option maxRecDepth 20000 in
set_option maxHeartbeats 2000000 in
theorem rsame_eq (a b : Option Addr) (n ca cb : Nat) (L : List Jo.Gr) (w : World) (hA : IsGs w a n L) (hB : IsGs w b n L) :
    Calls Try.prog 28 #[.slice a n ca, .slice b n cb] w fun e w' => e = .returned (.bool true) ∧ Below w.heap.size w w' := by
  have hm := hA.2.1
  unfold maxLen at hm
  have HA := hid hA
  have HB := hid hB
  clear hA hB
  go_enter Try.func28, Try.ntmps28
  go_wp2
  go_loopw [5] (fun i wr => ∃ k : Nat, k ≤ n ∧ i = .int .i64 k ∧ Below w.heap.size w wr) (fun i _ => (n - intOf i).toNat)
  case atStart => exact ⟨0, Nat.zero_le _, rfl, Below.refl _ _⟩
  case round =>
    obtain ⟨k, hk, rfl, hb⟩ := hrel
    by_cases hlt : k < n
    · obtain ⟨b1, o1, rfl, h1⟩ := HA.out.2.2 (by omega)
      obtain ⟨b2, o2, rfl, h2⟩ := HB.out.2.2 (by omega)
      obtain ⟨g1, c1, d1, G1⟩ := h1 k hlt
      obtain ⟨g2, c2, d2, G2⟩ := h2 k hlt
      have HG1 := hid G1
      have HG2 := hid G2
      clear h1 h2 G1 G2
      generalize L.getD k [] = p at *
      obtain ⟨m, hmm⟩ : ∃ m, m = p.length := ⟨_, rfl⟩
      rw [← hmm] at d1 d2 HG1 HG2
      have hm1 := HG1.out.2.1
      unfold maxLen at hm1
      have KS : Hid (∀ W, Below w.heap.size w W → W.cell? ⟨b1, o1 + k, none⟩ = some (.slice g1 m c1) ∧ W.cell? ⟨b2, o2 + k, none⟩ = some (.slice g2 m c2)) := fun W hW => ⟨cell_later hW d1, cell_later hW d2⟩
      have K0 := KS.out _ hb.drew
      have HBW := hid hb
      have HMM := hid hmm
      clear d1 d2 hb hmm
      go_wp2_with fail
      go_region_held3 (fun w' => w'.cell? ⟨b1, o1 + k, none⟩ = some (.slice g1 m c1) ∧ w'.cell? ⟨b2, o2 + k, none⟩ = some (.slice g2 m c2)) (first | (with_reducible exact K0) | go_keep) (fail)
      clear K0
      go_wp2_with fail
      have hbo : Below w.heap.size w wr.drew := HBW.out.drew
      have HBO := hid hbo
      clear HBW hbo
      revert HBO
      generalize wr.drew = wo
      intro HBO
      go_loopw [6] (fun i wr => ∃ j : Nat, j ≤ m ∧ i = .int .i64 j ∧ Below w.heap.size w wr) (fun i _ => (m - intOf i).toNat)
      case atStart => exact ⟨0, Nat.zero_le _, rfl, HBO.out⟩
      case round =>
        obtain ⟨j, hj, rfl, hb⟩ := hrel
        obtain ⟨e1, e2⟩ := KS.out _ hb
        by_cases hjm : j < m
        · obtain ⟨p1, q1, rfl, h1⟩ := HG1.out.2.2 (by omega)
          obtain ⟨p2, q2, rfl, h2⟩ := HG2.out.2.2 (by omega)
          obtain ⟨a1, x1, f1, B1, _, _⟩ := h1 j hjm
          obtain ⟨a2, x2, f2, B2, _, _⟩ := h2 j hjm
          generalize p.getD j [] = z at *
          have FX : Hid (∀ W, Below w.heap.size w W → W.cell? ⟨b1, o1 + k, none⟩ = some (.slice (some ⟨p1, q1, none⟩) m c1) ∧ W.cell? ⟨b2, o2 + k, none⟩ = some (.slice (some ⟨p2, q2, none⟩) m c2) ∧ W.cell? ⟨p1, q1 + j, none⟩ = some (.slice a1 z.length x1) ∧ W.cell? ⟨p2, q2 + j, none⟩ = some (.slice a2 z.length x2) ∧ (convert 31 9 (.slice a1 z.length x1)).run Try.prog W = .ok (.string (Fr.tx z)) W ∧ (convert 31 9 (.slice a2 z.length x2)).run Try.prog W = .ok (.string (Fr.tx z)) W) := fun W hW => ⟨(KS.out W hW).1, (KS.out W hW).2, cell_later hW f1, cell_later hW f2, conv_any (B1.later hW), conv_any (B2.later hW)⟩
          have HBI := hid hb
          clear h1 h2 f1 f2 B1 B2 hb
          generalize z.length = zl at *
          generalize Fr.tx z = tz at *
          go_wp2_with fail
          refine wp_region_class (by kernel_rfl) (by kernel_rfl) ?_
          repeat (first
            | go_big_quiet_skip
            | (go_big_quiet_want
               apply quiet_by
               · intro w4 hw4
                 obtain ⟨k1, k2, k3, k4, k5, k6⟩ := FX.out w4 (HBI.out.trans (hw4.mono HBI.out.size))
                 go_simp
                 first
                   | rfl
                   | (simp [k1, k2, k3, k4, k5, k6]; rfl)
               · go_simp; rfl
               go_big_quiet_on))
          refine wpQuiet_nil ?_
          intro w12 hw12
          go_wp2
          go_roundw
          case rel => exact ⟨j + 1, by omega, by go_num, HBI.out.trans (hw12.mono HBI.out.size)⟩
          case measure => simp [intOf]; omega
        · have hjm' : j = m := by omega
          subst hjm'
          have HBI := hid hb
          clear hb
          go_wp2
          go_roundw
          case rel => exact ⟨k + 1, by omega, by go_num, HBI.out⟩
          case measure => simp [intOf]; omega
    · have hkn : k = n := by omega
      subst hkn
      have HB9 := hid hb
      clear hb
      go_wp2
      go_ret
      exact ⟨rfl, HB9.out⟩
end Go.Proofs.Ytfmkgflhgapeoab
