/-
  The area that counts, and its sectors: counting and sectors of the package journal.
-/
import Derived.Test.YtllohapbbmnipadJDisk
namespace Go.Proofs.Ytllohapbbmnipad
open Go.RowKit Go.ChangeShapes Go.WideShapes Go.ChangeAt Go.Maps
set_option linter.unusedVariables false
set_option linter.unusedSimpArgs false
theorem wpList_exec {P : Program} {w w' : World} {ops : Array Oper} {rest : List Oper} {o : Oper} {a : Act} {Q : Exit → Act → World → Prop} (hg : o.guard = none) {v : Value} (hrun : (execOp a.eval o).run P w = .ok (.value v) w') (hK : wpList P ops Q rest (a.put o.dst v) w') : wpList P ops Q (o :: rest) a w :=
  wpList_plain hg fun K hK' => by unfold Oper.wp; rw [hrun]; exact hK' _ _ hK
/-- The area that counts among the first k heads, and its turn. -/
def best (v : Int → Sec) : Nat → Nat × Int
  | 0 => (0, 0)
  | k + 1 => if (best v k).2 < Jo.turnOf (v k) then (k, Jo.turnOf (v k)) else best v k
theorem best_bd {v : Int → Sec} (hv : ∀ i, Jo.Sct (v i)) : ∀ k, k ≤ 2 → (best v k).1 ≤ 1 ∧ 0 ≤ (best v k).2 ∧ (best v k).2 < 4294967296
  | 0, _ => by simp [best]
  | k + 1, hk => by
    have ih := best_bd hv k (by omega)
    have ht := Jo.turnOf_bd (hv k).2
    unfold best
    split
    · exact ⟨by omega, ht⟩
    · exact ih
def arC (k : Nat) (t : Int) (N : Nat) : Array Value := #[.int .i64 k, .int .u32 t, .int .i64 ((2 + k * asz N : Nat) : Int), .int .i64 ((2 + k * asz N + asz N : Nat) : Int)]
theorem arV_arC (k : Nat) (t : Int) (N : Nat) : arV k t ((2 + k * asz N : Nat) : Int) ((2 + k * asz N + asz N : Nat) : Int) = .agg (arC k t N) := rfl
/-- The sectors of an area. -/
def secs (v : Int → Sec) (st n : Nat) : List (List Int) := (List.range n).map fun i => v ((st + i : Nat) : Int)
theorem secs_snoc (v : Int → Sec) (st n : Nat) : secs v st (n + 1) = secs v st n ++ [v ((st + n : Nat) : Int)] := by unfold secs; rw [List.range_succ, List.map_append]; rfl
theorem secs_len (v : Int → Sec) (st n : Nat) : (secs v st n).length = n := by unfold secs; simp
theorem secs_sct {v : Int → Sec} (hv : ∀ i, Jo.Sct (v i)) (st n : Nat) : ∀ s ∈ secs v st n, Jo.Sct s := fun s hs => by
  unfold secs at hs; obtain ⟨i, _, rfl⟩ := List.mem_map.1 hs; exact hv _
set_option maxRecDepth 20000 in
set_option maxHeartbeats 2000000 in
theorem sectors_c {w : World} {j d b1 b2 N : Nat} {on : Int → Sec} {c : Int → Option Sec} (h : IsJ w j d b1 b2 N on c) (k t : Int) (st en : Nat) (hse : st ≤ en) (hen : en ≤ N) :
    Calls Try.prog 34 #[pB j, arV k t st en] w fun e w' => ∃ v, e = .returned v ∧ w'.ownsRow w.heap.size 90 32 v (secs (vw on c) st (en - st)).length (scells (secs (vw on c) st (en - st))) ∧ Below w.heap.size w w' := by
  unfold arV
  have hN := h.2.1.two
  have hv := fun i => h.2.1.sec i
  obtain ⟨i0, hi, hz0, hz1, hz2⟩ := infoSec
  have hb1 : Below w.heap.size w (w.alloc (.cells #[.int .i64 k, .int .u32 t, .int .i64 st, .int .i64 en] 60)) := (Below.refl _ _).alloc (Nat.le_refl _) _
  have n1 := heap_alloc_new w (.cells #[.int .i64 k, .int .u32 t, .int .i64 st, .int .i64 en] 60)
  have hz1' : (w.alloc (.cells #[.int .i64 k, .int .u32 t, .int .i64 st, .int .i64 en] 60)).heap.size = w.heap.size + 1 := by simp
  have H := hid h
  have HV := hid hv
  clear h hv
  go_enter Try.func34, Try.ntmps34
  go_wp2_with (at_make; refine wpList_make_own _ rfl _ _ 63 rfl (w.heap.size + 1) 90 i0 _ 32 Try.underlying63 hi hz0 hz1 _ _ _ (en - st) rfl rfl (by omega) (by rw [hz2]; omega) (by unfold maxLen; omega) (by omega) ?_; intro w1 hown0 hgr0; generalize (w.alloc (.cells #[.int .i64 k, .int .u32 t, .int .i64 st, .int .i64 en] 60)) = W1 at *; (have hB0 : Below (w.heap.size + 1) W1 w1 := (Below.refl _ _).grown hgr0 (by omega) (fun k hk => by cases hk)); (have n2 : w1.heap[w.heap.size]? = some (.cells #[.int .i64 k, .int .u32 t, .int .i64 st, .int .i64 en] 60 (0, 0)) := by rw [hB0.block _ (by omega)]; exact n1); (have q2 : w1.cell? ⟨w.heap.size, 2, none⟩ = some (.int .i64 st) := by rw [cell_of_row w1 _ 2 _ _ _ n2]; rfl))
  have hBw : Below w.heap.size w w1 := hb1.trans (hB0.mono (by omega))
  go_loopw [5, 6] (fun v i wr => ∃ m : Nat, m ≤ en - st ∧ i = .int .i64 ((st + m : Nat) : Int) ∧ wr.ownsRow (w.heap.size + 1) 90 32 v (secs (vw on c) st m).length (scells (secs (vw on c) st m)) ∧ Below (w.heap.size + 1) W1 wr) (fun _ i _ => en - (intOf i).toNat)
  case atStart => exact ⟨0, Nat.zero_le _, rfl, by rw [hz1'] at hown0; simpa [secs, scells] using hown0, hB0⟩
  case round =>
    obtain ⟨m, hm, rfl, hown, hB⟩ := hrel
    have hBz := hB.size
    have n3 : wr.heap[w.heap.size]? = some (.cells #[.int .i64 k, .int .u32 t, .int .i64 st, .int .i64 en] 60 (0, 0)) := by rw [hB.block _ (by omega)]; exact n1
    have q3 : wr.cell? ⟨w.heap.size, 3, none⟩ = some (.int .i64 en) := by rw [cell_of_row wr _ 3 _ _ _ n3]; rfl
    have hBr : Below w.heap.size w wr := hb1.trans (hB.mono (by omega))
    have HO := hid hown
    have HB := hid hB
    have hsl := secs_len (vw on c) st m
    by_cases hlt : st + m < en
    · have RC := hid (jread_c (H.out.later hBr) ((st + m : Nat) : Int) (by omega) (by omega))
      have hS := (HV.out ((st + m : Nat) : Int)).1
      have HSN := hid (secs_snoc (vw on c) st m)
      have hlt' : ((st + m : Nat) : Int) < en := by omega
      have HQ : Hid (((st + m : Nat) : Int) + 1 = ((st + (m + 1) : Nat) : Int)) := by show _ = _; omega
      have hSl := hid hsl
      clear hown hB hsl
      generalize vw on c ((st + m : Nat) : Int) = S at *
      obtain ⟨q, hq⟩ : ∃ q, q = st + m := ⟨_, rfl⟩
      rw [← hq] at RC HQ hlt' hlt ⊢
      have hqb : q ≤ 2048 := by omega
      have HQQ := hid hq
      clear hq
      go_wp2_with (first
        | (have _q := K3.out; clear _q K3; at_builtin; refine wpList_append_own _ rfl _ _ 63 rfl (w.heap.size + 1) 90 i0 (secV zsec) 32 32 Try.underlying63 hi hz0 hz1 hz2 (by rfl) (by decide) _ _ _ rfl (hown5.alloc _) ⟨w5.heap.size, 0, none⟩ 1 1 (S.map by8) rfl (by simp [hS]) (news_sec (heap_alloc_new w5 _)) (one8 _) (by unfold maxLen; omega) (by omega) (by simp; omega) ?_; intro v9 w9 hown9 hgrow9 hnil9)
        | (have _q := K2.out; clear _q; refine wpList_exec rfl (exec_slice1 _ rfl S rfl hS) ?_; clear K2; (have K3 : Hid True := hid trivial))
        | (go_at_call 38; refine RC.out.mono ?_; rintro e w5 ⟨rfl, hb5⟩; (have hown5 := own_keep HO.out (Out.of (S := fun _ => False) hb5) (fun _ _ h => h)); (have hz5 := hb5.size); (have K2 : Hid True := hid trivial); rw [hSl.out] at hown5))
      have B9 : Below (w.heap.size + 1) W1 w9 := below_grown ((HB.out.trans (hb5.mono (by omega))).alloc (by omega) _) (hown5.alloc _) (Nat.le_refl _) (by simp; omega) hgrow9
      obtain ⟨a9, c9, rfl⟩ := own_shape6 hown9
      go_roundw
      case rel => exact ⟨m + 1, by have := HQQ.out; omega, by rw [← HQ.out], by rw [HSN.out, scells_snoc, List.length_append, hSl.out]; exact hown9, B9⟩
      case measure => simp [intOf]; omega
    · have em : m = en - st := by omega
      have hlt' : ¬ ((st + m : Nat) : Int) < en := by omega
      rw [em] at hown
      have HO2 := hid (own_base hown (Nat.le_succ _))
      obtain ⟨a9, c9, rfl⟩ := own_shape6 hown
      clear hown
      obtain ⟨q, hq⟩ : ∃ q, q = st + m := ⟨_, rfl⟩
      rw [← hq] at hlt' ⊢
      have hqb : q ≤ 4096 := by omega
      clear hq
      go_wp2
      go_ret
      exact ⟨_, rfl, HO2.out, hBr⟩
theorem size70 : (Try.prog.info? 60).map (·.size) = some 4 := by kernel_rfl
theorem hi70 (k : Nat) (t : Int) (N : Nat) : (Try.prog.info? 60).map (·.size) = some (arC k t N).size := size70
theorem one70 (k : Nat) (t : Int) (N : Nat) : (arC k t N).all (·.oneCell') = true := by unfold arC; simp [Value.oneCell']
theorem best_no {v : Int → Sec} {k : Nat} (h : ¬ (best v k).2 < Jo.turnOf (v k)) : best v (k + 1) = best v k := by conv => lhs; unfold best; rw [if_neg h]
theorem best_yes {v : Int → Sec} {k : Nat} (h : (best v k).2 < Jo.turnOf (v k)) : best v (k + 1) = (k, Jo.turnOf (v k)) := by conv => lhs; unfold best; rw [if_pos h]
set_option maxRecDepth 20000 in
set_option maxHeartbeats 4000000 in
theorem counting_c {w : World} {j d b1 b2 N : Nat} {on : Int → Sec} {c : Int → Option Sec} (h : IsJ w j d b1 b2 N on c) :
    Calls Try.prog 17 #[pB j] w fun e w' => e = .returned (.agg (arC (best (vw on c) 2).1 (best (vw on c) 2).2 N)) ∧ Below w.heap.size w w' := by
  have hN := h.2.1.two
  have h8 := h.2.2
  have hv := fun i => h.2.1.sec i
  have haz : asz N ≤ 1023 := by unfold asz; omega
  have hb1 : Below w.heap.size w (w.alloc (.cells #[.int .i64 0, .int .u32 0, .int .i64 0, .int .i64 0] 60)) := (Below.refl _ _).alloc (Nat.le_refl _) _
  have n1 := heap_alloc_new w (.cells #[.int .i64 0, .int .u32 0, .int .i64 0, .int .i64 0] 60)
  have hz1 : (w.alloc (.cells #[.int .i64 0, .int .u32 0, .int .i64 0, .int .i64 0] 60)).heap.size = w.heap.size + 1 := by simp
  have AC := hid (area_c (h.later hb1) 0 (by omega) 0)
  have H := hid h
  have HV := hid hv
  clear h hv
  go_enter Try.func17, Try.ntmps17
  go_wp2_with fail
  generalize (w.alloc (.cells #[.int .i64 0, .int .u32 0, .int .i64 0, .int .i64 0] 60)) = W1 at *
  refine AC.out.mono ?_
  rintro _ w2 ⟨rfl, hb2⟩
  unfold arV
  have n2 : w2.heap[w.heap.size]? = some (.cells #[.int .i64 0, .int .u32 0, .int .i64 0, .int .i64 0] 60 (0, 0)) := by rw [hb2.block _ (by omega)]; exact n1
  have hB2 : Below w.heap.size w w2 := hb1.trans (hb2.mono (by omega))
  have hz2 := hb2.size
  have n3 := heap_alloc_new w2 (.cells (arC 0 0 N) 60)
  have A3 := alloc_facts w2 (.cells (arC 0 0 N) 60)
  have B3 : Below w.heap.size w (w2.alloc (.cells (arC 0 0 N) 60)) := hB2.alloc hB2.size _
  have r3 : (w2.alloc (.cells (arC 0 0 N) 60)).heap[w.heap.size]? = some (.cells #[.int .i64 0, .int .u32 0, .int .i64 0, .int .i64 0] 60 (0, 0)) := by rw [A3.2.1 _ (by omega)]; exact n2
  have e0 : arC 0 0 N = #[.int .i64 0, .int .u32 0, .int .i64 2, .int .i64 (2 + (asz N : Nat))] := by unfold arC; simp
  rw [e0] at r3 B3
  have n3' : (w2.alloc (.cells #[.int .i64 0, .int .u32 0, .int .i64 2, .int .i64 (2 + (asz N : Nat))] 60)).heap[w2.heap.size]? = some (.cells (arC 0 0 N) 60 (0, 0)) := by rw [← e0]; exact n3
  clear n3 e0
  have hfb1 : w.heap.size < w2.heap.size := by omega
  have hu70 := Try.underlying60
  go_wp2
  go_loopw [9] (fun i wr => ∃ m : Nat, m ≤ 2 ∧ i = .int .i64 m ∧ wr.heap[w2.heap.size]? = some (.cells (arC (best (vw on c) m).1 (best (vw on c) m).2 N) 60 (0, 0)) ∧ wr.heap[w.heap.size]? = some (.cells #[.int .i64 0, .int .u32 0, .int .i64 0, .int .i64 0] 60 (0, 0)) ∧ Below w.heap.size w wr) (fun i _ => 2 - (intOf i).toNat)
  case atStart => exact ⟨0, by omega, rfl, n3', r3, B3⟩
  case round =>
    obtain ⟨m, hm, rfl, hx, hr, hB⟩ := hrel
    clear n3' A3 B3 r3 n2
    have hbb := best_bd HV.out m hm
    have HX := hid hx
    have HR := hid hr
    have HB := hid hB
    have hfz : w2.heap.size < wr.heap.size := lt_blk hx
    clear hx hr hB
    by_cases hlt : m < 2
    · have hlt' : ((m : Nat) : Int) < 2 := by omega
      have RC := hid (jread_c (H.out.later HB.out) (m : Int) (by omega) (by omega))
      have hS := HV.out (m : Int)
      have hTb := Jo.turnOf_bd hS.2
      have HY := hid (best_yes (v := vw on c) (k := m))
      have HNo := hid (best_no (v := vw on c) (k := m))
      have HD := hid (fun w => readHead_c (vw on c (m : Int)) w hS)
      generalize vw on c (m : Int) = S at *
      generalize Jo.turnOf S = T at *
      obtain ⟨bk, hbk⟩ : ∃ bk, bk = (best (vw on c) m).1 := ⟨_, rfl⟩
      obtain ⟨bt, hbt⟩ : ∃ bt, bt = (best (vw on c) m).2 := ⟨_, rfl⟩
      rw [← hbk, ← hbt] at HX hbb
      rw [← hbt] at HY HNo
      have HBK := hid hbk
      have HBT := hid hbt
      clear hbk hbt
      by_cases hT : bt < T
      · have hb0 : (T != 0) = true := by simp; omega
        rw [hb0] at HD
        have AR : Hid (∀ w6, Below w.heap.size w w6 → Calls Try.prog 36 #[pB j, .int .i64 m, .int .u32 T] w6 fun e w' => e = .returned (.agg (arC m T N)) ∧ Below w6.heap.size w6 w') := fun w6 h6 => area_c (H.out.later h6) m (by omega) T
        go_wp2_with (first
          | (go_at_call 36; refine (AR.out w6 (HB.out.trans (B6.mono HB.out.size))).mono ?_; rintro e w7 ⟨rfl, hb7⟩; (have B7 : Below wr.heap.size wr w7 := B6.trans (hb7.mono B6.size)); (have x7 : w7.heap[w2.heap.size]? = some (.cells (arC bk bt N) 60 (0, 0)) := by rw [B7.block _ hfz]; exact HX.out); (have K7 : Hid True := hid trivial))
          | (have _q := K7.out; clear _q; refine wpList_store_row rfl _ _ _ rfl w2.heap.size (arC m T N) rfl rfl _ _ x7 (hi70 m T N) rfl (one70 m T N) ?_; clear K7)
          | (go_at_call 37; refine (HD.out _).mono ?_; rintro e w6 ⟨rfl, hb6⟩; (have B6 : Below wr.heap.size wr w6 := hb5.trans (hb6.mono hb5.size)); (have x6 : w6.heap[w2.heap.size]? = some (.cells (arC bk bt N) 60 (0, 0)) := by rw [B6.block _ hfz]; exact HX.out); (have q6 : w6.cell? ⟨w2.heap.size, 1, none⟩ = some (.int .u32 bt) := by rw [cell_of_row w6 _ 1 _ _ _ x6]; rfl))
          | (go_at_call 38; refine RC.out.mono ?_; rintro e w5 ⟨rfl, hb5⟩))
        go_roundw
        case rel => exact ⟨m + 1, by omega, by go_num, by rw [HY.out hT]; exact setRow_heap w7 _ _ _ _ _ x7, by rw [row_other _ _ _ _ (by omega), B7.block _ (by omega)]; exact HR.out, Below.setRow (HB.out.trans (B7.mono HB.out.size)) _ _ (by omega)⟩
        case measure => simp [intOf]; omega
      · by_cases hT0 : T = 0
        · subst hT0
          have hb0 : ((0 : Int) != 0) = false := by decide
          rw [hb0] at HD
          go_wp2_with (first
            | (go_at_call 37; refine (HD.out _).mono ?_; rintro e w6 ⟨rfl, hb6⟩; (have B6 : Below wr.heap.size wr w6 := hb5.trans (hb6.mono hb5.size)); (have x6 : w6.heap[w2.heap.size]? = some (.cells (arC bk bt N) 60 (0, 0)) := by rw [B6.block _ hfz]; exact HX.out); (have q6 : w6.cell? ⟨w2.heap.size, 1, none⟩ = some (.int .u32 bt) := by rw [cell_of_row w6 _ 1 _ _ _ x6]; rfl))
            | (go_at_call 38; refine RC.out.mono ?_; rintro e w5 ⟨rfl, hb5⟩))
          go_roundw
          case rel => exact ⟨m + 1, by omega, by go_num, by rw [HNo.out hT, ← HBK.out, ← HBT.out]; exact x6, by rw [B6.block _ (by omega)]; exact HR.out, HB.out.trans (B6.mono HB.out.size)⟩
          case measure => simp [intOf]; omega
        · have hb0 : (T != 0) = true := by simp; omega
          rw [hb0] at HD
          go_wp2_with (first
            | (go_at_call 37; refine (HD.out _).mono ?_; rintro e w6 ⟨rfl, hb6⟩; (have B6 : Below wr.heap.size wr w6 := hb5.trans (hb6.mono hb5.size)); (have x6 : w6.heap[w2.heap.size]? = some (.cells (arC bk bt N) 60 (0, 0)) := by rw [B6.block _ hfz]; exact HX.out); (have q6 : w6.cell? ⟨w2.heap.size, 1, none⟩ = some (.int .u32 bt) := by rw [cell_of_row w6 _ 1 _ _ _ x6]; rfl))
            | (go_at_call 38; refine RC.out.mono ?_; rintro e w5 ⟨rfl, hb5⟩))
          go_roundw
          case rel => exact ⟨m + 1, by omega, by go_num, by rw [HNo.out hT, ← HBK.out, ← HBT.out]; exact x6, by rw [B6.block _ (by omega)]; exact HR.out, HB.out.trans (B6.mono HB.out.size)⟩
          case measure => simp [intOf]; omega
    · have em : m = 2 := by omega
      subst em
      go_wp2_with (first
        | (refine wpList_load_row rfl _ _ rfl w2.heap.size rfl _ _ _ _ HX.out hu70 rfl (hi70 _ _ N) ?_)
        | (refine wpList_store_row rfl _ _ _ rfl w.heap.size (arC (best (vw on c) 2).1 (best (vw on c) 2).2 N) rfl rfl _ _ HR.out (hi70 _ _ N) rfl (one70 _ _ N) ?_))
      refine bodyPost_ret (v := .agg (arC (best (vw on c) 2).1 (best (vw on c) 2).2 N)) (results_cell_row rfl _ _ w.heap.size _ _ _ _ rfl (setRow_heap wr _ _ _ _ _ HR.out) hu70 rfl (hi70 _ _ N)) rfl ⟨rfl, Below.setRow HB.out _ _ (Nat.le_refl _)⟩
end Go.Proofs.Ytllohapbbmnipad
