/-
  
-/
import Derived.Test.YtfmghbennahlfaaGreatCnAx
namespace Go.Proofs.YtfmghbennahlfaaGreat
open Go.RowKit Go.ChangeShapes Go.WideShapes Go.ChangeAt Go.Maps
set_option linter.unusedVariables false
set_option linter.unusedSimpArgs false
def IsJ (w : World) (j d b1 b2 N : Nat) (on : Int → Sec) (c : Int → Option Sec) : Prop :=
 w.heap[j]? = some (.cells #[pD d] 175 (0, 0)) ∧ IsD w d b1 b2 N on c ∧ 8 ≤ N
def vw (on : Int → Sec) (c : Int → Option Sec) (i : Int) : Sec := (c i).getD (on i)
theorem IsD.sec {w : World} {d b1 b2 N : Nat} {on : Int → Sec} {c : Int → Option Sec} (h : IsD w d b1 b2 N on c) (i : Int) : Jo.Sct (vw on c i) := by
 obtain ⟨_, _, _, _, h2, m, h3, h4⟩ := h
 have key : IsSec ((c i).getD (on i)) := by
   cases hc : c i with
   | some s => exact (h2.2 i s hc).1
   | none =>
     rw [Option.getD_none, h4 i]
     cases hm : m i with
     | none => exact zsec_is
     | some u => exact (h3.2 i u hm).1
 exact ⟨key.1, key.2⟩
theorem IsD.two {w : World} {d b1 b2 N : Nat} {on : Int → Sec} {c : Int → Option Sec} (h : IsD w d b1 b2 N on c) : N ≤ 2048 := h.2.2.2.1
theorem IsJ.later {w w' : World} {j d b1 b2 N : Nat} {on : Int → Sec} {c : Int → Option Sec} (h : IsJ w j d b1 b2 N on c) (hb : Below w.heap.size w w') : IsJ w' j d b1 b2 N on c :=
 ⟨by rw [hb.block j (lt_blk h.1)]; exact h.1, h.2.1.later hb, h.2.2⟩
theorem IsJ.cell {w : World} {j d b1 b2 N : Nat} {on : Int → Sec} {c : Int → Option Sec} (h : IsJ w j d b1 b2 N on c) : w.cell? ⟨j, 0, none⟩ = some (pD d) := by
 rw [cell_of_row w j 0 _ _ _ h.1]; rfl
set_option maxRecDepth 100000 in
set_option maxHeartbeats 1000000 in
theorem jread_c {w : World} {j d b1 b2 N : Nat} {on : Int → Sec} {c : Int → Option Sec} (h : IsJ w j d b1 b2 N on c) (i : Int) (h0 : 0 ≤ i) (h1 : i < N) :
   Calls Tryz.prog 223 #[pB j, .int .i64 i] w fun e w' => e = .returned (secV (vw on c i)) ∧ Below w.heap.size w w' := by
 have zz := zlit
 have hs := (h.2.1.sec i).1
 have hb1 : Below w.heap.size w (w.alloc (.cells (zsec.map by8).toArray 260)) := (Below.refl _ _).alloc (Nat.le_refl _) _
 have hJ1 := h.later hb1
 have c1 := hJ1.cell
 have RC := hid (read_c hJ1.2.1 i h0 h1)
 have R0 : (w.alloc (.cells (zsec.map by8).toArray 260)).heap[w.heap.size]? = some (.cells (zsec.map by8).toArray 260 (0, 0)) := heap_alloc_new w _
 have hz1 : (w.alloc (.cells (zsec.map by8).toArray 260)).heap.size = w.heap.size + 1 := by simp
 clear h hJ1
 change Hid (Calls Tryz.prog 287 #[pD d, .int .i64 i] _ fun e w' => e = .returned (.tuple #[secV (vw on c i), .int .i64 0]) ∧ _) at RC
 generalize vw on c i = S at *
 go_enter Tryz.func223, Tryz.ntmps223
 go_wp2_with fail
 generalize (w.alloc (.cells (zsec.map by8).toArray 260)) = W1 at *
 refine RC.out.mono ?_
 rintro _ w2 ⟨rfl, hb2⟩
 have R2 : w2.heap[w.heap.size]? = some (.cells (zsec.map by8).toArray 260 (0, 0)) := by rw [hb2.block _ (by omega)]; exact R0
 have hz2 : w.heap.size < w2.heap.size := by have := hb2.size; omega
 have n3 := heap_alloc_new w2 (.cells (S.map by8).toArray 260)
 have A3 := alloc_facts w2 (.cells (S.map by8).toArray 260)
 have B3 : Below w.heap.size w (w2.alloc (.cells (S.map by8).toArray 260)) := (hb1.trans (hb2.mono (by omega))).alloc (by omega) _
 have R3 : (w2.alloc (.cells (S.map by8).toArray 260)).heap[w.heap.size]? = some (.cells (zsec.map by8).toArray 260 (0, 0)) := by rw [A3.2.1 _ hz2]; exact R2
 go_wp2_with (first
   | (refine wpList_storeS _ rfl _ _ _ rfl sizeS _ rfl (by simp) S rfl hs _ (by simp; decide) ?_)
   | (refine wpList_loadS _ rfl _ _ rfl sizeS Tryz.underlying260 _ rfl S hs _ _ n3 ?_)
   | (refine wpList_storeA _ rfl _ _ _ rfl sizeS _ rfl S rfl hs _ _ R3 (by simp; decide) ?_; intro w4 k1 k2 k3))
 exact bodyPost_ret (v := secV S) (res_sec1 rfl _ _ sizeS Tryz.underlying260 w.heap.size rfl _ hs _ _ k1) rfl ⟨rfl, B3.trans (k2.below (by rw [A3.1]; omega) (fun k e => by omega))⟩
def arV (k t st en : Int) : Value := .agg #[.int .i64 k, .int .u32 t, .int .i64 st, .int .i64 en]
def asz (N : Nat) : Nat := (N - 2) / 2
set_option maxHeartbeats 1000000 in
theorem area_c {w : World} {j d b1 b2 N : Nat} {on : Int → Sec} {c : Int → Option Sec} (h : IsJ w j d b1 b2 N on c) (k : Nat) (hk : k ≤ 1) (t : Int) :
   Calls Tryz.prog 200 #[pB j, .int .i64 k, .int .u32 t] w fun e w' => e = .returned (arV k t ((2 + k * asz N : Nat) : Int) ((2 + k * asz N + asz N : Nat) : Int)) ∧ Below w.heap.size w w' := by
 have hb1 : Below w.heap.size w (w.alloc (.cells #[.int .i64 0, .int .u32 0, .int .i64 0, .int .i64 0] 266)) := (Below.refl _ _).alloc (Nat.le_refl _) _
 have hJ1 := h.later hb1
 have c1 := hJ1.cell
 have SC := hid (size_c hJ1.2.1)
 have hN := h.2.1.two
 have h8 := h.2.2
 have n1 := heap_alloc_new w (.cells #[.int .i64 0, .int .u32 0, .int .i64 0, .int .i64 0] 266)
 clear h hJ1
 have e1 : (((N : Int) - 2) / 2) = ((asz N : Nat) : Int) := by unfold asz; omega
 have hk2 : k = 0 ∨ k = 1 := by omega
 have haz : asz N ≤ 1023 := by unfold asz; omega
 rcases hk2 with rfl | rfl
 all_goals
   go_enter Tryz.func200, Tryz.ntmps200
   go_wp2_with (go_at_call 103; refine SC.out.mono ?_; rintro e w' ⟨rfl, rfl⟩)
   refine bodyPost_ret (results_cell_row rfl _ _ w.heap.size _ _ _ _ rfl (heap_alloc_new w _) Tryz.underlying266 rfl (by kernel_rfl)) rfl ⟨?_, (Below.refl _ _).alloc (Nat.le_refl _) _⟩
   unfold arV
   simp
   try omega
theorem turn_none {s : List Int} (h : Fr.at4 s 1 = 0 ∨ ¬ s = Jo.headS (Fr.at4 s 1)) : Jo.turnOf s = 0 := by unfold Jo.turnOf; rw [if_neg (by rintro ⟨h1, h2⟩; rcases h with h | h; exact h1 h; exact h h2)]
set_option maxRecDepth 20000 in
set_option maxHeartbeats 2000000 in
theorem readHead_c (s : List Int) (w : World) (hs : Jo.Sct s) :
   Calls Tryz.prog 222 #[secV s] w fun e w' => e = .returned (.tuple #[.int .u32 (Jo.turnOf s), .bool (Jo.turnOf s != 0)]) ∧ Below w.heap.size w w' := by
 unfold secV
 have hx1 : Bx (w.alloc (.cells (s.map by8).toArray 260)) w.heap.size 260 s := heap_alloc_new w _
 have hB1 : Below w.heap.size w (w.alloc (.cells (s.map by8).toArray 260)) := (Below.refl _ _).alloc (Nat.le_refl _) _
 have hI1 := bx_isB hx1 hs.2 1 4 (by rw [hs.1]; omega) (by decide)
 have RN := readNumber_c _ 4 _ _ hI1
 rw [at4_drop] at RN
 have hbd := at4_bd hs.2 1
 have HRN := hid RN
 have hr1 := range_sec hx1
 clear RN hI1
 by_cases h0 : Fr.at4 s 1 = 0
 · have E := hid (turn_none (.inl h0))
   rw [h0] at HRN
   go_enter Tryz.func222, Tryz.ntmps222
   go_wp2_with (first
     | (go_at_call 283; refine HRN.out.mono ?_; rintro e w' ⟨rfl, rfl⟩)
     | (go_at_call 250; refine (field_c w.heap.size 1 _ (by omega)).mono ?_; rintro e w' ⟨rfl, rfl⟩))
   refine wp_region_class (by kernel_rfl) (by kernel_rfl) ?_
   repeat (first
     | go_big_quiet_skip
     | (go_big_quiet_want
        apply quiet_by
        · intro w1 hw1
          go_simp
          rfl
        · go_simp; rfl
        go_big_quiet_on))
   refine wpQuiet_nil ?_
   intro w12 hw12
   go_wp2
   go_ret2
   exact ⟨by rw [E.out]; rfl, hB1.trans (hw12.mono hB1.size)⟩
 · obtain ⟨t, hte⟩ : ∃ t, t = Fr.at4 s 1 := ⟨_, rfl⟩
   rw [← hte] at HRN hbd h0
   have HTE := hid hte
   clear hte
   have hsT := Jo.head_sct t
   have h0b : ((t : Int) == 0) = false := by simpa using h0
   cases hq : (s == Jo.headS t) with
   | true =>
     have hq' : s = Jo.headS t := by simpa using hq
     have E : Hid (Jo.turnOf s = t) := by
       show _ = _
       unfold Jo.turnOf
       rw [← HTE.out, if_pos ⟨h0, hq'⟩]
     have HQ := hid hq
     clear hq hq'
     go_enter Tryz.func222, Tryz.ntmps222
     go_wp2_with (first
       | (go_at_call 283; refine HRN.out.mono ?_; rintro e w' ⟨rfl, rfl⟩)
       | (go_at_call 250; refine (field_c w.heap.size 1 _ (by omega)).mono ?_; rintro e w' ⟨rfl, rfl⟩))
     generalize (w.alloc (.cells (s.map by8).toArray 260)) = W1 at *
     refine wp_region_class (by kernel_rfl) (by kernel_rfl) ?_
     repeat (first
       | go_big_quiet_skip
       | (go_big_quiet_want
          apply quiet_by
          · intro w1 hw1
            exact qload _ 260 _ rfl rfl (qsec (range_later hr1 hw1) hs.1) hw1
          · go_simp; rfl
          go_big_quiet_on)
       | (go_big_quiet_want
          apply quiet_by
          · intro w1 hw1
            exact qneq _ _ _ s (Jo.headS t) rfl rfl rfl (sct_sec hs) (sct_sec hsT) _ HQ.out hw1
          · go_simp; rfl
          go_big_quiet_on)
       | (go_big_quiet_want
          apply quiet_by
          · intro w1 hw1
            go_simp
            first
              | rfl
              | (go_at_call 201; exact class_of hw1 (headSector_c t _ hbd))
          · go_simp; rfl
          go_big_quiet_on))
     refine wpQuiet_nil ?_
     intro w12 hw12
     go_wp2
     go_ret2
     exact ⟨by rw [E.out]; simp [h0], hB1.trans (hw12.mono hB1.size)⟩
   | false =>
     have E := hid (turn_none (s := s) (.inr (by rw [← HTE.out]; simpa using hq)))
     have HQ := hid hq
     clear hq
     go_enter Tryz.func222, Tryz.ntmps222
     go_wp2_with (first
       | (go_at_call 283; refine HRN.out.mono ?_; rintro e w' ⟨rfl, rfl⟩)
       | (go_at_call 250; refine (field_c w.heap.size 1 _ (by omega)).mono ?_; rintro e w' ⟨rfl, rfl⟩))
     generalize (w.alloc (.cells (s.map by8).toArray 260)) = W1 at *
     refine wp_region_class (by kernel_rfl) (by kernel_rfl) ?_
     repeat (first
       | go_big_quiet_skip
       | (go_big_quiet_want
          apply quiet_by
          · intro w1 hw1
            exact qload _ 260 _ rfl rfl (qsec (range_later hr1 hw1) hs.1) hw1
          · go_simp; rfl
          go_big_quiet_on)
       | (go_big_quiet_want
          apply quiet_by
          · intro w1 hw1
            exact qneq _ _ _ s (Jo.headS t) rfl rfl rfl (sct_sec hs) (sct_sec hsT) _ HQ.out hw1
          · go_simp; rfl
          go_big_quiet_on)
       | (go_big_quiet_want
          apply quiet_by
          · intro w1 hw1
            go_simp
            first
              | rfl
              | (go_at_call 201; exact class_of hw1 (headSector_c t _ hbd))
          · go_simp; rfl
          go_big_quiet_on))
     refine wpQuiet_nil ?_
     intro w12 hw12
     go_wp2
     go_ret2
     exact ⟨by rw [E.out]; rfl, hB1.trans (hw12.mono hB1.size)⟩
theorem wpList_exec {P : Program} {w w' : World} {ops : Array Oper} {rest : List Oper} {o : Oper} {a : Act} {Q : Exit → Act → World → Prop} (hg : o.guard = none) {v : Value} (hrun : (execOp a.eval o).run P w = .ok (.value v) w') (hK : wpList P ops Q rest (a.put o.dst v) w') : wpList P ops Q (o :: rest) a w :=
 wpList_plain hg fun K hK' => by unfold Oper.wp; rw [hrun]; exact hK' _ _ hK
def best (v : Int → Sec) : Nat → Nat × Int
 | 0 => (0, 0)
 | k + 1 => if (best v k).2 < Jo.turnOf (v k) then (k, Jo.turnOf (v k)) else best v k
theorem best_bd {v : Int → Sec} (hv : ∀ i, Jo.Sct (v i)) : ∀ k, k ≤ 2 → (best v k).1 ≤ 1 ∧ 0 ≤ (best v k).2 ∧ (best v k).2 < 4294967296
 | 0, _ => by simp [best]
 | k + 1, hk => by
   have ih := best_bd hv k (by omega)
   have ht := Jo.turnOf_bd (hv k).2
   unfold best
   split
   · exact ⟨by omega, ht⟩
   · exact ih
def arC (k : Nat) (t : Int) (N : Nat) : Array Value := #[.int .i64 k, .int .u32 t, .int .i64 ((2 + k * asz N : Nat) : Int), .int .i64 ((2 + k * asz N + asz N : Nat) : Int)]
def secs (v : Int → Sec) (st n : Nat) : List (List Int) := (List.range n).map fun i => v ((st + i : Nat) : Int)
theorem secs_snoc (v : Int → Sec) (st n : Nat) : secs v st (n + 1) = secs v st n ++ [v ((st + n : Nat) : Int)] := by unfold secs; rw [List.range_succ, List.map_append]; rfl
theorem secs_len (v : Int → Sec) (st n : Nat) : (secs v st n).length = n := by unfold secs; simp
theorem secs_sct {v : Int → Sec} (hv : ∀ i, Jo.Sct (v i)) (st n : Nat) : ∀ s ∈ secs v st n, Jo.Sct s := fun s hs => by
 unfold secs at hs; obtain ⟨i, _, rfl⟩ := List.mem_map.1 hs; exact hv _
set_option maxRecDepth 20000 in
set_option maxHeartbeats 2000000 in
theorem sectors_c {w : World} {j d b1 b2 N : Nat} {on : Int → Sec} {c : Int → Option Sec} (h : IsJ w j d b1 b2 N on c) (k t : Int) (st en : Nat) (hse : st ≤ en) (hen : en ≤ N) :
   Calls Tryz.prog 220 #[pB j, arV k t st en] w fun e w' => ∃ v, e = .returned v ∧ w'.ownsRow w.heap.size 260 32 v (secs (vw on c) st (en - st)).length (scells (secs (vw on c) st (en - st))) ∧ Below w.heap.size w w' := by
 unfold arV
 have hN := h.2.1.two
 have hv := fun i => h.2.1.sec i
 obtain ⟨i0, hi, hz0, hz1, hz2⟩ := infoSec
 have hb1 : Below w.heap.size w (w.alloc (.cells #[.int .i64 k, .int .u32 t, .int .i64 st, .int .i64 en] 266)) := (Below.refl _ _).alloc (Nat.le_refl _) _
 have n1 := heap_alloc_new w (.cells #[.int .i64 k, .int .u32 t, .int .i64 st, .int .i64 en] 266)
 have hz1' : (w.alloc (.cells #[.int .i64 k, .int .u32 t, .int .i64 st, .int .i64 en] 266)).heap.size = w.heap.size + 1 := by simp
 have H := hid h
 have HV := hid hv
 clear h hv
 go_enter Tryz.func220, Tryz.ntmps220
 go_wp2_with (at_make; refine wpList_make_own _ rfl _ _ 233 rfl (w.heap.size + 1) 260 i0 _ 32 Tryz.underlying233 hi hz0 hz1 _ _ _ (en - st) rfl rfl (by omega) (by rw [hz2]; omega) (by unfold maxLen; omega) (by omega) ?_; intro w1 hown0 hgr0; generalize (w.alloc (.cells #[.int .i64 k, .int .u32 t, .int .i64 st, .int .i64 en] 266)) = W1 at *; (have hB0 : Below (w.heap.size + 1) W1 w1 := (Below.refl _ _).grown hgr0 (by omega) (fun k hk => by cases hk)); (have n2 : w1.heap[w.heap.size]? = some (.cells #[.int .i64 k, .int .u32 t, .int .i64 st, .int .i64 en] 266 (0, 0)) := by rw [hB0.block _ (by omega)]; exact n1); (have q2 : w1.cell? ⟨w.heap.size, 2, none⟩ = some (.int .i64 st) := by rw [cell_of_row w1 _ 2 _ _ _ n2]; rfl))
 have hBw : Below w.heap.size w w1 := hb1.trans (hB0.mono (by omega))
 go_loopw [5, 6] (fun v i wr => ∃ m : Nat, m ≤ en - st ∧ i = .int .i64 ((st + m : Nat) : Int) ∧ wr.ownsRow (w.heap.size + 1) 260 32 v (secs (vw on c) st m).length (scells (secs (vw on c) st m)) ∧ Below (w.heap.size + 1) W1 wr) (fun _ i _ => en - (intOf i).toNat)
 case atStart => exact ⟨0, Nat.zero_le _, rfl, by rw [hz1'] at hown0; simpa [secs, scells] using hown0, hB0⟩
 case round =>
   obtain ⟨m, hm, rfl, hown, hB⟩ := hrel
   have hBz := hB.size
   have n3 : wr.heap[w.heap.size]? = some (.cells #[.int .i64 k, .int .u32 t, .int .i64 st, .int .i64 en] 266 (0, 0)) := by rw [hB.block _ (by omega)]; exact n1
   have q3 : wr.cell? ⟨w.heap.size, 3, none⟩ = some (.int .i64 en) := by rw [cell_of_row wr _ 3 _ _ _ n3]; rfl
   have hBr : Below w.heap.size w wr := hb1.trans (hB.mono (by omega))
   have HO := hid hown
   have HB := hid hB
   have hsl := secs_len (vw on c) st m
   by_cases hlt : st + m < en
   · have RC := hid (jread_c (H.out.later hBr) ((st + m : Nat) : Int) (by omega) (by omega))
     have hS := (HV.out ((st + m : Nat) : Int)).1
     have HSN := hid (secs_snoc (vw on c) st m)
     have hlt' : ((st + m : Nat) : Int) < en := by omega
     have HQ : Hid (((st + m : Nat) : Int) + 1 = ((st + (m + 1) : Nat) : Int)) := by show _ = _; omega
     have hSl := hid hsl
     clear hown hB hsl
     generalize vw on c ((st + m : Nat) : Int) = S at *
     obtain ⟨q, hq⟩ : ∃ q, q = st + m := ⟨_, rfl⟩
     rw [← hq] at RC HQ hlt' hlt ⊢
     have hqb : q ≤ 2048 := by omega
     have HQQ := hid hq
     clear hq
     go_wp2_with (first
       | (have _q := K3.out; clear _q K3; at_builtin; refine wpList_append_own _ rfl _ _ 233 rfl (w.heap.size + 1) 260 i0 (secV zsec) 32 32 Tryz.underlying233 hi hz0 hz1 hz2 (by rfl) (by decide) _ _ _ rfl (hown5.alloc _) ⟨w5.heap.size, 0, none⟩ 1 1 (S.map by8) rfl (by simp [hS]) (news_sec (heap_alloc_new w5 _)) (one8 _) (by unfold maxLen; omega) (by omega) (by simp; omega) ?_; intro v9 w9 hown9 hgrow9 hnil9)
       | (have _q := K2.out; clear _q; refine wpList_exec rfl (exec_slice1 _ rfl S rfl hS) ?_; clear K2; (have K3 : Hid True := hid trivial))
       | (go_at_call 223; refine RC.out.mono ?_; rintro e w5 ⟨rfl, hb5⟩; (have hown5 := own_keep HO.out (Out.of (S := fun _ => False) hb5) (fun _ _ h => h)); (have hz5 := hb5.size); (have K2 : Hid True := hid trivial); rw [hSl.out] at hown5))
     have B9 : Below (w.heap.size + 1) W1 w9 := below_grown ((HB.out.trans (hb5.mono (by omega))).alloc (by omega) _) (hown5.alloc _) (Nat.le_refl _) (by simp; omega) hgrow9
     obtain ⟨a9, c9, rfl⟩ := own_shape6 hown9
     go_roundw
     case rel => exact ⟨m + 1, by have := HQQ.out; omega, by rw [← HQ.out], by rw [HSN.out, scells_snoc, List.length_append, hSl.out]; exact hown9, B9⟩
     case measure => simp [intOf]; omega
   · have em : m = en - st := by omega
     have hlt' : ¬ ((st + m : Nat) : Int) < en := by omega
     rw [em] at hown
     have HO2 := hid (own_base hown (Nat.le_succ _))
     obtain ⟨a9, c9, rfl⟩ := own_shape6 hown
     clear hown
     obtain ⟨q, hq⟩ : ∃ q, q = st + m := ⟨_, rfl⟩
     rw [← hq] at hlt' ⊢
     have hqb : q ≤ 4096 := by omega
     clear hq
     go_wp2
     go_ret
     exact ⟨_, rfl, HO2.out, hBr⟩
theorem size70 : (Tryz.prog.info? 266).map (·.size) = some 4 := by kernel_rfl
theorem hi70 (k : Nat) (t : Int) (N : Nat) : (Tryz.prog.info? 266).map (·.size) = some (arC k t N).size := size70
theorem one70 (k : Nat) (t : Int) (N : Nat) : (arC k t N).all (·.oneCell') = true := by unfold arC; simp [Value.oneCell']
theorem best_no {v : Int → Sec} {k : Nat} (h : ¬ (best v k).2 < Jo.turnOf (v k)) : best v (k + 1) = best v k := by conv => lhs; unfold best; rw [if_neg h]
theorem best_yes {v : Int → Sec} {k : Nat} (h : (best v k).2 < Jo.turnOf (v k)) : best v (k + 1) = (k, Jo.turnOf (v k)) := by conv => lhs; unfold best; rw [if_pos h]
set_option maxRecDepth 20000 in
set_option maxHeartbeats 4000000 in
theorem counting_c {w : World} {j d b1 b2 N : Nat} {on : Int → Sec} {c : Int → Option Sec} (h : IsJ w j d b1 b2 N on c) :
   Calls Tryz.prog 168 #[pB j] w fun e w' => e = .returned (.agg (arC (best (vw on c) 2).1 (best (vw on c) 2).2 N)) ∧ Below w.heap.size w w' := by
 have hN := h.2.1.two
 have h8 := h.2.2
 have hv := fun i => h.2.1.sec i
 have haz : asz N ≤ 1023 := by unfold asz; omega
 have hb1 : Below w.heap.size w (w.alloc (.cells #[.int .i64 0, .int .u32 0, .int .i64 0, .int .i64 0] 266)) := (Below.refl _ _).alloc (Nat.le_refl _) _
 have n1 := heap_alloc_new w (.cells #[.int .i64 0, .int .u32 0, .int .i64 0, .int .i64 0] 266)
 have hz1 : (w.alloc (.cells #[.int .i64 0, .int .u32 0, .int .i64 0, .int .i64 0] 266)).heap.size = w.heap.size + 1 := by simp
 have AC := hid (area_c (h.later hb1) 0 (by omega) 0)
 have H := hid h
 have HV := hid hv
 clear h hv
 go_enter Tryz.func168, Tryz.ntmps168
 go_wp2_with fail
 generalize (w.alloc (.cells #[.int .i64 0, .int .u32 0, .int .i64 0, .int .i64 0] 266)) = W1 at *
 refine AC.out.mono ?_
 rintro _ w2 ⟨rfl, hb2⟩
 unfold arV
 have n2 : w2.heap[w.heap.size]? = some (.cells #[.int .i64 0, .int .u32 0, .int .i64 0, .int .i64 0] 266 (0, 0)) := by rw [hb2.block _ (by omega)]; exact n1
 have hB2 : Below w.heap.size w w2 := hb1.trans (hb2.mono (by omega))
 have hz2 := hb2.size
 have n3 := heap_alloc_new w2 (.cells (arC 0 0 N) 266)
 have A3 := alloc_facts w2 (.cells (arC 0 0 N) 266)
 have B3 : Below w.heap.size w (w2.alloc (.cells (arC 0 0 N) 266)) := hB2.alloc hB2.size _
 have r3 : (w2.alloc (.cells (arC 0 0 N) 266)).heap[w.heap.size]? = some (.cells #[.int .i64 0, .int .u32 0, .int .i64 0, .int .i64 0] 266 (0, 0)) := by rw [A3.2.1 _ (by omega)]; exact n2
 have e0 : arC 0 0 N = #[.int .i64 0, .int .u32 0, .int .i64 2, .int .i64 (2 + (asz N : Nat))] := by unfold arC; simp
 rw [e0] at r3 B3
 have n3' : (w2.alloc (.cells #[.int .i64 0, .int .u32 0, .int .i64 2, .int .i64 (2 + (asz N : Nat))] 266)).heap[w2.heap.size]? = some (.cells (arC 0 0 N) 266 (0, 0)) := by rw [← e0]; exact n3
 clear n3 e0
 have hfb1 : w.heap.size < w2.heap.size := by omega
 have hu70 := Tryz.underlying266
 go_wp2
 go_loopw [9] (fun i wr => ∃ m : Nat, m ≤ 2 ∧ i = .int .i64 m ∧ wr.heap[w2.heap.size]? = some (.cells (arC (best (vw on c) m).1 (best (vw on c) m).2 N) 266 (0, 0)) ∧ wr.heap[w.heap.size]? = some (.cells #[.int .i64 0, .int .u32 0, .int .i64 0, .int .i64 0] 266 (0, 0)) ∧ Below w.heap.size w wr) (fun i _ => 2 - (intOf i).toNat)
 case atStart => exact ⟨0, by omega, rfl, n3', r3, B3⟩
 case round =>
   obtain ⟨m, hm, rfl, hx, hr, hB⟩ := hrel
   clear n3' A3 B3 r3 n2
   have hbb := best_bd HV.out m hm
   have HX := hid hx
   have HR := hid hr
   have HB := hid hB
   have hfz : w2.heap.size < wr.heap.size := lt_blk hx
   clear hx hr hB
   by_cases hlt : m < 2
   · have hlt' : ((m : Nat) : Int) < 2 := by omega
     have RC := hid (jread_c (H.out.later HB.out) (m : Int) (by omega) (by omega))
     have hS := HV.out (m : Int)
     have hTb := Jo.turnOf_bd hS.2
     have HY := hid (best_yes (v := vw on c) (k := m))
     have HNo := hid (best_no (v := vw on c) (k := m))
     have HD := hid (fun w => readHead_c (vw on c (m : Int)) w hS)
     generalize vw on c (m : Int) = S at *
     generalize Jo.turnOf S = T at *
     obtain ⟨bk, hbk⟩ : ∃ bk, bk = (best (vw on c) m).1 := ⟨_, rfl⟩
     obtain ⟨bt, hbt⟩ : ∃ bt, bt = (best (vw on c) m).2 := ⟨_, rfl⟩
     rw [← hbk, ← hbt] at HX hbb
     rw [← hbt] at HY HNo
     have HBK := hid hbk
     have HBT := hid hbt
     clear hbk hbt
     by_cases hT : bt < T
     · have hb0 : (T != 0) = true := by simp; omega
       rw [hb0] at HD
       have AR : Hid (∀ w6, Below w.heap.size w w6 → Calls Tryz.prog 200 #[pB j, .int .i64 m, .int .u32 T] w6 fun e w' => e = .returned (.agg (arC m T N)) ∧ Below w6.heap.size w6 w') := fun w6 h6 => area_c (H.out.later h6) m (by omega) T
       go_wp2_with (first
         | (go_at_call 200; refine (AR.out w6 (HB.out.trans (B6.mono HB.out.size))).mono ?_; rintro e w7 ⟨rfl, hb7⟩; (have B7 : Below wr.heap.size wr w7 := B6.trans (hb7.mono B6.size)); (have x7 : w7.heap[w2.heap.size]? = some (.cells (arC bk bt N) 266 (0, 0)) := by rw [B7.block _ hfz]; exact HX.out); (have K7 : Hid True := hid trivial))
         | (have _q := K7.out; clear _q; refine wpList_store_row rfl _ _ _ rfl w2.heap.size (arC m T N) rfl rfl _ _ x7 (hi70 m T N) rfl (one70 m T N) ?_; clear K7)
         | (go_at_call 222; refine (HD.out _).mono ?_; rintro e w6 ⟨rfl, hb6⟩; (have B6 : Below wr.heap.size wr w6 := hb5.trans (hb6.mono hb5.size)); (have x6 : w6.heap[w2.heap.size]? = some (.cells (arC bk bt N) 266 (0, 0)) := by rw [B6.block _ hfz]; exact HX.out); (have q6 : w6.cell? ⟨w2.heap.size, 1, none⟩ = some (.int .u32 bt) := by rw [cell_of_row w6 _ 1 _ _ _ x6]; rfl))
         | (go_at_call 223; refine RC.out.mono ?_; rintro e w5 ⟨rfl, hb5⟩))
       go_roundw
       case rel => exact ⟨m + 1, by omega, by go_num, by rw [HY.out hT]; exact setRow_heap w7 _ _ _ _ _ x7, by rw [row_other _ _ _ _ (by omega), B7.block _ (by omega)]; exact HR.out, Below.setRow (HB.out.trans (B7.mono HB.out.size)) _ _ (by omega)⟩
       case measure => simp [intOf]; omega
     · by_cases hT0 : T = 0
       · subst hT0
         have hb0 : ((0 : Int) != 0) = false := by decide
         rw [hb0] at HD
         go_wp2_with (first
           | (go_at_call 222; refine (HD.out _).mono ?_; rintro e w6 ⟨rfl, hb6⟩; (have B6 : Below wr.heap.size wr w6 := hb5.trans (hb6.mono hb5.size)); (have x6 : w6.heap[w2.heap.size]? = some (.cells (arC bk bt N) 266 (0, 0)) := by rw [B6.block _ hfz]; exact HX.out); (have q6 : w6.cell? ⟨w2.heap.size, 1, none⟩ = some (.int .u32 bt) := by rw [cell_of_row w6 _ 1 _ _ _ x6]; rfl))
           | (go_at_call 223; refine RC.out.mono ?_; rintro e w5 ⟨rfl, hb5⟩))
         go_roundw
         case rel => exact ⟨m + 1, by omega, by go_num, by rw [HNo.out hT, ← HBK.out, ← HBT.out]; exact x6, by rw [B6.block _ (by omega)]; exact HR.out, HB.out.trans (B6.mono HB.out.size)⟩
         case measure => simp [intOf]; omega
       · have hb0 : (T != 0) = true := by simp; omega
         rw [hb0] at HD
         go_wp2_with (first
           | (go_at_call 222; refine (HD.out _).mono ?_; rintro e w6 ⟨rfl, hb6⟩; (have B6 : Below wr.heap.size wr w6 := hb5.trans (hb6.mono hb5.size)); (have x6 : w6.heap[w2.heap.size]? = some (.cells (arC bk bt N) 266 (0, 0)) := by rw [B6.block _ hfz]; exact HX.out); (have q6 : w6.cell? ⟨w2.heap.size, 1, none⟩ = some (.int .u32 bt) := by rw [cell_of_row w6 _ 1 _ _ _ x6]; rfl))
           | (go_at_call 223; refine RC.out.mono ?_; rintro e w5 ⟨rfl, hb5⟩))
         go_roundw
         case rel => exact ⟨m + 1, by omega, by go_num, by rw [HNo.out hT, ← HBK.out, ← HBT.out]; exact x6, by rw [B6.block _ (by omega)]; exact HR.out, HB.out.trans (B6.mono HB.out.size)⟩
         case measure => simp [intOf]; omega
   · have em : m = 2 := by omega
     subst em
     go_wp2_with (first
       | (refine wpList_load_row rfl _ _ rfl w2.heap.size rfl _ _ _ _ HX.out hu70 rfl (hi70 _ _ N) ?_)
       | (refine wpList_store_row rfl _ _ _ rfl w.heap.size (arC (best (vw on c) 2).1 (best (vw on c) 2).2 N) rfl rfl _ _ HR.out (hi70 _ _ N) rfl (one70 _ _ N) ?_))
     refine bodyPost_ret (v := .agg (arC (best (vw on c) 2).1 (best (vw on c) 2).2 N)) (results_cell_row rfl _ _ w.heap.size _ _ _ _ rfl (setRow_heap wr _ _ _ _ _ HR.out) hu70 rfl (hi70 _ _ N)) rfl ⟨rfl, Below.setRow HB.out _ _ (Nat.le_refl _)⟩
end Go.Proofs.YtfmghbennahlfaaGreat
