/-
  
-/
import Derived.Test.YtpolbbdaippclaaGreatNsBj
import Derived.Test.YtpolbbdaippclaaGreatNsBk
namespace Go.Proofs.YtpolbbdaippclaaGreat
open Go.RowKit Go.ChangeShapes Go.WideShapes Go.ChangeAt Go.Maps Go.Shelf
set_option linter.unusedVariables false
set_option linter.unusedSimpArgs false
set_option maxRecDepth 100000
theorem eight_cells {W : World} {A T : Nat} {u0 u1 u2 u3 u4 u5 u6 u7 : Value} (h : W.heap[A]? = some (.cells #[u0, u1, u2, u3, u4, u5, u6, u7] T (0, 0))) (v0 v1 v2 v3 v4 v5 v6 : Value) :
   (((((((W.setCell ⟨A, 1, none⟩ (v0)).setCell ⟨A, 2, none⟩ (v1)).setCell ⟨A, 3, none⟩ (v2)).setCell ⟨A, 4, none⟩ (v3)).setCell ⟨A, 5, none⟩ (v4)).setCell ⟨A, 6, none⟩ (v5)).setCell ⟨A, 7, none⟩ (v6)).heap[A]? = some (.cells #[u0, v0, v1, v2, v3, v4, v5, v6] T (0, 0)) := by
 simp only [World.setCell]
 simp [Array.getElem?_modify, h]
set_option maxHeartbeats 4000000 in
theorem enter_old {j p : Nat} {w : World} (tv vv tv2 vv2 : Value) (ver ver2 d0 d1 d2 : Int) (hrow : w.heap[p]? = some (.cells #[pB j, tv, vv, .int .u64 ver, .int .u32 d0, .int .u32 d1, .int .u32 d2, .slice none 0 0] 79 (0, 0))) :
   Calls Tryz.prog 22 #[.pointer (some ⟨p, 0, none⟩), .agg #[tv2, vv2, .int .u64 ver2, .int .u32 d0, .int .u32 d1, .int .u32 d2, .slice none 0 0]] w fun e w' => e = .returned (.int .i64 0) ∧ Below w.heap.size w w' := by
 have hpl : p < w.heap.size := lt_blkR hrow
 have EQ : Hid (∀ W : World, (Op.equalIn 10000 74 (.agg #[.int .u32 d0, .int .u32 d1, .int .u32 d2]) (.agg #[.int .u32 d0, .int .u32 d1, .int .u32 d2])).run Tryz.prog W = .ok true W) := hid (fun W => by rw [eq3]; simp)
 have b1 := below_1 w (.cells #[tv2, vv2, .int .u64 ver2, .int .u32 d0, .int .u32 d1, .int .u32 d2, .slice none 0 0] 76)
 have g1 := heap_alloc_new w (.cells #[tv2, vv2, .int .u64 ver2, .int .u32 d0, .int .u32 d1, .int .u32 d2, .slice none 0 0] 76)
 have B1 := hid b1
 have hr1 := (b1.block _ hpl).trans hrow
 clear b1 hrow
 go_enter Tryz.func22, Tryz.ntmps22
 go_upto_region 1 with fail
 generalize (w.alloc (.cells #[tv2, vv2, .int .u64 ver2, .int .u32 d0, .int .u32 d1, .int .u32 d2, .slice none 0 0] 76)) = V at *
 have hS0 : V.drew.heap[w.heap.size]? = some (.cells #[tv2, vv2, .int .u64 ver2, .int .u32 d0, .int .u32 d1, .int .u32 d2, .slice none 0 0] 76 (0, 0)) ∧ V.drew.heap[p]? = some (.cells #[pB j, tv, vv, .int .u64 ver, .int .u32 d0, .int .u32 d1, .int .u32 d2, .slice none 0 0] 79 (0, 0)) := ⟨g1, hr1⟩
 have D0 := hid (Below.drew (Below.refl V.heap.size V))
 have LL : ∀ w' : World, (w'.heap[w.heap.size]? = some (.cells #[tv2, vv2, .int .u64 ver2, .int .u32 d0, .int .u32 d1, .int .u32 d2, .slice none 0 0] 76 (0, 0)) ∧ w'.heap[p]? = some (.cells #[pB j, tv, vv, .int .u64 ver, .int .u32 d0, .int .u32 d1, .int .u32 d2, .slice none 0 0] 79 (0, 0))) → (w'.heap[w.heap.size]? = some (.cells #[tv2, vv2, .int .u64 ver2, .int .u32 d0, .int .u32 d1, .int .u32 d2, .slice none 0 0] 76 (0, 0)) ∧ w'.heap[p]? = some (.cells #[pB j, tv, vv, .int .u64 ver, .int .u32 d0, .int .u32 d1, .int .u32 d2, .slice none 0 0] 79 (0, 0))) := fun _ h => h
 clear g1 hr1
 go_wp2_with fail
 refine wp_region_held_drew (S := fun w' => w'.heap[w.heap.size]? = some (.cells #[tv2, vv2, .int .u64 ver2, .int .u32 d0, .int .u32 d1, .int .u32 d2, .slice none 0 0] 76 (0, 0)) ∧ w'.heap[p]? = some (.cells #[pB j, tv, vv, .int .u64 ver, .int .u32 d0, .int .u32 d1, .int .u32 d2, .slice none 0 0] 79 (0, 0))) (by kernel_rfl) hS0 (fun hHeld => ?_)
 refine take_l 0 (v := ?_) rfl (by kernel_rfl) (by kernel_rfl) (by kernel_rfl) (fun _ _ _ h => h) (Or.inl ⟨by rfl, ?_⟩) (by assumption) ?_
 rotate_left
 · (intro w' hSw; clear hSw; go_simp; first | done | with_reducible rfl)
 try simp only [Act.put, List.setIfInBounds_toArray, List.set_cons_zero, List.set_cons_succ]
 refine take_l 1 (v := ?_) rfl (by kernel_rfl) (by kernel_rfl) (by kernel_rfl) (fun _ _ _ h => h) (Or.inl ⟨by rfl, ?_⟩) (by assumption) ?_
 rotate_left
 · (intro w' hSw; (have q0 : w'.cell? ⟨w.heap.size, 3, none⟩ = some (.int .u32 d0) := cell_of_row2 (LL _ hSw).1 3 rfl); (have q1 : w'.cell? ⟨w.heap.size, 4, none⟩ = some (.int .u32 d1) := cell_of_row2 (LL _ hSw).1 4 rfl); (have q2 : w'.cell? ⟨w.heap.size, 5, none⟩ = some (.int .u32 d2) := cell_of_row2 (LL _ hSw).1 5 rfl); clear hSw; go_simp; first | done | with_reducible rfl)
 try simp only [Act.put, List.setIfInBounds_toArray, List.set_cons_zero, List.set_cons_succ]
 refine take_l 2 (v := ?_) rfl (by kernel_rfl) (by kernel_rfl) (by kernel_rfl) (fun _ _ _ h => h) (Or.inl ⟨by rfl, ?_⟩) (by assumption) ?_
 rotate_left
 · (intro w' hSw; clear hSw; go_simp; first | done | with_reducible rfl)
 try simp only [Act.put, List.setIfInBounds_toArray, List.set_cons_zero, List.set_cons_succ]
 refine take_l 3 (v := ?_) rfl (by kernel_rfl) (by kernel_rfl) (by kernel_rfl) (fun _ _ _ h => h) (Or.inl ⟨by rfl, ?_⟩) (by assumption) ?_
 rotate_left
 · (intro w' hSw; clear hSw; go_simp; first | done | with_reducible rfl)
 try simp only [Act.put, List.setIfInBounds_toArray, List.set_cons_zero, List.set_cons_succ]
 refine take_l 4 (v := ?_) rfl (by kernel_rfl) (by kernel_rfl) (by kernel_rfl) (fun _ _ _ h => h) (Or.inl ⟨by rfl, ?_⟩) (by assumption) ?_
 rotate_left
 · (intro w' hSw; clear hSw; go_simp; first | done | with_reducible rfl)
 try simp only [Act.put, List.setIfInBounds_toArray, List.set_cons_zero, List.set_cons_succ]
 refine take_l 5 (v := ?_) rfl (by kernel_rfl) (by kernel_rfl) (by kernel_rfl) (fun _ _ _ h => h) (Or.inl ⟨by rfl, ?_⟩) (by assumption) ?_
 rotate_left
 · (intro w' hSw; clear hSw; go_simp; first | done | with_reducible rfl)
 try simp only [Act.put, List.setIfInBounds_toArray, List.set_cons_zero, List.set_cons_succ]
 refine take_l 6 (v := ?_) rfl (by kernel_rfl) (by kernel_rfl) (by kernel_rfl) (fun _ _ _ h => h) (Or.inl ⟨by rfl, ?_⟩) (by assumption) ?_
 rotate_left
 · (intro w' hSw; (have q0 : w'.cell? ⟨p, 4, none⟩ = some (.int .u32 d0) := cell_of_row2 (LL _ hSw).2 4 rfl); (have q1 : w'.cell? ⟨p, 5, none⟩ = some (.int .u32 d1) := cell_of_row2 (LL _ hSw).2 5 rfl); (have q2 : w'.cell? ⟨p, 6, none⟩ = some (.int .u32 d2) := cell_of_row2 (LL _ hSw).2 6 rfl); clear hSw; go_simp; first | done | with_reducible rfl)
 try simp only [Act.put, List.setIfInBounds_toArray, List.set_cons_zero, List.set_cons_succ]
 refine take_l 7 (v := ?_) rfl (by kernel_rfl) (by kernel_rfl) (by kernel_rfl) (fun _ _ _ h => h) (Or.inl ⟨by rfl, ?_⟩) (by assumption) ?_
 rotate_left
 · (intro w' hSw; (have EQ := EQ.out); clear hSw; go_simp; first | done | with_reducible rfl)
 try simp only [Act.put, List.setIfInBounds_toArray, List.set_cons_zero, List.set_cons_succ]
 refine take_l 8 (v := ?_) rfl (by kernel_rfl) (by kernel_rfl) (by kernel_rfl) (fun _ _ _ h => h) (Or.inl ⟨by rfl, ?_⟩) (by assumption) ?_
 rotate_left
 · (intro w' hSw; clear hSw; go_simp; first | done | with_reducible rfl)
 try simp only [Act.put, List.setIfInBounds_toArray, List.set_cons_zero, List.set_cons_succ]
 refine wpAnyH_done (by kernel_rfl) ?_ _
 clear hHeld
 go_wp2
 go_ret
 exact ⟨rfl, B1.out.trans (D0.out.mono B1.out.size)⟩
set_option maxHeartbeats 8000000 in
theorem enterG_c {base j N p : Nat} {t : Int} {w : World} (hJ : JH base w j N t) (hbp : base ≤ p) (tv vv : Value) (ver d0 d1 d2 : Int) (hrow : w.heap[p]? = some (.cells #[pB j, tv, vv, .int .u64 ver, .int .u32 d0, .int .u32 d1, .int .u32 d2, .slice none 0 0] 79 (0, 0)))
   (ad bd : Addr) (ca cb : Nat) (lw : List Nd) (ss : List St) (ver2 e0 e1 e2 : Int) (h : IsNs w (some ad) lw) (hs : IsSs w (some bd) ss) (hm : lw.length ≤ 900) (hm' : ss.length ≤ 900)
   (qa : Option Addr) (qn qc : Nat) (vs : List Vd) (hvs : IsVs w (.slice qa qn qc) vs) (hok : ∀ x ∈ vs, x.Ok) (hR : RSnap lw ss) (hwf : ∀ x ∈ lw, x.Wf) (hv : 0 ≤ ver2 ∧ ver2 < 72057594037927936) (h0 : 0 ≤ e0 ∧ e0 < 4294967296) (h1 : 0 ≤ e1 ∧ e1 < 4294967296) (h2 : 0 ≤ e2 ∧ e2 < 4294967296)
   (ho : Jo.okG [snapB lw ss, numB ver2 e0 e1 e2 ++ vsB vs] = true) (hn : Jo.needF [snapB lw ss, numB ver2 e0 e1 e2 ++ vsB vs] ≤ asz N) (ht : t ≠ 4294967295) (hne : (e0 == d0 && (e1 == d1 && e2 == d2)) = false) (hle : ver ≤ ver2) :
   Calls Tryz.prog 22 #[.pointer (some ⟨p, 0, none⟩), .agg #[.slice (some ad) lw.length ca, .slice (some bd) ss.length cb, .int .u64 ver2, .int .u32 e0, .int .u32 e1, .int .u32 e2, .slice qa qn qc]] w fun e w' => e = .returned (.int .i64 0) ∧ JH base w' j N (t + 1) ∧ w'.heap[p]? = some (.cells #[pB j, .slice (some ad) lw.length ca, .slice (some bd) ss.length cb, .int .u64 ver2, .int .u32 e0, .int .u32 e1, .int .u32 e2, .slice qa qn qc] 79 (0, 0)) ∧ KeepP p w w' ∧ Below base w w' ∧ w.heap.size ≤ w'.heap.size := by
 have hpl : p < w.heap.size := lt_blkR hrow
 have EQ : Hid (∀ W : World, (Op.equalIn 10000 74 (.agg #[.int .u32 e0, .int .u32 e1, .int .u32 e2]) (.agg #[.int .u32 d0, .int .u32 d1, .int .u32 d2])).run Tryz.prog W = .ok false W) := hid (fun W => by rw [eq3, hne])
 have b1 := below_1 w (.cells #[.slice (some ad) lw.length ca, .slice (some bd) ss.length cb, .int .u64 ver2, .int .u32 e0, .int .u32 e1, .int .u32 e2, .slice qa qn qc] 76)
 have g1 := heap_alloc_new w (.cells #[.slice (some ad) lw.length ca, .slice (some bd) ss.length cb, .int .u64 ver2, .int .u32 e0, .int .u32 e1, .int .u32 e2, .slice qa qn qc] 76)
 have B1 := hid b1
 have hr1 := (b1.block _ hpl).trans hrow
 have KC := hid (fun (W : World) (hW : Below (w.alloc (.cells #[.slice (some ad) lw.length ca, .slice (some bd) ss.length cb, .int .u64 ver2, .int .u32 e0, .int .u32 e1, .int .u32 e2, .slice qa qn qc] 76)).heap.size (w.alloc (.cells #[.slice (some ad) lw.length ca, .slice (some bd) ss.length cb, .int .u64 ver2, .int .u32 e0, .int .u32 e1, .int .u32 e2, .slice qa qn qc] 76)) W) => keepV_c ((hJ.later b1).later hW) (Nat.le_trans hbp (Nat.le_trans (Nat.le_of_lt hpl) (Nat.le_trans b1.size hW.size))) ad bd ca cb lw ss ver2 e0 e1 e2 ((h.later b1).later hW) ((hs.later b1).later hW) hm hm' hR hwf qa qn qc vs ((hvs.later b1).later hW) hok hv h0 h1 h2 ho hn ht)
 have HP := hid hpl
 have HBP := hid hbp
 have hlt : ¬ ver2 < ver := by omega
 clear hvs hok hJ h hs hR hwf hv h0 h1 h2 ho hn ht hne b1 hrow hle
 go_enter Tryz.func22, Tryz.ntmps22
 go_upto_region 1 with fail
 generalize (w.alloc (.cells #[.slice (some ad) lw.length ca, .slice (some bd) ss.length cb, .int .u64 ver2, .int .u32 e0, .int .u32 e1, .int .u32 e2, .slice qa qn qc] 76)) = V at *
 have hS0 : V.drew.heap[w.heap.size]? = some (.cells #[.slice (some ad) lw.length ca, .slice (some bd) ss.length cb, .int .u64 ver2, .int .u32 e0, .int .u32 e1, .int .u32 e2, .slice qa qn qc] 76 (0, 0)) ∧ V.drew.heap[p]? = some (.cells #[pB j, tv, vv, .int .u64 ver, .int .u32 d0, .int .u32 d1, .int .u32 d2, .slice none 0 0] 79 (0, 0)) := ⟨g1, hr1⟩
 have D0 := hid (Below.drew (Below.refl V.heap.size V))
 have LL : ∀ w' : World, (w'.heap[w.heap.size]? = some (.cells #[.slice (some ad) lw.length ca, .slice (some bd) ss.length cb, .int .u64 ver2, .int .u32 e0, .int .u32 e1, .int .u32 e2, .slice qa qn qc] 76 (0, 0)) ∧ w'.heap[p]? = some (.cells #[pB j, tv, vv, .int .u64 ver, .int .u32 d0, .int .u32 d1, .int .u32 d2, .slice none 0 0] 79 (0, 0))) → (w'.heap[w.heap.size]? = some (.cells #[.slice (some ad) lw.length ca, .slice (some bd) ss.length cb, .int .u64 ver2, .int .u32 e0, .int .u32 e1, .int .u32 e2, .slice qa qn qc] 76 (0, 0)) ∧ w'.heap[p]? = some (.cells #[pB j, tv, vv, .int .u64 ver, .int .u32 d0, .int .u32 d1, .int .u32 d2, .slice none 0 0] 79 (0, 0))) := fun _ h => h
 clear g1 hr1
 go_wp2_with fail
 refine wp_region_held_drew (S := fun w' => w'.heap[w.heap.size]? = some (.cells #[.slice (some ad) lw.length ca, .slice (some bd) ss.length cb, .int .u64 ver2, .int .u32 e0, .int .u32 e1, .int .u32 e2, .slice qa qn qc] 76 (0, 0)) ∧ w'.heap[p]? = some (.cells #[pB j, tv, vv, .int .u64 ver, .int .u32 d0, .int .u32 d1, .int .u32 d2, .slice none 0 0] 79 (0, 0))) (by kernel_rfl) hS0 (fun hHeld => ?_)
 refine take_l 0 (v := ?_) rfl (by kernel_rfl) (by kernel_rfl) (by kernel_rfl) (fun _ _ _ h => h) (Or.inl ⟨by rfl, ?_⟩) (by assumption) ?_
 rotate_left
 · (intro w' hSw; clear hSw; go_simp; first | done | with_reducible rfl)
 try simp only [Act.put, List.setIfInBounds_toArray, List.set_cons_zero, List.set_cons_succ]
 refine take_l 1 (v := ?_) rfl (by kernel_rfl) (by kernel_rfl) (by kernel_rfl) (fun _ _ _ h => h) (Or.inl ⟨by rfl, ?_⟩) (by assumption) ?_
 rotate_left
 · (intro w' hSw; (have q0 : w'.cell? ⟨w.heap.size, 3, none⟩ = some (.int .u32 e0) := cell_of_row2 (LL _ hSw).1 3 rfl); (have q1 : w'.cell? ⟨w.heap.size, 4, none⟩ = some (.int .u32 e1) := cell_of_row2 (LL _ hSw).1 4 rfl); (have q2 : w'.cell? ⟨w.heap.size, 5, none⟩ = some (.int .u32 e2) := cell_of_row2 (LL _ hSw).1 5 rfl); clear hSw; go_simp; first | done | with_reducible rfl)
 try simp only [Act.put, List.setIfInBounds_toArray, List.set_cons_zero, List.set_cons_succ]
 refine take_l 2 (v := ?_) rfl (by kernel_rfl) (by kernel_rfl) (by kernel_rfl) (fun _ _ _ h => h) (Or.inl ⟨by rfl, ?_⟩) (by assumption) ?_
 rotate_left
 · (intro w' hSw; clear hSw; go_simp; first | done | with_reducible rfl)
 try simp only [Act.put, List.setIfInBounds_toArray, List.set_cons_zero, List.set_cons_succ]
 refine take_l 3 (v := ?_) rfl (by kernel_rfl) (by kernel_rfl) (by kernel_rfl) (fun _ _ _ h => h) (Or.inl ⟨by rfl, ?_⟩) (by assumption) ?_
 rotate_left
 · (intro w' hSw; clear hSw; go_simp; first | done | with_reducible rfl)
 try simp only [Act.put, List.setIfInBounds_toArray, List.set_cons_zero, List.set_cons_succ]
 refine take_l 4 (v := ?_) rfl (by kernel_rfl) (by kernel_rfl) (by kernel_rfl) (fun _ _ _ h => h) (Or.inl ⟨by rfl, ?_⟩) (by assumption) ?_
 rotate_left
 · (intro w' hSw; clear hSw; go_simp; first | done | with_reducible rfl)
 try simp only [Act.put, List.setIfInBounds_toArray, List.set_cons_zero, List.set_cons_succ]
 refine take_l 5 (v := ?_) rfl (by kernel_rfl) (by kernel_rfl) (by kernel_rfl) (fun _ _ _ h => h) (Or.inl ⟨by rfl, ?_⟩) (by assumption) ?_
 rotate_left
 · (intro w' hSw; clear hSw; go_simp; first | done | with_reducible rfl)
 try simp only [Act.put, List.setIfInBounds_toArray, List.set_cons_zero, List.set_cons_succ]
 refine take_l 6 (v := ?_) rfl (by kernel_rfl) (by kernel_rfl) (by kernel_rfl) (fun _ _ _ h => h) (Or.inl ⟨by rfl, ?_⟩) (by assumption) ?_
 rotate_left
 · (intro w' hSw; (have q0 : w'.cell? ⟨p, 4, none⟩ = some (.int .u32 d0) := cell_of_row2 (LL _ hSw).2 4 rfl); (have q1 : w'.cell? ⟨p, 5, none⟩ = some (.int .u32 d1) := cell_of_row2 (LL _ hSw).2 5 rfl); (have q2 : w'.cell? ⟨p, 6, none⟩ = some (.int .u32 d2) := cell_of_row2 (LL _ hSw).2 6 rfl); clear hSw; go_simp; first | done | with_reducible rfl)
 try simp only [Act.put, List.setIfInBounds_toArray, List.set_cons_zero, List.set_cons_succ]
 refine take_l 7 (v := ?_) rfl (by kernel_rfl) (by kernel_rfl) (by kernel_rfl) (fun _ _ _ h => h) (Or.inl ⟨by rfl, ?_⟩) (by assumption) ?_
 rotate_left
 · (intro w' hSw; (have EQ := EQ.out); clear hSw; go_simp; first | done | with_reducible rfl)
 try simp only [Act.put, List.setIfInBounds_toArray, List.set_cons_zero, List.set_cons_succ]
 refine take_l 8 (v := ?_) rfl (by kernel_rfl) (by kernel_rfl) (by kernel_rfl) (fun _ _ _ h => h) (Or.inl ⟨by rfl, ?_⟩) (by assumption) ?_
 rotate_left
 · (intro w' hSw; clear hSw; go_simp; first | done | with_reducible rfl)
 try simp only [Act.put, List.setIfInBounds_toArray, List.set_cons_zero, List.set_cons_succ]
 refine wpAnyH_done (by kernel_rfl) ?_ _
 clear hHeld
 have hS1 : V.drew.drew.heap[w.heap.size]? = some (.cells #[.slice (some ad) lw.length ca, .slice (some bd) ss.length cb, .int .u64 ver2, .int .u32 e0, .int .u32 e1, .int .u32 e2, .slice qa qn qc] 76 (0, 0)) ∧ V.drew.drew.heap[p]? = some (.cells #[pB j, tv, vv, .int .u64 ver, .int .u32 d0, .int .u32 d1, .int .u32 d2, .slice none 0 0] 79 (0, 0)) := hS0
 have D1 := hid (Below.drew D0.out)
 clear hS0
 go_wp2_with fail
 refine wp_region_held_drew (S := fun w' => w'.heap[w.heap.size]? = some (.cells #[.slice (some ad) lw.length ca, .slice (some bd) ss.length cb, .int .u64 ver2, .int .u32 e0, .int .u32 e1, .int .u32 e2, .slice qa qn qc] 76 (0, 0)) ∧ w'.heap[p]? = some (.cells #[pB j, tv, vv, .int .u64 ver, .int .u32 d0, .int .u32 d1, .int .u32 d2, .slice none 0 0] 79 (0, 0))) (by kernel_rfl) hS1 (fun hHeld => ?_)
 refine take_l 0 (v := ?_) rfl (by kernel_rfl) (by kernel_rfl) (by kernel_rfl) (fun _ _ _ h => h) (Or.inl ⟨by rfl, ?_⟩) (by assumption) ?_
 rotate_left
 · (intro w' hSw; clear hSw; go_simp; first | done | with_reducible rfl)
 try simp only [Act.put, List.setIfInBounds_toArray, List.set_cons_zero, List.set_cons_succ]
 refine take_l 1 (v := ?_) rfl (by kernel_rfl) (by kernel_rfl) (by kernel_rfl) (fun _ _ _ h => h) (Or.inl ⟨by rfl, ?_⟩) (by assumption) ?_
 rotate_left
 · (intro w' hSw; (have q0 : w'.cell? ⟨w.heap.size, 2, none⟩ = some (.int .u64 ver2) := cell_of_row2 (LL _ hSw).1 2 rfl); clear hSw; go_simp; first | done | with_reducible rfl)
 try simp only [Act.put, List.setIfInBounds_toArray, List.set_cons_zero, List.set_cons_succ]
 refine take_l 2 (v := ?_) rfl (by kernel_rfl) (by kernel_rfl) (by kernel_rfl) (fun _ _ _ h => h) (Or.inl ⟨by rfl, ?_⟩) (by assumption) ?_
 rotate_left
 · (intro w' hSw; clear hSw; go_simp; first | done | with_reducible rfl)
 try simp only [Act.put, List.setIfInBounds_toArray, List.set_cons_zero, List.set_cons_succ]
 refine take_l 3 (v := ?_) rfl (by kernel_rfl) (by kernel_rfl) (by kernel_rfl) (fun _ _ _ h => h) (Or.inl ⟨by rfl, ?_⟩) (by assumption) ?_
 rotate_left
 · (intro w' hSw; clear hSw; go_simp; first | done | with_reducible rfl)
 try simp only [Act.put, List.setIfInBounds_toArray, List.set_cons_zero, List.set_cons_succ]
 refine take_l 4 (v := ?_) rfl (by kernel_rfl) (by kernel_rfl) (by kernel_rfl) (fun _ _ _ h => h) (Or.inl ⟨by rfl, ?_⟩) (by assumption) ?_
 rotate_left
 · (intro w' hSw; clear hSw; go_simp; first | done | with_reducible rfl)
 try simp only [Act.put, List.setIfInBounds_toArray, List.set_cons_zero, List.set_cons_succ]
 refine take_l 5 (v := ?_) rfl (by kernel_rfl) (by kernel_rfl) (by kernel_rfl) (fun _ _ _ h => h) (Or.inl ⟨by rfl, ?_⟩) (by assumption) ?_
 rotate_left
 · (intro w' hSw; clear hSw; go_simp; first | done | with_reducible rfl)
 try simp only [Act.put, List.setIfInBounds_toArray, List.set_cons_zero, List.set_cons_succ]
 refine take_l 6 (v := ?_) rfl (by kernel_rfl) (by kernel_rfl) (by kernel_rfl) (fun _ _ _ h => h) (Or.inl ⟨by rfl, ?_⟩) (by assumption) ?_
 rotate_left
 · (intro w' hSw; (have q0 : w'.cell? ⟨p, 3, none⟩ = some (.int .u64 ver) := cell_of_row2 (LL _ hSw).2 3 rfl); clear hSw; go_simp; first | done | with_reducible rfl)
 try simp only [Act.put, List.setIfInBounds_toArray, List.set_cons_zero, List.set_cons_succ]
 refine take_l 7 (v := ?_) rfl (by kernel_rfl) (by kernel_rfl) (by kernel_rfl) (fun _ _ _ h => h) (Or.inl ⟨by rfl, ?_⟩) (by assumption) ?_
 rotate_left
 · (intro w' hSw; clear hSw; go_simp; first | done | with_reducible rfl)
 try simp only [Act.put, List.setIfInBounds_toArray, List.set_cons_zero, List.set_cons_succ]
 refine take_l 8 (v := ?_) rfl (by kernel_rfl) (by kernel_rfl) (by kernel_rfl) (fun _ _ _ h => h) (Or.inl ⟨by rfl, ?_⟩) (by assumption) ?_
 rotate_left
 · (intro w' hSw; clear hSw; go_simp; first | done | with_reducible rfl)
 try simp only [Act.put, List.setIfInBounds_toArray, List.set_cons_zero, List.set_cons_succ]
 refine wpAnyH_done (by kernel_rfl) ?_ _
 clear hHeld
 have hS2 : V.drew.drew.drew.heap[w.heap.size]? = some (.cells #[.slice (some ad) lw.length ca, .slice (some bd) ss.length cb, .int .u64 ver2, .int .u32 e0, .int .u32 e1, .int .u32 e2, .slice qa qn qc] 76 (0, 0)) ∧ V.drew.drew.drew.heap[p]? = some (.cells #[pB j, tv, vv, .int .u64 ver, .int .u32 d0, .int .u32 d1, .int .u32 d2, .slice none 0 0] 79 (0, 0)) := hS1
 have D2 := hid (Below.drew D1.out)
 have KV := hid (KC.out V.drew.drew.drew D2.out)
 clear hS1
 go_wp2_with fail
 refine wp_region_held_drew (S := fun w' => w'.heap[w.heap.size]? = some (.cells #[.slice (some ad) lw.length ca, .slice (some bd) ss.length cb, .int .u64 ver2, .int .u32 e0, .int .u32 e1, .int .u32 e2, .slice qa qn qc] 76 (0, 0)) ∧ w'.heap[p]? = some (.cells #[pB j, tv, vv, .int .u64 ver, .int .u32 d0, .int .u32 d1, .int .u32 d2, .slice none 0 0] 79 (0, 0))) (by kernel_rfl) hS2 (fun hHeld => ?_)
 refine take_l 0 (v := ?_) rfl (by kernel_rfl) (by kernel_rfl) (by kernel_rfl) (fun _ _ _ h => h) (Or.inl ⟨by rfl, ?_⟩) (by assumption) ?_
 rotate_left
 · (intro w' hSw; clear hSw; go_simp; first | done | with_reducible rfl)
 try simp only [Act.put, List.setIfInBounds_toArray, List.set_cons_zero, List.set_cons_succ]
 refine take_l 1 (v := ?_) rfl (by kernel_rfl) (by kernel_rfl) (by kernel_rfl) (fun _ _ _ h => h) (Or.inl ⟨by rfl, ?_⟩) (by assumption) ?_
 rotate_left
 · (intro w' hSw; clear hSw; go_simp; first | done | with_reducible rfl)
 try simp only [Act.put, List.setIfInBounds_toArray, List.set_cons_zero, List.set_cons_succ]
 refine take_l 2 (v := ?_) rfl (by kernel_rfl) (by kernel_rfl) (by kernel_rfl) (fun _ _ _ h => h) (Or.inl ⟨by rfl, ?_⟩) (by assumption) ?_
 rotate_left
 · (intro w' hSw; clear hSw; go_simp; first | done | with_reducible rfl)
 try simp only [Act.put, List.setIfInBounds_toArray, List.set_cons_zero, List.set_cons_succ]
 refine take_l 3 (v := ?_) rfl (by kernel_rfl) (by kernel_rfl) (by kernel_rfl) (fun _ _ _ h => h) (Or.inl ⟨by rfl, ?_⟩) (by assumption) ?_
 rotate_left
 · (intro w' hSw; (have q0 : w'.cell? ⟨p, 0, none⟩ = some (pB j) := cell_of_row2 (LL _ hSw).2 0 rfl); clear hSw; go_simp; first | done | with_reducible rfl)
 try simp only [Act.put, List.setIfInBounds_toArray, List.set_cons_zero, List.set_cons_succ]
 refine take_l 4 (v := ?_) rfl (by kernel_rfl) (by kernel_rfl) (by kernel_rfl) (fun _ _ _ h => h) (Or.inl ⟨by rfl, ?_⟩) (by assumption) ?_
 rotate_left
 · (intro w' hSw; (have q0 : w'.cell? ⟨w.heap.size, 0, none⟩ = some (.slice (some ad) lw.length ca) := cell_of_row2 (LL _ hSw).1 0 rfl); (have q1 : w'.cell? ⟨w.heap.size, 1, none⟩ = some (.slice (some bd) ss.length cb) := cell_of_row2 (LL _ hSw).1 1 rfl); (have q2 : w'.cell? ⟨w.heap.size, 2, none⟩ = some (.int .u64 ver2) := cell_of_row2 (LL _ hSw).1 2 rfl); (have q3 : w'.cell? ⟨w.heap.size, 3, none⟩ = some (.int .u32 e0) := cell_of_row2 (LL _ hSw).1 3 rfl); (have q4 : w'.cell? ⟨w.heap.size, 4, none⟩ = some (.int .u32 e1) := cell_of_row2 (LL _ hSw).1 4 rfl); (have q5 : w'.cell? ⟨w.heap.size, 5, none⟩ = some (.int .u32 e2) := cell_of_row2 (LL _ hSw).1 5 rfl); (have q6 : w'.cell? ⟨w.heap.size, 6, none⟩ = some (.slice qa qn qc) := cell_of_row2 (LL _ hSw).1 6 rfl); clear hSw; go_simp; first | done | with_reducible rfl)
 try simp only [Act.put, List.setIfInBounds_toArray, List.set_cons_zero, List.set_cons_succ]
 refine cons_l 5 rfl (by kernel_rfl) (fun K hK => ?_)
 go_simp
 refine KV.out.mono ?_; rintro _ w3 ⟨rfl, hj3, hst3, hb3, hz3⟩
 have J3 := hid hj3
 have hS3 : w3.heap[w.heap.size]? = some (.cells #[.slice (some ad) lw.length ca, .slice (some bd) ss.length cb, .int .u64 ver2, .int .u32 e0, .int .u32 e1, .int .u32 e2, .slice qa qn qc] 76 (0, 0)) ∧ w3.heap[p]? = some (.cells #[pB j, tv, vv, .int .u64 ver, .int .u32 d0, .int .u32 d1, .int .u32 d2, .slice none 0 0] 79 (0, 0)) := ⟨hst3 _ _ _ _ hS2.1, hst3 _ _ _ _ hS2.2⟩
 have S3 := hid ((Stay.of (B1.out.trans (D2.out.mono B1.out.size))).trans hst3)
 have B3 := hid (((B1.out.trans (D2.out.mono B1.out.size)).mono (Nat.le_trans HBP.out (Nat.le_of_lt HP.out))).trans hb3)
 have Z3 := hid (Nat.le_trans (Nat.le_trans B1.out.size D2.out.size) hz3)
 clear hj3 hst3 hb3 hz3 hS2
 go_simp
 refine hK.out _ _ hS3 (fun hHeld => ?_)
 clear hK K
 try simp only [Act.put, List.setIfInBounds_toArray, List.set_cons_zero, List.set_cons_succ]
 refine take_l 6 (v := ?_) rfl (by kernel_rfl) (by kernel_rfl) (by kernel_rfl) (fun _ _ _ h => h) (Or.inl ⟨by rfl, ?_⟩) (by assumption) ?_
 rotate_left
 · (intro w' hSw; clear hSw; go_simp; first | done | with_reducible rfl)
 try simp only [Act.put, List.setIfInBounds_toArray, List.set_cons_zero, List.set_cons_succ]
 refine wpAnyH_done (by kernel_rfl) ?_ _
 clear hHeld
 have q0 : w3.cell? ⟨w.heap.size, 0, none⟩ = some (.slice (some ad) lw.length ca) := cell_of_row2 hS3.1 0 rfl
 have q1 : w3.cell? ⟨w.heap.size, 1, none⟩ = some (.slice (some bd) ss.length cb) := cell_of_row2 hS3.1 1 rfl
 have q2 : w3.cell? ⟨w.heap.size, 2, none⟩ = some (.int .u64 ver2) := cell_of_row2 hS3.1 2 rfl
 have q3 : w3.cell? ⟨w.heap.size, 3, none⟩ = some (.int .u32 e0) := cell_of_row2 hS3.1 3 rfl
 have q4 : w3.cell? ⟨w.heap.size, 4, none⟩ = some (.int .u32 e1) := cell_of_row2 hS3.1 4 rfl
 have q5 : w3.cell? ⟨w.heap.size, 5, none⟩ = some (.int .u32 e2) := cell_of_row2 hS3.1 5 rfl
 have q6 : w3.cell? ⟨w.heap.size, 6, none⟩ = some (.slice qa qn qc) := cell_of_row2 hS3.1 6 rfl
 have r0 : w3.cell? ⟨p, 1, none⟩ = some (tv) := cell_of_row2 hS3.2 1 rfl
 have r1 : w3.cell? ⟨p, 2, none⟩ = some (vv) := cell_of_row2 hS3.2 2 rfl
 have r2 : w3.cell? ⟨p, 3, none⟩ = some (.int .u64 ver) := cell_of_row2 hS3.2 3 rfl
 have r3 : w3.cell? ⟨p, 4, none⟩ = some (.int .u32 d0) := cell_of_row2 hS3.2 4 rfl
 have r4 : w3.cell? ⟨p, 5, none⟩ = some (.int .u32 d1) := cell_of_row2 hS3.2 5 rfl
 have r5 : w3.cell? ⟨p, 6, none⟩ = some (.int .u32 d2) := cell_of_row2 hS3.2 6 rfl
 have r6 : w3.cell? ⟨p, 7, none⟩ = some (.slice none 0 0) := cell_of_row2 hS3.2 7 rfl
 have fz : ∀ i, w3.frozen? ⟨p, i, none⟩ = false := fun i => by simp only [World.frozen?, hS3.2]; simp
 have HS3 := hid hS3
 clear hS3 LL
 go_wp2
 have Q9 := eight_cells HS3.out.2 (.slice (some ad) lw.length ca) (.slice (some bd) ss.length cb) (.int .u64 ver2) (.int .u32 e0) (.int .u32 e1) (.int .u32 e2) (.slice qa qn qc)
 have B9 := hid (((((((B3.out.setCell (p := ⟨p, 1, none⟩) HBP.out (.slice (some ad) lw.length ca)).setCell (p := ⟨p, 2, none⟩) HBP.out (.slice (some bd) ss.length cb)).setCell (p := ⟨p, 3, none⟩) HBP.out (.int .u64 ver2)).setCell (p := ⟨p, 4, none⟩) HBP.out (.int .u32 e0)).setCell (p := ⟨p, 5, none⟩) HBP.out (.int .u32 e1)).setCell (p := ⟨p, 6, none⟩) HBP.out (.int .u32 e2)).setCell (p := ⟨p, 7, none⟩) HBP.out (.slice qa qn qc))
 have K9 : Hid (KeepP p w (((((((w3.setCell ⟨p, 1, none⟩ (.slice (some ad) lw.length ca)).setCell ⟨p, 2, none⟩ (.slice (some bd) ss.length cb)).setCell ⟨p, 3, none⟩ (.int .u64 ver2)).setCell ⟨p, 4, none⟩ (.int .u32 e0)).setCell ⟨p, 5, none⟩ (.int .u32 e1)).setCell ⟨p, 6, none⟩ (.int .u32 e2)).setCell ⟨p, 7, none⟩ (.slice qa qn qc))) := hid ((((((((KeepP.stay S3.out).set (o := 1) (v := .slice (some ad) lw.length ca)).set (o := 2) (v := .slice (some bd) ss.length cb)).set (o := 3) (v := .int .u64 ver2)).set (o := 4) (v := .int .u32 e0)).set (o := 5) (v := .int .u32 e1)).set (o := 6) (v := .int .u32 e2)).set (o := 7) (v := .slice qa qn qc))
 have PQ1 := heap_setCell_same w3 p 1 _ _ (.slice (some ad) lw.length ca) HS3.out.2
 have PQ2 := heap_setCell_same (w3.setCell ⟨p, 1, none⟩ (.slice (some ad) lw.length ca)) p 2 _ _ (.slice (some bd) ss.length cb) PQ1
 have PQ3 := heap_setCell_same ((w3.setCell ⟨p, 1, none⟩ (.slice (some ad) lw.length ca)).setCell ⟨p, 2, none⟩ (.slice (some bd) ss.length cb)) p 3 _ _ (.int .u64 ver2) PQ2
 have PQ4 := heap_setCell_same (((w3.setCell ⟨p, 1, none⟩ (.slice (some ad) lw.length ca)).setCell ⟨p, 2, none⟩ (.slice (some bd) ss.length cb)).setCell ⟨p, 3, none⟩ (.int .u64 ver2)) p 4 _ _ (.int .u32 e0) PQ3
 have PQ5 := heap_setCell_same ((((w3.setCell ⟨p, 1, none⟩ (.slice (some ad) lw.length ca)).setCell ⟨p, 2, none⟩ (.slice (some bd) ss.length cb)).setCell ⟨p, 3, none⟩ (.int .u64 ver2)).setCell ⟨p, 4, none⟩ (.int .u32 e0)) p 5 _ _ (.int .u32 e1) PQ4
 have PQ6 := heap_setCell_same (((((w3.setCell ⟨p, 1, none⟩ (.slice (some ad) lw.length ca)).setCell ⟨p, 2, none⟩ (.slice (some bd) ss.length cb)).setCell ⟨p, 3, none⟩ (.int .u64 ver2)).setCell ⟨p, 4, none⟩ (.int .u32 e0)).setCell ⟨p, 5, none⟩ (.int .u32 e1)) p 6 _ _ (.int .u32 e2) PQ5
 have J9 : Hid (JH base (((((((w3.setCell ⟨p, 1, none⟩ (.slice (some ad) lw.length ca)).setCell ⟨p, 2, none⟩ (.slice (some bd) ss.length cb)).setCell ⟨p, 3, none⟩ (.int .u64 ver2)).setCell ⟨p, 4, none⟩ (.int .u32 e0)).setCell ⟨p, 5, none⟩ (.int .u32 e1)).setCell ⟨p, 6, none⟩ (.int .u32 e2)).setCell ⟨p, 7, none⟩ (.slice qa qn qc)) j N (t + 1)) := hid (JH.setP (JH.setP (JH.setP (JH.setP (JH.setP (JH.setP (JH.setP (J3.out) (g := p) (o := 1) (v := .slice (some ad) lw.length ca) HS3.out.2) (g := p) (o := 2) (v := .slice (some bd) ss.length cb) PQ1) (g := p) (o := 3) (v := .int .u64 ver2) PQ2) (g := p) (o := 4) (v := .int .u32 e0) PQ3) (g := p) (o := 5) (v := .int .u32 e1) PQ4) (g := p) (o := 6) (v := .int .u32 e2) PQ5) (g := p) (o := 7) (v := .slice qa qn qc) PQ6)
 have Z9 : Hid (w.heap.size ≤ (((((((w3.setCell ⟨p, 1, none⟩ (.slice (some ad) lw.length ca)).setCell ⟨p, 2, none⟩ (.slice (some bd) ss.length cb)).setCell ⟨p, 3, none⟩ (.int .u64 ver2)).setCell ⟨p, 4, none⟩ (.int .u32 e0)).setCell ⟨p, 5, none⟩ (.int .u32 e1)).setCell ⟨p, 6, none⟩ (.int .u32 e2)).setCell ⟨p, 7, none⟩ (.slice qa qn qc)).heap.size) := hid (by simpa using Z3.out)
 clear q0 q1 q2 q3 q4 q5 q6 r0 r1 r2 r3 r4 r5 r6 fz
 go_ret
 exact ⟨rfl, J9.out, Q9, K9.out, B9.out, Z9.out⟩
end Go.Proofs.YtpolbbdaippclaaGreat
