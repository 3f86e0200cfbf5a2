/-
  For every nodes and operation: a tree behind an operation, or the error; which nodes are a tree, which operations are right, what they name.
-/
import Derived.Test.YtloojakcknnilaaGreatSpBv
import Derived.Test.YtloojakcknnilaaGreatSpAy
import Derived.Test.YtloojakcknnilaaGreatSpAo
namespace Go.Proofs.YtloojakcknnilaaGreat
open Go.RowKit Go.ChangeShapes Go.WideShapes Go.ChangeAt Go.Maps Go.Shelf
open Go.ChangeMaps (open_string shut_string)
set_option linter.unusedVariables false
set_option linter.unusedSimpArgs false
set_option maxRecDepth 100000
theorem nameL_len (x : Rec) : (nameL x).length ≤ 100000 := by
 unfold nameL
 cases (x.fid != 0) <;> cases (x.dir != 0) <;> cases (x.to != 0) <;> simp
set_option maxHeartbeats 8000000 in
theorem treeApplies_walk (a0 : Option Addr) (len0 cap0 : Nat) (l0 : List Nd) (lz0 : l0.length = len0) (lc0 : len0 ≤ cap0) (o : Rec) (w : World) (h0 : IsNs w a0 l0 ∧ ∀ x ∈ l0, x.Nil) (wq : o.Wf) :
   Calls Tryz.prog 3 #[.slice a0 len0 cap0, o.opV] w fun e w' => e = .returned (.bool true) ∧ Below w.heap.size w w' := by
 have hI : TrI w a0 (l0.take 42) := TrI.take h0 42
 have hL : (l0.take 42).length ≤ 42 := by rw [List.length_take]; omega
 have FC := hid (fun W => few6_c a0 len0 cap0 l0 W lz0 lc0)
 obtain ⟨l, hl⟩ : ∃ l, l = l0.take 42 := ⟨_, rfl⟩
 rw [← hl] at FC hI hL
 clear h0 lz0 lc0 hl
 have LC := hid (fun W => tlive_c W)
 have OT := hid (fun W => rightOp_c o W wq.2.2.2.2.2.2.1 wq.2.2.2.2.2.2.2.1)
 have OD := hid (fun W => rright_c o W wq)
 have NT := hid (fun W => tnames_c o W)
 have ND := hid (fun W => rnames_c o W)
 have NL := hid (nameL_len o)
 have RT' : Hid (∀ W, Below w.heap.size w W → Calls Tryz.prog 14 #[.slice a0 l.length cap0] W fun e w' => e = .returned (.bool (rightD l)) ∧ Below W.heap.size W w') := hid (fun W hW => rightT_c a0 cap0 l W (hI.later hW).1 (by omega))
 have RD' : Hid (∀ W, Below w.heap.size w W → Calls Tryz.prog 15 #[.slice a0 l.length cap0] W fun e w' => e = .returned (.bool (rightD l)) ∧ Below W.heap.size W w') := hid (fun W hW => rRight_c a0 cap0 l W (hI.later hW).1 (by omega))
 have few := ApplyL_few (l := l.map Nd.er) (o := o)
 obtain ⟨⟨ce, R⟩, HR⟩ : ∃ r, Hid (ApplyL (l.map Nd.er) o = r) := ⟨_, hid rfl⟩
 have TA : Hid (∀ W, Below w.heap.size w W → Calls Tryz.prog 10 #[.slice a0 l.length cap0, o.opV] W (OpP W (ce, R))) := hid (fun W hW => by rw [← HR.out]; exact applyI_c cap0 o W (hI.later hW) (by omega) wq)
 have DA : Hid (∀ W, Below w.heap.size w W → Calls Tryz.prog 11 #[.slice a0 l.length cap0, o.opV] W (OpP W (ce, R))) := hid (fun W hW => by rw [← HR.out]; exact rapplyI_c cap0 o W (hI.later hW) (by omega) wq)
 rw [HR.out] at few
 simp only at few
 obtain ⟨k, fid, dir, nm, tof, nm2, md, dt, sn⟩ := o
 simp only [Rec.opV] at *
 have b0 := below_1 w (.cells #[.int .u8 k, .int .u32 fid, .int .u32 dir, .string nm, .int .u32 tof, .string nm2, .int .u16 md, .string dt] 28)
 have h1 := heap_alloc_new w (.cells #[.int .u8 k, .int .u32 fid, .int .u32 dir, .string nm, .int .u32 tof, .string nm2, .int .u16 md, .string dt] 28)
 have BX : Hid (∀ W, Below (w.alloc (.cells #[.int .u8 k, .int .u32 fid, .int .u32 dir, .string nm, .int .u32 tof, .string nm2, .int .u16 md, .string dt] 28)).heap.size (w.alloc (.cells #[.int .u8 k, .int .u32 fid, .int .u32 dir, .string nm, .int .u32 tof, .string nm2, .int .u16 md, .string dt] 28)) W → W.heap[w.heap.size]? = some (.cells #[.int .u8 k, .int .u32 fid, .int .u32 dir, .string nm, .int .u32 tof, .string nm2, .int .u16 md, .string dt] 28)) := hid (fun W hW => (hW.block _ (lt_blkR h1)).trans h1)
 have OC : Hid (∀ W, Below (w.alloc (.cells #[.int .u8 k, .int .u32 fid, .int .u32 dir, .string nm, .int .u32 tof, .string nm2, .int .u16 md, .string dt] 28)).heap.size (w.alloc (.cells #[.int .u8 k, .int .u32 fid, .int .u32 dir, .string nm, .int .u32 tof, .string nm2, .int .u16 md, .string dt] 28)) W → W.cell? ⟨w.heap.size, 0, none⟩ = some (.int .u8 k) ∧ W.cell? ⟨w.heap.size, 1, none⟩ = some (.int .u32 fid) ∧ W.cell? ⟨w.heap.size, 2, none⟩ = some (.int .u32 dir) ∧ W.cell? ⟨w.heap.size, 3, none⟩ = some (.string nm) ∧ W.cell? ⟨w.heap.size, 4, none⟩ = some (.int .u32 tof) ∧ W.cell? ⟨w.heap.size, 5, none⟩ = some (.string nm2) ∧ W.cell? ⟨w.heap.size, 6, none⟩ = some (.int .u16 md) ∧ W.cell? ⟨w.heap.size, 7, none⟩ = some (.string dt)) := hid (fun W hW => ⟨cell_of_row2 (BX.out W hW) 0 rfl, cell_of_row2 (BX.out W hW) 1 rfl, cell_of_row2 (BX.out W hW) 2 rfl, cell_of_row2 (BX.out W hW) 3 rfl, cell_of_row2 (BX.out W hW) 4 rfl, cell_of_row2 (BX.out W hW) 5 rfl, cell_of_row2 (BX.out W hW) 6 rfl, cell_of_row2 (BX.out W hW) 7 rfl⟩)
 have B0 := hid b0
 clear b0 h1 BX hI wq HR
 go_enter Tryz.func3, Tryz.ntmps3
 go_upto_region 1 with fail
 generalize w.alloc (.cells #[.int .u8 k, .int .u32 fid, .int .u32 dir, .string nm, .int .u32 tof, .string nm2, .int .u16 md, .string dt] 28) = V at *
 obtain ⟨y0, y1, y2, y3, y4, y5, y6, y7⟩ := OC.out V (Below.refl _ _)
 generalize rightD l = br at *
 generalize nameL ⟨k, fid, dir, nm, tof, nm2, md, dt, sn⟩ = zs at *
 generalize rightF ⟨k, fid, dir, nm, tof, nm2, md, dt, sn⟩ = bo at *
 generalize l.length = n at *
 go_upto_region 4 with (first
   | (go_at_call 11; refine (DA.out w2 (B0.out.trans (V2.out.mono B0.out.size))).mono ?_; rintro _ w3 ⟨a3, c3, L3, rfl, t3, hb3⟩; have T3 := hid t3; have V3 := hid (V2.out.trans (hb3.mono V2.out.size)); have T2' := hid (T2.out.later hb3); clear t3 hb3 x0 x1 x2 x3 x4 x5 x6 x7)
   | (go_at_call 10; refine (TA.out V B0.out).mono ?_; rintro _ w2 ⟨a2, c2, L2, rfl, t2, hb2⟩; have T2 := hid t2; have V2 := hid hb2; obtain ⟨x0, x1, x2, x3, x4, x5, x6, x7⟩ := OC.out w2 hb2; clear t2 hb2 y0 y1 y2 y3 y4 y5 y6 y7)
   | (go_at_call 9; refine (FC.out _).mono ?_; rintro _ w1 ⟨rfl, hw1⟩; have hw2 := hw1.symm; clear hw1; subst hw2))
 have KU : Hid (Below w.heap.size w w3.drew) := hid ((B0.out.trans (V3.out.mono B0.out.size)).drew)
 have VU : Hid (Below V.heap.size V w3.drew) := hid V3.out.drew
 have SC : Hid (∀ W, Below w3.drew.heap.size w3.drew W → Calls Tryz.prog 13 #[.slice a2 L2.length c2, .slice a3 L3.length c3] W fun e w' => e = .returned (.bool true) ∧ Below W.heap.size W w') := hid (fun W hW => same6_c a2 a3 c2 c3 L2 L3 W ((T2'.out.later (Below.drew (Below.refl _ _))).later hW).1.1 ((T3.out.later (Below.drew (Below.refl _ _))).later hW).1.1 (T2'.out.2.trans T3.out.2.symm) (by rw [T2'.out.len]; first | omega | (simp only; omega)) (fun x hx => by have := (T2'.out.1.2 x hx).2.2; omega))
 have RT : Hid (∀ W, Below w3.drew.heap.size w3.drew W → Calls Tryz.prog 14 #[.slice a0 n cap0] W fun e w' => e = .returned (.bool br) ∧ Below W.heap.size W w') := hid (fun W hW => RT'.out W (KU.out.trans (hW.mono KU.out.size)))
 have RD : Hid (∀ W, Below w3.drew.heap.size w3.drew W → Calls Tryz.prog 15 #[.slice a0 n cap0] W fun e w' => e = .returned (.bool br) ∧ Below W.heap.size W w') := hid (fun W hW => RD'.out W (KU.out.trans (hW.mono KU.out.size)))
 have lop := fun W (hW : Below w3.drew.heap.size w3.drew W) => OC.out W (VU.out.trans (hW.mono VU.out.size))
 clear RT' RD' TA DA FC T2 T2' T3 V2 V3 VU OC B0 hL few
 refine wp_region_held_drew (S := fun w' => Below w3.drew.heap.size w3.drew w') (by kernel_rfl) (Below.refl _ _) (fun hHeld => ?_)
 refine cons_l 0 rfl (by kernel_rfl) (fun K hK => ?_)
 go_simp
 refine (LC.out _).mono ?_; rintro _ u1 ⟨rfl, hb1⟩; have K1 := hid hb1
 go_simp
 refine hK.out _ _ hb1 (fun hHeld => ?_)
 clear hK K
 try simp only [Act.put, List.setIfInBounds_toArray, List.set_cons_zero, List.set_cons_succ]
 clear hb1
 refine take_l 1 (v := ?_) rfl (by kernel_rfl) (by kernel_rfl) (by kernel_rfl) (fun _ _ _ h => h) (Or.inl ⟨by rfl, ?_⟩) (by assumption) ?_
 rotate_left
 · (intro w' hSw; clear hSw; go_simp; first | done | with_reducible rfl)
 try simp only [Act.put, List.setIfInBounds_toArray, List.set_cons_zero, List.set_cons_succ]
 refine take_l 2 (v := ?_) rfl (by kernel_rfl) (by kernel_rfl) (by kernel_rfl) (fun _ _ _ h => h) (Or.inl ⟨by rfl, ?_⟩) (by assumption) ?_
 rotate_left
 · (intro w' hSw; clear hSw; go_simp; first | done | with_reducible rfl)
 try simp only [Act.put, List.setIfInBounds_toArray, List.set_cons_zero, List.set_cons_succ]
 refine take_l 3 (v := ?_) rfl (by kernel_rfl) (by kernel_rfl) (by kernel_rfl) (fun _ _ _ h => h) (Or.inl ⟨by rfl, ?_⟩) (by assumption) ?_
 rotate_left
 · (intro w' hSw; clear hSw; go_simp; first | done | with_reducible rfl)
 try simp only [Act.put, List.setIfInBounds_toArray, List.set_cons_zero, List.set_cons_succ]
 refine cons_l 4 rfl (by kernel_rfl) (fun K hK => ?_)
 go_simp
 refine (SC.out u1 K1.out).mono ?_; rintro _ u2 ⟨rfl, hb2⟩; have K2 := hid (K1.out.trans (hb2.mono K1.out.size))
 go_simp
 refine hK.out _ _ K2.out (fun hHeld => ?_)
 clear hK K
 try simp only [Act.put, List.setIfInBounds_toArray, List.set_cons_zero, List.set_cons_succ]
 clear hb2
 refine take_l 5 (v := ?_) rfl (by kernel_rfl) (by kernel_rfl) (by kernel_rfl) (fun _ _ _ h => h) (Or.inl ⟨by rfl, ?_⟩) (by assumption) ?_
 rotate_left
 · (intro w' hSw; clear hSw; go_simp; first | done | with_reducible rfl)
 try simp only [Act.put, List.setIfInBounds_toArray, List.set_cons_zero, List.set_cons_succ]
 refine take_l 6 (v := ?_) rfl (by kernel_rfl) (by kernel_rfl) (by kernel_rfl) (fun _ _ _ h => h) (Or.inl ⟨by rfl, ?_⟩) (by assumption) ?_
 rotate_left
 · (intro w' hSw; clear hSw; go_simp; first | done | with_reducible rfl)
 try simp only [Act.put, List.setIfInBounds_toArray, List.set_cons_zero, List.set_cons_succ]
 refine take_l 7 (v := ?_) rfl (by kernel_rfl) (by kernel_rfl) (by kernel_rfl) (fun _ _ _ h => h) (Or.inl ⟨by rfl, ?_⟩) (by assumption) ?_
 rotate_left
 · (intro w' hSw; clear hSw; go_simp; first | done | with_reducible rfl)
 try simp only [Act.put, List.setIfInBounds_toArray, List.set_cons_zero, List.set_cons_succ]
 refine take_l 8 (v := ?_) rfl (by kernel_rfl) (by kernel_rfl) (by kernel_rfl) (fun _ _ _ h => h) (Or.inl ⟨by rfl, ?_⟩) (by assumption) ?_
 rotate_left
 · (intro w' hSw; clear hSw; go_simp; first | done | with_reducible rfl)
 try simp only [Act.put, List.setIfInBounds_toArray, List.set_cons_zero, List.set_cons_succ]
 refine take_l 9 (v := ?_) rfl (by kernel_rfl) (by kernel_rfl) (by kernel_rfl) (fun _ _ _ h => h) (Or.inl ⟨by rfl, ?_⟩) (by assumption) ?_
 rotate_left
 · (intro w' hSw; clear hSw; go_simp; first | done | with_reducible rfl)
 try simp only [Act.put, List.setIfInBounds_toArray, List.set_cons_zero, List.set_cons_succ]
 refine take_l 10 (v := ?_) rfl (by kernel_rfl) (by kernel_rfl) (by kernel_rfl) (fun _ _ _ h => h) (Or.inl ⟨by rfl, ?_⟩) (by assumption) ?_
 rotate_left
 · (intro w' hSw; clear hSw; go_simp; first | done | with_reducible rfl)
 try simp only [Act.put, List.setIfInBounds_toArray, List.set_cons_zero, List.set_cons_succ]
 refine take_l 11 (v := ?_) rfl (by kernel_rfl) (by kernel_rfl) (by kernel_rfl) (fun _ _ _ h => h) (Or.inl ⟨by rfl, ?_⟩) (by assumption) ?_
 rotate_left
 · (intro w' hSw; clear hSw; go_simp; first | done | with_reducible rfl)
 try simp only [Act.put, List.setIfInBounds_toArray, List.set_cons_zero, List.set_cons_succ]
 refine take_l 12 (v := ?_) rfl (by kernel_rfl) (by kernel_rfl) (by kernel_rfl) (fun _ _ _ h => h) (Or.inl ⟨by rfl, ?_⟩) (by assumption) ?_
 rotate_left
 · (intro w' hSw; clear hSw; go_simp; first | done | with_reducible rfl)
 try simp only [Act.put, List.setIfInBounds_toArray, List.set_cons_zero, List.set_cons_succ]
 refine take_l 14 (v := ?_) rfl (by kernel_rfl) (by kernel_rfl) (by kernel_rfl) (fun _ _ _ h => h) (Or.inl ⟨by rfl, ?_⟩) (by assumption) ?_
 rotate_left
 · (intro w' hSw; clear hSw; go_simp; first | done | with_reducible rfl)
 try simp only [Act.put, List.setIfInBounds_toArray, List.set_cons_zero, List.set_cons_succ]
 refine cons_l 13 rfl (by kernel_rfl) (fun K hK => ?_)
 go_simp
 refine (RT.out u2 K2.out).mono ?_; rintro _ u3 ⟨rfl, hb3⟩; have K3 := hid (K2.out.trans (hb3.mono K2.out.size))
 go_simp
 refine hK.out _ _ K3.out (fun hHeld => ?_)
 clear hK K
 try simp only [Act.put, List.setIfInBounds_toArray, List.set_cons_zero, List.set_cons_succ]
 clear hb3
 refine cons_l 15 rfl (by kernel_rfl) (fun K hK => ?_)
 go_simp
 refine (RD.out u3 K3.out).mono ?_; rintro _ u4 ⟨rfl, hb4⟩; have K4 := hid (K3.out.trans (hb4.mono K3.out.size))
 go_simp
 refine hK.out _ _ K4.out (fun hHeld => ?_)
 clear hK K
 try simp only [Act.put, List.setIfInBounds_toArray, List.set_cons_zero, List.set_cons_succ]
 clear hb4
 refine take_l 16 (v := ?_) rfl (by kernel_rfl) (by kernel_rfl) (by kernel_rfl) (fun _ _ _ h => h) (Or.inl ⟨by rfl, ?_⟩) (by assumption) ?_
 rotate_left
 · (intro w' hSw; clear hSw; go_simp; first | done | with_reducible rfl)
 try simp only [Act.put, List.setIfInBounds_toArray, List.set_cons_zero, List.set_cons_succ]
 refine take_l 17 (v := ?_) rfl (by kernel_rfl) (by kernel_rfl) (by kernel_rfl) (fun _ _ _ h => h) (Or.inl ⟨by rfl, ?_⟩) (by assumption) ?_
 rotate_left
 · (intro w' hSw; clear hSw; go_simp; first | done | with_reducible rfl)
 try simp only [Act.put, List.setIfInBounds_toArray, List.set_cons_zero, List.set_cons_succ]
 refine take_l 18 (v := ?_) rfl (by kernel_rfl) (by kernel_rfl) (by kernel_rfl) (fun _ _ _ h => h) (Or.inl ⟨by rfl, ?_⟩) (by assumption) ?_
 rotate_left
 · (intro w' hSw; clear hSw; go_simp; first | done | with_reducible rfl)
 try simp only [Act.put, List.setIfInBounds_toArray, List.set_cons_zero, List.set_cons_succ]
 refine take_l 19 (v := ?_) rfl (by kernel_rfl) (by kernel_rfl) (by kernel_rfl) (fun _ _ _ h => h) (Or.inl ⟨by rfl, ?_⟩) (by assumption) ?_
 rotate_left
 · (intro w' hSw; obtain ⟨k0, k1, k2, k3, k4, k5, k6, k7⟩ := lop _ hSw; clear hSw; go_simp; first | done | with_reducible rfl)
 try simp only [Act.put, List.setIfInBounds_toArray, List.set_cons_zero, List.set_cons_succ]
 refine take_l 21 (v := ?_) rfl (by kernel_rfl) (by kernel_rfl) (by kernel_rfl) (fun _ _ _ h => h) (Or.inl ⟨by rfl, ?_⟩) (by assumption) ?_
 rotate_left
 · (intro w' hSw; obtain ⟨k0, k1, k2, k3, k4, k5, k6, k7⟩ := lop _ hSw; clear hSw; go_simp; first | done | with_reducible rfl)
 try simp only [Act.put, List.setIfInBounds_toArray, List.set_cons_zero, List.set_cons_succ]
 refine cons_l 20 rfl (by kernel_rfl) (fun K hK => ?_)
 go_simp
 refine (OT.out u4).mono ?_; rintro _ u5 ⟨rfl, hb5⟩; have K5 := hid (K4.out.trans (hb5.mono K4.out.size))
 go_simp
 refine hK.out _ _ K5.out (fun hHeld => ?_)
 clear hK K
 try simp only [Act.put, List.setIfInBounds_toArray, List.set_cons_zero, List.set_cons_succ]
 clear hb5
 refine cons_l 22 rfl (by kernel_rfl) (fun K hK => ?_)
 go_simp
 refine (OD.out u5).mono ?_; rintro _ u6 ⟨rfl, hb6⟩; have K6 := hid (K5.out.trans (hb6.mono K5.out.size))
 go_simp
 refine hK.out _ _ K6.out (fun hHeld => ?_)
 clear hK K
 try simp only [Act.put, List.setIfInBounds_toArray, List.set_cons_zero, List.set_cons_succ]
 clear hb6
 refine take_l 23 (v := ?_) rfl (by kernel_rfl) (by kernel_rfl) (by kernel_rfl) (fun _ _ _ h => h) (Or.inl ⟨by rfl, ?_⟩) (by assumption) ?_
 rotate_left
 · (intro w' hSw; clear hSw; go_simp; first | done | with_reducible rfl)
 try simp only [Act.put, List.setIfInBounds_toArray, List.set_cons_zero, List.set_cons_succ]
 refine take_l 24 (v := ?_) rfl (by kernel_rfl) (by kernel_rfl) (by kernel_rfl) (fun _ _ _ h => h) (Or.inl ⟨by rfl, ?_⟩) (by assumption) ?_
 rotate_left
 · (intro w' hSw; clear hSw; go_simp; first | done | with_reducible rfl)
 try simp only [Act.put, List.setIfInBounds_toArray, List.set_cons_zero, List.set_cons_succ]
 refine take_l 25 (v := ?_) rfl (by kernel_rfl) (by kernel_rfl) (by kernel_rfl) (fun _ _ _ h => h) (Or.inl ⟨by rfl, ?_⟩) (by assumption) ?_
 rotate_left
 · (intro w' hSw; clear hSw; go_simp; first | done | with_reducible rfl)
 try simp only [Act.put, List.setIfInBounds_toArray, List.set_cons_zero, List.set_cons_succ]
 refine take_l 26 (v := ?_) rfl (by kernel_rfl) (by kernel_rfl) (by kernel_rfl) (fun _ _ _ h => h) (Or.inl ⟨by rfl, ?_⟩) (by assumption) ?_
 rotate_left
 · (intro w' hSw; obtain ⟨k0, k1, k2, k3, k4, k5, k6, k7⟩ := lop _ hSw; clear hSw; go_simp; first | done | with_reducible rfl)
 try simp only [Act.put, List.setIfInBounds_toArray, List.set_cons_zero, List.set_cons_succ]
 refine take_l 28 (v := ?_) rfl (by kernel_rfl) (by kernel_rfl) (by kernel_rfl) (fun _ _ _ h => h) (Or.inl ⟨by rfl, ?_⟩) (by assumption) ?_
 rotate_left
 · (intro w' hSw; obtain ⟨k0, k1, k2, k3, k4, k5, k6, k7⟩ := lop _ hSw; clear hSw; go_simp; first | done | with_reducible rfl)
 try simp only [Act.put, List.setIfInBounds_toArray, List.set_cons_zero, List.set_cons_succ]
 refine cons_l 27 rfl (by kernel_rfl) (fun K hK => ?_)
 go_simp
 refine (NT.out u6).mono ?_; rintro _ u7 ⟨v7, rfl, ho7, hb7⟩; have O7 := hid ho7; have K7 := hid (K6.out.trans (hb7.mono K6.out.size)); (obtain ⟨a7, c7, rfl⟩ := own_shapeR ho7)
 go_simp
 refine hK.out _ _ K7.out (fun hHeld => ?_)
 clear hK K
 try simp only [Act.put, List.setIfInBounds_toArray, List.set_cons_zero, List.set_cons_succ]
 clear hb7 ho7
 refine cons_l 29 rfl (by kernel_rfl) (fun K hK => ?_)
 go_simp
 refine (ND.out u7).mono ?_; rintro _ u8 ⟨v8, rfl, ho8, hb8⟩; have O8 := hid ho8; have P8 := hid (own_latR O7.out hb8); have K8 := hid (K7.out.trans (hb8.mono K7.out.size)); (obtain ⟨a8, c8, rfl⟩ := own_shapeR ho8)
 go_simp
 refine hK.out _ _ K8.out (fun hHeld => ?_)
 clear hK K
 try simp only [Act.put, List.setIfInBounds_toArray, List.set_cons_zero, List.set_cons_succ]
 clear hb8 ho8
 refine cons_l 30 rfl (by kernel_rfl) (fun K hK => ?_)
 go_simp
 refine (sameFids_c _ _ _ _ _ u8 P8.out O8.out (NL.out)).mono ?_; rintro _ u9 ⟨rfl, hb9⟩; have K9 := hid (K8.out.trans (hb9.mono K8.out.size))
 go_simp
 refine hK.out _ _ K9.out (fun hHeld => ?_)
 clear hK K
 try simp only [Act.put, List.setIfInBounds_toArray, List.set_cons_zero, List.set_cons_succ]
 clear hb9
 refine take_l 31 (v := ?_) rfl (by kernel_rfl) (by kernel_rfl) (by kernel_rfl) (fun _ _ _ h => h) (Or.inl ⟨by rfl, ?_⟩) (by assumption) ?_
 rotate_left
 · (intro w' hSw; clear hSw; go_simp; first | done | with_reducible rfl)
 try simp only [Act.put, List.setIfInBounds_toArray, List.set_cons_zero, List.set_cons_succ]
 refine take_l 32 (v := ?_) rfl (by kernel_rfl) (by kernel_rfl) (by kernel_rfl) (fun _ _ _ h => h) (Or.inl ⟨by rfl, ?_⟩) (by assumption) ?_
 rotate_left
 · (intro w' hSw; clear hSw; go_simp; first | done | with_reducible rfl)
 try simp only [Act.put, List.setIfInBounds_toArray, List.set_cons_zero, List.set_cons_succ]
 refine wpAnyH_done (by kernel_rfl) ?_ _
 go_wp2
 go_ret
 exact ⟨by first | rfl | simp, KU.out.trans (K9.out.mono KU.out.size)⟩
/-! ### The row of TreeApplies -/
theorem treeApplies_own : ownKnob Tryz.prog.godebug = none := by kernel_rfl
theorem treeApplies_laidOut : laidOutB Tryz.prog = true := by kernel_rfl
set_option maxRecDepth 100000 in
theorem treeApplies_lifted (os : Os) (started : os.Started) (H : Type) (enc : TypeId × Value → H) :
   ReturnsInHanded {} Tryz.checked os 3 .any (Rows.treeAppliesSpec.pre6 enc Tryz.prog Tryz.f3 Rows.treeAppliesRow.domain false) (Rows.treeAppliesSpec.post enc Tryz.prog Tryz.f3 false true false false) := by
 refine returnsInHanded_of_change (C := Tryz.checked) treeApplies_own started (by kernel_rfl) Tryz.func3
   (ChangeSpec.witness6 (enc := enc) (C := Tryz.checked) false ⟨#[], #[.slice none 0 0, .agg #[.int .u8 0, .int .u32 0, .int .u32 0, .string ByteArray.empty, .int .u32 0, .string ByteArray.empty, .int .u16 0, .string ByteArray.empty]], []⟩ 8 (by kernel_rfl) (by kernel_rfl) (by kernel_rfl) (by kernel_rfl)) ?_
 intro W base args ds gs before hval0 hW hcnd _
 have hval : ∀ (j : Nat) t v, Tryz.f3.params[j]? = some t → args[j]? = some v → Value.okWide Tryz.prog W .any base t v := hval0
 have hW' := hW
 obtain ⟨p, q, hA0, hV, rfl, hfz, hnd⟩ := hW
 have hA : DataW.TrodAll enc Tryz.prog W 0 (fun _ => true) true Tryz.f3.params.toList args.toList ds p := hA0
 rw [Tryz.params3] at hA hval
 obtain ⟨v0, vs0, d0, ds0, p0, q0, hargs, rfl, rfl, h0, r0⟩ := trodAll_cons hA
 obtain ⟨v1, vs1, d1, ds1, p1, q1, rfl, rfl, rfl, h1, r1⟩ := trodAll_cons r0
 obtain ⟨rfl, rfl, rfl⟩ := trodAll_nil r1
 obtain rfl : args = #[v0, v1] := by cases args; simp_all
 obtain ⟨rfl, rfl⟩ := trodVars_none hV
 have k0 := h0
 have lt0 : ∀ x ∈ p0, x.block < W.heap.size := by obtain ⟨m, hm⟩ := k0; exact DataW.trod_lt m _ _ _ hm
 obtain ⟨a0, len0, cap0, rfl⟩ := okWide_slice Tryz.underlying22 (hval 0 22 v0 rfl rfl)
 obtain ⟨z0, lz0, w0, lc0⟩ := isNs_of Tryz.underlying22 h0
 have k1 := h1
 have lt1 : ∀ x ∈ p1, x.block < W.heap.size := by obtain ⟨m, hm⟩ := k1; exact DataW.trod_lt m _ _ _ hm
 obtain ⟨q1, rfl, wq1⟩ := open_op (hval 1 28 v1 rfl rfl) h1
 clear hA0 hval0
 refine (treeApplies_walk a0 len0 cap0 z0 lz0 lc0 q1 W w0 wq1).mono fun e W' ⟨he, bel⟩ => ?_
 subst he
 exact ⟨_, rfl, _, _, _, [], _, [], hW', trodAll_mk1 (shut_bool Tryz.underlying4 _), (trodAll_cons_mk (Below.trod treeApplies_laidOut (by kernel_rfl) (of_decide_eq_true (by kernel_rfl)) k0 bel lt0) (trodAll_cons_mk (Below.trod treeApplies_laidOut (by kernel_rfl) (of_decide_eq_true (by kernel_rfl)) k1 bel lt1) trodAll_mk0)), rfl, bel.frame _, fun h => by cases h⟩
theorem treeApplies_over : Rows.treeAppliesRow.holds Tryz.pinned (OpenSpec.ofChange Rows.treeAppliesSpec) :=
 OpenClaim.holds_of_wide 3 Tryz.f3 rfl rfl rfl rfl rfl rfl rfl ⟨rfl, rfl, rfl, rfl, rfl⟩ rfl rfl rfl rfl rfl (by kernel_rfl) Tryz.func3 (by kernel_rfl)
   (of_decide_eq_true (by kernel_rfl)) (by unfold Func.isWrapper; first | (rw [if_pos (by decide +kernel)]; kernel_rfl) | (rw [if_neg (by decide +kernel)]; exact ⟨rfl, rfl⟩))
   (fun os started H enc _ => treeApplies_lifted os started H enc)
theorem treeApplies_holds : Rows.TreeAppliesSaid := treeApplies_over
#print axioms treeApplies_holds
end Go.Proofs.YtloojakcknnilaaGreat
