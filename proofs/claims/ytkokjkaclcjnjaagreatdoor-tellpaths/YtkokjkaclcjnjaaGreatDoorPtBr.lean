/-
  lineOf of the package tell.
-/
import Derived.Test.YtkokjkaclcjnjaaGreatDoorPtBo
namespace Go.Proofs.YtkokjkaclcjnjaaGreatDoor
open Go.RowKit Go.ChangeShapes Go.WideShapes Go.ChangeAt
set_option linter.unusedVariables false
set_option linter.unusedSimpArgs false
set_option maxRecDepth 100000
theorem cons_2 {P : Program} {md : Region.Mode} {l r r' : List Oper} {Q : Exit → Act → World → Prop} {S : World → Prop} (i j : Nat) {fuel : Nat} {listed : Array Bool} {a : Act} {w : World} {o o' : Oper} (ho : l.drop i = o :: r) (ho' : l.drop j = o' :: r')
   (hr : Region.ready md l.toArray listed = [i, j])
   (h : ∀ K' : Act → World → Prop, Shut (∀ a w, S w → (S w → wpAnyH P md l.toArray Q S fuel (listed.setIfInBounds i true) a w) → K' a w) → if Region.wanted o (yielded l.toArray a.tmps) = true then Oper.wp P o a w K' Q else K' (a.put o.dst undef) w)
   (h' : ∀ K' : Act → World → Prop, Shut (∀ a w, S w → (S w → wpAnyH P md l.toArray Q S fuel (listed.setIfInBounds j true) a w) → K' a w) → if Region.wanted o' (yielded l.toArray a.tmps) = true then Oper.wp P o' a w K' Q else K' (a.put o'.dst undef) w) :
   wpAnyH P md l.toArray Q S (fuel + 1) listed a w :=
 wpAnyH_ready hr (by simp) (AllReadyH.cons (at_drop ho) h (AllReadyH.cons (at_drop ho') h' AllReadyH.nil))
theorem five_cells {W : World} {A T : Nat} {u0 u1 u2 u3 u4 : Value} (h : W.heap[A]? = some (.cells #[u0, u1, u2, u3, u4] T (0, 0))) (v0 v1 v2 v3 v4 : Value) :
   (((((W.setCell ⟨A, 0, none⟩ v0).setCell ⟨A, 1, none⟩ v1).setCell ⟨A, 2, none⟩ v2).setCell ⟨A, 3, none⟩ v3).setCell ⟨A, 4, none⟩ v4).heap[A]? = some (.cells #[v0, v1, v2, v3, v4] T (0, 0)) := by
 simp only [World.setCell]
 simp [Array.getElem?_modify, h]
theorem five_below {B : Nat} {V W : World} {A : Nat} (h : Below B V W) (hA : B ≤ A) (v0 v1 v2 v3 v4 : Value) :
   Below B V (((((W.setCell ⟨A, 0, none⟩ v0).setCell ⟨A, 1, none⟩ v1).setCell ⟨A, 2, none⟩ v2).setCell ⟨A, 3, none⟩ v3).setCell ⟨A, 4, none⟩ v4) :=
 ((((h.setCell (p := ⟨A, 0, none⟩) hA _).setCell (p := ⟨A, 1, none⟩) hA _).setCell (p := ⟨A, 2, none⟩) hA _).setCell (p := ⟨A, 3, none⟩) hA _).setCell (p := ⟨A, 4, none⟩) hA _
theorem join5_len (a b c d e : List UInt8) : (Lib.join [a, b, c, d, e] [32]).length = a.length + b.length + c.length + d.length + e.length + 4 := by
 simp [Lib.join, List.intercalate, List.intersperse]
 omega
set_option maxHeartbeats 8000000 in
theorem line_c (f k m l : Int) (da ka : Option Addr) (dn dc kn kc : Nat) (w : World) (s1 s2 s3 s4 s5 : ByteArray) (hz : s1.size + s2.size + s3.size + s4.size + s5.size ≤ 1000000000)
   (D1 : Hid (∀ W, Below w.heap.size w W → Calls Tryz.prog 57 #[.int .u32 f] W fun e w' => e = .returned (.string s1) ∧ Below W.heap.size W w'))
   (D2 : Hid (∀ W, Below w.heap.size w W → Calls Tryz.prog 58 #[.int .u8 k] W fun e w' => e = .returned (.string s2) ∧ Below W.heap.size W w'))
   (D3 : Hid (∀ W, Below w.heap.size w W → Calls Tryz.prog 57 #[.int .u32 m] W fun e w' => e = .returned (.string s3) ∧ Below W.heap.size W w'))
   (D4 : Hid (∀ W, Below w.heap.size w W → Calls Tryz.prog 57 #[.int .u32 l] W fun e w' => e = .returned (.string s4) ∧ Below W.heap.size W w'))
   (D5 : Hid (∀ W, Below w.heap.size w W → Calls Tryz.prog 59 #[.agg #[.int .u32 f, .int .u8 k, .int .u16 m, .int .u16 l, .slice da dn dc, .slice ka kn kc]] W fun e w' => e = .returned (.string s5) ∧ Below W.heap.size W w'))
   (hm : 0 ≤ m ∧ m < 65536) (hl : 0 ≤ l ∧ l < 65536) :
   Calls Tryz.prog 38 #[.agg #[.int .u32 f, .int .u8 k, .int .u16 m, .int .u16 l, .slice da dn dc, .slice ka kn kc]] w fun e w' => e = .returned (.string ⟨(Lib.join [s1.data.toList, s2.data.toList, s3.data.toList, s4.data.toList, s5.data.toList] [32]).toArray⟩) ∧ Below w.heap.size w w' := by
 have JJ : Hid (∀ (W : World) (A : Nat), W.heap[A]? = some (.cells #[.string s1, .string s2, .string s3, .string s4, .string s5] 105 (0, 0)) → Calls Tryz.prog 60 #[.slice (some ⟨A, 0, none⟩) 5 5, .string ⟨#[32]⟩] W fun e w' => e = .returned (.string ⟨(Lib.join [s1.data.toList, s2.data.toList, s3.data.toList, s4.data.toList, s5.data.toList] [32]).toArray⟩) ∧ Below W.heap.size W w') := hid (fun W A hA => by
   refine Tryz.strings_Join A 0 5 [s1, s2, s3, s4, s5] ⟨#[32]⟩ W (fun j x hx => ?_) (lt_blkR hA) (by simp) (by simp) ?_
   · rw [Nat.zero_add, cell_of_row W A j _ _ _ hA]
     match j, hx with
     | 0, h => cases h; rfl
     | 1, h => cases h; rfl
     | 2, h => cases h; rfl
     | 3, h => cases h; rfl
     | 4, h => cases h; rfl
     | j + 5, h => simp at h
   · show (Lib.join [s1.data.toList, s2.data.toList, s3.data.toList, s4.data.toList, s5.data.toList] [32]).length ≤ _
     rw [join5_len]
     have q1 : s1.data.toList.length = s1.size := rfl
     have q2 : s2.data.toList.length = s2.size := rfl
     have q3 : s3.data.toList.length = s3.size := rfl
     have q4 : s4.data.toList.length = s4.size := rfl
     have q5 : s5.data.toList.length = s5.size := rfl
     omega)
 have hb := below_1 w (.cells #[.int .u32 f, .int .u8 k, .int .u16 m, .int .u16 l, .slice da dn dc, .slice ka kn kc] 37)
 have hB := heap_alloc_new w (.cells #[.int .u32 f, .int .u8 k, .int .u16 m, .int .u16 l, .slice da dn dc, .slice ka kn kc] 37)
 go_enter Tryz.func38, Tryz.ntmps38
 go_upto_region 1 with fail
 generalize hV : w.alloc (.cells #[.int .u32 f, .int .u8 k, .int .u16 m, .int .u16 l, .slice da dn dc, .slice ka kn kc] 37) = V at *
 have O0 : ∀ w' : World, Below V.heap.size V w' → w'.cell? ⟨w.heap.size, 0, none⟩ = some (.int .u32 f) := fun w' h => cell_later h (cell_of_row2 hB 0 rfl)
 have O1 : ∀ w' : World, Below V.heap.size V w' → w'.cell? ⟨w.heap.size, 1, none⟩ = some (.int .u8 k) := fun w' h => cell_later h (cell_of_row2 hB 1 rfl)
 have O2 : ∀ w' : World, Below V.heap.size V w' → w'.cell? ⟨w.heap.size, 2, none⟩ = some (.int .u16 m) := fun w' h => cell_later h (cell_of_row2 hB 2 rfl)
 have O3 : ∀ w' : World, Below V.heap.size V w' → w'.cell? ⟨w.heap.size, 3, none⟩ = some (.int .u16 l) := fun w' h => cell_later h (cell_of_row2 hB 3 rfl)
 have O4 : ∀ w' : World, Below V.heap.size V w' → w'.cell? ⟨w.heap.size, 4, none⟩ = some (.slice da dn dc) := fun w' h => cell_later h (cell_of_row2 hB 4 rfl)
 have O5 : ∀ w' : World, Below V.heap.size V w' → w'.cell? ⟨w.heap.size, 5, none⟩ = some (.slice ka kn kc) := fun w' h => cell_later h (cell_of_row2 hB 5 rfl)
 replace D1 : Hid (∀ W, Below V.heap.size V W → _) := hid (fun W h => D1.out W (hb.trans (h.mono hb.size)))
 replace D2 : Hid (∀ W, Below V.heap.size V W → _) := hid (fun W h => D2.out W (hb.trans (h.mono hb.size)))
 replace D3 : Hid (∀ W, Below V.heap.size V W → _) := hid (fun W h => D3.out W (hb.trans (h.mono hb.size)))
 replace D4 : Hid (∀ W, Below V.heap.size V W → _) := hid (fun W h => D4.out W (hb.trans (h.mono hb.size)))
 replace D5 : Hid (∀ W, Below V.heap.size V W → _) := hid (fun W h => D5.out W (hb.trans (h.mono hb.size)))
 have B0 := hid hb
 have wm : IntKind.u32.wrap m = m := by rw [IntKind.wrap_u32]; omega
 have wl : IntKind.u32.wrap l = l := by rw [IntKind.wrap_u32]; omega
 clear hV hb hB
 go_wp2_with fail
 have hSW : Below V.heap.size V V.drew := Below.drew (Below.refl _ _)
 refine wp_region_held_drew (S := fun w' => Below V.heap.size V w') (by kernel_rfl) hSW (fun hHeld => ?_)
 refine take_l 0 (v := ?_) rfl (by kernel_rfl) (by kernel_rfl) (by kernel_rfl) (fun _ _ _ h => h) (Or.inl ⟨by rfl, ?_⟩) (by assumption) ?_
 rotate_left
 · (intro w' hSw; clear hSw; go_simp; first | done | with_reducible rfl)
 try simp only [Act.put, List.setIfInBounds_toArray, List.set_cons_zero, List.set_cons_succ]
 refine take_l 1 (v := ?_) rfl (by kernel_rfl) (by kernel_rfl) (by kernel_rfl) (fun _ _ _ h => h) (Or.inl ⟨by rfl, ?_⟩) (by assumption) ?_
 rotate_left
 · (intro w' hSw; (have kq := O0 _ hSw); clear hSw; go_simp; first | done | with_reducible rfl)
 try simp only [Act.put, List.setIfInBounds_toArray, List.set_cons_zero, List.set_cons_succ]
 refine take_l 3 (v := ?_) rfl (by kernel_rfl) (by kernel_rfl) (by kernel_rfl) (fun _ _ _ h => h) (Or.inl ⟨by rfl, ?_⟩) (by assumption) ?_
 rotate_left
 · (intro w' hSw; clear hSw; go_simp; first | done | with_reducible rfl)
 try simp only [Act.put, List.setIfInBounds_toArray, List.set_cons_zero, List.set_cons_succ]
 refine take_l 4 (v := ?_) rfl (by kernel_rfl) (by kernel_rfl) (by kernel_rfl) (fun _ _ _ h => h) (Or.inl ⟨by rfl, ?_⟩) (by assumption) ?_
 rotate_left
 · (intro w' hSw; (have kq := O1 _ hSw); clear hSw; go_simp; first | done | with_reducible rfl)
 try simp only [Act.put, List.setIfInBounds_toArray, List.set_cons_zero, List.set_cons_succ]
 refine take_l 6 (v := ?_) rfl (by kernel_rfl) (by kernel_rfl) (by kernel_rfl) (fun _ _ _ h => h) (Or.inl ⟨by rfl, ?_⟩) (by assumption) ?_
 rotate_left
 · (intro w' hSw; clear hSw; go_simp; first | done | with_reducible rfl)
 try simp only [Act.put, List.setIfInBounds_toArray, List.set_cons_zero, List.set_cons_succ]
 refine take_l 7 (v := ?_) rfl (by kernel_rfl) (by kernel_rfl) (by kernel_rfl) (fun _ _ _ h => h) (Or.inl ⟨by rfl, ?_⟩) (by assumption) ?_
 rotate_left
 · (intro w' hSw; (have kq := O2 _ hSw); clear hSw; go_simp; first | done | with_reducible rfl)
 try simp only [Act.put, List.setIfInBounds_toArray, List.set_cons_zero, List.set_cons_succ]
 refine take_l 8 (v := ?_) rfl (by kernel_rfl) (by kernel_rfl) (by kernel_rfl) (fun _ _ _ h => h) (Or.inl ⟨by rfl, ?_⟩) (by assumption) ?_
 rotate_left
 · (intro w' hSw; clear hSw; go_simp; first | done | with_reducible rfl)
 try simp only [Act.put, List.setIfInBounds_toArray, List.set_cons_zero, List.set_cons_succ]
 refine take_l 10 (v := ?_) rfl (by kernel_rfl) (by kernel_rfl) (by kernel_rfl) (fun _ _ _ h => h) (Or.inl ⟨by rfl, ?_⟩) (by assumption) ?_
 rotate_left
 · (intro w' hSw; clear hSw; go_simp; first | done | with_reducible rfl)
 try simp only [Act.put, List.setIfInBounds_toArray, List.set_cons_zero, List.set_cons_succ]
 refine take_l 11 (v := ?_) rfl (by kernel_rfl) (by kernel_rfl) (by kernel_rfl) (fun _ _ _ h => h) (Or.inl ⟨by rfl, ?_⟩) (by assumption) ?_
 rotate_left
 · (intro w' hSw; (have kq := O3 _ hSw); clear hSw; go_simp; first | done | with_reducible rfl)
 try simp only [Act.put, List.setIfInBounds_toArray, List.set_cons_zero, List.set_cons_succ]
 refine take_l 12 (v := ?_) rfl (by kernel_rfl) (by kernel_rfl) (by kernel_rfl) (fun _ _ _ h => h) (Or.inl ⟨by rfl, ?_⟩) (by assumption) ?_
 rotate_left
 · (intro w' hSw; clear hSw; go_simp; first | done | with_reducible rfl)
 try simp only [Act.put, List.setIfInBounds_toArray, List.set_cons_zero, List.set_cons_succ]
 refine take_l 14 (v := ?_) rfl (by kernel_rfl) (by kernel_rfl) (by kernel_rfl) (fun _ _ _ h => h) (Or.inl ⟨by rfl, ?_⟩) (by assumption) ?_
 rotate_left
 · (intro w' hSw; (have q0 := O0 _ hSw); (have q1 := O1 _ hSw); (have q2 := O2 _ hSw); (have q3 := O3 _ hSw); (have q4 := O4 _ hSw); (have q5 := O5 _ hSw); clear hSw; go_simp; first | done | with_reducible rfl)
 try simp only [Act.put, List.setIfInBounds_toArray, List.set_cons_zero, List.set_cons_succ]
 generalize V.drew = W at *
 refine cons_2 2 17 rfl rfl (by kernel_rfl) (fun K hK => ?_) (fun K hK => ?_)
 · skip
   go_simp
   refine (D1.out W hSW).mono ?_; rintro _ Wc ⟨rfl, hbW⟩
   have hSWc : Below V.heap.size V Wc := hSW.trans (hbW.mono hSW.size)
   clear hbW
   go_simp
   refine hK.out _ _ hSWc (fun hHeld => ?_)
   clear hK K
   try simp only [Act.put, List.setIfInBounds_toArray, List.set_cons_zero, List.set_cons_succ]
   refine cons_2 5 17 rfl rfl (by kernel_rfl) (fun K hK => ?_) (fun K hK => ?_)
   · skip
     go_simp
     refine (D2.out Wc hSWc).mono ?_; rintro _ Wcc ⟨rfl, hbWc⟩
     have hSWcc : Below V.heap.size V Wcc := hSWc.trans (hbWc.mono hSWc.size)
     clear hbWc
     go_simp
     refine hK.out _ _ hSWcc (fun hHeld => ?_)
     clear hK K
     try simp only [Act.put, List.setIfInBounds_toArray, List.set_cons_zero, List.set_cons_succ]
     refine cons_2 9 17 rfl rfl (by kernel_rfl) (fun K hK => ?_) (fun K hK => ?_)
     · skip
       go_simp
       refine (D3.out Wcc hSWcc).mono ?_; rintro _ Wccc ⟨rfl, hbWcc⟩
       have hSWccc : Below V.heap.size V Wccc := hSWcc.trans (hbWcc.mono hSWcc.size)
       clear hbWcc
       go_simp
       refine hK.out _ _ hSWccc (fun hHeld => ?_)
       clear hK K
       try simp only [Act.put, List.setIfInBounds_toArray, List.set_cons_zero, List.set_cons_succ]
       refine cons_2 13 17 rfl rfl (by kernel_rfl) (fun K hK => ?_) (fun K hK => ?_)
       · skip
         go_simp
         refine (D4.out Wccc hSWccc).mono ?_; rintro _ Wcccc ⟨rfl, hbWccc⟩
         have hSWcccc : Below V.heap.size V Wcccc := hSWccc.trans (hbWccc.mono hSWccc.size)
         clear hbWccc
         go_simp
         refine hK.out _ _ hSWcccc (fun hHeld => ?_)
         clear hK K
         try simp only [Act.put, List.setIfInBounds_toArray, List.set_cons_zero, List.set_cons_succ]
         refine cons_2 15 17 rfl rfl (by kernel_rfl) (fun K hK => ?_) (fun K hK => ?_)
         · skip
           go_simp
           refine (D5.out Wcccc hSWcccc).mono ?_; rintro _ Wccccc ⟨rfl, hbWcccc⟩
           have hSWccccc : Below V.heap.size V Wccccc := hSWcccc.trans (hbWcccc.mono hSWcccc.size)
           clear hbWcccc
           go_simp
           refine hK.out _ _ hSWccccc (fun hHeld => ?_)
           clear hK K
           try simp only [Act.put, List.setIfInBounds_toArray, List.set_cons_zero, List.set_cons_succ]
           refine take_l 16 (v := ?_) rfl (by kernel_rfl) (by kernel_rfl) (by kernel_rfl) (fun _ _ _ h => h) (Or.inl ⟨by rfl, ?_⟩) (by assumption) ?_
           rotate_left
           · (intro w' hSw; clear hSw; go_simp; first | done | with_reducible rfl)
           try simp only [Act.put, List.setIfInBounds_toArray, List.set_cons_zero, List.set_cons_succ]
           refine cons_l 17 rfl (by kernel_rfl) (fun K hK => ?_)
           go_simp
           have hSWccccca : Below V.heap.size V (Wccccc.alloc (.cells #[.string ⟨#[]⟩, .string ⟨#[]⟩, .string ⟨#[]⟩, .string ⟨#[]⟩, .string ⟨#[]⟩] 105)) := hSWccccc.trans ((below_1 Wccccc _).mono hSWccccc.size)
           have hAWccccca0 := heap_alloc_new Wccccc (.cells #[.string ⟨#[]⟩, .string ⟨#[]⟩, .string ⟨#[]⟩, .string ⟨#[]⟩, .string ⟨#[]⟩] 105)
           refine hK.out _ _ hSWccccca (fun hHeld => ?_)
           clear hK K
           obtain ⟨A, EA⟩ : ∃ A, A = Wccccc.heap.size := ⟨_, rfl⟩
           have hVA : V.heap.size ≤ A := by rw [EA]; exact hSWccccc.size
           rw [← EA] at hAWccccca0 ⊢
           obtain ⟨Wccccca, EWccccc⟩ : ∃ W', W' = Wccccc.alloc (.cells #[.string ⟨#[]⟩, .string ⟨#[]⟩, .string ⟨#[]⟩, .string ⟨#[]⟩, .string ⟨#[]⟩] 105) := ⟨_, rfl⟩
           rw [← EWccccc] at hSWccccca hAWccccca0 ⊢
           have hAWccccca := hAWccccca0
           clear hAWccccca0 EWccccc EA
           try simp only [Act.put, List.setIfInBounds_toArray, List.set_cons_zero, List.set_cons_succ]
           refine cons_l 18 rfl (by kernel_rfl) (fun K hK => ?_)
           have z0 : Wccccca.cell? ⟨A, 0, none⟩ = some (.string ⟨#[]⟩) := cell_of_row2 hAWccccca 0 rfl
           have z1 : Wccccca.cell? ⟨A, 1, none⟩ = some (.string ⟨#[]⟩) := cell_of_row2 hAWccccca 1 rfl
           have z2 : Wccccca.cell? ⟨A, 2, none⟩ = some (.string ⟨#[]⟩) := cell_of_row2 hAWccccca 2 rfl
           have z3 : Wccccca.cell? ⟨A, 3, none⟩ = some (.string ⟨#[]⟩) := cell_of_row2 hAWccccca 3 rfl
           have z4 : Wccccca.cell? ⟨A, 4, none⟩ = some (.string ⟨#[]⟩) := cell_of_row2 hAWccccca 4 rfl
           have y0 : Wccccca.frozen? ⟨A, 0, none⟩ = false := Lib.frozen_of_heap hAWccccca 0
           have y1 : Wccccca.frozen? ⟨A, 1, none⟩ = false := Lib.frozen_of_heap hAWccccca 1
           have y2 : Wccccca.frozen? ⟨A, 2, none⟩ = false := Lib.frozen_of_heap hAWccccca 2
           have y3 : Wccccca.frozen? ⟨A, 3, none⟩ = false := Lib.frozen_of_heap hAWccccca 3
           have y4 : Wccccca.frozen? ⟨A, 4, none⟩ = false := Lib.frozen_of_heap hAWccccca 4
           go_simp
           have hX := five_cells hAWccccca (.string s1) (.string s2) (.string s3) (.string s4) (.string s5)
           have hSX := five_below hSWccccca hVA (.string s1) (.string s2) (.string s3) (.string s4) (.string s5)
           generalize (((((Wccccca.setCell ⟨A, 0, none⟩ (.string s1)).setCell ⟨A, 1, none⟩ (.string s2)).setCell ⟨A, 2, none⟩ (.string s3)).setCell ⟨A, 3, none⟩ (.string s4)).setCell ⟨A, 4, none⟩ (.string s5)) = W9 at *
           refine hK.out _ _ hSX (fun hHeld => ?_)
           clear hK K
           try simp only [Act.put, List.setIfInBounds_toArray, List.set_cons_zero, List.set_cons_succ]
           refine wpAnyH_done (by kernel_rfl) ?_ _
           have JC := hid (JJ.out W9 A hX)
           have BX := hid (B0.out.trans (hSX.mono B0.out.size))
           clear z0 z1 z2 z3 z4 y0 y1 y2 y3 y4 hX hSX hAWccccca
           go_wp2_with (go_at_call 60; refine JC.out.mono ?_; rintro _ w9 ⟨rfl, hb9⟩; have B9 := hid (BX.out.trans (hb9.mono BX.out.size)); clear hb9)
           go_ret
           exact ⟨rfl, B9.out⟩
         · skip
           go_simp
           have hSWcccca : Below V.heap.size V (Wcccc.alloc (.cells #[.string ⟨#[]⟩, .string ⟨#[]⟩, .string ⟨#[]⟩, .string ⟨#[]⟩, .string ⟨#[]⟩] 105)) := hSWcccc.trans ((below_1 Wcccc _).mono hSWcccc.size)
           have hAWcccca0 := heap_alloc_new Wcccc (.cells #[.string ⟨#[]⟩, .string ⟨#[]⟩, .string ⟨#[]⟩, .string ⟨#[]⟩, .string ⟨#[]⟩] 105)
           refine hK.out _ _ hSWcccca (fun hHeld => ?_)
           clear hK K
           obtain ⟨A, EA⟩ : ∃ A, A = Wcccc.heap.size := ⟨_, rfl⟩
           have hVA : V.heap.size ≤ A := by rw [EA]; exact hSWcccc.size
           rw [← EA] at hAWcccca0 ⊢
           obtain ⟨Wcccca, EWcccc⟩ : ∃ W', W' = Wcccc.alloc (.cells #[.string ⟨#[]⟩, .string ⟨#[]⟩, .string ⟨#[]⟩, .string ⟨#[]⟩, .string ⟨#[]⟩] 105) := ⟨_, rfl⟩
           rw [← EWcccc] at hSWcccca hAWcccca0 ⊢
           have hAWcccca := hAWcccca0
           clear hAWcccca0 EWcccc EA
           try simp only [Act.put, List.setIfInBounds_toArray, List.set_cons_zero, List.set_cons_succ]
           refine cons_l 15 rfl (by kernel_rfl) (fun K hK => ?_)
           go_simp
           refine (D5.out Wcccca hSWcccca).mono ?_; rintro _ Wccccac ⟨rfl, hbWcccca⟩
           have hSWccccac : Below V.heap.size V Wccccac := hSWcccca.trans (hbWcccca.mono hSWcccca.size)
           have hAWccccac : Wccccac.heap[A]? = some (.cells #[.string ⟨#[]⟩, .string ⟨#[]⟩, .string ⟨#[]⟩, .string ⟨#[]⟩, .string ⟨#[]⟩] 105 (0, 0)) := (hbWcccca.block A (lt_blkR hAWcccca)).trans hAWcccca
           clear hbWcccca
           go_simp
           refine hK.out _ _ hSWccccac (fun hHeld => ?_)
           clear hK K
           try simp only [Act.put, List.setIfInBounds_toArray, List.set_cons_zero, List.set_cons_succ]
           refine take_l 16 (v := ?_) rfl (by kernel_rfl) (by kernel_rfl) (by kernel_rfl) (fun _ _ _ h => h) (Or.inl ⟨by rfl, ?_⟩) (by assumption) ?_
           rotate_left
           · (intro w' hSw; clear hSw; go_simp; first | done | with_reducible rfl)
           try simp only [Act.put, List.setIfInBounds_toArray, List.set_cons_zero, List.set_cons_succ]
           refine cons_l 18 rfl (by kernel_rfl) (fun K hK => ?_)
           have z0 : Wccccac.cell? ⟨A, 0, none⟩ = some (.string ⟨#[]⟩) := cell_of_row2 hAWccccac 0 rfl
           have z1 : Wccccac.cell? ⟨A, 1, none⟩ = some (.string ⟨#[]⟩) := cell_of_row2 hAWccccac 1 rfl
           have z2 : Wccccac.cell? ⟨A, 2, none⟩ = some (.string ⟨#[]⟩) := cell_of_row2 hAWccccac 2 rfl
           have z3 : Wccccac.cell? ⟨A, 3, none⟩ = some (.string ⟨#[]⟩) := cell_of_row2 hAWccccac 3 rfl
           have z4 : Wccccac.cell? ⟨A, 4, none⟩ = some (.string ⟨#[]⟩) := cell_of_row2 hAWccccac 4 rfl
           have y0 : Wccccac.frozen? ⟨A, 0, none⟩ = false := Lib.frozen_of_heap hAWccccac 0
           have y1 : Wccccac.frozen? ⟨A, 1, none⟩ = false := Lib.frozen_of_heap hAWccccac 1
           have y2 : Wccccac.frozen? ⟨A, 2, none⟩ = false := Lib.frozen_of_heap hAWccccac 2
           have y3 : Wccccac.frozen? ⟨A, 3, none⟩ = false := Lib.frozen_of_heap hAWccccac 3
           have y4 : Wccccac.frozen? ⟨A, 4, none⟩ = false := Lib.frozen_of_heap hAWccccac 4
           go_simp
           have hX := five_cells hAWccccac (.string s1) (.string s2) (.string s3) (.string s4) (.string s5)
           have hSX := five_below hSWccccac hVA (.string s1) (.string s2) (.string s3) (.string s4) (.string s5)
           generalize (((((Wccccac.setCell ⟨A, 0, none⟩ (.string s1)).setCell ⟨A, 1, none⟩ (.string s2)).setCell ⟨A, 2, none⟩ (.string s3)).setCell ⟨A, 3, none⟩ (.string s4)).setCell ⟨A, 4, none⟩ (.string s5)) = W9 at *
           refine hK.out _ _ hSX (fun hHeld => ?_)
           clear hK K
           try simp only [Act.put, List.setIfInBounds_toArray, List.set_cons_zero, List.set_cons_succ]
           refine wpAnyH_done (by kernel_rfl) ?_ _
           have JC := hid (JJ.out W9 A hX)
           have BX := hid (B0.out.trans (hSX.mono B0.out.size))
           clear z0 z1 z2 z3 z4 y0 y1 y2 y3 y4 hX hSX hAWccccac
           go_wp2_with (go_at_call 60; refine JC.out.mono ?_; rintro _ w9 ⟨rfl, hb9⟩; have B9 := hid (BX.out.trans (hb9.mono BX.out.size)); clear hb9)
           go_ret
           exact ⟨rfl, B9.out⟩
       · skip
         go_simp
         have hSWccca : Below V.heap.size V (Wccc.alloc (.cells #[.string ⟨#[]⟩, .string ⟨#[]⟩, .string ⟨#[]⟩, .string ⟨#[]⟩, .string ⟨#[]⟩] 105)) := hSWccc.trans ((below_1 Wccc _).mono hSWccc.size)
         have hAWccca0 := heap_alloc_new Wccc (.cells #[.string ⟨#[]⟩, .string ⟨#[]⟩, .string ⟨#[]⟩, .string ⟨#[]⟩, .string ⟨#[]⟩] 105)
         refine hK.out _ _ hSWccca (fun hHeld => ?_)
         clear hK K
         obtain ⟨A, EA⟩ : ∃ A, A = Wccc.heap.size := ⟨_, rfl⟩
         have hVA : V.heap.size ≤ A := by rw [EA]; exact hSWccc.size
         rw [← EA] at hAWccca0 ⊢
         obtain ⟨Wccca, EWccc⟩ : ∃ W', W' = Wccc.alloc (.cells #[.string ⟨#[]⟩, .string ⟨#[]⟩, .string ⟨#[]⟩, .string ⟨#[]⟩, .string ⟨#[]⟩] 105) := ⟨_, rfl⟩
         rw [← EWccc] at hSWccca hAWccca0 ⊢
         have hAWccca := hAWccca0
         clear hAWccca0 EWccc EA
         try simp only [Act.put, List.setIfInBounds_toArray, List.set_cons_zero, List.set_cons_succ]
         refine cons_l 13 rfl (by kernel_rfl) (fun K hK => ?_)
         go_simp
         refine (D4.out Wccca hSWccca).mono ?_; rintro _ Wcccac ⟨rfl, hbWccca⟩
         have hSWcccac : Below V.heap.size V Wcccac := hSWccca.trans (hbWccca.mono hSWccca.size)
         have hAWcccac : Wcccac.heap[A]? = some (.cells #[.string ⟨#[]⟩, .string ⟨#[]⟩, .string ⟨#[]⟩, .string ⟨#[]⟩, .string ⟨#[]⟩] 105 (0, 0)) := (hbWccca.block A (lt_blkR hAWccca)).trans hAWccca
         clear hbWccca
         go_simp
         refine hK.out _ _ hSWcccac (fun hHeld => ?_)
         clear hK K
         try simp only [Act.put, List.setIfInBounds_toArray, List.set_cons_zero, List.set_cons_succ]
         refine cons_l 15 rfl (by kernel_rfl) (fun K hK => ?_)
         go_simp
         refine (D5.out Wcccac hSWcccac).mono ?_; rintro _ Wcccacc ⟨rfl, hbWcccac⟩
         have hSWcccacc : Below V.heap.size V Wcccacc := hSWcccac.trans (hbWcccac.mono hSWcccac.size)
         have hAWcccacc : Wcccacc.heap[A]? = some (.cells #[.string ⟨#[]⟩, .string ⟨#[]⟩, .string ⟨#[]⟩, .string ⟨#[]⟩, .string ⟨#[]⟩] 105 (0, 0)) := (hbWcccac.block A (lt_blkR hAWcccac)).trans hAWcccac
         clear hbWcccac
         go_simp
         refine hK.out _ _ hSWcccacc (fun hHeld => ?_)
         clear hK K
         try simp only [Act.put, List.setIfInBounds_toArray, List.set_cons_zero, List.set_cons_succ]
         refine take_l 16 (v := ?_) rfl (by kernel_rfl) (by kernel_rfl) (by kernel_rfl) (fun _ _ _ h => h) (Or.inl ⟨by rfl, ?_⟩) (by assumption) ?_
         rotate_left
         · (intro w' hSw; clear hSw; go_simp; first | done | with_reducible rfl)
         try simp only [Act.put, List.setIfInBounds_toArray, List.set_cons_zero, List.set_cons_succ]
         refine cons_l 18 rfl (by kernel_rfl) (fun K hK => ?_)
         have z0 : Wcccacc.cell? ⟨A, 0, none⟩ = some (.string ⟨#[]⟩) := cell_of_row2 hAWcccacc 0 rfl
         have z1 : Wcccacc.cell? ⟨A, 1, none⟩ = some (.string ⟨#[]⟩) := cell_of_row2 hAWcccacc 1 rfl
         have z2 : Wcccacc.cell? ⟨A, 2, none⟩ = some (.string ⟨#[]⟩) := cell_of_row2 hAWcccacc 2 rfl
         have z3 : Wcccacc.cell? ⟨A, 3, none⟩ = some (.string ⟨#[]⟩) := cell_of_row2 hAWcccacc 3 rfl
         have z4 : Wcccacc.cell? ⟨A, 4, none⟩ = some (.string ⟨#[]⟩) := cell_of_row2 hAWcccacc 4 rfl
         have y0 : Wcccacc.frozen? ⟨A, 0, none⟩ = false := Lib.frozen_of_heap hAWcccacc 0
         have y1 : Wcccacc.frozen? ⟨A, 1, none⟩ = false := Lib.frozen_of_heap hAWcccacc 1
         have y2 : Wcccacc.frozen? ⟨A, 2, none⟩ = false := Lib.frozen_of_heap hAWcccacc 2
         have y3 : Wcccacc.frozen? ⟨A, 3, none⟩ = false := Lib.frozen_of_heap hAWcccacc 3
         have y4 : Wcccacc.frozen? ⟨A, 4, none⟩ = false := Lib.frozen_of_heap hAWcccacc 4
         go_simp
         have hX := five_cells hAWcccacc (.string s1) (.string s2) (.string s3) (.string s4) (.string s5)
         have hSX := five_below hSWcccacc hVA (.string s1) (.string s2) (.string s3) (.string s4) (.string s5)
         generalize (((((Wcccacc.setCell ⟨A, 0, none⟩ (.string s1)).setCell ⟨A, 1, none⟩ (.string s2)).setCell ⟨A, 2, none⟩ (.string s3)).setCell ⟨A, 3, none⟩ (.string s4)).setCell ⟨A, 4, none⟩ (.string s5)) = W9 at *
         refine hK.out _ _ hSX (fun hHeld => ?_)
         clear hK K
         try simp only [Act.put, List.setIfInBounds_toArray, List.set_cons_zero, List.set_cons_succ]
         refine wpAnyH_done (by kernel_rfl) ?_ _
         have JC := hid (JJ.out W9 A hX)
         have BX := hid (B0.out.trans (hSX.mono B0.out.size))
         clear z0 z1 z2 z3 z4 y0 y1 y2 y3 y4 hX hSX hAWcccacc
         go_wp2_with (go_at_call 60; refine JC.out.mono ?_; rintro _ w9 ⟨rfl, hb9⟩; have B9 := hid (BX.out.trans (hb9.mono BX.out.size)); clear hb9)
         go_ret
         exact ⟨rfl, B9.out⟩
     · skip
       go_simp
       have hSWcca : Below V.heap.size V (Wcc.alloc (.cells #[.string ⟨#[]⟩, .string ⟨#[]⟩, .string ⟨#[]⟩, .string ⟨#[]⟩, .string ⟨#[]⟩] 105)) := hSWcc.trans ((below_1 Wcc _).mono hSWcc.size)
       have hAWcca0 := heap_alloc_new Wcc (.cells #[.string ⟨#[]⟩, .string ⟨#[]⟩, .string ⟨#[]⟩, .string ⟨#[]⟩, .string ⟨#[]⟩] 105)
       refine hK.out _ _ hSWcca (fun hHeld => ?_)
       clear hK K
       obtain ⟨A, EA⟩ : ∃ A, A = Wcc.heap.size := ⟨_, rfl⟩
       have hVA : V.heap.size ≤ A := by rw [EA]; exact hSWcc.size
       rw [← EA] at hAWcca0 ⊢
       obtain ⟨Wcca, EWcc⟩ : ∃ W', W' = Wcc.alloc (.cells #[.string ⟨#[]⟩, .string ⟨#[]⟩, .string ⟨#[]⟩, .string ⟨#[]⟩, .string ⟨#[]⟩] 105) := ⟨_, rfl⟩
       rw [← EWcc] at hSWcca hAWcca0 ⊢
       have hAWcca := hAWcca0
       clear hAWcca0 EWcc EA
       try simp only [Act.put, List.setIfInBounds_toArray, List.set_cons_zero, List.set_cons_succ]
       refine cons_l 9 rfl (by kernel_rfl) (fun K hK => ?_)
       go_simp
       refine (D3.out Wcca hSWcca).mono ?_; rintro _ Wccac ⟨rfl, hbWcca⟩
       have hSWccac : Below V.heap.size V Wccac := hSWcca.trans (hbWcca.mono hSWcca.size)
       have hAWccac : Wccac.heap[A]? = some (.cells #[.string ⟨#[]⟩, .string ⟨#[]⟩, .string ⟨#[]⟩, .string ⟨#[]⟩, .string ⟨#[]⟩] 105 (0, 0)) := (hbWcca.block A (lt_blkR hAWcca)).trans hAWcca
       clear hbWcca
       go_simp
       refine hK.out _ _ hSWccac (fun hHeld => ?_)
       clear hK K
       try simp only [Act.put, List.setIfInBounds_toArray, List.set_cons_zero, List.set_cons_succ]
       refine cons_l 13 rfl (by kernel_rfl) (fun K hK => ?_)
       go_simp
       refine (D4.out Wccac hSWccac).mono ?_; rintro _ Wccacc ⟨rfl, hbWccac⟩
       have hSWccacc : Below V.heap.size V Wccacc := hSWccac.trans (hbWccac.mono hSWccac.size)
       have hAWccacc : Wccacc.heap[A]? = some (.cells #[.string ⟨#[]⟩, .string ⟨#[]⟩, .string ⟨#[]⟩, .string ⟨#[]⟩, .string ⟨#[]⟩] 105 (0, 0)) := (hbWccac.block A (lt_blkR hAWccac)).trans hAWccac
       clear hbWccac
       go_simp
       refine hK.out _ _ hSWccacc (fun hHeld => ?_)
       clear hK K
       try simp only [Act.put, List.setIfInBounds_toArray, List.set_cons_zero, List.set_cons_succ]
       refine cons_l 15 rfl (by kernel_rfl) (fun K hK => ?_)
       go_simp
       refine (D5.out Wccacc hSWccacc).mono ?_; rintro _ Wccaccc ⟨rfl, hbWccacc⟩
       have hSWccaccc : Below V.heap.size V Wccaccc := hSWccacc.trans (hbWccacc.mono hSWccacc.size)
       have hAWccaccc : Wccaccc.heap[A]? = some (.cells #[.string ⟨#[]⟩, .string ⟨#[]⟩, .string ⟨#[]⟩, .string ⟨#[]⟩, .string ⟨#[]⟩] 105 (0, 0)) := (hbWccacc.block A (lt_blkR hAWccacc)).trans hAWccacc
       clear hbWccacc
       go_simp
       refine hK.out _ _ hSWccaccc (fun hHeld => ?_)
       clear hK K
       try simp only [Act.put, List.setIfInBounds_toArray, List.set_cons_zero, List.set_cons_succ]
       refine take_l 16 (v := ?_) rfl (by kernel_rfl) (by kernel_rfl) (by kernel_rfl) (fun _ _ _ h => h) (Or.inl ⟨by rfl, ?_⟩) (by assumption) ?_
       rotate_left
       · (intro w' hSw; clear hSw; go_simp; first | done | with_reducible rfl)
       try simp only [Act.put, List.setIfInBounds_toArray, List.set_cons_zero, List.set_cons_succ]
       refine cons_l 18 rfl (by kernel_rfl) (fun K hK => ?_)
       have z0 : Wccaccc.cell? ⟨A, 0, none⟩ = some (.string ⟨#[]⟩) := cell_of_row2 hAWccaccc 0 rfl
       have z1 : Wccaccc.cell? ⟨A, 1, none⟩ = some (.string ⟨#[]⟩) := cell_of_row2 hAWccaccc 1 rfl
       have z2 : Wccaccc.cell? ⟨A, 2, none⟩ = some (.string ⟨#[]⟩) := cell_of_row2 hAWccaccc 2 rfl
       have z3 : Wccaccc.cell? ⟨A, 3, none⟩ = some (.string ⟨#[]⟩) := cell_of_row2 hAWccaccc 3 rfl
       have z4 : Wccaccc.cell? ⟨A, 4, none⟩ = some (.string ⟨#[]⟩) := cell_of_row2 hAWccaccc 4 rfl
       have y0 : Wccaccc.frozen? ⟨A, 0, none⟩ = false := Lib.frozen_of_heap hAWccaccc 0
       have y1 : Wccaccc.frozen? ⟨A, 1, none⟩ = false := Lib.frozen_of_heap hAWccaccc 1
       have y2 : Wccaccc.frozen? ⟨A, 2, none⟩ = false := Lib.frozen_of_heap hAWccaccc 2
       have y3 : Wccaccc.frozen? ⟨A, 3, none⟩ = false := Lib.frozen_of_heap hAWccaccc 3
       have y4 : Wccaccc.frozen? ⟨A, 4, none⟩ = false := Lib.frozen_of_heap hAWccaccc 4
       go_simp
       have hX := five_cells hAWccaccc (.string s1) (.string s2) (.string s3) (.string s4) (.string s5)
       have hSX := five_below hSWccaccc hVA (.string s1) (.string s2) (.string s3) (.string s4) (.string s5)
       generalize (((((Wccaccc.setCell ⟨A, 0, none⟩ (.string s1)).setCell ⟨A, 1, none⟩ (.string s2)).setCell ⟨A, 2, none⟩ (.string s3)).setCell ⟨A, 3, none⟩ (.string s4)).setCell ⟨A, 4, none⟩ (.string s5)) = W9 at *
       refine hK.out _ _ hSX (fun hHeld => ?_)
       clear hK K
       try simp only [Act.put, List.setIfInBounds_toArray, List.set_cons_zero, List.set_cons_succ]
       refine wpAnyH_done (by kernel_rfl) ?_ _
       have JC := hid (JJ.out W9 A hX)
       have BX := hid (B0.out.trans (hSX.mono B0.out.size))
       clear z0 z1 z2 z3 z4 y0 y1 y2 y3 y4 hX hSX hAWccaccc
       go_wp2_with (go_at_call 60; refine JC.out.mono ?_; rintro _ w9 ⟨rfl, hb9⟩; have B9 := hid (BX.out.trans (hb9.mono BX.out.size)); clear hb9)
       go_ret
       exact ⟨rfl, B9.out⟩
   · skip
     go_simp
     have hSWca : Below V.heap.size V (Wc.alloc (.cells #[.string ⟨#[]⟩, .string ⟨#[]⟩, .string ⟨#[]⟩, .string ⟨#[]⟩, .string ⟨#[]⟩] 105)) := hSWc.trans ((below_1 Wc _).mono hSWc.size)
     have hAWca0 := heap_alloc_new Wc (.cells #[.string ⟨#[]⟩, .string ⟨#[]⟩, .string ⟨#[]⟩, .string ⟨#[]⟩, .string ⟨#[]⟩] 105)
     refine hK.out _ _ hSWca (fun hHeld => ?_)
     clear hK K
     obtain ⟨A, EA⟩ : ∃ A, A = Wc.heap.size := ⟨_, rfl⟩
     have hVA : V.heap.size ≤ A := by rw [EA]; exact hSWc.size
     rw [← EA] at hAWca0 ⊢
     obtain ⟨Wca, EWc⟩ : ∃ W', W' = Wc.alloc (.cells #[.string ⟨#[]⟩, .string ⟨#[]⟩, .string ⟨#[]⟩, .string ⟨#[]⟩, .string ⟨#[]⟩] 105) := ⟨_, rfl⟩
     rw [← EWc] at hSWca hAWca0 ⊢
     have hAWca := hAWca0
     clear hAWca0 EWc EA
     try simp only [Act.put, List.setIfInBounds_toArray, List.set_cons_zero, List.set_cons_succ]
     refine cons_l 5 rfl (by kernel_rfl) (fun K hK => ?_)
     go_simp
     refine (D2.out Wca hSWca).mono ?_; rintro _ Wcac ⟨rfl, hbWca⟩
     have hSWcac : Below V.heap.size V Wcac := hSWca.trans (hbWca.mono hSWca.size)
     have hAWcac : Wcac.heap[A]? = some (.cells #[.string ⟨#[]⟩, .string ⟨#[]⟩, .string ⟨#[]⟩, .string ⟨#[]⟩, .string ⟨#[]⟩] 105 (0, 0)) := (hbWca.block A (lt_blkR hAWca)).trans hAWca
     clear hbWca
     go_simp
     refine hK.out _ _ hSWcac (fun hHeld => ?_)
     clear hK K
     try simp only [Act.put, List.setIfInBounds_toArray, List.set_cons_zero, List.set_cons_succ]
     refine cons_l 9 rfl (by kernel_rfl) (fun K hK => ?_)
     go_simp
     refine (D3.out Wcac hSWcac).mono ?_; rintro _ Wcacc ⟨rfl, hbWcac⟩
     have hSWcacc : Below V.heap.size V Wcacc := hSWcac.trans (hbWcac.mono hSWcac.size)
     have hAWcacc : Wcacc.heap[A]? = some (.cells #[.string ⟨#[]⟩, .string ⟨#[]⟩, .string ⟨#[]⟩, .string ⟨#[]⟩, .string ⟨#[]⟩] 105 (0, 0)) := (hbWcac.block A (lt_blkR hAWcac)).trans hAWcac
     clear hbWcac
     go_simp
     refine hK.out _ _ hSWcacc (fun hHeld => ?_)
     clear hK K
     try simp only [Act.put, List.setIfInBounds_toArray, List.set_cons_zero, List.set_cons_succ]
     refine cons_l 13 rfl (by kernel_rfl) (fun K hK => ?_)
     go_simp
     refine (D4.out Wcacc hSWcacc).mono ?_; rintro _ Wcaccc ⟨rfl, hbWcacc⟩
     have hSWcaccc : Below V.heap.size V Wcaccc := hSWcacc.trans (hbWcacc.mono hSWcacc.size)
     have hAWcaccc : Wcaccc.heap[A]? = some (.cells #[.string ⟨#[]⟩, .string ⟨#[]⟩, .string ⟨#[]⟩, .string ⟨#[]⟩, .string ⟨#[]⟩] 105 (0, 0)) := (hbWcacc.block A (lt_blkR hAWcacc)).trans hAWcacc
     clear hbWcacc
     go_simp
     refine hK.out _ _ hSWcaccc (fun hHeld => ?_)
     clear hK K
     try simp only [Act.put, List.setIfInBounds_toArray, List.set_cons_zero, List.set_cons_succ]
     refine cons_l 15 rfl (by kernel_rfl) (fun K hK => ?_)
     go_simp
     refine (D5.out Wcaccc hSWcaccc).mono ?_; rintro _ Wcacccc ⟨rfl, hbWcaccc⟩
     have hSWcacccc : Below V.heap.size V Wcacccc := hSWcaccc.trans (hbWcaccc.mono hSWcaccc.size)
     have hAWcacccc : Wcacccc.heap[A]? = some (.cells #[.string ⟨#[]⟩, .string ⟨#[]⟩, .string ⟨#[]⟩, .string ⟨#[]⟩, .string ⟨#[]⟩] 105 (0, 0)) := (hbWcaccc.block A (lt_blkR hAWcaccc)).trans hAWcaccc
     clear hbWcaccc
     go_simp
     refine hK.out _ _ hSWcacccc (fun hHeld => ?_)
     clear hK K
     try simp only [Act.put, List.setIfInBounds_toArray, List.set_cons_zero, List.set_cons_succ]
     refine take_l 16 (v := ?_) rfl (by kernel_rfl) (by kernel_rfl) (by kernel_rfl) (fun _ _ _ h => h) (Or.inl ⟨by rfl, ?_⟩) (by assumption) ?_
     rotate_left
     · (intro w' hSw; clear hSw; go_simp; first | done | with_reducible rfl)
     try simp only [Act.put, List.setIfInBounds_toArray, List.set_cons_zero, List.set_cons_succ]
     refine cons_l 18 rfl (by kernel_rfl) (fun K hK => ?_)
     have z0 : Wcacccc.cell? ⟨A, 0, none⟩ = some (.string ⟨#[]⟩) := cell_of_row2 hAWcacccc 0 rfl
     have z1 : Wcacccc.cell? ⟨A, 1, none⟩ = some (.string ⟨#[]⟩) := cell_of_row2 hAWcacccc 1 rfl
     have z2 : Wcacccc.cell? ⟨A, 2, none⟩ = some (.string ⟨#[]⟩) := cell_of_row2 hAWcacccc 2 rfl
     have z3 : Wcacccc.cell? ⟨A, 3, none⟩ = some (.string ⟨#[]⟩) := cell_of_row2 hAWcacccc 3 rfl
     have z4 : Wcacccc.cell? ⟨A, 4, none⟩ = some (.string ⟨#[]⟩) := cell_of_row2 hAWcacccc 4 rfl
     have y0 : Wcacccc.frozen? ⟨A, 0, none⟩ = false := Lib.frozen_of_heap hAWcacccc 0
     have y1 : Wcacccc.frozen? ⟨A, 1, none⟩ = false := Lib.frozen_of_heap hAWcacccc 1
     have y2 : Wcacccc.frozen? ⟨A, 2, none⟩ = false := Lib.frozen_of_heap hAWcacccc 2
     have y3 : Wcacccc.frozen? ⟨A, 3, none⟩ = false := Lib.frozen_of_heap hAWcacccc 3
     have y4 : Wcacccc.frozen? ⟨A, 4, none⟩ = false := Lib.frozen_of_heap hAWcacccc 4
     go_simp
     have hX := five_cells hAWcacccc (.string s1) (.string s2) (.string s3) (.string s4) (.string s5)
     have hSX := five_below hSWcacccc hVA (.string s1) (.string s2) (.string s3) (.string s4) (.string s5)
     generalize (((((Wcacccc.setCell ⟨A, 0, none⟩ (.string s1)).setCell ⟨A, 1, none⟩ (.string s2)).setCell ⟨A, 2, none⟩ (.string s3)).setCell ⟨A, 3, none⟩ (.string s4)).setCell ⟨A, 4, none⟩ (.string s5)) = W9 at *
     refine hK.out _ _ hSX (fun hHeld => ?_)
     clear hK K
     try simp only [Act.put, List.setIfInBounds_toArray, List.set_cons_zero, List.set_cons_succ]
     refine wpAnyH_done (by kernel_rfl) ?_ _
     have JC := hid (JJ.out W9 A hX)
     have BX := hid (B0.out.trans (hSX.mono B0.out.size))
     clear z0 z1 z2 z3 z4 y0 y1 y2 y3 y4 hX hSX hAWcacccc
     go_wp2_with (go_at_call 60; refine JC.out.mono ?_; rintro _ w9 ⟨rfl, hb9⟩; have B9 := hid (BX.out.trans (hb9.mono BX.out.size)); clear hb9)
     go_ret
     exact ⟨rfl, B9.out⟩
 · skip
   go_simp
   have hSWa : Below V.heap.size V (W.alloc (.cells #[.string ⟨#[]⟩, .string ⟨#[]⟩, .string ⟨#[]⟩, .string ⟨#[]⟩, .string ⟨#[]⟩] 105)) := hSW.trans ((below_1 W _).mono hSW.size)
   have hAWa0 := heap_alloc_new W (.cells #[.string ⟨#[]⟩, .string ⟨#[]⟩, .string ⟨#[]⟩, .string ⟨#[]⟩, .string ⟨#[]⟩] 105)
   refine hK.out _ _ hSWa (fun hHeld => ?_)
   clear hK K
   obtain ⟨A, EA⟩ : ∃ A, A = W.heap.size := ⟨_, rfl⟩
   have hVA : V.heap.size ≤ A := by rw [EA]; exact hSW.size
   rw [← EA] at hAWa0 ⊢
   obtain ⟨Wa, EW⟩ : ∃ W', W' = W.alloc (.cells #[.string ⟨#[]⟩, .string ⟨#[]⟩, .string ⟨#[]⟩, .string ⟨#[]⟩, .string ⟨#[]⟩] 105) := ⟨_, rfl⟩
   rw [← EW] at hSWa hAWa0 ⊢
   have hAWa := hAWa0
   clear hAWa0 EW EA
   try simp only [Act.put, List.setIfInBounds_toArray, List.set_cons_zero, List.set_cons_succ]
   refine cons_l 2 rfl (by kernel_rfl) (fun K hK => ?_)
   go_simp
   refine (D1.out Wa hSWa).mono ?_; rintro _ Wac ⟨rfl, hbWa⟩
   have hSWac : Below V.heap.size V Wac := hSWa.trans (hbWa.mono hSWa.size)
   have hAWac : Wac.heap[A]? = some (.cells #[.string ⟨#[]⟩, .string ⟨#[]⟩, .string ⟨#[]⟩, .string ⟨#[]⟩, .string ⟨#[]⟩] 105 (0, 0)) := (hbWa.block A (lt_blkR hAWa)).trans hAWa
   clear hbWa
   go_simp
   refine hK.out _ _ hSWac (fun hHeld => ?_)
   clear hK K
   try simp only [Act.put, List.setIfInBounds_toArray, List.set_cons_zero, List.set_cons_succ]
   refine cons_l 5 rfl (by kernel_rfl) (fun K hK => ?_)
   go_simp
   refine (D2.out Wac hSWac).mono ?_; rintro _ Wacc ⟨rfl, hbWac⟩
   have hSWacc : Below V.heap.size V Wacc := hSWac.trans (hbWac.mono hSWac.size)
   have hAWacc : Wacc.heap[A]? = some (.cells #[.string ⟨#[]⟩, .string ⟨#[]⟩, .string ⟨#[]⟩, .string ⟨#[]⟩, .string ⟨#[]⟩] 105 (0, 0)) := (hbWac.block A (lt_blkR hAWac)).trans hAWac
   clear hbWac
   go_simp
   refine hK.out _ _ hSWacc (fun hHeld => ?_)
   clear hK K
   try simp only [Act.put, List.setIfInBounds_toArray, List.set_cons_zero, List.set_cons_succ]
   refine cons_l 9 rfl (by kernel_rfl) (fun K hK => ?_)
   go_simp
   refine (D3.out Wacc hSWacc).mono ?_; rintro _ Waccc ⟨rfl, hbWacc⟩
   have hSWaccc : Below V.heap.size V Waccc := hSWacc.trans (hbWacc.mono hSWacc.size)
   have hAWaccc : Waccc.heap[A]? = some (.cells #[.string ⟨#[]⟩, .string ⟨#[]⟩, .string ⟨#[]⟩, .string ⟨#[]⟩, .string ⟨#[]⟩] 105 (0, 0)) := (hbWacc.block A (lt_blkR hAWacc)).trans hAWacc
   clear hbWacc
   go_simp
   refine hK.out _ _ hSWaccc (fun hHeld => ?_)
   clear hK K
   try simp only [Act.put, List.setIfInBounds_toArray, List.set_cons_zero, List.set_cons_succ]
   refine cons_l 13 rfl (by kernel_rfl) (fun K hK => ?_)
   go_simp
   refine (D4.out Waccc hSWaccc).mono ?_; rintro _ Wacccc ⟨rfl, hbWaccc⟩
   have hSWacccc : Below V.heap.size V Wacccc := hSWaccc.trans (hbWaccc.mono hSWaccc.size)
   have hAWacccc : Wacccc.heap[A]? = some (.cells #[.string ⟨#[]⟩, .string ⟨#[]⟩, .string ⟨#[]⟩, .string ⟨#[]⟩, .string ⟨#[]⟩] 105 (0, 0)) := (hbWaccc.block A (lt_blkR hAWaccc)).trans hAWaccc
   clear hbWaccc
   go_simp
   refine hK.out _ _ hSWacccc (fun hHeld => ?_)
   clear hK K
   try simp only [Act.put, List.setIfInBounds_toArray, List.set_cons_zero, List.set_cons_succ]
   refine cons_l 15 rfl (by kernel_rfl) (fun K hK => ?_)
   go_simp
   refine (D5.out Wacccc hSWacccc).mono ?_; rintro _ Waccccc ⟨rfl, hbWacccc⟩
   have hSWaccccc : Below V.heap.size V Waccccc := hSWacccc.trans (hbWacccc.mono hSWacccc.size)
   have hAWaccccc : Waccccc.heap[A]? = some (.cells #[.string ⟨#[]⟩, .string ⟨#[]⟩, .string ⟨#[]⟩, .string ⟨#[]⟩, .string ⟨#[]⟩] 105 (0, 0)) := (hbWacccc.block A (lt_blkR hAWacccc)).trans hAWacccc
   clear hbWacccc
   go_simp
   refine hK.out _ _ hSWaccccc (fun hHeld => ?_)
   clear hK K
   try simp only [Act.put, List.setIfInBounds_toArray, List.set_cons_zero, List.set_cons_succ]
   refine take_l 16 (v := ?_) rfl (by kernel_rfl) (by kernel_rfl) (by kernel_rfl) (fun _ _ _ h => h) (Or.inl ⟨by rfl, ?_⟩) (by assumption) ?_
   rotate_left
   · (intro w' hSw; clear hSw; go_simp; first | done | with_reducible rfl)
   try simp only [Act.put, List.setIfInBounds_toArray, List.set_cons_zero, List.set_cons_succ]
   refine cons_l 18 rfl (by kernel_rfl) (fun K hK => ?_)
   have z0 : Waccccc.cell? ⟨A, 0, none⟩ = some (.string ⟨#[]⟩) := cell_of_row2 hAWaccccc 0 rfl
   have z1 : Waccccc.cell? ⟨A, 1, none⟩ = some (.string ⟨#[]⟩) := cell_of_row2 hAWaccccc 1 rfl
   have z2 : Waccccc.cell? ⟨A, 2, none⟩ = some (.string ⟨#[]⟩) := cell_of_row2 hAWaccccc 2 rfl
   have z3 : Waccccc.cell? ⟨A, 3, none⟩ = some (.string ⟨#[]⟩) := cell_of_row2 hAWaccccc 3 rfl
   have z4 : Waccccc.cell? ⟨A, 4, none⟩ = some (.string ⟨#[]⟩) := cell_of_row2 hAWaccccc 4 rfl
   have y0 : Waccccc.frozen? ⟨A, 0, none⟩ = false := Lib.frozen_of_heap hAWaccccc 0
   have y1 : Waccccc.frozen? ⟨A, 1, none⟩ = false := Lib.frozen_of_heap hAWaccccc 1
   have y2 : Waccccc.frozen? ⟨A, 2, none⟩ = false := Lib.frozen_of_heap hAWaccccc 2
   have y3 : Waccccc.frozen? ⟨A, 3, none⟩ = false := Lib.frozen_of_heap hAWaccccc 3
   have y4 : Waccccc.frozen? ⟨A, 4, none⟩ = false := Lib.frozen_of_heap hAWaccccc 4
   go_simp
   have hX := five_cells hAWaccccc (.string s1) (.string s2) (.string s3) (.string s4) (.string s5)
   have hSX := five_below hSWaccccc hVA (.string s1) (.string s2) (.string s3) (.string s4) (.string s5)
   generalize (((((Waccccc.setCell ⟨A, 0, none⟩ (.string s1)).setCell ⟨A, 1, none⟩ (.string s2)).setCell ⟨A, 2, none⟩ (.string s3)).setCell ⟨A, 3, none⟩ (.string s4)).setCell ⟨A, 4, none⟩ (.string s5)) = W9 at *
   refine hK.out _ _ hSX (fun hHeld => ?_)
   clear hK K
   try simp only [Act.put, List.setIfInBounds_toArray, List.set_cons_zero, List.set_cons_succ]
   refine wpAnyH_done (by kernel_rfl) ?_ _
   have JC := hid (JJ.out W9 A hX)
   have BX := hid (B0.out.trans (hSX.mono B0.out.size))
   clear z0 z1 z2 z3 z4 y0 y1 y2 y3 y4 hX hSX hAWaccccc
   go_wp2_with (go_at_call 60; refine JC.out.mono ?_; rintro _ w9 ⟨rfl, hb9⟩; have B9 := hid (BX.out.trans (hb9.mono BX.out.size)); clear hb9)
   go_ret
   exact ⟨rfl, B9.out⟩
end Go.Proofs.YtkokjkaclcjnjaaGreatDoor
