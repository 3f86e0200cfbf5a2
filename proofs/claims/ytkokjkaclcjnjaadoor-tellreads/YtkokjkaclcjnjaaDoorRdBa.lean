/-
  The document's Line.
-/
import Derived.Test.YtkokjkaclcjnjaaDoorRdAz
namespace Go.Proofs.YtkokjkaclcjnjaaDoor
open Go.RowKit Go.ChangeShapes Go.WideShapes Go.ChangeAt
set_option linter.unusedVariables false
set_option linter.unusedSimpArgs false
set_option maxRecDepth 100000
set_option maxHeartbeats 8000000 in
theorem rline_no (x : Nd) (w : World) (hx : x.Ok w) (hr : nodeOk x = false) : Calls Tryd.prog 15 #[x.val] w (LnP x w) := by
 have hb := below_1 w (.cells x.cells.toArray 35)
 have hB := heap_alloc_new w (.cells x.cells.toArray 35)
 have AC := hid (alone_c x (w.alloc (.cells x.cells.toArray 35)) (hx.later hb))
 obtain ⟨y0, y1, y2, y3, y4, y5⟩ := nd_cells hB
 have B0 := hid hb
 rw [hr] at AC
 unfold LnP
 rw [hr]
 simp only [Bool.false_eq_true, if_false]
 clear hb hB hx hr
 unfold Nd.val Nd.cells at *
 go_enter Tryd.func15, Tryd.ntmps15
 go_wp2_with (go_at_call 34; refine AC.out.mono ?_; rintro _ w1 ⟨rfl, hb1⟩; have B1 := hid (B0.out.trans (hb1.mono B0.out.size)); clear hb1)
 go_ret2
 exact ⟨rfl, B1.out⟩
set_option maxHeartbeats 8000000 in
theorem rline_1 (f m l : Int) (da : Option Addr) (dc : Nat) (zs : List Int) (ka : Option Addr) (kc : Nat) (ks : List Kd) (w : World) (hx : Nd.Ok w ⟨f, 1, m, l, da, dc, zs, ka, kc, ks⟩) (hr : nodeOk ⟨f, 1, m, l, da, dc, zs, ka, kc, ks⟩ = true) (ht : TabW w) : Calls Tryd.prog 15 #[Nd.val ⟨f, 1, m, l, da, dc, zs, ka, kc, ks⟩] w fun e w' => e = .returned (.tuple #[.string ⟨(lineL ⟨f, 1, m, l, da, dc, zs, ka, kc, ks⟩).toArray⟩, .int .i64 0]) ∧ Below w.heap.size w w' := by
 have hb := below_1 w (.cells #[.int .u32 f, .int .u8 1, .int .u16 m, .int .u16 l, .slice da zs.length dc, .slice ka ks.length kc] 35)
 have hB := heap_alloc_new w (.cells #[.int .u32 f, .int .u8 1, .int .u16 m, .int .u16 l, .slice da zs.length dc, .slice ka ks.length kc] 35)
 have AC := hid (alone_c ⟨f, 1, m, l, da, dc, zs, ka, kc, ks⟩ (w.alloc (.cells #[.int .u32 f, .int .u8 1, .int .u16 m, .int .u16 l, .slice da zs.length dc, .slice ka ks.length kc] 35)) (hx.later hb))
 rw [hr] at AC
 obtain ⟨z1, z2, z3⟩ := node_small hr
 simp only at z1 z2 z3
 obtain ⟨⟨f0, f1⟩, _, ⟨m0, m1⟩, ⟨l0, l1⟩, hIB, hIK⟩ := hx
 simp only at f0 f1 m0 m1 l0 l1 hIB hIK
 have y0 : (w.alloc (.cells #[.int .u32 f, .int .u8 1, .int .u16 m, .int .u16 l, .slice da zs.length dc, .slice ka ks.length kc] 35)).cell? ⟨w.heap.size, 0, none⟩ = some (.int .u32 f) := cell_of_row2 hB 0 rfl
 have y1 : (w.alloc (.cells #[.int .u32 f, .int .u8 1, .int .u16 m, .int .u16 l, .slice da zs.length dc, .slice ka ks.length kc] 35)).cell? ⟨w.heap.size, 1, none⟩ = some (.int .u8 1) := cell_of_row2 hB 1 rfl
 have y2 : (w.alloc (.cells #[.int .u32 f, .int .u8 1, .int .u16 m, .int .u16 l, .slice da zs.length dc, .slice ka ks.length kc] 35)).cell? ⟨w.heap.size, 2, none⟩ = some (.int .u16 m) := cell_of_row2 hB 2 rfl
 have y3 : (w.alloc (.cells #[.int .u32 f, .int .u8 1, .int .u16 m, .int .u16 l, .slice da zs.length dc, .slice ka ks.length kc] 35)).cell? ⟨w.heap.size, 3, none⟩ = some (.int .u16 l) := cell_of_row2 hB 3 rfl
 have y4 : (w.alloc (.cells #[.int .u32 f, .int .u8 1, .int .u16 m, .int .u16 l, .slice da zs.length dc, .slice ka ks.length kc] 35)).cell? ⟨w.heap.size, 4, none⟩ = some (.slice da zs.length dc) := cell_of_row2 hB 4 rfl
 have y5 : (w.alloc (.cells #[.int .u32 f, .int .u8 1, .int .u16 m, .int .u16 l, .slice da zs.length dc, .slice ka ks.length kc] 35)).cell? ⟨w.heap.size, 5, none⟩ = some (.slice ka ks.length kc) := cell_of_row2 hB 5 rfl
 have B0 := hid hb
 have HB := hid hB
 have IB := hid (fun W (h : Below w.heap.size w W) => hIB.later h)
 have IK := hid (fun W (h : Below w.heap.size w W) => hIK.later h)
 have KW := hid hIK.2.1
 have Z3 := hid z3
 have TW := hid ht
 obtain ⟨a1, h1⟩ : ∃ a, Hid (a = decB f.toNat) := ⟨_, hid rfl⟩
 obtain ⟨a3, h3⟩ : ∃ a, Hid (a = decB m.toNat) := ⟨_, hid rfl⟩
 obtain ⟨a4, h4⟩ : ∃ a, Hid (a = decB l.toNat) := ⟨_, hid rfl⟩
 have t1 : a1.size ≤ 20 := by rw [h1.out]; exact decB_size (by omega)
 have t3 : a3.size ≤ 20 := by rw [h3.out]; exact decB_size (by omega)
 have t4 : a4.size ≤ 20 := by rw [h4.out]; exact decB_size (by omega)
 have D1 : Hid (∀ W, Below w.heap.size w W → Calls Tryd.prog 35 #[.int .u64 f, .int .i64 10] W fun e w' => e = .returned (.string a1) ∧ Below W.heap.size W w') := hid (fun W hW => by
   have := fmtP_c f.toNat (by omega) W (ht.later hW)
   rw [Int.toNat_of_nonneg f0, ← h1.out] at this
   exact this)
 have D3 : Hid (∀ W, Below w.heap.size w W → Calls Tryd.prog 36 #[.int .i64 m] W fun e w' => e = .returned (.string a3) ∧ Below W.heap.size W w') := hid (fun W hW => by
   have := itoa_c m.toNat (by omega) W (ht.later hW)
   rw [Int.toNat_of_nonneg m0, ← h3.out] at this
   exact this)
 have D4 : Hid (∀ W, Below w.heap.size w W → Calls Tryd.prog 36 #[.int .i64 l] W fun e w' => e = .returned (.string a4) ∧ Below W.heap.size W w') := hid (fun W hW => by
   have := itoa_c l.toNat (by omega) W (ht.later hW)
   rw [Int.toNat_of_nonneg l0, ← h4.out] at this
   exact this)
 have wf : IntKind.u64.wrap f = f := by rw [IntKind.wrap_u64]; omega
 have wm : IntKind.i64.wrap m = m := by rw [IntKind.wrap_i64]; omega
 have wl : IntKind.i64.wrap l = l := by rw [IntKind.wrap_i64]; omega
 have p0 : ¬ 9223372036854775807 < a1.size + 1 := by omega
 have p1 : ¬ 9223372036854775807 < a1.size + 1 + 4 := by omega
 have p2 : ¬ 9223372036854775807 < a1.size + 1 + 4 + 1 := by omega
 have p3 : ¬ 9223372036854775807 < a1.size + 1 + 4 + 1 + a3.size := by omega
 have p4 : ¬ 9223372036854775807 < a1.size + 1 + 4 + 1 + a3.size + 1 := by omega
 have p5 : ¬ 9223372036854775807 < a1.size + 1 + 4 + 1 + a3.size + 1 + a4.size := by omega
 have p6 : ¬ 9223372036854775807 < a1.size + 1 + 4 + 1 + a3.size + 1 + a4.size + 1 := by omega
 clear hb hB hr hIB hIK z3 ht
 unfold Nd.val at *
 simp only at *
 go_enter Tryd.func15, Tryd.ntmps15
 go_upto_region 3 with (go_at_call 34; refine AC.out.mono ?_; rintro _ w1 ⟨rfl, hb1⟩; have B1 := hid (B0.out.trans (hb1.mono B0.out.size)); have HB1 := hid ((hb1.block _ (lt_blkR HB.out)).trans HB.out); clear hb1)
 have b2 := below_1 w1 (.cells #[.string ⟨#[]⟩, .string ⟨#[102, 105, 108, 101]⟩, .string ⟨#[100, 105, 114]⟩, .string ⟨#[108, 105, 110, 107]⟩] 9)
 have hB2 := heap_alloc_new w1 (.cells #[.string ⟨#[]⟩, .string ⟨#[102, 105, 108, 101]⟩, .string ⟨#[100, 105, 114]⟩, .string ⟨#[108, 105, 110, 107]⟩] 9)
 have s2 : (w1.alloc (.cells #[.string ⟨#[]⟩, .string ⟨#[102, 105, 108, 101]⟩, .string ⟨#[100, 105, 114]⟩, .string ⟨#[108, 105, 110, 107]⟩] 9)).cell? ⟨w1.heap.size, 1, none⟩ = some (.string ⟨#[102, 105, 108, 101]⟩) := cell_of_row2 hB2 1 rfl
 have HB2 := (b2.block _ (lt_blkR HB1.out)).trans HB1.out
 have kk : (w1.alloc (.cells #[.string ⟨#[]⟩, .string ⟨#[102, 105, 108, 101]⟩, .string ⟨#[100, 105, 114]⟩, .string ⟨#[108, 105, 110, 107]⟩] 9)).cell? ⟨w.heap.size, 1, none⟩ = some (.int .u8 1) := cell_of_row2 HB2 1 rfl
 have B2 := hid (B1.out.trans (b2.mono B1.out.size))
 go_upto_region 4 with fail
 generalize w1.alloc (.cells #[.string ⟨#[]⟩, .string ⟨#[102, 105, 108, 101]⟩, .string ⟨#[100, 105, 114]⟩, .string ⟨#[108, 105, 110, 107]⟩] 9) = V at *
 have O0 : ∀ w' : World, Below V.heap.size V w' → w'.cell? ⟨w.heap.size, 0, none⟩ = some (.int .u32 f) := fun w' h => cell_later h (cell_of_row2 HB2 0 rfl)
 have O1 : ∀ w' : World, Below V.heap.size V w' → w'.cell? ⟨w.heap.size, 1, none⟩ = some (.int .u8 1) := fun w' h => cell_later h (cell_of_row2 HB2 1 rfl)
 have O2 : ∀ w' : World, Below V.heap.size V w' → w'.cell? ⟨w.heap.size, 2, none⟩ = some (.int .u16 m) := fun w' h => cell_later h (cell_of_row2 HB2 2 rfl)
 have O3 : ∀ w' : World, Below V.heap.size V w' → w'.cell? ⟨w.heap.size, 3, none⟩ = some (.int .u16 l) := fun w' h => cell_later h (cell_of_row2 HB2 3 rfl)
 have O4 : ∀ w' : World, Below V.heap.size V w' → w'.cell? ⟨w.heap.size, 4, none⟩ = some (.slice da zs.length dc) := fun w' h => cell_later h (cell_of_row2 HB2 4 rfl)
 have O5 : ∀ w' : World, Below V.heap.size V w' → w'.cell? ⟨w.heap.size, 5, none⟩ = some (.slice ka ks.length kc) := fun w' h => cell_later h (cell_of_row2 HB2 5 rfl)
 have D1V := hid (fun W (h : Below V.heap.size V W) => D1.out W (B2.out.trans (h.mono B2.out.size)))
 have D3V := hid (fun W (h : Below V.heap.size V W) => D3.out W (B2.out.trans (h.mono B2.out.size)))
 have D4V := hid (fun W (h : Below V.heap.size V W) => D4.out W (B2.out.trans (h.mono B2.out.size)))
 clear b2 hB2 s2 HB2 kk
 go_wp2_with fail
 have hSW0 : Below V.heap.size V V.drew := Below.drew (Below.refl _ _)
 refine wp_region_held_drew (S := fun w' => Below V.heap.size V w') (by kernel_rfl) hSW0 (fun hHeld => ?_)
 refine take_l 0 (v := ?_) rfl (by kernel_rfl) (by kernel_rfl) (by kernel_rfl) (fun _ _ _ h => h) (Or.inl ⟨by rfl, ?_⟩) (by assumption) ?_
 rotate_left
 · (intro w' hSw; clear hSw; go_simp; first | done | with_reducible rfl)
 try simp only [Act.put, List.setIfInBounds_toArray, List.set_cons_zero, List.set_cons_succ]
 refine take_l 1 (v := ?_) rfl (by kernel_rfl) (by kernel_rfl) (by kernel_rfl) (fun _ _ _ h => h) (Or.inl ⟨by rfl, ?_⟩) (by assumption) ?_
 rotate_left
 · (intro w' hSw; (have kq := O0 _ hSw); clear hSw; go_simp; first | done | with_reducible rfl)
 try simp only [Act.put, List.setIfInBounds_toArray, List.set_cons_zero, List.set_cons_succ]
 refine take_l 2 (v := ?_) rfl (by kernel_rfl) (by kernel_rfl) (by kernel_rfl) (fun _ _ _ h => h) (Or.inl ⟨by rfl, ?_⟩) (by assumption) ?_
 rotate_left
 · (intro w' hSw; clear hSw; go_simp; first | done | with_reducible rfl)
 try simp only [Act.put, List.setIfInBounds_toArray, List.set_cons_zero, List.set_cons_succ]
 refine take_l 5 (v := ?_) rfl (by kernel_rfl) (by kernel_rfl) (by kernel_rfl) (fun _ _ _ h => h) (Or.inl ⟨by rfl, ?_⟩) (by assumption) ?_
 rotate_left
 · (intro w' hSw; clear hSw; go_simp; first | done | with_reducible rfl)
 try simp only [Act.put, List.setIfInBounds_toArray, List.set_cons_zero, List.set_cons_succ]
 refine take_l 8 (v := ?_) rfl (by kernel_rfl) (by kernel_rfl) (by kernel_rfl) (fun _ _ _ h => h) (Or.inl ⟨by rfl, ?_⟩) (by assumption) ?_
 rotate_left
 · (intro w' hSw; clear hSw; go_simp; first | done | with_reducible rfl)
 try simp only [Act.put, List.setIfInBounds_toArray, List.set_cons_zero, List.set_cons_succ]
 refine take_l 9 (v := ?_) rfl (by kernel_rfl) (by kernel_rfl) (by kernel_rfl) (fun _ _ _ h => h) (Or.inl ⟨by rfl, ?_⟩) (by assumption) ?_
 rotate_left
 · (intro w' hSw; (have kq := O2 _ hSw); clear hSw; go_simp; first | done | with_reducible rfl)
 try simp only [Act.put, List.setIfInBounds_toArray, List.set_cons_zero, List.set_cons_succ]
 refine take_l 10 (v := ?_) rfl (by kernel_rfl) (by kernel_rfl) (by kernel_rfl) (fun _ _ _ h => h) (Or.inl ⟨by rfl, ?_⟩) (by assumption) ?_
 rotate_left
 · (intro w' hSw; clear hSw; go_simp; first | done | with_reducible rfl)
 try simp only [Act.put, List.setIfInBounds_toArray, List.set_cons_zero, List.set_cons_succ]
 refine take_l 14 (v := ?_) rfl (by kernel_rfl) (by kernel_rfl) (by kernel_rfl) (fun _ _ _ h => h) (Or.inl ⟨by rfl, ?_⟩) (by assumption) ?_
 rotate_left
 · (intro w' hSw; clear hSw; go_simp; first | done | with_reducible rfl)
 try simp only [Act.put, List.setIfInBounds_toArray, List.set_cons_zero, List.set_cons_succ]
 refine take_l 15 (v := ?_) rfl (by kernel_rfl) (by kernel_rfl) (by kernel_rfl) (fun _ _ _ h => h) (Or.inl ⟨by rfl, ?_⟩) (by assumption) ?_
 rotate_left
 · (intro w' hSw; (have kq := O3 _ hSw); clear hSw; go_simp; first | done | with_reducible rfl)
 try simp only [Act.put, List.setIfInBounds_toArray, List.set_cons_zero, List.set_cons_succ]
 refine take_l 16 (v := ?_) rfl (by kernel_rfl) (by kernel_rfl) (by kernel_rfl) (fun _ _ _ h => h) (Or.inl ⟨by rfl, ?_⟩) (by assumption) ?_
 rotate_left
 · (intro w' hSw; clear hSw; go_simp; first | done | with_reducible rfl)
 try simp only [Act.put, List.setIfInBounds_toArray, List.set_cons_zero, List.set_cons_succ]
 generalize V.drew = W0 at *
 refine cons_l 3 rfl (by kernel_rfl) (fun K hK => ?_)
 go_simp
 refine (D1V.out W0 hSW0).mono ?_; rintro _ W1 ⟨rfl, hbW1⟩
 have hSW1 : Below V.heap.size V W1 := hSW0.trans (hbW1.mono hSW0.size)
 clear hbW1
 go_simp
 refine hK.out _ _ hSW1 (fun hHeld => ?_)
 clear hK K
 try simp only [Act.put, List.setIfInBounds_toArray, List.set_cons_zero, List.set_cons_succ]
 refine take_l 4 (v := ?_) rfl (by kernel_rfl) (by kernel_rfl) (by kernel_rfl) (fun _ _ _ h => h) (Or.inl ⟨by rfl, ?_⟩) (by assumption) ?_
 rotate_left
 · (intro w' hSw; clear hSw; go_simp; first | done | with_reducible rfl)
 try simp only [Act.put, List.setIfInBounds_toArray, List.set_cons_zero, List.set_cons_succ]
 refine take_l 6 (v := ?_) rfl (by kernel_rfl) (by kernel_rfl) (by kernel_rfl) (fun _ _ _ h => h) (Or.inl ⟨by rfl, ?_⟩) (by assumption) ?_
 rotate_left
 · (intro w' hSw; clear hSw; go_simp; first | done | with_reducible rfl)
 try simp only [Act.put, List.setIfInBounds_toArray, List.set_cons_zero, List.set_cons_succ]
 refine take_l 7 (v := ?_) rfl (by kernel_rfl) (by kernel_rfl) (by kernel_rfl) (fun _ _ _ h => h) (Or.inl ⟨by rfl, ?_⟩) (by assumption) ?_
 rotate_left
 · (intro w' hSw; clear hSw; go_simp; first | done | with_reducible rfl)
 try simp only [Act.put, List.setIfInBounds_toArray, List.set_cons_zero, List.set_cons_succ]
 refine cons_l 11 rfl (by kernel_rfl) (fun K hK => ?_)
 go_simp
 refine (D3V.out W1 hSW1).mono ?_; rintro _ W2 ⟨rfl, hbW2⟩
 have hSW2 : Below V.heap.size V W2 := hSW1.trans (hbW2.mono hSW1.size)
 clear hbW2
 go_simp
 refine hK.out _ _ hSW2 (fun hHeld => ?_)
 clear hK K
 try simp only [Act.put, List.setIfInBounds_toArray, List.set_cons_zero, List.set_cons_succ]
 refine take_l 12 (v := ?_) rfl (by kernel_rfl) (by kernel_rfl) (by kernel_rfl) (fun _ _ _ h => h) (Or.inl ⟨by rfl, ?_⟩) (by assumption) ?_
 rotate_left
 · (intro w' hSw; clear hSw; go_simp; first | done | with_reducible rfl)
 try simp only [Act.put, List.setIfInBounds_toArray, List.set_cons_zero, List.set_cons_succ]
 refine take_l 13 (v := ?_) rfl (by kernel_rfl) (by kernel_rfl) (by kernel_rfl) (fun _ _ _ h => h) (Or.inl ⟨by rfl, ?_⟩) (by assumption) ?_
 rotate_left
 · (intro w' hSw; clear hSw; go_simp; first | done | with_reducible rfl)
 try simp only [Act.put, List.setIfInBounds_toArray, List.set_cons_zero, List.set_cons_succ]
 refine cons_l 17 rfl (by kernel_rfl) (fun K hK => ?_)
 go_simp
 refine (D4V.out W2 hSW2).mono ?_; rintro _ W3 ⟨rfl, hbW3⟩
 have hSW3 : Below V.heap.size V W3 := hSW2.trans (hbW3.mono hSW2.size)
 clear hbW3
 go_simp
 refine hK.out _ _ hSW3 (fun hHeld => ?_)
 clear hK K
 try simp only [Act.put, List.setIfInBounds_toArray, List.set_cons_zero, List.set_cons_succ]
 refine take_l 18 (v := ?_) rfl (by kernel_rfl) (by kernel_rfl) (by kernel_rfl) (fun _ _ _ h => h) (Or.inl ⟨by rfl, ?_⟩) (by assumption) ?_
 rotate_left
 · (intro w' hSw; clear hSw; go_simp; first | done | with_reducible rfl)
 try simp only [Act.put, List.setIfInBounds_toArray, List.set_cons_zero, List.set_cons_succ]
 refine take_l 19 (v := ?_) rfl (by kernel_rfl) (by kernel_rfl) (by kernel_rfl) (fun _ _ _ h => h) (Or.inl ⟨by rfl, ?_⟩) (by assumption) ?_
 rotate_left
 · (intro w' hSw; clear hSw; go_simp; first | done | with_reducible rfl)
 try simp only [Act.put, List.setIfInBounds_toArray, List.set_cons_zero, List.set_cons_succ]
 refine take_l 20 (v := ?_) rfl (by kernel_rfl) (by kernel_rfl) (by kernel_rfl) (fun _ _ _ h => h) (Or.inl ⟨by rfl, ?_⟩) (by assumption) ?_
 rotate_left
 · (intro w' hSw; clear hSw; go_simp; first | done | with_reducible rfl)
 try simp only [Act.put, List.setIfInBounds_toArray, List.set_cons_zero, List.set_cons_succ]
 refine wpAnyH_done (by kernel_rfl) ?_ _
 rw [show (a1 ++ ⟨#[32]⟩ ++ ⟨#[102, 105, 108, 101]⟩ ++ ⟨#[32]⟩ ++ a3 ++ ⟨#[32]⟩ ++ a4 ++ ⟨#[32]⟩ : ByteArray) = headB a1 ⟨#[102, 105, 108, 101]⟩ a3 a4 from rfl]
 have u1 := O1 W3 hSW3
 have u4 := O4 W3 hSW3
 have u5 := O5 W3 hSW3
 have B3 := hid (B2.out.trans (hSW3.mono B2.out.size))
 have hW4 : (⟨#[102, 105, 108, 101]⟩ : ByteArray).size ≤ 4 := by decide
 have hH : (headB a1 ⟨#[102, 105, 108, 101]⟩ a3 a4).size ≤ 200 := by rw [headB_size]; omega
 clear hW4
 obtain ⟨H, hHe⟩ : ∃ H, Hid (H = headB a1 ⟨#[102, 105, 108, 101]⟩ a3 a4) := ⟨_, hid rfl⟩
 rw [← hHe.out] at hH ⊢
 clear O0 O1 O2 O3 O4 O5 hSW0 hSW1 hSW2 D1V D3V D4V
 have cv := conv_L (pc := dc) (IB.out W3 B3.out)
 have b2 : (((1 : Int)) != 2) = true := by decide
 have QC := hid (rquote_c (Fr.tx zs) W3 (by rw [txs_size]; omega))
 have QL := (quote_len (Fr.tx zs).data.toList).2
 have eL : (Fr.tx zs).data.toList.length = (Fr.tx zs).size := rfl
 rw [txs_size] at eL
 obtain ⟨Q, hQ⟩ : ∃ Q : ByteArray, Q = ⟨(quoteL (Fr.tx zs).data.toList).toArray⟩ := ⟨_, rfl⟩
 have hQs : Q.size ≤ 1000 := by rw [hQ, ba_size]; omega
 rw [← hQ] at QC
 have LE : Hid ((⟨(lineL ⟨f, 1, m, l, da, dc, zs, ka, kc, ks⟩).toArray⟩ : ByteArray) = H ++ Q) := hid (ba_ext (by rw [hHe.out, line_head, hQ, h1.out, h3.out, h4.out]; rfl))
 have q9 : ¬ 9223372036854775807 < H.size + Q.size := by omega
 clear eL QL hQ hQs
 go_wp2_with (go_at_call 13; refine QC.out.mono ?_; rintro _ w9 ⟨rfl, hb9⟩; have B9 := hid (B3.out.trans (hb9.mono B3.out.size)); clear hb9)
 refine bodyPost_ret (v := .tuple #[.string (H ++ Q), .int .i64 0]) (by simp [results, Tryd.results15, go_sem]) rfl ⟨by rw [LE.out], B9.out⟩
set_option maxHeartbeats 8000000 in
theorem rline_2 (f m l : Int) (da : Option Addr) (dc : Nat) (zs : List Int) (ka : Option Addr) (kc : Nat) (ks : List Kd) (w : World) (hx : Nd.Ok w ⟨f, 2, m, l, da, dc, zs, ka, kc, ks⟩) (hr : nodeOk ⟨f, 2, m, l, da, dc, zs, ka, kc, ks⟩ = true) (ht : TabW w) : Calls Tryd.prog 15 #[Nd.val ⟨f, 2, m, l, da, dc, zs, ka, kc, ks⟩] w fun e w' => e = .returned (.tuple #[.string ⟨(lineL ⟨f, 2, m, l, da, dc, zs, ka, kc, ks⟩).toArray⟩, .int .i64 0]) ∧ Below w.heap.size w w' := by
 have hb := below_1 w (.cells #[.int .u32 f, .int .u8 2, .int .u16 m, .int .u16 l, .slice da zs.length dc, .slice ka ks.length kc] 35)
 have hB := heap_alloc_new w (.cells #[.int .u32 f, .int .u8 2, .int .u16 m, .int .u16 l, .slice da zs.length dc, .slice ka ks.length kc] 35)
 have AC := hid (alone_c ⟨f, 2, m, l, da, dc, zs, ka, kc, ks⟩ (w.alloc (.cells #[.int .u32 f, .int .u8 2, .int .u16 m, .int .u16 l, .slice da zs.length dc, .slice ka ks.length kc] 35)) (hx.later hb))
 rw [hr] at AC
 obtain ⟨z1, z2, z3⟩ := node_small hr
 simp only at z1 z2 z3
 obtain ⟨⟨f0, f1⟩, _, ⟨m0, m1⟩, ⟨l0, l1⟩, hIB, hIK⟩ := hx
 simp only at f0 f1 m0 m1 l0 l1 hIB hIK
 have y0 : (w.alloc (.cells #[.int .u32 f, .int .u8 2, .int .u16 m, .int .u16 l, .slice da zs.length dc, .slice ka ks.length kc] 35)).cell? ⟨w.heap.size, 0, none⟩ = some (.int .u32 f) := cell_of_row2 hB 0 rfl
 have y1 : (w.alloc (.cells #[.int .u32 f, .int .u8 2, .int .u16 m, .int .u16 l, .slice da zs.length dc, .slice ka ks.length kc] 35)).cell? ⟨w.heap.size, 1, none⟩ = some (.int .u8 2) := cell_of_row2 hB 1 rfl
 have y2 : (w.alloc (.cells #[.int .u32 f, .int .u8 2, .int .u16 m, .int .u16 l, .slice da zs.length dc, .slice ka ks.length kc] 35)).cell? ⟨w.heap.size, 2, none⟩ = some (.int .u16 m) := cell_of_row2 hB 2 rfl
 have y3 : (w.alloc (.cells #[.int .u32 f, .int .u8 2, .int .u16 m, .int .u16 l, .slice da zs.length dc, .slice ka ks.length kc] 35)).cell? ⟨w.heap.size, 3, none⟩ = some (.int .u16 l) := cell_of_row2 hB 3 rfl
 have y4 : (w.alloc (.cells #[.int .u32 f, .int .u8 2, .int .u16 m, .int .u16 l, .slice da zs.length dc, .slice ka ks.length kc] 35)).cell? ⟨w.heap.size, 4, none⟩ = some (.slice da zs.length dc) := cell_of_row2 hB 4 rfl
 have y5 : (w.alloc (.cells #[.int .u32 f, .int .u8 2, .int .u16 m, .int .u16 l, .slice da zs.length dc, .slice ka ks.length kc] 35)).cell? ⟨w.heap.size, 5, none⟩ = some (.slice ka ks.length kc) := cell_of_row2 hB 5 rfl
 have B0 := hid hb
 have HB := hid hB
 have IB := hid (fun W (h : Below w.heap.size w W) => hIB.later h)
 have IK := hid (fun W (h : Below w.heap.size w W) => hIK.later h)
 have KW := hid hIK.2.1
 have Z3 := hid z3
 have TW := hid ht
 obtain ⟨a1, h1⟩ : ∃ a, Hid (a = decB f.toNat) := ⟨_, hid rfl⟩
 obtain ⟨a3, h3⟩ : ∃ a, Hid (a = decB m.toNat) := ⟨_, hid rfl⟩
 obtain ⟨a4, h4⟩ : ∃ a, Hid (a = decB l.toNat) := ⟨_, hid rfl⟩
 have t1 : a1.size ≤ 20 := by rw [h1.out]; exact decB_size (by omega)
 have t3 : a3.size ≤ 20 := by rw [h3.out]; exact decB_size (by omega)
 have t4 : a4.size ≤ 20 := by rw [h4.out]; exact decB_size (by omega)
 have D1 : Hid (∀ W, Below w.heap.size w W → Calls Tryd.prog 35 #[.int .u64 f, .int .i64 10] W fun e w' => e = .returned (.string a1) ∧ Below W.heap.size W w') := hid (fun W hW => by
   have := fmtP_c f.toNat (by omega) W (ht.later hW)
   rw [Int.toNat_of_nonneg f0, ← h1.out] at this
   exact this)
 have D3 : Hid (∀ W, Below w.heap.size w W → Calls Tryd.prog 36 #[.int .i64 m] W fun e w' => e = .returned (.string a3) ∧ Below W.heap.size W w') := hid (fun W hW => by
   have := itoa_c m.toNat (by omega) W (ht.later hW)
   rw [Int.toNat_of_nonneg m0, ← h3.out] at this
   exact this)
 have D4 : Hid (∀ W, Below w.heap.size w W → Calls Tryd.prog 36 #[.int .i64 l] W fun e w' => e = .returned (.string a4) ∧ Below W.heap.size W w') := hid (fun W hW => by
   have := itoa_c l.toNat (by omega) W (ht.later hW)
   rw [Int.toNat_of_nonneg l0, ← h4.out] at this
   exact this)
 have wf : IntKind.u64.wrap f = f := by rw [IntKind.wrap_u64]; omega
 have wm : IntKind.i64.wrap m = m := by rw [IntKind.wrap_i64]; omega
 have wl : IntKind.i64.wrap l = l := by rw [IntKind.wrap_i64]; omega
 have p0 : ¬ 9223372036854775807 < a1.size + 1 := by omega
 have p1 : ¬ 9223372036854775807 < a1.size + 1 + 3 := by omega
 have p2 : ¬ 9223372036854775807 < a1.size + 1 + 3 + 1 := by omega
 have p3 : ¬ 9223372036854775807 < a1.size + 1 + 3 + 1 + a3.size := by omega
 have p4 : ¬ 9223372036854775807 < a1.size + 1 + 3 + 1 + a3.size + 1 := by omega
 have p5 : ¬ 9223372036854775807 < a1.size + 1 + 3 + 1 + a3.size + 1 + a4.size := by omega
 have p6 : ¬ 9223372036854775807 < a1.size + 1 + 3 + 1 + a3.size + 1 + a4.size + 1 := by omega
 clear hb hB hr hIB hIK z3 ht
 unfold Nd.val at *
 simp only at *
 go_enter Tryd.func15, Tryd.ntmps15
 go_upto_region 3 with (go_at_call 34; refine AC.out.mono ?_; rintro _ w1 ⟨rfl, hb1⟩; have B1 := hid (B0.out.trans (hb1.mono B0.out.size)); have HB1 := hid ((hb1.block _ (lt_blkR HB.out)).trans HB.out); clear hb1)
 have b2 := below_1 w1 (.cells #[.string ⟨#[]⟩, .string ⟨#[102, 105, 108, 101]⟩, .string ⟨#[100, 105, 114]⟩, .string ⟨#[108, 105, 110, 107]⟩] 9)
 have hB2 := heap_alloc_new w1 (.cells #[.string ⟨#[]⟩, .string ⟨#[102, 105, 108, 101]⟩, .string ⟨#[100, 105, 114]⟩, .string ⟨#[108, 105, 110, 107]⟩] 9)
 have s2 : (w1.alloc (.cells #[.string ⟨#[]⟩, .string ⟨#[102, 105, 108, 101]⟩, .string ⟨#[100, 105, 114]⟩, .string ⟨#[108, 105, 110, 107]⟩] 9)).cell? ⟨w1.heap.size, 2, none⟩ = some (.string ⟨#[100, 105, 114]⟩) := cell_of_row2 hB2 2 rfl
 have HB2 := (b2.block _ (lt_blkR HB1.out)).trans HB1.out
 have kk : (w1.alloc (.cells #[.string ⟨#[]⟩, .string ⟨#[102, 105, 108, 101]⟩, .string ⟨#[100, 105, 114]⟩, .string ⟨#[108, 105, 110, 107]⟩] 9)).cell? ⟨w.heap.size, 1, none⟩ = some (.int .u8 2) := cell_of_row2 HB2 1 rfl
 have B2 := hid (B1.out.trans (b2.mono B1.out.size))
 go_upto_region 4 with fail
 generalize w1.alloc (.cells #[.string ⟨#[]⟩, .string ⟨#[102, 105, 108, 101]⟩, .string ⟨#[100, 105, 114]⟩, .string ⟨#[108, 105, 110, 107]⟩] 9) = V at *
 have O0 : ∀ w' : World, Below V.heap.size V w' → w'.cell? ⟨w.heap.size, 0, none⟩ = some (.int .u32 f) := fun w' h => cell_later h (cell_of_row2 HB2 0 rfl)
 have O1 : ∀ w' : World, Below V.heap.size V w' → w'.cell? ⟨w.heap.size, 1, none⟩ = some (.int .u8 2) := fun w' h => cell_later h (cell_of_row2 HB2 1 rfl)
 have O2 : ∀ w' : World, Below V.heap.size V w' → w'.cell? ⟨w.heap.size, 2, none⟩ = some (.int .u16 m) := fun w' h => cell_later h (cell_of_row2 HB2 2 rfl)
 have O3 : ∀ w' : World, Below V.heap.size V w' → w'.cell? ⟨w.heap.size, 3, none⟩ = some (.int .u16 l) := fun w' h => cell_later h (cell_of_row2 HB2 3 rfl)
 have O4 : ∀ w' : World, Below V.heap.size V w' → w'.cell? ⟨w.heap.size, 4, none⟩ = some (.slice da zs.length dc) := fun w' h => cell_later h (cell_of_row2 HB2 4 rfl)
 have O5 : ∀ w' : World, Below V.heap.size V w' → w'.cell? ⟨w.heap.size, 5, none⟩ = some (.slice ka ks.length kc) := fun w' h => cell_later h (cell_of_row2 HB2 5 rfl)
 have D1V := hid (fun W (h : Below V.heap.size V W) => D1.out W (B2.out.trans (h.mono B2.out.size)))
 have D3V := hid (fun W (h : Below V.heap.size V W) => D3.out W (B2.out.trans (h.mono B2.out.size)))
 have D4V := hid (fun W (h : Below V.heap.size V W) => D4.out W (B2.out.trans (h.mono B2.out.size)))
 clear b2 hB2 s2 HB2 kk
 go_wp2_with fail
 have hSW0 : Below V.heap.size V V.drew := Below.drew (Below.refl _ _)
 refine wp_region_held_drew (S := fun w' => Below V.heap.size V w') (by kernel_rfl) hSW0 (fun hHeld => ?_)
 refine take_l 0 (v := ?_) rfl (by kernel_rfl) (by kernel_rfl) (by kernel_rfl) (fun _ _ _ h => h) (Or.inl ⟨by rfl, ?_⟩) (by assumption) ?_
 rotate_left
 · (intro w' hSw; clear hSw; go_simp; first | done | with_reducible rfl)
 try simp only [Act.put, List.setIfInBounds_toArray, List.set_cons_zero, List.set_cons_succ]
 refine take_l 1 (v := ?_) rfl (by kernel_rfl) (by kernel_rfl) (by kernel_rfl) (fun _ _ _ h => h) (Or.inl ⟨by rfl, ?_⟩) (by assumption) ?_
 rotate_left
 · (intro w' hSw; (have kq := O0 _ hSw); clear hSw; go_simp; first | done | with_reducible rfl)
 try simp only [Act.put, List.setIfInBounds_toArray, List.set_cons_zero, List.set_cons_succ]
 refine take_l 2 (v := ?_) rfl (by kernel_rfl) (by kernel_rfl) (by kernel_rfl) (fun _ _ _ h => h) (Or.inl ⟨by rfl, ?_⟩) (by assumption) ?_
 rotate_left
 · (intro w' hSw; clear hSw; go_simp; first | done | with_reducible rfl)
 try simp only [Act.put, List.setIfInBounds_toArray, List.set_cons_zero, List.set_cons_succ]
 refine take_l 5 (v := ?_) rfl (by kernel_rfl) (by kernel_rfl) (by kernel_rfl) (fun _ _ _ h => h) (Or.inl ⟨by rfl, ?_⟩) (by assumption) ?_
 rotate_left
 · (intro w' hSw; clear hSw; go_simp; first | done | with_reducible rfl)
 try simp only [Act.put, List.setIfInBounds_toArray, List.set_cons_zero, List.set_cons_succ]
 refine take_l 8 (v := ?_) rfl (by kernel_rfl) (by kernel_rfl) (by kernel_rfl) (fun _ _ _ h => h) (Or.inl ⟨by rfl, ?_⟩) (by assumption) ?_
 rotate_left
 · (intro w' hSw; clear hSw; go_simp; first | done | with_reducible rfl)
 try simp only [Act.put, List.setIfInBounds_toArray, List.set_cons_zero, List.set_cons_succ]
 refine take_l 9 (v := ?_) rfl (by kernel_rfl) (by kernel_rfl) (by kernel_rfl) (fun _ _ _ h => h) (Or.inl ⟨by rfl, ?_⟩) (by assumption) ?_
 rotate_left
 · (intro w' hSw; (have kq := O2 _ hSw); clear hSw; go_simp; first | done | with_reducible rfl)
 try simp only [Act.put, List.setIfInBounds_toArray, List.set_cons_zero, List.set_cons_succ]
 refine take_l 10 (v := ?_) rfl (by kernel_rfl) (by kernel_rfl) (by kernel_rfl) (fun _ _ _ h => h) (Or.inl ⟨by rfl, ?_⟩) (by assumption) ?_
 rotate_left
 · (intro w' hSw; clear hSw; go_simp; first | done | with_reducible rfl)
 try simp only [Act.put, List.setIfInBounds_toArray, List.set_cons_zero, List.set_cons_succ]
 refine take_l 14 (v := ?_) rfl (by kernel_rfl) (by kernel_rfl) (by kernel_rfl) (fun _ _ _ h => h) (Or.inl ⟨by rfl, ?_⟩) (by assumption) ?_
 rotate_left
 · (intro w' hSw; clear hSw; go_simp; first | done | with_reducible rfl)
 try simp only [Act.put, List.setIfInBounds_toArray, List.set_cons_zero, List.set_cons_succ]
 refine take_l 15 (v := ?_) rfl (by kernel_rfl) (by kernel_rfl) (by kernel_rfl) (fun _ _ _ h => h) (Or.inl ⟨by rfl, ?_⟩) (by assumption) ?_
 rotate_left
 · (intro w' hSw; (have kq := O3 _ hSw); clear hSw; go_simp; first | done | with_reducible rfl)
 try simp only [Act.put, List.setIfInBounds_toArray, List.set_cons_zero, List.set_cons_succ]
 refine take_l 16 (v := ?_) rfl (by kernel_rfl) (by kernel_rfl) (by kernel_rfl) (fun _ _ _ h => h) (Or.inl ⟨by rfl, ?_⟩) (by assumption) ?_
 rotate_left
 · (intro w' hSw; clear hSw; go_simp; first | done | with_reducible rfl)
 try simp only [Act.put, List.setIfInBounds_toArray, List.set_cons_zero, List.set_cons_succ]
 generalize V.drew = W0 at *
 refine cons_l 3 rfl (by kernel_rfl) (fun K hK => ?_)
 go_simp
 refine (D1V.out W0 hSW0).mono ?_; rintro _ W1 ⟨rfl, hbW1⟩
 have hSW1 : Below V.heap.size V W1 := hSW0.trans (hbW1.mono hSW0.size)
 clear hbW1
 go_simp
 refine hK.out _ _ hSW1 (fun hHeld => ?_)
 clear hK K
 try simp only [Act.put, List.setIfInBounds_toArray, List.set_cons_zero, List.set_cons_succ]
 refine take_l 4 (v := ?_) rfl (by kernel_rfl) (by kernel_rfl) (by kernel_rfl) (fun _ _ _ h => h) (Or.inl ⟨by rfl, ?_⟩) (by assumption) ?_
 rotate_left
 · (intro w' hSw; clear hSw; go_simp; first | done | with_reducible rfl)
 try simp only [Act.put, List.setIfInBounds_toArray, List.set_cons_zero, List.set_cons_succ]
 refine take_l 6 (v := ?_) rfl (by kernel_rfl) (by kernel_rfl) (by kernel_rfl) (fun _ _ _ h => h) (Or.inl ⟨by rfl, ?_⟩) (by assumption) ?_
 rotate_left
 · (intro w' hSw; clear hSw; go_simp; first | done | with_reducible rfl)
 try simp only [Act.put, List.setIfInBounds_toArray, List.set_cons_zero, List.set_cons_succ]
 refine take_l 7 (v := ?_) rfl (by kernel_rfl) (by kernel_rfl) (by kernel_rfl) (fun _ _ _ h => h) (Or.inl ⟨by rfl, ?_⟩) (by assumption) ?_
 rotate_left
 · (intro w' hSw; clear hSw; go_simp; first | done | with_reducible rfl)
 try simp only [Act.put, List.setIfInBounds_toArray, List.set_cons_zero, List.set_cons_succ]
 refine cons_l 11 rfl (by kernel_rfl) (fun K hK => ?_)
 go_simp
 refine (D3V.out W1 hSW1).mono ?_; rintro _ W2 ⟨rfl, hbW2⟩
 have hSW2 : Below V.heap.size V W2 := hSW1.trans (hbW2.mono hSW1.size)
 clear hbW2
 go_simp
 refine hK.out _ _ hSW2 (fun hHeld => ?_)
 clear hK K
 try simp only [Act.put, List.setIfInBounds_toArray, List.set_cons_zero, List.set_cons_succ]
 refine take_l 12 (v := ?_) rfl (by kernel_rfl) (by kernel_rfl) (by kernel_rfl) (fun _ _ _ h => h) (Or.inl ⟨by rfl, ?_⟩) (by assumption) ?_
 rotate_left
 · (intro w' hSw; clear hSw; go_simp; first | done | with_reducible rfl)
 try simp only [Act.put, List.setIfInBounds_toArray, List.set_cons_zero, List.set_cons_succ]
 refine take_l 13 (v := ?_) rfl (by kernel_rfl) (by kernel_rfl) (by kernel_rfl) (fun _ _ _ h => h) (Or.inl ⟨by rfl, ?_⟩) (by assumption) ?_
 rotate_left
 · (intro w' hSw; clear hSw; go_simp; first | done | with_reducible rfl)
 try simp only [Act.put, List.setIfInBounds_toArray, List.set_cons_zero, List.set_cons_succ]
 refine cons_l 17 rfl (by kernel_rfl) (fun K hK => ?_)
 go_simp
 refine (D4V.out W2 hSW2).mono ?_; rintro _ W3 ⟨rfl, hbW3⟩
 have hSW3 : Below V.heap.size V W3 := hSW2.trans (hbW3.mono hSW2.size)
 clear hbW3
 go_simp
 refine hK.out _ _ hSW3 (fun hHeld => ?_)
 clear hK K
 try simp only [Act.put, List.setIfInBounds_toArray, List.set_cons_zero, List.set_cons_succ]
 refine take_l 18 (v := ?_) rfl (by kernel_rfl) (by kernel_rfl) (by kernel_rfl) (fun _ _ _ h => h) (Or.inl ⟨by rfl, ?_⟩) (by assumption) ?_
 rotate_left
 · (intro w' hSw; clear hSw; go_simp; first | done | with_reducible rfl)
 try simp only [Act.put, List.setIfInBounds_toArray, List.set_cons_zero, List.set_cons_succ]
 refine take_l 19 (v := ?_) rfl (by kernel_rfl) (by kernel_rfl) (by kernel_rfl) (fun _ _ _ h => h) (Or.inl ⟨by rfl, ?_⟩) (by assumption) ?_
 rotate_left
 · (intro w' hSw; clear hSw; go_simp; first | done | with_reducible rfl)
 try simp only [Act.put, List.setIfInBounds_toArray, List.set_cons_zero, List.set_cons_succ]
 refine take_l 20 (v := ?_) rfl (by kernel_rfl) (by kernel_rfl) (by kernel_rfl) (fun _ _ _ h => h) (Or.inl ⟨by rfl, ?_⟩) (by assumption) ?_
 rotate_left
 · (intro w' hSw; clear hSw; go_simp; first | done | with_reducible rfl)
 try simp only [Act.put, List.setIfInBounds_toArray, List.set_cons_zero, List.set_cons_succ]
 refine wpAnyH_done (by kernel_rfl) ?_ _
 rw [show (a1 ++ ⟨#[32]⟩ ++ ⟨#[100, 105, 114]⟩ ++ ⟨#[32]⟩ ++ a3 ++ ⟨#[32]⟩ ++ a4 ++ ⟨#[32]⟩ : ByteArray) = headB a1 ⟨#[100, 105, 114]⟩ a3 a4 from rfl]
 have u1 := O1 W3 hSW3
 have u4 := O4 W3 hSW3
 have u5 := O5 W3 hSW3
 have B3 := hid (B2.out.trans (hSW3.mono B2.out.size))
 have hW4 : (⟨#[100, 105, 114]⟩ : ByteArray).size ≤ 4 := by decide
 have hH : (headB a1 ⟨#[100, 105, 114]⟩ a3 a4).size ≤ 200 := by rw [headB_size]; omega
 clear hW4
 obtain ⟨H, hHe⟩ : ∃ H, Hid (H = headB a1 ⟨#[100, 105, 114]⟩ a3 a4) := ⟨_, hid rfl⟩
 rw [← hHe.out] at hH ⊢
 clear O0 O1 O2 O3 O4 O5 hSW0 hSW1 hSW2 D1V D3V D4V
 have hK2 : ¬ ((2 : Int) != 2) = true := by decide
 go_wp2
 go_loopg [6, 7] ks.length (fun gk v6 v7 wr => ∃ (i : Nat) (S : ByteArray), i + gk = ks.length ∧ v7 = .int .i64 i ∧ v6 = .string S ∧ Hid (S.data.toList = Lib.join ((ks.take i).map fun k => (kidT k).data.toList) [44]) ∧ S.size ≤ i * 1022 ∧ Hid (Below w.heap.size w wr) ∧ Hid (wr.cell? ⟨w.heap.size, 5, none⟩ = some (.slice ka ks.length kc)))
 case atStart => exact ⟨0, ⟨#[]⟩, by omega, rfl, rfl, hid rfl, Nat.zero_le _, B3, hid u5⟩
 case round =>
   clear B3 u1 u4 u5
   obtain ⟨i, S, hi, rfl, rfl, SX, hSs, BX, U5⟩ := hrel
   have v5 := U5.out
   have hi12 : i * 1022 ≤ 12 * 1022 := Nat.mul_le_mul_right _ (by omega)
   by_cases hlt : i < ks.length
   · have hltI : (i : Int) < ks.length := by omega
     obtain ⟨b', off, hka, hc⟩ := (IK.out wr BX.out).2.2 (by omega)
     subst hka
     obtain ⟨c0, c1⟩ := hc i hlt
     have hmem := getD_mem ks Kd.no hlt
     have hwf := KW.out _ hmem
     have hns : (ks.getD i Kd.no).nm.size ≤ 1000 := by have := Z3.out _ hmem; omega
     have JS := hid (join_snoc ks (fun k : Kd => (kidT k).data.toList) (d := Kd.no) hlt)
     clear hc hmem
     generalize ks.getD i Kd.no = y at *
     have hks := kidT_size hns hwf
     obtain ⟨Fd, hFi, hFn⟩ : ∃ Fd : Nat, (Fd : Int) = y.fid ∧ Hid (decB Fd = decB y.fid.toNat) := ⟨y.fid.toNat, by have := hwf.2.1; omega, hid rfl⟩
     have hFb : Fd < 4294967296 := by have := hwf.2.2; omega
     have wfd : IntKind.u64.wrap y.fid = y.fid := by rw [IntKind.wrap_u64]; have := hwf.2; omega
     have hds : (decB Fd).size ≤ 20 := decB_size hFb
     obtain ⟨dd, hdd⟩ : ∃ dd, Hid (dd = decB Fd) := ⟨_, hid rfl⟩
     rw [← hdd.out] at hds
     have O5 : ∀ w' : World, Below wr.heap.size wr w' → w'.cell? ⟨w.heap.size, 5, none⟩ = some (.slice (some ⟨b', off, none⟩) ks.length kc) := fun w' h => cell_later h v5
     have N0 : ∀ w' : World, Below wr.heap.size wr w' → w'.cell? ⟨b', off + i * 2, none⟩ = some (.string y.nm) := fun w' h => cell_later h c0
     have N1 : ∀ w' : World, Below wr.heap.size wr w' → w'.cell? ⟨b', off + i * 2 + 1, none⟩ = some (.int .u32 y.fid) := fun w' h => cell_later h c1
     have r1 : ¬ 9223372036854775807 < y.nm.size + 1 := by omega
     have r2 : ¬ 9223372036854775807 < y.nm.size + 1 + dd.size := by omega
     have r3 : ¬ 9223372036854775807 < S.size + (y.nm.size + 1 + dd.size) := by omega
     have r4 : ¬ 9223372036854775807 < S.size + 1 := by omega
     have r5 : ¬ 9223372036854775807 < S.size + 1 + (y.nm.size + 1 + dd.size) := by omega
     have KT : Hid (y.nm ++ ⟨#[61]⟩ ++ dd = kidT y) := hid (by rw [hdd.out, hFn.out]; rfl)
     have HKS := hid hks
     clear hwf hks hFn
     by_cases hi0 : i = 0
     · subst hi0
       have JS1 := JS.out
       rw [if_pos rfl] at JS1
       have JS2 := hid JS1
       clear JS JS1
       have g0 : ¬ (0 : Int) < 0 := by omega
       have N0' := N0
       have N1' := N1
       simp only [Nat.zero_mul, Nat.add_zero] at N0 N1
       go_upto_region 13 with fail
       go_wp2_with fail
       have hSX0 : Below wr.heap.size wr wr.drew := Below.drew (Below.refl _ _)
       refine wp_region_held_drew (S := fun w' => Below wr.heap.size wr w') (by kernel_rfl) hSX0 (fun hHeld => ?_)
       refine take_l 0 (v := ?_) rfl (by kernel_rfl) (by kernel_rfl) (by kernel_rfl) (fun _ _ _ h => h) (Or.inl ⟨by rfl, ?_⟩) (by assumption) ?_
       rotate_left
       · (intro w' hSw; clear hSw; go_simp; first | done | with_reducible rfl)
       try simp only [Act.put, List.setIfInBounds_toArray, List.set_cons_zero, List.set_cons_succ]
       refine take_l 1 (v := ?_) rfl (by kernel_rfl) (by kernel_rfl) (by kernel_rfl) (fun _ _ _ h => h) (Or.inl ⟨by rfl, ?_⟩) (by assumption) ?_
       rotate_left
       · (intro w' hSw; clear hSw; go_simp; first | done | with_reducible rfl)
       try simp only [Act.put, List.setIfInBounds_toArray, List.set_cons_zero, List.set_cons_succ]
       refine take_l 2 (v := ?_) rfl (by kernel_rfl) (by kernel_rfl) (by kernel_rfl) (fun _ _ _ h => h) (Or.inl ⟨by rfl, ?_⟩) (by assumption) ?_
       rotate_left
       · (intro w' hSw; (have kq := O5 _ hSw); clear hSw; go_simp; first | done | with_reducible rfl)
       try simp only [Act.put, List.setIfInBounds_toArray, List.set_cons_zero, List.set_cons_succ]
       refine take_l 3 (v := ?_) rfl (by kernel_rfl) (by kernel_rfl) (by kernel_rfl) (fun _ _ _ h => h) (Or.inl ⟨by rfl, ?_⟩) (by assumption) ?_
       rotate_left
       · (intro w' hSw; clear hSw; go_simp; first | done | with_reducible rfl)
       try simp only [Act.put, List.setIfInBounds_toArray, List.set_cons_zero, List.set_cons_succ]
       refine take_l 4 (v := ?_) rfl (by kernel_rfl) (by kernel_rfl) (by kernel_rfl) (fun _ _ _ h => h) (Or.inl ⟨by rfl, ?_⟩) (by assumption) ?_
       rotate_left
       · (intro w' hSw; clear hSw; go_simp; first | done | with_reducible rfl)
       try simp only [Act.put, List.setIfInBounds_toArray, List.set_cons_zero, List.set_cons_succ]
       refine take_l 5 (v := ?_) rfl (by kernel_rfl) (by kernel_rfl) (by kernel_rfl) (fun _ _ _ h => h) (Or.inl ⟨by rfl, ?_⟩) (by assumption) ?_
       rotate_left
       · (intro w' hSw; clear hSw; go_simp; first | done | with_reducible rfl)
       try simp only [Act.put, List.setIfInBounds_toArray, List.set_cons_zero, List.set_cons_succ]
       refine take_l 6 (v := ?_) rfl (by kernel_rfl) (by kernel_rfl) (by kernel_rfl) (fun _ _ _ h => h) (Or.inl ⟨by rfl, ?_⟩) (by assumption) ?_
       rotate_left
       · (intro w' hSw; (have kq := N0 _ hSw); clear hSw; go_simp; first | done | with_reducible rfl)
       try simp only [Act.put, List.setIfInBounds_toArray, List.set_cons_zero, List.set_cons_succ]
       refine take_l 7 (v := ?_) rfl (by kernel_rfl) (by kernel_rfl) (by kernel_rfl) (fun _ _ _ h => h) (Or.inl ⟨by rfl, ?_⟩) (by assumption) ?_
       rotate_left
       · (intro w' hSw; clear hSw; go_simp; first | done | with_reducible rfl)
       try simp only [Act.put, List.setIfInBounds_toArray, List.set_cons_zero, List.set_cons_succ]
       refine take_l 8 (v := ?_) rfl (by kernel_rfl) (by kernel_rfl) (by kernel_rfl) (fun _ _ _ h => h) (Or.inl ⟨by rfl, ?_⟩) (by assumption) ?_
       rotate_left
       · (intro w' hSw; clear hSw; go_simp; first | done | with_reducible rfl)
       try simp only [Act.put, List.setIfInBounds_toArray, List.set_cons_zero, List.set_cons_succ]
       refine take_l 9 (v := ?_) rfl (by kernel_rfl) (by kernel_rfl) (by kernel_rfl) (fun _ _ _ h => h) (Or.inl ⟨by rfl, ?_⟩) (by assumption) ?_
       rotate_left
       · (intro w' hSw; (have kq := O5 _ hSw); clear hSw; go_simp; first | done | with_reducible rfl)
       try simp only [Act.put, List.setIfInBounds_toArray, List.set_cons_zero, List.set_cons_succ]
       refine take_l 10 (v := ?_) rfl (by kernel_rfl) (by kernel_rfl) (by kernel_rfl) (fun _ _ _ h => h) (Or.inl ⟨by rfl, ?_⟩) (by assumption) ?_
       rotate_left
       · (intro w' hSw; clear hSw; go_simp; first | done | with_reducible rfl)
       try simp only [Act.put, List.setIfInBounds_toArray, List.set_cons_zero, List.set_cons_succ]
       refine take_l 11 (v := ?_) rfl (by kernel_rfl) (by kernel_rfl) (by kernel_rfl) (fun _ _ _ h => h) (Or.inl ⟨by rfl, ?_⟩) (by assumption) ?_
       rotate_left
       · (intro w' hSw; clear hSw; go_simp; first | done | with_reducible rfl)
       try simp only [Act.put, List.setIfInBounds_toArray, List.set_cons_zero, List.set_cons_succ]
       refine take_l 12 (v := ?_) rfl (by kernel_rfl) (by kernel_rfl) (by kernel_rfl) (fun _ _ _ h => h) (Or.inl ⟨by rfl, ?_⟩) (by assumption) ?_
       rotate_left
       · (intro w' hSw; clear hSw; go_simp; first | done | with_reducible rfl)
       try simp only [Act.put, List.setIfInBounds_toArray, List.set_cons_zero, List.set_cons_succ]
       refine take_l 13 (v := ?_) rfl (by kernel_rfl) (by kernel_rfl) (by kernel_rfl) (fun _ _ _ h => h) (Or.inl ⟨by rfl, ?_⟩) (by assumption) ?_
       rotate_left
       · (intro w' hSw; (have kq := N1 _ hSw); clear hSw; go_simp; first | done | with_reducible rfl)
       try simp only [Act.put, List.setIfInBounds_toArray, List.set_cons_zero, List.set_cons_succ]
       refine take_l 14 (v := ?_) rfl (by kernel_rfl) (by kernel_rfl) (by kernel_rfl) (fun _ _ _ h => h) (Or.inl ⟨by rfl, ?_⟩) (by assumption) ?_
       rotate_left
       · (intro w' hSw; clear hSw; go_simp; first | done | with_reducible rfl)
       try simp only [Act.put, List.setIfInBounds_toArray, List.set_cons_zero, List.set_cons_succ]
       have DC := hid (fmtP_c Fd hFb wr.drew (TW.out.later (BX.out.trans (hSX0.mono BX.out.size))))
       rw [hFi, ← hdd.out] at DC
       refine cons_l 15 rfl (by kernel_rfl) (fun K hK => ?_)
       go_simp
       refine DC.out.mono ?_; rintro _ X1 ⟨rfl, hbX1⟩
       have hSX1 : Below wr.heap.size wr X1 := hSX0.trans (hbX1.mono hSX0.size)
       clear hbX1
       go_simp
       refine hK.out _ _ hSX1 (fun hHeld => ?_)
       clear hK K
       try simp only [Act.put, List.setIfInBounds_toArray, List.set_cons_zero, List.set_cons_succ]
       refine take_l 16 (v := ?_) rfl (by kernel_rfl) (by kernel_rfl) (by kernel_rfl) (fun _ _ _ h => h) (Or.inl ⟨by rfl, ?_⟩) (by assumption) ?_
       rotate_left
       · (intro w' hSw; clear hSw; go_simp; first | done | with_reducible rfl)
       try simp only [Act.put, List.setIfInBounds_toArray, List.set_cons_zero, List.set_cons_succ]
       refine take_l 17 (v := ?_) rfl (by kernel_rfl) (by kernel_rfl) (by kernel_rfl) (fun _ _ _ h => h) (Or.inl ⟨by rfl, ?_⟩) (by assumption) ?_
       rotate_left
       · (intro w' hSw; clear hSw; go_simp; first | done | with_reducible rfl)
       try simp only [Act.put, List.setIfInBounds_toArray, List.set_cons_zero, List.set_cons_succ]
       refine take_l 18 (v := ?_) rfl (by kernel_rfl) (by kernel_rfl) (by kernel_rfl) (fun _ _ _ h => h) (Or.inl ⟨by rfl, ?_⟩) (by assumption) ?_
       rotate_left
       · (intro w' hSw; clear hSw; go_simp; first | done | with_reducible rfl)
       try simp only [Act.put, List.setIfInBounds_toArray, List.set_cons_zero, List.set_cons_succ]
       refine wpAnyH_done (by kernel_rfl) ?_ _
       have BN := hid (BX.out.trans (hSX1.mono BX.out.size))
       have U6 := hid (O5 _ hSX1)
       clear O5 N0 N1 hSX0 hSX1 DC v5 c0 c1
       go_wp2
       go_roundg (gk - 1)
       case measure => omega
       case rel => exact ⟨1, _, by omega, by first | rfl | go_num, rfl, hid (by rw [app_dT, KT.out, SX.out, JS2.out]; rfl), by rw [ba_app, KT.out, size_l (kidT y)]; have := HKS.out; omega, BN, U6⟩
     · have JS1 := JS.out
       rw [if_neg hi0] at JS1
       have JS2 := hid JS1
       clear JS JS1
       have g0 : (0 : Int) < (i : Int) := by omega
       go_upto_region 13 with fail
       go_wp2_with fail
       have hSX0 : Below wr.heap.size wr wr.drew := Below.drew (Below.refl _ _)
       refine wp_region_held_drew (S := fun w' => Below wr.heap.size wr w') (by kernel_rfl) hSX0 (fun hHeld => ?_)
       refine take_l 0 (v := ?_) rfl (by kernel_rfl) (by kernel_rfl) (by kernel_rfl) (fun _ _ _ h => h) (Or.inl ⟨by rfl, ?_⟩) (by assumption) ?_
       rotate_left
       · (intro w' hSw; clear hSw; go_simp; first | done | with_reducible rfl)
       try simp only [Act.put, List.setIfInBounds_toArray, List.set_cons_zero, List.set_cons_succ]
       refine take_l 1 (v := ?_) rfl (by kernel_rfl) (by kernel_rfl) (by kernel_rfl) (fun _ _ _ h => h) (Or.inl ⟨by rfl, ?_⟩) (by assumption) ?_
       rotate_left
       · (intro w' hSw; clear hSw; go_simp; first | done | with_reducible rfl)
       try simp only [Act.put, List.setIfInBounds_toArray, List.set_cons_zero, List.set_cons_succ]
       refine take_l 2 (v := ?_) rfl (by kernel_rfl) (by kernel_rfl) (by kernel_rfl) (fun _ _ _ h => h) (Or.inl ⟨by rfl, ?_⟩) (by assumption) ?_
       rotate_left
       · (intro w' hSw; (have kq := O5 _ hSw); clear hSw; go_simp; first | done | with_reducible rfl)
       try simp only [Act.put, List.setIfInBounds_toArray, List.set_cons_zero, List.set_cons_succ]
       refine take_l 3 (v := ?_) rfl (by kernel_rfl) (by kernel_rfl) (by kernel_rfl) (fun _ _ _ h => h) (Or.inl ⟨by rfl, ?_⟩) (by assumption) ?_
       rotate_left
       · (intro w' hSw; clear hSw; go_simp; first | done | with_reducible rfl)
       try simp only [Act.put, List.setIfInBounds_toArray, List.set_cons_zero, List.set_cons_succ]
       refine take_l 4 (v := ?_) rfl (by kernel_rfl) (by kernel_rfl) (by kernel_rfl) (fun _ _ _ h => h) (Or.inl ⟨by rfl, ?_⟩) (by assumption) ?_
       rotate_left
       · (intro w' hSw; clear hSw; go_simp; first | done | with_reducible rfl)
       try simp only [Act.put, List.setIfInBounds_toArray, List.set_cons_zero, List.set_cons_succ]
       refine take_l 5 (v := ?_) rfl (by kernel_rfl) (by kernel_rfl) (by kernel_rfl) (fun _ _ _ h => h) (Or.inl ⟨by rfl, ?_⟩) (by assumption) ?_
       rotate_left
       · (intro w' hSw; clear hSw; go_simp; first | done | with_reducible rfl)
       try simp only [Act.put, List.setIfInBounds_toArray, List.set_cons_zero, List.set_cons_succ]
       refine take_l 6 (v := ?_) rfl (by kernel_rfl) (by kernel_rfl) (by kernel_rfl) (fun _ _ _ h => h) (Or.inl ⟨by rfl, ?_⟩) (by assumption) ?_
       rotate_left
       · (intro w' hSw; (have kq := N0 _ hSw); clear hSw; go_simp; first | done | with_reducible rfl)
       try simp only [Act.put, List.setIfInBounds_toArray, List.set_cons_zero, List.set_cons_succ]
       refine take_l 7 (v := ?_) rfl (by kernel_rfl) (by kernel_rfl) (by kernel_rfl) (fun _ _ _ h => h) (Or.inl ⟨by rfl, ?_⟩) (by assumption) ?_
       rotate_left
       · (intro w' hSw; clear hSw; go_simp; first | done | with_reducible rfl)
       try simp only [Act.put, List.setIfInBounds_toArray, List.set_cons_zero, List.set_cons_succ]
       refine take_l 8 (v := ?_) rfl (by kernel_rfl) (by kernel_rfl) (by kernel_rfl) (fun _ _ _ h => h) (Or.inl ⟨by rfl, ?_⟩) (by assumption) ?_
       rotate_left
       · (intro w' hSw; clear hSw; go_simp; first | done | with_reducible rfl)
       try simp only [Act.put, List.setIfInBounds_toArray, List.set_cons_zero, List.set_cons_succ]
       refine take_l 9 (v := ?_) rfl (by kernel_rfl) (by kernel_rfl) (by kernel_rfl) (fun _ _ _ h => h) (Or.inl ⟨by rfl, ?_⟩) (by assumption) ?_
       rotate_left
       · (intro w' hSw; (have kq := O5 _ hSw); clear hSw; go_simp; first | done | with_reducible rfl)
       try simp only [Act.put, List.setIfInBounds_toArray, List.set_cons_zero, List.set_cons_succ]
       refine take_l 10 (v := ?_) rfl (by kernel_rfl) (by kernel_rfl) (by kernel_rfl) (fun _ _ _ h => h) (Or.inl ⟨by rfl, ?_⟩) (by assumption) ?_
       rotate_left
       · (intro w' hSw; clear hSw; go_simp; first | done | with_reducible rfl)
       try simp only [Act.put, List.setIfInBounds_toArray, List.set_cons_zero, List.set_cons_succ]
       refine take_l 11 (v := ?_) rfl (by kernel_rfl) (by kernel_rfl) (by kernel_rfl) (fun _ _ _ h => h) (Or.inl ⟨by rfl, ?_⟩) (by assumption) ?_
       rotate_left
       · (intro w' hSw; clear hSw; go_simp; first | done | with_reducible rfl)
       try simp only [Act.put, List.setIfInBounds_toArray, List.set_cons_zero, List.set_cons_succ]
       refine take_l 12 (v := ?_) rfl (by kernel_rfl) (by kernel_rfl) (by kernel_rfl) (fun _ _ _ h => h) (Or.inl ⟨by rfl, ?_⟩) (by assumption) ?_
       rotate_left
       · (intro w' hSw; clear hSw; go_simp; first | done | with_reducible rfl)
       try simp only [Act.put, List.setIfInBounds_toArray, List.set_cons_zero, List.set_cons_succ]
       refine take_l 13 (v := ?_) rfl (by kernel_rfl) (by kernel_rfl) (by kernel_rfl) (fun _ _ _ h => h) (Or.inl ⟨by rfl, ?_⟩) (by assumption) ?_
       rotate_left
       · (intro w' hSw; (have kq := N1 _ hSw); clear hSw; go_simp; first | done | with_reducible rfl)
       try simp only [Act.put, List.setIfInBounds_toArray, List.set_cons_zero, List.set_cons_succ]
       refine take_l 14 (v := ?_) rfl (by kernel_rfl) (by kernel_rfl) (by kernel_rfl) (fun _ _ _ h => h) (Or.inl ⟨by rfl, ?_⟩) (by assumption) ?_
       rotate_left
       · (intro w' hSw; clear hSw; go_simp; first | done | with_reducible rfl)
       try simp only [Act.put, List.setIfInBounds_toArray, List.set_cons_zero, List.set_cons_succ]
       have DC := hid (fmtP_c Fd hFb wr.drew (TW.out.later (BX.out.trans (hSX0.mono BX.out.size))))
       rw [hFi, ← hdd.out] at DC
       refine cons_l 15 rfl (by kernel_rfl) (fun K hK => ?_)
       go_simp
       refine DC.out.mono ?_; rintro _ X1 ⟨rfl, hbX1⟩
       have hSX1 : Below wr.heap.size wr X1 := hSX0.trans (hbX1.mono hSX0.size)
       clear hbX1
       go_simp
       refine hK.out _ _ hSX1 (fun hHeld => ?_)
       clear hK K
       try simp only [Act.put, List.setIfInBounds_toArray, List.set_cons_zero, List.set_cons_succ]
       refine take_l 16 (v := ?_) rfl (by kernel_rfl) (by kernel_rfl) (by kernel_rfl) (fun _ _ _ h => h) (Or.inl ⟨by rfl, ?_⟩) (by assumption) ?_
       rotate_left
       · (intro w' hSw; clear hSw; go_simp; first | done | with_reducible rfl)
       try simp only [Act.put, List.setIfInBounds_toArray, List.set_cons_zero, List.set_cons_succ]
       refine take_l 17 (v := ?_) rfl (by kernel_rfl) (by kernel_rfl) (by kernel_rfl) (fun _ _ _ h => h) (Or.inl ⟨by rfl, ?_⟩) (by assumption) ?_
       rotate_left
       · (intro w' hSw; clear hSw; go_simp; first | done | with_reducible rfl)
       try simp only [Act.put, List.setIfInBounds_toArray, List.set_cons_zero, List.set_cons_succ]
       refine take_l 18 (v := ?_) rfl (by kernel_rfl) (by kernel_rfl) (by kernel_rfl) (fun _ _ _ h => h) (Or.inl ⟨by rfl, ?_⟩) (by assumption) ?_
       rotate_left
       · (intro w' hSw; clear hSw; go_simp; first | done | with_reducible rfl)
       try simp only [Act.put, List.setIfInBounds_toArray, List.set_cons_zero, List.set_cons_succ]
       refine wpAnyH_done (by kernel_rfl) ?_ _
       have BN := hid (BX.out.trans (hSX1.mono BX.out.size))
       have U6 := hid (O5 _ hSX1)
       clear O5 N0 N1 hSX0 hSX1 DC v5 c0 c1
       go_wp2
       go_roundg (gk - 1)
       case measure => omega
       case rel => exact ⟨i + 1, _, by omega, by go_num, rfl, hid (by rw [app_dT, app_dT, KT.out, SX.out, JS2.out]), by rw [ba_app, ba_app, KT.out, size_l (kidT y)]; have := HKS.out; show S.size + 1 + _ ≤ _; omega, BN, U6⟩
   · have hge : ¬ (i : Int) < ks.length := by omega
     obtain rfl : i = ks.length := by omega
     have SY := SX.out
     rw [List.take_length] at SY
     by_cases hks : ks = []
     · have e0 : (S.toList == []) = true := by rw [Lib.toList_data, SY, hks]; rfl
       have LE : Hid ((⟨(lineL ⟨f, 2, m, l, da, dc, zs, ka, kc, ks⟩).toArray⟩ : ByteArray) = H ++ ⟨#[45]⟩) := hid (ba_ext (by rw [hHe.out, line_head, h1.out, h3.out, h4.out]; unfold lineL insB; rw [if_pos rfl, if_pos hks]; rfl))
       have q9 : ¬ 9223372036854775807 < H.size + 1 := by omega
       clear SX SY hks
       go_wp2
       refine bodyPost_ret (v := .tuple #[.string (H ++ ⟨#[45]⟩), .int .i64 0]) (by simp [results, Tryd.results15, go_sem]) rfl ⟨by rw [LE.out], BX.out⟩
     · have hSy : S.data.toList ≠ [] := by rw [SY]; exact join_ne hks
       have e0 : (S.toList == []) = false := by rw [Lib.toList_data, beq_eq_false_iff_ne]; exact hSy
       have LE : Hid ((⟨(lineL ⟨f, 2, m, l, da, dc, zs, ka, kc, ks⟩).toArray⟩ : ByteArray) = H ++ S) := hid (ba_ext (by rw [hHe.out, line_head, h1.out, h3.out, h4.out, SY]; unfold lineL insB; rw [if_pos rfl, if_neg hks]; rfl))
       have q9 : ¬ 9223372036854775807 < H.size + S.size := by omega
       clear SX SY hSy hks
       go_wp2
       refine bodyPost_ret (v := .tuple #[.string (H ++ S), .int .i64 0]) (by simp [results, Tryd.results15, go_sem]) rfl ⟨by rw [LE.out], BX.out⟩
set_option maxHeartbeats 8000000 in
theorem rline_3 (f m l : Int) (da : Option Addr) (dc : Nat) (zs : List Int) (ka : Option Addr) (kc : Nat) (ks : List Kd) (w : World) (hx : Nd.Ok w ⟨f, 3, m, l, da, dc, zs, ka, kc, ks⟩) (hr : nodeOk ⟨f, 3, m, l, da, dc, zs, ka, kc, ks⟩ = true) (ht : TabW w) : Calls Tryd.prog 15 #[Nd.val ⟨f, 3, m, l, da, dc, zs, ka, kc, ks⟩] w fun e w' => e = .returned (.tuple #[.string ⟨(lineL ⟨f, 3, m, l, da, dc, zs, ka, kc, ks⟩).toArray⟩, .int .i64 0]) ∧ Below w.heap.size w w' := by
 have hb := below_1 w (.cells #[.int .u32 f, .int .u8 3, .int .u16 m, .int .u16 l, .slice da zs.length dc, .slice ka ks.length kc] 35)
 have hB := heap_alloc_new w (.cells #[.int .u32 f, .int .u8 3, .int .u16 m, .int .u16 l, .slice da zs.length dc, .slice ka ks.length kc] 35)
 have AC := hid (alone_c ⟨f, 3, m, l, da, dc, zs, ka, kc, ks⟩ (w.alloc (.cells #[.int .u32 f, .int .u8 3, .int .u16 m, .int .u16 l, .slice da zs.length dc, .slice ka ks.length kc] 35)) (hx.later hb))
 rw [hr] at AC
 obtain ⟨z1, z2, z3⟩ := node_small hr
 simp only at z1 z2 z3
 obtain ⟨⟨f0, f1⟩, _, ⟨m0, m1⟩, ⟨l0, l1⟩, hIB, hIK⟩ := hx
 simp only at f0 f1 m0 m1 l0 l1 hIB hIK
 have y0 : (w.alloc (.cells #[.int .u32 f, .int .u8 3, .int .u16 m, .int .u16 l, .slice da zs.length dc, .slice ka ks.length kc] 35)).cell? ⟨w.heap.size, 0, none⟩ = some (.int .u32 f) := cell_of_row2 hB 0 rfl
 have y1 : (w.alloc (.cells #[.int .u32 f, .int .u8 3, .int .u16 m, .int .u16 l, .slice da zs.length dc, .slice ka ks.length kc] 35)).cell? ⟨w.heap.size, 1, none⟩ = some (.int .u8 3) := cell_of_row2 hB 1 rfl
 have y2 : (w.alloc (.cells #[.int .u32 f, .int .u8 3, .int .u16 m, .int .u16 l, .slice da zs.length dc, .slice ka ks.length kc] 35)).cell? ⟨w.heap.size, 2, none⟩ = some (.int .u16 m) := cell_of_row2 hB 2 rfl
 have y3 : (w.alloc (.cells #[.int .u32 f, .int .u8 3, .int .u16 m, .int .u16 l, .slice da zs.length dc, .slice ka ks.length kc] 35)).cell? ⟨w.heap.size, 3, none⟩ = some (.int .u16 l) := cell_of_row2 hB 3 rfl
 have y4 : (w.alloc (.cells #[.int .u32 f, .int .u8 3, .int .u16 m, .int .u16 l, .slice da zs.length dc, .slice ka ks.length kc] 35)).cell? ⟨w.heap.size, 4, none⟩ = some (.slice da zs.length dc) := cell_of_row2 hB 4 rfl
 have y5 : (w.alloc (.cells #[.int .u32 f, .int .u8 3, .int .u16 m, .int .u16 l, .slice da zs.length dc, .slice ka ks.length kc] 35)).cell? ⟨w.heap.size, 5, none⟩ = some (.slice ka ks.length kc) := cell_of_row2 hB 5 rfl
 have B0 := hid hb
 have HB := hid hB
 have IB := hid (fun W (h : Below w.heap.size w W) => hIB.later h)
 have IK := hid (fun W (h : Below w.heap.size w W) => hIK.later h)
 have KW := hid hIK.2.1
 have Z3 := hid z3
 have TW := hid ht
 obtain ⟨a1, h1⟩ : ∃ a, Hid (a = decB f.toNat) := ⟨_, hid rfl⟩
 obtain ⟨a3, h3⟩ : ∃ a, Hid (a = decB m.toNat) := ⟨_, hid rfl⟩
 obtain ⟨a4, h4⟩ : ∃ a, Hid (a = decB l.toNat) := ⟨_, hid rfl⟩
 have t1 : a1.size ≤ 20 := by rw [h1.out]; exact decB_size (by omega)
 have t3 : a3.size ≤ 20 := by rw [h3.out]; exact decB_size (by omega)
 have t4 : a4.size ≤ 20 := by rw [h4.out]; exact decB_size (by omega)
 have D1 : Hid (∀ W, Below w.heap.size w W → Calls Tryd.prog 35 #[.int .u64 f, .int .i64 10] W fun e w' => e = .returned (.string a1) ∧ Below W.heap.size W w') := hid (fun W hW => by
   have := fmtP_c f.toNat (by omega) W (ht.later hW)
   rw [Int.toNat_of_nonneg f0, ← h1.out] at this
   exact this)
 have D3 : Hid (∀ W, Below w.heap.size w W → Calls Tryd.prog 36 #[.int .i64 m] W fun e w' => e = .returned (.string a3) ∧ Below W.heap.size W w') := hid (fun W hW => by
   have := itoa_c m.toNat (by omega) W (ht.later hW)
   rw [Int.toNat_of_nonneg m0, ← h3.out] at this
   exact this)
 have D4 : Hid (∀ W, Below w.heap.size w W → Calls Tryd.prog 36 #[.int .i64 l] W fun e w' => e = .returned (.string a4) ∧ Below W.heap.size W w') := hid (fun W hW => by
   have := itoa_c l.toNat (by omega) W (ht.later hW)
   rw [Int.toNat_of_nonneg l0, ← h4.out] at this
   exact this)
 have wf : IntKind.u64.wrap f = f := by rw [IntKind.wrap_u64]; omega
 have wm : IntKind.i64.wrap m = m := by rw [IntKind.wrap_i64]; omega
 have wl : IntKind.i64.wrap l = l := by rw [IntKind.wrap_i64]; omega
 have p0 : ¬ 9223372036854775807 < a1.size + 1 := by omega
 have p1 : ¬ 9223372036854775807 < a1.size + 1 + 4 := by omega
 have p2 : ¬ 9223372036854775807 < a1.size + 1 + 4 + 1 := by omega
 have p3 : ¬ 9223372036854775807 < a1.size + 1 + 4 + 1 + a3.size := by omega
 have p4 : ¬ 9223372036854775807 < a1.size + 1 + 4 + 1 + a3.size + 1 := by omega
 have p5 : ¬ 9223372036854775807 < a1.size + 1 + 4 + 1 + a3.size + 1 + a4.size := by omega
 have p6 : ¬ 9223372036854775807 < a1.size + 1 + 4 + 1 + a3.size + 1 + a4.size + 1 := by omega
 clear hb hB hr hIB hIK z3 ht
 unfold Nd.val at *
 simp only at *
 go_enter Tryd.func15, Tryd.ntmps15
 go_upto_region 3 with (go_at_call 34; refine AC.out.mono ?_; rintro _ w1 ⟨rfl, hb1⟩; have B1 := hid (B0.out.trans (hb1.mono B0.out.size)); have HB1 := hid ((hb1.block _ (lt_blkR HB.out)).trans HB.out); clear hb1)
 have b2 := below_1 w1 (.cells #[.string ⟨#[]⟩, .string ⟨#[102, 105, 108, 101]⟩, .string ⟨#[100, 105, 114]⟩, .string ⟨#[108, 105, 110, 107]⟩] 9)
 have hB2 := heap_alloc_new w1 (.cells #[.string ⟨#[]⟩, .string ⟨#[102, 105, 108, 101]⟩, .string ⟨#[100, 105, 114]⟩, .string ⟨#[108, 105, 110, 107]⟩] 9)
 have s2 : (w1.alloc (.cells #[.string ⟨#[]⟩, .string ⟨#[102, 105, 108, 101]⟩, .string ⟨#[100, 105, 114]⟩, .string ⟨#[108, 105, 110, 107]⟩] 9)).cell? ⟨w1.heap.size, 3, none⟩ = some (.string ⟨#[108, 105, 110, 107]⟩) := cell_of_row2 hB2 3 rfl
 have HB2 := (b2.block _ (lt_blkR HB1.out)).trans HB1.out
 have kk : (w1.alloc (.cells #[.string ⟨#[]⟩, .string ⟨#[102, 105, 108, 101]⟩, .string ⟨#[100, 105, 114]⟩, .string ⟨#[108, 105, 110, 107]⟩] 9)).cell? ⟨w.heap.size, 1, none⟩ = some (.int .u8 3) := cell_of_row2 HB2 1 rfl
 have B2 := hid (B1.out.trans (b2.mono B1.out.size))
 go_upto_region 4 with fail
 generalize w1.alloc (.cells #[.string ⟨#[]⟩, .string ⟨#[102, 105, 108, 101]⟩, .string ⟨#[100, 105, 114]⟩, .string ⟨#[108, 105, 110, 107]⟩] 9) = V at *
 have O0 : ∀ w' : World, Below V.heap.size V w' → w'.cell? ⟨w.heap.size, 0, none⟩ = some (.int .u32 f) := fun w' h => cell_later h (cell_of_row2 HB2 0 rfl)
 have O1 : ∀ w' : World, Below V.heap.size V w' → w'.cell? ⟨w.heap.size, 1, none⟩ = some (.int .u8 3) := fun w' h => cell_later h (cell_of_row2 HB2 1 rfl)
 have O2 : ∀ w' : World, Below V.heap.size V w' → w'.cell? ⟨w.heap.size, 2, none⟩ = some (.int .u16 m) := fun w' h => cell_later h (cell_of_row2 HB2 2 rfl)
 have O3 : ∀ w' : World, Below V.heap.size V w' → w'.cell? ⟨w.heap.size, 3, none⟩ = some (.int .u16 l) := fun w' h => cell_later h (cell_of_row2 HB2 3 rfl)
 have O4 : ∀ w' : World, Below V.heap.size V w' → w'.cell? ⟨w.heap.size, 4, none⟩ = some (.slice da zs.length dc) := fun w' h => cell_later h (cell_of_row2 HB2 4 rfl)
 have O5 : ∀ w' : World, Below V.heap.size V w' → w'.cell? ⟨w.heap.size, 5, none⟩ = some (.slice ka ks.length kc) := fun w' h => cell_later h (cell_of_row2 HB2 5 rfl)
 have D1V := hid (fun W (h : Below V.heap.size V W) => D1.out W (B2.out.trans (h.mono B2.out.size)))
 have D3V := hid (fun W (h : Below V.heap.size V W) => D3.out W (B2.out.trans (h.mono B2.out.size)))
 have D4V := hid (fun W (h : Below V.heap.size V W) => D4.out W (B2.out.trans (h.mono B2.out.size)))
 clear b2 hB2 s2 HB2 kk
 go_wp2_with fail
 have hSW0 : Below V.heap.size V V.drew := Below.drew (Below.refl _ _)
 refine wp_region_held_drew (S := fun w' => Below V.heap.size V w') (by kernel_rfl) hSW0 (fun hHeld => ?_)
 refine take_l 0 (v := ?_) rfl (by kernel_rfl) (by kernel_rfl) (by kernel_rfl) (fun _ _ _ h => h) (Or.inl ⟨by rfl, ?_⟩) (by assumption) ?_
 rotate_left
 · (intro w' hSw; clear hSw; go_simp; first | done | with_reducible rfl)
 try simp only [Act.put, List.setIfInBounds_toArray, List.set_cons_zero, List.set_cons_succ]
 refine take_l 1 (v := ?_) rfl (by kernel_rfl) (by kernel_rfl) (by kernel_rfl) (fun _ _ _ h => h) (Or.inl ⟨by rfl, ?_⟩) (by assumption) ?_
 rotate_left
 · (intro w' hSw; (have kq := O0 _ hSw); clear hSw; go_simp; first | done | with_reducible rfl)
 try simp only [Act.put, List.setIfInBounds_toArray, List.set_cons_zero, List.set_cons_succ]
 refine take_l 2 (v := ?_) rfl (by kernel_rfl) (by kernel_rfl) (by kernel_rfl) (fun _ _ _ h => h) (Or.inl ⟨by rfl, ?_⟩) (by assumption) ?_
 rotate_left
 · (intro w' hSw; clear hSw; go_simp; first | done | with_reducible rfl)
 try simp only [Act.put, List.setIfInBounds_toArray, List.set_cons_zero, List.set_cons_succ]
 refine take_l 5 (v := ?_) rfl (by kernel_rfl) (by kernel_rfl) (by kernel_rfl) (fun _ _ _ h => h) (Or.inl ⟨by rfl, ?_⟩) (by assumption) ?_
 rotate_left
 · (intro w' hSw; clear hSw; go_simp; first | done | with_reducible rfl)
 try simp only [Act.put, List.setIfInBounds_toArray, List.set_cons_zero, List.set_cons_succ]
 refine take_l 8 (v := ?_) rfl (by kernel_rfl) (by kernel_rfl) (by kernel_rfl) (fun _ _ _ h => h) (Or.inl ⟨by rfl, ?_⟩) (by assumption) ?_
 rotate_left
 · (intro w' hSw; clear hSw; go_simp; first | done | with_reducible rfl)
 try simp only [Act.put, List.setIfInBounds_toArray, List.set_cons_zero, List.set_cons_succ]
 refine take_l 9 (v := ?_) rfl (by kernel_rfl) (by kernel_rfl) (by kernel_rfl) (fun _ _ _ h => h) (Or.inl ⟨by rfl, ?_⟩) (by assumption) ?_
 rotate_left
 · (intro w' hSw; (have kq := O2 _ hSw); clear hSw; go_simp; first | done | with_reducible rfl)
 try simp only [Act.put, List.setIfInBounds_toArray, List.set_cons_zero, List.set_cons_succ]
 refine take_l 10 (v := ?_) rfl (by kernel_rfl) (by kernel_rfl) (by kernel_rfl) (fun _ _ _ h => h) (Or.inl ⟨by rfl, ?_⟩) (by assumption) ?_
 rotate_left
 · (intro w' hSw; clear hSw; go_simp; first | done | with_reducible rfl)
 try simp only [Act.put, List.setIfInBounds_toArray, List.set_cons_zero, List.set_cons_succ]
 refine take_l 14 (v := ?_) rfl (by kernel_rfl) (by kernel_rfl) (by kernel_rfl) (fun _ _ _ h => h) (Or.inl ⟨by rfl, ?_⟩) (by assumption) ?_
 rotate_left
 · (intro w' hSw; clear hSw; go_simp; first | done | with_reducible rfl)
 try simp only [Act.put, List.setIfInBounds_toArray, List.set_cons_zero, List.set_cons_succ]
 refine take_l 15 (v := ?_) rfl (by kernel_rfl) (by kernel_rfl) (by kernel_rfl) (fun _ _ _ h => h) (Or.inl ⟨by rfl, ?_⟩) (by assumption) ?_
 rotate_left
 · (intro w' hSw; (have kq := O3 _ hSw); clear hSw; go_simp; first | done | with_reducible rfl)
 try simp only [Act.put, List.setIfInBounds_toArray, List.set_cons_zero, List.set_cons_succ]
 refine take_l 16 (v := ?_) rfl (by kernel_rfl) (by kernel_rfl) (by kernel_rfl) (fun _ _ _ h => h) (Or.inl ⟨by rfl, ?_⟩) (by assumption) ?_
 rotate_left
 · (intro w' hSw; clear hSw; go_simp; first | done | with_reducible rfl)
 try simp only [Act.put, List.setIfInBounds_toArray, List.set_cons_zero, List.set_cons_succ]
 generalize V.drew = W0 at *
 refine cons_l 3 rfl (by kernel_rfl) (fun K hK => ?_)
 go_simp
 refine (D1V.out W0 hSW0).mono ?_; rintro _ W1 ⟨rfl, hbW1⟩
 have hSW1 : Below V.heap.size V W1 := hSW0.trans (hbW1.mono hSW0.size)
 clear hbW1
 go_simp
 refine hK.out _ _ hSW1 (fun hHeld => ?_)
 clear hK K
 try simp only [Act.put, List.setIfInBounds_toArray, List.set_cons_zero, List.set_cons_succ]
 refine take_l 4 (v := ?_) rfl (by kernel_rfl) (by kernel_rfl) (by kernel_rfl) (fun _ _ _ h => h) (Or.inl ⟨by rfl, ?_⟩) (by assumption) ?_
 rotate_left
 · (intro w' hSw; clear hSw; go_simp; first | done | with_reducible rfl)
 try simp only [Act.put, List.setIfInBounds_toArray, List.set_cons_zero, List.set_cons_succ]
 refine take_l 6 (v := ?_) rfl (by kernel_rfl) (by kernel_rfl) (by kernel_rfl) (fun _ _ _ h => h) (Or.inl ⟨by rfl, ?_⟩) (by assumption) ?_
 rotate_left
 · (intro w' hSw; clear hSw; go_simp; first | done | with_reducible rfl)
 try simp only [Act.put, List.setIfInBounds_toArray, List.set_cons_zero, List.set_cons_succ]
 refine take_l 7 (v := ?_) rfl (by kernel_rfl) (by kernel_rfl) (by kernel_rfl) (fun _ _ _ h => h) (Or.inl ⟨by rfl, ?_⟩) (by assumption) ?_
 rotate_left
 · (intro w' hSw; clear hSw; go_simp; first | done | with_reducible rfl)
 try simp only [Act.put, List.setIfInBounds_toArray, List.set_cons_zero, List.set_cons_succ]
 refine cons_l 11 rfl (by kernel_rfl) (fun K hK => ?_)
 go_simp
 refine (D3V.out W1 hSW1).mono ?_; rintro _ W2 ⟨rfl, hbW2⟩
 have hSW2 : Below V.heap.size V W2 := hSW1.trans (hbW2.mono hSW1.size)
 clear hbW2
 go_simp
 refine hK.out _ _ hSW2 (fun hHeld => ?_)
 clear hK K
 try simp only [Act.put, List.setIfInBounds_toArray, List.set_cons_zero, List.set_cons_succ]
 refine take_l 12 (v := ?_) rfl (by kernel_rfl) (by kernel_rfl) (by kernel_rfl) (fun _ _ _ h => h) (Or.inl ⟨by rfl, ?_⟩) (by assumption) ?_
 rotate_left
 · (intro w' hSw; clear hSw; go_simp; first | done | with_reducible rfl)
 try simp only [Act.put, List.setIfInBounds_toArray, List.set_cons_zero, List.set_cons_succ]
 refine take_l 13 (v := ?_) rfl (by kernel_rfl) (by kernel_rfl) (by kernel_rfl) (fun _ _ _ h => h) (Or.inl ⟨by rfl, ?_⟩) (by assumption) ?_
 rotate_left
 · (intro w' hSw; clear hSw; go_simp; first | done | with_reducible rfl)
 try simp only [Act.put, List.setIfInBounds_toArray, List.set_cons_zero, List.set_cons_succ]
 refine cons_l 17 rfl (by kernel_rfl) (fun K hK => ?_)
 go_simp
 refine (D4V.out W2 hSW2).mono ?_; rintro _ W3 ⟨rfl, hbW3⟩
 have hSW3 : Below V.heap.size V W3 := hSW2.trans (hbW3.mono hSW2.size)
 clear hbW3
 go_simp
 refine hK.out _ _ hSW3 (fun hHeld => ?_)
 clear hK K
 try simp only [Act.put, List.setIfInBounds_toArray, List.set_cons_zero, List.set_cons_succ]
 refine take_l 18 (v := ?_) rfl (by kernel_rfl) (by kernel_rfl) (by kernel_rfl) (fun _ _ _ h => h) (Or.inl ⟨by rfl, ?_⟩) (by assumption) ?_
 rotate_left
 · (intro w' hSw; clear hSw; go_simp; first | done | with_reducible rfl)
 try simp only [Act.put, List.setIfInBounds_toArray, List.set_cons_zero, List.set_cons_succ]
 refine take_l 19 (v := ?_) rfl (by kernel_rfl) (by kernel_rfl) (by kernel_rfl) (fun _ _ _ h => h) (Or.inl ⟨by rfl, ?_⟩) (by assumption) ?_
 rotate_left
 · (intro w' hSw; clear hSw; go_simp; first | done | with_reducible rfl)
 try simp only [Act.put, List.setIfInBounds_toArray, List.set_cons_zero, List.set_cons_succ]
 refine take_l 20 (v := ?_) rfl (by kernel_rfl) (by kernel_rfl) (by kernel_rfl) (fun _ _ _ h => h) (Or.inl ⟨by rfl, ?_⟩) (by assumption) ?_
 rotate_left
 · (intro w' hSw; clear hSw; go_simp; first | done | with_reducible rfl)
 try simp only [Act.put, List.setIfInBounds_toArray, List.set_cons_zero, List.set_cons_succ]
 refine wpAnyH_done (by kernel_rfl) ?_ _
 rw [show (a1 ++ ⟨#[32]⟩ ++ ⟨#[108, 105, 110, 107]⟩ ++ ⟨#[32]⟩ ++ a3 ++ ⟨#[32]⟩ ++ a4 ++ ⟨#[32]⟩ : ByteArray) = headB a1 ⟨#[108, 105, 110, 107]⟩ a3 a4 from rfl]
 have u1 := O1 W3 hSW3
 have u4 := O4 W3 hSW3
 have u5 := O5 W3 hSW3
 have B3 := hid (B2.out.trans (hSW3.mono B2.out.size))
 have hW4 : (⟨#[108, 105, 110, 107]⟩ : ByteArray).size ≤ 4 := by decide
 have hH : (headB a1 ⟨#[108, 105, 110, 107]⟩ a3 a4).size ≤ 200 := by rw [headB_size]; omega
 clear hW4
 obtain ⟨H, hHe⟩ : ∃ H, Hid (H = headB a1 ⟨#[108, 105, 110, 107]⟩ a3 a4) := ⟨_, hid rfl⟩
 rw [← hHe.out] at hH ⊢
 clear O0 O1 O2 O3 O4 O5 hSW0 hSW1 hSW2 D1V D3V D4V
 have cv := conv_L (pc := dc) (IB.out W3 B3.out)
 have b2 : (((3 : Int)) != 2) = true := by decide
 have QC := hid (rquote_c (Fr.tx zs) W3 (by rw [txs_size]; omega))
 have QL := (quote_len (Fr.tx zs).data.toList).2
 have eL : (Fr.tx zs).data.toList.length = (Fr.tx zs).size := rfl
 rw [txs_size] at eL
 obtain ⟨Q, hQ⟩ : ∃ Q : ByteArray, Q = ⟨(quoteL (Fr.tx zs).data.toList).toArray⟩ := ⟨_, rfl⟩
 have hQs : Q.size ≤ 1000 := by rw [hQ, ba_size]; omega
 rw [← hQ] at QC
 have LE : Hid ((⟨(lineL ⟨f, 3, m, l, da, dc, zs, ka, kc, ks⟩).toArray⟩ : ByteArray) = H ++ Q) := hid (ba_ext (by rw [hHe.out, line_head, hQ, h1.out, h3.out, h4.out]; rfl))
 have q9 : ¬ 9223372036854775807 < H.size + Q.size := by omega
 clear eL QL hQ hQs
 go_wp2_with (go_at_call 13; refine QC.out.mono ?_; rintro _ w9 ⟨rfl, hb9⟩; have B9 := hid (B3.out.trans (hb9.mono B3.out.size)); clear hb9)
 refine bodyPost_ret (v := .tuple #[.string (H ++ Q), .int .i64 0]) (by simp [results, Tryd.results15, go_sem]) rfl ⟨by rw [LE.out], B9.out⟩
end Go.Proofs.YtkokjkaclcjnjaaDoor
