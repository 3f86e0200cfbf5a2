/-
  A callee's Reply.
-/
import Derived.Test.YtmoeljieafninaaRKt
namespace Go.Proofs.Ytmoeljieafninaa
open Go.RowKit Go.ChangeShapes Go.WideShapes Go.ChangeAt
set_option linter.unusedVariables false
set_option linter.unusedSimpArgs false
set_option maxRecDepth 100000
set_option maxHeartbeats 1000000 in
theorem reply_nil (n : Int) (b : ByteArray) (w : World) : Calls Try.prog 15 #[.pointer none, .int .u8 n, .string b] w fun x w' => x = .returned (.tuple #[Fr.val zpk, .int .i64 1]) ∧ Below w.heap.size w w' := by
  go_enter Try.func15, Try.ntmps15
  go_wp2
  exact bodyPost_ret (v := .tuple #[Fr.val zpk, .int .i64 1]) (by simp [results, Try.results15, go_sem, Fr.val, zpk]) rfl ⟨rfl, (Below.refl _ _).alloc (Nat.le_refl _) _⟩
set_option maxHeartbeats 1000000 in
theorem reply_who (g : Nat) (n : Int) (b : ByteArray) (w : World) (h : n < 1 ∨ 3 < n) : Calls Try.prog 15 #[pC g, .int .u8 n, .string b] w fun x w' => x = .returned (.tuple #[Fr.val zpk, .int .i64 2]) ∧ Below w.heap.size w w' := by
  have hd : (decide (1 ≤ n) && decide (n ≤ 3)) = false := by simp; omega
  clear h
  go_enter Try.func15, Try.ntmps15
  go_wp2_with (go_at_call 28; refine (isCl_c _ _).mono ?_; rintro _ w1 ⟨rfl, h1⟩; rw [h1, hd])
  exact bodyPost_ret (v := .tuple #[Fr.val zpk, .int .i64 2]) (by simp [results, Try.results15, go_sem, Fr.val, zpk]) rfl ⟨rfl, (Below.refl _ _).alloc (Nat.le_refl _) _⟩
set_option maxHeartbeats 2000000 in
theorem reply_1_n {w : World} {g : Nat} {F : Nat → Tk} (h : IsK w g F) (b : ByteArray) (hst : (F 1).st ≠ 1) :
    Calls Try.prog 15 #[pC g, .int .u8 1, .string b] w fun x w' => x = .returned (.tuple #[Fr.val zpk, .int .i64 5]) ∧ Below w.heap.size w w' := by
  have hlt := h.lt
  have hd : (decide ((1 : Int) ≤ 1) && decide ((1 : Int) ≤ 3)) = true := by decide
  have b1 : Below w.heap.size w (w.alloc (.cells #[.int .u8 0, .int .u8 0, .int .u8 0, .int .u32 0, .int .u32 0, .string ⟨#[]⟩] 26)) := (Below.refl _ _).alloc (Nat.le_refl _) _
  have Q0 : Hid (PkAt (w.alloc (.cells #[.int .u8 0, .int .u8 0, .int .u8 0, .int .u32 0, .int .u32 0, .string ⟨#[]⟩] 26)) w.heap.size zpk) := PkAt.new w zpk
  have K0 := hid (h.later b1)
  have B0 := hid b1
  obtain ⟨c0, c1, c2, c3⟩ := (h.later b1).at1
  obtain ⟨z0, z1, z2, z3, z4, z5, zf⟩ := Q0.out.cells
  have y0 := zf 0
  have y1 := zf 1
  have y2 := zf 2
  have y3 := zf 3
  have y4 := zf 4
  have y5 := zf 5
  have f0 := K0.out.fz 0
  have f3 := K0.out.fz 3
  have hne1 : ¬ g = w.heap.size := by omega
  have hne3 : ¬ w.heap.size = g := by omega
  have hb : ((F 1).st != 1) = true := by rw [bne_iff_ne]; exact hst
  clear h b1 zf hst
  go_enter Try.func15, Try.ntmps15
  go_wp2_with fail
  generalize (w.alloc (.cells #[.int .u8 0, .int .u8 0, .int .u8 0, .int .u32 0, .int .u32 0, .string ⟨#[]⟩] 26)) = W at *
  refine (isCl_c _ _).mono ?_
  rintro _ w1 ⟨rfl, h1⟩
  rw [h1, hd]
  go_wp2
  refine bodyPost_ret (v := .tuple #[Fr.val zpk, .int .i64 5]) (by simp [results, Try.results15, go_sem, Fr.val, zpk, z0, z1, z2, z3, z4, z5]) rfl ⟨rfl, ?_⟩
  exact (ou_newS (S := fun _ => False) B0.out (((((((Ou.refl (fun k => k = w.heap.size) _).set rfl).set rfl).set rfl).set rfl).set rfl).set rfl) (fun k e => .inr (by omega))).below (Nat.le_refl _) (fun k e => e.elim)
set_option maxHeartbeats 2000000 in
theorem reply_1_l {w : World} {g : Nat} {F : Nat → Tk} (h : IsK w g F) (b : ByteArray) (hst : (F 1).st = 1) (hl : 16384 < b.size) :
    Calls Try.prog 15 #[pC g, .int .u8 1, .string b] w fun x w' => x = .returned (.tuple #[Fr.val zpk, .int .i64 3]) ∧ Below w.heap.size w w' := by
  have hlt := h.lt
  have hd : (decide ((1 : Int) ≤ 1) && decide ((1 : Int) ≤ 3)) = true := by decide
  have b1 : Below w.heap.size w (w.alloc (.cells #[.int .u8 0, .int .u8 0, .int .u8 0, .int .u32 0, .int .u32 0, .string ⟨#[]⟩] 26)) := (Below.refl _ _).alloc (Nat.le_refl _) _
  have Q0 : Hid (PkAt (w.alloc (.cells #[.int .u8 0, .int .u8 0, .int .u8 0, .int .u32 0, .int .u32 0, .string ⟨#[]⟩] 26)) w.heap.size zpk) := PkAt.new w zpk
  have K0 := hid (h.later b1)
  have B0 := hid b1
  obtain ⟨c0, c1, c2, c3⟩ := (h.later b1).at1
  obtain ⟨z0, z1, z2, z3, z4, z5, zf⟩ := Q0.out.cells
  have y0 := zf 0
  have y1 := zf 1
  have y2 := zf 2
  have y3 := zf 3
  have y4 := zf 4
  have y5 := zf 5
  have f0 := K0.out.fz 0
  have f3 := K0.out.fz 3
  have hne1 : ¬ g = w.heap.size := by omega
  have hne3 : ¬ w.heap.size = g := by omega
  have hb : ((F 1).st != 1) = false := by rw [hst]; rfl
  have hl' : (16384 : Int) < b.size := by omega
  clear h b1 zf hst
  go_enter Try.func15, Try.ntmps15
  go_wp2_with fail
  generalize (w.alloc (.cells #[.int .u8 0, .int .u8 0, .int .u8 0, .int .u32 0, .int .u32 0, .string ⟨#[]⟩] 26)) = W at *
  refine (isCl_c _ _).mono ?_
  rintro _ w1 ⟨rfl, h1⟩
  rw [h1, hd]
  go_wp2
  refine bodyPost_ret (v := .tuple #[Fr.val zpk, .int .i64 3]) (by simp [results, Try.results15, go_sem, Fr.val, zpk, z0, z1, z2, z3, z4, z5]) rfl ⟨rfl, ?_⟩
  exact (ou_newS (S := fun _ => False) B0.out (((((((Ou.refl (fun k => k = w.heap.size) _).set rfl).set rfl).set rfl).set rfl).set rfl).set rfl) (fun k e => .inr (by omega))).below (Nat.le_refl _) (fun k e => e.elim)
set_option maxHeartbeats 2000000 in
theorem reply_1_y {w : World} {g : Nat} {F : Nat → Tk} (h : IsK w g F) (b : ByteArray) (hst : (F 1).st = 1) (hl : b.size ≤ 16384) :
    Calls Try.prog 15 #[pC g, .int .u8 1, .string b] w fun x w' => x = .returned (.tuple #[Fr.val ⟨2, 0, 1, (F 1).ep, (F 1).num, b⟩, .int .i64 0]) ∧ IsK w' g (updK F 1 ⟨2, (F 1).ep, (F 1).num, b⟩) ∧ Ou (fun k => k = g) w w' := by
  have hlt := h.lt
  have hd : (decide ((1 : Int) ≤ 1) && decide ((1 : Int) ≤ 3)) = true := by decide
  have b1 : Below w.heap.size w (w.alloc (.cells #[.int .u8 0, .int .u8 0, .int .u8 0, .int .u32 0, .int .u32 0, .string ⟨#[]⟩] 26)) := (Below.refl _ _).alloc (Nat.le_refl _) _
  have Q0 : Hid (PkAt (w.alloc (.cells #[.int .u8 0, .int .u8 0, .int .u8 0, .int .u32 0, .int .u32 0, .string ⟨#[]⟩] 26)) w.heap.size zpk) := PkAt.new w zpk
  have K0 := hid (h.later b1)
  have B0 := hid b1
  obtain ⟨c0, c1, c2, c3⟩ := (h.later b1).at1
  obtain ⟨z0, z1, z2, z3, z4, z5, zf⟩ := Q0.out.cells
  have y0 := zf 0
  have y1 := zf 1
  have y2 := zf 2
  have y3 := zf 3
  have y4 := zf 4
  have y5 := zf 5
  have f0 := K0.out.fz 0
  have f3 := K0.out.fz 3
  have hne1 : ¬ g = w.heap.size := by omega
  have hne3 : ¬ w.heap.size = g := by omega
  have hb : ((F 1).st != 1) = false := by rw [hst]; rfl
  have hl' : (b.size : Int) ≤ 16384 := by omega
  have AC : Hid (∀ W, IsK W g (updK F 1 ⟨2, (F 1).ep, (F 1).num, b⟩) → Calls Try.prog 25 #[.pointer (some ⟨g, 0, none⟩), .int .u8 1] W fun x w' => x = .returned (Fr.val ⟨2, 0, 1, (F 1).ep, (F 1).num, b⟩) ∧ Below W.heap.size W w') := fun W hW => answer_c _ _ _ hW.lt hW.at1.2.1 hW.at1.2.2.1 hW.at1.2.2.2 1
  have K1 : Hid (IsK (((w.alloc (.cells #[.int .u8 0, .int .u8 0, .int .u8 0, .int .u32 0, .int .u32 0, .string ⟨#[]⟩] 26)).setCell ⟨g, 0, none⟩ (.int .u8 2)).setCell ⟨g, 3, none⟩ (.string b)) g (updK F 1 ⟨2, (F 1).ep, (F 1).num, b⟩)) := hid (row_set 3 _ (row_set 0 _ K0.out))
  have O1 : Hid (Ou (fun k => k = g) (w.alloc (.cells #[.int .u8 0, .int .u8 0, .int .u8 0, .int .u32 0, .int .u32 0, .string ⟨#[]⟩] 26)) (((w.alloc (.cells #[.int .u8 0, .int .u8 0, .int .u8 0, .int .u32 0, .int .u32 0, .string ⟨#[]⟩] 26)).setCell ⟨g, 0, none⟩ (.int .u8 2)).setCell ⟨g, 3, none⟩ (.string b))) := hid (((Ou.refl (fun k => k = g) _).set rfl).set rfl)
  clear h b1 zf hst
  go_enter Try.func15, Try.ntmps15
  go_wp2_with fail
  generalize (w.alloc (.cells #[.int .u8 0, .int .u8 0, .int .u8 0, .int .u32 0, .int .u32 0, .string ⟨#[]⟩] 26)) = W at *
  refine (isCl_c _ _).mono ?_
  rintro _ w1 ⟨rfl, h1⟩
  rw [h1, hd]
  go_wp2_with (go_at_call 25; refine (AC.out _ K1.out).mono ?_; rintro _ w6 ⟨rfl, hb6⟩; rw [show Fr.val ⟨2, 0, 1, (F 1).ep, (F 1).num, b⟩ = .agg #[.int .u8 2, .int .u8 0, .int .u8 1, .int .u32 (F 1).ep, .int .u32 (F 1).num, .string b] from rfl]; (have K6 := hid (K1.out.later hb6)); (have O6 := hid (O1.out.trans (Ou.of hb6))); (obtain ⟨x0, x1, x2, x3, x4, x5, xf⟩ := (Q0.out.out O6.out hne3).cells); (have v0 := xf 0); (have v1 := xf 1); (have v2 := xf 2); (have v3 := xf 3); (have v4 := xf 4); (have v5 := xf 5); clear xf)
  refine bodyPost_ret (v := .tuple #[Fr.val ⟨2, 0, 1, (F 1).ep, (F 1).num, b⟩, .int .i64 0]) (by simp [results, Try.results15, go_sem, Fr.val, zpk, x0, x1, x2, x3, x4, x5]) rfl ⟨rfl, ?_, ?_⟩
  · exact IsK.out (S := fun k => k = w.heap.size) K6.out (((((((Ou.refl (fun k => k = w.heap.size) _).set rfl).set rfl).set rfl).set rfl).set rfl).set rfl) hne1
  · exact ou_newS B0.out (((((((O6.out.mono (T := fun k => k = g ∨ k = w.heap.size) (fun _ e => .inl e)).set (.inr rfl)).set (.inr rfl)).set (.inr rfl)).set (.inr rfl)).set (.inr rfl)).set (.inr rfl)) (fun k e => e.elim .inl fun e => .inr (by omega))
set_option maxHeartbeats 2000000 in
theorem reply_2_n {w : World} {g : Nat} {F : Nat → Tk} (h : IsK w g F) (b : ByteArray) (hst : (F 2).st ≠ 1) :
    Calls Try.prog 15 #[pC g, .int .u8 2, .string b] w fun x w' => x = .returned (.tuple #[Fr.val zpk, .int .i64 5]) ∧ Below w.heap.size w w' := by
  have hlt := h.lt
  have hd : (decide ((1 : Int) ≤ 2) && decide ((2 : Int) ≤ 3)) = true := by decide
  have b1 : Below w.heap.size w (w.alloc (.cells #[.int .u8 0, .int .u8 0, .int .u8 0, .int .u32 0, .int .u32 0, .string ⟨#[]⟩] 26)) := (Below.refl _ _).alloc (Nat.le_refl _) _
  have Q0 : Hid (PkAt (w.alloc (.cells #[.int .u8 0, .int .u8 0, .int .u8 0, .int .u32 0, .int .u32 0, .string ⟨#[]⟩] 26)) w.heap.size zpk) := PkAt.new w zpk
  have K0 := hid (h.later b1)
  have B0 := hid b1
  obtain ⟨c0, c1, c2, c3⟩ := (h.later b1).at2
  obtain ⟨z0, z1, z2, z3, z4, z5, zf⟩ := Q0.out.cells
  have y0 := zf 0
  have y1 := zf 1
  have y2 := zf 2
  have y3 := zf 3
  have y4 := zf 4
  have y5 := zf 5
  have f0 := K0.out.fz 4
  have f3 := K0.out.fz 7
  have hne1 : ¬ g = w.heap.size := by omega
  have hne3 : ¬ w.heap.size = g := by omega
  have hb : ((F 2).st != 1) = true := by rw [bne_iff_ne]; exact hst
  clear h b1 zf hst
  go_enter Try.func15, Try.ntmps15
  go_wp2_with fail
  generalize (w.alloc (.cells #[.int .u8 0, .int .u8 0, .int .u8 0, .int .u32 0, .int .u32 0, .string ⟨#[]⟩] 26)) = W at *
  refine (isCl_c _ _).mono ?_
  rintro _ w1 ⟨rfl, h1⟩
  rw [h1, hd]
  go_wp2
  refine bodyPost_ret (v := .tuple #[Fr.val zpk, .int .i64 5]) (by simp [results, Try.results15, go_sem, Fr.val, zpk, z0, z1, z2, z3, z4, z5]) rfl ⟨rfl, ?_⟩
  exact (ou_newS (S := fun _ => False) B0.out (((((((Ou.refl (fun k => k = w.heap.size) _).set rfl).set rfl).set rfl).set rfl).set rfl).set rfl) (fun k e => .inr (by omega))).below (Nat.le_refl _) (fun k e => e.elim)
set_option maxHeartbeats 2000000 in
theorem reply_2_l {w : World} {g : Nat} {F : Nat → Tk} (h : IsK w g F) (b : ByteArray) (hst : (F 2).st = 1) (hl : 16384 < b.size) :
    Calls Try.prog 15 #[pC g, .int .u8 2, .string b] w fun x w' => x = .returned (.tuple #[Fr.val zpk, .int .i64 3]) ∧ Below w.heap.size w w' := by
  have hlt := h.lt
  have hd : (decide ((1 : Int) ≤ 2) && decide ((2 : Int) ≤ 3)) = true := by decide
  have b1 : Below w.heap.size w (w.alloc (.cells #[.int .u8 0, .int .u8 0, .int .u8 0, .int .u32 0, .int .u32 0, .string ⟨#[]⟩] 26)) := (Below.refl _ _).alloc (Nat.le_refl _) _
  have Q0 : Hid (PkAt (w.alloc (.cells #[.int .u8 0, .int .u8 0, .int .u8 0, .int .u32 0, .int .u32 0, .string ⟨#[]⟩] 26)) w.heap.size zpk) := PkAt.new w zpk
  have K0 := hid (h.later b1)
  have B0 := hid b1
  obtain ⟨c0, c1, c2, c3⟩ := (h.later b1).at2
  obtain ⟨z0, z1, z2, z3, z4, z5, zf⟩ := Q0.out.cells
  have y0 := zf 0
  have y1 := zf 1
  have y2 := zf 2
  have y3 := zf 3
  have y4 := zf 4
  have y5 := zf 5
  have f0 := K0.out.fz 4
  have f3 := K0.out.fz 7
  have hne1 : ¬ g = w.heap.size := by omega
  have hne3 : ¬ w.heap.size = g := by omega
  have hb : ((F 2).st != 1) = false := by rw [hst]; rfl
  have hl' : (16384 : Int) < b.size := by omega
  clear h b1 zf hst
  go_enter Try.func15, Try.ntmps15
  go_wp2_with fail
  generalize (w.alloc (.cells #[.int .u8 0, .int .u8 0, .int .u8 0, .int .u32 0, .int .u32 0, .string ⟨#[]⟩] 26)) = W at *
  refine (isCl_c _ _).mono ?_
  rintro _ w1 ⟨rfl, h1⟩
  rw [h1, hd]
  go_wp2
  refine bodyPost_ret (v := .tuple #[Fr.val zpk, .int .i64 3]) (by simp [results, Try.results15, go_sem, Fr.val, zpk, z0, z1, z2, z3, z4, z5]) rfl ⟨rfl, ?_⟩
  exact (ou_newS (S := fun _ => False) B0.out (((((((Ou.refl (fun k => k = w.heap.size) _).set rfl).set rfl).set rfl).set rfl).set rfl).set rfl) (fun k e => .inr (by omega))).below (Nat.le_refl _) (fun k e => e.elim)
set_option maxHeartbeats 2000000 in
theorem reply_2_y {w : World} {g : Nat} {F : Nat → Tk} (h : IsK w g F) (b : ByteArray) (hst : (F 2).st = 1) (hl : b.size ≤ 16384) :
    Calls Try.prog 15 #[pC g, .int .u8 2, .string b] w fun x w' => x = .returned (.tuple #[Fr.val ⟨2, 0, 2, (F 2).ep, (F 2).num, b⟩, .int .i64 0]) ∧ IsK w' g (updK F 2 ⟨2, (F 2).ep, (F 2).num, b⟩) ∧ Ou (fun k => k = g) w w' := by
  have hlt := h.lt
  have hd : (decide ((1 : Int) ≤ 2) && decide ((2 : Int) ≤ 3)) = true := by decide
  have b1 : Below w.heap.size w (w.alloc (.cells #[.int .u8 0, .int .u8 0, .int .u8 0, .int .u32 0, .int .u32 0, .string ⟨#[]⟩] 26)) := (Below.refl _ _).alloc (Nat.le_refl _) _
  have Q0 : Hid (PkAt (w.alloc (.cells #[.int .u8 0, .int .u8 0, .int .u8 0, .int .u32 0, .int .u32 0, .string ⟨#[]⟩] 26)) w.heap.size zpk) := PkAt.new w zpk
  have K0 := hid (h.later b1)
  have B0 := hid b1
  obtain ⟨c0, c1, c2, c3⟩ := (h.later b1).at2
  obtain ⟨z0, z1, z2, z3, z4, z5, zf⟩ := Q0.out.cells
  have y0 := zf 0
  have y1 := zf 1
  have y2 := zf 2
  have y3 := zf 3
  have y4 := zf 4
  have y5 := zf 5
  have f0 := K0.out.fz 4
  have f3 := K0.out.fz 7
  have hne1 : ¬ g = w.heap.size := by omega
  have hne3 : ¬ w.heap.size = g := by omega
  have hb : ((F 2).st != 1) = false := by rw [hst]; rfl
  have hl' : (b.size : Int) ≤ 16384 := by omega
  have AC : Hid (∀ W, IsK W g (updK F 2 ⟨2, (F 2).ep, (F 2).num, b⟩) → Calls Try.prog 25 #[.pointer (some ⟨g, 4, none⟩), .int .u8 2] W fun x w' => x = .returned (Fr.val ⟨2, 0, 2, (F 2).ep, (F 2).num, b⟩) ∧ Below W.heap.size W w') := fun W hW => answer_c _ _ _ hW.lt hW.at2.2.1 hW.at2.2.2.1 hW.at2.2.2.2 2
  have K1 : Hid (IsK (((w.alloc (.cells #[.int .u8 0, .int .u8 0, .int .u8 0, .int .u32 0, .int .u32 0, .string ⟨#[]⟩] 26)).setCell ⟨g, 4, none⟩ (.int .u8 2)).setCell ⟨g, 7, none⟩ (.string b)) g (updK F 2 ⟨2, (F 2).ep, (F 2).num, b⟩)) := hid (row_set 7 _ (row_set 4 _ K0.out))
  have O1 : Hid (Ou (fun k => k = g) (w.alloc (.cells #[.int .u8 0, .int .u8 0, .int .u8 0, .int .u32 0, .int .u32 0, .string ⟨#[]⟩] 26)) (((w.alloc (.cells #[.int .u8 0, .int .u8 0, .int .u8 0, .int .u32 0, .int .u32 0, .string ⟨#[]⟩] 26)).setCell ⟨g, 4, none⟩ (.int .u8 2)).setCell ⟨g, 7, none⟩ (.string b))) := hid (((Ou.refl (fun k => k = g) _).set rfl).set rfl)
  clear h b1 zf hst
  go_enter Try.func15, Try.ntmps15
  go_wp2_with fail
  generalize (w.alloc (.cells #[.int .u8 0, .int .u8 0, .int .u8 0, .int .u32 0, .int .u32 0, .string ⟨#[]⟩] 26)) = W at *
  refine (isCl_c _ _).mono ?_
  rintro _ w1 ⟨rfl, h1⟩
  rw [h1, hd]
  go_wp2_with (go_at_call 25; refine (AC.out _ K1.out).mono ?_; rintro _ w6 ⟨rfl, hb6⟩; rw [show Fr.val ⟨2, 0, 2, (F 2).ep, (F 2).num, b⟩ = .agg #[.int .u8 2, .int .u8 0, .int .u8 2, .int .u32 (F 2).ep, .int .u32 (F 2).num, .string b] from rfl]; (have K6 := hid (K1.out.later hb6)); (have O6 := hid (O1.out.trans (Ou.of hb6))); (obtain ⟨x0, x1, x2, x3, x4, x5, xf⟩ := (Q0.out.out O6.out hne3).cells); (have v0 := xf 0); (have v1 := xf 1); (have v2 := xf 2); (have v3 := xf 3); (have v4 := xf 4); (have v5 := xf 5); clear xf)
  refine bodyPost_ret (v := .tuple #[Fr.val ⟨2, 0, 2, (F 2).ep, (F 2).num, b⟩, .int .i64 0]) (by simp [results, Try.results15, go_sem, Fr.val, zpk, x0, x1, x2, x3, x4, x5]) rfl ⟨rfl, ?_, ?_⟩
  · exact IsK.out (S := fun k => k = w.heap.size) K6.out (((((((Ou.refl (fun k => k = w.heap.size) _).set rfl).set rfl).set rfl).set rfl).set rfl).set rfl) hne1
  · exact ou_newS B0.out (((((((O6.out.mono (T := fun k => k = g ∨ k = w.heap.size) (fun _ e => .inl e)).set (.inr rfl)).set (.inr rfl)).set (.inr rfl)).set (.inr rfl)).set (.inr rfl)).set (.inr rfl)) (fun k e => e.elim .inl fun e => .inr (by omega))
set_option maxHeartbeats 2000000 in
theorem reply_3_n {w : World} {g : Nat} {F : Nat → Tk} (h : IsK w g F) (b : ByteArray) (hst : (F 3).st ≠ 1) :
    Calls Try.prog 15 #[pC g, .int .u8 3, .string b] w fun x w' => x = .returned (.tuple #[Fr.val zpk, .int .i64 5]) ∧ Below w.heap.size w w' := by
  have hlt := h.lt
  have hd : (decide ((1 : Int) ≤ 3) && decide ((3 : Int) ≤ 3)) = true := by decide
  have b1 : Below w.heap.size w (w.alloc (.cells #[.int .u8 0, .int .u8 0, .int .u8 0, .int .u32 0, .int .u32 0, .string ⟨#[]⟩] 26)) := (Below.refl _ _).alloc (Nat.le_refl _) _
  have Q0 : Hid (PkAt (w.alloc (.cells #[.int .u8 0, .int .u8 0, .int .u8 0, .int .u32 0, .int .u32 0, .string ⟨#[]⟩] 26)) w.heap.size zpk) := PkAt.new w zpk
  have K0 := hid (h.later b1)
  have B0 := hid b1
  obtain ⟨c0, c1, c2, c3⟩ := (h.later b1).at3
  obtain ⟨z0, z1, z2, z3, z4, z5, zf⟩ := Q0.out.cells
  have y0 := zf 0
  have y1 := zf 1
  have y2 := zf 2
  have y3 := zf 3
  have y4 := zf 4
  have y5 := zf 5
  have f0 := K0.out.fz 8
  have f3 := K0.out.fz 11
  have hne1 : ¬ g = w.heap.size := by omega
  have hne3 : ¬ w.heap.size = g := by omega
  have hb : ((F 3).st != 1) = true := by rw [bne_iff_ne]; exact hst
  clear h b1 zf hst
  go_enter Try.func15, Try.ntmps15
  go_wp2_with fail
  generalize (w.alloc (.cells #[.int .u8 0, .int .u8 0, .int .u8 0, .int .u32 0, .int .u32 0, .string ⟨#[]⟩] 26)) = W at *
  refine (isCl_c _ _).mono ?_
  rintro _ w1 ⟨rfl, h1⟩
  rw [h1, hd]
  go_wp2
  refine bodyPost_ret (v := .tuple #[Fr.val zpk, .int .i64 5]) (by simp [results, Try.results15, go_sem, Fr.val, zpk, z0, z1, z2, z3, z4, z5]) rfl ⟨rfl, ?_⟩
  exact (ou_newS (S := fun _ => False) B0.out (((((((Ou.refl (fun k => k = w.heap.size) _).set rfl).set rfl).set rfl).set rfl).set rfl).set rfl) (fun k e => .inr (by omega))).below (Nat.le_refl _) (fun k e => e.elim)
set_option maxHeartbeats 2000000 in
theorem reply_3_l {w : World} {g : Nat} {F : Nat → Tk} (h : IsK w g F) (b : ByteArray) (hst : (F 3).st = 1) (hl : 16384 < b.size) :
    Calls Try.prog 15 #[pC g, .int .u8 3, .string b] w fun x w' => x = .returned (.tuple #[Fr.val zpk, .int .i64 3]) ∧ Below w.heap.size w w' := by
  have hlt := h.lt
  have hd : (decide ((1 : Int) ≤ 3) && decide ((3 : Int) ≤ 3)) = true := by decide
  have b1 : Below w.heap.size w (w.alloc (.cells #[.int .u8 0, .int .u8 0, .int .u8 0, .int .u32 0, .int .u32 0, .string ⟨#[]⟩] 26)) := (Below.refl _ _).alloc (Nat.le_refl _) _
  have Q0 : Hid (PkAt (w.alloc (.cells #[.int .u8 0, .int .u8 0, .int .u8 0, .int .u32 0, .int .u32 0, .string ⟨#[]⟩] 26)) w.heap.size zpk) := PkAt.new w zpk
  have K0 := hid (h.later b1)
  have B0 := hid b1
  obtain ⟨c0, c1, c2, c3⟩ := (h.later b1).at3
  obtain ⟨z0, z1, z2, z3, z4, z5, zf⟩ := Q0.out.cells
  have y0 := zf 0
  have y1 := zf 1
  have y2 := zf 2
  have y3 := zf 3
  have y4 := zf 4
  have y5 := zf 5
  have f0 := K0.out.fz 8
  have f3 := K0.out.fz 11
  have hne1 : ¬ g = w.heap.size := by omega
  have hne3 : ¬ w.heap.size = g := by omega
  have hb : ((F 3).st != 1) = false := by rw [hst]; rfl
  have hl' : (16384 : Int) < b.size := by omega
  clear h b1 zf hst
  go_enter Try.func15, Try.ntmps15
  go_wp2_with fail
  generalize (w.alloc (.cells #[.int .u8 0, .int .u8 0, .int .u8 0, .int .u32 0, .int .u32 0, .string ⟨#[]⟩] 26)) = W at *
  refine (isCl_c _ _).mono ?_
  rintro _ w1 ⟨rfl, h1⟩
  rw [h1, hd]
  go_wp2
  refine bodyPost_ret (v := .tuple #[Fr.val zpk, .int .i64 3]) (by simp [results, Try.results15, go_sem, Fr.val, zpk, z0, z1, z2, z3, z4, z5]) rfl ⟨rfl, ?_⟩
  exact (ou_newS (S := fun _ => False) B0.out (((((((Ou.refl (fun k => k = w.heap.size) _).set rfl).set rfl).set rfl).set rfl).set rfl).set rfl) (fun k e => .inr (by omega))).below (Nat.le_refl _) (fun k e => e.elim)
set_option maxHeartbeats 2000000 in
theorem reply_3_y {w : World} {g : Nat} {F : Nat → Tk} (h : IsK w g F) (b : ByteArray) (hst : (F 3).st = 1) (hl : b.size ≤ 16384) :
    Calls Try.prog 15 #[pC g, .int .u8 3, .string b] w fun x w' => x = .returned (.tuple #[Fr.val ⟨2, 0, 3, (F 3).ep, (F 3).num, b⟩, .int .i64 0]) ∧ IsK w' g (updK F 3 ⟨2, (F 3).ep, (F 3).num, b⟩) ∧ Ou (fun k => k = g) w w' := by
  have hlt := h.lt
  have hd : (decide ((1 : Int) ≤ 3) && decide ((3 : Int) ≤ 3)) = true := by decide
  have b1 : Below w.heap.size w (w.alloc (.cells #[.int .u8 0, .int .u8 0, .int .u8 0, .int .u32 0, .int .u32 0, .string ⟨#[]⟩] 26)) := (Below.refl _ _).alloc (Nat.le_refl _) _
  have Q0 : Hid (PkAt (w.alloc (.cells #[.int .u8 0, .int .u8 0, .int .u8 0, .int .u32 0, .int .u32 0, .string ⟨#[]⟩] 26)) w.heap.size zpk) := PkAt.new w zpk
  have K0 := hid (h.later b1)
  have B0 := hid b1
  obtain ⟨c0, c1, c2, c3⟩ := (h.later b1).at3
  obtain ⟨z0, z1, z2, z3, z4, z5, zf⟩ := Q0.out.cells
  have y0 := zf 0
  have y1 := zf 1
  have y2 := zf 2
  have y3 := zf 3
  have y4 := zf 4
  have y5 := zf 5
  have f0 := K0.out.fz 8
  have f3 := K0.out.fz 11
  have hne1 : ¬ g = w.heap.size := by omega
  have hne3 : ¬ w.heap.size = g := by omega
  have hb : ((F 3).st != 1) = false := by rw [hst]; rfl
  have hl' : (b.size : Int) ≤ 16384 := by omega
  have AC : Hid (∀ W, IsK W g (updK F 3 ⟨2, (F 3).ep, (F 3).num, b⟩) → Calls Try.prog 25 #[.pointer (some ⟨g, 8, none⟩), .int .u8 3] W fun x w' => x = .returned (Fr.val ⟨2, 0, 3, (F 3).ep, (F 3).num, b⟩) ∧ Below W.heap.size W w') := fun W hW => answer_c _ _ _ hW.lt hW.at3.2.1 hW.at3.2.2.1 hW.at3.2.2.2 3
  have K1 : Hid (IsK (((w.alloc (.cells #[.int .u8 0, .int .u8 0, .int .u8 0, .int .u32 0, .int .u32 0, .string ⟨#[]⟩] 26)).setCell ⟨g, 8, none⟩ (.int .u8 2)).setCell ⟨g, 11, none⟩ (.string b)) g (updK F 3 ⟨2, (F 3).ep, (F 3).num, b⟩)) := hid (row_set 11 _ (row_set 8 _ K0.out))
  have O1 : Hid (Ou (fun k => k = g) (w.alloc (.cells #[.int .u8 0, .int .u8 0, .int .u8 0, .int .u32 0, .int .u32 0, .string ⟨#[]⟩] 26)) (((w.alloc (.cells #[.int .u8 0, .int .u8 0, .int .u8 0, .int .u32 0, .int .u32 0, .string ⟨#[]⟩] 26)).setCell ⟨g, 8, none⟩ (.int .u8 2)).setCell ⟨g, 11, none⟩ (.string b))) := hid (((Ou.refl (fun k => k = g) _).set rfl).set rfl)
  clear h b1 zf hst
  go_enter Try.func15, Try.ntmps15
  go_wp2_with fail
  generalize (w.alloc (.cells #[.int .u8 0, .int .u8 0, .int .u8 0, .int .u32 0, .int .u32 0, .string ⟨#[]⟩] 26)) = W at *
  refine (isCl_c _ _).mono ?_
  rintro _ w1 ⟨rfl, h1⟩
  rw [h1, hd]
  go_wp2_with (go_at_call 25; refine (AC.out _ K1.out).mono ?_; rintro _ w6 ⟨rfl, hb6⟩; rw [show Fr.val ⟨2, 0, 3, (F 3).ep, (F 3).num, b⟩ = .agg #[.int .u8 2, .int .u8 0, .int .u8 3, .int .u32 (F 3).ep, .int .u32 (F 3).num, .string b] from rfl]; (have K6 := hid (K1.out.later hb6)); (have O6 := hid (O1.out.trans (Ou.of hb6))); (obtain ⟨x0, x1, x2, x3, x4, x5, xf⟩ := (Q0.out.out O6.out hne3).cells); (have v0 := xf 0); (have v1 := xf 1); (have v2 := xf 2); (have v3 := xf 3); (have v4 := xf 4); (have v5 := xf 5); clear xf)
  refine bodyPost_ret (v := .tuple #[Fr.val ⟨2, 0, 3, (F 3).ep, (F 3).num, b⟩, .int .i64 0]) (by simp [results, Try.results15, go_sem, Fr.val, zpk, x0, x1, x2, x3, x4, x5]) rfl ⟨rfl, ?_, ?_⟩
  · exact IsK.out (S := fun k => k = w.heap.size) K6.out (((((((Ou.refl (fun k => k = w.heap.size) _).set rfl).set rfl).set rfl).set rfl).set rfl).set rfl) hne1
  · exact ou_newS B0.out (((((((O6.out.mono (T := fun k => k = g ∨ k = w.heap.size) (fun _ e => .inl e)).set (.inr rfl)).set (.inr rfl)).set (.inr rfl)).set (.inr rfl)).set (.inr rfl)).set (.inr rfl)) (fun k e => e.elim .inl fun e => .inr (by omega))
/-- What Reply answers, and what the callee is then. -/
def rpE (F : Nat → Tk) (n : Int) (b : ByteArray) : Int := if n < 1 ∨ 3 < n then 2 else if (F n.toNat).st ≠ 1 then 5 else if 16384 < b.size then 3 else 0
def rpPk (F : Nat → Tk) (n : Int) (b : ByteArray) : Fr.Pk := if rpE F n b = 0 then ⟨2, 0, n, (F n.toNat).ep, (F n.toNat).num, b⟩ else zpk
def rpS (F : Nat → Tk) (n : Int) (b : ByteArray) : Nat → Tk := if rpE F n b = 0 then updK F n.toNat ⟨2, (F n.toNat).ep, (F n.toNat).num, b⟩ else F
def RpPost (w : World) (g : Nat) (F : Nat → Tk) (n : Int) (b : ByteArray) (x : Ending) (w' : World) : Prop :=
  x = .returned (.tuple #[Fr.val (rpPk F n b), .int .i64 (rpE F n b)]) ∧ IsK w' g (rpS F n b) ∧ Ou (fun k => k = g) w w'
theorem rp_no {w w' : World} {g : Nat} {F : Nat → Tk} {n : Int} {b : ByteArray} {x : Ending} {er : Int} (hK : IsK w g F) (h1 : rpE F n b = er) (h2 : er ≠ 0) (h : x = .returned (.tuple #[Fr.val zpk, .int .i64 er]) ∧ Below w.heap.size w w') : RpPost w g F n b x w' := by
  unfold RpPost rpPk rpS
  rw [h1, if_neg h2, if_neg h2]
  exact ⟨h.1, hK.later h.2, Ou.of h.2⟩
theorem rp_yes {w w' : World} {g : Nat} {F : Nat → Tk} {n : Int} {b : ByteArray} {x : Ending} (h1 : rpE F n b = 0) (h : x = .returned (.tuple #[Fr.val ⟨2, 0, n, (F n.toNat).ep, (F n.toNat).num, b⟩, .int .i64 0]) ∧ IsK w' g (updK F n.toNat ⟨2, (F n.toNat).ep, (F n.toNat).num, b⟩) ∧ Ou (fun k => k = g) w w') : RpPost w g F n b x w' := by
  unfold RpPost rpPk rpS
  rw [h1, if_pos rfl, if_pos rfl]
  exact h
theorem reply_c {w : World} {g : Nat} {F : Nat → Tk} (h : IsK w g F) (n : Int) (b : ByteArray) :
    Calls Try.prog 15 #[pC g, .int .u8 n, .string b] w (RpPost w g F n b) := by
  by_cases hn : n < 1 ∨ 3 < n
  · exact (reply_who g n b w hn).mono fun x w' q => rp_no h (by unfold rpE; rw [if_pos hn]) (by decide) q
  · have hc : n = 1 ∨ n = 2 ∨ n = 3 := by omega
    by_cases hst : (F n.toNat).st = 1
    · by_cases hl : 16384 < b.size
      · have e : rpE F n b = 3 := by unfold rpE; rw [if_neg hn, if_neg (by rw [hst]; decide), if_pos hl]
        rcases hc with rfl | rfl | rfl
        · exact (reply_1_l h b hst hl).mono fun x w' q => rp_no h e (by decide) q
        · exact (reply_2_l h b hst hl).mono fun x w' q => rp_no h e (by decide) q
        · exact (reply_3_l h b hst hl).mono fun x w' q => rp_no h e (by decide) q
      · have e : rpE F n b = 0 := by unfold rpE; rw [if_neg hn, if_neg (by rw [hst]; decide), if_neg hl]
        rcases hc with rfl | rfl | rfl
        · exact (reply_1_y h b hst (by omega)).mono fun x w' q => rp_yes e q
        · exact (reply_2_y h b hst (by omega)).mono fun x w' q => rp_yes e q
        · exact (reply_3_y h b hst (by omega)).mono fun x w' q => rp_yes e q
    · have e : rpE F n b = 5 := by unfold rpE; rw [if_neg hn, if_pos hst]
      rcases hc with rfl | rfl | rfl
      · exact (reply_1_n h b hst).mono fun x w' q => rp_no h e (by decide) q
      · exact (reply_2_n h b hst).mono fun x w' q => rp_no h e (by decide) q
      · exact (reply_3_n h b hst).mono fun x w' q => rp_no h e (by decide) q
end Go.Proofs.Ytmoeljieafninaa
