/-
  The document's callee: what is no Ask; Reply.
-/
import Derived.Test.YtjgpolaogneoaaaRRk
namespace Go.Proofs.Ytjgpolaogneoaaa
open Go.RowKit Go.ChangeShapes Go.WideShapes Go.ChangeAt
set_option linter.unusedVariables false
set_option linter.unusedSimpArgs false
set_option maxRecDepth 100000
set_option maxHeartbeats 4000000 in
theorem rkt_r (g : Nat) (k f t e s : Int) (b : ByteArray) (w : World) (hp : Fr.Wf ⟨k, f, t, e, s, b⟩) (hs : b.size ≤ maxLen) (hr : Fr.rightB ⟨k, f, t, e, s, b⟩ = false) :
    Calls Try.prog 40 #[pC g, .agg #[.int .u8 k, .int .u8 f, .int .u8 t, .int .u32 e, .int .u32 s, .string b]] w fun x w' => x = .returned (.tuple #[.string ⟨#[]⟩, .bool false, Fr.val zpk, .bool false]) ∧ Below w.heap.size w w' := by
  have RC : Hid (∀ W, Calls Try.prog 49 #[.agg #[.int .u8 k, .int .u8 f, .int .u8 t, .int .u32 e, .int .u32 s, .string b]] W fun x w' => x = .returned (.bool false) ∧ Below W.heap.size W w') := fun W => by
    have := rright_c ⟨k, f, t, e, s, b⟩ hp hs W
    rw [hr] at this
    exact this
  clear hr
  have b1 : Below w.heap.size w (w.alloc (.cells #[.int .u8 k, .int .u8 f, .int .u8 t, .int .u32 e, .int .u32 s, .string b] 39)) := (Below.refl _ _).alloc (Nat.le_refl _) _
  have P1 := PkAt.new w ⟨k, f, t, e, s, b⟩
  have b2 : Below (w.alloc (.cells #[.int .u8 k, .int .u8 f, .int .u8 t, .int .u32 e, .int .u32 s, .string b] 39)).heap.size (w.alloc (.cells #[.int .u8 k, .int .u8 f, .int .u8 t, .int .u32 e, .int .u32 s, .string b] 39)) ((w.alloc (.cells #[.int .u8 k, .int .u8 f, .int .u8 t, .int .u32 e, .int .u32 s, .string b] 39)).alloc (.cells #[.int .u8 0, .int .u8 0, .int .u8 0, .int .u32 0, .int .u32 0, .string ⟨#[]⟩] 39)) := (Below.refl _ _).alloc (Nat.le_refl _) _
  have P2 : PkAt ((w.alloc (.cells #[.int .u8 k, .int .u8 f, .int .u8 t, .int .u32 e, .int .u32 s, .string b] 39)).alloc (.cells #[.int .u8 0, .int .u8 0, .int .u8 0, .int .u32 0, .int .u32 0, .string ⟨#[]⟩] 39)) (w.heap.size + 1) zpk := by
    have e0 : (w.alloc (.cells #[.int .u8 k, .int .u8 f, .int .u8 t, .int .u32 e, .int .u32 s, .string b] 39)).heap.size = w.heap.size + 1 := by simp
    rw [← e0]
    exact PkAt.new _ zpk
  have P0 : Hid (PkAt ((w.alloc (.cells #[.int .u8 k, .int .u8 f, .int .u8 t, .int .u32 e, .int .u32 s, .string b] 39)).alloc (.cells #[.int .u8 0, .int .u8 0, .int .u8 0, .int .u32 0, .int .u32 0, .string ⟨#[]⟩] 39)) w.heap.size ⟨k, f, t, e, s, b⟩) := hid (P1.later b2)
  have Q0 := hid P2
  have B0 : Hid (Below w.heap.size w ((w.alloc (.cells #[.int .u8 k, .int .u8 f, .int .u8 t, .int .u32 e, .int .u32 s, .string b] 39)).alloc (.cells #[.int .u8 0, .int .u8 0, .int .u8 0, .int .u32 0, .int .u32 0, .string ⟨#[]⟩] 39))) := hid (b1.trans (b2.mono b1.size))
  clear hp hs b1 P1 b2 P2
  go_enter Try.func40, Try.ntmps40
  go_upto_region 1 with fail
  generalize ((w.alloc (.cells #[.int .u8 k, .int .u8 f, .int .u8 t, .int .u32 e, .int .u32 s, .string b] 39)).alloc (.cells #[.int .u8 0, .int .u8 0, .int .u8 0, .int .u32 0, .int .u32 0, .string ⟨#[]⟩] 39)) = W at *
  obtain ⟨a0, a1, a2, a3, a4, a5, _⟩ := P0.out.cells
  simp only at a0 a1 a2 a3 a4 a5
  go_wp2_with (go_at_call 49; refine (RC.out _).mono ?_; rintro _ w2 ⟨rfl, hb2⟩; (have B2 := hid (B0.out.trans (hb2.mono B0.out.size))); (obtain ⟨z0, z1, z2, z3, z4, z5, zf⟩ := (Q0.out.later hb2).cells); (have y0 := zf 0); (have y1 := zf 1); (have y2 := zf 2); (have y3 := zf 3); (have y4 := zf 4); (have y5 := zf 5); clear zf a0 a1 a2 a3 a4 a5; (obtain ⟨a0, a1, a2, a3, a4, a5, _⟩ := (P0.out.later hb2).cells); simp only at a0 a1 a2 a3 a4 a5)
  refine bodyPost_ret (v := .tuple #[.string ⟨#[]⟩, .bool false, Fr.val zpk, .bool false]) (by simp [results, Try.results40, go_sem, Fr.val, zpk, z0, z1, z2, z3, z4, z5]) rfl ⟨rfl, ?_⟩
  exact (ou_newS (S := fun _ => False) B2.out (((((((Ou.refl (fun k => k = w.heap.size + 1) _).set rfl).set rfl).set rfl).set rfl).set rfl).set rfl) (fun k e => .inr (by omega))).below (Nat.le_refl _) (fun k e => e.elim)
set_option maxHeartbeats 4000000 in
theorem rkt_k (g : Nat) (k f t e s : Int) (b : ByteArray) (w : World) (hp : Fr.Wf ⟨k, f, t, e, s, b⟩) (hs : b.size ≤ maxLen) (hr : Fr.rightB ⟨k, f, t, e, s, b⟩ = true) (hk : (k != 1) = true) :
    Calls Try.prog 40 #[pC g, .agg #[.int .u8 k, .int .u8 f, .int .u8 t, .int .u32 e, .int .u32 s, .string b]] w fun x w' => x = .returned (.tuple #[.string ⟨#[]⟩, .bool false, Fr.val zpk, .bool false]) ∧ Below w.heap.size w w' := by
  have RC : Hid (∀ W, Calls Try.prog 49 #[.agg #[.int .u8 k, .int .u8 f, .int .u8 t, .int .u32 e, .int .u32 s, .string b]] W fun x w' => x = .returned (.bool true) ∧ Below W.heap.size W w') := fun W => by
    have := rright_c ⟨k, f, t, e, s, b⟩ hp hs W
    rw [hr] at this
    exact this
  clear hr
  have b1 : Below w.heap.size w (w.alloc (.cells #[.int .u8 k, .int .u8 f, .int .u8 t, .int .u32 e, .int .u32 s, .string b] 39)) := (Below.refl _ _).alloc (Nat.le_refl _) _
  have P1 := PkAt.new w ⟨k, f, t, e, s, b⟩
  have b2 : Below (w.alloc (.cells #[.int .u8 k, .int .u8 f, .int .u8 t, .int .u32 e, .int .u32 s, .string b] 39)).heap.size (w.alloc (.cells #[.int .u8 k, .int .u8 f, .int .u8 t, .int .u32 e, .int .u32 s, .string b] 39)) ((w.alloc (.cells #[.int .u8 k, .int .u8 f, .int .u8 t, .int .u32 e, .int .u32 s, .string b] 39)).alloc (.cells #[.int .u8 0, .int .u8 0, .int .u8 0, .int .u32 0, .int .u32 0, .string ⟨#[]⟩] 39)) := (Below.refl _ _).alloc (Nat.le_refl _) _
  have P2 : PkAt ((w.alloc (.cells #[.int .u8 k, .int .u8 f, .int .u8 t, .int .u32 e, .int .u32 s, .string b] 39)).alloc (.cells #[.int .u8 0, .int .u8 0, .int .u8 0, .int .u32 0, .int .u32 0, .string ⟨#[]⟩] 39)) (w.heap.size + 1) zpk := by
    have e0 : (w.alloc (.cells #[.int .u8 k, .int .u8 f, .int .u8 t, .int .u32 e, .int .u32 s, .string b] 39)).heap.size = w.heap.size + 1 := by simp
    rw [← e0]
    exact PkAt.new _ zpk
  have P0 : Hid (PkAt ((w.alloc (.cells #[.int .u8 k, .int .u8 f, .int .u8 t, .int .u32 e, .int .u32 s, .string b] 39)).alloc (.cells #[.int .u8 0, .int .u8 0, .int .u8 0, .int .u32 0, .int .u32 0, .string ⟨#[]⟩] 39)) w.heap.size ⟨k, f, t, e, s, b⟩) := hid (P1.later b2)
  have Q0 := hid P2
  have B0 : Hid (Below w.heap.size w ((w.alloc (.cells #[.int .u8 k, .int .u8 f, .int .u8 t, .int .u32 e, .int .u32 s, .string b] 39)).alloc (.cells #[.int .u8 0, .int .u8 0, .int .u8 0, .int .u32 0, .int .u32 0, .string ⟨#[]⟩] 39))) := hid (b1.trans (b2.mono b1.size))
  clear hp hs b1 P1 b2 P2
  go_enter Try.func40, Try.ntmps40
  go_upto_region 1 with fail
  generalize ((w.alloc (.cells #[.int .u8 k, .int .u8 f, .int .u8 t, .int .u32 e, .int .u32 s, .string b] 39)).alloc (.cells #[.int .u8 0, .int .u8 0, .int .u8 0, .int .u32 0, .int .u32 0, .string ⟨#[]⟩] 39)) = W at *
  obtain ⟨a0, a1, a2, a3, a4, a5, _⟩ := P0.out.cells
  simp only at a0 a1 a2 a3 a4 a5
  go_wp2_with (go_at_call 49; refine (RC.out _).mono ?_; rintro _ w2 ⟨rfl, hb2⟩; (have B2 := hid (B0.out.trans (hb2.mono B0.out.size))); (obtain ⟨z0, z1, z2, z3, z4, z5, zf⟩ := (Q0.out.later hb2).cells); (have y0 := zf 0); (have y1 := zf 1); (have y2 := zf 2); (have y3 := zf 3); (have y4 := zf 4); (have y5 := zf 5); clear zf a0 a1 a2 a3 a4 a5; (obtain ⟨a0, a1, a2, a3, a4, a5, _⟩ := (P0.out.later hb2).cells); simp only at a0 a1 a2 a3 a4 a5)
  refine bodyPost_ret (v := .tuple #[.string ⟨#[]⟩, .bool false, Fr.val zpk, .bool false]) (by simp [results, Try.results40, go_sem, Fr.val, zpk, z0, z1, z2, z3, z4, z5]) rfl ⟨rfl, ?_⟩
  exact (ou_newS (S := fun _ => False) B2.out (((((((Ou.refl (fun k => k = w.heap.size + 1) _).set rfl).set rfl).set rfl).set rfl).set rfl).set rfl) (fun k e => .inr (by omega))).below (Nat.le_refl _) (fun k e => e.elim)
set_option maxHeartbeats 2000000 in
theorem rrp_1_n {w : World} {g : Nat} {F : Nat → Tk} (h : IsRK w g F) (b : ByteArray) (hst : (F 1).st ≠ 1) :
    Calls Try.prog 41 #[pC g, .int .u8 1, .string b] w fun x w' => x = .returned (.tuple #[Fr.val zpk, .int .i64 5]) ∧ Below w.heap.size w w' := by
  have hlt := h.lt
  have b1 : Below w.heap.size w (w.alloc (.cells #[.int .u8 0, .int .u8 0, .int .u8 0, .int .u32 0, .int .u32 0, .string ⟨#[]⟩] 39)) := (Below.refl _ _).alloc (Nat.le_refl _) _
  have Q0 : Hid (PkAt (w.alloc (.cells #[.int .u8 0, .int .u8 0, .int .u8 0, .int .u32 0, .int .u32 0, .string ⟨#[]⟩] 39)) w.heap.size zpk) := PkAt.new w zpk
  have K0 := hid (h.later b1)
  have B0 := hid b1
  obtain ⟨c0, c1, c2, c3⟩ := (h.later b1).at1
  obtain ⟨z0, z1, z2, z3, z4, z5, zf⟩ := Q0.out.cells
  have y0 := zf 0
  have y1 := zf 1
  have y2 := zf 2
  have y3 := zf 3
  have y4 := zf 4
  have y5 := zf 5
  have f0 := K0.out.fz 4
  have f3 := K0.out.fz 7
  have hne1 : ¬ g = w.heap.size := by omega
  have hne3 : ¬ w.heap.size = g := by omega
  have hb : ((F 1).st != 1) = true := by rw [bne_iff_ne]; exact hst
  clear h b1 zf hst
  go_enter Try.func41, Try.ntmps41
  go_upto_region 1 with fail
  generalize (w.alloc (.cells #[.int .u8 0, .int .u8 0, .int .u8 0, .int .u32 0, .int .u32 0, .string ⟨#[]⟩] 39)) = W at *
  go_wp2
  refine bodyPost_ret (v := .tuple #[Fr.val zpk, .int .i64 5]) (by simp [results, Try.results41, go_sem, Fr.val, zpk, z0, z1, z2, z3, z4, z5]) rfl ⟨rfl, ?_⟩
  exact (ou_newS (S := fun _ => False) B0.out (((((((Ou.refl (fun k => k = w.heap.size) _).set rfl).set rfl).set rfl).set rfl).set rfl).set rfl) (fun k e => .inr (by omega))).below (Nat.le_refl _) (fun k e => e.elim)
set_option maxHeartbeats 2000000 in
theorem rrp_1_l {w : World} {g : Nat} {F : Nat → Tk} (h : IsRK w g F) (b : ByteArray) (hst : (F 1).st = 1) (hl : 16384 < b.size) :
    Calls Try.prog 41 #[pC g, .int .u8 1, .string b] w fun x w' => x = .returned (.tuple #[Fr.val zpk, .int .i64 3]) ∧ Below w.heap.size w w' := by
  have hlt := h.lt
  have b1 : Below w.heap.size w (w.alloc (.cells #[.int .u8 0, .int .u8 0, .int .u8 0, .int .u32 0, .int .u32 0, .string ⟨#[]⟩] 39)) := (Below.refl _ _).alloc (Nat.le_refl _) _
  have Q0 : Hid (PkAt (w.alloc (.cells #[.int .u8 0, .int .u8 0, .int .u8 0, .int .u32 0, .int .u32 0, .string ⟨#[]⟩] 39)) w.heap.size zpk) := PkAt.new w zpk
  have K0 := hid (h.later b1)
  have B0 := hid b1
  obtain ⟨c0, c1, c2, c3⟩ := (h.later b1).at1
  obtain ⟨z0, z1, z2, z3, z4, z5, zf⟩ := Q0.out.cells
  have y0 := zf 0
  have y1 := zf 1
  have y2 := zf 2
  have y3 := zf 3
  have y4 := zf 4
  have y5 := zf 5
  have f0 := K0.out.fz 4
  have f3 := K0.out.fz 7
  have hne1 : ¬ g = w.heap.size := by omega
  have hne3 : ¬ w.heap.size = g := by omega
  have hb : ((F 1).st != 1) = false := by rw [hst]; rfl
  have hl' : (16384 : Int) < b.size := by omega
  clear h b1 zf hst
  go_enter Try.func41, Try.ntmps41
  go_upto_region 1 with fail
  generalize (w.alloc (.cells #[.int .u8 0, .int .u8 0, .int .u8 0, .int .u32 0, .int .u32 0, .string ⟨#[]⟩] 39)) = W at *
  go_wp2
  refine bodyPost_ret (v := .tuple #[Fr.val zpk, .int .i64 3]) (by simp [results, Try.results41, go_sem, Fr.val, zpk, z0, z1, z2, z3, z4, z5]) rfl ⟨rfl, ?_⟩
  exact (ou_newS (S := fun _ => False) B0.out (((((((Ou.refl (fun k => k = w.heap.size) _).set rfl).set rfl).set rfl).set rfl).set rfl).set rfl) (fun k e => .inr (by omega))).below (Nat.le_refl _) (fun k e => e.elim)
set_option maxHeartbeats 2000000 in
theorem rrp_1_y {w : World} {g : Nat} {F : Nat → Tk} (h : IsRK w g F) (b : ByteArray) (hst : (F 1).st = 1) (hl : b.size ≤ 16384) :
    Calls Try.prog 41 #[pC g, .int .u8 1, .string b] w fun x w' => x = .returned (.tuple #[Fr.val ⟨2, 0, 1, (F 1).ep, (F 1).num, b⟩, .int .i64 0]) ∧ IsRK w' g (updK F 1 ⟨2, (F 1).ep, (F 1).num, b⟩) ∧ Ou (fun k => k = g) w w' := by
  have hlt := h.lt
  have b1 : Below w.heap.size w (w.alloc (.cells #[.int .u8 0, .int .u8 0, .int .u8 0, .int .u32 0, .int .u32 0, .string ⟨#[]⟩] 39)) := (Below.refl _ _).alloc (Nat.le_refl _) _
  have Q0 : Hid (PkAt (w.alloc (.cells #[.int .u8 0, .int .u8 0, .int .u8 0, .int .u32 0, .int .u32 0, .string ⟨#[]⟩] 39)) w.heap.size zpk) := PkAt.new w zpk
  have K0 := hid (h.later b1)
  have B0 := hid b1
  obtain ⟨c0, c1, c2, c3⟩ := (h.later b1).at1
  obtain ⟨z0, z1, z2, z3, z4, z5, zf⟩ := Q0.out.cells
  have y0 := zf 0
  have y1 := zf 1
  have y2 := zf 2
  have y3 := zf 3
  have y4 := zf 4
  have y5 := zf 5
  have f0 := K0.out.fz 4
  have f3 := K0.out.fz 7
  have hne1 : ¬ g = w.heap.size := by omega
  have hne3 : ¬ w.heap.size = g := by omega
  have hb : ((F 1).st != 1) = false := by rw [hst]; rfl
  have hl' : (b.size : Int) ≤ 16384 := by omega
  have AC : Hid (∀ W, IsRK W g (updK F 1 ⟨2, (F 1).ep, (F 1).num, b⟩) → Calls Try.prog 50 #[pC g, .int .u8 1] W fun x w' => x = .returned (Fr.val ⟨2, 0, 1, (F 1).ep, (F 1).num, b⟩) ∧ Below W.heap.size W w') := fun W hW => ranswer_1 hW
  have K1 : Hid (IsRK (((w.alloc (.cells #[.int .u8 0, .int .u8 0, .int .u8 0, .int .u32 0, .int .u32 0, .string ⟨#[]⟩] 39)).setCell ⟨g, 4, none⟩ (.int .i64 2)).setCell ⟨g, 7, none⟩ (.string b)) g (updK F 1 ⟨2, (F 1).ep, (F 1).num, b⟩)) := hid (row_set 7 _ (row_set 4 _ K0.out))
  have O1 : Hid (Ou (fun k => k = g) (w.alloc (.cells #[.int .u8 0, .int .u8 0, .int .u8 0, .int .u32 0, .int .u32 0, .string ⟨#[]⟩] 39)) (((w.alloc (.cells #[.int .u8 0, .int .u8 0, .int .u8 0, .int .u32 0, .int .u32 0, .string ⟨#[]⟩] 39)).setCell ⟨g, 4, none⟩ (.int .i64 2)).setCell ⟨g, 7, none⟩ (.string b))) := hid (((Ou.refl (fun k => k = g) _).set rfl).set rfl)
  clear h b1 zf hst
  go_enter Try.func41, Try.ntmps41
  go_upto_region 1 with fail
  generalize (w.alloc (.cells #[.int .u8 0, .int .u8 0, .int .u8 0, .int .u32 0, .int .u32 0, .string ⟨#[]⟩] 39)) = W at *
  go_wp2_with (go_at_call 50; refine (AC.out _ K1.out).mono ?_; rintro _ w6 ⟨rfl, hb6⟩; rw [show Fr.val ⟨2, 0, 1, (F 1).ep, (F 1).num, b⟩ = .agg #[.int .u8 2, .int .u8 0, .int .u8 1, .int .u32 (F 1).ep, .int .u32 (F 1).num, .string b] from rfl]; (have K6 := hid (K1.out.later hb6)); (have O6 := hid (O1.out.trans (Ou.of hb6))); (obtain ⟨x0, x1, x2, x3, x4, x5, xf⟩ := (Q0.out.out O6.out hne3).cells); (have v0 := xf 0); (have v1 := xf 1); (have v2 := xf 2); (have v3 := xf 3); (have v4 := xf 4); (have v5 := xf 5); clear xf)
  refine bodyPost_ret (v := .tuple #[Fr.val ⟨2, 0, 1, (F 1).ep, (F 1).num, b⟩, .int .i64 0]) (by simp [results, Try.results41, go_sem, Fr.val, zpk, x0, x1, x2, x3, x4, x5]) rfl ⟨rfl, ?_, ?_⟩
  · exact IsRK.out (S := fun k => k = w.heap.size) K6.out (((((((Ou.refl (fun k => k = w.heap.size) _).set rfl).set rfl).set rfl).set rfl).set rfl).set rfl) hne1
  · exact ou_newS B0.out (((((((O6.out.mono (T := fun k => k = g ∨ k = w.heap.size) (fun _ e => .inl e)).set (.inr rfl)).set (.inr rfl)).set (.inr rfl)).set (.inr rfl)).set (.inr rfl)).set (.inr rfl)) (fun k e => e.elim .inl fun e => .inr (by omega))
set_option maxHeartbeats 2000000 in
theorem rrp_2_n {w : World} {g : Nat} {F : Nat → Tk} (h : IsRK w g F) (b : ByteArray) (hst : (F 2).st ≠ 1) :
    Calls Try.prog 41 #[pC g, .int .u8 2, .string b] w fun x w' => x = .returned (.tuple #[Fr.val zpk, .int .i64 5]) ∧ Below w.heap.size w w' := by
  have hlt := h.lt
  have b1 : Below w.heap.size w (w.alloc (.cells #[.int .u8 0, .int .u8 0, .int .u8 0, .int .u32 0, .int .u32 0, .string ⟨#[]⟩] 39)) := (Below.refl _ _).alloc (Nat.le_refl _) _
  have Q0 : Hid (PkAt (w.alloc (.cells #[.int .u8 0, .int .u8 0, .int .u8 0, .int .u32 0, .int .u32 0, .string ⟨#[]⟩] 39)) w.heap.size zpk) := PkAt.new w zpk
  have K0 := hid (h.later b1)
  have B0 := hid b1
  obtain ⟨c0, c1, c2, c3⟩ := (h.later b1).at2
  obtain ⟨z0, z1, z2, z3, z4, z5, zf⟩ := Q0.out.cells
  have y0 := zf 0
  have y1 := zf 1
  have y2 := zf 2
  have y3 := zf 3
  have y4 := zf 4
  have y5 := zf 5
  have f0 := K0.out.fz 8
  have f3 := K0.out.fz 11
  have hne1 : ¬ g = w.heap.size := by omega
  have hne3 : ¬ w.heap.size = g := by omega
  have hb : ((F 2).st != 1) = true := by rw [bne_iff_ne]; exact hst
  clear h b1 zf hst
  go_enter Try.func41, Try.ntmps41
  go_upto_region 1 with fail
  generalize (w.alloc (.cells #[.int .u8 0, .int .u8 0, .int .u8 0, .int .u32 0, .int .u32 0, .string ⟨#[]⟩] 39)) = W at *
  go_wp2
  refine bodyPost_ret (v := .tuple #[Fr.val zpk, .int .i64 5]) (by simp [results, Try.results41, go_sem, Fr.val, zpk, z0, z1, z2, z3, z4, z5]) rfl ⟨rfl, ?_⟩
  exact (ou_newS (S := fun _ => False) B0.out (((((((Ou.refl (fun k => k = w.heap.size) _).set rfl).set rfl).set rfl).set rfl).set rfl).set rfl) (fun k e => .inr (by omega))).below (Nat.le_refl _) (fun k e => e.elim)
set_option maxHeartbeats 2000000 in
theorem rrp_2_l {w : World} {g : Nat} {F : Nat → Tk} (h : IsRK w g F) (b : ByteArray) (hst : (F 2).st = 1) (hl : 16384 < b.size) :
    Calls Try.prog 41 #[pC g, .int .u8 2, .string b] w fun x w' => x = .returned (.tuple #[Fr.val zpk, .int .i64 3]) ∧ Below w.heap.size w w' := by
  have hlt := h.lt
  have b1 : Below w.heap.size w (w.alloc (.cells #[.int .u8 0, .int .u8 0, .int .u8 0, .int .u32 0, .int .u32 0, .string ⟨#[]⟩] 39)) := (Below.refl _ _).alloc (Nat.le_refl _) _
  have Q0 : Hid (PkAt (w.alloc (.cells #[.int .u8 0, .int .u8 0, .int .u8 0, .int .u32 0, .int .u32 0, .string ⟨#[]⟩] 39)) w.heap.size zpk) := PkAt.new w zpk
  have K0 := hid (h.later b1)
  have B0 := hid b1
  obtain ⟨c0, c1, c2, c3⟩ := (h.later b1).at2
  obtain ⟨z0, z1, z2, z3, z4, z5, zf⟩ := Q0.out.cells
  have y0 := zf 0
  have y1 := zf 1
  have y2 := zf 2
  have y3 := zf 3
  have y4 := zf 4
  have y5 := zf 5
  have f0 := K0.out.fz 8
  have f3 := K0.out.fz 11
  have hne1 : ¬ g = w.heap.size := by omega
  have hne3 : ¬ w.heap.size = g := by omega
  have hb : ((F 2).st != 1) = false := by rw [hst]; rfl
  have hl' : (16384 : Int) < b.size := by omega
  clear h b1 zf hst
  go_enter Try.func41, Try.ntmps41
  go_upto_region 1 with fail
  generalize (w.alloc (.cells #[.int .u8 0, .int .u8 0, .int .u8 0, .int .u32 0, .int .u32 0, .string ⟨#[]⟩] 39)) = W at *
  go_wp2
  refine bodyPost_ret (v := .tuple #[Fr.val zpk, .int .i64 3]) (by simp [results, Try.results41, go_sem, Fr.val, zpk, z0, z1, z2, z3, z4, z5]) rfl ⟨rfl, ?_⟩
  exact (ou_newS (S := fun _ => False) B0.out (((((((Ou.refl (fun k => k = w.heap.size) _).set rfl).set rfl).set rfl).set rfl).set rfl).set rfl) (fun k e => .inr (by omega))).below (Nat.le_refl _) (fun k e => e.elim)
set_option maxHeartbeats 2000000 in
theorem rrp_2_y {w : World} {g : Nat} {F : Nat → Tk} (h : IsRK w g F) (b : ByteArray) (hst : (F 2).st = 1) (hl : b.size ≤ 16384) :
    Calls Try.prog 41 #[pC g, .int .u8 2, .string b] w fun x w' => x = .returned (.tuple #[Fr.val ⟨2, 0, 2, (F 2).ep, (F 2).num, b⟩, .int .i64 0]) ∧ IsRK w' g (updK F 2 ⟨2, (F 2).ep, (F 2).num, b⟩) ∧ Ou (fun k => k = g) w w' := by
  have hlt := h.lt
  have b1 : Below w.heap.size w (w.alloc (.cells #[.int .u8 0, .int .u8 0, .int .u8 0, .int .u32 0, .int .u32 0, .string ⟨#[]⟩] 39)) := (Below.refl _ _).alloc (Nat.le_refl _) _
  have Q0 : Hid (PkAt (w.alloc (.cells #[.int .u8 0, .int .u8 0, .int .u8 0, .int .u32 0, .int .u32 0, .string ⟨#[]⟩] 39)) w.heap.size zpk) := PkAt.new w zpk
  have K0 := hid (h.later b1)
  have B0 := hid b1
  obtain ⟨c0, c1, c2, c3⟩ := (h.later b1).at2
  obtain ⟨z0, z1, z2, z3, z4, z5, zf⟩ := Q0.out.cells
  have y0 := zf 0
  have y1 := zf 1
  have y2 := zf 2
  have y3 := zf 3
  have y4 := zf 4
  have y5 := zf 5
  have f0 := K0.out.fz 8
  have f3 := K0.out.fz 11
  have hne1 : ¬ g = w.heap.size := by omega
  have hne3 : ¬ w.heap.size = g := by omega
  have hb : ((F 2).st != 1) = false := by rw [hst]; rfl
  have hl' : (b.size : Int) ≤ 16384 := by omega
  have AC : Hid (∀ W, IsRK W g (updK F 2 ⟨2, (F 2).ep, (F 2).num, b⟩) → Calls Try.prog 50 #[pC g, .int .u8 2] W fun x w' => x = .returned (Fr.val ⟨2, 0, 2, (F 2).ep, (F 2).num, b⟩) ∧ Below W.heap.size W w') := fun W hW => ranswer_2 hW
  have K1 : Hid (IsRK (((w.alloc (.cells #[.int .u8 0, .int .u8 0, .int .u8 0, .int .u32 0, .int .u32 0, .string ⟨#[]⟩] 39)).setCell ⟨g, 8, none⟩ (.int .i64 2)).setCell ⟨g, 11, none⟩ (.string b)) g (updK F 2 ⟨2, (F 2).ep, (F 2).num, b⟩)) := hid (row_set 11 _ (row_set 8 _ K0.out))
  have O1 : Hid (Ou (fun k => k = g) (w.alloc (.cells #[.int .u8 0, .int .u8 0, .int .u8 0, .int .u32 0, .int .u32 0, .string ⟨#[]⟩] 39)) (((w.alloc (.cells #[.int .u8 0, .int .u8 0, .int .u8 0, .int .u32 0, .int .u32 0, .string ⟨#[]⟩] 39)).setCell ⟨g, 8, none⟩ (.int .i64 2)).setCell ⟨g, 11, none⟩ (.string b))) := hid (((Ou.refl (fun k => k = g) _).set rfl).set rfl)
  clear h b1 zf hst
  go_enter Try.func41, Try.ntmps41
  go_upto_region 1 with fail
  generalize (w.alloc (.cells #[.int .u8 0, .int .u8 0, .int .u8 0, .int .u32 0, .int .u32 0, .string ⟨#[]⟩] 39)) = W at *
  go_wp2_with (go_at_call 50; refine (AC.out _ K1.out).mono ?_; rintro _ w6 ⟨rfl, hb6⟩; rw [show Fr.val ⟨2, 0, 2, (F 2).ep, (F 2).num, b⟩ = .agg #[.int .u8 2, .int .u8 0, .int .u8 2, .int .u32 (F 2).ep, .int .u32 (F 2).num, .string b] from rfl]; (have K6 := hid (K1.out.later hb6)); (have O6 := hid (O1.out.trans (Ou.of hb6))); (obtain ⟨x0, x1, x2, x3, x4, x5, xf⟩ := (Q0.out.out O6.out hne3).cells); (have v0 := xf 0); (have v1 := xf 1); (have v2 := xf 2); (have v3 := xf 3); (have v4 := xf 4); (have v5 := xf 5); clear xf)
  refine bodyPost_ret (v := .tuple #[Fr.val ⟨2, 0, 2, (F 2).ep, (F 2).num, b⟩, .int .i64 0]) (by simp [results, Try.results41, go_sem, Fr.val, zpk, x0, x1, x2, x3, x4, x5]) rfl ⟨rfl, ?_, ?_⟩
  · exact IsRK.out (S := fun k => k = w.heap.size) K6.out (((((((Ou.refl (fun k => k = w.heap.size) _).set rfl).set rfl).set rfl).set rfl).set rfl).set rfl) hne1
  · exact ou_newS B0.out (((((((O6.out.mono (T := fun k => k = g ∨ k = w.heap.size) (fun _ e => .inl e)).set (.inr rfl)).set (.inr rfl)).set (.inr rfl)).set (.inr rfl)).set (.inr rfl)).set (.inr rfl)) (fun k e => e.elim .inl fun e => .inr (by omega))
set_option maxHeartbeats 2000000 in
theorem rrp_3_n {w : World} {g : Nat} {F : Nat → Tk} (h : IsRK w g F) (b : ByteArray) (hst : (F 3).st ≠ 1) :
    Calls Try.prog 41 #[pC g, .int .u8 3, .string b] w fun x w' => x = .returned (.tuple #[Fr.val zpk, .int .i64 5]) ∧ Below w.heap.size w w' := by
  have hlt := h.lt
  have b1 : Below w.heap.size w (w.alloc (.cells #[.int .u8 0, .int .u8 0, .int .u8 0, .int .u32 0, .int .u32 0, .string ⟨#[]⟩] 39)) := (Below.refl _ _).alloc (Nat.le_refl _) _
  have Q0 : Hid (PkAt (w.alloc (.cells #[.int .u8 0, .int .u8 0, .int .u8 0, .int .u32 0, .int .u32 0, .string ⟨#[]⟩] 39)) w.heap.size zpk) := PkAt.new w zpk
  have K0 := hid (h.later b1)
  have B0 := hid b1
  obtain ⟨c0, c1, c2, c3⟩ := (h.later b1).at3
  obtain ⟨z0, z1, z2, z3, z4, z5, zf⟩ := Q0.out.cells
  have y0 := zf 0
  have y1 := zf 1
  have y2 := zf 2
  have y3 := zf 3
  have y4 := zf 4
  have y5 := zf 5
  have f0 := K0.out.fz 12
  have f3 := K0.out.fz 15
  have hne1 : ¬ g = w.heap.size := by omega
  have hne3 : ¬ w.heap.size = g := by omega
  have hb : ((F 3).st != 1) = true := by rw [bne_iff_ne]; exact hst
  clear h b1 zf hst
  go_enter Try.func41, Try.ntmps41
  go_upto_region 1 with fail
  generalize (w.alloc (.cells #[.int .u8 0, .int .u8 0, .int .u8 0, .int .u32 0, .int .u32 0, .string ⟨#[]⟩] 39)) = W at *
  go_wp2
  refine bodyPost_ret (v := .tuple #[Fr.val zpk, .int .i64 5]) (by simp [results, Try.results41, go_sem, Fr.val, zpk, z0, z1, z2, z3, z4, z5]) rfl ⟨rfl, ?_⟩
  exact (ou_newS (S := fun _ => False) B0.out (((((((Ou.refl (fun k => k = w.heap.size) _).set rfl).set rfl).set rfl).set rfl).set rfl).set rfl) (fun k e => .inr (by omega))).below (Nat.le_refl _) (fun k e => e.elim)
set_option maxHeartbeats 2000000 in
theorem rrp_3_l {w : World} {g : Nat} {F : Nat → Tk} (h : IsRK w g F) (b : ByteArray) (hst : (F 3).st = 1) (hl : 16384 < b.size) :
    Calls Try.prog 41 #[pC g, .int .u8 3, .string b] w fun x w' => x = .returned (.tuple #[Fr.val zpk, .int .i64 3]) ∧ Below w.heap.size w w' := by
  have hlt := h.lt
  have b1 : Below w.heap.size w (w.alloc (.cells #[.int .u8 0, .int .u8 0, .int .u8 0, .int .u32 0, .int .u32 0, .string ⟨#[]⟩] 39)) := (Below.refl _ _).alloc (Nat.le_refl _) _
  have Q0 : Hid (PkAt (w.alloc (.cells #[.int .u8 0, .int .u8 0, .int .u8 0, .int .u32 0, .int .u32 0, .string ⟨#[]⟩] 39)) w.heap.size zpk) := PkAt.new w zpk
  have K0 := hid (h.later b1)
  have B0 := hid b1
  obtain ⟨c0, c1, c2, c3⟩ := (h.later b1).at3
  obtain ⟨z0, z1, z2, z3, z4, z5, zf⟩ := Q0.out.cells
  have y0 := zf 0
  have y1 := zf 1
  have y2 := zf 2
  have y3 := zf 3
  have y4 := zf 4
  have y5 := zf 5
  have f0 := K0.out.fz 12
  have f3 := K0.out.fz 15
  have hne1 : ¬ g = w.heap.size := by omega
  have hne3 : ¬ w.heap.size = g := by omega
  have hb : ((F 3).st != 1) = false := by rw [hst]; rfl
  have hl' : (16384 : Int) < b.size := by omega
  clear h b1 zf hst
  go_enter Try.func41, Try.ntmps41
  go_upto_region 1 with fail
  generalize (w.alloc (.cells #[.int .u8 0, .int .u8 0, .int .u8 0, .int .u32 0, .int .u32 0, .string ⟨#[]⟩] 39)) = W at *
  go_wp2
  refine bodyPost_ret (v := .tuple #[Fr.val zpk, .int .i64 3]) (by simp [results, Try.results41, go_sem, Fr.val, zpk, z0, z1, z2, z3, z4, z5]) rfl ⟨rfl, ?_⟩
  exact (ou_newS (S := fun _ => False) B0.out (((((((Ou.refl (fun k => k = w.heap.size) _).set rfl).set rfl).set rfl).set rfl).set rfl).set rfl) (fun k e => .inr (by omega))).below (Nat.le_refl _) (fun k e => e.elim)
set_option maxHeartbeats 2000000 in
theorem rrp_3_y {w : World} {g : Nat} {F : Nat → Tk} (h : IsRK w g F) (b : ByteArray) (hst : (F 3).st = 1) (hl : b.size ≤ 16384) :
    Calls Try.prog 41 #[pC g, .int .u8 3, .string b] w fun x w' => x = .returned (.tuple #[Fr.val ⟨2, 0, 3, (F 3).ep, (F 3).num, b⟩, .int .i64 0]) ∧ IsRK w' g (updK F 3 ⟨2, (F 3).ep, (F 3).num, b⟩) ∧ Ou (fun k => k = g) w w' := by
  have hlt := h.lt
  have b1 : Below w.heap.size w (w.alloc (.cells #[.int .u8 0, .int .u8 0, .int .u8 0, .int .u32 0, .int .u32 0, .string ⟨#[]⟩] 39)) := (Below.refl _ _).alloc (Nat.le_refl _) _
  have Q0 : Hid (PkAt (w.alloc (.cells #[.int .u8 0, .int .u8 0, .int .u8 0, .int .u32 0, .int .u32 0, .string ⟨#[]⟩] 39)) w.heap.size zpk) := PkAt.new w zpk
  have K0 := hid (h.later b1)
  have B0 := hid b1
  obtain ⟨c0, c1, c2, c3⟩ := (h.later b1).at3
  obtain ⟨z0, z1, z2, z3, z4, z5, zf⟩ := Q0.out.cells
  have y0 := zf 0
  have y1 := zf 1
  have y2 := zf 2
  have y3 := zf 3
  have y4 := zf 4
  have y5 := zf 5
  have f0 := K0.out.fz 12
  have f3 := K0.out.fz 15
  have hne1 : ¬ g = w.heap.size := by omega
  have hne3 : ¬ w.heap.size = g := by omega
  have hb : ((F 3).st != 1) = false := by rw [hst]; rfl
  have hl' : (b.size : Int) ≤ 16384 := by omega
  have AC : Hid (∀ W, IsRK W g (updK F 3 ⟨2, (F 3).ep, (F 3).num, b⟩) → Calls Try.prog 50 #[pC g, .int .u8 3] W fun x w' => x = .returned (Fr.val ⟨2, 0, 3, (F 3).ep, (F 3).num, b⟩) ∧ Below W.heap.size W w') := fun W hW => ranswer_3 hW
  have K1 : Hid (IsRK (((w.alloc (.cells #[.int .u8 0, .int .u8 0, .int .u8 0, .int .u32 0, .int .u32 0, .string ⟨#[]⟩] 39)).setCell ⟨g, 12, none⟩ (.int .i64 2)).setCell ⟨g, 15, none⟩ (.string b)) g (updK F 3 ⟨2, (F 3).ep, (F 3).num, b⟩)) := hid (row_set 15 _ (row_set 12 _ K0.out))
  have O1 : Hid (Ou (fun k => k = g) (w.alloc (.cells #[.int .u8 0, .int .u8 0, .int .u8 0, .int .u32 0, .int .u32 0, .string ⟨#[]⟩] 39)) (((w.alloc (.cells #[.int .u8 0, .int .u8 0, .int .u8 0, .int .u32 0, .int .u32 0, .string ⟨#[]⟩] 39)).setCell ⟨g, 12, none⟩ (.int .i64 2)).setCell ⟨g, 15, none⟩ (.string b))) := hid (((Ou.refl (fun k => k = g) _).set rfl).set rfl)
  clear h b1 zf hst
  go_enter Try.func41, Try.ntmps41
  go_upto_region 1 with fail
  generalize (w.alloc (.cells #[.int .u8 0, .int .u8 0, .int .u8 0, .int .u32 0, .int .u32 0, .string ⟨#[]⟩] 39)) = W at *
  go_wp2_with (go_at_call 50; refine (AC.out _ K1.out).mono ?_; rintro _ w6 ⟨rfl, hb6⟩; rw [show Fr.val ⟨2, 0, 3, (F 3).ep, (F 3).num, b⟩ = .agg #[.int .u8 2, .int .u8 0, .int .u8 3, .int .u32 (F 3).ep, .int .u32 (F 3).num, .string b] from rfl]; (have K6 := hid (K1.out.later hb6)); (have O6 := hid (O1.out.trans (Ou.of hb6))); (obtain ⟨x0, x1, x2, x3, x4, x5, xf⟩ := (Q0.out.out O6.out hne3).cells); (have v0 := xf 0); (have v1 := xf 1); (have v2 := xf 2); (have v3 := xf 3); (have v4 := xf 4); (have v5 := xf 5); clear xf)
  refine bodyPost_ret (v := .tuple #[Fr.val ⟨2, 0, 3, (F 3).ep, (F 3).num, b⟩, .int .i64 0]) (by simp [results, Try.results41, go_sem, Fr.val, zpk, x0, x1, x2, x3, x4, x5]) rfl ⟨rfl, ?_, ?_⟩
  · exact IsRK.out (S := fun k => k = w.heap.size) K6.out (((((((Ou.refl (fun k => k = w.heap.size) _).set rfl).set rfl).set rfl).set rfl).set rfl).set rfl) hne1
  · exact ou_newS B0.out (((((((O6.out.mono (T := fun k => k = g ∨ k = w.heap.size) (fun _ e => .inl e)).set (.inr rfl)).set (.inr rfl)).set (.inr rfl)).set (.inr rfl)).set (.inr rfl)).set (.inr rfl)) (fun k e => e.elim .inl fun e => .inr (by omega))
set_option maxHeartbeats 1000000 in
theorem rrp_who (g : Nat) (n : Int) (b : ByteArray) (w : World) (h : n < 1 ∨ 3 < n) : Calls Try.prog 41 #[pC g, .int .u8 n, .string b] w fun x w' => x = .returned (.tuple #[Fr.val zpk, .int .i64 2]) ∧ Below w.heap.size w w' := by
  by_cases h1 : n < 1
  · clear h
    go_enter Try.func41, Try.ntmps41
    go_wp2
    exact bodyPost_ret (v := .tuple #[Fr.val zpk, .int .i64 2]) (by simp [results, Try.results41, go_sem, Fr.val, zpk]) rfl ⟨rfl, (Below.refl _ _).alloc (Nat.le_refl _) _⟩
  · have h2 : 3 < n := by omega
    have h1d : decide (n < 1) = false := decide_eq_false h1
    clear h
    go_enter Try.func41, Try.ntmps41
    go_wp2
    exact bodyPost_ret (v := .tuple #[Fr.val zpk, .int .i64 2]) (by simp [results, Try.results41, go_sem, Fr.val, zpk]) rfl ⟨rfl, (Below.refl _ _).alloc (Nat.le_refl _) _⟩
end Go.Proofs.Ytjgpolaogneoaaa
