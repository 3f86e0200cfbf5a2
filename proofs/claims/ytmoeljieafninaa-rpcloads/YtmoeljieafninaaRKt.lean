/-
  A callee's Take: one theorem a client and a way, then all of them in one.
-/
import Derived.Test.YtmoeljieafninaaRKe
namespace Go.Proofs.Ytmoeljieafninaa
open Go.RowKit Go.ChangeShapes Go.WideShapes Go.ChangeAt
set_option linter.unusedVariables false
set_option linter.unusedSimpArgs false
set_option maxRecDepth 100000
theorem und {w w' : World} (h : Below w.drew.heap.size w.drew w') : Below w.heap.size w w' := ⟨h.os, h.tape, h.output, h.size, h.block⟩
theorem ou_newS {S T : Nat → Prop} {w W w' : World} (hb : Below w.heap.size w W) (h : Ou T W w') (hT : ∀ k, T k → S k ∨ w.heap.size ≤ k) : Ou S w w' :=
  ⟨h.os.trans hb.os, h.tape.trans hb.tape, h.output.trans hb.output, Nat.le_trans hb.size h.size, fun k hk hS => (h.block k (Nat.lt_of_lt_of_le hk hb.size) (fun e => (hT k e).elim hS (by omega))).trans (hb.block k hk)⟩
set_option maxHeartbeats 4000000 in
theorem ktake_1_z {w : World} {g : Nat} {F : Nat → Tk} (h : IsK w g F) (e s : Int) (b : ByteArray) (hp : Fr.Wf ⟨1, 1, 0, e, s, b⟩) (hs : b.size ≤ maxLen) (hr : Fr.rightB ⟨1, 1, 0, e, s, b⟩ = true) (hst : (F 1).st = 0) (a : Int) (ha : a = orF (cmpF (F 1).ep e) (cmpF (F 1).num s))  :
    Calls Try.prog 9 #[pC g, .agg #[.int .u8 1, .int .u8 1, .int .u8 0, .int .u32 e, .int .u32 s, .string b]] w fun x w' => x = .returned (.tuple #[.string b, .bool true, Fr.val zpk, .bool false]) ∧ IsK w' g (updK F 1 ⟨1, e, s, ⟨#[]⟩⟩) ∧ Ou (fun k => k = g) w w' := by
  have RC : Hid (∀ W, Calls Try.prog 23 #[.agg #[.int .u8 1, .int .u8 1, .int .u8 0, .int .u32 e, .int .u32 s, .string b]] W fun x w' => x = .returned (.bool true) ∧ Below W.heap.size W w') := fun W => by
    have := right_c ⟨1, 1, 0, e, s, b⟩ hp hs W
    rw [hr] at this
    exact this
  have CC : Hid (∀ W, IsK W g F → Calls Try.prog 24 #[.pointer (some ⟨g, 0, none⟩), .agg #[.int .u8 1, .int .u8 1, .int .u8 0, .int .u32 e, .int .u32 s, .string b]] W fun x w' => x = .returned (.int .i64 a) ∧ Below W.heap.size W w') := fun W hW => by
    rw [ha]; exact compare_c _ _ hW.at1.2.1 hW.at1.2.2.1 1 1 0 e s b
  have AC : Hid (∀ W, IsK W g F → Calls Try.prog 25 #[.pointer (some ⟨g, 0, none⟩), .int .u8 1] W fun x w' => x = .returned (Fr.val ⟨2, 0, 1, (F 1).ep, (F 1).num, (F 1).body⟩) ∧ Below W.heap.size W w') := fun W hW => answer_c _ _ _ hW.lt hW.at1.2.1 hW.at1.2.2.1 hW.at1.2.2.2 1
  have hlt := h.lt
  have b1 : Below w.heap.size w (w.alloc (.cells #[.int .u8 1, .int .u8 1, .int .u8 0, .int .u32 e, .int .u32 s, .string b] 26)) := (Below.refl _ _).alloc (Nat.le_refl _) _
  have P1 := PkAt.new w ⟨1, 1, 0, e, s, b⟩
  have b2 : Below (w.alloc (.cells #[.int .u8 1, .int .u8 1, .int .u8 0, .int .u32 e, .int .u32 s, .string b] 26)).heap.size (w.alloc (.cells #[.int .u8 1, .int .u8 1, .int .u8 0, .int .u32 e, .int .u32 s, .string b] 26)) ((w.alloc (.cells #[.int .u8 1, .int .u8 1, .int .u8 0, .int .u32 e, .int .u32 s, .string b] 26)).alloc (.cells #[.int .u8 0, .int .u8 0, .int .u8 0, .int .u32 0, .int .u32 0, .string ⟨#[]⟩] 26)) := (Below.refl _ _).alloc (Nat.le_refl _) _
  have P2 : PkAt ((w.alloc (.cells #[.int .u8 1, .int .u8 1, .int .u8 0, .int .u32 e, .int .u32 s, .string b] 26)).alloc (.cells #[.int .u8 0, .int .u8 0, .int .u8 0, .int .u32 0, .int .u32 0, .string ⟨#[]⟩] 26)) (w.heap.size + 1) zpk := by
    have e0 : (w.alloc (.cells #[.int .u8 1, .int .u8 1, .int .u8 0, .int .u32 e, .int .u32 s, .string b] 26)).heap.size = w.heap.size + 1 := by simp
    rw [← e0]
    exact PkAt.new _ zpk
  have K0 := hid ((h.later b1).later b2)
  have P0 : Hid (PkAt ((w.alloc (.cells #[.int .u8 1, .int .u8 1, .int .u8 0, .int .u32 e, .int .u32 s, .string b] 26)).alloc (.cells #[.int .u8 0, .int .u8 0, .int .u8 0, .int .u32 0, .int .u32 0, .string ⟨#[]⟩] 26)) w.heap.size ⟨1, 1, 0, e, s, b⟩) := hid (P1.later b2)
  have Q0 := hid P2
  have B0 : Hid (Below w.heap.size w ((w.alloc (.cells #[.int .u8 1, .int .u8 1, .int .u8 0, .int .u32 e, .int .u32 s, .string b] 26)).alloc (.cells #[.int .u8 0, .int .u8 0, .int .u8 0, .int .u32 0, .int .u32 0, .string ⟨#[]⟩] 26))) := hid (b1.trans (b2.mono b1.size))
  have hne1 : ¬ g = w.heap.size := by omega
  have hne2 : ¬ g = w.heap.size + 1 := by omega
  have hne3 : ¬ w.heap.size = g := by omega
  have hne4 : ¬ w.heap.size + 1 = g := by omega
  have HST := hid hst
  clear h hp hs hr ha b1 P1 b2 P2 hst
  go_enter Try.func9, Try.ntmps9
  go_wp2_with fail
  generalize ((w.alloc (.cells #[.int .u8 1, .int .u8 1, .int .u8 0, .int .u32 e, .int .u32 s, .string b] 26)).alloc (.cells #[.int .u8 0, .int .u8 0, .int .u8 0, .int .u32 0, .int .u32 0, .string ⟨#[]⟩] 26)) = W at *
  refine wp_scope_fwd 0 rfl ?_
  obtain ⟨a0, a1, a2, a3, a4, a5, _⟩ := P0.out.cells
  simp only at a0 a1 a2 a3 a4 a5
  go_wp2_with (go_at_call 23; refine (RC.out _).mono ?_; rintro _ w2 ⟨rfl, hb2⟩)
  have K2 := hid (K0.out.later hb2)
  have P2 := hid (P0.out.later hb2)
  have Q2 := hid (Q0.out.later hb2)
  have B2 := hid (B0.out.trans (hb2.mono B0.out.size))
  clear K0 P0 Q0 B0 hb2 a0 a1 a2 a3 a4 a5
  obtain ⟨a0, a1, a2, a3, a4, a5, _⟩ := P2.out.cells
  simp only at a0 a1 a2 a3 a4 a5
  go_region
  have K2' : Hid (IsK w2.drew g F) := K2.out
  go_wp2_with (go_at_call 24; refine (CC.out _ K2'.out).mono ?_; rintro _ w3 ⟨rfl, hb3⟩; (have K3 := hid (K2'.out.later hb3)); (obtain ⟨c0, c1, c2, c3⟩ := K3.out.at1); rw [HST.out] at c0; (have hb3' := und hb3); (have P3 := hid (P2.out.later hb3')); (have Q3 := hid (Q2.out.later hb3')); (have B3 := hid (B2.out.trans (hb3'.mono B2.out.size))); (have f0 := K3.out.fz 0); (have f1 := K3.out.fz 1); (have f2 := K3.out.fz 2); (have f3 := K3.out.fz 3); (obtain ⟨d0, d1, d2, d3, d4, d5, _⟩ := P3.out.cells); simp only at d0 d1 d2 d3 d4 d5; (obtain ⟨z0, z1, z2, z3, z4, z5, zf⟩ := Q3.out.cells); (have y0 := zf 0); (have y1 := zf 1); (have y2 := zf 2); (have y3 := zf 3); (have y4 := zf 4); (have y5 := zf 5); clear a0 a1 a2 a3 a4 a5 hb3 hb3' zf K2 K2' P2 Q2 B2)
  go_step3
  refine ⟨rfl, ?_⟩
  go_wp2
  rw [Exit.noGoto_ret]
  refine bodyPost_ret (v := .tuple #[.string b, .bool true, Fr.val zpk, .bool false]) (by simp [results, Try.results9, go_sem, Fr.val, zpk, z0, z1, z2, z3, z4, z5, hne1, hne2, hne3, hne4]) rfl ⟨rfl, ?_, ?_⟩
  · exact IsK.out (S := fun k => k = w.heap.size + 1) (f := updK F 1 ⟨1, e, s, ⟨#[]⟩⟩) (row_set 3 _ (row_set 2 _ (row_set 1 _ (row_set 0 _ K3.out)))) (((((((Ou.refl (fun k => k = w.heap.size + 1) _).set rfl).set rfl).set rfl).set rfl).set rfl).set rfl) hne2
  · exact ou_newS B3.out (((((((((((Ou.refl (fun k => k = g ∨ k = w.heap.size + 1) _).set (.inl rfl)).set (.inl rfl)).set (.inl rfl)).set (.inl rfl)).set (.inr rfl)).set (.inr rfl)).set (.inr rfl)).set (.inr rfl)).set (.inr rfl)).set (.inr rfl)) (fun k e => e.elim .inl fun e => .inr (by omega))
set_option maxHeartbeats 4000000 in
theorem ktake_1_o {w : World} {g : Nat} {F : Nat → Tk} (h : IsK w g F) (e s : Int) (b : ByteArray) (hp : Fr.Wf ⟨1, 1, 0, e, s, b⟩) (hs : b.size ≤ maxLen) (hr : Fr.rightB ⟨1, 1, 0, e, s, b⟩ = true) (hst : (F 1).st = 1) (a : Int) (ha : a = orF (cmpF (F 1).ep e) (cmpF (F 1).num s)) (hlt : a < 0) :
    Calls Try.prog 9 #[pC g, .agg #[.int .u8 1, .int .u8 1, .int .u8 0, .int .u32 e, .int .u32 s, .string b]] w fun x w' => x = .returned (.tuple #[.string b, .bool true, Fr.val zpk, .bool false]) ∧ IsK w' g (updK F 1 ⟨1, e, s, ⟨#[]⟩⟩) ∧ Ou (fun k => k = g) w w' := by
  have RC : Hid (∀ W, Calls Try.prog 23 #[.agg #[.int .u8 1, .int .u8 1, .int .u8 0, .int .u32 e, .int .u32 s, .string b]] W fun x w' => x = .returned (.bool true) ∧ Below W.heap.size W w') := fun W => by
    have := right_c ⟨1, 1, 0, e, s, b⟩ hp hs W
    rw [hr] at this
    exact this
  have CC : Hid (∀ W, IsK W g F → Calls Try.prog 24 #[.pointer (some ⟨g, 0, none⟩), .agg #[.int .u8 1, .int .u8 1, .int .u8 0, .int .u32 e, .int .u32 s, .string b]] W fun x w' => x = .returned (.int .i64 a) ∧ Below W.heap.size W w') := fun W hW => by
    rw [ha]; exact compare_c _ _ hW.at1.2.1 hW.at1.2.2.1 1 1 0 e s b
  have AC : Hid (∀ W, IsK W g F → Calls Try.prog 25 #[.pointer (some ⟨g, 0, none⟩), .int .u8 1] W fun x w' => x = .returned (Fr.val ⟨2, 0, 1, (F 1).ep, (F 1).num, (F 1).body⟩) ∧ Below W.heap.size W w') := fun W hW => answer_c _ _ _ hW.lt hW.at1.2.1 hW.at1.2.2.1 hW.at1.2.2.2 1
  have hlt := h.lt
  have b1 : Below w.heap.size w (w.alloc (.cells #[.int .u8 1, .int .u8 1, .int .u8 0, .int .u32 e, .int .u32 s, .string b] 26)) := (Below.refl _ _).alloc (Nat.le_refl _) _
  have P1 := PkAt.new w ⟨1, 1, 0, e, s, b⟩
  have b2 : Below (w.alloc (.cells #[.int .u8 1, .int .u8 1, .int .u8 0, .int .u32 e, .int .u32 s, .string b] 26)).heap.size (w.alloc (.cells #[.int .u8 1, .int .u8 1, .int .u8 0, .int .u32 e, .int .u32 s, .string b] 26)) ((w.alloc (.cells #[.int .u8 1, .int .u8 1, .int .u8 0, .int .u32 e, .int .u32 s, .string b] 26)).alloc (.cells #[.int .u8 0, .int .u8 0, .int .u8 0, .int .u32 0, .int .u32 0, .string ⟨#[]⟩] 26)) := (Below.refl _ _).alloc (Nat.le_refl _) _
  have P2 : PkAt ((w.alloc (.cells #[.int .u8 1, .int .u8 1, .int .u8 0, .int .u32 e, .int .u32 s, .string b] 26)).alloc (.cells #[.int .u8 0, .int .u8 0, .int .u8 0, .int .u32 0, .int .u32 0, .string ⟨#[]⟩] 26)) (w.heap.size + 1) zpk := by
    have e0 : (w.alloc (.cells #[.int .u8 1, .int .u8 1, .int .u8 0, .int .u32 e, .int .u32 s, .string b] 26)).heap.size = w.heap.size + 1 := by simp
    rw [← e0]
    exact PkAt.new _ zpk
  have K0 := hid ((h.later b1).later b2)
  have P0 : Hid (PkAt ((w.alloc (.cells #[.int .u8 1, .int .u8 1, .int .u8 0, .int .u32 e, .int .u32 s, .string b] 26)).alloc (.cells #[.int .u8 0, .int .u8 0, .int .u8 0, .int .u32 0, .int .u32 0, .string ⟨#[]⟩] 26)) w.heap.size ⟨1, 1, 0, e, s, b⟩) := hid (P1.later b2)
  have Q0 := hid P2
  have B0 : Hid (Below w.heap.size w ((w.alloc (.cells #[.int .u8 1, .int .u8 1, .int .u8 0, .int .u32 e, .int .u32 s, .string b] 26)).alloc (.cells #[.int .u8 0, .int .u8 0, .int .u8 0, .int .u32 0, .int .u32 0, .string ⟨#[]⟩] 26))) := hid (b1.trans (b2.mono b1.size))
  have hne1 : ¬ g = w.heap.size := by omega
  have hne2 : ¬ g = w.heap.size + 1 := by omega
  have hne3 : ¬ w.heap.size = g := by omega
  have hne4 : ¬ w.heap.size + 1 = g := by omega
  have HST := hid hst
  clear h hp hs hr ha b1 P1 b2 P2 hst
  go_enter Try.func9, Try.ntmps9
  go_wp2_with fail
  generalize ((w.alloc (.cells #[.int .u8 1, .int .u8 1, .int .u8 0, .int .u32 e, .int .u32 s, .string b] 26)).alloc (.cells #[.int .u8 0, .int .u8 0, .int .u8 0, .int .u32 0, .int .u32 0, .string ⟨#[]⟩] 26)) = W at *
  refine wp_scope_fwd 0 rfl ?_
  obtain ⟨a0, a1, a2, a3, a4, a5, _⟩ := P0.out.cells
  simp only at a0 a1 a2 a3 a4 a5
  go_wp2_with (go_at_call 23; refine (RC.out _).mono ?_; rintro _ w2 ⟨rfl, hb2⟩)
  have K2 := hid (K0.out.later hb2)
  have P2 := hid (P0.out.later hb2)
  have Q2 := hid (Q0.out.later hb2)
  have B2 := hid (B0.out.trans (hb2.mono B0.out.size))
  clear K0 P0 Q0 B0 hb2 a0 a1 a2 a3 a4 a5
  obtain ⟨a0, a1, a2, a3, a4, a5, _⟩ := P2.out.cells
  simp only at a0 a1 a2 a3 a4 a5
  go_region
  have K2' : Hid (IsK w2.drew g F) := K2.out
  go_wp2_with (go_at_call 24; refine (CC.out _ K2'.out).mono ?_; rintro _ w3 ⟨rfl, hb3⟩; (have K3 := hid (K2'.out.later hb3)); (obtain ⟨c0, c1, c2, c3⟩ := K3.out.at1); rw [HST.out] at c0; (have hb3' := und hb3); (have P3 := hid (P2.out.later hb3')); (have Q3 := hid (Q2.out.later hb3')); (have B3 := hid (B2.out.trans (hb3'.mono B2.out.size))); (have f0 := K3.out.fz 0); (have f1 := K3.out.fz 1); (have f2 := K3.out.fz 2); (have f3 := K3.out.fz 3); (obtain ⟨d0, d1, d2, d3, d4, d5, _⟩ := P3.out.cells); simp only at d0 d1 d2 d3 d4 d5; (obtain ⟨z0, z1, z2, z3, z4, z5, zf⟩ := Q3.out.cells); (have y0 := zf 0); (have y1 := zf 1); (have y2 := zf 2); (have y3 := zf 3); (have y4 := zf 4); (have y5 := zf 5); clear a0 a1 a2 a3 a4 a5 hb3 hb3' zf K2 K2' P2 Q2 B2)
  go_step3
  refine ⟨rfl, ?_⟩
  go_wp2
  rw [Exit.noGoto_ret]
  refine bodyPost_ret (v := .tuple #[.string b, .bool true, Fr.val zpk, .bool false]) (by simp [results, Try.results9, go_sem, Fr.val, zpk, z0, z1, z2, z3, z4, z5, hne1, hne2, hne3, hne4]) rfl ⟨rfl, ?_, ?_⟩
  · exact IsK.out (S := fun k => k = w.heap.size + 1) (f := updK F 1 ⟨1, e, s, ⟨#[]⟩⟩) (row_set 3 _ (row_set 2 _ (row_set 1 _ (row_set 0 _ K3.out)))) (((((((Ou.refl (fun k => k = w.heap.size + 1) _).set rfl).set rfl).set rfl).set rfl).set rfl).set rfl) hne2
  · exact ou_newS B3.out (((((((((((Ou.refl (fun k => k = g ∨ k = w.heap.size + 1) _).set (.inl rfl)).set (.inl rfl)).set (.inl rfl)).set (.inl rfl)).set (.inr rfl)).set (.inr rfl)).set (.inr rfl)).set (.inr rfl)).set (.inr rfl)).set (.inr rfl)) (fun k e => e.elim .inl fun e => .inr (by omega))
set_option maxHeartbeats 4000000 in
theorem ktake_1_p {w : World} {g : Nat} {F : Nat → Tk} (h : IsK w g F) (e s : Int) (b : ByteArray) (hp : Fr.Wf ⟨1, 1, 0, e, s, b⟩) (hs : b.size ≤ maxLen) (hr : Fr.rightB ⟨1, 1, 0, e, s, b⟩ = true) (hst : (F 1).st = 2) (a : Int) (ha : a = orF (cmpF (F 1).ep e) (cmpF (F 1).num s)) (hlt : a < 0) :
    Calls Try.prog 9 #[pC g, .agg #[.int .u8 1, .int .u8 1, .int .u8 0, .int .u32 e, .int .u32 s, .string b]] w fun x w' => x = .returned (.tuple #[.string b, .bool true, Fr.val zpk, .bool false]) ∧ IsK w' g (updK F 1 ⟨1, e, s, ⟨#[]⟩⟩) ∧ Ou (fun k => k = g) w w' := by
  have RC : Hid (∀ W, Calls Try.prog 23 #[.agg #[.int .u8 1, .int .u8 1, .int .u8 0, .int .u32 e, .int .u32 s, .string b]] W fun x w' => x = .returned (.bool true) ∧ Below W.heap.size W w') := fun W => by
    have := right_c ⟨1, 1, 0, e, s, b⟩ hp hs W
    rw [hr] at this
    exact this
  have CC : Hid (∀ W, IsK W g F → Calls Try.prog 24 #[.pointer (some ⟨g, 0, none⟩), .agg #[.int .u8 1, .int .u8 1, .int .u8 0, .int .u32 e, .int .u32 s, .string b]] W fun x w' => x = .returned (.int .i64 a) ∧ Below W.heap.size W w') := fun W hW => by
    rw [ha]; exact compare_c _ _ hW.at1.2.1 hW.at1.2.2.1 1 1 0 e s b
  have AC : Hid (∀ W, IsK W g F → Calls Try.prog 25 #[.pointer (some ⟨g, 0, none⟩), .int .u8 1] W fun x w' => x = .returned (Fr.val ⟨2, 0, 1, (F 1).ep, (F 1).num, (F 1).body⟩) ∧ Below W.heap.size W w') := fun W hW => answer_c _ _ _ hW.lt hW.at1.2.1 hW.at1.2.2.1 hW.at1.2.2.2 1
  have hlt := h.lt
  have b1 : Below w.heap.size w (w.alloc (.cells #[.int .u8 1, .int .u8 1, .int .u8 0, .int .u32 e, .int .u32 s, .string b] 26)) := (Below.refl _ _).alloc (Nat.le_refl _) _
  have P1 := PkAt.new w ⟨1, 1, 0, e, s, b⟩
  have b2 : Below (w.alloc (.cells #[.int .u8 1, .int .u8 1, .int .u8 0, .int .u32 e, .int .u32 s, .string b] 26)).heap.size (w.alloc (.cells #[.int .u8 1, .int .u8 1, .int .u8 0, .int .u32 e, .int .u32 s, .string b] 26)) ((w.alloc (.cells #[.int .u8 1, .int .u8 1, .int .u8 0, .int .u32 e, .int .u32 s, .string b] 26)).alloc (.cells #[.int .u8 0, .int .u8 0, .int .u8 0, .int .u32 0, .int .u32 0, .string ⟨#[]⟩] 26)) := (Below.refl _ _).alloc (Nat.le_refl _) _
  have P2 : PkAt ((w.alloc (.cells #[.int .u8 1, .int .u8 1, .int .u8 0, .int .u32 e, .int .u32 s, .string b] 26)).alloc (.cells #[.int .u8 0, .int .u8 0, .int .u8 0, .int .u32 0, .int .u32 0, .string ⟨#[]⟩] 26)) (w.heap.size + 1) zpk := by
    have e0 : (w.alloc (.cells #[.int .u8 1, .int .u8 1, .int .u8 0, .int .u32 e, .int .u32 s, .string b] 26)).heap.size = w.heap.size + 1 := by simp
    rw [← e0]
    exact PkAt.new _ zpk
  have K0 := hid ((h.later b1).later b2)
  have P0 : Hid (PkAt ((w.alloc (.cells #[.int .u8 1, .int .u8 1, .int .u8 0, .int .u32 e, .int .u32 s, .string b] 26)).alloc (.cells #[.int .u8 0, .int .u8 0, .int .u8 0, .int .u32 0, .int .u32 0, .string ⟨#[]⟩] 26)) w.heap.size ⟨1, 1, 0, e, s, b⟩) := hid (P1.later b2)
  have Q0 := hid P2
  have B0 : Hid (Below w.heap.size w ((w.alloc (.cells #[.int .u8 1, .int .u8 1, .int .u8 0, .int .u32 e, .int .u32 s, .string b] 26)).alloc (.cells #[.int .u8 0, .int .u8 0, .int .u8 0, .int .u32 0, .int .u32 0, .string ⟨#[]⟩] 26))) := hid (b1.trans (b2.mono b1.size))
  have hne1 : ¬ g = w.heap.size := by omega
  have hne2 : ¬ g = w.heap.size + 1 := by omega
  have hne3 : ¬ w.heap.size = g := by omega
  have hne4 : ¬ w.heap.size + 1 = g := by omega
  have HST := hid hst
  clear h hp hs hr ha b1 P1 b2 P2 hst
  go_enter Try.func9, Try.ntmps9
  go_wp2_with fail
  generalize ((w.alloc (.cells #[.int .u8 1, .int .u8 1, .int .u8 0, .int .u32 e, .int .u32 s, .string b] 26)).alloc (.cells #[.int .u8 0, .int .u8 0, .int .u8 0, .int .u32 0, .int .u32 0, .string ⟨#[]⟩] 26)) = W at *
  refine wp_scope_fwd 0 rfl ?_
  obtain ⟨a0, a1, a2, a3, a4, a5, _⟩ := P0.out.cells
  simp only at a0 a1 a2 a3 a4 a5
  go_wp2_with (go_at_call 23; refine (RC.out _).mono ?_; rintro _ w2 ⟨rfl, hb2⟩)
  have K2 := hid (K0.out.later hb2)
  have P2 := hid (P0.out.later hb2)
  have Q2 := hid (Q0.out.later hb2)
  have B2 := hid (B0.out.trans (hb2.mono B0.out.size))
  clear K0 P0 Q0 B0 hb2 a0 a1 a2 a3 a4 a5
  obtain ⟨a0, a1, a2, a3, a4, a5, _⟩ := P2.out.cells
  simp only at a0 a1 a2 a3 a4 a5
  go_region
  have K2' : Hid (IsK w2.drew g F) := K2.out
  go_wp2_with (go_at_call 24; refine (CC.out _ K2'.out).mono ?_; rintro _ w3 ⟨rfl, hb3⟩; (have K3 := hid (K2'.out.later hb3)); (obtain ⟨c0, c1, c2, c3⟩ := K3.out.at1); rw [HST.out] at c0; (have hb3' := und hb3); (have P3 := hid (P2.out.later hb3')); (have Q3 := hid (Q2.out.later hb3')); (have B3 := hid (B2.out.trans (hb3'.mono B2.out.size))); (have f0 := K3.out.fz 0); (have f1 := K3.out.fz 1); (have f2 := K3.out.fz 2); (have f3 := K3.out.fz 3); (obtain ⟨d0, d1, d2, d3, d4, d5, _⟩ := P3.out.cells); simp only at d0 d1 d2 d3 d4 d5; (obtain ⟨z0, z1, z2, z3, z4, z5, zf⟩ := Q3.out.cells); (have y0 := zf 0); (have y1 := zf 1); (have y2 := zf 2); (have y3 := zf 3); (have y4 := zf 4); (have y5 := zf 5); clear a0 a1 a2 a3 a4 a5 hb3 hb3' zf K2 K2' P2 Q2 B2)
  go_step3
  refine ⟨rfl, ?_⟩
  go_wp2
  rw [Exit.noGoto_ret]
  refine bodyPost_ret (v := .tuple #[.string b, .bool true, Fr.val zpk, .bool false]) (by simp [results, Try.results9, go_sem, Fr.val, zpk, z0, z1, z2, z3, z4, z5, hne1, hne2, hne3, hne4]) rfl ⟨rfl, ?_, ?_⟩
  · exact IsK.out (S := fun k => k = w.heap.size + 1) (f := updK F 1 ⟨1, e, s, ⟨#[]⟩⟩) (row_set 3 _ (row_set 2 _ (row_set 1 _ (row_set 0 _ K3.out)))) (((((((Ou.refl (fun k => k = w.heap.size + 1) _).set rfl).set rfl).set rfl).set rfl).set rfl).set rfl) hne2
  · exact ou_newS B3.out (((((((((((Ou.refl (fun k => k = g ∨ k = w.heap.size + 1) _).set (.inl rfl)).set (.inl rfl)).set (.inl rfl)).set (.inl rfl)).set (.inr rfl)).set (.inr rfl)).set (.inr rfl)).set (.inr rfl)).set (.inr rfl)).set (.inr rfl)) (fun k e => e.elim .inl fun e => .inr (by omega))
set_option maxHeartbeats 4000000 in
theorem ktake_1_q {w : World} {g : Nat} {F : Nat → Tk} (h : IsK w g F) (e s : Int) (b : ByteArray) (hp : Fr.Wf ⟨1, 1, 0, e, s, b⟩) (hs : b.size ≤ maxLen) (hr : Fr.rightB ⟨1, 1, 0, e, s, b⟩ = true) (hst : (F 1).st = 1) (a : Int) (ha : a = orF (cmpF (F 1).ep e) (cmpF (F 1).num s)) (hlt : ¬ a < 0) (h0 : (a == 0) = true) :
    Calls Try.prog 9 #[pC g, .agg #[.int .u8 1, .int .u8 1, .int .u8 0, .int .u32 e, .int .u32 s, .string b]] w fun x w' => x = .returned (.tuple #[.string ⟨#[]⟩, .bool false, Fr.val zpk, .bool false]) ∧ Below w.heap.size w w' := by
  have RC : Hid (∀ W, Calls Try.prog 23 #[.agg #[.int .u8 1, .int .u8 1, .int .u8 0, .int .u32 e, .int .u32 s, .string b]] W fun x w' => x = .returned (.bool true) ∧ Below W.heap.size W w') := fun W => by
    have := right_c ⟨1, 1, 0, e, s, b⟩ hp hs W
    rw [hr] at this
    exact this
  have CC : Hid (∀ W, IsK W g F → Calls Try.prog 24 #[.pointer (some ⟨g, 0, none⟩), .agg #[.int .u8 1, .int .u8 1, .int .u8 0, .int .u32 e, .int .u32 s, .string b]] W fun x w' => x = .returned (.int .i64 a) ∧ Below W.heap.size W w') := fun W hW => by
    rw [ha]; exact compare_c _ _ hW.at1.2.1 hW.at1.2.2.1 1 1 0 e s b
  have AC : Hid (∀ W, IsK W g F → Calls Try.prog 25 #[.pointer (some ⟨g, 0, none⟩), .int .u8 1] W fun x w' => x = .returned (Fr.val ⟨2, 0, 1, (F 1).ep, (F 1).num, (F 1).body⟩) ∧ Below W.heap.size W w') := fun W hW => answer_c _ _ _ hW.lt hW.at1.2.1 hW.at1.2.2.1 hW.at1.2.2.2 1
  have hlt := h.lt
  have b1 : Below w.heap.size w (w.alloc (.cells #[.int .u8 1, .int .u8 1, .int .u8 0, .int .u32 e, .int .u32 s, .string b] 26)) := (Below.refl _ _).alloc (Nat.le_refl _) _
  have P1 := PkAt.new w ⟨1, 1, 0, e, s, b⟩
  have b2 : Below (w.alloc (.cells #[.int .u8 1, .int .u8 1, .int .u8 0, .int .u32 e, .int .u32 s, .string b] 26)).heap.size (w.alloc (.cells #[.int .u8 1, .int .u8 1, .int .u8 0, .int .u32 e, .int .u32 s, .string b] 26)) ((w.alloc (.cells #[.int .u8 1, .int .u8 1, .int .u8 0, .int .u32 e, .int .u32 s, .string b] 26)).alloc (.cells #[.int .u8 0, .int .u8 0, .int .u8 0, .int .u32 0, .int .u32 0, .string ⟨#[]⟩] 26)) := (Below.refl _ _).alloc (Nat.le_refl _) _
  have P2 : PkAt ((w.alloc (.cells #[.int .u8 1, .int .u8 1, .int .u8 0, .int .u32 e, .int .u32 s, .string b] 26)).alloc (.cells #[.int .u8 0, .int .u8 0, .int .u8 0, .int .u32 0, .int .u32 0, .string ⟨#[]⟩] 26)) (w.heap.size + 1) zpk := by
    have e0 : (w.alloc (.cells #[.int .u8 1, .int .u8 1, .int .u8 0, .int .u32 e, .int .u32 s, .string b] 26)).heap.size = w.heap.size + 1 := by simp
    rw [← e0]
    exact PkAt.new _ zpk
  have K0 := hid ((h.later b1).later b2)
  have P0 : Hid (PkAt ((w.alloc (.cells #[.int .u8 1, .int .u8 1, .int .u8 0, .int .u32 e, .int .u32 s, .string b] 26)).alloc (.cells #[.int .u8 0, .int .u8 0, .int .u8 0, .int .u32 0, .int .u32 0, .string ⟨#[]⟩] 26)) w.heap.size ⟨1, 1, 0, e, s, b⟩) := hid (P1.later b2)
  have Q0 := hid P2
  have B0 : Hid (Below w.heap.size w ((w.alloc (.cells #[.int .u8 1, .int .u8 1, .int .u8 0, .int .u32 e, .int .u32 s, .string b] 26)).alloc (.cells #[.int .u8 0, .int .u8 0, .int .u8 0, .int .u32 0, .int .u32 0, .string ⟨#[]⟩] 26))) := hid (b1.trans (b2.mono b1.size))
  have hne1 : ¬ g = w.heap.size := by omega
  have hne2 : ¬ g = w.heap.size + 1 := by omega
  have hne3 : ¬ w.heap.size = g := by omega
  have hne4 : ¬ w.heap.size + 1 = g := by omega
  have HST := hid hst
  clear h hp hs hr ha b1 P1 b2 P2 hst
  go_enter Try.func9, Try.ntmps9
  go_wp2_with fail
  generalize ((w.alloc (.cells #[.int .u8 1, .int .u8 1, .int .u8 0, .int .u32 e, .int .u32 s, .string b] 26)).alloc (.cells #[.int .u8 0, .int .u8 0, .int .u8 0, .int .u32 0, .int .u32 0, .string ⟨#[]⟩] 26)) = W at *
  refine wp_scope_fwd 0 rfl ?_
  obtain ⟨a0, a1, a2, a3, a4, a5, _⟩ := P0.out.cells
  simp only at a0 a1 a2 a3 a4 a5
  go_wp2_with (go_at_call 23; refine (RC.out _).mono ?_; rintro _ w2 ⟨rfl, hb2⟩)
  have K2 := hid (K0.out.later hb2)
  have P2 := hid (P0.out.later hb2)
  have Q2 := hid (Q0.out.later hb2)
  have B2 := hid (B0.out.trans (hb2.mono B0.out.size))
  clear K0 P0 Q0 B0 hb2 a0 a1 a2 a3 a4 a5
  obtain ⟨a0, a1, a2, a3, a4, a5, _⟩ := P2.out.cells
  simp only at a0 a1 a2 a3 a4 a5
  go_region
  have K2' : Hid (IsK w2.drew g F) := K2.out
  go_wp2_with (go_at_call 24; refine (CC.out _ K2'.out).mono ?_; rintro _ w3 ⟨rfl, hb3⟩; (have K3 := hid (K2'.out.later hb3)); (obtain ⟨c0, c1, c2, c3⟩ := K3.out.at1); rw [HST.out] at c0; (have hb3' := und hb3); (have P3 := hid (P2.out.later hb3')); (have Q3 := hid (Q2.out.later hb3')); (have B3 := hid (B2.out.trans (hb3'.mono B2.out.size))); (have f0 := K3.out.fz 0); (have f1 := K3.out.fz 1); (have f2 := K3.out.fz 2); (have f3 := K3.out.fz 3); (obtain ⟨d0, d1, d2, d3, d4, d5, _⟩ := P3.out.cells); simp only at d0 d1 d2 d3 d4 d5; (obtain ⟨z0, z1, z2, z3, z4, z5, zf⟩ := Q3.out.cells); (have y0 := zf 0); (have y1 := zf 1); (have y2 := zf 2); (have y3 := zf 3); (have y4 := zf 4); (have y5 := zf 5); clear a0 a1 a2 a3 a4 a5 hb3 hb3' zf K2 K2' P2 Q2 B2)
  rw [jump_ret]
  refine bodyPost_ret (v := .tuple #[.string ⟨#[]⟩, .bool false, Fr.val zpk, .bool false]) (by simp [results, Try.results9, go_sem, Fr.val, zpk, z0, z1, z2, z3, z4, z5, hne1, hne2, hne3, hne4]) rfl ⟨rfl, ?_⟩
  exact (ou_newS (S := fun _ => False) B3.out (((((((Ou.refl (fun k => k = w.heap.size + 1) _).set rfl).set rfl).set rfl).set rfl).set rfl).set rfl) (fun k e => .inr (by omega))).below (Nat.le_refl _) (fun k e => e.elim)
set_option maxHeartbeats 4000000 in
theorem ktake_1_r {w : World} {g : Nat} {F : Nat → Tk} (h : IsK w g F) (e s : Int) (b : ByteArray) (hp : Fr.Wf ⟨1, 1, 0, e, s, b⟩) (hs : b.size ≤ maxLen) (hr : Fr.rightB ⟨1, 1, 0, e, s, b⟩ = true) (hst : (F 1).st = 1) (a : Int) (ha : a = orF (cmpF (F 1).ep e) (cmpF (F 1).num s)) (hlt : ¬ a < 0) (h0 : (a == 0) = false) :
    Calls Try.prog 9 #[pC g, .agg #[.int .u8 1, .int .u8 1, .int .u8 0, .int .u32 e, .int .u32 s, .string b]] w fun x w' => x = .returned (.tuple #[.string ⟨#[]⟩, .bool false, Fr.val zpk, .bool false]) ∧ Below w.heap.size w w' := by
  have RC : Hid (∀ W, Calls Try.prog 23 #[.agg #[.int .u8 1, .int .u8 1, .int .u8 0, .int .u32 e, .int .u32 s, .string b]] W fun x w' => x = .returned (.bool true) ∧ Below W.heap.size W w') := fun W => by
    have := right_c ⟨1, 1, 0, e, s, b⟩ hp hs W
    rw [hr] at this
    exact this
  have CC : Hid (∀ W, IsK W g F → Calls Try.prog 24 #[.pointer (some ⟨g, 0, none⟩), .agg #[.int .u8 1, .int .u8 1, .int .u8 0, .int .u32 e, .int .u32 s, .string b]] W fun x w' => x = .returned (.int .i64 a) ∧ Below W.heap.size W w') := fun W hW => by
    rw [ha]; exact compare_c _ _ hW.at1.2.1 hW.at1.2.2.1 1 1 0 e s b
  have AC : Hid (∀ W, IsK W g F → Calls Try.prog 25 #[.pointer (some ⟨g, 0, none⟩), .int .u8 1] W fun x w' => x = .returned (Fr.val ⟨2, 0, 1, (F 1).ep, (F 1).num, (F 1).body⟩) ∧ Below W.heap.size W w') := fun W hW => answer_c _ _ _ hW.lt hW.at1.2.1 hW.at1.2.2.1 hW.at1.2.2.2 1
  have hlt := h.lt
  have b1 : Below w.heap.size w (w.alloc (.cells #[.int .u8 1, .int .u8 1, .int .u8 0, .int .u32 e, .int .u32 s, .string b] 26)) := (Below.refl _ _).alloc (Nat.le_refl _) _
  have P1 := PkAt.new w ⟨1, 1, 0, e, s, b⟩
  have b2 : Below (w.alloc (.cells #[.int .u8 1, .int .u8 1, .int .u8 0, .int .u32 e, .int .u32 s, .string b] 26)).heap.size (w.alloc (.cells #[.int .u8 1, .int .u8 1, .int .u8 0, .int .u32 e, .int .u32 s, .string b] 26)) ((w.alloc (.cells #[.int .u8 1, .int .u8 1, .int .u8 0, .int .u32 e, .int .u32 s, .string b] 26)).alloc (.cells #[.int .u8 0, .int .u8 0, .int .u8 0, .int .u32 0, .int .u32 0, .string ⟨#[]⟩] 26)) := (Below.refl _ _).alloc (Nat.le_refl _) _
  have P2 : PkAt ((w.alloc (.cells #[.int .u8 1, .int .u8 1, .int .u8 0, .int .u32 e, .int .u32 s, .string b] 26)).alloc (.cells #[.int .u8 0, .int .u8 0, .int .u8 0, .int .u32 0, .int .u32 0, .string ⟨#[]⟩] 26)) (w.heap.size + 1) zpk := by
    have e0 : (w.alloc (.cells #[.int .u8 1, .int .u8 1, .int .u8 0, .int .u32 e, .int .u32 s, .string b] 26)).heap.size = w.heap.size + 1 := by simp
    rw [← e0]
    exact PkAt.new _ zpk
  have K0 := hid ((h.later b1).later b2)
  have P0 : Hid (PkAt ((w.alloc (.cells #[.int .u8 1, .int .u8 1, .int .u8 0, .int .u32 e, .int .u32 s, .string b] 26)).alloc (.cells #[.int .u8 0, .int .u8 0, .int .u8 0, .int .u32 0, .int .u32 0, .string ⟨#[]⟩] 26)) w.heap.size ⟨1, 1, 0, e, s, b⟩) := hid (P1.later b2)
  have Q0 := hid P2
  have B0 : Hid (Below w.heap.size w ((w.alloc (.cells #[.int .u8 1, .int .u8 1, .int .u8 0, .int .u32 e, .int .u32 s, .string b] 26)).alloc (.cells #[.int .u8 0, .int .u8 0, .int .u8 0, .int .u32 0, .int .u32 0, .string ⟨#[]⟩] 26))) := hid (b1.trans (b2.mono b1.size))
  have hne1 : ¬ g = w.heap.size := by omega
  have hne2 : ¬ g = w.heap.size + 1 := by omega
  have hne3 : ¬ w.heap.size = g := by omega
  have hne4 : ¬ w.heap.size + 1 = g := by omega
  have HST := hid hst
  clear h hp hs hr ha b1 P1 b2 P2 hst
  go_enter Try.func9, Try.ntmps9
  go_wp2_with fail
  generalize ((w.alloc (.cells #[.int .u8 1, .int .u8 1, .int .u8 0, .int .u32 e, .int .u32 s, .string b] 26)).alloc (.cells #[.int .u8 0, .int .u8 0, .int .u8 0, .int .u32 0, .int .u32 0, .string ⟨#[]⟩] 26)) = W at *
  refine wp_scope_fwd 0 rfl ?_
  obtain ⟨a0, a1, a2, a3, a4, a5, _⟩ := P0.out.cells
  simp only at a0 a1 a2 a3 a4 a5
  go_wp2_with (go_at_call 23; refine (RC.out _).mono ?_; rintro _ w2 ⟨rfl, hb2⟩)
  have K2 := hid (K0.out.later hb2)
  have P2 := hid (P0.out.later hb2)
  have Q2 := hid (Q0.out.later hb2)
  have B2 := hid (B0.out.trans (hb2.mono B0.out.size))
  clear K0 P0 Q0 B0 hb2 a0 a1 a2 a3 a4 a5
  obtain ⟨a0, a1, a2, a3, a4, a5, _⟩ := P2.out.cells
  simp only at a0 a1 a2 a3 a4 a5
  go_region
  have K2' : Hid (IsK w2.drew g F) := K2.out
  go_wp2_with (go_at_call 24; refine (CC.out _ K2'.out).mono ?_; rintro _ w3 ⟨rfl, hb3⟩; (have K3 := hid (K2'.out.later hb3)); (obtain ⟨c0, c1, c2, c3⟩ := K3.out.at1); rw [HST.out] at c0; (have hb3' := und hb3); (have P3 := hid (P2.out.later hb3')); (have Q3 := hid (Q2.out.later hb3')); (have B3 := hid (B2.out.trans (hb3'.mono B2.out.size))); (have f0 := K3.out.fz 0); (have f1 := K3.out.fz 1); (have f2 := K3.out.fz 2); (have f3 := K3.out.fz 3); (obtain ⟨d0, d1, d2, d3, d4, d5, _⟩ := P3.out.cells); simp only at d0 d1 d2 d3 d4 d5; (obtain ⟨z0, z1, z2, z3, z4, z5, zf⟩ := Q3.out.cells); (have y0 := zf 0); (have y1 := zf 1); (have y2 := zf 2); (have y3 := zf 3); (have y4 := zf 4); (have y5 := zf 5); clear a0 a1 a2 a3 a4 a5 hb3 hb3' zf K2 K2' P2 Q2 B2)
  rw [jump_ret]
  refine bodyPost_ret (v := .tuple #[.string ⟨#[]⟩, .bool false, Fr.val zpk, .bool false]) (by simp [results, Try.results9, go_sem, Fr.val, zpk, z0, z1, z2, z3, z4, z5, hne1, hne2, hne3, hne4]) rfl ⟨rfl, ?_⟩
  exact (ou_newS (S := fun _ => False) B3.out (((((((Ou.refl (fun k => k = w.heap.size + 1) _).set rfl).set rfl).set rfl).set rfl).set rfl).set rfl) (fun k e => .inr (by omega))).below (Nat.le_refl _) (fun k e => e.elim)
set_option maxHeartbeats 4000000 in
theorem ktake_1_s {w : World} {g : Nat} {F : Nat → Tk} (h : IsK w g F) (e s : Int) (b : ByteArray) (hp : Fr.Wf ⟨1, 1, 0, e, s, b⟩) (hs : b.size ≤ maxLen) (hr : Fr.rightB ⟨1, 1, 0, e, s, b⟩ = true) (hst : (F 1).st = 2) (a : Int) (ha : a = orF (cmpF (F 1).ep e) (cmpF (F 1).num s)) (hlt : ¬ a < 0) (h0 : (a == 0) = true) :
    Calls Try.prog 9 #[pC g, .agg #[.int .u8 1, .int .u8 1, .int .u8 0, .int .u32 e, .int .u32 s, .string b]] w fun x w' => x = .returned (.tuple #[.string ⟨#[]⟩, .bool false, Fr.val ⟨2, 0, 1, (F 1).ep, (F 1).num, (F 1).body⟩, .bool true]) ∧ Below w.heap.size w w' := by
  have RC : Hid (∀ W, Calls Try.prog 23 #[.agg #[.int .u8 1, .int .u8 1, .int .u8 0, .int .u32 e, .int .u32 s, .string b]] W fun x w' => x = .returned (.bool true) ∧ Below W.heap.size W w') := fun W => by
    have := right_c ⟨1, 1, 0, e, s, b⟩ hp hs W
    rw [hr] at this
    exact this
  have CC : Hid (∀ W, IsK W g F → Calls Try.prog 24 #[.pointer (some ⟨g, 0, none⟩), .agg #[.int .u8 1, .int .u8 1, .int .u8 0, .int .u32 e, .int .u32 s, .string b]] W fun x w' => x = .returned (.int .i64 a) ∧ Below W.heap.size W w') := fun W hW => by
    rw [ha]; exact compare_c _ _ hW.at1.2.1 hW.at1.2.2.1 1 1 0 e s b
  have AC : Hid (∀ W, IsK W g F → Calls Try.prog 25 #[.pointer (some ⟨g, 0, none⟩), .int .u8 1] W fun x w' => x = .returned (Fr.val ⟨2, 0, 1, (F 1).ep, (F 1).num, (F 1).body⟩) ∧ Below W.heap.size W w') := fun W hW => answer_c _ _ _ hW.lt hW.at1.2.1 hW.at1.2.2.1 hW.at1.2.2.2 1
  have hlt := h.lt
  have b1 : Below w.heap.size w (w.alloc (.cells #[.int .u8 1, .int .u8 1, .int .u8 0, .int .u32 e, .int .u32 s, .string b] 26)) := (Below.refl _ _).alloc (Nat.le_refl _) _
  have P1 := PkAt.new w ⟨1, 1, 0, e, s, b⟩
  have b2 : Below (w.alloc (.cells #[.int .u8 1, .int .u8 1, .int .u8 0, .int .u32 e, .int .u32 s, .string b] 26)).heap.size (w.alloc (.cells #[.int .u8 1, .int .u8 1, .int .u8 0, .int .u32 e, .int .u32 s, .string b] 26)) ((w.alloc (.cells #[.int .u8 1, .int .u8 1, .int .u8 0, .int .u32 e, .int .u32 s, .string b] 26)).alloc (.cells #[.int .u8 0, .int .u8 0, .int .u8 0, .int .u32 0, .int .u32 0, .string ⟨#[]⟩] 26)) := (Below.refl _ _).alloc (Nat.le_refl _) _
  have P2 : PkAt ((w.alloc (.cells #[.int .u8 1, .int .u8 1, .int .u8 0, .int .u32 e, .int .u32 s, .string b] 26)).alloc (.cells #[.int .u8 0, .int .u8 0, .int .u8 0, .int .u32 0, .int .u32 0, .string ⟨#[]⟩] 26)) (w.heap.size + 1) zpk := by
    have e0 : (w.alloc (.cells #[.int .u8 1, .int .u8 1, .int .u8 0, .int .u32 e, .int .u32 s, .string b] 26)).heap.size = w.heap.size + 1 := by simp
    rw [← e0]
    exact PkAt.new _ zpk
  have K0 := hid ((h.later b1).later b2)
  have P0 : Hid (PkAt ((w.alloc (.cells #[.int .u8 1, .int .u8 1, .int .u8 0, .int .u32 e, .int .u32 s, .string b] 26)).alloc (.cells #[.int .u8 0, .int .u8 0, .int .u8 0, .int .u32 0, .int .u32 0, .string ⟨#[]⟩] 26)) w.heap.size ⟨1, 1, 0, e, s, b⟩) := hid (P1.later b2)
  have Q0 := hid P2
  have B0 : Hid (Below w.heap.size w ((w.alloc (.cells #[.int .u8 1, .int .u8 1, .int .u8 0, .int .u32 e, .int .u32 s, .string b] 26)).alloc (.cells #[.int .u8 0, .int .u8 0, .int .u8 0, .int .u32 0, .int .u32 0, .string ⟨#[]⟩] 26))) := hid (b1.trans (b2.mono b1.size))
  have hne1 : ¬ g = w.heap.size := by omega
  have hne2 : ¬ g = w.heap.size + 1 := by omega
  have hne3 : ¬ w.heap.size = g := by omega
  have hne4 : ¬ w.heap.size + 1 = g := by omega
  have HST := hid hst
  clear h hp hs hr ha b1 P1 b2 P2 hst
  go_enter Try.func9, Try.ntmps9
  go_wp2_with fail
  generalize ((w.alloc (.cells #[.int .u8 1, .int .u8 1, .int .u8 0, .int .u32 e, .int .u32 s, .string b] 26)).alloc (.cells #[.int .u8 0, .int .u8 0, .int .u8 0, .int .u32 0, .int .u32 0, .string ⟨#[]⟩] 26)) = W at *
  refine wp_scope_fwd 0 rfl ?_
  obtain ⟨a0, a1, a2, a3, a4, a5, _⟩ := P0.out.cells
  simp only at a0 a1 a2 a3 a4 a5
  go_wp2_with (go_at_call 23; refine (RC.out _).mono ?_; rintro _ w2 ⟨rfl, hb2⟩)
  have K2 := hid (K0.out.later hb2)
  have P2 := hid (P0.out.later hb2)
  have Q2 := hid (Q0.out.later hb2)
  have B2 := hid (B0.out.trans (hb2.mono B0.out.size))
  clear K0 P0 Q0 B0 hb2 a0 a1 a2 a3 a4 a5
  obtain ⟨a0, a1, a2, a3, a4, a5, _⟩ := P2.out.cells
  simp only at a0 a1 a2 a3 a4 a5
  go_region
  have K2' : Hid (IsK w2.drew g F) := K2.out
  go_wp2_with (first
   | (go_at_call 24; refine (CC.out _ K2'.out).mono ?_; rintro _ w3 ⟨rfl, hb3⟩; (have K3 := hid (K2'.out.later hb3)); (obtain ⟨c0, c1, c2, c3⟩ := K3.out.at1); rw [HST.out] at c0; (have hb3' := und hb3); (have P3 := hid (P2.out.later hb3')); (have Q3 := hid (Q2.out.later hb3')); (have B3 := hid (B2.out.trans (hb3'.mono B2.out.size))); (have f0 := K3.out.fz 0); (have f1 := K3.out.fz 1); (have f2 := K3.out.fz 2); (have f3 := K3.out.fz 3); (obtain ⟨d0, d1, d2, d3, d4, d5, _⟩ := P3.out.cells); simp only at d0 d1 d2 d3 d4 d5; (obtain ⟨z0, z1, z2, z3, z4, z5, zf⟩ := Q3.out.cells); (have y0 := zf 0); (have y1 := zf 1); (have y2 := zf 2); (have y3 := zf 3); (have y4 := zf 4); (have y5 := zf 5); clear a0 a1 a2 a3 a4 a5 hb3 hb3' zf K2 K2' P2 Q2 B2)
   | (go_at_call 25; refine (AC.out _ K3.out).mono ?_; rintro _ w6 ⟨rfl, hb6⟩; rw [show Fr.val ⟨2, 0, 1, (F 1).ep, (F 1).num, (F 1).body⟩ = .agg #[.int .u8 2, .int .u8 0, .int .u8 1, .int .u32 (F 1).ep, .int .u32 (F 1).num, .string (F 1).body] from rfl]; (have B6 := hid (B3.out.trans (hb6.mono B3.out.size))); (obtain ⟨x0, x1, x2, x3, x4, x5, xf⟩ := (Q3.out.later hb6).cells); (have v0 := xf 0); (have v1 := xf 1); (have v2 := xf 2); (have v3 := xf 3); (have v4 := xf 4); (have v5 := xf 5); clear xf))
  rw [jump_ret]
  refine bodyPost_ret (v := .tuple #[.string ⟨#[]⟩, .bool false, Fr.val ⟨2, 0, 1, (F 1).ep, (F 1).num, (F 1).body⟩, .bool true]) (by simp [results, Try.results9, go_sem, Fr.val, zpk, x0, x1, x2, x3, x4, x5, hne1, hne2, hne3, hne4]) rfl ⟨rfl, ?_⟩
  exact (ou_newS (S := fun _ => False) B6.out (((((((Ou.refl (fun k => k = w.heap.size + 1) _).set rfl).set rfl).set rfl).set rfl).set rfl).set rfl) (fun k e => .inr (by omega))).below (Nat.le_refl _) (fun k e => e.elim)
set_option maxHeartbeats 4000000 in
theorem ktake_1_t {w : World} {g : Nat} {F : Nat → Tk} (h : IsK w g F) (e s : Int) (b : ByteArray) (hp : Fr.Wf ⟨1, 1, 0, e, s, b⟩) (hs : b.size ≤ maxLen) (hr : Fr.rightB ⟨1, 1, 0, e, s, b⟩ = true) (hst : (F 1).st = 2) (a : Int) (ha : a = orF (cmpF (F 1).ep e) (cmpF (F 1).num s)) (hlt : ¬ a < 0) (h0 : (a == 0) = false) :
    Calls Try.prog 9 #[pC g, .agg #[.int .u8 1, .int .u8 1, .int .u8 0, .int .u32 e, .int .u32 s, .string b]] w fun x w' => x = .returned (.tuple #[.string ⟨#[]⟩, .bool false, Fr.val zpk, .bool false]) ∧ Below w.heap.size w w' := by
  have RC : Hid (∀ W, Calls Try.prog 23 #[.agg #[.int .u8 1, .int .u8 1, .int .u8 0, .int .u32 e, .int .u32 s, .string b]] W fun x w' => x = .returned (.bool true) ∧ Below W.heap.size W w') := fun W => by
    have := right_c ⟨1, 1, 0, e, s, b⟩ hp hs W
    rw [hr] at this
    exact this
  have CC : Hid (∀ W, IsK W g F → Calls Try.prog 24 #[.pointer (some ⟨g, 0, none⟩), .agg #[.int .u8 1, .int .u8 1, .int .u8 0, .int .u32 e, .int .u32 s, .string b]] W fun x w' => x = .returned (.int .i64 a) ∧ Below W.heap.size W w') := fun W hW => by
    rw [ha]; exact compare_c _ _ hW.at1.2.1 hW.at1.2.2.1 1 1 0 e s b
  have AC : Hid (∀ W, IsK W g F → Calls Try.prog 25 #[.pointer (some ⟨g, 0, none⟩), .int .u8 1] W fun x w' => x = .returned (Fr.val ⟨2, 0, 1, (F 1).ep, (F 1).num, (F 1).body⟩) ∧ Below W.heap.size W w') := fun W hW => answer_c _ _ _ hW.lt hW.at1.2.1 hW.at1.2.2.1 hW.at1.2.2.2 1
  have hlt := h.lt
  have b1 : Below w.heap.size w (w.alloc (.cells #[.int .u8 1, .int .u8 1, .int .u8 0, .int .u32 e, .int .u32 s, .string b] 26)) := (Below.refl _ _).alloc (Nat.le_refl _) _
  have P1 := PkAt.new w ⟨1, 1, 0, e, s, b⟩
  have b2 : Below (w.alloc (.cells #[.int .u8 1, .int .u8 1, .int .u8 0, .int .u32 e, .int .u32 s, .string b] 26)).heap.size (w.alloc (.cells #[.int .u8 1, .int .u8 1, .int .u8 0, .int .u32 e, .int .u32 s, .string b] 26)) ((w.alloc (.cells #[.int .u8 1, .int .u8 1, .int .u8 0, .int .u32 e, .int .u32 s, .string b] 26)).alloc (.cells #[.int .u8 0, .int .u8 0, .int .u8 0, .int .u32 0, .int .u32 0, .string ⟨#[]⟩] 26)) := (Below.refl _ _).alloc (Nat.le_refl _) _
  have P2 : PkAt ((w.alloc (.cells #[.int .u8 1, .int .u8 1, .int .u8 0, .int .u32 e, .int .u32 s, .string b] 26)).alloc (.cells #[.int .u8 0, .int .u8 0, .int .u8 0, .int .u32 0, .int .u32 0, .string ⟨#[]⟩] 26)) (w.heap.size + 1) zpk := by
    have e0 : (w.alloc (.cells #[.int .u8 1, .int .u8 1, .int .u8 0, .int .u32 e, .int .u32 s, .string b] 26)).heap.size = w.heap.size + 1 := by simp
    rw [← e0]
    exact PkAt.new _ zpk
  have K0 := hid ((h.later b1).later b2)
  have P0 : Hid (PkAt ((w.alloc (.cells #[.int .u8 1, .int .u8 1, .int .u8 0, .int .u32 e, .int .u32 s, .string b] 26)).alloc (.cells #[.int .u8 0, .int .u8 0, .int .u8 0, .int .u32 0, .int .u32 0, .string ⟨#[]⟩] 26)) w.heap.size ⟨1, 1, 0, e, s, b⟩) := hid (P1.later b2)
  have Q0 := hid P2
  have B0 : Hid (Below w.heap.size w ((w.alloc (.cells #[.int .u8 1, .int .u8 1, .int .u8 0, .int .u32 e, .int .u32 s, .string b] 26)).alloc (.cells #[.int .u8 0, .int .u8 0, .int .u8 0, .int .u32 0, .int .u32 0, .string ⟨#[]⟩] 26))) := hid (b1.trans (b2.mono b1.size))
  have hne1 : ¬ g = w.heap.size := by omega
  have hne2 : ¬ g = w.heap.size + 1 := by omega
  have hne3 : ¬ w.heap.size = g := by omega
  have hne4 : ¬ w.heap.size + 1 = g := by omega
  have HST := hid hst
  clear h hp hs hr ha b1 P1 b2 P2 hst
  go_enter Try.func9, Try.ntmps9
  go_wp2_with fail
  generalize ((w.alloc (.cells #[.int .u8 1, .int .u8 1, .int .u8 0, .int .u32 e, .int .u32 s, .string b] 26)).alloc (.cells #[.int .u8 0, .int .u8 0, .int .u8 0, .int .u32 0, .int .u32 0, .string ⟨#[]⟩] 26)) = W at *
  refine wp_scope_fwd 0 rfl ?_
  obtain ⟨a0, a1, a2, a3, a4, a5, _⟩ := P0.out.cells
  simp only at a0 a1 a2 a3 a4 a5
  go_wp2_with (go_at_call 23; refine (RC.out _).mono ?_; rintro _ w2 ⟨rfl, hb2⟩)
  have K2 := hid (K0.out.later hb2)
  have P2 := hid (P0.out.later hb2)
  have Q2 := hid (Q0.out.later hb2)
  have B2 := hid (B0.out.trans (hb2.mono B0.out.size))
  clear K0 P0 Q0 B0 hb2 a0 a1 a2 a3 a4 a5
  obtain ⟨a0, a1, a2, a3, a4, a5, _⟩ := P2.out.cells
  simp only at a0 a1 a2 a3 a4 a5
  go_region
  have K2' : Hid (IsK w2.drew g F) := K2.out
  go_wp2_with (go_at_call 24; refine (CC.out _ K2'.out).mono ?_; rintro _ w3 ⟨rfl, hb3⟩; (have K3 := hid (K2'.out.later hb3)); (obtain ⟨c0, c1, c2, c3⟩ := K3.out.at1); rw [HST.out] at c0; (have hb3' := und hb3); (have P3 := hid (P2.out.later hb3')); (have Q3 := hid (Q2.out.later hb3')); (have B3 := hid (B2.out.trans (hb3'.mono B2.out.size))); (have f0 := K3.out.fz 0); (have f1 := K3.out.fz 1); (have f2 := K3.out.fz 2); (have f3 := K3.out.fz 3); (obtain ⟨d0, d1, d2, d3, d4, d5, _⟩ := P3.out.cells); simp only at d0 d1 d2 d3 d4 d5; (obtain ⟨z0, z1, z2, z3, z4, z5, zf⟩ := Q3.out.cells); (have y0 := zf 0); (have y1 := zf 1); (have y2 := zf 2); (have y3 := zf 3); (have y4 := zf 4); (have y5 := zf 5); clear a0 a1 a2 a3 a4 a5 hb3 hb3' zf K2 K2' P2 Q2 B2)
  rw [jump_ret]
  refine bodyPost_ret (v := .tuple #[.string ⟨#[]⟩, .bool false, Fr.val zpk, .bool false]) (by simp [results, Try.results9, go_sem, Fr.val, zpk, z0, z1, z2, z3, z4, z5, hne1, hne2, hne3, hne4]) rfl ⟨rfl, ?_⟩
  exact (ou_newS (S := fun _ => False) B3.out (((((((Ou.refl (fun k => k = w.heap.size + 1) _).set rfl).set rfl).set rfl).set rfl).set rfl).set rfl) (fun k e => .inr (by omega))).below (Nat.le_refl _) (fun k e => e.elim)
set_option maxHeartbeats 4000000 in
theorem ktake_2_z {w : World} {g : Nat} {F : Nat → Tk} (h : IsK w g F) (e s : Int) (b : ByteArray) (hp : Fr.Wf ⟨1, 2, 0, e, s, b⟩) (hs : b.size ≤ maxLen) (hr : Fr.rightB ⟨1, 2, 0, e, s, b⟩ = true) (hst : (F 2).st = 0) (a : Int) (ha : a = orF (cmpF (F 2).ep e) (cmpF (F 2).num s))  :
    Calls Try.prog 9 #[pC g, .agg #[.int .u8 1, .int .u8 2, .int .u8 0, .int .u32 e, .int .u32 s, .string b]] w fun x w' => x = .returned (.tuple #[.string b, .bool true, Fr.val zpk, .bool false]) ∧ IsK w' g (updK F 2 ⟨1, e, s, ⟨#[]⟩⟩) ∧ Ou (fun k => k = g) w w' := by
  have RC : Hid (∀ W, Calls Try.prog 23 #[.agg #[.int .u8 1, .int .u8 2, .int .u8 0, .int .u32 e, .int .u32 s, .string b]] W fun x w' => x = .returned (.bool true) ∧ Below W.heap.size W w') := fun W => by
    have := right_c ⟨1, 2, 0, e, s, b⟩ hp hs W
    rw [hr] at this
    exact this
  have CC : Hid (∀ W, IsK W g F → Calls Try.prog 24 #[.pointer (some ⟨g, 4, none⟩), .agg #[.int .u8 1, .int .u8 2, .int .u8 0, .int .u32 e, .int .u32 s, .string b]] W fun x w' => x = .returned (.int .i64 a) ∧ Below W.heap.size W w') := fun W hW => by
    rw [ha]; exact compare_c _ _ hW.at2.2.1 hW.at2.2.2.1 1 2 0 e s b
  have AC : Hid (∀ W, IsK W g F → Calls Try.prog 25 #[.pointer (some ⟨g, 4, none⟩), .int .u8 2] W fun x w' => x = .returned (Fr.val ⟨2, 0, 2, (F 2).ep, (F 2).num, (F 2).body⟩) ∧ Below W.heap.size W w') := fun W hW => answer_c _ _ _ hW.lt hW.at2.2.1 hW.at2.2.2.1 hW.at2.2.2.2 2
  have hlt := h.lt
  have b1 : Below w.heap.size w (w.alloc (.cells #[.int .u8 1, .int .u8 2, .int .u8 0, .int .u32 e, .int .u32 s, .string b] 26)) := (Below.refl _ _).alloc (Nat.le_refl _) _
  have P1 := PkAt.new w ⟨1, 2, 0, e, s, b⟩
  have b2 : Below (w.alloc (.cells #[.int .u8 1, .int .u8 2, .int .u8 0, .int .u32 e, .int .u32 s, .string b] 26)).heap.size (w.alloc (.cells #[.int .u8 1, .int .u8 2, .int .u8 0, .int .u32 e, .int .u32 s, .string b] 26)) ((w.alloc (.cells #[.int .u8 1, .int .u8 2, .int .u8 0, .int .u32 e, .int .u32 s, .string b] 26)).alloc (.cells #[.int .u8 0, .int .u8 0, .int .u8 0, .int .u32 0, .int .u32 0, .string ⟨#[]⟩] 26)) := (Below.refl _ _).alloc (Nat.le_refl _) _
  have P2 : PkAt ((w.alloc (.cells #[.int .u8 1, .int .u8 2, .int .u8 0, .int .u32 e, .int .u32 s, .string b] 26)).alloc (.cells #[.int .u8 0, .int .u8 0, .int .u8 0, .int .u32 0, .int .u32 0, .string ⟨#[]⟩] 26)) (w.heap.size + 1) zpk := by
    have e0 : (w.alloc (.cells #[.int .u8 1, .int .u8 2, .int .u8 0, .int .u32 e, .int .u32 s, .string b] 26)).heap.size = w.heap.size + 1 := by simp
    rw [← e0]
    exact PkAt.new _ zpk
  have K0 := hid ((h.later b1).later b2)
  have P0 : Hid (PkAt ((w.alloc (.cells #[.int .u8 1, .int .u8 2, .int .u8 0, .int .u32 e, .int .u32 s, .string b] 26)).alloc (.cells #[.int .u8 0, .int .u8 0, .int .u8 0, .int .u32 0, .int .u32 0, .string ⟨#[]⟩] 26)) w.heap.size ⟨1, 2, 0, e, s, b⟩) := hid (P1.later b2)
  have Q0 := hid P2
  have B0 : Hid (Below w.heap.size w ((w.alloc (.cells #[.int .u8 1, .int .u8 2, .int .u8 0, .int .u32 e, .int .u32 s, .string b] 26)).alloc (.cells #[.int .u8 0, .int .u8 0, .int .u8 0, .int .u32 0, .int .u32 0, .string ⟨#[]⟩] 26))) := hid (b1.trans (b2.mono b1.size))
  have hne1 : ¬ g = w.heap.size := by omega
  have hne2 : ¬ g = w.heap.size + 1 := by omega
  have hne3 : ¬ w.heap.size = g := by omega
  have hne4 : ¬ w.heap.size + 1 = g := by omega
  have HST := hid hst
  clear h hp hs hr ha b1 P1 b2 P2 hst
  go_enter Try.func9, Try.ntmps9
  go_wp2_with fail
  generalize ((w.alloc (.cells #[.int .u8 1, .int .u8 2, .int .u8 0, .int .u32 e, .int .u32 s, .string b] 26)).alloc (.cells #[.int .u8 0, .int .u8 0, .int .u8 0, .int .u32 0, .int .u32 0, .string ⟨#[]⟩] 26)) = W at *
  refine wp_scope_fwd 0 rfl ?_
  obtain ⟨a0, a1, a2, a3, a4, a5, _⟩ := P0.out.cells
  simp only at a0 a1 a2 a3 a4 a5
  go_wp2_with (go_at_call 23; refine (RC.out _).mono ?_; rintro _ w2 ⟨rfl, hb2⟩)
  have K2 := hid (K0.out.later hb2)
  have P2 := hid (P0.out.later hb2)
  have Q2 := hid (Q0.out.later hb2)
  have B2 := hid (B0.out.trans (hb2.mono B0.out.size))
  clear K0 P0 Q0 B0 hb2 a0 a1 a2 a3 a4 a5
  obtain ⟨a0, a1, a2, a3, a4, a5, _⟩ := P2.out.cells
  simp only at a0 a1 a2 a3 a4 a5
  go_region
  have K2' : Hid (IsK w2.drew g F) := K2.out
  go_wp2_with (go_at_call 24; refine (CC.out _ K2'.out).mono ?_; rintro _ w3 ⟨rfl, hb3⟩; (have K3 := hid (K2'.out.later hb3)); (obtain ⟨c0, c1, c2, c3⟩ := K3.out.at2); rw [HST.out] at c0; (have hb3' := und hb3); (have P3 := hid (P2.out.later hb3')); (have Q3 := hid (Q2.out.later hb3')); (have B3 := hid (B2.out.trans (hb3'.mono B2.out.size))); (have f0 := K3.out.fz 4); (have f1 := K3.out.fz 5); (have f2 := K3.out.fz 6); (have f3 := K3.out.fz 7); (obtain ⟨d0, d1, d2, d3, d4, d5, _⟩ := P3.out.cells); simp only at d0 d1 d2 d3 d4 d5; (obtain ⟨z0, z1, z2, z3, z4, z5, zf⟩ := Q3.out.cells); (have y0 := zf 0); (have y1 := zf 1); (have y2 := zf 2); (have y3 := zf 3); (have y4 := zf 4); (have y5 := zf 5); clear a0 a1 a2 a3 a4 a5 hb3 hb3' zf K2 K2' P2 Q2 B2)
  go_step3
  refine ⟨rfl, ?_⟩
  go_wp2
  rw [Exit.noGoto_ret]
  refine bodyPost_ret (v := .tuple #[.string b, .bool true, Fr.val zpk, .bool false]) (by simp [results, Try.results9, go_sem, Fr.val, zpk, z0, z1, z2, z3, z4, z5, hne1, hne2, hne3, hne4]) rfl ⟨rfl, ?_, ?_⟩
  · exact IsK.out (S := fun k => k = w.heap.size + 1) (f := updK F 2 ⟨1, e, s, ⟨#[]⟩⟩) (row_set 7 _ (row_set 6 _ (row_set 5 _ (row_set 4 _ K3.out)))) (((((((Ou.refl (fun k => k = w.heap.size + 1) _).set rfl).set rfl).set rfl).set rfl).set rfl).set rfl) hne2
  · exact ou_newS B3.out (((((((((((Ou.refl (fun k => k = g ∨ k = w.heap.size + 1) _).set (.inl rfl)).set (.inl rfl)).set (.inl rfl)).set (.inl rfl)).set (.inr rfl)).set (.inr rfl)).set (.inr rfl)).set (.inr rfl)).set (.inr rfl)).set (.inr rfl)) (fun k e => e.elim .inl fun e => .inr (by omega))
set_option maxHeartbeats 4000000 in
theorem ktake_2_o {w : World} {g : Nat} {F : Nat → Tk} (h : IsK w g F) (e s : Int) (b : ByteArray) (hp : Fr.Wf ⟨1, 2, 0, e, s, b⟩) (hs : b.size ≤ maxLen) (hr : Fr.rightB ⟨1, 2, 0, e, s, b⟩ = true) (hst : (F 2).st = 1) (a : Int) (ha : a = orF (cmpF (F 2).ep e) (cmpF (F 2).num s)) (hlt : a < 0) :
    Calls Try.prog 9 #[pC g, .agg #[.int .u8 1, .int .u8 2, .int .u8 0, .int .u32 e, .int .u32 s, .string b]] w fun x w' => x = .returned (.tuple #[.string b, .bool true, Fr.val zpk, .bool false]) ∧ IsK w' g (updK F 2 ⟨1, e, s, ⟨#[]⟩⟩) ∧ Ou (fun k => k = g) w w' := by
  have RC : Hid (∀ W, Calls Try.prog 23 #[.agg #[.int .u8 1, .int .u8 2, .int .u8 0, .int .u32 e, .int .u32 s, .string b]] W fun x w' => x = .returned (.bool true) ∧ Below W.heap.size W w') := fun W => by
    have := right_c ⟨1, 2, 0, e, s, b⟩ hp hs W
    rw [hr] at this
    exact this
  have CC : Hid (∀ W, IsK W g F → Calls Try.prog 24 #[.pointer (some ⟨g, 4, none⟩), .agg #[.int .u8 1, .int .u8 2, .int .u8 0, .int .u32 e, .int .u32 s, .string b]] W fun x w' => x = .returned (.int .i64 a) ∧ Below W.heap.size W w') := fun W hW => by
    rw [ha]; exact compare_c _ _ hW.at2.2.1 hW.at2.2.2.1 1 2 0 e s b
  have AC : Hid (∀ W, IsK W g F → Calls Try.prog 25 #[.pointer (some ⟨g, 4, none⟩), .int .u8 2] W fun x w' => x = .returned (Fr.val ⟨2, 0, 2, (F 2).ep, (F 2).num, (F 2).body⟩) ∧ Below W.heap.size W w') := fun W hW => answer_c _ _ _ hW.lt hW.at2.2.1 hW.at2.2.2.1 hW.at2.2.2.2 2
  have hlt := h.lt
  have b1 : Below w.heap.size w (w.alloc (.cells #[.int .u8 1, .int .u8 2, .int .u8 0, .int .u32 e, .int .u32 s, .string b] 26)) := (Below.refl _ _).alloc (Nat.le_refl _) _
  have P1 := PkAt.new w ⟨1, 2, 0, e, s, b⟩
  have b2 : Below (w.alloc (.cells #[.int .u8 1, .int .u8 2, .int .u8 0, .int .u32 e, .int .u32 s, .string b] 26)).heap.size (w.alloc (.cells #[.int .u8 1, .int .u8 2, .int .u8 0, .int .u32 e, .int .u32 s, .string b] 26)) ((w.alloc (.cells #[.int .u8 1, .int .u8 2, .int .u8 0, .int .u32 e, .int .u32 s, .string b] 26)).alloc (.cells #[.int .u8 0, .int .u8 0, .int .u8 0, .int .u32 0, .int .u32 0, .string ⟨#[]⟩] 26)) := (Below.refl _ _).alloc (Nat.le_refl _) _
  have P2 : PkAt ((w.alloc (.cells #[.int .u8 1, .int .u8 2, .int .u8 0, .int .u32 e, .int .u32 s, .string b] 26)).alloc (.cells #[.int .u8 0, .int .u8 0, .int .u8 0, .int .u32 0, .int .u32 0, .string ⟨#[]⟩] 26)) (w.heap.size + 1) zpk := by
    have e0 : (w.alloc (.cells #[.int .u8 1, .int .u8 2, .int .u8 0, .int .u32 e, .int .u32 s, .string b] 26)).heap.size = w.heap.size + 1 := by simp
    rw [← e0]
    exact PkAt.new _ zpk
  have K0 := hid ((h.later b1).later b2)
  have P0 : Hid (PkAt ((w.alloc (.cells #[.int .u8 1, .int .u8 2, .int .u8 0, .int .u32 e, .int .u32 s, .string b] 26)).alloc (.cells #[.int .u8 0, .int .u8 0, .int .u8 0, .int .u32 0, .int .u32 0, .string ⟨#[]⟩] 26)) w.heap.size ⟨1, 2, 0, e, s, b⟩) := hid (P1.later b2)
  have Q0 := hid P2
  have B0 : Hid (Below w.heap.size w ((w.alloc (.cells #[.int .u8 1, .int .u8 2, .int .u8 0, .int .u32 e, .int .u32 s, .string b] 26)).alloc (.cells #[.int .u8 0, .int .u8 0, .int .u8 0, .int .u32 0, .int .u32 0, .string ⟨#[]⟩] 26))) := hid (b1.trans (b2.mono b1.size))
  have hne1 : ¬ g = w.heap.size := by omega
  have hne2 : ¬ g = w.heap.size + 1 := by omega
  have hne3 : ¬ w.heap.size = g := by omega
  have hne4 : ¬ w.heap.size + 1 = g := by omega
  have HST := hid hst
  clear h hp hs hr ha b1 P1 b2 P2 hst
  go_enter Try.func9, Try.ntmps9
  go_wp2_with fail
  generalize ((w.alloc (.cells #[.int .u8 1, .int .u8 2, .int .u8 0, .int .u32 e, .int .u32 s, .string b] 26)).alloc (.cells #[.int .u8 0, .int .u8 0, .int .u8 0, .int .u32 0, .int .u32 0, .string ⟨#[]⟩] 26)) = W at *
  refine wp_scope_fwd 0 rfl ?_
  obtain ⟨a0, a1, a2, a3, a4, a5, _⟩ := P0.out.cells
  simp only at a0 a1 a2 a3 a4 a5
  go_wp2_with (go_at_call 23; refine (RC.out _).mono ?_; rintro _ w2 ⟨rfl, hb2⟩)
  have K2 := hid (K0.out.later hb2)
  have P2 := hid (P0.out.later hb2)
  have Q2 := hid (Q0.out.later hb2)
  have B2 := hid (B0.out.trans (hb2.mono B0.out.size))
  clear K0 P0 Q0 B0 hb2 a0 a1 a2 a3 a4 a5
  obtain ⟨a0, a1, a2, a3, a4, a5, _⟩ := P2.out.cells
  simp only at a0 a1 a2 a3 a4 a5
  go_region
  have K2' : Hid (IsK w2.drew g F) := K2.out
  go_wp2_with (go_at_call 24; refine (CC.out _ K2'.out).mono ?_; rintro _ w3 ⟨rfl, hb3⟩; (have K3 := hid (K2'.out.later hb3)); (obtain ⟨c0, c1, c2, c3⟩ := K3.out.at2); rw [HST.out] at c0; (have hb3' := und hb3); (have P3 := hid (P2.out.later hb3')); (have Q3 := hid (Q2.out.later hb3')); (have B3 := hid (B2.out.trans (hb3'.mono B2.out.size))); (have f0 := K3.out.fz 4); (have f1 := K3.out.fz 5); (have f2 := K3.out.fz 6); (have f3 := K3.out.fz 7); (obtain ⟨d0, d1, d2, d3, d4, d5, _⟩ := P3.out.cells); simp only at d0 d1 d2 d3 d4 d5; (obtain ⟨z0, z1, z2, z3, z4, z5, zf⟩ := Q3.out.cells); (have y0 := zf 0); (have y1 := zf 1); (have y2 := zf 2); (have y3 := zf 3); (have y4 := zf 4); (have y5 := zf 5); clear a0 a1 a2 a3 a4 a5 hb3 hb3' zf K2 K2' P2 Q2 B2)
  go_step3
  refine ⟨rfl, ?_⟩
  go_wp2
  rw [Exit.noGoto_ret]
  refine bodyPost_ret (v := .tuple #[.string b, .bool true, Fr.val zpk, .bool false]) (by simp [results, Try.results9, go_sem, Fr.val, zpk, z0, z1, z2, z3, z4, z5, hne1, hne2, hne3, hne4]) rfl ⟨rfl, ?_, ?_⟩
  · exact IsK.out (S := fun k => k = w.heap.size + 1) (f := updK F 2 ⟨1, e, s, ⟨#[]⟩⟩) (row_set 7 _ (row_set 6 _ (row_set 5 _ (row_set 4 _ K3.out)))) (((((((Ou.refl (fun k => k = w.heap.size + 1) _).set rfl).set rfl).set rfl).set rfl).set rfl).set rfl) hne2
  · exact ou_newS B3.out (((((((((((Ou.refl (fun k => k = g ∨ k = w.heap.size + 1) _).set (.inl rfl)).set (.inl rfl)).set (.inl rfl)).set (.inl rfl)).set (.inr rfl)).set (.inr rfl)).set (.inr rfl)).set (.inr rfl)).set (.inr rfl)).set (.inr rfl)) (fun k e => e.elim .inl fun e => .inr (by omega))
set_option maxHeartbeats 4000000 in
theorem ktake_2_p {w : World} {g : Nat} {F : Nat → Tk} (h : IsK w g F) (e s : Int) (b : ByteArray) (hp : Fr.Wf ⟨1, 2, 0, e, s, b⟩) (hs : b.size ≤ maxLen) (hr : Fr.rightB ⟨1, 2, 0, e, s, b⟩ = true) (hst : (F 2).st = 2) (a : Int) (ha : a = orF (cmpF (F 2).ep e) (cmpF (F 2).num s)) (hlt : a < 0) :
    Calls Try.prog 9 #[pC g, .agg #[.int .u8 1, .int .u8 2, .int .u8 0, .int .u32 e, .int .u32 s, .string b]] w fun x w' => x = .returned (.tuple #[.string b, .bool true, Fr.val zpk, .bool false]) ∧ IsK w' g (updK F 2 ⟨1, e, s, ⟨#[]⟩⟩) ∧ Ou (fun k => k = g) w w' := by
  have RC : Hid (∀ W, Calls Try.prog 23 #[.agg #[.int .u8 1, .int .u8 2, .int .u8 0, .int .u32 e, .int .u32 s, .string b]] W fun x w' => x = .returned (.bool true) ∧ Below W.heap.size W w') := fun W => by
    have := right_c ⟨1, 2, 0, e, s, b⟩ hp hs W
    rw [hr] at this
    exact this
  have CC : Hid (∀ W, IsK W g F → Calls Try.prog 24 #[.pointer (some ⟨g, 4, none⟩), .agg #[.int .u8 1, .int .u8 2, .int .u8 0, .int .u32 e, .int .u32 s, .string b]] W fun x w' => x = .returned (.int .i64 a) ∧ Below W.heap.size W w') := fun W hW => by
    rw [ha]; exact compare_c _ _ hW.at2.2.1 hW.at2.2.2.1 1 2 0 e s b
  have AC : Hid (∀ W, IsK W g F → Calls Try.prog 25 #[.pointer (some ⟨g, 4, none⟩), .int .u8 2] W fun x w' => x = .returned (Fr.val ⟨2, 0, 2, (F 2).ep, (F 2).num, (F 2).body⟩) ∧ Below W.heap.size W w') := fun W hW => answer_c _ _ _ hW.lt hW.at2.2.1 hW.at2.2.2.1 hW.at2.2.2.2 2
  have hlt := h.lt
  have b1 : Below w.heap.size w (w.alloc (.cells #[.int .u8 1, .int .u8 2, .int .u8 0, .int .u32 e, .int .u32 s, .string b] 26)) := (Below.refl _ _).alloc (Nat.le_refl _) _
  have P1 := PkAt.new w ⟨1, 2, 0, e, s, b⟩
  have b2 : Below (w.alloc (.cells #[.int .u8 1, .int .u8 2, .int .u8 0, .int .u32 e, .int .u32 s, .string b] 26)).heap.size (w.alloc (.cells #[.int .u8 1, .int .u8 2, .int .u8 0, .int .u32 e, .int .u32 s, .string b] 26)) ((w.alloc (.cells #[.int .u8 1, .int .u8 2, .int .u8 0, .int .u32 e, .int .u32 s, .string b] 26)).alloc (.cells #[.int .u8 0, .int .u8 0, .int .u8 0, .int .u32 0, .int .u32 0, .string ⟨#[]⟩] 26)) := (Below.refl _ _).alloc (Nat.le_refl _) _
  have P2 : PkAt ((w.alloc (.cells #[.int .u8 1, .int .u8 2, .int .u8 0, .int .u32 e, .int .u32 s, .string b] 26)).alloc (.cells #[.int .u8 0, .int .u8 0, .int .u8 0, .int .u32 0, .int .u32 0, .string ⟨#[]⟩] 26)) (w.heap.size + 1) zpk := by
    have e0 : (w.alloc (.cells #[.int .u8 1, .int .u8 2, .int .u8 0, .int .u32 e, .int .u32 s, .string b] 26)).heap.size = w.heap.size + 1 := by simp
    rw [← e0]
    exact PkAt.new _ zpk
  have K0 := hid ((h.later b1).later b2)
  have P0 : Hid (PkAt ((w.alloc (.cells #[.int .u8 1, .int .u8 2, .int .u8 0, .int .u32 e, .int .u32 s, .string b] 26)).alloc (.cells #[.int .u8 0, .int .u8 0, .int .u8 0, .int .u32 0, .int .u32 0, .string ⟨#[]⟩] 26)) w.heap.size ⟨1, 2, 0, e, s, b⟩) := hid (P1.later b2)
  have Q0 := hid P2
  have B0 : Hid (Below w.heap.size w ((w.alloc (.cells #[.int .u8 1, .int .u8 2, .int .u8 0, .int .u32 e, .int .u32 s, .string b] 26)).alloc (.cells #[.int .u8 0, .int .u8 0, .int .u8 0, .int .u32 0, .int .u32 0, .string ⟨#[]⟩] 26))) := hid (b1.trans (b2.mono b1.size))
  have hne1 : ¬ g = w.heap.size := by omega
  have hne2 : ¬ g = w.heap.size + 1 := by omega
  have hne3 : ¬ w.heap.size = g := by omega
  have hne4 : ¬ w.heap.size + 1 = g := by omega
  have HST := hid hst
  clear h hp hs hr ha b1 P1 b2 P2 hst
  go_enter Try.func9, Try.ntmps9
  go_wp2_with fail
  generalize ((w.alloc (.cells #[.int .u8 1, .int .u8 2, .int .u8 0, .int .u32 e, .int .u32 s, .string b] 26)).alloc (.cells #[.int .u8 0, .int .u8 0, .int .u8 0, .int .u32 0, .int .u32 0, .string ⟨#[]⟩] 26)) = W at *
  refine wp_scope_fwd 0 rfl ?_
  obtain ⟨a0, a1, a2, a3, a4, a5, _⟩ := P0.out.cells
  simp only at a0 a1 a2 a3 a4 a5
  go_wp2_with (go_at_call 23; refine (RC.out _).mono ?_; rintro _ w2 ⟨rfl, hb2⟩)
  have K2 := hid (K0.out.later hb2)
  have P2 := hid (P0.out.later hb2)
  have Q2 := hid (Q0.out.later hb2)
  have B2 := hid (B0.out.trans (hb2.mono B0.out.size))
  clear K0 P0 Q0 B0 hb2 a0 a1 a2 a3 a4 a5
  obtain ⟨a0, a1, a2, a3, a4, a5, _⟩ := P2.out.cells
  simp only at a0 a1 a2 a3 a4 a5
  go_region
  have K2' : Hid (IsK w2.drew g F) := K2.out
  go_wp2_with (go_at_call 24; refine (CC.out _ K2'.out).mono ?_; rintro _ w3 ⟨rfl, hb3⟩; (have K3 := hid (K2'.out.later hb3)); (obtain ⟨c0, c1, c2, c3⟩ := K3.out.at2); rw [HST.out] at c0; (have hb3' := und hb3); (have P3 := hid (P2.out.later hb3')); (have Q3 := hid (Q2.out.later hb3')); (have B3 := hid (B2.out.trans (hb3'.mono B2.out.size))); (have f0 := K3.out.fz 4); (have f1 := K3.out.fz 5); (have f2 := K3.out.fz 6); (have f3 := K3.out.fz 7); (obtain ⟨d0, d1, d2, d3, d4, d5, _⟩ := P3.out.cells); simp only at d0 d1 d2 d3 d4 d5; (obtain ⟨z0, z1, z2, z3, z4, z5, zf⟩ := Q3.out.cells); (have y0 := zf 0); (have y1 := zf 1); (have y2 := zf 2); (have y3 := zf 3); (have y4 := zf 4); (have y5 := zf 5); clear a0 a1 a2 a3 a4 a5 hb3 hb3' zf K2 K2' P2 Q2 B2)
  go_step3
  refine ⟨rfl, ?_⟩
  go_wp2
  rw [Exit.noGoto_ret]
  refine bodyPost_ret (v := .tuple #[.string b, .bool true, Fr.val zpk, .bool false]) (by simp [results, Try.results9, go_sem, Fr.val, zpk, z0, z1, z2, z3, z4, z5, hne1, hne2, hne3, hne4]) rfl ⟨rfl, ?_, ?_⟩
  · exact IsK.out (S := fun k => k = w.heap.size + 1) (f := updK F 2 ⟨1, e, s, ⟨#[]⟩⟩) (row_set 7 _ (row_set 6 _ (row_set 5 _ (row_set 4 _ K3.out)))) (((((((Ou.refl (fun k => k = w.heap.size + 1) _).set rfl).set rfl).set rfl).set rfl).set rfl).set rfl) hne2
  · exact ou_newS B3.out (((((((((((Ou.refl (fun k => k = g ∨ k = w.heap.size + 1) _).set (.inl rfl)).set (.inl rfl)).set (.inl rfl)).set (.inl rfl)).set (.inr rfl)).set (.inr rfl)).set (.inr rfl)).set (.inr rfl)).set (.inr rfl)).set (.inr rfl)) (fun k e => e.elim .inl fun e => .inr (by omega))
set_option maxHeartbeats 4000000 in
theorem ktake_2_q {w : World} {g : Nat} {F : Nat → Tk} (h : IsK w g F) (e s : Int) (b : ByteArray) (hp : Fr.Wf ⟨1, 2, 0, e, s, b⟩) (hs : b.size ≤ maxLen) (hr : Fr.rightB ⟨1, 2, 0, e, s, b⟩ = true) (hst : (F 2).st = 1) (a : Int) (ha : a = orF (cmpF (F 2).ep e) (cmpF (F 2).num s)) (hlt : ¬ a < 0) (h0 : (a == 0) = true) :
    Calls Try.prog 9 #[pC g, .agg #[.int .u8 1, .int .u8 2, .int .u8 0, .int .u32 e, .int .u32 s, .string b]] w fun x w' => x = .returned (.tuple #[.string ⟨#[]⟩, .bool false, Fr.val zpk, .bool false]) ∧ Below w.heap.size w w' := by
  have RC : Hid (∀ W, Calls Try.prog 23 #[.agg #[.int .u8 1, .int .u8 2, .int .u8 0, .int .u32 e, .int .u32 s, .string b]] W fun x w' => x = .returned (.bool true) ∧ Below W.heap.size W w') := fun W => by
    have := right_c ⟨1, 2, 0, e, s, b⟩ hp hs W
    rw [hr] at this
    exact this
  have CC : Hid (∀ W, IsK W g F → Calls Try.prog 24 #[.pointer (some ⟨g, 4, none⟩), .agg #[.int .u8 1, .int .u8 2, .int .u8 0, .int .u32 e, .int .u32 s, .string b]] W fun x w' => x = .returned (.int .i64 a) ∧ Below W.heap.size W w') := fun W hW => by
    rw [ha]; exact compare_c _ _ hW.at2.2.1 hW.at2.2.2.1 1 2 0 e s b
  have AC : Hid (∀ W, IsK W g F → Calls Try.prog 25 #[.pointer (some ⟨g, 4, none⟩), .int .u8 2] W fun x w' => x = .returned (Fr.val ⟨2, 0, 2, (F 2).ep, (F 2).num, (F 2).body⟩) ∧ Below W.heap.size W w') := fun W hW => answer_c _ _ _ hW.lt hW.at2.2.1 hW.at2.2.2.1 hW.at2.2.2.2 2
  have hlt := h.lt
  have b1 : Below w.heap.size w (w.alloc (.cells #[.int .u8 1, .int .u8 2, .int .u8 0, .int .u32 e, .int .u32 s, .string b] 26)) := (Below.refl _ _).alloc (Nat.le_refl _) _
  have P1 := PkAt.new w ⟨1, 2, 0, e, s, b⟩
  have b2 : Below (w.alloc (.cells #[.int .u8 1, .int .u8 2, .int .u8 0, .int .u32 e, .int .u32 s, .string b] 26)).heap.size (w.alloc (.cells #[.int .u8 1, .int .u8 2, .int .u8 0, .int .u32 e, .int .u32 s, .string b] 26)) ((w.alloc (.cells #[.int .u8 1, .int .u8 2, .int .u8 0, .int .u32 e, .int .u32 s, .string b] 26)).alloc (.cells #[.int .u8 0, .int .u8 0, .int .u8 0, .int .u32 0, .int .u32 0, .string ⟨#[]⟩] 26)) := (Below.refl _ _).alloc (Nat.le_refl _) _
  have P2 : PkAt ((w.alloc (.cells #[.int .u8 1, .int .u8 2, .int .u8 0, .int .u32 e, .int .u32 s, .string b] 26)).alloc (.cells #[.int .u8 0, .int .u8 0, .int .u8 0, .int .u32 0, .int .u32 0, .string ⟨#[]⟩] 26)) (w.heap.size + 1) zpk := by
    have e0 : (w.alloc (.cells #[.int .u8 1, .int .u8 2, .int .u8 0, .int .u32 e, .int .u32 s, .string b] 26)).heap.size = w.heap.size + 1 := by simp
    rw [← e0]
    exact PkAt.new _ zpk
  have K0 := hid ((h.later b1).later b2)
  have P0 : Hid (PkAt ((w.alloc (.cells #[.int .u8 1, .int .u8 2, .int .u8 0, .int .u32 e, .int .u32 s, .string b] 26)).alloc (.cells #[.int .u8 0, .int .u8 0, .int .u8 0, .int .u32 0, .int .u32 0, .string ⟨#[]⟩] 26)) w.heap.size ⟨1, 2, 0, e, s, b⟩) := hid (P1.later b2)
  have Q0 := hid P2
  have B0 : Hid (Below w.heap.size w ((w.alloc (.cells #[.int .u8 1, .int .u8 2, .int .u8 0, .int .u32 e, .int .u32 s, .string b] 26)).alloc (.cells #[.int .u8 0, .int .u8 0, .int .u8 0, .int .u32 0, .int .u32 0, .string ⟨#[]⟩] 26))) := hid (b1.trans (b2.mono b1.size))
  have hne1 : ¬ g = w.heap.size := by omega
  have hne2 : ¬ g = w.heap.size + 1 := by omega
  have hne3 : ¬ w.heap.size = g := by omega
  have hne4 : ¬ w.heap.size + 1 = g := by omega
  have HST := hid hst
  clear h hp hs hr ha b1 P1 b2 P2 hst
  go_enter Try.func9, Try.ntmps9
  go_wp2_with fail
  generalize ((w.alloc (.cells #[.int .u8 1, .int .u8 2, .int .u8 0, .int .u32 e, .int .u32 s, .string b] 26)).alloc (.cells #[.int .u8 0, .int .u8 0, .int .u8 0, .int .u32 0, .int .u32 0, .string ⟨#[]⟩] 26)) = W at *
  refine wp_scope_fwd 0 rfl ?_
  obtain ⟨a0, a1, a2, a3, a4, a5, _⟩ := P0.out.cells
  simp only at a0 a1 a2 a3 a4 a5
  go_wp2_with (go_at_call 23; refine (RC.out _).mono ?_; rintro _ w2 ⟨rfl, hb2⟩)
  have K2 := hid (K0.out.later hb2)
  have P2 := hid (P0.out.later hb2)
  have Q2 := hid (Q0.out.later hb2)
  have B2 := hid (B0.out.trans (hb2.mono B0.out.size))
  clear K0 P0 Q0 B0 hb2 a0 a1 a2 a3 a4 a5
  obtain ⟨a0, a1, a2, a3, a4, a5, _⟩ := P2.out.cells
  simp only at a0 a1 a2 a3 a4 a5
  go_region
  have K2' : Hid (IsK w2.drew g F) := K2.out
  go_wp2_with (go_at_call 24; refine (CC.out _ K2'.out).mono ?_; rintro _ w3 ⟨rfl, hb3⟩; (have K3 := hid (K2'.out.later hb3)); (obtain ⟨c0, c1, c2, c3⟩ := K3.out.at2); rw [HST.out] at c0; (have hb3' := und hb3); (have P3 := hid (P2.out.later hb3')); (have Q3 := hid (Q2.out.later hb3')); (have B3 := hid (B2.out.trans (hb3'.mono B2.out.size))); (have f0 := K3.out.fz 4); (have f1 := K3.out.fz 5); (have f2 := K3.out.fz 6); (have f3 := K3.out.fz 7); (obtain ⟨d0, d1, d2, d3, d4, d5, _⟩ := P3.out.cells); simp only at d0 d1 d2 d3 d4 d5; (obtain ⟨z0, z1, z2, z3, z4, z5, zf⟩ := Q3.out.cells); (have y0 := zf 0); (have y1 := zf 1); (have y2 := zf 2); (have y3 := zf 3); (have y4 := zf 4); (have y5 := zf 5); clear a0 a1 a2 a3 a4 a5 hb3 hb3' zf K2 K2' P2 Q2 B2)
  rw [jump_ret]
  refine bodyPost_ret (v := .tuple #[.string ⟨#[]⟩, .bool false, Fr.val zpk, .bool false]) (by simp [results, Try.results9, go_sem, Fr.val, zpk, z0, z1, z2, z3, z4, z5, hne1, hne2, hne3, hne4]) rfl ⟨rfl, ?_⟩
  exact (ou_newS (S := fun _ => False) B3.out (((((((Ou.refl (fun k => k = w.heap.size + 1) _).set rfl).set rfl).set rfl).set rfl).set rfl).set rfl) (fun k e => .inr (by omega))).below (Nat.le_refl _) (fun k e => e.elim)
set_option maxHeartbeats 4000000 in
theorem ktake_2_r {w : World} {g : Nat} {F : Nat → Tk} (h : IsK w g F) (e s : Int) (b : ByteArray) (hp : Fr.Wf ⟨1, 2, 0, e, s, b⟩) (hs : b.size ≤ maxLen) (hr : Fr.rightB ⟨1, 2, 0, e, s, b⟩ = true) (hst : (F 2).st = 1) (a : Int) (ha : a = orF (cmpF (F 2).ep e) (cmpF (F 2).num s)) (hlt : ¬ a < 0) (h0 : (a == 0) = false) :
    Calls Try.prog 9 #[pC g, .agg #[.int .u8 1, .int .u8 2, .int .u8 0, .int .u32 e, .int .u32 s, .string b]] w fun x w' => x = .returned (.tuple #[.string ⟨#[]⟩, .bool false, Fr.val zpk, .bool false]) ∧ Below w.heap.size w w' := by
  have RC : Hid (∀ W, Calls Try.prog 23 #[.agg #[.int .u8 1, .int .u8 2, .int .u8 0, .int .u32 e, .int .u32 s, .string b]] W fun x w' => x = .returned (.bool true) ∧ Below W.heap.size W w') := fun W => by
    have := right_c ⟨1, 2, 0, e, s, b⟩ hp hs W
    rw [hr] at this
    exact this
  have CC : Hid (∀ W, IsK W g F → Calls Try.prog 24 #[.pointer (some ⟨g, 4, none⟩), .agg #[.int .u8 1, .int .u8 2, .int .u8 0, .int .u32 e, .int .u32 s, .string b]] W fun x w' => x = .returned (.int .i64 a) ∧ Below W.heap.size W w') := fun W hW => by
    rw [ha]; exact compare_c _ _ hW.at2.2.1 hW.at2.2.2.1 1 2 0 e s b
  have AC : Hid (∀ W, IsK W g F → Calls Try.prog 25 #[.pointer (some ⟨g, 4, none⟩), .int .u8 2] W fun x w' => x = .returned (Fr.val ⟨2, 0, 2, (F 2).ep, (F 2).num, (F 2).body⟩) ∧ Below W.heap.size W w') := fun W hW => answer_c _ _ _ hW.lt hW.at2.2.1 hW.at2.2.2.1 hW.at2.2.2.2 2
  have hlt := h.lt
  have b1 : Below w.heap.size w (w.alloc (.cells #[.int .u8 1, .int .u8 2, .int .u8 0, .int .u32 e, .int .u32 s, .string b] 26)) := (Below.refl _ _).alloc (Nat.le_refl _) _
  have P1 := PkAt.new w ⟨1, 2, 0, e, s, b⟩
  have b2 : Below (w.alloc (.cells #[.int .u8 1, .int .u8 2, .int .u8 0, .int .u32 e, .int .u32 s, .string b] 26)).heap.size (w.alloc (.cells #[.int .u8 1, .int .u8 2, .int .u8 0, .int .u32 e, .int .u32 s, .string b] 26)) ((w.alloc (.cells #[.int .u8 1, .int .u8 2, .int .u8 0, .int .u32 e, .int .u32 s, .string b] 26)).alloc (.cells #[.int .u8 0, .int .u8 0, .int .u8 0, .int .u32 0, .int .u32 0, .string ⟨#[]⟩] 26)) := (Below.refl _ _).alloc (Nat.le_refl _) _
  have P2 : PkAt ((w.alloc (.cells #[.int .u8 1, .int .u8 2, .int .u8 0, .int .u32 e, .int .u32 s, .string b] 26)).alloc (.cells #[.int .u8 0, .int .u8 0, .int .u8 0, .int .u32 0, .int .u32 0, .string ⟨#[]⟩] 26)) (w.heap.size + 1) zpk := by
    have e0 : (w.alloc (.cells #[.int .u8 1, .int .u8 2, .int .u8 0, .int .u32 e, .int .u32 s, .string b] 26)).heap.size = w.heap.size + 1 := by simp
    rw [← e0]
    exact PkAt.new _ zpk
  have K0 := hid ((h.later b1).later b2)
  have P0 : Hid (PkAt ((w.alloc (.cells #[.int .u8 1, .int .u8 2, .int .u8 0, .int .u32 e, .int .u32 s, .string b] 26)).alloc (.cells #[.int .u8 0, .int .u8 0, .int .u8 0, .int .u32 0, .int .u32 0, .string ⟨#[]⟩] 26)) w.heap.size ⟨1, 2, 0, e, s, b⟩) := hid (P1.later b2)
  have Q0 := hid P2
  have B0 : Hid (Below w.heap.size w ((w.alloc (.cells #[.int .u8 1, .int .u8 2, .int .u8 0, .int .u32 e, .int .u32 s, .string b] 26)).alloc (.cells #[.int .u8 0, .int .u8 0, .int .u8 0, .int .u32 0, .int .u32 0, .string ⟨#[]⟩] 26))) := hid (b1.trans (b2.mono b1.size))
  have hne1 : ¬ g = w.heap.size := by omega
  have hne2 : ¬ g = w.heap.size + 1 := by omega
  have hne3 : ¬ w.heap.size = g := by omega
  have hne4 : ¬ w.heap.size + 1 = g := by omega
  have HST := hid hst
  clear h hp hs hr ha b1 P1 b2 P2 hst
  go_enter Try.func9, Try.ntmps9
  go_wp2_with fail
  generalize ((w.alloc (.cells #[.int .u8 1, .int .u8 2, .int .u8 0, .int .u32 e, .int .u32 s, .string b] 26)).alloc (.cells #[.int .u8 0, .int .u8 0, .int .u8 0, .int .u32 0, .int .u32 0, .string ⟨#[]⟩] 26)) = W at *
  refine wp_scope_fwd 0 rfl ?_
  obtain ⟨a0, a1, a2, a3, a4, a5, _⟩ := P0.out.cells
  simp only at a0 a1 a2 a3 a4 a5
  go_wp2_with (go_at_call 23; refine (RC.out _).mono ?_; rintro _ w2 ⟨rfl, hb2⟩)
  have K2 := hid (K0.out.later hb2)
  have P2 := hid (P0.out.later hb2)
  have Q2 := hid (Q0.out.later hb2)
  have B2 := hid (B0.out.trans (hb2.mono B0.out.size))
  clear K0 P0 Q0 B0 hb2 a0 a1 a2 a3 a4 a5
  obtain ⟨a0, a1, a2, a3, a4, a5, _⟩ := P2.out.cells
  simp only at a0 a1 a2 a3 a4 a5
  go_region
  have K2' : Hid (IsK w2.drew g F) := K2.out
  go_wp2_with (go_at_call 24; refine (CC.out _ K2'.out).mono ?_; rintro _ w3 ⟨rfl, hb3⟩; (have K3 := hid (K2'.out.later hb3)); (obtain ⟨c0, c1, c2, c3⟩ := K3.out.at2); rw [HST.out] at c0; (have hb3' := und hb3); (have P3 := hid (P2.out.later hb3')); (have Q3 := hid (Q2.out.later hb3')); (have B3 := hid (B2.out.trans (hb3'.mono B2.out.size))); (have f0 := K3.out.fz 4); (have f1 := K3.out.fz 5); (have f2 := K3.out.fz 6); (have f3 := K3.out.fz 7); (obtain ⟨d0, d1, d2, d3, d4, d5, _⟩ := P3.out.cells); simp only at d0 d1 d2 d3 d4 d5; (obtain ⟨z0, z1, z2, z3, z4, z5, zf⟩ := Q3.out.cells); (have y0 := zf 0); (have y1 := zf 1); (have y2 := zf 2); (have y3 := zf 3); (have y4 := zf 4); (have y5 := zf 5); clear a0 a1 a2 a3 a4 a5 hb3 hb3' zf K2 K2' P2 Q2 B2)
  rw [jump_ret]
  refine bodyPost_ret (v := .tuple #[.string ⟨#[]⟩, .bool false, Fr.val zpk, .bool false]) (by simp [results, Try.results9, go_sem, Fr.val, zpk, z0, z1, z2, z3, z4, z5, hne1, hne2, hne3, hne4]) rfl ⟨rfl, ?_⟩
  exact (ou_newS (S := fun _ => False) B3.out (((((((Ou.refl (fun k => k = w.heap.size + 1) _).set rfl).set rfl).set rfl).set rfl).set rfl).set rfl) (fun k e => .inr (by omega))).below (Nat.le_refl _) (fun k e => e.elim)
set_option maxHeartbeats 4000000 in
theorem ktake_2_s {w : World} {g : Nat} {F : Nat → Tk} (h : IsK w g F) (e s : Int) (b : ByteArray) (hp : Fr.Wf ⟨1, 2, 0, e, s, b⟩) (hs : b.size ≤ maxLen) (hr : Fr.rightB ⟨1, 2, 0, e, s, b⟩ = true) (hst : (F 2).st = 2) (a : Int) (ha : a = orF (cmpF (F 2).ep e) (cmpF (F 2).num s)) (hlt : ¬ a < 0) (h0 : (a == 0) = true) :
    Calls Try.prog 9 #[pC g, .agg #[.int .u8 1, .int .u8 2, .int .u8 0, .int .u32 e, .int .u32 s, .string b]] w fun x w' => x = .returned (.tuple #[.string ⟨#[]⟩, .bool false, Fr.val ⟨2, 0, 2, (F 2).ep, (F 2).num, (F 2).body⟩, .bool true]) ∧ Below w.heap.size w w' := by
  have RC : Hid (∀ W, Calls Try.prog 23 #[.agg #[.int .u8 1, .int .u8 2, .int .u8 0, .int .u32 e, .int .u32 s, .string b]] W fun x w' => x = .returned (.bool true) ∧ Below W.heap.size W w') := fun W => by
    have := right_c ⟨1, 2, 0, e, s, b⟩ hp hs W
    rw [hr] at this
    exact this
  have CC : Hid (∀ W, IsK W g F → Calls Try.prog 24 #[.pointer (some ⟨g, 4, none⟩), .agg #[.int .u8 1, .int .u8 2, .int .u8 0, .int .u32 e, .int .u32 s, .string b]] W fun x w' => x = .returned (.int .i64 a) ∧ Below W.heap.size W w') := fun W hW => by
    rw [ha]; exact compare_c _ _ hW.at2.2.1 hW.at2.2.2.1 1 2 0 e s b
  have AC : Hid (∀ W, IsK W g F → Calls Try.prog 25 #[.pointer (some ⟨g, 4, none⟩), .int .u8 2] W fun x w' => x = .returned (Fr.val ⟨2, 0, 2, (F 2).ep, (F 2).num, (F 2).body⟩) ∧ Below W.heap.size W w') := fun W hW => answer_c _ _ _ hW.lt hW.at2.2.1 hW.at2.2.2.1 hW.at2.2.2.2 2
  have hlt := h.lt
  have b1 : Below w.heap.size w (w.alloc (.cells #[.int .u8 1, .int .u8 2, .int .u8 0, .int .u32 e, .int .u32 s, .string b] 26)) := (Below.refl _ _).alloc (Nat.le_refl _) _
  have P1 := PkAt.new w ⟨1, 2, 0, e, s, b⟩
  have b2 : Below (w.alloc (.cells #[.int .u8 1, .int .u8 2, .int .u8 0, .int .u32 e, .int .u32 s, .string b] 26)).heap.size (w.alloc (.cells #[.int .u8 1, .int .u8 2, .int .u8 0, .int .u32 e, .int .u32 s, .string b] 26)) ((w.alloc (.cells #[.int .u8 1, .int .u8 2, .int .u8 0, .int .u32 e, .int .u32 s, .string b] 26)).alloc (.cells #[.int .u8 0, .int .u8 0, .int .u8 0, .int .u32 0, .int .u32 0, .string ⟨#[]⟩] 26)) := (Below.refl _ _).alloc (Nat.le_refl _) _
  have P2 : PkAt ((w.alloc (.cells #[.int .u8 1, .int .u8 2, .int .u8 0, .int .u32 e, .int .u32 s, .string b] 26)).alloc (.cells #[.int .u8 0, .int .u8 0, .int .u8 0, .int .u32 0, .int .u32 0, .string ⟨#[]⟩] 26)) (w.heap.size + 1) zpk := by
    have e0 : (w.alloc (.cells #[.int .u8 1, .int .u8 2, .int .u8 0, .int .u32 e, .int .u32 s, .string b] 26)).heap.size = w.heap.size + 1 := by simp
    rw [← e0]
    exact PkAt.new _ zpk
  have K0 := hid ((h.later b1).later b2)
  have P0 : Hid (PkAt ((w.alloc (.cells #[.int .u8 1, .int .u8 2, .int .u8 0, .int .u32 e, .int .u32 s, .string b] 26)).alloc (.cells #[.int .u8 0, .int .u8 0, .int .u8 0, .int .u32 0, .int .u32 0, .string ⟨#[]⟩] 26)) w.heap.size ⟨1, 2, 0, e, s, b⟩) := hid (P1.later b2)
  have Q0 := hid P2
  have B0 : Hid (Below w.heap.size w ((w.alloc (.cells #[.int .u8 1, .int .u8 2, .int .u8 0, .int .u32 e, .int .u32 s, .string b] 26)).alloc (.cells #[.int .u8 0, .int .u8 0, .int .u8 0, .int .u32 0, .int .u32 0, .string ⟨#[]⟩] 26))) := hid (b1.trans (b2.mono b1.size))
  have hne1 : ¬ g = w.heap.size := by omega
  have hne2 : ¬ g = w.heap.size + 1 := by omega
  have hne3 : ¬ w.heap.size = g := by omega
  have hne4 : ¬ w.heap.size + 1 = g := by omega
  have HST := hid hst
  clear h hp hs hr ha b1 P1 b2 P2 hst
  go_enter Try.func9, Try.ntmps9
  go_wp2_with fail
  generalize ((w.alloc (.cells #[.int .u8 1, .int .u8 2, .int .u8 0, .int .u32 e, .int .u32 s, .string b] 26)).alloc (.cells #[.int .u8 0, .int .u8 0, .int .u8 0, .int .u32 0, .int .u32 0, .string ⟨#[]⟩] 26)) = W at *
  refine wp_scope_fwd 0 rfl ?_
  obtain ⟨a0, a1, a2, a3, a4, a5, _⟩ := P0.out.cells
  simp only at a0 a1 a2 a3 a4 a5
  go_wp2_with (go_at_call 23; refine (RC.out _).mono ?_; rintro _ w2 ⟨rfl, hb2⟩)
  have K2 := hid (K0.out.later hb2)
  have P2 := hid (P0.out.later hb2)
  have Q2 := hid (Q0.out.later hb2)
  have B2 := hid (B0.out.trans (hb2.mono B0.out.size))
  clear K0 P0 Q0 B0 hb2 a0 a1 a2 a3 a4 a5
  obtain ⟨a0, a1, a2, a3, a4, a5, _⟩ := P2.out.cells
  simp only at a0 a1 a2 a3 a4 a5
  go_region
  have K2' : Hid (IsK w2.drew g F) := K2.out
  go_wp2_with (first
   | (go_at_call 24; refine (CC.out _ K2'.out).mono ?_; rintro _ w3 ⟨rfl, hb3⟩; (have K3 := hid (K2'.out.later hb3)); (obtain ⟨c0, c1, c2, c3⟩ := K3.out.at2); rw [HST.out] at c0; (have hb3' := und hb3); (have P3 := hid (P2.out.later hb3')); (have Q3 := hid (Q2.out.later hb3')); (have B3 := hid (B2.out.trans (hb3'.mono B2.out.size))); (have f0 := K3.out.fz 4); (have f1 := K3.out.fz 5); (have f2 := K3.out.fz 6); (have f3 := K3.out.fz 7); (obtain ⟨d0, d1, d2, d3, d4, d5, _⟩ := P3.out.cells); simp only at d0 d1 d2 d3 d4 d5; (obtain ⟨z0, z1, z2, z3, z4, z5, zf⟩ := Q3.out.cells); (have y0 := zf 0); (have y1 := zf 1); (have y2 := zf 2); (have y3 := zf 3); (have y4 := zf 4); (have y5 := zf 5); clear a0 a1 a2 a3 a4 a5 hb3 hb3' zf K2 K2' P2 Q2 B2)
   | (go_at_call 25; refine (AC.out _ K3.out).mono ?_; rintro _ w6 ⟨rfl, hb6⟩; rw [show Fr.val ⟨2, 0, 2, (F 2).ep, (F 2).num, (F 2).body⟩ = .agg #[.int .u8 2, .int .u8 0, .int .u8 2, .int .u32 (F 2).ep, .int .u32 (F 2).num, .string (F 2).body] from rfl]; (have B6 := hid (B3.out.trans (hb6.mono B3.out.size))); (obtain ⟨x0, x1, x2, x3, x4, x5, xf⟩ := (Q3.out.later hb6).cells); (have v0 := xf 0); (have v1 := xf 1); (have v2 := xf 2); (have v3 := xf 3); (have v4 := xf 4); (have v5 := xf 5); clear xf))
  rw [jump_ret]
  refine bodyPost_ret (v := .tuple #[.string ⟨#[]⟩, .bool false, Fr.val ⟨2, 0, 2, (F 2).ep, (F 2).num, (F 2).body⟩, .bool true]) (by simp [results, Try.results9, go_sem, Fr.val, zpk, x0, x1, x2, x3, x4, x5, hne1, hne2, hne3, hne4]) rfl ⟨rfl, ?_⟩
  exact (ou_newS (S := fun _ => False) B6.out (((((((Ou.refl (fun k => k = w.heap.size + 1) _).set rfl).set rfl).set rfl).set rfl).set rfl).set rfl) (fun k e => .inr (by omega))).below (Nat.le_refl _) (fun k e => e.elim)
set_option maxHeartbeats 4000000 in
theorem ktake_2_t {w : World} {g : Nat} {F : Nat → Tk} (h : IsK w g F) (e s : Int) (b : ByteArray) (hp : Fr.Wf ⟨1, 2, 0, e, s, b⟩) (hs : b.size ≤ maxLen) (hr : Fr.rightB ⟨1, 2, 0, e, s, b⟩ = true) (hst : (F 2).st = 2) (a : Int) (ha : a = orF (cmpF (F 2).ep e) (cmpF (F 2).num s)) (hlt : ¬ a < 0) (h0 : (a == 0) = false) :
    Calls Try.prog 9 #[pC g, .agg #[.int .u8 1, .int .u8 2, .int .u8 0, .int .u32 e, .int .u32 s, .string b]] w fun x w' => x = .returned (.tuple #[.string ⟨#[]⟩, .bool false, Fr.val zpk, .bool false]) ∧ Below w.heap.size w w' := by
  have RC : Hid (∀ W, Calls Try.prog 23 #[.agg #[.int .u8 1, .int .u8 2, .int .u8 0, .int .u32 e, .int .u32 s, .string b]] W fun x w' => x = .returned (.bool true) ∧ Below W.heap.size W w') := fun W => by
    have := right_c ⟨1, 2, 0, e, s, b⟩ hp hs W
    rw [hr] at this
    exact this
  have CC : Hid (∀ W, IsK W g F → Calls Try.prog 24 #[.pointer (some ⟨g, 4, none⟩), .agg #[.int .u8 1, .int .u8 2, .int .u8 0, .int .u32 e, .int .u32 s, .string b]] W fun x w' => x = .returned (.int .i64 a) ∧ Below W.heap.size W w') := fun W hW => by
    rw [ha]; exact compare_c _ _ hW.at2.2.1 hW.at2.2.2.1 1 2 0 e s b
  have AC : Hid (∀ W, IsK W g F → Calls Try.prog 25 #[.pointer (some ⟨g, 4, none⟩), .int .u8 2] W fun x w' => x = .returned (Fr.val ⟨2, 0, 2, (F 2).ep, (F 2).num, (F 2).body⟩) ∧ Below W.heap.size W w') := fun W hW => answer_c _ _ _ hW.lt hW.at2.2.1 hW.at2.2.2.1 hW.at2.2.2.2 2
  have hlt := h.lt
  have b1 : Below w.heap.size w (w.alloc (.cells #[.int .u8 1, .int .u8 2, .int .u8 0, .int .u32 e, .int .u32 s, .string b] 26)) := (Below.refl _ _).alloc (Nat.le_refl _) _
  have P1 := PkAt.new w ⟨1, 2, 0, e, s, b⟩
  have b2 : Below (w.alloc (.cells #[.int .u8 1, .int .u8 2, .int .u8 0, .int .u32 e, .int .u32 s, .string b] 26)).heap.size (w.alloc (.cells #[.int .u8 1, .int .u8 2, .int .u8 0, .int .u32 e, .int .u32 s, .string b] 26)) ((w.alloc (.cells #[.int .u8 1, .int .u8 2, .int .u8 0, .int .u32 e, .int .u32 s, .string b] 26)).alloc (.cells #[.int .u8 0, .int .u8 0, .int .u8 0, .int .u32 0, .int .u32 0, .string ⟨#[]⟩] 26)) := (Below.refl _ _).alloc (Nat.le_refl _) _
  have P2 : PkAt ((w.alloc (.cells #[.int .u8 1, .int .u8 2, .int .u8 0, .int .u32 e, .int .u32 s, .string b] 26)).alloc (.cells #[.int .u8 0, .int .u8 0, .int .u8 0, .int .u32 0, .int .u32 0, .string ⟨#[]⟩] 26)) (w.heap.size + 1) zpk := by
    have e0 : (w.alloc (.cells #[.int .u8 1, .int .u8 2, .int .u8 0, .int .u32 e, .int .u32 s, .string b] 26)).heap.size = w.heap.size + 1 := by simp
    rw [← e0]
    exact PkAt.new _ zpk
  have K0 := hid ((h.later b1).later b2)
  have P0 : Hid (PkAt ((w.alloc (.cells #[.int .u8 1, .int .u8 2, .int .u8 0, .int .u32 e, .int .u32 s, .string b] 26)).alloc (.cells #[.int .u8 0, .int .u8 0, .int .u8 0, .int .u32 0, .int .u32 0, .string ⟨#[]⟩] 26)) w.heap.size ⟨1, 2, 0, e, s, b⟩) := hid (P1.later b2)
  have Q0 := hid P2
  have B0 : Hid (Below w.heap.size w ((w.alloc (.cells #[.int .u8 1, .int .u8 2, .int .u8 0, .int .u32 e, .int .u32 s, .string b] 26)).alloc (.cells #[.int .u8 0, .int .u8 0, .int .u8 0, .int .u32 0, .int .u32 0, .string ⟨#[]⟩] 26))) := hid (b1.trans (b2.mono b1.size))
  have hne1 : ¬ g = w.heap.size := by omega
  have hne2 : ¬ g = w.heap.size + 1 := by omega
  have hne3 : ¬ w.heap.size = g := by omega
  have hne4 : ¬ w.heap.size + 1 = g := by omega
  have HST := hid hst
  clear h hp hs hr ha b1 P1 b2 P2 hst
  go_enter Try.func9, Try.ntmps9
  go_wp2_with fail
  generalize ((w.alloc (.cells #[.int .u8 1, .int .u8 2, .int .u8 0, .int .u32 e, .int .u32 s, .string b] 26)).alloc (.cells #[.int .u8 0, .int .u8 0, .int .u8 0, .int .u32 0, .int .u32 0, .string ⟨#[]⟩] 26)) = W at *
  refine wp_scope_fwd 0 rfl ?_
  obtain ⟨a0, a1, a2, a3, a4, a5, _⟩ := P0.out.cells
  simp only at a0 a1 a2 a3 a4 a5
  go_wp2_with (go_at_call 23; refine (RC.out _).mono ?_; rintro _ w2 ⟨rfl, hb2⟩)
  have K2 := hid (K0.out.later hb2)
  have P2 := hid (P0.out.later hb2)
  have Q2 := hid (Q0.out.later hb2)
  have B2 := hid (B0.out.trans (hb2.mono B0.out.size))
  clear K0 P0 Q0 B0 hb2 a0 a1 a2 a3 a4 a5
  obtain ⟨a0, a1, a2, a3, a4, a5, _⟩ := P2.out.cells
  simp only at a0 a1 a2 a3 a4 a5
  go_region
  have K2' : Hid (IsK w2.drew g F) := K2.out
  go_wp2_with (go_at_call 24; refine (CC.out _ K2'.out).mono ?_; rintro _ w3 ⟨rfl, hb3⟩; (have K3 := hid (K2'.out.later hb3)); (obtain ⟨c0, c1, c2, c3⟩ := K3.out.at2); rw [HST.out] at c0; (have hb3' := und hb3); (have P3 := hid (P2.out.later hb3')); (have Q3 := hid (Q2.out.later hb3')); (have B3 := hid (B2.out.trans (hb3'.mono B2.out.size))); (have f0 := K3.out.fz 4); (have f1 := K3.out.fz 5); (have f2 := K3.out.fz 6); (have f3 := K3.out.fz 7); (obtain ⟨d0, d1, d2, d3, d4, d5, _⟩ := P3.out.cells); simp only at d0 d1 d2 d3 d4 d5; (obtain ⟨z0, z1, z2, z3, z4, z5, zf⟩ := Q3.out.cells); (have y0 := zf 0); (have y1 := zf 1); (have y2 := zf 2); (have y3 := zf 3); (have y4 := zf 4); (have y5 := zf 5); clear a0 a1 a2 a3 a4 a5 hb3 hb3' zf K2 K2' P2 Q2 B2)
  rw [jump_ret]
  refine bodyPost_ret (v := .tuple #[.string ⟨#[]⟩, .bool false, Fr.val zpk, .bool false]) (by simp [results, Try.results9, go_sem, Fr.val, zpk, z0, z1, z2, z3, z4, z5, hne1, hne2, hne3, hne4]) rfl ⟨rfl, ?_⟩
  exact (ou_newS (S := fun _ => False) B3.out (((((((Ou.refl (fun k => k = w.heap.size + 1) _).set rfl).set rfl).set rfl).set rfl).set rfl).set rfl) (fun k e => .inr (by omega))).below (Nat.le_refl _) (fun k e => e.elim)
set_option maxHeartbeats 4000000 in
theorem ktake_3_z {w : World} {g : Nat} {F : Nat → Tk} (h : IsK w g F) (e s : Int) (b : ByteArray) (hp : Fr.Wf ⟨1, 3, 0, e, s, b⟩) (hs : b.size ≤ maxLen) (hr : Fr.rightB ⟨1, 3, 0, e, s, b⟩ = true) (hst : (F 3).st = 0) (a : Int) (ha : a = orF (cmpF (F 3).ep e) (cmpF (F 3).num s))  :
    Calls Try.prog 9 #[pC g, .agg #[.int .u8 1, .int .u8 3, .int .u8 0, .int .u32 e, .int .u32 s, .string b]] w fun x w' => x = .returned (.tuple #[.string b, .bool true, Fr.val zpk, .bool false]) ∧ IsK w' g (updK F 3 ⟨1, e, s, ⟨#[]⟩⟩) ∧ Ou (fun k => k = g) w w' := by
  have RC : Hid (∀ W, Calls Try.prog 23 #[.agg #[.int .u8 1, .int .u8 3, .int .u8 0, .int .u32 e, .int .u32 s, .string b]] W fun x w' => x = .returned (.bool true) ∧ Below W.heap.size W w') := fun W => by
    have := right_c ⟨1, 3, 0, e, s, b⟩ hp hs W
    rw [hr] at this
    exact this
  have CC : Hid (∀ W, IsK W g F → Calls Try.prog 24 #[.pointer (some ⟨g, 8, none⟩), .agg #[.int .u8 1, .int .u8 3, .int .u8 0, .int .u32 e, .int .u32 s, .string b]] W fun x w' => x = .returned (.int .i64 a) ∧ Below W.heap.size W w') := fun W hW => by
    rw [ha]; exact compare_c _ _ hW.at3.2.1 hW.at3.2.2.1 1 3 0 e s b
  have AC : Hid (∀ W, IsK W g F → Calls Try.prog 25 #[.pointer (some ⟨g, 8, none⟩), .int .u8 3] W fun x w' => x = .returned (Fr.val ⟨2, 0, 3, (F 3).ep, (F 3).num, (F 3).body⟩) ∧ Below W.heap.size W w') := fun W hW => answer_c _ _ _ hW.lt hW.at3.2.1 hW.at3.2.2.1 hW.at3.2.2.2 3
  have hlt := h.lt
  have b1 : Below w.heap.size w (w.alloc (.cells #[.int .u8 1, .int .u8 3, .int .u8 0, .int .u32 e, .int .u32 s, .string b] 26)) := (Below.refl _ _).alloc (Nat.le_refl _) _
  have P1 := PkAt.new w ⟨1, 3, 0, e, s, b⟩
  have b2 : Below (w.alloc (.cells #[.int .u8 1, .int .u8 3, .int .u8 0, .int .u32 e, .int .u32 s, .string b] 26)).heap.size (w.alloc (.cells #[.int .u8 1, .int .u8 3, .int .u8 0, .int .u32 e, .int .u32 s, .string b] 26)) ((w.alloc (.cells #[.int .u8 1, .int .u8 3, .int .u8 0, .int .u32 e, .int .u32 s, .string b] 26)).alloc (.cells #[.int .u8 0, .int .u8 0, .int .u8 0, .int .u32 0, .int .u32 0, .string ⟨#[]⟩] 26)) := (Below.refl _ _).alloc (Nat.le_refl _) _
  have P2 : PkAt ((w.alloc (.cells #[.int .u8 1, .int .u8 3, .int .u8 0, .int .u32 e, .int .u32 s, .string b] 26)).alloc (.cells #[.int .u8 0, .int .u8 0, .int .u8 0, .int .u32 0, .int .u32 0, .string ⟨#[]⟩] 26)) (w.heap.size + 1) zpk := by
    have e0 : (w.alloc (.cells #[.int .u8 1, .int .u8 3, .int .u8 0, .int .u32 e, .int .u32 s, .string b] 26)).heap.size = w.heap.size + 1 := by simp
    rw [← e0]
    exact PkAt.new _ zpk
  have K0 := hid ((h.later b1).later b2)
  have P0 : Hid (PkAt ((w.alloc (.cells #[.int .u8 1, .int .u8 3, .int .u8 0, .int .u32 e, .int .u32 s, .string b] 26)).alloc (.cells #[.int .u8 0, .int .u8 0, .int .u8 0, .int .u32 0, .int .u32 0, .string ⟨#[]⟩] 26)) w.heap.size ⟨1, 3, 0, e, s, b⟩) := hid (P1.later b2)
  have Q0 := hid P2
  have B0 : Hid (Below w.heap.size w ((w.alloc (.cells #[.int .u8 1, .int .u8 3, .int .u8 0, .int .u32 e, .int .u32 s, .string b] 26)).alloc (.cells #[.int .u8 0, .int .u8 0, .int .u8 0, .int .u32 0, .int .u32 0, .string ⟨#[]⟩] 26))) := hid (b1.trans (b2.mono b1.size))
  have hne1 : ¬ g = w.heap.size := by omega
  have hne2 : ¬ g = w.heap.size + 1 := by omega
  have hne3 : ¬ w.heap.size = g := by omega
  have hne4 : ¬ w.heap.size + 1 = g := by omega
  have HST := hid hst
  clear h hp hs hr ha b1 P1 b2 P2 hst
  go_enter Try.func9, Try.ntmps9
  go_wp2_with fail
  generalize ((w.alloc (.cells #[.int .u8 1, .int .u8 3, .int .u8 0, .int .u32 e, .int .u32 s, .string b] 26)).alloc (.cells #[.int .u8 0, .int .u8 0, .int .u8 0, .int .u32 0, .int .u32 0, .string ⟨#[]⟩] 26)) = W at *
  refine wp_scope_fwd 0 rfl ?_
  obtain ⟨a0, a1, a2, a3, a4, a5, _⟩ := P0.out.cells
  simp only at a0 a1 a2 a3 a4 a5
  go_wp2_with (go_at_call 23; refine (RC.out _).mono ?_; rintro _ w2 ⟨rfl, hb2⟩)
  have K2 := hid (K0.out.later hb2)
  have P2 := hid (P0.out.later hb2)
  have Q2 := hid (Q0.out.later hb2)
  have B2 := hid (B0.out.trans (hb2.mono B0.out.size))
  clear K0 P0 Q0 B0 hb2 a0 a1 a2 a3 a4 a5
  obtain ⟨a0, a1, a2, a3, a4, a5, _⟩ := P2.out.cells
  simp only at a0 a1 a2 a3 a4 a5
  go_region
  have K2' : Hid (IsK w2.drew g F) := K2.out
  go_wp2_with (go_at_call 24; refine (CC.out _ K2'.out).mono ?_; rintro _ w3 ⟨rfl, hb3⟩; (have K3 := hid (K2'.out.later hb3)); (obtain ⟨c0, c1, c2, c3⟩ := K3.out.at3); rw [HST.out] at c0; (have hb3' := und hb3); (have P3 := hid (P2.out.later hb3')); (have Q3 := hid (Q2.out.later hb3')); (have B3 := hid (B2.out.trans (hb3'.mono B2.out.size))); (have f0 := K3.out.fz 8); (have f1 := K3.out.fz 9); (have f2 := K3.out.fz 10); (have f3 := K3.out.fz 11); (obtain ⟨d0, d1, d2, d3, d4, d5, _⟩ := P3.out.cells); simp only at d0 d1 d2 d3 d4 d5; (obtain ⟨z0, z1, z2, z3, z4, z5, zf⟩ := Q3.out.cells); (have y0 := zf 0); (have y1 := zf 1); (have y2 := zf 2); (have y3 := zf 3); (have y4 := zf 4); (have y5 := zf 5); clear a0 a1 a2 a3 a4 a5 hb3 hb3' zf K2 K2' P2 Q2 B2)
  go_step3
  refine ⟨rfl, ?_⟩
  go_wp2
  rw [Exit.noGoto_ret]
  refine bodyPost_ret (v := .tuple #[.string b, .bool true, Fr.val zpk, .bool false]) (by simp [results, Try.results9, go_sem, Fr.val, zpk, z0, z1, z2, z3, z4, z5, hne1, hne2, hne3, hne4]) rfl ⟨rfl, ?_, ?_⟩
  · exact IsK.out (S := fun k => k = w.heap.size + 1) (f := updK F 3 ⟨1, e, s, ⟨#[]⟩⟩) (row_set 11 _ (row_set 10 _ (row_set 9 _ (row_set 8 _ K3.out)))) (((((((Ou.refl (fun k => k = w.heap.size + 1) _).set rfl).set rfl).set rfl).set rfl).set rfl).set rfl) hne2
  · exact ou_newS B3.out (((((((((((Ou.refl (fun k => k = g ∨ k = w.heap.size + 1) _).set (.inl rfl)).set (.inl rfl)).set (.inl rfl)).set (.inl rfl)).set (.inr rfl)).set (.inr rfl)).set (.inr rfl)).set (.inr rfl)).set (.inr rfl)).set (.inr rfl)) (fun k e => e.elim .inl fun e => .inr (by omega))
set_option maxHeartbeats 4000000 in
theorem ktake_3_o {w : World} {g : Nat} {F : Nat → Tk} (h : IsK w g F) (e s : Int) (b : ByteArray) (hp : Fr.Wf ⟨1, 3, 0, e, s, b⟩) (hs : b.size ≤ maxLen) (hr : Fr.rightB ⟨1, 3, 0, e, s, b⟩ = true) (hst : (F 3).st = 1) (a : Int) (ha : a = orF (cmpF (F 3).ep e) (cmpF (F 3).num s)) (hlt : a < 0) :
    Calls Try.prog 9 #[pC g, .agg #[.int .u8 1, .int .u8 3, .int .u8 0, .int .u32 e, .int .u32 s, .string b]] w fun x w' => x = .returned (.tuple #[.string b, .bool true, Fr.val zpk, .bool false]) ∧ IsK w' g (updK F 3 ⟨1, e, s, ⟨#[]⟩⟩) ∧ Ou (fun k => k = g) w w' := by
  have RC : Hid (∀ W, Calls Try.prog 23 #[.agg #[.int .u8 1, .int .u8 3, .int .u8 0, .int .u32 e, .int .u32 s, .string b]] W fun x w' => x = .returned (.bool true) ∧ Below W.heap.size W w') := fun W => by
    have := right_c ⟨1, 3, 0, e, s, b⟩ hp hs W
    rw [hr] at this
    exact this
  have CC : Hid (∀ W, IsK W g F → Calls Try.prog 24 #[.pointer (some ⟨g, 8, none⟩), .agg #[.int .u8 1, .int .u8 3, .int .u8 0, .int .u32 e, .int .u32 s, .string b]] W fun x w' => x = .returned (.int .i64 a) ∧ Below W.heap.size W w') := fun W hW => by
    rw [ha]; exact compare_c _ _ hW.at3.2.1 hW.at3.2.2.1 1 3 0 e s b
  have AC : Hid (∀ W, IsK W g F → Calls Try.prog 25 #[.pointer (some ⟨g, 8, none⟩), .int .u8 3] W fun x w' => x = .returned (Fr.val ⟨2, 0, 3, (F 3).ep, (F 3).num, (F 3).body⟩) ∧ Below W.heap.size W w') := fun W hW => answer_c _ _ _ hW.lt hW.at3.2.1 hW.at3.2.2.1 hW.at3.2.2.2 3
  have hlt := h.lt
  have b1 : Below w.heap.size w (w.alloc (.cells #[.int .u8 1, .int .u8 3, .int .u8 0, .int .u32 e, .int .u32 s, .string b] 26)) := (Below.refl _ _).alloc (Nat.le_refl _) _
  have P1 := PkAt.new w ⟨1, 3, 0, e, s, b⟩
  have b2 : Below (w.alloc (.cells #[.int .u8 1, .int .u8 3, .int .u8 0, .int .u32 e, .int .u32 s, .string b] 26)).heap.size (w.alloc (.cells #[.int .u8 1, .int .u8 3, .int .u8 0, .int .u32 e, .int .u32 s, .string b] 26)) ((w.alloc (.cells #[.int .u8 1, .int .u8 3, .int .u8 0, .int .u32 e, .int .u32 s, .string b] 26)).alloc (.cells #[.int .u8 0, .int .u8 0, .int .u8 0, .int .u32 0, .int .u32 0, .string ⟨#[]⟩] 26)) := (Below.refl _ _).alloc (Nat.le_refl _) _
  have P2 : PkAt ((w.alloc (.cells #[.int .u8 1, .int .u8 3, .int .u8 0, .int .u32 e, .int .u32 s, .string b] 26)).alloc (.cells #[.int .u8 0, .int .u8 0, .int .u8 0, .int .u32 0, .int .u32 0, .string ⟨#[]⟩] 26)) (w.heap.size + 1) zpk := by
    have e0 : (w.alloc (.cells #[.int .u8 1, .int .u8 3, .int .u8 0, .int .u32 e, .int .u32 s, .string b] 26)).heap.size = w.heap.size + 1 := by simp
    rw [← e0]
    exact PkAt.new _ zpk
  have K0 := hid ((h.later b1).later b2)
  have P0 : Hid (PkAt ((w.alloc (.cells #[.int .u8 1, .int .u8 3, .int .u8 0, .int .u32 e, .int .u32 s, .string b] 26)).alloc (.cells #[.int .u8 0, .int .u8 0, .int .u8 0, .int .u32 0, .int .u32 0, .string ⟨#[]⟩] 26)) w.heap.size ⟨1, 3, 0, e, s, b⟩) := hid (P1.later b2)
  have Q0 := hid P2
  have B0 : Hid (Below w.heap.size w ((w.alloc (.cells #[.int .u8 1, .int .u8 3, .int .u8 0, .int .u32 e, .int .u32 s, .string b] 26)).alloc (.cells #[.int .u8 0, .int .u8 0, .int .u8 0, .int .u32 0, .int .u32 0, .string ⟨#[]⟩] 26))) := hid (b1.trans (b2.mono b1.size))
  have hne1 : ¬ g = w.heap.size := by omega
  have hne2 : ¬ g = w.heap.size + 1 := by omega
  have hne3 : ¬ w.heap.size = g := by omega
  have hne4 : ¬ w.heap.size + 1 = g := by omega
  have HST := hid hst
  clear h hp hs hr ha b1 P1 b2 P2 hst
  go_enter Try.func9, Try.ntmps9
  go_wp2_with fail
  generalize ((w.alloc (.cells #[.int .u8 1, .int .u8 3, .int .u8 0, .int .u32 e, .int .u32 s, .string b] 26)).alloc (.cells #[.int .u8 0, .int .u8 0, .int .u8 0, .int .u32 0, .int .u32 0, .string ⟨#[]⟩] 26)) = W at *
  refine wp_scope_fwd 0 rfl ?_
  obtain ⟨a0, a1, a2, a3, a4, a5, _⟩ := P0.out.cells
  simp only at a0 a1 a2 a3 a4 a5
  go_wp2_with (go_at_call 23; refine (RC.out _).mono ?_; rintro _ w2 ⟨rfl, hb2⟩)
  have K2 := hid (K0.out.later hb2)
  have P2 := hid (P0.out.later hb2)
  have Q2 := hid (Q0.out.later hb2)
  have B2 := hid (B0.out.trans (hb2.mono B0.out.size))
  clear K0 P0 Q0 B0 hb2 a0 a1 a2 a3 a4 a5
  obtain ⟨a0, a1, a2, a3, a4, a5, _⟩ := P2.out.cells
  simp only at a0 a1 a2 a3 a4 a5
  go_region
  have K2' : Hid (IsK w2.drew g F) := K2.out
  go_wp2_with (go_at_call 24; refine (CC.out _ K2'.out).mono ?_; rintro _ w3 ⟨rfl, hb3⟩; (have K3 := hid (K2'.out.later hb3)); (obtain ⟨c0, c1, c2, c3⟩ := K3.out.at3); rw [HST.out] at c0; (have hb3' := und hb3); (have P3 := hid (P2.out.later hb3')); (have Q3 := hid (Q2.out.later hb3')); (have B3 := hid (B2.out.trans (hb3'.mono B2.out.size))); (have f0 := K3.out.fz 8); (have f1 := K3.out.fz 9); (have f2 := K3.out.fz 10); (have f3 := K3.out.fz 11); (obtain ⟨d0, d1, d2, d3, d4, d5, _⟩ := P3.out.cells); simp only at d0 d1 d2 d3 d4 d5; (obtain ⟨z0, z1, z2, z3, z4, z5, zf⟩ := Q3.out.cells); (have y0 := zf 0); (have y1 := zf 1); (have y2 := zf 2); (have y3 := zf 3); (have y4 := zf 4); (have y5 := zf 5); clear a0 a1 a2 a3 a4 a5 hb3 hb3' zf K2 K2' P2 Q2 B2)
  go_step3
  refine ⟨rfl, ?_⟩
  go_wp2
  rw [Exit.noGoto_ret]
  refine bodyPost_ret (v := .tuple #[.string b, .bool true, Fr.val zpk, .bool false]) (by simp [results, Try.results9, go_sem, Fr.val, zpk, z0, z1, z2, z3, z4, z5, hne1, hne2, hne3, hne4]) rfl ⟨rfl, ?_, ?_⟩
  · exact IsK.out (S := fun k => k = w.heap.size + 1) (f := updK F 3 ⟨1, e, s, ⟨#[]⟩⟩) (row_set 11 _ (row_set 10 _ (row_set 9 _ (row_set 8 _ K3.out)))) (((((((Ou.refl (fun k => k = w.heap.size + 1) _).set rfl).set rfl).set rfl).set rfl).set rfl).set rfl) hne2
  · exact ou_newS B3.out (((((((((((Ou.refl (fun k => k = g ∨ k = w.heap.size + 1) _).set (.inl rfl)).set (.inl rfl)).set (.inl rfl)).set (.inl rfl)).set (.inr rfl)).set (.inr rfl)).set (.inr rfl)).set (.inr rfl)).set (.inr rfl)).set (.inr rfl)) (fun k e => e.elim .inl fun e => .inr (by omega))
set_option maxHeartbeats 4000000 in
theorem ktake_3_p {w : World} {g : Nat} {F : Nat → Tk} (h : IsK w g F) (e s : Int) (b : ByteArray) (hp : Fr.Wf ⟨1, 3, 0, e, s, b⟩) (hs : b.size ≤ maxLen) (hr : Fr.rightB ⟨1, 3, 0, e, s, b⟩ = true) (hst : (F 3).st = 2) (a : Int) (ha : a = orF (cmpF (F 3).ep e) (cmpF (F 3).num s)) (hlt : a < 0) :
    Calls Try.prog 9 #[pC g, .agg #[.int .u8 1, .int .u8 3, .int .u8 0, .int .u32 e, .int .u32 s, .string b]] w fun x w' => x = .returned (.tuple #[.string b, .bool true, Fr.val zpk, .bool false]) ∧ IsK w' g (updK F 3 ⟨1, e, s, ⟨#[]⟩⟩) ∧ Ou (fun k => k = g) w w' := by
  have RC : Hid (∀ W, Calls Try.prog 23 #[.agg #[.int .u8 1, .int .u8 3, .int .u8 0, .int .u32 e, .int .u32 s, .string b]] W fun x w' => x = .returned (.bool true) ∧ Below W.heap.size W w') := fun W => by
    have := right_c ⟨1, 3, 0, e, s, b⟩ hp hs W
    rw [hr] at this
    exact this
  have CC : Hid (∀ W, IsK W g F → Calls Try.prog 24 #[.pointer (some ⟨g, 8, none⟩), .agg #[.int .u8 1, .int .u8 3, .int .u8 0, .int .u32 e, .int .u32 s, .string b]] W fun x w' => x = .returned (.int .i64 a) ∧ Below W.heap.size W w') := fun W hW => by
    rw [ha]; exact compare_c _ _ hW.at3.2.1 hW.at3.2.2.1 1 3 0 e s b
  have AC : Hid (∀ W, IsK W g F → Calls Try.prog 25 #[.pointer (some ⟨g, 8, none⟩), .int .u8 3] W fun x w' => x = .returned (Fr.val ⟨2, 0, 3, (F 3).ep, (F 3).num, (F 3).body⟩) ∧ Below W.heap.size W w') := fun W hW => answer_c _ _ _ hW.lt hW.at3.2.1 hW.at3.2.2.1 hW.at3.2.2.2 3
  have hlt := h.lt
  have b1 : Below w.heap.size w (w.alloc (.cells #[.int .u8 1, .int .u8 3, .int .u8 0, .int .u32 e, .int .u32 s, .string b] 26)) := (Below.refl _ _).alloc (Nat.le_refl _) _
  have P1 := PkAt.new w ⟨1, 3, 0, e, s, b⟩
  have b2 : Below (w.alloc (.cells #[.int .u8 1, .int .u8 3, .int .u8 0, .int .u32 e, .int .u32 s, .string b] 26)).heap.size (w.alloc (.cells #[.int .u8 1, .int .u8 3, .int .u8 0, .int .u32 e, .int .u32 s, .string b] 26)) ((w.alloc (.cells #[.int .u8 1, .int .u8 3, .int .u8 0, .int .u32 e, .int .u32 s, .string b] 26)).alloc (.cells #[.int .u8 0, .int .u8 0, .int .u8 0, .int .u32 0, .int .u32 0, .string ⟨#[]⟩] 26)) := (Below.refl _ _).alloc (Nat.le_refl _) _
  have P2 : PkAt ((w.alloc (.cells #[.int .u8 1, .int .u8 3, .int .u8 0, .int .u32 e, .int .u32 s, .string b] 26)).alloc (.cells #[.int .u8 0, .int .u8 0, .int .u8 0, .int .u32 0, .int .u32 0, .string ⟨#[]⟩] 26)) (w.heap.size + 1) zpk := by
    have e0 : (w.alloc (.cells #[.int .u8 1, .int .u8 3, .int .u8 0, .int .u32 e, .int .u32 s, .string b] 26)).heap.size = w.heap.size + 1 := by simp
    rw [← e0]
    exact PkAt.new _ zpk
  have K0 := hid ((h.later b1).later b2)
  have P0 : Hid (PkAt ((w.alloc (.cells #[.int .u8 1, .int .u8 3, .int .u8 0, .int .u32 e, .int .u32 s, .string b] 26)).alloc (.cells #[.int .u8 0, .int .u8 0, .int .u8 0, .int .u32 0, .int .u32 0, .string ⟨#[]⟩] 26)) w.heap.size ⟨1, 3, 0, e, s, b⟩) := hid (P1.later b2)
  have Q0 := hid P2
  have B0 : Hid (Below w.heap.size w ((w.alloc (.cells #[.int .u8 1, .int .u8 3, .int .u8 0, .int .u32 e, .int .u32 s, .string b] 26)).alloc (.cells #[.int .u8 0, .int .u8 0, .int .u8 0, .int .u32 0, .int .u32 0, .string ⟨#[]⟩] 26))) := hid (b1.trans (b2.mono b1.size))
  have hne1 : ¬ g = w.heap.size := by omega
  have hne2 : ¬ g = w.heap.size + 1 := by omega
  have hne3 : ¬ w.heap.size = g := by omega
  have hne4 : ¬ w.heap.size + 1 = g := by omega
  have HST := hid hst
  clear h hp hs hr ha b1 P1 b2 P2 hst
  go_enter Try.func9, Try.ntmps9
  go_wp2_with fail
  generalize ((w.alloc (.cells #[.int .u8 1, .int .u8 3, .int .u8 0, .int .u32 e, .int .u32 s, .string b] 26)).alloc (.cells #[.int .u8 0, .int .u8 0, .int .u8 0, .int .u32 0, .int .u32 0, .string ⟨#[]⟩] 26)) = W at *
  refine wp_scope_fwd 0 rfl ?_
  obtain ⟨a0, a1, a2, a3, a4, a5, _⟩ := P0.out.cells
  simp only at a0 a1 a2 a3 a4 a5
  go_wp2_with (go_at_call 23; refine (RC.out _).mono ?_; rintro _ w2 ⟨rfl, hb2⟩)
  have K2 := hid (K0.out.later hb2)
  have P2 := hid (P0.out.later hb2)
  have Q2 := hid (Q0.out.later hb2)
  have B2 := hid (B0.out.trans (hb2.mono B0.out.size))
  clear K0 P0 Q0 B0 hb2 a0 a1 a2 a3 a4 a5
  obtain ⟨a0, a1, a2, a3, a4, a5, _⟩ := P2.out.cells
  simp only at a0 a1 a2 a3 a4 a5
  go_region
  have K2' : Hid (IsK w2.drew g F) := K2.out
  go_wp2_with (go_at_call 24; refine (CC.out _ K2'.out).mono ?_; rintro _ w3 ⟨rfl, hb3⟩; (have K3 := hid (K2'.out.later hb3)); (obtain ⟨c0, c1, c2, c3⟩ := K3.out.at3); rw [HST.out] at c0; (have hb3' := und hb3); (have P3 := hid (P2.out.later hb3')); (have Q3 := hid (Q2.out.later hb3')); (have B3 := hid (B2.out.trans (hb3'.mono B2.out.size))); (have f0 := K3.out.fz 8); (have f1 := K3.out.fz 9); (have f2 := K3.out.fz 10); (have f3 := K3.out.fz 11); (obtain ⟨d0, d1, d2, d3, d4, d5, _⟩ := P3.out.cells); simp only at d0 d1 d2 d3 d4 d5; (obtain ⟨z0, z1, z2, z3, z4, z5, zf⟩ := Q3.out.cells); (have y0 := zf 0); (have y1 := zf 1); (have y2 := zf 2); (have y3 := zf 3); (have y4 := zf 4); (have y5 := zf 5); clear a0 a1 a2 a3 a4 a5 hb3 hb3' zf K2 K2' P2 Q2 B2)
  go_step3
  refine ⟨rfl, ?_⟩
  go_wp2
  rw [Exit.noGoto_ret]
  refine bodyPost_ret (v := .tuple #[.string b, .bool true, Fr.val zpk, .bool false]) (by simp [results, Try.results9, go_sem, Fr.val, zpk, z0, z1, z2, z3, z4, z5, hne1, hne2, hne3, hne4]) rfl ⟨rfl, ?_, ?_⟩
  · exact IsK.out (S := fun k => k = w.heap.size + 1) (f := updK F 3 ⟨1, e, s, ⟨#[]⟩⟩) (row_set 11 _ (row_set 10 _ (row_set 9 _ (row_set 8 _ K3.out)))) (((((((Ou.refl (fun k => k = w.heap.size + 1) _).set rfl).set rfl).set rfl).set rfl).set rfl).set rfl) hne2
  · exact ou_newS B3.out (((((((((((Ou.refl (fun k => k = g ∨ k = w.heap.size + 1) _).set (.inl rfl)).set (.inl rfl)).set (.inl rfl)).set (.inl rfl)).set (.inr rfl)).set (.inr rfl)).set (.inr rfl)).set (.inr rfl)).set (.inr rfl)).set (.inr rfl)) (fun k e => e.elim .inl fun e => .inr (by omega))
set_option maxHeartbeats 4000000 in
theorem ktake_3_q {w : World} {g : Nat} {F : Nat → Tk} (h : IsK w g F) (e s : Int) (b : ByteArray) (hp : Fr.Wf ⟨1, 3, 0, e, s, b⟩) (hs : b.size ≤ maxLen) (hr : Fr.rightB ⟨1, 3, 0, e, s, b⟩ = true) (hst : (F 3).st = 1) (a : Int) (ha : a = orF (cmpF (F 3).ep e) (cmpF (F 3).num s)) (hlt : ¬ a < 0) (h0 : (a == 0) = true) :
    Calls Try.prog 9 #[pC g, .agg #[.int .u8 1, .int .u8 3, .int .u8 0, .int .u32 e, .int .u32 s, .string b]] w fun x w' => x = .returned (.tuple #[.string ⟨#[]⟩, .bool false, Fr.val zpk, .bool false]) ∧ Below w.heap.size w w' := by
  have RC : Hid (∀ W, Calls Try.prog 23 #[.agg #[.int .u8 1, .int .u8 3, .int .u8 0, .int .u32 e, .int .u32 s, .string b]] W fun x w' => x = .returned (.bool true) ∧ Below W.heap.size W w') := fun W => by
    have := right_c ⟨1, 3, 0, e, s, b⟩ hp hs W
    rw [hr] at this
    exact this
  have CC : Hid (∀ W, IsK W g F → Calls Try.prog 24 #[.pointer (some ⟨g, 8, none⟩), .agg #[.int .u8 1, .int .u8 3, .int .u8 0, .int .u32 e, .int .u32 s, .string b]] W fun x w' => x = .returned (.int .i64 a) ∧ Below W.heap.size W w') := fun W hW => by
    rw [ha]; exact compare_c _ _ hW.at3.2.1 hW.at3.2.2.1 1 3 0 e s b
  have AC : Hid (∀ W, IsK W g F → Calls Try.prog 25 #[.pointer (some ⟨g, 8, none⟩), .int .u8 3] W fun x w' => x = .returned (Fr.val ⟨2, 0, 3, (F 3).ep, (F 3).num, (F 3).body⟩) ∧ Below W.heap.size W w') := fun W hW => answer_c _ _ _ hW.lt hW.at3.2.1 hW.at3.2.2.1 hW.at3.2.2.2 3
  have hlt := h.lt
  have b1 : Below w.heap.size w (w.alloc (.cells #[.int .u8 1, .int .u8 3, .int .u8 0, .int .u32 e, .int .u32 s, .string b] 26)) := (Below.refl _ _).alloc (Nat.le_refl _) _
  have P1 := PkAt.new w ⟨1, 3, 0, e, s, b⟩
  have b2 : Below (w.alloc (.cells #[.int .u8 1, .int .u8 3, .int .u8 0, .int .u32 e, .int .u32 s, .string b] 26)).heap.size (w.alloc (.cells #[.int .u8 1, .int .u8 3, .int .u8 0, .int .u32 e, .int .u32 s, .string b] 26)) ((w.alloc (.cells #[.int .u8 1, .int .u8 3, .int .u8 0, .int .u32 e, .int .u32 s, .string b] 26)).alloc (.cells #[.int .u8 0, .int .u8 0, .int .u8 0, .int .u32 0, .int .u32 0, .string ⟨#[]⟩] 26)) := (Below.refl _ _).alloc (Nat.le_refl _) _
  have P2 : PkAt ((w.alloc (.cells #[.int .u8 1, .int .u8 3, .int .u8 0, .int .u32 e, .int .u32 s, .string b] 26)).alloc (.cells #[.int .u8 0, .int .u8 0, .int .u8 0, .int .u32 0, .int .u32 0, .string ⟨#[]⟩] 26)) (w.heap.size + 1) zpk := by
    have e0 : (w.alloc (.cells #[.int .u8 1, .int .u8 3, .int .u8 0, .int .u32 e, .int .u32 s, .string b] 26)).heap.size = w.heap.size + 1 := by simp
    rw [← e0]
    exact PkAt.new _ zpk
  have K0 := hid ((h.later b1).later b2)
  have P0 : Hid (PkAt ((w.alloc (.cells #[.int .u8 1, .int .u8 3, .int .u8 0, .int .u32 e, .int .u32 s, .string b] 26)).alloc (.cells #[.int .u8 0, .int .u8 0, .int .u8 0, .int .u32 0, .int .u32 0, .string ⟨#[]⟩] 26)) w.heap.size ⟨1, 3, 0, e, s, b⟩) := hid (P1.later b2)
  have Q0 := hid P2
  have B0 : Hid (Below w.heap.size w ((w.alloc (.cells #[.int .u8 1, .int .u8 3, .int .u8 0, .int .u32 e, .int .u32 s, .string b] 26)).alloc (.cells #[.int .u8 0, .int .u8 0, .int .u8 0, .int .u32 0, .int .u32 0, .string ⟨#[]⟩] 26))) := hid (b1.trans (b2.mono b1.size))
  have hne1 : ¬ g = w.heap.size := by omega
  have hne2 : ¬ g = w.heap.size + 1 := by omega
  have hne3 : ¬ w.heap.size = g := by omega
  have hne4 : ¬ w.heap.size + 1 = g := by omega
  have HST := hid hst
  clear h hp hs hr ha b1 P1 b2 P2 hst
  go_enter Try.func9, Try.ntmps9
  go_wp2_with fail
  generalize ((w.alloc (.cells #[.int .u8 1, .int .u8 3, .int .u8 0, .int .u32 e, .int .u32 s, .string b] 26)).alloc (.cells #[.int .u8 0, .int .u8 0, .int .u8 0, .int .u32 0, .int .u32 0, .string ⟨#[]⟩] 26)) = W at *
  refine wp_scope_fwd 0 rfl ?_
  obtain ⟨a0, a1, a2, a3, a4, a5, _⟩ := P0.out.cells
  simp only at a0 a1 a2 a3 a4 a5
  go_wp2_with (go_at_call 23; refine (RC.out _).mono ?_; rintro _ w2 ⟨rfl, hb2⟩)
  have K2 := hid (K0.out.later hb2)
  have P2 := hid (P0.out.later hb2)
  have Q2 := hid (Q0.out.later hb2)
  have B2 := hid (B0.out.trans (hb2.mono B0.out.size))
  clear K0 P0 Q0 B0 hb2 a0 a1 a2 a3 a4 a5
  obtain ⟨a0, a1, a2, a3, a4, a5, _⟩ := P2.out.cells
  simp only at a0 a1 a2 a3 a4 a5
  go_region
  have K2' : Hid (IsK w2.drew g F) := K2.out
  go_wp2_with (go_at_call 24; refine (CC.out _ K2'.out).mono ?_; rintro _ w3 ⟨rfl, hb3⟩; (have K3 := hid (K2'.out.later hb3)); (obtain ⟨c0, c1, c2, c3⟩ := K3.out.at3); rw [HST.out] at c0; (have hb3' := und hb3); (have P3 := hid (P2.out.later hb3')); (have Q3 := hid (Q2.out.later hb3')); (have B3 := hid (B2.out.trans (hb3'.mono B2.out.size))); (have f0 := K3.out.fz 8); (have f1 := K3.out.fz 9); (have f2 := K3.out.fz 10); (have f3 := K3.out.fz 11); (obtain ⟨d0, d1, d2, d3, d4, d5, _⟩ := P3.out.cells); simp only at d0 d1 d2 d3 d4 d5; (obtain ⟨z0, z1, z2, z3, z4, z5, zf⟩ := Q3.out.cells); (have y0 := zf 0); (have y1 := zf 1); (have y2 := zf 2); (have y3 := zf 3); (have y4 := zf 4); (have y5 := zf 5); clear a0 a1 a2 a3 a4 a5 hb3 hb3' zf K2 K2' P2 Q2 B2)
  rw [jump_ret]
  refine bodyPost_ret (v := .tuple #[.string ⟨#[]⟩, .bool false, Fr.val zpk, .bool false]) (by simp [results, Try.results9, go_sem, Fr.val, zpk, z0, z1, z2, z3, z4, z5, hne1, hne2, hne3, hne4]) rfl ⟨rfl, ?_⟩
  exact (ou_newS (S := fun _ => False) B3.out (((((((Ou.refl (fun k => k = w.heap.size + 1) _).set rfl).set rfl).set rfl).set rfl).set rfl).set rfl) (fun k e => .inr (by omega))).below (Nat.le_refl _) (fun k e => e.elim)
set_option maxHeartbeats 4000000 in
theorem ktake_3_r {w : World} {g : Nat} {F : Nat → Tk} (h : IsK w g F) (e s : Int) (b : ByteArray) (hp : Fr.Wf ⟨1, 3, 0, e, s, b⟩) (hs : b.size ≤ maxLen) (hr : Fr.rightB ⟨1, 3, 0, e, s, b⟩ = true) (hst : (F 3).st = 1) (a : Int) (ha : a = orF (cmpF (F 3).ep e) (cmpF (F 3).num s)) (hlt : ¬ a < 0) (h0 : (a == 0) = false) :
    Calls Try.prog 9 #[pC g, .agg #[.int .u8 1, .int .u8 3, .int .u8 0, .int .u32 e, .int .u32 s, .string b]] w fun x w' => x = .returned (.tuple #[.string ⟨#[]⟩, .bool false, Fr.val zpk, .bool false]) ∧ Below w.heap.size w w' := by
  have RC : Hid (∀ W, Calls Try.prog 23 #[.agg #[.int .u8 1, .int .u8 3, .int .u8 0, .int .u32 e, .int .u32 s, .string b]] W fun x w' => x = .returned (.bool true) ∧ Below W.heap.size W w') := fun W => by
    have := right_c ⟨1, 3, 0, e, s, b⟩ hp hs W
    rw [hr] at this
    exact this
  have CC : Hid (∀ W, IsK W g F → Calls Try.prog 24 #[.pointer (some ⟨g, 8, none⟩), .agg #[.int .u8 1, .int .u8 3, .int .u8 0, .int .u32 e, .int .u32 s, .string b]] W fun x w' => x = .returned (.int .i64 a) ∧ Below W.heap.size W w') := fun W hW => by
    rw [ha]; exact compare_c _ _ hW.at3.2.1 hW.at3.2.2.1 1 3 0 e s b
  have AC : Hid (∀ W, IsK W g F → Calls Try.prog 25 #[.pointer (some ⟨g, 8, none⟩), .int .u8 3] W fun x w' => x = .returned (Fr.val ⟨2, 0, 3, (F 3).ep, (F 3).num, (F 3).body⟩) ∧ Below W.heap.size W w') := fun W hW => answer_c _ _ _ hW.lt hW.at3.2.1 hW.at3.2.2.1 hW.at3.2.2.2 3
  have hlt := h.lt
  have b1 : Below w.heap.size w (w.alloc (.cells #[.int .u8 1, .int .u8 3, .int .u8 0, .int .u32 e, .int .u32 s, .string b] 26)) := (Below.refl _ _).alloc (Nat.le_refl _) _
  have P1 := PkAt.new w ⟨1, 3, 0, e, s, b⟩
  have b2 : Below (w.alloc (.cells #[.int .u8 1, .int .u8 3, .int .u8 0, .int .u32 e, .int .u32 s, .string b] 26)).heap.size (w.alloc (.cells #[.int .u8 1, .int .u8 3, .int .u8 0, .int .u32 e, .int .u32 s, .string b] 26)) ((w.alloc (.cells #[.int .u8 1, .int .u8 3, .int .u8 0, .int .u32 e, .int .u32 s, .string b] 26)).alloc (.cells #[.int .u8 0, .int .u8 0, .int .u8 0, .int .u32 0, .int .u32 0, .string ⟨#[]⟩] 26)) := (Below.refl _ _).alloc (Nat.le_refl _) _
  have P2 : PkAt ((w.alloc (.cells #[.int .u8 1, .int .u8 3, .int .u8 0, .int .u32 e, .int .u32 s, .string b] 26)).alloc (.cells #[.int .u8 0, .int .u8 0, .int .u8 0, .int .u32 0, .int .u32 0, .string ⟨#[]⟩] 26)) (w.heap.size + 1) zpk := by
    have e0 : (w.alloc (.cells #[.int .u8 1, .int .u8 3, .int .u8 0, .int .u32 e, .int .u32 s, .string b] 26)).heap.size = w.heap.size + 1 := by simp
    rw [← e0]
    exact PkAt.new _ zpk
  have K0 := hid ((h.later b1).later b2)
  have P0 : Hid (PkAt ((w.alloc (.cells #[.int .u8 1, .int .u8 3, .int .u8 0, .int .u32 e, .int .u32 s, .string b] 26)).alloc (.cells #[.int .u8 0, .int .u8 0, .int .u8 0, .int .u32 0, .int .u32 0, .string ⟨#[]⟩] 26)) w.heap.size ⟨1, 3, 0, e, s, b⟩) := hid (P1.later b2)
  have Q0 := hid P2
  have B0 : Hid (Below w.heap.size w ((w.alloc (.cells #[.int .u8 1, .int .u8 3, .int .u8 0, .int .u32 e, .int .u32 s, .string b] 26)).alloc (.cells #[.int .u8 0, .int .u8 0, .int .u8 0, .int .u32 0, .int .u32 0, .string ⟨#[]⟩] 26))) := hid (b1.trans (b2.mono b1.size))
  have hne1 : ¬ g = w.heap.size := by omega
  have hne2 : ¬ g = w.heap.size + 1 := by omega
  have hne3 : ¬ w.heap.size = g := by omega
  have hne4 : ¬ w.heap.size + 1 = g := by omega
  have HST := hid hst
  clear h hp hs hr ha b1 P1 b2 P2 hst
  go_enter Try.func9, Try.ntmps9
  go_wp2_with fail
  generalize ((w.alloc (.cells #[.int .u8 1, .int .u8 3, .int .u8 0, .int .u32 e, .int .u32 s, .string b] 26)).alloc (.cells #[.int .u8 0, .int .u8 0, .int .u8 0, .int .u32 0, .int .u32 0, .string ⟨#[]⟩] 26)) = W at *
  refine wp_scope_fwd 0 rfl ?_
  obtain ⟨a0, a1, a2, a3, a4, a5, _⟩ := P0.out.cells
  simp only at a0 a1 a2 a3 a4 a5
  go_wp2_with (go_at_call 23; refine (RC.out _).mono ?_; rintro _ w2 ⟨rfl, hb2⟩)
  have K2 := hid (K0.out.later hb2)
  have P2 := hid (P0.out.later hb2)
  have Q2 := hid (Q0.out.later hb2)
  have B2 := hid (B0.out.trans (hb2.mono B0.out.size))
  clear K0 P0 Q0 B0 hb2 a0 a1 a2 a3 a4 a5
  obtain ⟨a0, a1, a2, a3, a4, a5, _⟩ := P2.out.cells
  simp only at a0 a1 a2 a3 a4 a5
  go_region
  have K2' : Hid (IsK w2.drew g F) := K2.out
  go_wp2_with (go_at_call 24; refine (CC.out _ K2'.out).mono ?_; rintro _ w3 ⟨rfl, hb3⟩; (have K3 := hid (K2'.out.later hb3)); (obtain ⟨c0, c1, c2, c3⟩ := K3.out.at3); rw [HST.out] at c0; (have hb3' := und hb3); (have P3 := hid (P2.out.later hb3')); (have Q3 := hid (Q2.out.later hb3')); (have B3 := hid (B2.out.trans (hb3'.mono B2.out.size))); (have f0 := K3.out.fz 8); (have f1 := K3.out.fz 9); (have f2 := K3.out.fz 10); (have f3 := K3.out.fz 11); (obtain ⟨d0, d1, d2, d3, d4, d5, _⟩ := P3.out.cells); simp only at d0 d1 d2 d3 d4 d5; (obtain ⟨z0, z1, z2, z3, z4, z5, zf⟩ := Q3.out.cells); (have y0 := zf 0); (have y1 := zf 1); (have y2 := zf 2); (have y3 := zf 3); (have y4 := zf 4); (have y5 := zf 5); clear a0 a1 a2 a3 a4 a5 hb3 hb3' zf K2 K2' P2 Q2 B2)
  rw [jump_ret]
  refine bodyPost_ret (v := .tuple #[.string ⟨#[]⟩, .bool false, Fr.val zpk, .bool false]) (by simp [results, Try.results9, go_sem, Fr.val, zpk, z0, z1, z2, z3, z4, z5, hne1, hne2, hne3, hne4]) rfl ⟨rfl, ?_⟩
  exact (ou_newS (S := fun _ => False) B3.out (((((((Ou.refl (fun k => k = w.heap.size + 1) _).set rfl).set rfl).set rfl).set rfl).set rfl).set rfl) (fun k e => .inr (by omega))).below (Nat.le_refl _) (fun k e => e.elim)
set_option maxHeartbeats 4000000 in
theorem ktake_3_s {w : World} {g : Nat} {F : Nat → Tk} (h : IsK w g F) (e s : Int) (b : ByteArray) (hp : Fr.Wf ⟨1, 3, 0, e, s, b⟩) (hs : b.size ≤ maxLen) (hr : Fr.rightB ⟨1, 3, 0, e, s, b⟩ = true) (hst : (F 3).st = 2) (a : Int) (ha : a = orF (cmpF (F 3).ep e) (cmpF (F 3).num s)) (hlt : ¬ a < 0) (h0 : (a == 0) = true) :
    Calls Try.prog 9 #[pC g, .agg #[.int .u8 1, .int .u8 3, .int .u8 0, .int .u32 e, .int .u32 s, .string b]] w fun x w' => x = .returned (.tuple #[.string ⟨#[]⟩, .bool false, Fr.val ⟨2, 0, 3, (F 3).ep, (F 3).num, (F 3).body⟩, .bool true]) ∧ Below w.heap.size w w' := by
  have RC : Hid (∀ W, Calls Try.prog 23 #[.agg #[.int .u8 1, .int .u8 3, .int .u8 0, .int .u32 e, .int .u32 s, .string b]] W fun x w' => x = .returned (.bool true) ∧ Below W.heap.size W w') := fun W => by
    have := right_c ⟨1, 3, 0, e, s, b⟩ hp hs W
    rw [hr] at this
    exact this
  have CC : Hid (∀ W, IsK W g F → Calls Try.prog 24 #[.pointer (some ⟨g, 8, none⟩), .agg #[.int .u8 1, .int .u8 3, .int .u8 0, .int .u32 e, .int .u32 s, .string b]] W fun x w' => x = .returned (.int .i64 a) ∧ Below W.heap.size W w') := fun W hW => by
    rw [ha]; exact compare_c _ _ hW.at3.2.1 hW.at3.2.2.1 1 3 0 e s b
  have AC : Hid (∀ W, IsK W g F → Calls Try.prog 25 #[.pointer (some ⟨g, 8, none⟩), .int .u8 3] W fun x w' => x = .returned (Fr.val ⟨2, 0, 3, (F 3).ep, (F 3).num, (F 3).body⟩) ∧ Below W.heap.size W w') := fun W hW => answer_c _ _ _ hW.lt hW.at3.2.1 hW.at3.2.2.1 hW.at3.2.2.2 3
  have hlt := h.lt
  have b1 : Below w.heap.size w (w.alloc (.cells #[.int .u8 1, .int .u8 3, .int .u8 0, .int .u32 e, .int .u32 s, .string b] 26)) := (Below.refl _ _).alloc (Nat.le_refl _) _
  have P1 := PkAt.new w ⟨1, 3, 0, e, s, b⟩
  have b2 : Below (w.alloc (.cells #[.int .u8 1, .int .u8 3, .int .u8 0, .int .u32 e, .int .u32 s, .string b] 26)).heap.size (w.alloc (.cells #[.int .u8 1, .int .u8 3, .int .u8 0, .int .u32 e, .int .u32 s, .string b] 26)) ((w.alloc (.cells #[.int .u8 1, .int .u8 3, .int .u8 0, .int .u32 e, .int .u32 s, .string b] 26)).alloc (.cells #[.int .u8 0, .int .u8 0, .int .u8 0, .int .u32 0, .int .u32 0, .string ⟨#[]⟩] 26)) := (Below.refl _ _).alloc (Nat.le_refl _) _
  have P2 : PkAt ((w.alloc (.cells #[.int .u8 1, .int .u8 3, .int .u8 0, .int .u32 e, .int .u32 s, .string b] 26)).alloc (.cells #[.int .u8 0, .int .u8 0, .int .u8 0, .int .u32 0, .int .u32 0, .string ⟨#[]⟩] 26)) (w.heap.size + 1) zpk := by
    have e0 : (w.alloc (.cells #[.int .u8 1, .int .u8 3, .int .u8 0, .int .u32 e, .int .u32 s, .string b] 26)).heap.size = w.heap.size + 1 := by simp
    rw [← e0]
    exact PkAt.new _ zpk
  have K0 := hid ((h.later b1).later b2)
  have P0 : Hid (PkAt ((w.alloc (.cells #[.int .u8 1, .int .u8 3, .int .u8 0, .int .u32 e, .int .u32 s, .string b] 26)).alloc (.cells #[.int .u8 0, .int .u8 0, .int .u8 0, .int .u32 0, .int .u32 0, .string ⟨#[]⟩] 26)) w.heap.size ⟨1, 3, 0, e, s, b⟩) := hid (P1.later b2)
  have Q0 := hid P2
  have B0 : Hid (Below w.heap.size w ((w.alloc (.cells #[.int .u8 1, .int .u8 3, .int .u8 0, .int .u32 e, .int .u32 s, .string b] 26)).alloc (.cells #[.int .u8 0, .int .u8 0, .int .u8 0, .int .u32 0, .int .u32 0, .string ⟨#[]⟩] 26))) := hid (b1.trans (b2.mono b1.size))
  have hne1 : ¬ g = w.heap.size := by omega
  have hne2 : ¬ g = w.heap.size + 1 := by omega
  have hne3 : ¬ w.heap.size = g := by omega
  have hne4 : ¬ w.heap.size + 1 = g := by omega
  have HST := hid hst
  clear h hp hs hr ha b1 P1 b2 P2 hst
  go_enter Try.func9, Try.ntmps9
  go_wp2_with fail
  generalize ((w.alloc (.cells #[.int .u8 1, .int .u8 3, .int .u8 0, .int .u32 e, .int .u32 s, .string b] 26)).alloc (.cells #[.int .u8 0, .int .u8 0, .int .u8 0, .int .u32 0, .int .u32 0, .string ⟨#[]⟩] 26)) = W at *
  refine wp_scope_fwd 0 rfl ?_
  obtain ⟨a0, a1, a2, a3, a4, a5, _⟩ := P0.out.cells
  simp only at a0 a1 a2 a3 a4 a5
  go_wp2_with (go_at_call 23; refine (RC.out _).mono ?_; rintro _ w2 ⟨rfl, hb2⟩)
  have K2 := hid (K0.out.later hb2)
  have P2 := hid (P0.out.later hb2)
  have Q2 := hid (Q0.out.later hb2)
  have B2 := hid (B0.out.trans (hb2.mono B0.out.size))
  clear K0 P0 Q0 B0 hb2 a0 a1 a2 a3 a4 a5
  obtain ⟨a0, a1, a2, a3, a4, a5, _⟩ := P2.out.cells
  simp only at a0 a1 a2 a3 a4 a5
  go_region
  have K2' : Hid (IsK w2.drew g F) := K2.out
  go_wp2_with (first
   | (go_at_call 24; refine (CC.out _ K2'.out).mono ?_; rintro _ w3 ⟨rfl, hb3⟩; (have K3 := hid (K2'.out.later hb3)); (obtain ⟨c0, c1, c2, c3⟩ := K3.out.at3); rw [HST.out] at c0; (have hb3' := und hb3); (have P3 := hid (P2.out.later hb3')); (have Q3 := hid (Q2.out.later hb3')); (have B3 := hid (B2.out.trans (hb3'.mono B2.out.size))); (have f0 := K3.out.fz 8); (have f1 := K3.out.fz 9); (have f2 := K3.out.fz 10); (have f3 := K3.out.fz 11); (obtain ⟨d0, d1, d2, d3, d4, d5, _⟩ := P3.out.cells); simp only at d0 d1 d2 d3 d4 d5; (obtain ⟨z0, z1, z2, z3, z4, z5, zf⟩ := Q3.out.cells); (have y0 := zf 0); (have y1 := zf 1); (have y2 := zf 2); (have y3 := zf 3); (have y4 := zf 4); (have y5 := zf 5); clear a0 a1 a2 a3 a4 a5 hb3 hb3' zf K2 K2' P2 Q2 B2)
   | (go_at_call 25; refine (AC.out _ K3.out).mono ?_; rintro _ w6 ⟨rfl, hb6⟩; rw [show Fr.val ⟨2, 0, 3, (F 3).ep, (F 3).num, (F 3).body⟩ = .agg #[.int .u8 2, .int .u8 0, .int .u8 3, .int .u32 (F 3).ep, .int .u32 (F 3).num, .string (F 3).body] from rfl]; (have B6 := hid (B3.out.trans (hb6.mono B3.out.size))); (obtain ⟨x0, x1, x2, x3, x4, x5, xf⟩ := (Q3.out.later hb6).cells); (have v0 := xf 0); (have v1 := xf 1); (have v2 := xf 2); (have v3 := xf 3); (have v4 := xf 4); (have v5 := xf 5); clear xf))
  rw [jump_ret]
  refine bodyPost_ret (v := .tuple #[.string ⟨#[]⟩, .bool false, Fr.val ⟨2, 0, 3, (F 3).ep, (F 3).num, (F 3).body⟩, .bool true]) (by simp [results, Try.results9, go_sem, Fr.val, zpk, x0, x1, x2, x3, x4, x5, hne1, hne2, hne3, hne4]) rfl ⟨rfl, ?_⟩
  exact (ou_newS (S := fun _ => False) B6.out (((((((Ou.refl (fun k => k = w.heap.size + 1) _).set rfl).set rfl).set rfl).set rfl).set rfl).set rfl) (fun k e => .inr (by omega))).below (Nat.le_refl _) (fun k e => e.elim)
set_option maxHeartbeats 4000000 in
theorem ktake_3_t {w : World} {g : Nat} {F : Nat → Tk} (h : IsK w g F) (e s : Int) (b : ByteArray) (hp : Fr.Wf ⟨1, 3, 0, e, s, b⟩) (hs : b.size ≤ maxLen) (hr : Fr.rightB ⟨1, 3, 0, e, s, b⟩ = true) (hst : (F 3).st = 2) (a : Int) (ha : a = orF (cmpF (F 3).ep e) (cmpF (F 3).num s)) (hlt : ¬ a < 0) (h0 : (a == 0) = false) :
    Calls Try.prog 9 #[pC g, .agg #[.int .u8 1, .int .u8 3, .int .u8 0, .int .u32 e, .int .u32 s, .string b]] w fun x w' => x = .returned (.tuple #[.string ⟨#[]⟩, .bool false, Fr.val zpk, .bool false]) ∧ Below w.heap.size w w' := by
  have RC : Hid (∀ W, Calls Try.prog 23 #[.agg #[.int .u8 1, .int .u8 3, .int .u8 0, .int .u32 e, .int .u32 s, .string b]] W fun x w' => x = .returned (.bool true) ∧ Below W.heap.size W w') := fun W => by
    have := right_c ⟨1, 3, 0, e, s, b⟩ hp hs W
    rw [hr] at this
    exact this
  have CC : Hid (∀ W, IsK W g F → Calls Try.prog 24 #[.pointer (some ⟨g, 8, none⟩), .agg #[.int .u8 1, .int .u8 3, .int .u8 0, .int .u32 e, .int .u32 s, .string b]] W fun x w' => x = .returned (.int .i64 a) ∧ Below W.heap.size W w') := fun W hW => by
    rw [ha]; exact compare_c _ _ hW.at3.2.1 hW.at3.2.2.1 1 3 0 e s b
  have AC : Hid (∀ W, IsK W g F → Calls Try.prog 25 #[.pointer (some ⟨g, 8, none⟩), .int .u8 3] W fun x w' => x = .returned (Fr.val ⟨2, 0, 3, (F 3).ep, (F 3).num, (F 3).body⟩) ∧ Below W.heap.size W w') := fun W hW => answer_c _ _ _ hW.lt hW.at3.2.1 hW.at3.2.2.1 hW.at3.2.2.2 3
  have hlt := h.lt
  have b1 : Below w.heap.size w (w.alloc (.cells #[.int .u8 1, .int .u8 3, .int .u8 0, .int .u32 e, .int .u32 s, .string b] 26)) := (Below.refl _ _).alloc (Nat.le_refl _) _
  have P1 := PkAt.new w ⟨1, 3, 0, e, s, b⟩
  have b2 : Below (w.alloc (.cells #[.int .u8 1, .int .u8 3, .int .u8 0, .int .u32 e, .int .u32 s, .string b] 26)).heap.size (w.alloc (.cells #[.int .u8 1, .int .u8 3, .int .u8 0, .int .u32 e, .int .u32 s, .string b] 26)) ((w.alloc (.cells #[.int .u8 1, .int .u8 3, .int .u8 0, .int .u32 e, .int .u32 s, .string b] 26)).alloc (.cells #[.int .u8 0, .int .u8 0, .int .u8 0, .int .u32 0, .int .u32 0, .string ⟨#[]⟩] 26)) := (Below.refl _ _).alloc (Nat.le_refl _) _
  have P2 : PkAt ((w.alloc (.cells #[.int .u8 1, .int .u8 3, .int .u8 0, .int .u32 e, .int .u32 s, .string b] 26)).alloc (.cells #[.int .u8 0, .int .u8 0, .int .u8 0, .int .u32 0, .int .u32 0, .string ⟨#[]⟩] 26)) (w.heap.size + 1) zpk := by
    have e0 : (w.alloc (.cells #[.int .u8 1, .int .u8 3, .int .u8 0, .int .u32 e, .int .u32 s, .string b] 26)).heap.size = w.heap.size + 1 := by simp
    rw [← e0]
    exact PkAt.new _ zpk
  have K0 := hid ((h.later b1).later b2)
  have P0 : Hid (PkAt ((w.alloc (.cells #[.int .u8 1, .int .u8 3, .int .u8 0, .int .u32 e, .int .u32 s, .string b] 26)).alloc (.cells #[.int .u8 0, .int .u8 0, .int .u8 0, .int .u32 0, .int .u32 0, .string ⟨#[]⟩] 26)) w.heap.size ⟨1, 3, 0, e, s, b⟩) := hid (P1.later b2)
  have Q0 := hid P2
  have B0 : Hid (Below w.heap.size w ((w.alloc (.cells #[.int .u8 1, .int .u8 3, .int .u8 0, .int .u32 e, .int .u32 s, .string b] 26)).alloc (.cells #[.int .u8 0, .int .u8 0, .int .u8 0, .int .u32 0, .int .u32 0, .string ⟨#[]⟩] 26))) := hid (b1.trans (b2.mono b1.size))
  have hne1 : ¬ g = w.heap.size := by omega
  have hne2 : ¬ g = w.heap.size + 1 := by omega
  have hne3 : ¬ w.heap.size = g := by omega
  have hne4 : ¬ w.heap.size + 1 = g := by omega
  have HST := hid hst
  clear h hp hs hr ha b1 P1 b2 P2 hst
  go_enter Try.func9, Try.ntmps9
  go_wp2_with fail
  generalize ((w.alloc (.cells #[.int .u8 1, .int .u8 3, .int .u8 0, .int .u32 e, .int .u32 s, .string b] 26)).alloc (.cells #[.int .u8 0, .int .u8 0, .int .u8 0, .int .u32 0, .int .u32 0, .string ⟨#[]⟩] 26)) = W at *
  refine wp_scope_fwd 0 rfl ?_
  obtain ⟨a0, a1, a2, a3, a4, a5, _⟩ := P0.out.cells
  simp only at a0 a1 a2 a3 a4 a5
  go_wp2_with (go_at_call 23; refine (RC.out _).mono ?_; rintro _ w2 ⟨rfl, hb2⟩)
  have K2 := hid (K0.out.later hb2)
  have P2 := hid (P0.out.later hb2)
  have Q2 := hid (Q0.out.later hb2)
  have B2 := hid (B0.out.trans (hb2.mono B0.out.size))
  clear K0 P0 Q0 B0 hb2 a0 a1 a2 a3 a4 a5
  obtain ⟨a0, a1, a2, a3, a4, a5, _⟩ := P2.out.cells
  simp only at a0 a1 a2 a3 a4 a5
  go_region
  have K2' : Hid (IsK w2.drew g F) := K2.out
  go_wp2_with (go_at_call 24; refine (CC.out _ K2'.out).mono ?_; rintro _ w3 ⟨rfl, hb3⟩; (have K3 := hid (K2'.out.later hb3)); (obtain ⟨c0, c1, c2, c3⟩ := K3.out.at3); rw [HST.out] at c0; (have hb3' := und hb3); (have P3 := hid (P2.out.later hb3')); (have Q3 := hid (Q2.out.later hb3')); (have B3 := hid (B2.out.trans (hb3'.mono B2.out.size))); (have f0 := K3.out.fz 8); (have f1 := K3.out.fz 9); (have f2 := K3.out.fz 10); (have f3 := K3.out.fz 11); (obtain ⟨d0, d1, d2, d3, d4, d5, _⟩ := P3.out.cells); simp only at d0 d1 d2 d3 d4 d5; (obtain ⟨z0, z1, z2, z3, z4, z5, zf⟩ := Q3.out.cells); (have y0 := zf 0); (have y1 := zf 1); (have y2 := zf 2); (have y3 := zf 3); (have y4 := zf 4); (have y5 := zf 5); clear a0 a1 a2 a3 a4 a5 hb3 hb3' zf K2 K2' P2 Q2 B2)
  rw [jump_ret]
  refine bodyPost_ret (v := .tuple #[.string ⟨#[]⟩, .bool false, Fr.val zpk, .bool false]) (by simp [results, Try.results9, go_sem, Fr.val, zpk, z0, z1, z2, z3, z4, z5, hne1, hne2, hne3, hne4]) rfl ⟨rfl, ?_⟩
  exact (ou_newS (S := fun _ => False) B3.out (((((((Ou.refl (fun k => k = w.heap.size + 1) _).set rfl).set rfl).set rfl).set rfl).set rfl).set rfl) (fun k e => .inr (by omega))).below (Nat.le_refl _) (fun k e => e.elim)
set_option maxHeartbeats 4000000 in
theorem ktake_k (g : Nat) (k f t e s : Int) (b : ByteArray) (w : World) (hp : Fr.Wf ⟨k, f, t, e, s, b⟩) (hs : b.size ≤ maxLen) (hk : (k != 1) = true) :
    Calls Try.prog 9 #[pC g, .agg #[.int .u8 k, .int .u8 f, .int .u8 t, .int .u32 e, .int .u32 s, .string b]] w fun x w' => x = .returned (.tuple #[.string ⟨#[]⟩, .bool false, Fr.val zpk, .bool false]) ∧ Below w.heap.size w w' := by
  have b1 : Below w.heap.size w (w.alloc (.cells #[.int .u8 k, .int .u8 f, .int .u8 t, .int .u32 e, .int .u32 s, .string b] 26)) := (Below.refl _ _).alloc (Nat.le_refl _) _
  have P1 := PkAt.new w ⟨k, f, t, e, s, b⟩
  have b2 : Below (w.alloc (.cells #[.int .u8 k, .int .u8 f, .int .u8 t, .int .u32 e, .int .u32 s, .string b] 26)).heap.size (w.alloc (.cells #[.int .u8 k, .int .u8 f, .int .u8 t, .int .u32 e, .int .u32 s, .string b] 26)) ((w.alloc (.cells #[.int .u8 k, .int .u8 f, .int .u8 t, .int .u32 e, .int .u32 s, .string b] 26)).alloc (.cells #[.int .u8 0, .int .u8 0, .int .u8 0, .int .u32 0, .int .u32 0, .string ⟨#[]⟩] 26)) := (Below.refl _ _).alloc (Nat.le_refl _) _
  have P2 : PkAt ((w.alloc (.cells #[.int .u8 k, .int .u8 f, .int .u8 t, .int .u32 e, .int .u32 s, .string b] 26)).alloc (.cells #[.int .u8 0, .int .u8 0, .int .u8 0, .int .u32 0, .int .u32 0, .string ⟨#[]⟩] 26)) (w.heap.size + 1) zpk := by
    have e0 : (w.alloc (.cells #[.int .u8 k, .int .u8 f, .int .u8 t, .int .u32 e, .int .u32 s, .string b] 26)).heap.size = w.heap.size + 1 := by simp
    rw [← e0]
    exact PkAt.new _ zpk
  have P0 : Hid (PkAt ((w.alloc (.cells #[.int .u8 k, .int .u8 f, .int .u8 t, .int .u32 e, .int .u32 s, .string b] 26)).alloc (.cells #[.int .u8 0, .int .u8 0, .int .u8 0, .int .u32 0, .int .u32 0, .string ⟨#[]⟩] 26)) w.heap.size ⟨k, f, t, e, s, b⟩) := hid (P1.later b2)
  have Q0 := hid P2
  have B0 : Hid (Below w.heap.size w ((w.alloc (.cells #[.int .u8 k, .int .u8 f, .int .u8 t, .int .u32 e, .int .u32 s, .string b] 26)).alloc (.cells #[.int .u8 0, .int .u8 0, .int .u8 0, .int .u32 0, .int .u32 0, .string ⟨#[]⟩] 26))) := hid (b1.trans (b2.mono b1.size))
  clear hp hs b1 P1 b2 P2
  go_enter Try.func9, Try.ntmps9
  go_wp2_with fail
  generalize ((w.alloc (.cells #[.int .u8 k, .int .u8 f, .int .u8 t, .int .u32 e, .int .u32 s, .string b] 26)).alloc (.cells #[.int .u8 0, .int .u8 0, .int .u8 0, .int .u32 0, .int .u32 0, .string ⟨#[]⟩] 26)) = W at *
  go_step3
  obtain ⟨a0, a1, a2, a3, a4, a5, _⟩ := P0.out.cells
  simp only at a0 a1 a2 a3 a4 a5
  obtain ⟨z0, z1, z2, z3, z4, z5, zf⟩ := Q0.out.cells
  have y0 := zf 0
  have y1 := zf 1
  have y2 := zf 2
  have y3 := zf 3
  have y4 := zf 4
  have y5 := zf 5
  have B2 := B0
  clear zf
  go_wp2
  try rw [Exit.noGoto_ret]
  refine bodyPost_ret (v := .tuple #[.string ⟨#[]⟩, .bool false, Fr.val zpk, .bool false]) (by simp [results, Try.results9, go_sem, Fr.val, zpk, z0, z1, z2, z3, z4, z5]) rfl ⟨rfl, ?_⟩
  exact (ou_newS (S := fun _ => False) B2.out (((((((Ou.refl (fun k => k = w.heap.size + 1) _).set rfl).set rfl).set rfl).set rfl).set rfl).set rfl) (fun k e => .inr (by omega))).below (Nat.le_refl _) (fun k e => e.elim)
set_option maxHeartbeats 4000000 in
theorem ktake_r (g : Nat) (k f t e s : Int) (b : ByteArray) (w : World) (hp : Fr.Wf ⟨k, f, t, e, s, b⟩) (hs : b.size ≤ maxLen) (hk : (k != 1) = false) (hr : Fr.rightB ⟨k, f, t, e, s, b⟩ = false) :
    Calls Try.prog 9 #[pC g, .agg #[.int .u8 k, .int .u8 f, .int .u8 t, .int .u32 e, .int .u32 s, .string b]] w fun x w' => x = .returned (.tuple #[.string ⟨#[]⟩, .bool false, Fr.val zpk, .bool false]) ∧ Below w.heap.size w w' := by
  have RC : Hid (∀ W, Calls Try.prog 23 #[.agg #[.int .u8 k, .int .u8 f, .int .u8 t, .int .u32 e, .int .u32 s, .string b]] W fun x w' => x = .returned (.bool false) ∧ Below W.heap.size W w') := fun W => by
    have := right_c ⟨k, f, t, e, s, b⟩ hp hs W
    rw [hr] at this
    exact this
  clear hr
  have b1 : Below w.heap.size w (w.alloc (.cells #[.int .u8 k, .int .u8 f, .int .u8 t, .int .u32 e, .int .u32 s, .string b] 26)) := (Below.refl _ _).alloc (Nat.le_refl _) _
  have P1 := PkAt.new w ⟨k, f, t, e, s, b⟩
  have b2 : Below (w.alloc (.cells #[.int .u8 k, .int .u8 f, .int .u8 t, .int .u32 e, .int .u32 s, .string b] 26)).heap.size (w.alloc (.cells #[.int .u8 k, .int .u8 f, .int .u8 t, .int .u32 e, .int .u32 s, .string b] 26)) ((w.alloc (.cells #[.int .u8 k, .int .u8 f, .int .u8 t, .int .u32 e, .int .u32 s, .string b] 26)).alloc (.cells #[.int .u8 0, .int .u8 0, .int .u8 0, .int .u32 0, .int .u32 0, .string ⟨#[]⟩] 26)) := (Below.refl _ _).alloc (Nat.le_refl _) _
  have P2 : PkAt ((w.alloc (.cells #[.int .u8 k, .int .u8 f, .int .u8 t, .int .u32 e, .int .u32 s, .string b] 26)).alloc (.cells #[.int .u8 0, .int .u8 0, .int .u8 0, .int .u32 0, .int .u32 0, .string ⟨#[]⟩] 26)) (w.heap.size + 1) zpk := by
    have e0 : (w.alloc (.cells #[.int .u8 k, .int .u8 f, .int .u8 t, .int .u32 e, .int .u32 s, .string b] 26)).heap.size = w.heap.size + 1 := by simp
    rw [← e0]
    exact PkAt.new _ zpk
  have P0 : Hid (PkAt ((w.alloc (.cells #[.int .u8 k, .int .u8 f, .int .u8 t, .int .u32 e, .int .u32 s, .string b] 26)).alloc (.cells #[.int .u8 0, .int .u8 0, .int .u8 0, .int .u32 0, .int .u32 0, .string ⟨#[]⟩] 26)) w.heap.size ⟨k, f, t, e, s, b⟩) := hid (P1.later b2)
  have Q0 := hid P2
  have B0 : Hid (Below w.heap.size w ((w.alloc (.cells #[.int .u8 k, .int .u8 f, .int .u8 t, .int .u32 e, .int .u32 s, .string b] 26)).alloc (.cells #[.int .u8 0, .int .u8 0, .int .u8 0, .int .u32 0, .int .u32 0, .string ⟨#[]⟩] 26))) := hid (b1.trans (b2.mono b1.size))
  clear hp hs b1 P1 b2 P2
  go_enter Try.func9, Try.ntmps9
  go_wp2_with fail
  generalize ((w.alloc (.cells #[.int .u8 k, .int .u8 f, .int .u8 t, .int .u32 e, .int .u32 s, .string b] 26)).alloc (.cells #[.int .u8 0, .int .u8 0, .int .u8 0, .int .u32 0, .int .u32 0, .string ⟨#[]⟩] 26)) = W at *
  go_step3
  obtain ⟨a0, a1, a2, a3, a4, a5, _⟩ := P0.out.cells
  simp only at a0 a1 a2 a3 a4 a5
  go_wp2_with (go_at_call 23; refine (RC.out _).mono ?_; rintro _ w2 ⟨rfl, hb2⟩; (have B2 := hid (B0.out.trans (hb2.mono B0.out.size))); (obtain ⟨z0, z1, z2, z3, z4, z5, zf⟩ := (Q0.out.later hb2).cells); (have y0 := zf 0); (have y1 := zf 1); (have y2 := zf 2); (have y3 := zf 3); (have y4 := zf 4); (have y5 := zf 5); clear zf)
  try rw [Exit.noGoto_ret]
  refine bodyPost_ret (v := .tuple #[.string ⟨#[]⟩, .bool false, Fr.val zpk, .bool false]) (by simp [results, Try.results9, go_sem, Fr.val, zpk, z0, z1, z2, z3, z4, z5]) rfl ⟨rfl, ?_⟩
  exact (ou_newS (S := fun _ => False) B2.out (((((((Ou.refl (fun k => k = w.heap.size + 1) _).set rfl).set rfl).set rfl).set rfl).set rfl).set rfl) (fun k e => .inr (by omega))).below (Nat.le_refl _) (fun k e => e.elim)
set_option maxHeartbeats 1000000 in
theorem ktake_nil (p : Fr.Pk) (w : World) : Calls Try.prog 9 #[.pointer none, Fr.val p] w fun x w' => x = .returned (.tuple #[.string ⟨#[]⟩, .bool false, Fr.val zpk, .bool false]) ∧ Below w.heap.size w w' := by
  unfold Fr.val
  go_enter Try.func9, Try.ntmps9
  go_wp2
  go_step3
  go_wp2
  try rw [Exit.noGoto_ret]
  refine bodyPost_ret (v := .tuple #[.string ⟨#[]⟩, .bool false, Fr.val zpk, .bool false]) (by simp [results, Try.results9, go_sem, Fr.val, zpk]) rfl ⟨rfl, ?_⟩
  exact ((Below.refl _ _).alloc (Nat.le_refl _) _).alloc (by simp) _
/-- Is what is asked newer than what was taken? -/
def newerB (t : Tk) (p : Fr.Pk) : Bool := decide (t.st = 0) || decide (orF (cmpF t.ep p.e) (cmpF t.num p.s) < 0)
def asksB (p : Fr.Pk) : Bool := p.k == 1 && Fr.rightB p
def ktOk (F : Nat → Tk) (p : Fr.Pk) : Bool := asksB p && newerB (F p.f.toNat) p
def ktIs (F : Nat → Tk) (p : Fr.Pk) : Bool := asksB p && !newerB (F p.f.toNat) p && decide ((F p.f.toNat).st = 2) && decide (orF (cmpF (F p.f.toNat).ep p.e) (cmpF (F p.f.toNat).num p.s) = 0)
def ktBody (F : Nat → Tk) (p : Fr.Pk) : ByteArray := if ktOk F p then p.b else ⟨#[]⟩
def ktPk (F : Nat → Tk) (p : Fr.Pk) : Fr.Pk := if ktIs F p then ⟨2, 0, p.f, (F p.f.toNat).ep, (F p.f.toNat).num, (F p.f.toNat).body⟩ else zpk
def ktS (F : Nat → Tk) (p : Fr.Pk) : Nat → Tk := if ktOk F p then updK F p.f.toNat ⟨1, p.e, p.s, ⟨#[]⟩⟩ else F
def KtPost (w : World) (g : Nat) (F : Nat → Tk) (p : Fr.Pk) (x : Ending) (w' : World) : Prop :=
  x = .returned (.tuple #[.string (ktBody F p), .bool (ktOk F p), Fr.val (ktPk F p), .bool (ktIs F p)]) ∧ IsK w' g (ktS F p) ∧ Ou (fun k => k = g) w w'
theorem kt_fresh {w w' : World} {g : Nat} {F : Nat → Tk} {p : Fr.Pk} {x : Ending} (h1 : asksB p = true) (h2 : newerB (F p.f.toNat) p = true) (h : x = .returned (.tuple #[.string p.b, .bool true, Fr.val zpk, .bool false]) ∧ IsK w' g (updK F p.f.toNat ⟨1, p.e, p.s, ⟨#[]⟩⟩) ∧ Ou (fun k => k = g) w w') : KtPost w g F p x w' := by
  have e1 : ktOk F p = true := by unfold ktOk; rw [h1, h2]; rfl
  have e2 : ktIs F p = false := by unfold ktIs; rw [h1, h2]; rfl
  unfold KtPost ktBody ktPk ktS
  rw [e1, e2]
  exact h
theorem kt_none {w w' : World} {g : Nat} {F : Nat → Tk} {p : Fr.Pk} {x : Ending} (hK : IsK w g F) (h1 : ktOk F p = false) (h2 : ktIs F p = false) (h : x = .returned (.tuple #[.string ⟨#[]⟩, .bool false, Fr.val zpk, .bool false]) ∧ Below w.heap.size w w') : KtPost w g F p x w' := by
  unfold KtPost ktBody ktPk ktS
  rw [h1, h2]
  exact ⟨h.1, hK.later h.2, Ou.of h.2⟩
theorem kt_again {w w' : World} {g : Nat} {F : Nat → Tk} {p : Fr.Pk} {x : Ending} (hK : IsK w g F) (h1 : ktOk F p = false) (h2 : ktIs F p = true) (h : x = .returned (.tuple #[.string ⟨#[]⟩, .bool false, Fr.val ⟨2, 0, p.f, (F p.f.toNat).ep, (F p.f.toNat).num, (F p.f.toNat).body⟩, .bool true]) ∧ Below w.heap.size w w') : KtPost w g F p x w' := by
  unfold KtPost ktBody ktPk ktS
  rw [h1, h2]
  exact ⟨h.1, hK.later h.2, Ou.of h.2⟩
theorem ktake_at1 {w : World} {g : Nat} {F : Nat → Tk} (h : IsK w g F) (hF : (F 1).Wf) (e s : Int) (b : ByteArray) (hp : Fr.Wf ⟨1, 1, 0, e, s, b⟩) (hs : b.size ≤ maxLen) (hr : Fr.rightB ⟨1, 1, 0, e, s, b⟩ = true) :
    Calls Try.prog 9 #[pC g, Fr.val ⟨1, 1, 0, e, s, b⟩] w (KtPost w g F ⟨1, 1, 0, e, s, b⟩) := by
  have ha : asksB ⟨1, 1, 0, e, s, b⟩ = true := by unfold asksB; rw [hr]; rfl
  have hst := hF.1
  have hst' : (F 1).st = 0 ∨ (F 1).st = 1 ∨ (F 1).st = 2 := by omega
  rcases hst' with h0 | h0 | h0
  · exact (ktake_1_z h e s b hp hs hr h0 _ rfl).mono fun x w' q => kt_fresh ha (by show newerB (F 1) _ = true; unfold newerB; rw [decide_eq_true h0]; rfl) q
  · by_cases hl : orF (cmpF (F 1).ep e) (cmpF (F 1).num s) < 0
    · exact (ktake_1_o h e s b hp hs hr h0 _ rfl hl).mono fun x w' q => kt_fresh ha (by show newerB (F 1) _ = true; unfold newerB; rw [decide_eq_true hl]; simp) q
    · have e1 : newerB (F 1) ⟨1, 1, 0, e, s, b⟩ = false := by unfold newerB; rw [decide_eq_false hl]; simp [h0]
      have e2 : ktOk F ⟨1, 1, 0, e, s, b⟩ = false := by show (_ && newerB (F 1) _) = false; rw [e1]; simp
      have e3 : ktIs F ⟨1, 1, 0, e, s, b⟩ = false := by show (_ && !newerB (F 1) _ && decide ((F 1).st = 2) && _) = false; rw [h0]; simp
      cases h1 : (orF (cmpF (F 1).ep e) (cmpF (F 1).num s) == 0) with
      | true => exact (ktake_1_q h e s b hp hs hr h0 _ rfl hl h1).mono fun x w' q => kt_none h e2 e3 q
      | false => exact (ktake_1_r h e s b hp hs hr h0 _ rfl hl h1).mono fun x w' q => kt_none h e2 e3 q
  · by_cases hl : orF (cmpF (F 1).ep e) (cmpF (F 1).num s) < 0
    · exact (ktake_1_p h e s b hp hs hr h0 _ rfl hl).mono fun x w' q => kt_fresh ha (by show newerB (F 1) _ = true; unfold newerB; rw [decide_eq_true hl]; simp) q
    · have e1 : newerB (F 1) ⟨1, 1, 0, e, s, b⟩ = false := by unfold newerB; rw [decide_eq_false hl]; simp [h0]
      have e2 : ktOk F ⟨1, 1, 0, e, s, b⟩ = false := by show (_ && newerB (F 1) _) = false; rw [e1]; simp
      cases h1 : (orF (cmpF (F 1).ep e) (cmpF (F 1).num s) == 0) with
      | true =>
        have e3 : ktIs F ⟨1, 1, 0, e, s, b⟩ = true := by show (asksB _ && !newerB (F 1) _ && decide ((F 1).st = 2) && decide (orF (cmpF (F 1).ep e) (cmpF (F 1).num s) = 0)) = true; rw [ha, e1, h0, decide_eq_true (beq_iff_eq.1 h1)]; rfl
        exact (ktake_1_s h e s b hp hs hr h0 _ rfl hl h1).mono fun x w' q => kt_again h e2 e3 q
      | false =>
        have e3 : ktIs F ⟨1, 1, 0, e, s, b⟩ = false := by show (asksB _ && !newerB (F 1) _ && decide ((F 1).st = 2) && decide (orF (cmpF (F 1).ep e) (cmpF (F 1).num s) = 0)) = false; rw [decide_eq_false (beq_eq_false_iff_ne.1 h1)]; simp
        exact (ktake_1_t h e s b hp hs hr h0 _ rfl hl h1).mono fun x w' q => kt_none h e2 e3 q
theorem ktake_at2 {w : World} {g : Nat} {F : Nat → Tk} (h : IsK w g F) (hF : (F 2).Wf) (e s : Int) (b : ByteArray) (hp : Fr.Wf ⟨1, 2, 0, e, s, b⟩) (hs : b.size ≤ maxLen) (hr : Fr.rightB ⟨1, 2, 0, e, s, b⟩ = true) :
    Calls Try.prog 9 #[pC g, Fr.val ⟨1, 2, 0, e, s, b⟩] w (KtPost w g F ⟨1, 2, 0, e, s, b⟩) := by
  have ha : asksB ⟨1, 2, 0, e, s, b⟩ = true := by unfold asksB; rw [hr]; rfl
  have hst := hF.1
  have hst' : (F 2).st = 0 ∨ (F 2).st = 1 ∨ (F 2).st = 2 := by omega
  rcases hst' with h0 | h0 | h0
  · exact (ktake_2_z h e s b hp hs hr h0 _ rfl).mono fun x w' q => kt_fresh ha (by show newerB (F 2) _ = true; unfold newerB; rw [decide_eq_true h0]; rfl) q
  · by_cases hl : orF (cmpF (F 2).ep e) (cmpF (F 2).num s) < 0
    · exact (ktake_2_o h e s b hp hs hr h0 _ rfl hl).mono fun x w' q => kt_fresh ha (by show newerB (F 2) _ = true; unfold newerB; rw [decide_eq_true hl]; simp) q
    · have e1 : newerB (F 2) ⟨1, 2, 0, e, s, b⟩ = false := by unfold newerB; rw [decide_eq_false hl]; simp [h0]
      have e2 : ktOk F ⟨1, 2, 0, e, s, b⟩ = false := by show (_ && newerB (F 2) _) = false; rw [e1]; simp
      have e3 : ktIs F ⟨1, 2, 0, e, s, b⟩ = false := by show (_ && !newerB (F 2) _ && decide ((F 2).st = 2) && _) = false; rw [h0]; simp
      cases h1 : (orF (cmpF (F 2).ep e) (cmpF (F 2).num s) == 0) with
      | true => exact (ktake_2_q h e s b hp hs hr h0 _ rfl hl h1).mono fun x w' q => kt_none h e2 e3 q
      | false => exact (ktake_2_r h e s b hp hs hr h0 _ rfl hl h1).mono fun x w' q => kt_none h e2 e3 q
  · by_cases hl : orF (cmpF (F 2).ep e) (cmpF (F 2).num s) < 0
    · exact (ktake_2_p h e s b hp hs hr h0 _ rfl hl).mono fun x w' q => kt_fresh ha (by show newerB (F 2) _ = true; unfold newerB; rw [decide_eq_true hl]; simp) q
    · have e1 : newerB (F 2) ⟨1, 2, 0, e, s, b⟩ = false := by unfold newerB; rw [decide_eq_false hl]; simp [h0]
      have e2 : ktOk F ⟨1, 2, 0, e, s, b⟩ = false := by show (_ && newerB (F 2) _) = false; rw [e1]; simp
      cases h1 : (orF (cmpF (F 2).ep e) (cmpF (F 2).num s) == 0) with
      | true =>
        have e3 : ktIs F ⟨1, 2, 0, e, s, b⟩ = true := by show (asksB _ && !newerB (F 2) _ && decide ((F 2).st = 2) && decide (orF (cmpF (F 2).ep e) (cmpF (F 2).num s) = 0)) = true; rw [ha, e1, h0, decide_eq_true (beq_iff_eq.1 h1)]; rfl
        exact (ktake_2_s h e s b hp hs hr h0 _ rfl hl h1).mono fun x w' q => kt_again h e2 e3 q
      | false =>
        have e3 : ktIs F ⟨1, 2, 0, e, s, b⟩ = false := by show (asksB _ && !newerB (F 2) _ && decide ((F 2).st = 2) && decide (orF (cmpF (F 2).ep e) (cmpF (F 2).num s) = 0)) = false; rw [decide_eq_false (beq_eq_false_iff_ne.1 h1)]; simp
        exact (ktake_2_t h e s b hp hs hr h0 _ rfl hl h1).mono fun x w' q => kt_none h e2 e3 q
theorem ktake_at3 {w : World} {g : Nat} {F : Nat → Tk} (h : IsK w g F) (hF : (F 3).Wf) (e s : Int) (b : ByteArray) (hp : Fr.Wf ⟨1, 3, 0, e, s, b⟩) (hs : b.size ≤ maxLen) (hr : Fr.rightB ⟨1, 3, 0, e, s, b⟩ = true) :
    Calls Try.prog 9 #[pC g, Fr.val ⟨1, 3, 0, e, s, b⟩] w (KtPost w g F ⟨1, 3, 0, e, s, b⟩) := by
  have ha : asksB ⟨1, 3, 0, e, s, b⟩ = true := by unfold asksB; rw [hr]; rfl
  have hst := hF.1
  have hst' : (F 3).st = 0 ∨ (F 3).st = 1 ∨ (F 3).st = 2 := by omega
  rcases hst' with h0 | h0 | h0
  · exact (ktake_3_z h e s b hp hs hr h0 _ rfl).mono fun x w' q => kt_fresh ha (by show newerB (F 3) _ = true; unfold newerB; rw [decide_eq_true h0]; rfl) q
  · by_cases hl : orF (cmpF (F 3).ep e) (cmpF (F 3).num s) < 0
    · exact (ktake_3_o h e s b hp hs hr h0 _ rfl hl).mono fun x w' q => kt_fresh ha (by show newerB (F 3) _ = true; unfold newerB; rw [decide_eq_true hl]; simp) q
    · have e1 : newerB (F 3) ⟨1, 3, 0, e, s, b⟩ = false := by unfold newerB; rw [decide_eq_false hl]; simp [h0]
      have e2 : ktOk F ⟨1, 3, 0, e, s, b⟩ = false := by show (_ && newerB (F 3) _) = false; rw [e1]; simp
      have e3 : ktIs F ⟨1, 3, 0, e, s, b⟩ = false := by show (_ && !newerB (F 3) _ && decide ((F 3).st = 2) && _) = false; rw [h0]; simp
      cases h1 : (orF (cmpF (F 3).ep e) (cmpF (F 3).num s) == 0) with
      | true => exact (ktake_3_q h e s b hp hs hr h0 _ rfl hl h1).mono fun x w' q => kt_none h e2 e3 q
      | false => exact (ktake_3_r h e s b hp hs hr h0 _ rfl hl h1).mono fun x w' q => kt_none h e2 e3 q
  · by_cases hl : orF (cmpF (F 3).ep e) (cmpF (F 3).num s) < 0
    · exact (ktake_3_p h e s b hp hs hr h0 _ rfl hl).mono fun x w' q => kt_fresh ha (by show newerB (F 3) _ = true; unfold newerB; rw [decide_eq_true hl]; simp) q
    · have e1 : newerB (F 3) ⟨1, 3, 0, e, s, b⟩ = false := by unfold newerB; rw [decide_eq_false hl]; simp [h0]
      have e2 : ktOk F ⟨1, 3, 0, e, s, b⟩ = false := by show (_ && newerB (F 3) _) = false; rw [e1]; simp
      cases h1 : (orF (cmpF (F 3).ep e) (cmpF (F 3).num s) == 0) with
      | true =>
        have e3 : ktIs F ⟨1, 3, 0, e, s, b⟩ = true := by show (asksB _ && !newerB (F 3) _ && decide ((F 3).st = 2) && decide (orF (cmpF (F 3).ep e) (cmpF (F 3).num s) = 0)) = true; rw [ha, e1, h0, decide_eq_true (beq_iff_eq.1 h1)]; rfl
        exact (ktake_3_s h e s b hp hs hr h0 _ rfl hl h1).mono fun x w' q => kt_again h e2 e3 q
      | false =>
        have e3 : ktIs F ⟨1, 3, 0, e, s, b⟩ = false := by show (asksB _ && !newerB (F 3) _ && decide ((F 3).st = 2) && decide (orF (cmpF (F 3).ep e) (cmpF (F 3).num s) = 0)) = false; rw [decide_eq_false (beq_eq_false_iff_ne.1 h1)]; simp
        exact (ktake_3_t h e s b hp hs hr h0 _ rfl hl h1).mono fun x w' q => kt_none h e2 e3 q
theorem ktake_c {w : World} {g : Nat} {F : Nat → Tk} (h : IsK w g F) (hF : ∀ i, (F i).Wf) (p : Fr.Pk) (hp : Fr.Wf p) (hs : p.b.size ≤ maxLen) :
    Calls Try.prog 9 #[pC g, Fr.val p] w (KtPost w g F p) := by
  obtain ⟨k, f, t, e, s, b⟩ := p
  by_cases hk : k = 1
  · subst hk
    cases hr : Fr.rightB ⟨1, f, t, e, s, b⟩ with
    | false =>
      have ha : asksB ⟨1, f, t, e, s, b⟩ = false := by unfold asksB; rw [hr]; simp
      exact (ktake_r g 1 f t e s b w hp hs rfl hr).mono fun x w' q => kt_none h (by unfold ktOk; rw [ha]; rfl) (by unfold ktIs; rw [ha]; rfl) q
    | true =>
      have hr' := hr
      unfold Fr.rightB at hr'
      simp at hr'
      obtain ⟨hp1, hp2, hp3, hp4, hp5⟩ := hp
      simp only at hp2
      have ht : t = 0 := by omega
      have hf : f = 1 ∨ f = 2 ∨ f = 3 := by omega
      subst ht
      rcases hf with rfl | rfl | rfl
      · exact ktake_at1 h (hF 1) e s b ⟨hp1, hp2, hp3, hp4, hp5⟩ hs hr
      · exact ktake_at2 h (hF 2) e s b ⟨hp1, hp2, hp3, hp4, hp5⟩ hs hr
      · exact ktake_at3 h (hF 3) e s b ⟨hp1, hp2, hp3, hp4, hp5⟩ hs hr
  · have hb : (k != 1) = true := by rw [bne_iff_ne]; exact hk
    have ha : asksB ⟨k, f, t, e, s, b⟩ = false := by unfold asksB; simp [hk]
    exact (ktake_k g k f t e s b w hp hs hb).mono fun x w' q => kt_none h (by unfold ktOk; rw [ha]; rfl) (by unfold ktIs; rw [ha]; rfl) q
end Go.Proofs.Ytmoeljieafninaa
