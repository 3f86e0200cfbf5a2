/-
  The document's callee: Take of client 1, a way at a time.
-/
import Derived.Test.YtmoeljieafninaaRRk
namespace Go.Proofs.Ytmoeljieafninaa
open Go.RowKit Go.ChangeShapes Go.WideShapes Go.ChangeAt
set_option linter.unusedVariables false
set_option linter.unusedSimpArgs false
set_option maxRecDepth 100000
set_option maxHeartbeats 4000000 in
theorem rkt_1_z {w : World} {g : Nat} {F : Nat → Tk} (h : IsRK w g F) (e s : Int) (b : ByteArray) (hp : Fr.Wf ⟨1, 1, 0, e, s, b⟩) (hs : b.size ≤ maxLen) (hr : Fr.rightB ⟨1, 1, 0, e, s, b⟩ = true) (hst : (F 1).st = 0) :
    Calls Try.prog 10 #[pC g, .agg #[.int .u8 1, .int .u8 1, .int .u8 0, .int .u32 e, .int .u32 s, .string b]] w fun x w' => x = .returned (.tuple #[.string b, .bool true, Fr.val zpk, .bool false]) ∧ IsRK w' g (updK F 1 ⟨1, e, s, ⟨#[]⟩⟩) ∧ Ou (fun k => k = g) w w' := by
  have RC : Hid (∀ W, Calls Try.prog 26 #[.agg #[.int .u8 1, .int .u8 1, .int .u8 0, .int .u32 e, .int .u32 s, .string b]] W fun x w' => x = .returned (.bool true) ∧ Below W.heap.size W w') := fun W => by
    have := rright_c ⟨1, 1, 0, e, s, b⟩ hp hs W
    rw [hr] at this
    exact this
  have AC : Hid (∀ W, IsRK W g F → Calls Try.prog 27 #[pC g, .int .u8 1] W fun x w' => x = .returned (Fr.val ⟨2, 0, 1, (F 1).ep, (F 1).num, (F 1).body⟩) ∧ Below W.heap.size W w') := fun W hW => ranswer_1 hW
  have hlt := h.lt
  have b1 : Below w.heap.size w (w.alloc (.cells #[.int .u8 1, .int .u8 1, .int .u8 0, .int .u32 e, .int .u32 s, .string b] 26)) := (Below.refl _ _).alloc (Nat.le_refl _) _
  have P1 := PkAt.new w ⟨1, 1, 0, e, s, b⟩
  have b2 : Below (w.alloc (.cells #[.int .u8 1, .int .u8 1, .int .u8 0, .int .u32 e, .int .u32 s, .string b] 26)).heap.size (w.alloc (.cells #[.int .u8 1, .int .u8 1, .int .u8 0, .int .u32 e, .int .u32 s, .string b] 26)) ((w.alloc (.cells #[.int .u8 1, .int .u8 1, .int .u8 0, .int .u32 e, .int .u32 s, .string b] 26)).alloc (.cells #[.int .u8 0, .int .u8 0, .int .u8 0, .int .u32 0, .int .u32 0, .string ⟨#[]⟩] 26)) := (Below.refl _ _).alloc (Nat.le_refl _) _
  have P2 : PkAt ((w.alloc (.cells #[.int .u8 1, .int .u8 1, .int .u8 0, .int .u32 e, .int .u32 s, .string b] 26)).alloc (.cells #[.int .u8 0, .int .u8 0, .int .u8 0, .int .u32 0, .int .u32 0, .string ⟨#[]⟩] 26)) (w.heap.size + 1) zpk := by
    have e0 : (w.alloc (.cells #[.int .u8 1, .int .u8 1, .int .u8 0, .int .u32 e, .int .u32 s, .string b] 26)).heap.size = w.heap.size + 1 := by simp
    rw [← e0]
    exact PkAt.new _ zpk
  have K0 := hid ((h.later b1).later b2)
  have P0 : Hid (PkAt ((w.alloc (.cells #[.int .u8 1, .int .u8 1, .int .u8 0, .int .u32 e, .int .u32 s, .string b] 26)).alloc (.cells #[.int .u8 0, .int .u8 0, .int .u8 0, .int .u32 0, .int .u32 0, .string ⟨#[]⟩] 26)) w.heap.size ⟨1, 1, 0, e, s, b⟩) := hid (P1.later b2)
  have Q0 := hid P2
  have B0 : Hid (Below w.heap.size w ((w.alloc (.cells #[.int .u8 1, .int .u8 1, .int .u8 0, .int .u32 e, .int .u32 s, .string b] 26)).alloc (.cells #[.int .u8 0, .int .u8 0, .int .u8 0, .int .u32 0, .int .u32 0, .string ⟨#[]⟩] 26))) := hid (b1.trans (b2.mono b1.size))
  have hne1 : ¬ g = w.heap.size := by omega
  have hne2 : ¬ g = w.heap.size + 1 := by omega
  have hne3 : ¬ w.heap.size = g := by omega
  have hne4 : ¬ w.heap.size + 1 = g := by omega
  have HST : Hid ((F 1).st = 0) := hst
  clear h hp hs hr b1 P1 b2 P2
  go_enter Try.func10, Try.ntmps10
  go_upto_region 1 with fail
  generalize ((w.alloc (.cells #[.int .u8 1, .int .u8 1, .int .u8 0, .int .u32 e, .int .u32 s, .string b] 26)).alloc (.cells #[.int .u8 0, .int .u8 0, .int .u8 0, .int .u32 0, .int .u32 0, .string ⟨#[]⟩] 26)) = W at *
  obtain ⟨a0, a1, a2, a3, a4, a5, _⟩ := P0.out.cells
  simp only at a0 a1 a2 a3 a4 a5
  go_wp2_with (go_at_call 26; refine (RC.out _).mono ?_; rintro _ w2 ⟨rfl, hb2⟩; (have K2 := hid (K0.out.later hb2)); (have P2 := hid (P0.out.later hb2)); (have Q2 := hid (Q0.out.later hb2)); (have B2 := hid (B0.out.trans (hb2.mono B0.out.size))); clear K0 P0 Q0 B0 hb2 a0 a1 a2 a3 a4 a5; (obtain ⟨a0, a1, a2, a3, a4, a5, _⟩ := P2.out.cells); simp only at a0 a1 a2 a3 a4 a5)
  obtain ⟨c0, c1, c2, c3⟩ := K2.out.at1
  have l1 : w.heap.size < w2.heap.size := P2.out.lt
  have l2 : w.heap.size + 1 < w2.heap.size := Q2.out.lt
  have l3 : g < w2.heap.size := K2.out.lt
  have m1 : ¬ w.heap.size = w2.heap.size := by omega
  have m2 : ¬ w.heap.size + 1 = w2.heap.size := by omega
  have m3 : ¬ g = w2.heap.size := by omega
  rw [HST.out] at c0
  go_region
  have b3 : Below w2.heap.size w2 (w2.alloc (.cells #[.int .i64 0, .int .u32 (F 1).ep, .int .u32 (F 1).num, .string (F 1).body] 66)).drew := bel_drew ((Below.refl _ _).alloc (Nat.le_refl _) _)
  have t3 : (w2.alloc (.cells #[.int .i64 0, .int .u32 (F 1).ep, .int .u32 (F 1).num, .string (F 1).body] 66)).drew.heap[w2.heap.size]? = some (.cells #[.int .i64 0, .int .u32 (F 1).ep, .int .u32 (F 1).num, .string (F 1).body] 66 (0, 0)) := heap_alloc_new w2 _
  have K3 := hid (K2.out.later b3)
  have P3 := hid (P2.out.later b3)
  have Q3 := hid (Q2.out.later b3)
  have B3 := hid (B2.out.trans (b3.mono B2.out.size))
  clear a0 a1 a2 a3 a4 a5 c0 c1 c2 c3 b3 K2 P2 Q2 B2
  generalize (w2.alloc (.cells #[.int .i64 0, .int .u32 (F 1).ep, .int .u32 (F 1).num, .string (F 1).body] 66)).drew = w3 at *
  obtain ⟨d0, d1, d2, d3, d4, d5, _⟩ := P3.out.cells
  simp only at d0 d1 d2 d3 d4 d5
  obtain ⟨z0, z1, z2, z3, z4, z5, zf⟩ := Q3.out.cells
  have y0 := zf 0
  have y1 := zf 1
  have y2 := zf 2
  have y3 := zf 3
  have y4 := zf 4
  have y5 := zf 5
  have f0 := K3.out.fz 4
  have f1 := K3.out.fz 5
  have f2 := K3.out.fz 6
  have f3 := K3.out.fz 7
  obtain ⟨c0, c1, c2, c3⟩ := K3.out.at1
  have v0 : w3.cell? ⟨w2.heap.size, 0, none⟩ = some (.int .i64 0) := by simp [World.cell?, t3]
  have v1 : w3.cell? ⟨w2.heap.size, 1, none⟩ = some (.int .u32 (F 1).ep) := by simp [World.cell?, t3]
  have v2 : w3.cell? ⟨w2.heap.size, 2, none⟩ = some (.int .u32 (F 1).num) := by simp [World.cell?, t3]
  have m4 : ¬ w2.heap.size = g := by omega
  clear zf t3
  go_wp2_with fail
  go_region
  go_wp2
  refine bodyPost_ret (v := .tuple #[.string b, .bool true, Fr.val zpk, .bool false]) (by simp [results, Try.results10, go_sem, Fr.val, zpk, z0, z1, z2, z3, z4, z5, hne1, hne2, hne3, hne4]) rfl ⟨rfl, ?_, ?_⟩
  · exact IsRK.out (S := fun k => k = w.heap.size + 1) (f := updK F 1 ⟨1, e, s, ⟨#[]⟩⟩) (row_set 7 _ (row_set 6 _ (row_set 5 _ (row_set 4 _ K3.out)))) ((((((((Ou.refl (fun k => k = w.heap.size + 1) _).set rfl).set rfl).set rfl).set rfl).set rfl).set rfl).drew) hne2
  · exact ou_newS B3.out ((((((((((((Ou.refl (fun k => k = g ∨ k = w.heap.size + 1) _).set (.inl rfl)).set (.inl rfl)).set (.inl rfl)).set (.inl rfl)).set (.inr rfl)).set (.inr rfl)).set (.inr rfl)).set (.inr rfl)).set (.inr rfl)).set (.inr rfl)).drew) (fun k e => e.elim .inl fun e => .inr (by omega))
set_option maxHeartbeats 4000000 in
theorem rkt_1_a1 {w : World} {g : Nat} {F : Nat → Tk} (h : IsRK w g F) (e s : Int) (b : ByteArray) (hp : Fr.Wf ⟨1, 1, 0, e, s, b⟩) (hs : b.size ≤ maxLen) (hr : Fr.rightB ⟨1, 1, 0, e, s, b⟩ = true) (hst : (F 1).st = 1) (hd : (F 1).ep < e) :
    Calls Try.prog 10 #[pC g, .agg #[.int .u8 1, .int .u8 1, .int .u8 0, .int .u32 e, .int .u32 s, .string b]] w fun x w' => x = .returned (.tuple #[.string b, .bool true, Fr.val zpk, .bool false]) ∧ IsRK w' g (updK F 1 ⟨1, e, s, ⟨#[]⟩⟩) ∧ Ou (fun k => k = g) w w' := by
  have RC : Hid (∀ W, Calls Try.prog 26 #[.agg #[.int .u8 1, .int .u8 1, .int .u8 0, .int .u32 e, .int .u32 s, .string b]] W fun x w' => x = .returned (.bool true) ∧ Below W.heap.size W w') := fun W => by
    have := rright_c ⟨1, 1, 0, e, s, b⟩ hp hs W
    rw [hr] at this
    exact this
  have AC : Hid (∀ W, IsRK W g F → Calls Try.prog 27 #[pC g, .int .u8 1] W fun x w' => x = .returned (Fr.val ⟨2, 0, 1, (F 1).ep, (F 1).num, (F 1).body⟩) ∧ Below W.heap.size W w') := fun W hW => ranswer_1 hW
  have hlt := h.lt
  have b1 : Below w.heap.size w (w.alloc (.cells #[.int .u8 1, .int .u8 1, .int .u8 0, .int .u32 e, .int .u32 s, .string b] 26)) := (Below.refl _ _).alloc (Nat.le_refl _) _
  have P1 := PkAt.new w ⟨1, 1, 0, e, s, b⟩
  have b2 : Below (w.alloc (.cells #[.int .u8 1, .int .u8 1, .int .u8 0, .int .u32 e, .int .u32 s, .string b] 26)).heap.size (w.alloc (.cells #[.int .u8 1, .int .u8 1, .int .u8 0, .int .u32 e, .int .u32 s, .string b] 26)) ((w.alloc (.cells #[.int .u8 1, .int .u8 1, .int .u8 0, .int .u32 e, .int .u32 s, .string b] 26)).alloc (.cells #[.int .u8 0, .int .u8 0, .int .u8 0, .int .u32 0, .int .u32 0, .string ⟨#[]⟩] 26)) := (Below.refl _ _).alloc (Nat.le_refl _) _
  have P2 : PkAt ((w.alloc (.cells #[.int .u8 1, .int .u8 1, .int .u8 0, .int .u32 e, .int .u32 s, .string b] 26)).alloc (.cells #[.int .u8 0, .int .u8 0, .int .u8 0, .int .u32 0, .int .u32 0, .string ⟨#[]⟩] 26)) (w.heap.size + 1) zpk := by
    have e0 : (w.alloc (.cells #[.int .u8 1, .int .u8 1, .int .u8 0, .int .u32 e, .int .u32 s, .string b] 26)).heap.size = w.heap.size + 1 := by simp
    rw [← e0]
    exact PkAt.new _ zpk
  have K0 := hid ((h.later b1).later b2)
  have P0 : Hid (PkAt ((w.alloc (.cells #[.int .u8 1, .int .u8 1, .int .u8 0, .int .u32 e, .int .u32 s, .string b] 26)).alloc (.cells #[.int .u8 0, .int .u8 0, .int .u8 0, .int .u32 0, .int .u32 0, .string ⟨#[]⟩] 26)) w.heap.size ⟨1, 1, 0, e, s, b⟩) := hid (P1.later b2)
  have Q0 := hid P2
  have B0 : Hid (Below w.heap.size w ((w.alloc (.cells #[.int .u8 1, .int .u8 1, .int .u8 0, .int .u32 e, .int .u32 s, .string b] 26)).alloc (.cells #[.int .u8 0, .int .u8 0, .int .u8 0, .int .u32 0, .int .u32 0, .string ⟨#[]⟩] 26))) := hid (b1.trans (b2.mono b1.size))
  have hne1 : ¬ g = w.heap.size := by omega
  have hne2 : ¬ g = w.heap.size + 1 := by omega
  have hne3 : ¬ w.heap.size = g := by omega
  have hne4 : ¬ w.heap.size + 1 = g := by omega
  have HST : Hid ((F 1).st = 1) := hst
  clear h hp hs hr b1 P1 b2 P2
  go_enter Try.func10, Try.ntmps10
  go_upto_region 1 with fail
  generalize ((w.alloc (.cells #[.int .u8 1, .int .u8 1, .int .u8 0, .int .u32 e, .int .u32 s, .string b] 26)).alloc (.cells #[.int .u8 0, .int .u8 0, .int .u8 0, .int .u32 0, .int .u32 0, .string ⟨#[]⟩] 26)) = W at *
  obtain ⟨a0, a1, a2, a3, a4, a5, _⟩ := P0.out.cells
  simp only at a0 a1 a2 a3 a4 a5
  go_wp2_with (go_at_call 26; refine (RC.out _).mono ?_; rintro _ w2 ⟨rfl, hb2⟩; (have K2 := hid (K0.out.later hb2)); (have P2 := hid (P0.out.later hb2)); (have Q2 := hid (Q0.out.later hb2)); (have B2 := hid (B0.out.trans (hb2.mono B0.out.size))); clear K0 P0 Q0 B0 hb2 a0 a1 a2 a3 a4 a5; (obtain ⟨a0, a1, a2, a3, a4, a5, _⟩ := P2.out.cells); simp only at a0 a1 a2 a3 a4 a5)
  obtain ⟨c0, c1, c2, c3⟩ := K2.out.at1
  have l1 : w.heap.size < w2.heap.size := P2.out.lt
  have l2 : w.heap.size + 1 < w2.heap.size := Q2.out.lt
  have l3 : g < w2.heap.size := K2.out.lt
  have m1 : ¬ w.heap.size = w2.heap.size := by omega
  have m2 : ¬ w.heap.size + 1 = w2.heap.size := by omega
  have m3 : ¬ g = w2.heap.size := by omega
  rw [HST.out] at c0
  go_region
  have b3 : Below w2.heap.size w2 (w2.alloc (.cells #[.int .i64 1, .int .u32 (F 1).ep, .int .u32 (F 1).num, .string (F 1).body] 66)).drew := bel_drew ((Below.refl _ _).alloc (Nat.le_refl _) _)
  have t3 : (w2.alloc (.cells #[.int .i64 1, .int .u32 (F 1).ep, .int .u32 (F 1).num, .string (F 1).body] 66)).drew.heap[w2.heap.size]? = some (.cells #[.int .i64 1, .int .u32 (F 1).ep, .int .u32 (F 1).num, .string (F 1).body] 66 (0, 0)) := heap_alloc_new w2 _
  have K3 := hid (K2.out.later b3)
  have P3 := hid (P2.out.later b3)
  have Q3 := hid (Q2.out.later b3)
  have B3 := hid (B2.out.trans (b3.mono B2.out.size))
  clear a0 a1 a2 a3 a4 a5 c0 c1 c2 c3 b3 K2 P2 Q2 B2
  generalize (w2.alloc (.cells #[.int .i64 1, .int .u32 (F 1).ep, .int .u32 (F 1).num, .string (F 1).body] 66)).drew = w3 at *
  obtain ⟨d0, d1, d2, d3, d4, d5, _⟩ := P3.out.cells
  simp only at d0 d1 d2 d3 d4 d5
  obtain ⟨z0, z1, z2, z3, z4, z5, zf⟩ := Q3.out.cells
  have y0 := zf 0
  have y1 := zf 1
  have y2 := zf 2
  have y3 := zf 3
  have y4 := zf 4
  have y5 := zf 5
  have f0 := K3.out.fz 4
  have f1 := K3.out.fz 5
  have f2 := K3.out.fz 6
  have f3 := K3.out.fz 7
  obtain ⟨c0, c1, c2, c3⟩ := K3.out.at1
  have v0 : w3.cell? ⟨w2.heap.size, 0, none⟩ = some (.int .i64 1) := by simp [World.cell?, t3]
  have v1 : w3.cell? ⟨w2.heap.size, 1, none⟩ = some (.int .u32 (F 1).ep) := by simp [World.cell?, t3]
  have v2 : w3.cell? ⟨w2.heap.size, 2, none⟩ = some (.int .u32 (F 1).num) := by simp [World.cell?, t3]
  have m4 : ¬ w2.heap.size = g := by omega
  clear zf t3
  go_wp2_with fail
  go_region
  go_wp2
  refine bodyPost_ret (v := .tuple #[.string b, .bool true, Fr.val zpk, .bool false]) (by simp [results, Try.results10, go_sem, Fr.val, zpk, z0, z1, z2, z3, z4, z5, hne1, hne2, hne3, hne4]) rfl ⟨rfl, ?_, ?_⟩
  · exact IsRK.out (S := fun k => k = w.heap.size + 1) (f := updK F 1 ⟨1, e, s, ⟨#[]⟩⟩) (row_set 7 _ (row_set 6 _ (row_set 5 _ (row_set 4 _ K3.out)))) ((((((((Ou.refl (fun k => k = w.heap.size + 1) _).set rfl).set rfl).set rfl).set rfl).set rfl).set rfl).drew) hne2
  · exact ou_newS B3.out ((((((((((((Ou.refl (fun k => k = g ∨ k = w.heap.size + 1) _).set (.inl rfl)).set (.inl rfl)).set (.inl rfl)).set (.inl rfl)).set (.inr rfl)).set (.inr rfl)).set (.inr rfl)).set (.inr rfl)).set (.inr rfl)).set (.inr rfl)).drew) (fun k e => e.elim .inl fun e => .inr (by omega))
set_option maxHeartbeats 4000000 in
theorem rkt_1_b1 {w : World} {g : Nat} {F : Nat → Tk} (h : IsRK w g F) (e s : Int) (b : ByteArray) (hp : Fr.Wf ⟨1, 1, 0, e, s, b⟩) (hs : b.size ≤ maxLen) (hr : Fr.rightB ⟨1, 1, 0, e, s, b⟩ = true) (hst : (F 1).st = 1) (hd : ¬ (F 1).ep < e) (he : (e == (F 1).ep) = true) (hx : (F 1).num < s) :
    Calls Try.prog 10 #[pC g, .agg #[.int .u8 1, .int .u8 1, .int .u8 0, .int .u32 e, .int .u32 s, .string b]] w fun x w' => x = .returned (.tuple #[.string b, .bool true, Fr.val zpk, .bool false]) ∧ IsRK w' g (updK F 1 ⟨1, e, s, ⟨#[]⟩⟩) ∧ Ou (fun k => k = g) w w' := by
  have RC : Hid (∀ W, Calls Try.prog 26 #[.agg #[.int .u8 1, .int .u8 1, .int .u8 0, .int .u32 e, .int .u32 s, .string b]] W fun x w' => x = .returned (.bool true) ∧ Below W.heap.size W w') := fun W => by
    have := rright_c ⟨1, 1, 0, e, s, b⟩ hp hs W
    rw [hr] at this
    exact this
  have AC : Hid (∀ W, IsRK W g F → Calls Try.prog 27 #[pC g, .int .u8 1] W fun x w' => x = .returned (Fr.val ⟨2, 0, 1, (F 1).ep, (F 1).num, (F 1).body⟩) ∧ Below W.heap.size W w') := fun W hW => ranswer_1 hW
  have hlt := h.lt
  have b1 : Below w.heap.size w (w.alloc (.cells #[.int .u8 1, .int .u8 1, .int .u8 0, .int .u32 e, .int .u32 s, .string b] 26)) := (Below.refl _ _).alloc (Nat.le_refl _) _
  have P1 := PkAt.new w ⟨1, 1, 0, e, s, b⟩
  have b2 : Below (w.alloc (.cells #[.int .u8 1, .int .u8 1, .int .u8 0, .int .u32 e, .int .u32 s, .string b] 26)).heap.size (w.alloc (.cells #[.int .u8 1, .int .u8 1, .int .u8 0, .int .u32 e, .int .u32 s, .string b] 26)) ((w.alloc (.cells #[.int .u8 1, .int .u8 1, .int .u8 0, .int .u32 e, .int .u32 s, .string b] 26)).alloc (.cells #[.int .u8 0, .int .u8 0, .int .u8 0, .int .u32 0, .int .u32 0, .string ⟨#[]⟩] 26)) := (Below.refl _ _).alloc (Nat.le_refl _) _
  have P2 : PkAt ((w.alloc (.cells #[.int .u8 1, .int .u8 1, .int .u8 0, .int .u32 e, .int .u32 s, .string b] 26)).alloc (.cells #[.int .u8 0, .int .u8 0, .int .u8 0, .int .u32 0, .int .u32 0, .string ⟨#[]⟩] 26)) (w.heap.size + 1) zpk := by
    have e0 : (w.alloc (.cells #[.int .u8 1, .int .u8 1, .int .u8 0, .int .u32 e, .int .u32 s, .string b] 26)).heap.size = w.heap.size + 1 := by simp
    rw [← e0]
    exact PkAt.new _ zpk
  have K0 := hid ((h.later b1).later b2)
  have P0 : Hid (PkAt ((w.alloc (.cells #[.int .u8 1, .int .u8 1, .int .u8 0, .int .u32 e, .int .u32 s, .string b] 26)).alloc (.cells #[.int .u8 0, .int .u8 0, .int .u8 0, .int .u32 0, .int .u32 0, .string ⟨#[]⟩] 26)) w.heap.size ⟨1, 1, 0, e, s, b⟩) := hid (P1.later b2)
  have Q0 := hid P2
  have B0 : Hid (Below w.heap.size w ((w.alloc (.cells #[.int .u8 1, .int .u8 1, .int .u8 0, .int .u32 e, .int .u32 s, .string b] 26)).alloc (.cells #[.int .u8 0, .int .u8 0, .int .u8 0, .int .u32 0, .int .u32 0, .string ⟨#[]⟩] 26))) := hid (b1.trans (b2.mono b1.size))
  have hne1 : ¬ g = w.heap.size := by omega
  have hne2 : ¬ g = w.heap.size + 1 := by omega
  have hne3 : ¬ w.heap.size = g := by omega
  have hne4 : ¬ w.heap.size + 1 = g := by omega
  have HST : Hid ((F 1).st = 1) := hst
  have hdd : decide ((F 1).ep < e) = false := decide_eq_false hd
  clear h hp hs hr b1 P1 b2 P2
  go_enter Try.func10, Try.ntmps10
  go_upto_region 1 with fail
  generalize ((w.alloc (.cells #[.int .u8 1, .int .u8 1, .int .u8 0, .int .u32 e, .int .u32 s, .string b] 26)).alloc (.cells #[.int .u8 0, .int .u8 0, .int .u8 0, .int .u32 0, .int .u32 0, .string ⟨#[]⟩] 26)) = W at *
  obtain ⟨a0, a1, a2, a3, a4, a5, _⟩ := P0.out.cells
  simp only at a0 a1 a2 a3 a4 a5
  go_wp2_with (go_at_call 26; refine (RC.out _).mono ?_; rintro _ w2 ⟨rfl, hb2⟩; (have K2 := hid (K0.out.later hb2)); (have P2 := hid (P0.out.later hb2)); (have Q2 := hid (Q0.out.later hb2)); (have B2 := hid (B0.out.trans (hb2.mono B0.out.size))); clear K0 P0 Q0 B0 hb2 a0 a1 a2 a3 a4 a5; (obtain ⟨a0, a1, a2, a3, a4, a5, _⟩ := P2.out.cells); simp only at a0 a1 a2 a3 a4 a5)
  obtain ⟨c0, c1, c2, c3⟩ := K2.out.at1
  have l1 : w.heap.size < w2.heap.size := P2.out.lt
  have l2 : w.heap.size + 1 < w2.heap.size := Q2.out.lt
  have l3 : g < w2.heap.size := K2.out.lt
  have m1 : ¬ w.heap.size = w2.heap.size := by omega
  have m2 : ¬ w.heap.size + 1 = w2.heap.size := by omega
  have m3 : ¬ g = w2.heap.size := by omega
  rw [HST.out] at c0
  go_region
  have b3 : Below w2.heap.size w2 (w2.alloc (.cells #[.int .i64 1, .int .u32 (F 1).ep, .int .u32 (F 1).num, .string (F 1).body] 66)).drew := bel_drew ((Below.refl _ _).alloc (Nat.le_refl _) _)
  have t3 : (w2.alloc (.cells #[.int .i64 1, .int .u32 (F 1).ep, .int .u32 (F 1).num, .string (F 1).body] 66)).drew.heap[w2.heap.size]? = some (.cells #[.int .i64 1, .int .u32 (F 1).ep, .int .u32 (F 1).num, .string (F 1).body] 66 (0, 0)) := heap_alloc_new w2 _
  have K3 := hid (K2.out.later b3)
  have P3 := hid (P2.out.later b3)
  have Q3 := hid (Q2.out.later b3)
  have B3 := hid (B2.out.trans (b3.mono B2.out.size))
  clear a0 a1 a2 a3 a4 a5 c0 c1 c2 c3 b3 K2 P2 Q2 B2
  generalize (w2.alloc (.cells #[.int .i64 1, .int .u32 (F 1).ep, .int .u32 (F 1).num, .string (F 1).body] 66)).drew = w3 at *
  obtain ⟨d0, d1, d2, d3, d4, d5, _⟩ := P3.out.cells
  simp only at d0 d1 d2 d3 d4 d5
  obtain ⟨z0, z1, z2, z3, z4, z5, zf⟩ := Q3.out.cells
  have y0 := zf 0
  have y1 := zf 1
  have y2 := zf 2
  have y3 := zf 3
  have y4 := zf 4
  have y5 := zf 5
  have f0 := K3.out.fz 4
  have f1 := K3.out.fz 5
  have f2 := K3.out.fz 6
  have f3 := K3.out.fz 7
  obtain ⟨c0, c1, c2, c3⟩ := K3.out.at1
  have v0 : w3.cell? ⟨w2.heap.size, 0, none⟩ = some (.int .i64 1) := by simp [World.cell?, t3]
  have v1 : w3.cell? ⟨w2.heap.size, 1, none⟩ = some (.int .u32 (F 1).ep) := by simp [World.cell?, t3]
  have v2 : w3.cell? ⟨w2.heap.size, 2, none⟩ = some (.int .u32 (F 1).num) := by simp [World.cell?, t3]
  have m4 : ¬ w2.heap.size = g := by omega
  clear zf t3
  go_wp2_with fail
  go_region
  go_wp2
  refine bodyPost_ret (v := .tuple #[.string b, .bool true, Fr.val zpk, .bool false]) (by simp [results, Try.results10, go_sem, Fr.val, zpk, z0, z1, z2, z3, z4, z5, hne1, hne2, hne3, hne4]) rfl ⟨rfl, ?_, ?_⟩
  · exact IsRK.out (S := fun k => k = w.heap.size + 1) (f := updK F 1 ⟨1, e, s, ⟨#[]⟩⟩) (row_set 7 _ (row_set 6 _ (row_set 5 _ (row_set 4 _ K3.out)))) ((((((((Ou.refl (fun k => k = w.heap.size + 1) _).set rfl).set rfl).set rfl).set rfl).set rfl).set rfl).drew) hne2
  · exact ou_newS B3.out ((((((((((((Ou.refl (fun k => k = g ∨ k = w.heap.size + 1) _).set (.inl rfl)).set (.inl rfl)).set (.inl rfl)).set (.inl rfl)).set (.inr rfl)).set (.inr rfl)).set (.inr rfl)).set (.inr rfl)).set (.inr rfl)).set (.inr rfl)).drew) (fun k e => e.elim .inl fun e => .inr (by omega))
set_option maxHeartbeats 4000000 in
theorem rkt_1_c1 {w : World} {g : Nat} {F : Nat → Tk} (h : IsRK w g F) (e s : Int) (b : ByteArray) (hp : Fr.Wf ⟨1, 1, 0, e, s, b⟩) (hs : b.size ≤ maxLen) (hr : Fr.rightB ⟨1, 1, 0, e, s, b⟩ = true) (hst : (F 1).st = 1) (hd : ¬ (F 1).ep < e) (he : (e == (F 1).ep) = false) :
    Calls Try.prog 10 #[pC g, .agg #[.int .u8 1, .int .u8 1, .int .u8 0, .int .u32 e, .int .u32 s, .string b]] w fun x w' => x = .returned (.tuple #[.string ⟨#[]⟩, .bool false, Fr.val zpk, .bool false]) ∧ Below w.heap.size w w' := by
  have RC : Hid (∀ W, Calls Try.prog 26 #[.agg #[.int .u8 1, .int .u8 1, .int .u8 0, .int .u32 e, .int .u32 s, .string b]] W fun x w' => x = .returned (.bool true) ∧ Below W.heap.size W w') := fun W => by
    have := rright_c ⟨1, 1, 0, e, s, b⟩ hp hs W
    rw [hr] at this
    exact this
  have AC : Hid (∀ W, IsRK W g F → Calls Try.prog 27 #[pC g, .int .u8 1] W fun x w' => x = .returned (Fr.val ⟨2, 0, 1, (F 1).ep, (F 1).num, (F 1).body⟩) ∧ Below W.heap.size W w') := fun W hW => ranswer_1 hW
  have hlt := h.lt
  have b1 : Below w.heap.size w (w.alloc (.cells #[.int .u8 1, .int .u8 1, .int .u8 0, .int .u32 e, .int .u32 s, .string b] 26)) := (Below.refl _ _).alloc (Nat.le_refl _) _
  have P1 := PkAt.new w ⟨1, 1, 0, e, s, b⟩
  have b2 : Below (w.alloc (.cells #[.int .u8 1, .int .u8 1, .int .u8 0, .int .u32 e, .int .u32 s, .string b] 26)).heap.size (w.alloc (.cells #[.int .u8 1, .int .u8 1, .int .u8 0, .int .u32 e, .int .u32 s, .string b] 26)) ((w.alloc (.cells #[.int .u8 1, .int .u8 1, .int .u8 0, .int .u32 e, .int .u32 s, .string b] 26)).alloc (.cells #[.int .u8 0, .int .u8 0, .int .u8 0, .int .u32 0, .int .u32 0, .string ⟨#[]⟩] 26)) := (Below.refl _ _).alloc (Nat.le_refl _) _
  have P2 : PkAt ((w.alloc (.cells #[.int .u8 1, .int .u8 1, .int .u8 0, .int .u32 e, .int .u32 s, .string b] 26)).alloc (.cells #[.int .u8 0, .int .u8 0, .int .u8 0, .int .u32 0, .int .u32 0, .string ⟨#[]⟩] 26)) (w.heap.size + 1) zpk := by
    have e0 : (w.alloc (.cells #[.int .u8 1, .int .u8 1, .int .u8 0, .int .u32 e, .int .u32 s, .string b] 26)).heap.size = w.heap.size + 1 := by simp
    rw [← e0]
    exact PkAt.new _ zpk
  have K0 := hid ((h.later b1).later b2)
  have P0 : Hid (PkAt ((w.alloc (.cells #[.int .u8 1, .int .u8 1, .int .u8 0, .int .u32 e, .int .u32 s, .string b] 26)).alloc (.cells #[.int .u8 0, .int .u8 0, .int .u8 0, .int .u32 0, .int .u32 0, .string ⟨#[]⟩] 26)) w.heap.size ⟨1, 1, 0, e, s, b⟩) := hid (P1.later b2)
  have Q0 := hid P2
  have B0 : Hid (Below w.heap.size w ((w.alloc (.cells #[.int .u8 1, .int .u8 1, .int .u8 0, .int .u32 e, .int .u32 s, .string b] 26)).alloc (.cells #[.int .u8 0, .int .u8 0, .int .u8 0, .int .u32 0, .int .u32 0, .string ⟨#[]⟩] 26))) := hid (b1.trans (b2.mono b1.size))
  have hne1 : ¬ g = w.heap.size := by omega
  have hne2 : ¬ g = w.heap.size + 1 := by omega
  have hne3 : ¬ w.heap.size = g := by omega
  have hne4 : ¬ w.heap.size + 1 = g := by omega
  have HST : Hid ((F 1).st = 1) := hst
  have hdd : decide ((F 1).ep < e) = false := decide_eq_false hd
  clear h hp hs hr b1 P1 b2 P2
  go_enter Try.func10, Try.ntmps10
  go_upto_region 1 with fail
  generalize ((w.alloc (.cells #[.int .u8 1, .int .u8 1, .int .u8 0, .int .u32 e, .int .u32 s, .string b] 26)).alloc (.cells #[.int .u8 0, .int .u8 0, .int .u8 0, .int .u32 0, .int .u32 0, .string ⟨#[]⟩] 26)) = W at *
  obtain ⟨a0, a1, a2, a3, a4, a5, _⟩ := P0.out.cells
  simp only at a0 a1 a2 a3 a4 a5
  go_wp2_with (go_at_call 26; refine (RC.out _).mono ?_; rintro _ w2 ⟨rfl, hb2⟩; (have K2 := hid (K0.out.later hb2)); (have P2 := hid (P0.out.later hb2)); (have Q2 := hid (Q0.out.later hb2)); (have B2 := hid (B0.out.trans (hb2.mono B0.out.size))); clear K0 P0 Q0 B0 hb2 a0 a1 a2 a3 a4 a5; (obtain ⟨a0, a1, a2, a3, a4, a5, _⟩ := P2.out.cells); simp only at a0 a1 a2 a3 a4 a5)
  obtain ⟨c0, c1, c2, c3⟩ := K2.out.at1
  have l1 : w.heap.size < w2.heap.size := P2.out.lt
  have l2 : w.heap.size + 1 < w2.heap.size := Q2.out.lt
  have l3 : g < w2.heap.size := K2.out.lt
  have m1 : ¬ w.heap.size = w2.heap.size := by omega
  have m2 : ¬ w.heap.size + 1 = w2.heap.size := by omega
  have m3 : ¬ g = w2.heap.size := by omega
  rw [HST.out] at c0
  go_region
  have b3 : Below w2.heap.size w2 (w2.alloc (.cells #[.int .i64 1, .int .u32 (F 1).ep, .int .u32 (F 1).num, .string (F 1).body] 66)).drew := bel_drew ((Below.refl _ _).alloc (Nat.le_refl _) _)
  have t3 : (w2.alloc (.cells #[.int .i64 1, .int .u32 (F 1).ep, .int .u32 (F 1).num, .string (F 1).body] 66)).drew.heap[w2.heap.size]? = some (.cells #[.int .i64 1, .int .u32 (F 1).ep, .int .u32 (F 1).num, .string (F 1).body] 66 (0, 0)) := heap_alloc_new w2 _
  have K3 := hid (K2.out.later b3)
  have P3 := hid (P2.out.later b3)
  have Q3 := hid (Q2.out.later b3)
  have B3 := hid (B2.out.trans (b3.mono B2.out.size))
  clear a0 a1 a2 a3 a4 a5 c0 c1 c2 c3 b3 K2 P2 Q2 B2
  generalize (w2.alloc (.cells #[.int .i64 1, .int .u32 (F 1).ep, .int .u32 (F 1).num, .string (F 1).body] 66)).drew = w3 at *
  obtain ⟨d0, d1, d2, d3, d4, d5, _⟩ := P3.out.cells
  simp only at d0 d1 d2 d3 d4 d5
  obtain ⟨z0, z1, z2, z3, z4, z5, zf⟩ := Q3.out.cells
  have y0 := zf 0
  have y1 := zf 1
  have y2 := zf 2
  have y3 := zf 3
  have y4 := zf 4
  have y5 := zf 5
  have f0 := K3.out.fz 4
  have f1 := K3.out.fz 5
  have f2 := K3.out.fz 6
  have f3 := K3.out.fz 7
  obtain ⟨c0, c1, c2, c3⟩ := K3.out.at1
  have v0 : w3.cell? ⟨w2.heap.size, 0, none⟩ = some (.int .i64 1) := by simp [World.cell?, t3]
  have v1 : w3.cell? ⟨w2.heap.size, 1, none⟩ = some (.int .u32 (F 1).ep) := by simp [World.cell?, t3]
  have v2 : w3.cell? ⟨w2.heap.size, 2, none⟩ = some (.int .u32 (F 1).num) := by simp [World.cell?, t3]
  have m4 : ¬ w2.heap.size = g := by omega
  clear zf t3
  go_wp2
  refine bodyPost_ret (v := .tuple #[.string ⟨#[]⟩, .bool false, Fr.val zpk, .bool false]) (by simp [results, Try.results10, go_sem, Fr.val, zpk, z0, z1, z2, z3, z4, z5, hne1, hne2, hne3, hne4]) rfl ⟨rfl, ?_⟩
  exact (ou_newS (S := fun _ => False) B3.out (((((((Ou.refl (fun k => k = w.heap.size + 1) _).set rfl).set rfl).set rfl).set rfl).set rfl).set rfl) (fun k e => .inr (by omega))).below (Nat.le_refl _) (fun k e => e.elim)
set_option maxHeartbeats 4000000 in
theorem rkt_1_a2 {w : World} {g : Nat} {F : Nat → Tk} (h : IsRK w g F) (e s : Int) (b : ByteArray) (hp : Fr.Wf ⟨1, 1, 0, e, s, b⟩) (hs : b.size ≤ maxLen) (hr : Fr.rightB ⟨1, 1, 0, e, s, b⟩ = true) (hst : (F 1).st = 2) (hd : (F 1).ep < e) :
    Calls Try.prog 10 #[pC g, .agg #[.int .u8 1, .int .u8 1, .int .u8 0, .int .u32 e, .int .u32 s, .string b]] w fun x w' => x = .returned (.tuple #[.string b, .bool true, Fr.val zpk, .bool false]) ∧ IsRK w' g (updK F 1 ⟨1, e, s, ⟨#[]⟩⟩) ∧ Ou (fun k => k = g) w w' := by
  have RC : Hid (∀ W, Calls Try.prog 26 #[.agg #[.int .u8 1, .int .u8 1, .int .u8 0, .int .u32 e, .int .u32 s, .string b]] W fun x w' => x = .returned (.bool true) ∧ Below W.heap.size W w') := fun W => by
    have := rright_c ⟨1, 1, 0, e, s, b⟩ hp hs W
    rw [hr] at this
    exact this
  have AC : Hid (∀ W, IsRK W g F → Calls Try.prog 27 #[pC g, .int .u8 1] W fun x w' => x = .returned (Fr.val ⟨2, 0, 1, (F 1).ep, (F 1).num, (F 1).body⟩) ∧ Below W.heap.size W w') := fun W hW => ranswer_1 hW
  have hlt := h.lt
  have b1 : Below w.heap.size w (w.alloc (.cells #[.int .u8 1, .int .u8 1, .int .u8 0, .int .u32 e, .int .u32 s, .string b] 26)) := (Below.refl _ _).alloc (Nat.le_refl _) _
  have P1 := PkAt.new w ⟨1, 1, 0, e, s, b⟩
  have b2 : Below (w.alloc (.cells #[.int .u8 1, .int .u8 1, .int .u8 0, .int .u32 e, .int .u32 s, .string b] 26)).heap.size (w.alloc (.cells #[.int .u8 1, .int .u8 1, .int .u8 0, .int .u32 e, .int .u32 s, .string b] 26)) ((w.alloc (.cells #[.int .u8 1, .int .u8 1, .int .u8 0, .int .u32 e, .int .u32 s, .string b] 26)).alloc (.cells #[.int .u8 0, .int .u8 0, .int .u8 0, .int .u32 0, .int .u32 0, .string ⟨#[]⟩] 26)) := (Below.refl _ _).alloc (Nat.le_refl _) _
  have P2 : PkAt ((w.alloc (.cells #[.int .u8 1, .int .u8 1, .int .u8 0, .int .u32 e, .int .u32 s, .string b] 26)).alloc (.cells #[.int .u8 0, .int .u8 0, .int .u8 0, .int .u32 0, .int .u32 0, .string ⟨#[]⟩] 26)) (w.heap.size + 1) zpk := by
    have e0 : (w.alloc (.cells #[.int .u8 1, .int .u8 1, .int .u8 0, .int .u32 e, .int .u32 s, .string b] 26)).heap.size = w.heap.size + 1 := by simp
    rw [← e0]
    exact PkAt.new _ zpk
  have K0 := hid ((h.later b1).later b2)
  have P0 : Hid (PkAt ((w.alloc (.cells #[.int .u8 1, .int .u8 1, .int .u8 0, .int .u32 e, .int .u32 s, .string b] 26)).alloc (.cells #[.int .u8 0, .int .u8 0, .int .u8 0, .int .u32 0, .int .u32 0, .string ⟨#[]⟩] 26)) w.heap.size ⟨1, 1, 0, e, s, b⟩) := hid (P1.later b2)
  have Q0 := hid P2
  have B0 : Hid (Below w.heap.size w ((w.alloc (.cells #[.int .u8 1, .int .u8 1, .int .u8 0, .int .u32 e, .int .u32 s, .string b] 26)).alloc (.cells #[.int .u8 0, .int .u8 0, .int .u8 0, .int .u32 0, .int .u32 0, .string ⟨#[]⟩] 26))) := hid (b1.trans (b2.mono b1.size))
  have hne1 : ¬ g = w.heap.size := by omega
  have hne2 : ¬ g = w.heap.size + 1 := by omega
  have hne3 : ¬ w.heap.size = g := by omega
  have hne4 : ¬ w.heap.size + 1 = g := by omega
  have HST : Hid ((F 1).st = 2) := hst
  clear h hp hs hr b1 P1 b2 P2
  go_enter Try.func10, Try.ntmps10
  go_upto_region 1 with fail
  generalize ((w.alloc (.cells #[.int .u8 1, .int .u8 1, .int .u8 0, .int .u32 e, .int .u32 s, .string b] 26)).alloc (.cells #[.int .u8 0, .int .u8 0, .int .u8 0, .int .u32 0, .int .u32 0, .string ⟨#[]⟩] 26)) = W at *
  obtain ⟨a0, a1, a2, a3, a4, a5, _⟩ := P0.out.cells
  simp only at a0 a1 a2 a3 a4 a5
  go_wp2_with (go_at_call 26; refine (RC.out _).mono ?_; rintro _ w2 ⟨rfl, hb2⟩; (have K2 := hid (K0.out.later hb2)); (have P2 := hid (P0.out.later hb2)); (have Q2 := hid (Q0.out.later hb2)); (have B2 := hid (B0.out.trans (hb2.mono B0.out.size))); clear K0 P0 Q0 B0 hb2 a0 a1 a2 a3 a4 a5; (obtain ⟨a0, a1, a2, a3, a4, a5, _⟩ := P2.out.cells); simp only at a0 a1 a2 a3 a4 a5)
  obtain ⟨c0, c1, c2, c3⟩ := K2.out.at1
  have l1 : w.heap.size < w2.heap.size := P2.out.lt
  have l2 : w.heap.size + 1 < w2.heap.size := Q2.out.lt
  have l3 : g < w2.heap.size := K2.out.lt
  have m1 : ¬ w.heap.size = w2.heap.size := by omega
  have m2 : ¬ w.heap.size + 1 = w2.heap.size := by omega
  have m3 : ¬ g = w2.heap.size := by omega
  rw [HST.out] at c0
  go_region
  have b3 : Below w2.heap.size w2 (w2.alloc (.cells #[.int .i64 2, .int .u32 (F 1).ep, .int .u32 (F 1).num, .string (F 1).body] 66)).drew := bel_drew ((Below.refl _ _).alloc (Nat.le_refl _) _)
  have t3 : (w2.alloc (.cells #[.int .i64 2, .int .u32 (F 1).ep, .int .u32 (F 1).num, .string (F 1).body] 66)).drew.heap[w2.heap.size]? = some (.cells #[.int .i64 2, .int .u32 (F 1).ep, .int .u32 (F 1).num, .string (F 1).body] 66 (0, 0)) := heap_alloc_new w2 _
  have K3 := hid (K2.out.later b3)
  have P3 := hid (P2.out.later b3)
  have Q3 := hid (Q2.out.later b3)
  have B3 := hid (B2.out.trans (b3.mono B2.out.size))
  clear a0 a1 a2 a3 a4 a5 c0 c1 c2 c3 b3 K2 P2 Q2 B2
  generalize (w2.alloc (.cells #[.int .i64 2, .int .u32 (F 1).ep, .int .u32 (F 1).num, .string (F 1).body] 66)).drew = w3 at *
  obtain ⟨d0, d1, d2, d3, d4, d5, _⟩ := P3.out.cells
  simp only at d0 d1 d2 d3 d4 d5
  obtain ⟨z0, z1, z2, z3, z4, z5, zf⟩ := Q3.out.cells
  have y0 := zf 0
  have y1 := zf 1
  have y2 := zf 2
  have y3 := zf 3
  have y4 := zf 4
  have y5 := zf 5
  have f0 := K3.out.fz 4
  have f1 := K3.out.fz 5
  have f2 := K3.out.fz 6
  have f3 := K3.out.fz 7
  obtain ⟨c0, c1, c2, c3⟩ := K3.out.at1
  have v0 : w3.cell? ⟨w2.heap.size, 0, none⟩ = some (.int .i64 2) := by simp [World.cell?, t3]
  have v1 : w3.cell? ⟨w2.heap.size, 1, none⟩ = some (.int .u32 (F 1).ep) := by simp [World.cell?, t3]
  have v2 : w3.cell? ⟨w2.heap.size, 2, none⟩ = some (.int .u32 (F 1).num) := by simp [World.cell?, t3]
  have m4 : ¬ w2.heap.size = g := by omega
  clear zf t3
  go_wp2_with fail
  go_region
  go_wp2
  refine bodyPost_ret (v := .tuple #[.string b, .bool true, Fr.val zpk, .bool false]) (by simp [results, Try.results10, go_sem, Fr.val, zpk, z0, z1, z2, z3, z4, z5, hne1, hne2, hne3, hne4]) rfl ⟨rfl, ?_, ?_⟩
  · exact IsRK.out (S := fun k => k = w.heap.size + 1) (f := updK F 1 ⟨1, e, s, ⟨#[]⟩⟩) (row_set 7 _ (row_set 6 _ (row_set 5 _ (row_set 4 _ K3.out)))) ((((((((Ou.refl (fun k => k = w.heap.size + 1) _).set rfl).set rfl).set rfl).set rfl).set rfl).set rfl).drew) hne2
  · exact ou_newS B3.out ((((((((((((Ou.refl (fun k => k = g ∨ k = w.heap.size + 1) _).set (.inl rfl)).set (.inl rfl)).set (.inl rfl)).set (.inl rfl)).set (.inr rfl)).set (.inr rfl)).set (.inr rfl)).set (.inr rfl)).set (.inr rfl)).set (.inr rfl)).drew) (fun k e => e.elim .inl fun e => .inr (by omega))
set_option maxHeartbeats 4000000 in
theorem rkt_1_b2 {w : World} {g : Nat} {F : Nat → Tk} (h : IsRK w g F) (e s : Int) (b : ByteArray) (hp : Fr.Wf ⟨1, 1, 0, e, s, b⟩) (hs : b.size ≤ maxLen) (hr : Fr.rightB ⟨1, 1, 0, e, s, b⟩ = true) (hst : (F 1).st = 2) (hd : ¬ (F 1).ep < e) (he : (e == (F 1).ep) = true) (hx : (F 1).num < s) :
    Calls Try.prog 10 #[pC g, .agg #[.int .u8 1, .int .u8 1, .int .u8 0, .int .u32 e, .int .u32 s, .string b]] w fun x w' => x = .returned (.tuple #[.string b, .bool true, Fr.val zpk, .bool false]) ∧ IsRK w' g (updK F 1 ⟨1, e, s, ⟨#[]⟩⟩) ∧ Ou (fun k => k = g) w w' := by
  have RC : Hid (∀ W, Calls Try.prog 26 #[.agg #[.int .u8 1, .int .u8 1, .int .u8 0, .int .u32 e, .int .u32 s, .string b]] W fun x w' => x = .returned (.bool true) ∧ Below W.heap.size W w') := fun W => by
    have := rright_c ⟨1, 1, 0, e, s, b⟩ hp hs W
    rw [hr] at this
    exact this
  have AC : Hid (∀ W, IsRK W g F → Calls Try.prog 27 #[pC g, .int .u8 1] W fun x w' => x = .returned (Fr.val ⟨2, 0, 1, (F 1).ep, (F 1).num, (F 1).body⟩) ∧ Below W.heap.size W w') := fun W hW => ranswer_1 hW
  have hlt := h.lt
  have b1 : Below w.heap.size w (w.alloc (.cells #[.int .u8 1, .int .u8 1, .int .u8 0, .int .u32 e, .int .u32 s, .string b] 26)) := (Below.refl _ _).alloc (Nat.le_refl _) _
  have P1 := PkAt.new w ⟨1, 1, 0, e, s, b⟩
  have b2 : Below (w.alloc (.cells #[.int .u8 1, .int .u8 1, .int .u8 0, .int .u32 e, .int .u32 s, .string b] 26)).heap.size (w.alloc (.cells #[.int .u8 1, .int .u8 1, .int .u8 0, .int .u32 e, .int .u32 s, .string b] 26)) ((w.alloc (.cells #[.int .u8 1, .int .u8 1, .int .u8 0, .int .u32 e, .int .u32 s, .string b] 26)).alloc (.cells #[.int .u8 0, .int .u8 0, .int .u8 0, .int .u32 0, .int .u32 0, .string ⟨#[]⟩] 26)) := (Below.refl _ _).alloc (Nat.le_refl _) _
  have P2 : PkAt ((w.alloc (.cells #[.int .u8 1, .int .u8 1, .int .u8 0, .int .u32 e, .int .u32 s, .string b] 26)).alloc (.cells #[.int .u8 0, .int .u8 0, .int .u8 0, .int .u32 0, .int .u32 0, .string ⟨#[]⟩] 26)) (w.heap.size + 1) zpk := by
    have e0 : (w.alloc (.cells #[.int .u8 1, .int .u8 1, .int .u8 0, .int .u32 e, .int .u32 s, .string b] 26)).heap.size = w.heap.size + 1 := by simp
    rw [← e0]
    exact PkAt.new _ zpk
  have K0 := hid ((h.later b1).later b2)
  have P0 : Hid (PkAt ((w.alloc (.cells #[.int .u8 1, .int .u8 1, .int .u8 0, .int .u32 e, .int .u32 s, .string b] 26)).alloc (.cells #[.int .u8 0, .int .u8 0, .int .u8 0, .int .u32 0, .int .u32 0, .string ⟨#[]⟩] 26)) w.heap.size ⟨1, 1, 0, e, s, b⟩) := hid (P1.later b2)
  have Q0 := hid P2
  have B0 : Hid (Below w.heap.size w ((w.alloc (.cells #[.int .u8 1, .int .u8 1, .int .u8 0, .int .u32 e, .int .u32 s, .string b] 26)).alloc (.cells #[.int .u8 0, .int .u8 0, .int .u8 0, .int .u32 0, .int .u32 0, .string ⟨#[]⟩] 26))) := hid (b1.trans (b2.mono b1.size))
  have hne1 : ¬ g = w.heap.size := by omega
  have hne2 : ¬ g = w.heap.size + 1 := by omega
  have hne3 : ¬ w.heap.size = g := by omega
  have hne4 : ¬ w.heap.size + 1 = g := by omega
  have HST : Hid ((F 1).st = 2) := hst
  have hdd : decide ((F 1).ep < e) = false := decide_eq_false hd
  clear h hp hs hr b1 P1 b2 P2
  go_enter Try.func10, Try.ntmps10
  go_upto_region 1 with fail
  generalize ((w.alloc (.cells #[.int .u8 1, .int .u8 1, .int .u8 0, .int .u32 e, .int .u32 s, .string b] 26)).alloc (.cells #[.int .u8 0, .int .u8 0, .int .u8 0, .int .u32 0, .int .u32 0, .string ⟨#[]⟩] 26)) = W at *
  obtain ⟨a0, a1, a2, a3, a4, a5, _⟩ := P0.out.cells
  simp only at a0 a1 a2 a3 a4 a5
  go_wp2_with (go_at_call 26; refine (RC.out _).mono ?_; rintro _ w2 ⟨rfl, hb2⟩; (have K2 := hid (K0.out.later hb2)); (have P2 := hid (P0.out.later hb2)); (have Q2 := hid (Q0.out.later hb2)); (have B2 := hid (B0.out.trans (hb2.mono B0.out.size))); clear K0 P0 Q0 B0 hb2 a0 a1 a2 a3 a4 a5; (obtain ⟨a0, a1, a2, a3, a4, a5, _⟩ := P2.out.cells); simp only at a0 a1 a2 a3 a4 a5)
  obtain ⟨c0, c1, c2, c3⟩ := K2.out.at1
  have l1 : w.heap.size < w2.heap.size := P2.out.lt
  have l2 : w.heap.size + 1 < w2.heap.size := Q2.out.lt
  have l3 : g < w2.heap.size := K2.out.lt
  have m1 : ¬ w.heap.size = w2.heap.size := by omega
  have m2 : ¬ w.heap.size + 1 = w2.heap.size := by omega
  have m3 : ¬ g = w2.heap.size := by omega
  rw [HST.out] at c0
  go_region
  have b3 : Below w2.heap.size w2 (w2.alloc (.cells #[.int .i64 2, .int .u32 (F 1).ep, .int .u32 (F 1).num, .string (F 1).body] 66)).drew := bel_drew ((Below.refl _ _).alloc (Nat.le_refl _) _)
  have t3 : (w2.alloc (.cells #[.int .i64 2, .int .u32 (F 1).ep, .int .u32 (F 1).num, .string (F 1).body] 66)).drew.heap[w2.heap.size]? = some (.cells #[.int .i64 2, .int .u32 (F 1).ep, .int .u32 (F 1).num, .string (F 1).body] 66 (0, 0)) := heap_alloc_new w2 _
  have K3 := hid (K2.out.later b3)
  have P3 := hid (P2.out.later b3)
  have Q3 := hid (Q2.out.later b3)
  have B3 := hid (B2.out.trans (b3.mono B2.out.size))
  clear a0 a1 a2 a3 a4 a5 c0 c1 c2 c3 b3 K2 P2 Q2 B2
  generalize (w2.alloc (.cells #[.int .i64 2, .int .u32 (F 1).ep, .int .u32 (F 1).num, .string (F 1).body] 66)).drew = w3 at *
  obtain ⟨d0, d1, d2, d3, d4, d5, _⟩ := P3.out.cells
  simp only at d0 d1 d2 d3 d4 d5
  obtain ⟨z0, z1, z2, z3, z4, z5, zf⟩ := Q3.out.cells
  have y0 := zf 0
  have y1 := zf 1
  have y2 := zf 2
  have y3 := zf 3
  have y4 := zf 4
  have y5 := zf 5
  have f0 := K3.out.fz 4
  have f1 := K3.out.fz 5
  have f2 := K3.out.fz 6
  have f3 := K3.out.fz 7
  obtain ⟨c0, c1, c2, c3⟩ := K3.out.at1
  have v0 : w3.cell? ⟨w2.heap.size, 0, none⟩ = some (.int .i64 2) := by simp [World.cell?, t3]
  have v1 : w3.cell? ⟨w2.heap.size, 1, none⟩ = some (.int .u32 (F 1).ep) := by simp [World.cell?, t3]
  have v2 : w3.cell? ⟨w2.heap.size, 2, none⟩ = some (.int .u32 (F 1).num) := by simp [World.cell?, t3]
  have m4 : ¬ w2.heap.size = g := by omega
  clear zf t3
  go_wp2_with fail
  go_region
  go_wp2
  refine bodyPost_ret (v := .tuple #[.string b, .bool true, Fr.val zpk, .bool false]) (by simp [results, Try.results10, go_sem, Fr.val, zpk, z0, z1, z2, z3, z4, z5, hne1, hne2, hne3, hne4]) rfl ⟨rfl, ?_, ?_⟩
  · exact IsRK.out (S := fun k => k = w.heap.size + 1) (f := updK F 1 ⟨1, e, s, ⟨#[]⟩⟩) (row_set 7 _ (row_set 6 _ (row_set 5 _ (row_set 4 _ K3.out)))) ((((((((Ou.refl (fun k => k = w.heap.size + 1) _).set rfl).set rfl).set rfl).set rfl).set rfl).set rfl).drew) hne2
  · exact ou_newS B3.out ((((((((((((Ou.refl (fun k => k = g ∨ k = w.heap.size + 1) _).set (.inl rfl)).set (.inl rfl)).set (.inl rfl)).set (.inl rfl)).set (.inr rfl)).set (.inr rfl)).set (.inr rfl)).set (.inr rfl)).set (.inr rfl)).set (.inr rfl)).drew) (fun k e => e.elim .inl fun e => .inr (by omega))
set_option maxHeartbeats 4000000 in
theorem rkt_1_c2 {w : World} {g : Nat} {F : Nat → Tk} (h : IsRK w g F) (e s : Int) (b : ByteArray) (hp : Fr.Wf ⟨1, 1, 0, e, s, b⟩) (hs : b.size ≤ maxLen) (hr : Fr.rightB ⟨1, 1, 0, e, s, b⟩ = true) (hst : (F 1).st = 2) (hd : ¬ (F 1).ep < e) (he : (e == (F 1).ep) = false) :
    Calls Try.prog 10 #[pC g, .agg #[.int .u8 1, .int .u8 1, .int .u8 0, .int .u32 e, .int .u32 s, .string b]] w fun x w' => x = .returned (.tuple #[.string ⟨#[]⟩, .bool false, Fr.val zpk, .bool false]) ∧ Below w.heap.size w w' := by
  have RC : Hid (∀ W, Calls Try.prog 26 #[.agg #[.int .u8 1, .int .u8 1, .int .u8 0, .int .u32 e, .int .u32 s, .string b]] W fun x w' => x = .returned (.bool true) ∧ Below W.heap.size W w') := fun W => by
    have := rright_c ⟨1, 1, 0, e, s, b⟩ hp hs W
    rw [hr] at this
    exact this
  have AC : Hid (∀ W, IsRK W g F → Calls Try.prog 27 #[pC g, .int .u8 1] W fun x w' => x = .returned (Fr.val ⟨2, 0, 1, (F 1).ep, (F 1).num, (F 1).body⟩) ∧ Below W.heap.size W w') := fun W hW => ranswer_1 hW
  have hlt := h.lt
  have b1 : Below w.heap.size w (w.alloc (.cells #[.int .u8 1, .int .u8 1, .int .u8 0, .int .u32 e, .int .u32 s, .string b] 26)) := (Below.refl _ _).alloc (Nat.le_refl _) _
  have P1 := PkAt.new w ⟨1, 1, 0, e, s, b⟩
  have b2 : Below (w.alloc (.cells #[.int .u8 1, .int .u8 1, .int .u8 0, .int .u32 e, .int .u32 s, .string b] 26)).heap.size (w.alloc (.cells #[.int .u8 1, .int .u8 1, .int .u8 0, .int .u32 e, .int .u32 s, .string b] 26)) ((w.alloc (.cells #[.int .u8 1, .int .u8 1, .int .u8 0, .int .u32 e, .int .u32 s, .string b] 26)).alloc (.cells #[.int .u8 0, .int .u8 0, .int .u8 0, .int .u32 0, .int .u32 0, .string ⟨#[]⟩] 26)) := (Below.refl _ _).alloc (Nat.le_refl _) _
  have P2 : PkAt ((w.alloc (.cells #[.int .u8 1, .int .u8 1, .int .u8 0, .int .u32 e, .int .u32 s, .string b] 26)).alloc (.cells #[.int .u8 0, .int .u8 0, .int .u8 0, .int .u32 0, .int .u32 0, .string ⟨#[]⟩] 26)) (w.heap.size + 1) zpk := by
    have e0 : (w.alloc (.cells #[.int .u8 1, .int .u8 1, .int .u8 0, .int .u32 e, .int .u32 s, .string b] 26)).heap.size = w.heap.size + 1 := by simp
    rw [← e0]
    exact PkAt.new _ zpk
  have K0 := hid ((h.later b1).later b2)
  have P0 : Hid (PkAt ((w.alloc (.cells #[.int .u8 1, .int .u8 1, .int .u8 0, .int .u32 e, .int .u32 s, .string b] 26)).alloc (.cells #[.int .u8 0, .int .u8 0, .int .u8 0, .int .u32 0, .int .u32 0, .string ⟨#[]⟩] 26)) w.heap.size ⟨1, 1, 0, e, s, b⟩) := hid (P1.later b2)
  have Q0 := hid P2
  have B0 : Hid (Below w.heap.size w ((w.alloc (.cells #[.int .u8 1, .int .u8 1, .int .u8 0, .int .u32 e, .int .u32 s, .string b] 26)).alloc (.cells #[.int .u8 0, .int .u8 0, .int .u8 0, .int .u32 0, .int .u32 0, .string ⟨#[]⟩] 26))) := hid (b1.trans (b2.mono b1.size))
  have hne1 : ¬ g = w.heap.size := by omega
  have hne2 : ¬ g = w.heap.size + 1 := by omega
  have hne3 : ¬ w.heap.size = g := by omega
  have hne4 : ¬ w.heap.size + 1 = g := by omega
  have HST : Hid ((F 1).st = 2) := hst
  have hdd : decide ((F 1).ep < e) = false := decide_eq_false hd
  clear h hp hs hr b1 P1 b2 P2
  go_enter Try.func10, Try.ntmps10
  go_upto_region 1 with fail
  generalize ((w.alloc (.cells #[.int .u8 1, .int .u8 1, .int .u8 0, .int .u32 e, .int .u32 s, .string b] 26)).alloc (.cells #[.int .u8 0, .int .u8 0, .int .u8 0, .int .u32 0, .int .u32 0, .string ⟨#[]⟩] 26)) = W at *
  obtain ⟨a0, a1, a2, a3, a4, a5, _⟩ := P0.out.cells
  simp only at a0 a1 a2 a3 a4 a5
  go_wp2_with (go_at_call 26; refine (RC.out _).mono ?_; rintro _ w2 ⟨rfl, hb2⟩; (have K2 := hid (K0.out.later hb2)); (have P2 := hid (P0.out.later hb2)); (have Q2 := hid (Q0.out.later hb2)); (have B2 := hid (B0.out.trans (hb2.mono B0.out.size))); clear K0 P0 Q0 B0 hb2 a0 a1 a2 a3 a4 a5; (obtain ⟨a0, a1, a2, a3, a4, a5, _⟩ := P2.out.cells); simp only at a0 a1 a2 a3 a4 a5)
  obtain ⟨c0, c1, c2, c3⟩ := K2.out.at1
  have l1 : w.heap.size < w2.heap.size := P2.out.lt
  have l2 : w.heap.size + 1 < w2.heap.size := Q2.out.lt
  have l3 : g < w2.heap.size := K2.out.lt
  have m1 : ¬ w.heap.size = w2.heap.size := by omega
  have m2 : ¬ w.heap.size + 1 = w2.heap.size := by omega
  have m3 : ¬ g = w2.heap.size := by omega
  rw [HST.out] at c0
  go_region
  have b3 : Below w2.heap.size w2 (w2.alloc (.cells #[.int .i64 2, .int .u32 (F 1).ep, .int .u32 (F 1).num, .string (F 1).body] 66)).drew := bel_drew ((Below.refl _ _).alloc (Nat.le_refl _) _)
  have t3 : (w2.alloc (.cells #[.int .i64 2, .int .u32 (F 1).ep, .int .u32 (F 1).num, .string (F 1).body] 66)).drew.heap[w2.heap.size]? = some (.cells #[.int .i64 2, .int .u32 (F 1).ep, .int .u32 (F 1).num, .string (F 1).body] 66 (0, 0)) := heap_alloc_new w2 _
  have K3 := hid (K2.out.later b3)
  have P3 := hid (P2.out.later b3)
  have Q3 := hid (Q2.out.later b3)
  have B3 := hid (B2.out.trans (b3.mono B2.out.size))
  clear a0 a1 a2 a3 a4 a5 c0 c1 c2 c3 b3 K2 P2 Q2 B2
  generalize (w2.alloc (.cells #[.int .i64 2, .int .u32 (F 1).ep, .int .u32 (F 1).num, .string (F 1).body] 66)).drew = w3 at *
  obtain ⟨d0, d1, d2, d3, d4, d5, _⟩ := P3.out.cells
  simp only at d0 d1 d2 d3 d4 d5
  obtain ⟨z0, z1, z2, z3, z4, z5, zf⟩ := Q3.out.cells
  have y0 := zf 0
  have y1 := zf 1
  have y2 := zf 2
  have y3 := zf 3
  have y4 := zf 4
  have y5 := zf 5
  have f0 := K3.out.fz 4
  have f1 := K3.out.fz 5
  have f2 := K3.out.fz 6
  have f3 := K3.out.fz 7
  obtain ⟨c0, c1, c2, c3⟩ := K3.out.at1
  have v0 : w3.cell? ⟨w2.heap.size, 0, none⟩ = some (.int .i64 2) := by simp [World.cell?, t3]
  have v1 : w3.cell? ⟨w2.heap.size, 1, none⟩ = some (.int .u32 (F 1).ep) := by simp [World.cell?, t3]
  have v2 : w3.cell? ⟨w2.heap.size, 2, none⟩ = some (.int .u32 (F 1).num) := by simp [World.cell?, t3]
  have m4 : ¬ w2.heap.size = g := by omega
  clear zf t3
  go_wp2
  refine bodyPost_ret (v := .tuple #[.string ⟨#[]⟩, .bool false, Fr.val zpk, .bool false]) (by simp [results, Try.results10, go_sem, Fr.val, zpk, z0, z1, z2, z3, z4, z5, hne1, hne2, hne3, hne4]) rfl ⟨rfl, ?_⟩
  exact (ou_newS (S := fun _ => False) B3.out (((((((Ou.refl (fun k => k = w.heap.size + 1) _).set rfl).set rfl).set rfl).set rfl).set rfl).set rfl) (fun k e => .inr (by omega))).below (Nat.le_refl _) (fun k e => e.elim)
set_option maxHeartbeats 4000000 in
theorem rkt_1_d1 {w : World} {g : Nat} {F : Nat → Tk} (h : IsRK w g F) (e s : Int) (b : ByteArray) (hp : Fr.Wf ⟨1, 1, 0, e, s, b⟩) (hs : b.size ≤ maxLen) (hr : Fr.rightB ⟨1, 1, 0, e, s, b⟩ = true) (hst : (F 1).st = 1) (hd : ¬ (F 1).ep < e) (he : (e == (F 1).ep) = true) (hx : ¬ (F 1).num < s) :
    Calls Try.prog 10 #[pC g, .agg #[.int .u8 1, .int .u8 1, .int .u8 0, .int .u32 e, .int .u32 s, .string b]] w fun x w' => x = .returned (.tuple #[.string ⟨#[]⟩, .bool false, Fr.val zpk, .bool false]) ∧ Below w.heap.size w w' := by
  have RC : Hid (∀ W, Calls Try.prog 26 #[.agg #[.int .u8 1, .int .u8 1, .int .u8 0, .int .u32 e, .int .u32 s, .string b]] W fun x w' => x = .returned (.bool true) ∧ Below W.heap.size W w') := fun W => by
    have := rright_c ⟨1, 1, 0, e, s, b⟩ hp hs W
    rw [hr] at this
    exact this
  have AC : Hid (∀ W, IsRK W g F → Calls Try.prog 27 #[pC g, .int .u8 1] W fun x w' => x = .returned (Fr.val ⟨2, 0, 1, (F 1).ep, (F 1).num, (F 1).body⟩) ∧ Below W.heap.size W w') := fun W hW => ranswer_1 hW
  have hlt := h.lt
  have b1 : Below w.heap.size w (w.alloc (.cells #[.int .u8 1, .int .u8 1, .int .u8 0, .int .u32 e, .int .u32 s, .string b] 26)) := (Below.refl _ _).alloc (Nat.le_refl _) _
  have P1 := PkAt.new w ⟨1, 1, 0, e, s, b⟩
  have b2 : Below (w.alloc (.cells #[.int .u8 1, .int .u8 1, .int .u8 0, .int .u32 e, .int .u32 s, .string b] 26)).heap.size (w.alloc (.cells #[.int .u8 1, .int .u8 1, .int .u8 0, .int .u32 e, .int .u32 s, .string b] 26)) ((w.alloc (.cells #[.int .u8 1, .int .u8 1, .int .u8 0, .int .u32 e, .int .u32 s, .string b] 26)).alloc (.cells #[.int .u8 0, .int .u8 0, .int .u8 0, .int .u32 0, .int .u32 0, .string ⟨#[]⟩] 26)) := (Below.refl _ _).alloc (Nat.le_refl _) _
  have P2 : PkAt ((w.alloc (.cells #[.int .u8 1, .int .u8 1, .int .u8 0, .int .u32 e, .int .u32 s, .string b] 26)).alloc (.cells #[.int .u8 0, .int .u8 0, .int .u8 0, .int .u32 0, .int .u32 0, .string ⟨#[]⟩] 26)) (w.heap.size + 1) zpk := by
    have e0 : (w.alloc (.cells #[.int .u8 1, .int .u8 1, .int .u8 0, .int .u32 e, .int .u32 s, .string b] 26)).heap.size = w.heap.size + 1 := by simp
    rw [← e0]
    exact PkAt.new _ zpk
  have K0 := hid ((h.later b1).later b2)
  have P0 : Hid (PkAt ((w.alloc (.cells #[.int .u8 1, .int .u8 1, .int .u8 0, .int .u32 e, .int .u32 s, .string b] 26)).alloc (.cells #[.int .u8 0, .int .u8 0, .int .u8 0, .int .u32 0, .int .u32 0, .string ⟨#[]⟩] 26)) w.heap.size ⟨1, 1, 0, e, s, b⟩) := hid (P1.later b2)
  have Q0 := hid P2
  have B0 : Hid (Below w.heap.size w ((w.alloc (.cells #[.int .u8 1, .int .u8 1, .int .u8 0, .int .u32 e, .int .u32 s, .string b] 26)).alloc (.cells #[.int .u8 0, .int .u8 0, .int .u8 0, .int .u32 0, .int .u32 0, .string ⟨#[]⟩] 26))) := hid (b1.trans (b2.mono b1.size))
  have hne1 : ¬ g = w.heap.size := by omega
  have hne2 : ¬ g = w.heap.size + 1 := by omega
  have hne3 : ¬ w.heap.size = g := by omega
  have hne4 : ¬ w.heap.size + 1 = g := by omega
  have HST : Hid ((F 1).st = 1) := hst
  have hdd : decide ((F 1).ep < e) = false := decide_eq_false hd
  have hxd : decide ((F 1).num < s) = false := decide_eq_false hx
  clear h hp hs hr b1 P1 b2 P2
  go_enter Try.func10, Try.ntmps10
  go_upto_region 1 with fail
  generalize ((w.alloc (.cells #[.int .u8 1, .int .u8 1, .int .u8 0, .int .u32 e, .int .u32 s, .string b] 26)).alloc (.cells #[.int .u8 0, .int .u8 0, .int .u8 0, .int .u32 0, .int .u32 0, .string ⟨#[]⟩] 26)) = W at *
  obtain ⟨a0, a1, a2, a3, a4, a5, _⟩ := P0.out.cells
  simp only at a0 a1 a2 a3 a4 a5
  go_wp2_with (go_at_call 26; refine (RC.out _).mono ?_; rintro _ w2 ⟨rfl, hb2⟩; (have K2 := hid (K0.out.later hb2)); (have P2 := hid (P0.out.later hb2)); (have Q2 := hid (Q0.out.later hb2)); (have B2 := hid (B0.out.trans (hb2.mono B0.out.size))); clear K0 P0 Q0 B0 hb2 a0 a1 a2 a3 a4 a5; (obtain ⟨a0, a1, a2, a3, a4, a5, _⟩ := P2.out.cells); simp only at a0 a1 a2 a3 a4 a5)
  obtain ⟨c0, c1, c2, c3⟩ := K2.out.at1
  have l1 : w.heap.size < w2.heap.size := P2.out.lt
  have l2 : w.heap.size + 1 < w2.heap.size := Q2.out.lt
  have l3 : g < w2.heap.size := K2.out.lt
  have m1 : ¬ w.heap.size = w2.heap.size := by omega
  have m2 : ¬ w.heap.size + 1 = w2.heap.size := by omega
  have m3 : ¬ g = w2.heap.size := by omega
  rw [HST.out] at c0
  go_region
  have b3 : Below w2.heap.size w2 (w2.alloc (.cells #[.int .i64 1, .int .u32 (F 1).ep, .int .u32 (F 1).num, .string (F 1).body] 66)).drew := bel_drew ((Below.refl _ _).alloc (Nat.le_refl _) _)
  have t3 : (w2.alloc (.cells #[.int .i64 1, .int .u32 (F 1).ep, .int .u32 (F 1).num, .string (F 1).body] 66)).drew.heap[w2.heap.size]? = some (.cells #[.int .i64 1, .int .u32 (F 1).ep, .int .u32 (F 1).num, .string (F 1).body] 66 (0, 0)) := heap_alloc_new w2 _
  have K3 := hid (K2.out.later b3)
  have P3 := hid (P2.out.later b3)
  have Q3 := hid (Q2.out.later b3)
  have B3 := hid (B2.out.trans (b3.mono B2.out.size))
  clear a0 a1 a2 a3 a4 a5 c0 c1 c2 c3 b3 K2 P2 Q2 B2
  generalize (w2.alloc (.cells #[.int .i64 1, .int .u32 (F 1).ep, .int .u32 (F 1).num, .string (F 1).body] 66)).drew = w3 at *
  obtain ⟨d0, d1, d2, d3, d4, d5, _⟩ := P3.out.cells
  simp only at d0 d1 d2 d3 d4 d5
  obtain ⟨z0, z1, z2, z3, z4, z5, zf⟩ := Q3.out.cells
  have y0 := zf 0
  have y1 := zf 1
  have y2 := zf 2
  have y3 := zf 3
  have y4 := zf 4
  have y5 := zf 5
  have f0 := K3.out.fz 4
  have f1 := K3.out.fz 5
  have f2 := K3.out.fz 6
  have f3 := K3.out.fz 7
  obtain ⟨c0, c1, c2, c3⟩ := K3.out.at1
  have v0 : w3.cell? ⟨w2.heap.size, 0, none⟩ = some (.int .i64 1) := by simp [World.cell?, t3]
  have v1 : w3.cell? ⟨w2.heap.size, 1, none⟩ = some (.int .u32 (F 1).ep) := by simp [World.cell?, t3]
  have v2 : w3.cell? ⟨w2.heap.size, 2, none⟩ = some (.int .u32 (F 1).num) := by simp [World.cell?, t3]
  have m4 : ¬ w2.heap.size = g := by omega
  clear zf t3
  go_wp2
  refine bodyPost_ret (v := .tuple #[.string ⟨#[]⟩, .bool false, Fr.val zpk, .bool false]) (by simp [results, Try.results10, go_sem, Fr.val, zpk, z0, z1, z2, z3, z4, z5, hne1, hne2, hne3, hne4]) rfl ⟨rfl, ?_⟩
  exact (ou_newS (S := fun _ => False) B3.out (((((((Ou.refl (fun k => k = w.heap.size + 1) _).set rfl).set rfl).set rfl).set rfl).set rfl).set rfl) (fun k e => .inr (by omega))).below (Nat.le_refl _) (fun k e => e.elim)
set_option maxHeartbeats 4000000 in
theorem rkt_1_d2 {w : World} {g : Nat} {F : Nat → Tk} (h : IsRK w g F) (e s : Int) (b : ByteArray) (hp : Fr.Wf ⟨1, 1, 0, e, s, b⟩) (hs : b.size ≤ maxLen) (hr : Fr.rightB ⟨1, 1, 0, e, s, b⟩ = true) (hst : (F 1).st = 2) (hd : ¬ (F 1).ep < e) (he : (e == (F 1).ep) = true) (hx : ¬ (F 1).num < s) (hy : (s == (F 1).num) = true) :
    Calls Try.prog 10 #[pC g, .agg #[.int .u8 1, .int .u8 1, .int .u8 0, .int .u32 e, .int .u32 s, .string b]] w fun x w' => x = .returned (.tuple #[.string ⟨#[]⟩, .bool false, Fr.val ⟨2, 0, 1, (F 1).ep, (F 1).num, (F 1).body⟩, .bool true]) ∧ Below w.heap.size w w' := by
  have RC : Hid (∀ W, Calls Try.prog 26 #[.agg #[.int .u8 1, .int .u8 1, .int .u8 0, .int .u32 e, .int .u32 s, .string b]] W fun x w' => x = .returned (.bool true) ∧ Below W.heap.size W w') := fun W => by
    have := rright_c ⟨1, 1, 0, e, s, b⟩ hp hs W
    rw [hr] at this
    exact this
  have AC : Hid (∀ W, IsRK W g F → Calls Try.prog 27 #[pC g, .int .u8 1] W fun x w' => x = .returned (Fr.val ⟨2, 0, 1, (F 1).ep, (F 1).num, (F 1).body⟩) ∧ Below W.heap.size W w') := fun W hW => ranswer_1 hW
  have hlt := h.lt
  have b1 : Below w.heap.size w (w.alloc (.cells #[.int .u8 1, .int .u8 1, .int .u8 0, .int .u32 e, .int .u32 s, .string b] 26)) := (Below.refl _ _).alloc (Nat.le_refl _) _
  have P1 := PkAt.new w ⟨1, 1, 0, e, s, b⟩
  have b2 : Below (w.alloc (.cells #[.int .u8 1, .int .u8 1, .int .u8 0, .int .u32 e, .int .u32 s, .string b] 26)).heap.size (w.alloc (.cells #[.int .u8 1, .int .u8 1, .int .u8 0, .int .u32 e, .int .u32 s, .string b] 26)) ((w.alloc (.cells #[.int .u8 1, .int .u8 1, .int .u8 0, .int .u32 e, .int .u32 s, .string b] 26)).alloc (.cells #[.int .u8 0, .int .u8 0, .int .u8 0, .int .u32 0, .int .u32 0, .string ⟨#[]⟩] 26)) := (Below.refl _ _).alloc (Nat.le_refl _) _
  have P2 : PkAt ((w.alloc (.cells #[.int .u8 1, .int .u8 1, .int .u8 0, .int .u32 e, .int .u32 s, .string b] 26)).alloc (.cells #[.int .u8 0, .int .u8 0, .int .u8 0, .int .u32 0, .int .u32 0, .string ⟨#[]⟩] 26)) (w.heap.size + 1) zpk := by
    have e0 : (w.alloc (.cells #[.int .u8 1, .int .u8 1, .int .u8 0, .int .u32 e, .int .u32 s, .string b] 26)).heap.size = w.heap.size + 1 := by simp
    rw [← e0]
    exact PkAt.new _ zpk
  have K0 := hid ((h.later b1).later b2)
  have P0 : Hid (PkAt ((w.alloc (.cells #[.int .u8 1, .int .u8 1, .int .u8 0, .int .u32 e, .int .u32 s, .string b] 26)).alloc (.cells #[.int .u8 0, .int .u8 0, .int .u8 0, .int .u32 0, .int .u32 0, .string ⟨#[]⟩] 26)) w.heap.size ⟨1, 1, 0, e, s, b⟩) := hid (P1.later b2)
  have Q0 := hid P2
  have B0 : Hid (Below w.heap.size w ((w.alloc (.cells #[.int .u8 1, .int .u8 1, .int .u8 0, .int .u32 e, .int .u32 s, .string b] 26)).alloc (.cells #[.int .u8 0, .int .u8 0, .int .u8 0, .int .u32 0, .int .u32 0, .string ⟨#[]⟩] 26))) := hid (b1.trans (b2.mono b1.size))
  have hne1 : ¬ g = w.heap.size := by omega
  have hne2 : ¬ g = w.heap.size + 1 := by omega
  have hne3 : ¬ w.heap.size = g := by omega
  have hne4 : ¬ w.heap.size + 1 = g := by omega
  have HST : Hid ((F 1).st = 2) := hst
  have hdd : decide ((F 1).ep < e) = false := decide_eq_false hd
  have hxd : decide ((F 1).num < s) = false := decide_eq_false hx
  clear h hp hs hr b1 P1 b2 P2
  go_enter Try.func10, Try.ntmps10
  go_upto_region 1 with fail
  generalize ((w.alloc (.cells #[.int .u8 1, .int .u8 1, .int .u8 0, .int .u32 e, .int .u32 s, .string b] 26)).alloc (.cells #[.int .u8 0, .int .u8 0, .int .u8 0, .int .u32 0, .int .u32 0, .string ⟨#[]⟩] 26)) = W at *
  obtain ⟨a0, a1, a2, a3, a4, a5, _⟩ := P0.out.cells
  simp only at a0 a1 a2 a3 a4 a5
  go_wp2_with (go_at_call 26; refine (RC.out _).mono ?_; rintro _ w2 ⟨rfl, hb2⟩; (have K2 := hid (K0.out.later hb2)); (have P2 := hid (P0.out.later hb2)); (have Q2 := hid (Q0.out.later hb2)); (have B2 := hid (B0.out.trans (hb2.mono B0.out.size))); clear K0 P0 Q0 B0 hb2 a0 a1 a2 a3 a4 a5; (obtain ⟨a0, a1, a2, a3, a4, a5, _⟩ := P2.out.cells); simp only at a0 a1 a2 a3 a4 a5)
  obtain ⟨c0, c1, c2, c3⟩ := K2.out.at1
  have l1 : w.heap.size < w2.heap.size := P2.out.lt
  have l2 : w.heap.size + 1 < w2.heap.size := Q2.out.lt
  have l3 : g < w2.heap.size := K2.out.lt
  have m1 : ¬ w.heap.size = w2.heap.size := by omega
  have m2 : ¬ w.heap.size + 1 = w2.heap.size := by omega
  have m3 : ¬ g = w2.heap.size := by omega
  rw [HST.out] at c0
  go_region
  have b3 : Below w2.heap.size w2 (w2.alloc (.cells #[.int .i64 2, .int .u32 (F 1).ep, .int .u32 (F 1).num, .string (F 1).body] 66)).drew := bel_drew ((Below.refl _ _).alloc (Nat.le_refl _) _)
  have t3 : (w2.alloc (.cells #[.int .i64 2, .int .u32 (F 1).ep, .int .u32 (F 1).num, .string (F 1).body] 66)).drew.heap[w2.heap.size]? = some (.cells #[.int .i64 2, .int .u32 (F 1).ep, .int .u32 (F 1).num, .string (F 1).body] 66 (0, 0)) := heap_alloc_new w2 _
  have K3 := hid (K2.out.later b3)
  have P3 := hid (P2.out.later b3)
  have Q3 := hid (Q2.out.later b3)
  have B3 := hid (B2.out.trans (b3.mono B2.out.size))
  clear a0 a1 a2 a3 a4 a5 c0 c1 c2 c3 b3 K2 P2 Q2 B2
  generalize (w2.alloc (.cells #[.int .i64 2, .int .u32 (F 1).ep, .int .u32 (F 1).num, .string (F 1).body] 66)).drew = w3 at *
  obtain ⟨d0, d1, d2, d3, d4, d5, _⟩ := P3.out.cells
  simp only at d0 d1 d2 d3 d4 d5
  obtain ⟨z0, z1, z2, z3, z4, z5, zf⟩ := Q3.out.cells
  have y0 := zf 0
  have y1 := zf 1
  have y2 := zf 2
  have y3 := zf 3
  have y4 := zf 4
  have y5 := zf 5
  have f0 := K3.out.fz 4
  have f1 := K3.out.fz 5
  have f2 := K3.out.fz 6
  have f3 := K3.out.fz 7
  obtain ⟨c0, c1, c2, c3⟩ := K3.out.at1
  have v0 : w3.cell? ⟨w2.heap.size, 0, none⟩ = some (.int .i64 2) := by simp [World.cell?, t3]
  have v1 : w3.cell? ⟨w2.heap.size, 1, none⟩ = some (.int .u32 (F 1).ep) := by simp [World.cell?, t3]
  have v2 : w3.cell? ⟨w2.heap.size, 2, none⟩ = some (.int .u32 (F 1).num) := by simp [World.cell?, t3]
  have m4 : ¬ w2.heap.size = g := by omega
  clear zf t3
  go_wp2_with (go_at_call 27; refine (AC.out _ K3.out).mono ?_; rintro _ w6 ⟨rfl, hb6⟩; rw [show Fr.val ⟨2, 0, 1, (F 1).ep, (F 1).num, (F 1).body⟩ = .agg #[.int .u8 2, .int .u8 0, .int .u8 1, .int .u32 (F 1).ep, .int .u32 (F 1).num, .string (F 1).body] from rfl]; (have B6 := hid (B3.out.trans (hb6.mono B3.out.size))); (obtain ⟨x0, x1, x2, x3, x4, x5, xf⟩ := (Q3.out.later hb6).cells); (have u0 := xf 0); (have u1 := xf 1); (have u2 := xf 2); (have u3 := xf 3); (have u4 := xf 4); (have u5 := xf 5); clear xf)
  refine bodyPost_ret (v := .tuple #[.string ⟨#[]⟩, .bool false, Fr.val ⟨2, 0, 1, (F 1).ep, (F 1).num, (F 1).body⟩, .bool true]) (by simp [results, Try.results10, go_sem, Fr.val, zpk, x0, x1, x2, x3, x4, x5, hne1, hne2, hne3, hne4]) rfl ⟨rfl, ?_⟩
  exact (ou_newS (S := fun _ => False) B6.out (((((((Ou.refl (fun k => k = w.heap.size + 1) _).set rfl).set rfl).set rfl).set rfl).set rfl).set rfl) (fun k e => .inr (by omega))).below (Nat.le_refl _) (fun k e => e.elim)
set_option maxHeartbeats 4000000 in
theorem rkt_1_d3 {w : World} {g : Nat} {F : Nat → Tk} (h : IsRK w g F) (e s : Int) (b : ByteArray) (hp : Fr.Wf ⟨1, 1, 0, e, s, b⟩) (hs : b.size ≤ maxLen) (hr : Fr.rightB ⟨1, 1, 0, e, s, b⟩ = true) (hst : (F 1).st = 2) (hd : ¬ (F 1).ep < e) (he : (e == (F 1).ep) = true) (hx : ¬ (F 1).num < s) (hy : (s == (F 1).num) = false) :
    Calls Try.prog 10 #[pC g, .agg #[.int .u8 1, .int .u8 1, .int .u8 0, .int .u32 e, .int .u32 s, .string b]] w fun x w' => x = .returned (.tuple #[.string ⟨#[]⟩, .bool false, Fr.val zpk, .bool false]) ∧ Below w.heap.size w w' := by
  have RC : Hid (∀ W, Calls Try.prog 26 #[.agg #[.int .u8 1, .int .u8 1, .int .u8 0, .int .u32 e, .int .u32 s, .string b]] W fun x w' => x = .returned (.bool true) ∧ Below W.heap.size W w') := fun W => by
    have := rright_c ⟨1, 1, 0, e, s, b⟩ hp hs W
    rw [hr] at this
    exact this
  have AC : Hid (∀ W, IsRK W g F → Calls Try.prog 27 #[pC g, .int .u8 1] W fun x w' => x = .returned (Fr.val ⟨2, 0, 1, (F 1).ep, (F 1).num, (F 1).body⟩) ∧ Below W.heap.size W w') := fun W hW => ranswer_1 hW
  have hlt := h.lt
  have b1 : Below w.heap.size w (w.alloc (.cells #[.int .u8 1, .int .u8 1, .int .u8 0, .int .u32 e, .int .u32 s, .string b] 26)) := (Below.refl _ _).alloc (Nat.le_refl _) _
  have P1 := PkAt.new w ⟨1, 1, 0, e, s, b⟩
  have b2 : Below (w.alloc (.cells #[.int .u8 1, .int .u8 1, .int .u8 0, .int .u32 e, .int .u32 s, .string b] 26)).heap.size (w.alloc (.cells #[.int .u8 1, .int .u8 1, .int .u8 0, .int .u32 e, .int .u32 s, .string b] 26)) ((w.alloc (.cells #[.int .u8 1, .int .u8 1, .int .u8 0, .int .u32 e, .int .u32 s, .string b] 26)).alloc (.cells #[.int .u8 0, .int .u8 0, .int .u8 0, .int .u32 0, .int .u32 0, .string ⟨#[]⟩] 26)) := (Below.refl _ _).alloc (Nat.le_refl _) _
  have P2 : PkAt ((w.alloc (.cells #[.int .u8 1, .int .u8 1, .int .u8 0, .int .u32 e, .int .u32 s, .string b] 26)).alloc (.cells #[.int .u8 0, .int .u8 0, .int .u8 0, .int .u32 0, .int .u32 0, .string ⟨#[]⟩] 26)) (w.heap.size + 1) zpk := by
    have e0 : (w.alloc (.cells #[.int .u8 1, .int .u8 1, .int .u8 0, .int .u32 e, .int .u32 s, .string b] 26)).heap.size = w.heap.size + 1 := by simp
    rw [← e0]
    exact PkAt.new _ zpk
  have K0 := hid ((h.later b1).later b2)
  have P0 : Hid (PkAt ((w.alloc (.cells #[.int .u8 1, .int .u8 1, .int .u8 0, .int .u32 e, .int .u32 s, .string b] 26)).alloc (.cells #[.int .u8 0, .int .u8 0, .int .u8 0, .int .u32 0, .int .u32 0, .string ⟨#[]⟩] 26)) w.heap.size ⟨1, 1, 0, e, s, b⟩) := hid (P1.later b2)
  have Q0 := hid P2
  have B0 : Hid (Below w.heap.size w ((w.alloc (.cells #[.int .u8 1, .int .u8 1, .int .u8 0, .int .u32 e, .int .u32 s, .string b] 26)).alloc (.cells #[.int .u8 0, .int .u8 0, .int .u8 0, .int .u32 0, .int .u32 0, .string ⟨#[]⟩] 26))) := hid (b1.trans (b2.mono b1.size))
  have hne1 : ¬ g = w.heap.size := by omega
  have hne2 : ¬ g = w.heap.size + 1 := by omega
  have hne3 : ¬ w.heap.size = g := by omega
  have hne4 : ¬ w.heap.size + 1 = g := by omega
  have HST : Hid ((F 1).st = 2) := hst
  have hdd : decide ((F 1).ep < e) = false := decide_eq_false hd
  have hxd : decide ((F 1).num < s) = false := decide_eq_false hx
  clear h hp hs hr b1 P1 b2 P2
  go_enter Try.func10, Try.ntmps10
  go_upto_region 1 with fail
  generalize ((w.alloc (.cells #[.int .u8 1, .int .u8 1, .int .u8 0, .int .u32 e, .int .u32 s, .string b] 26)).alloc (.cells #[.int .u8 0, .int .u8 0, .int .u8 0, .int .u32 0, .int .u32 0, .string ⟨#[]⟩] 26)) = W at *
  obtain ⟨a0, a1, a2, a3, a4, a5, _⟩ := P0.out.cells
  simp only at a0 a1 a2 a3 a4 a5
  go_wp2_with (go_at_call 26; refine (RC.out _).mono ?_; rintro _ w2 ⟨rfl, hb2⟩; (have K2 := hid (K0.out.later hb2)); (have P2 := hid (P0.out.later hb2)); (have Q2 := hid (Q0.out.later hb2)); (have B2 := hid (B0.out.trans (hb2.mono B0.out.size))); clear K0 P0 Q0 B0 hb2 a0 a1 a2 a3 a4 a5; (obtain ⟨a0, a1, a2, a3, a4, a5, _⟩ := P2.out.cells); simp only at a0 a1 a2 a3 a4 a5)
  obtain ⟨c0, c1, c2, c3⟩ := K2.out.at1
  have l1 : w.heap.size < w2.heap.size := P2.out.lt
  have l2 : w.heap.size + 1 < w2.heap.size := Q2.out.lt
  have l3 : g < w2.heap.size := K2.out.lt
  have m1 : ¬ w.heap.size = w2.heap.size := by omega
  have m2 : ¬ w.heap.size + 1 = w2.heap.size := by omega
  have m3 : ¬ g = w2.heap.size := by omega
  rw [HST.out] at c0
  go_region
  have b3 : Below w2.heap.size w2 (w2.alloc (.cells #[.int .i64 2, .int .u32 (F 1).ep, .int .u32 (F 1).num, .string (F 1).body] 66)).drew := bel_drew ((Below.refl _ _).alloc (Nat.le_refl _) _)
  have t3 : (w2.alloc (.cells #[.int .i64 2, .int .u32 (F 1).ep, .int .u32 (F 1).num, .string (F 1).body] 66)).drew.heap[w2.heap.size]? = some (.cells #[.int .i64 2, .int .u32 (F 1).ep, .int .u32 (F 1).num, .string (F 1).body] 66 (0, 0)) := heap_alloc_new w2 _
  have K3 := hid (K2.out.later b3)
  have P3 := hid (P2.out.later b3)
  have Q3 := hid (Q2.out.later b3)
  have B3 := hid (B2.out.trans (b3.mono B2.out.size))
  clear a0 a1 a2 a3 a4 a5 c0 c1 c2 c3 b3 K2 P2 Q2 B2
  generalize (w2.alloc (.cells #[.int .i64 2, .int .u32 (F 1).ep, .int .u32 (F 1).num, .string (F 1).body] 66)).drew = w3 at *
  obtain ⟨d0, d1, d2, d3, d4, d5, _⟩ := P3.out.cells
  simp only at d0 d1 d2 d3 d4 d5
  obtain ⟨z0, z1, z2, z3, z4, z5, zf⟩ := Q3.out.cells
  have y0 := zf 0
  have y1 := zf 1
  have y2 := zf 2
  have y3 := zf 3
  have y4 := zf 4
  have y5 := zf 5
  have f0 := K3.out.fz 4
  have f1 := K3.out.fz 5
  have f2 := K3.out.fz 6
  have f3 := K3.out.fz 7
  obtain ⟨c0, c1, c2, c3⟩ := K3.out.at1
  have v0 : w3.cell? ⟨w2.heap.size, 0, none⟩ = some (.int .i64 2) := by simp [World.cell?, t3]
  have v1 : w3.cell? ⟨w2.heap.size, 1, none⟩ = some (.int .u32 (F 1).ep) := by simp [World.cell?, t3]
  have v2 : w3.cell? ⟨w2.heap.size, 2, none⟩ = some (.int .u32 (F 1).num) := by simp [World.cell?, t3]
  have m4 : ¬ w2.heap.size = g := by omega
  clear zf t3
  go_wp2
  refine bodyPost_ret (v := .tuple #[.string ⟨#[]⟩, .bool false, Fr.val zpk, .bool false]) (by simp [results, Try.results10, go_sem, Fr.val, zpk, z0, z1, z2, z3, z4, z5, hne1, hne2, hne3, hne4]) rfl ⟨rfl, ?_⟩
  exact (ou_newS (S := fun _ => False) B3.out (((((((Ou.refl (fun k => k = w.heap.size + 1) _).set rfl).set rfl).set rfl).set rfl).set rfl).set rfl) (fun k e => .inr (by omega))).below (Nat.le_refl _) (fun k e => e.elim)
end Go.Proofs.Ytmoeljieafninaa
