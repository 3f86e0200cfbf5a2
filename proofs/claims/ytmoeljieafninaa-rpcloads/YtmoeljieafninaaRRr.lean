/-
  The document's callee: what is no Ask; Reply.
-/
import Derived.Test.YtmoeljieafninaaRRk
namespace Go.Proofs.Ytmoeljieafninaa
open Go.RowKit Go.ChangeShapes Go.WideShapes Go.ChangeAt
set_option linter.unusedVariables false
set_option linter.unusedSimpArgs false
set_option maxRecDepth 100000
set_option maxHeartbeats 4000000 in
theorem rkt_r (g : Nat) (k f t e s : Int) (b : ByteArray) (w : World) (hp : Fr.Wf ⟨k, f, t, e, s, b⟩) (hs : b.size ≤ maxLen) (hr : Fr.rightB ⟨k, f, t, e, s, b⟩ = false) :
    Calls Try.prog 10 #[pC g, .agg #[.int .u8 k, .int .u8 f, .int .u8 t, .int .u32 e, .int .u32 s, .string b]] w fun x w' => x = .returned (.tuple #[.string ⟨#[]⟩, .bool false, Fr.val zpk, .bool false]) ∧ Below w.heap.size w w' := by
  have RC : Hid (∀ W, Calls Try.prog 26 #[.agg #[.int .u8 k, .int .u8 f, .int .u8 t, .int .u32 e, .int .u32 s, .string b]] W fun x w' => x = .returned (.bool false) ∧ Below W.heap.size W w') := fun W => by
    have := rright_c ⟨k, f, t, e, s, b⟩ hp hs W
    rw [hr] at this
    exact this
  clear hr
  have b1 : Below w.heap.size w (w.alloc (.cells #[.int .u8 k, .int .u8 f, .int .u8 t, .int .u32 e, .int .u32 s, .string b] 26)) := (Below.refl _ _).alloc (Nat.le_refl _) _
  have P1 := PkAt.new w ⟨k, f, t, e, s, b⟩
  have b2 : Below (w.alloc (.cells #[.int .u8 k, .int .u8 f, .int .u8 t, .int .u32 e, .int .u32 s, .string b] 26)).heap.size (w.alloc (.cells #[.int .u8 k, .int .u8 f, .int .u8 t, .int .u32 e, .int .u32 s, .string b] 26)) ((w.alloc (.cells #[.int .u8 k, .int .u8 f, .int .u8 t, .int .u32 e, .int .u32 s, .string b] 26)).alloc (.cells #[.int .u8 0, .int .u8 0, .int .u8 0, .int .u32 0, .int .u32 0, .string ⟨#[]⟩] 26)) := (Below.refl _ _).alloc (Nat.le_refl _) _
  have P2 : PkAt ((w.alloc (.cells #[.int .u8 k, .int .u8 f, .int .u8 t, .int .u32 e, .int .u32 s, .string b] 26)).alloc (.cells #[.int .u8 0, .int .u8 0, .int .u8 0, .int .u32 0, .int .u32 0, .string ⟨#[]⟩] 26)) (w.heap.size + 1) zpk := by
    have e0 : (w.alloc (.cells #[.int .u8 k, .int .u8 f, .int .u8 t, .int .u32 e, .int .u32 s, .string b] 26)).heap.size = w.heap.size + 1 := by simp
    rw [← e0]
    exact PkAt.new _ zpk
  have P0 : Hid (PkAt ((w.alloc (.cells #[.int .u8 k, .int .u8 f, .int .u8 t, .int .u32 e, .int .u32 s, .string b] 26)).alloc (.cells #[.int .u8 0, .int .u8 0, .int .u8 0, .int .u32 0, .int .u32 0, .string ⟨#[]⟩] 26)) w.heap.size ⟨k, f, t, e, s, b⟩) := hid (P1.later b2)
  have Q0 := hid P2
  have B0 : Hid (Below w.heap.size w ((w.alloc (.cells #[.int .u8 k, .int .u8 f, .int .u8 t, .int .u32 e, .int .u32 s, .string b] 26)).alloc (.cells #[.int .u8 0, .int .u8 0, .int .u8 0, .int .u32 0, .int .u32 0, .string ⟨#[]⟩] 26))) := hid (b1.trans (b2.mono b1.size))
  clear hp hs b1 P1 b2 P2
  go_enter Try.func10, Try.ntmps10
  go_upto_region 1 with fail
  generalize ((w.alloc (.cells #[.int .u8 k, .int .u8 f, .int .u8 t, .int .u32 e, .int .u32 s, .string b] 26)).alloc (.cells #[.int .u8 0, .int .u8 0, .int .u8 0, .int .u32 0, .int .u32 0, .string ⟨#[]⟩] 26)) = W at *
  obtain ⟨a0, a1, a2, a3, a4, a5, _⟩ := P0.out.cells
  simp only at a0 a1 a2 a3 a4 a5
  go_wp2_with (go_at_call 26; refine (RC.out _).mono ?_; rintro _ w2 ⟨rfl, hb2⟩; (have B2 := hid (B0.out.trans (hb2.mono B0.out.size))); (obtain ⟨z0, z1, z2, z3, z4, z5, zf⟩ := (Q0.out.later hb2).cells); (have y0 := zf 0); (have y1 := zf 1); (have y2 := zf 2); (have y3 := zf 3); (have y4 := zf 4); (have y5 := zf 5); clear zf a0 a1 a2 a3 a4 a5; (obtain ⟨a0, a1, a2, a3, a4, a5, _⟩ := (P0.out.later hb2).cells); simp only at a0 a1 a2 a3 a4 a5)
  refine bodyPost_ret (v := .tuple #[.string ⟨#[]⟩, .bool false, Fr.val zpk, .bool false]) (by simp [results, Try.results10, go_sem, Fr.val, zpk, z0, z1, z2, z3, z4, z5]) rfl ⟨rfl, ?_⟩
  exact (ou_newS (S := fun _ => False) B2.out (((((((Ou.refl (fun k => k = w.heap.size + 1) _).set rfl).set rfl).set rfl).set rfl).set rfl).set rfl) (fun k e => .inr (by omega))).below (Nat.le_refl _) (fun k e => e.elim)
set_option maxHeartbeats 4000000 in
theorem rkt_k (g : Nat) (k f t e s : Int) (b : ByteArray) (w : World) (hp : Fr.Wf ⟨k, f, t, e, s, b⟩) (hs : b.size ≤ maxLen) (hr : Fr.rightB ⟨k, f, t, e, s, b⟩ = true) (hk : (k != 1) = true) :
    Calls Try.prog 10 #[pC g, .agg #[.int .u8 k, .int .u8 f, .int .u8 t, .int .u32 e, .int .u32 s, .string b]] w fun x w' => x = .returned (.tuple #[.string ⟨#[]⟩, .bool false, Fr.val zpk, .bool false]) ∧ Below w.heap.size w w' := by
  have RC : Hid (∀ W, Calls Try.prog 26 #[.agg #[.int .u8 k, .int .u8 f, .int .u8 t, .int .u32 e, .int .u32 s, .string b]] W fun x w' => x = .returned (.bool true) ∧ Below W.heap.size W w') := fun W => by
    have := rright_c ⟨k, f, t, e, s, b⟩ hp hs W
    rw [hr] at this
    exact this
  clear hr
  have b1 : Below w.heap.size w (w.alloc (.cells #[.int .u8 k, .int .u8 f, .int .u8 t, .int .u32 e, .int .u32 s, .string b] 26)) := (Below.refl _ _).alloc (Nat.le_refl _) _
  have P1 := PkAt.new w ⟨k, f, t, e, s, b⟩
  have b2 : Below (w.alloc (.cells #[.int .u8 k, .int .u8 f, .int .u8 t, .int .u32 e, .int .u32 s, .string b] 26)).heap.size (w.alloc (.cells #[.int .u8 k, .int .u8 f, .int .u8 t, .int .u32 e, .int .u32 s, .string b] 26)) ((w.alloc (.cells #[.int .u8 k, .int .u8 f, .int .u8 t, .int .u32 e, .int .u32 s, .string b] 26)).alloc (.cells #[.int .u8 0, .int .u8 0, .int .u8 0, .int .u32 0, .int .u32 0, .string ⟨#[]⟩] 26)) := (Below.refl _ _).alloc (Nat.le_refl _) _
  have P2 : PkAt ((w.alloc (.cells #[.int .u8 k, .int .u8 f, .int .u8 t, .int .u32 e, .int .u32 s, .string b] 26)).alloc (.cells #[.int .u8 0, .int .u8 0, .int .u8 0, .int .u32 0, .int .u32 0, .string ⟨#[]⟩] 26)) (w.heap.size + 1) zpk := by
    have e0 : (w.alloc (.cells #[.int .u8 k, .int .u8 f, .int .u8 t, .int .u32 e, .int .u32 s, .string b] 26)).heap.size = w.heap.size + 1 := by simp
    rw [← e0]
    exact PkAt.new _ zpk
  have P0 : Hid (PkAt ((w.alloc (.cells #[.int .u8 k, .int .u8 f, .int .u8 t, .int .u32 e, .int .u32 s, .string b] 26)).alloc (.cells #[.int .u8 0, .int .u8 0, .int .u8 0, .int .u32 0, .int .u32 0, .string ⟨#[]⟩] 26)) w.heap.size ⟨k, f, t, e, s, b⟩) := hid (P1.later b2)
  have Q0 := hid P2
  have B0 : Hid (Below w.heap.size w ((w.alloc (.cells #[.int .u8 k, .int .u8 f, .int .u8 t, .int .u32 e, .int .u32 s, .string b] 26)).alloc (.cells #[.int .u8 0, .int .u8 0, .int .u8 0, .int .u32 0, .int .u32 0, .string ⟨#[]⟩] 26))) := hid (b1.trans (b2.mono b1.size))
  clear hp hs b1 P1 b2 P2
  go_enter Try.func10, Try.ntmps10
  go_upto_region 1 with fail
  generalize ((w.alloc (.cells #[.int .u8 k, .int .u8 f, .int .u8 t, .int .u32 e, .int .u32 s, .string b] 26)).alloc (.cells #[.int .u8 0, .int .u8 0, .int .u8 0, .int .u32 0, .int .u32 0, .string ⟨#[]⟩] 26)) = W at *
  obtain ⟨a0, a1, a2, a3, a4, a5, _⟩ := P0.out.cells
  simp only at a0 a1 a2 a3 a4 a5
  go_wp2_with (go_at_call 26; refine (RC.out _).mono ?_; rintro _ w2 ⟨rfl, hb2⟩; (have B2 := hid (B0.out.trans (hb2.mono B0.out.size))); (obtain ⟨z0, z1, z2, z3, z4, z5, zf⟩ := (Q0.out.later hb2).cells); (have y0 := zf 0); (have y1 := zf 1); (have y2 := zf 2); (have y3 := zf 3); (have y4 := zf 4); (have y5 := zf 5); clear zf a0 a1 a2 a3 a4 a5; (obtain ⟨a0, a1, a2, a3, a4, a5, _⟩ := (P0.out.later hb2).cells); simp only at a0 a1 a2 a3 a4 a5)
  refine bodyPost_ret (v := .tuple #[.string ⟨#[]⟩, .bool false, Fr.val zpk, .bool false]) (by simp [results, Try.results10, go_sem, Fr.val, zpk, z0, z1, z2, z3, z4, z5]) rfl ⟨rfl, ?_⟩
  exact (ou_newS (S := fun _ => False) B2.out (((((((Ou.refl (fun k => k = w.heap.size + 1) _).set rfl).set rfl).set rfl).set rfl).set rfl).set rfl) (fun k e => .inr (by omega))).below (Nat.le_refl _) (fun k e => e.elim)
end Go.Proofs.Ytmoeljieafninaa
