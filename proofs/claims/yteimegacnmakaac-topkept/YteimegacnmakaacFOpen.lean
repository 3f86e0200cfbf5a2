/-
  What is read of a packet that came in.
-/
import Derived.Test.YteimegacnmakaacFDec
import Derived.ChangeArms
import Derived.ChangeOld
import Derived.Below
namespace Go.Proofs.Yteimegacnmakaac
open Go.RowKit Go.ChangeShapes Go.WideShapes Go.ChangeAt
set_option linter.unusedVariables false
set_option linter.unusedSimpArgs false
set_option maxRecDepth 100000
theorem trod_packet {H : Type} {enc : TypeId × Value → H} {W : World} {cs : List Value} {fuel : Nat} {x : DataW H × List MemPlace} {sp : Nat → Bool} {hd : Bool} {b0 : Nat} (hf : DataW.trod enc Try.prog W b0 sp hd fuel 43 cs = some x) :
    ∃ q : Fr.Pk, cs = [.int .u8 q.k, .int .u8 q.f, .int .u8 q.t, .int .u32 q.e, .int .u32 q.s, .string q.b] ∧ Fr.Wf q ∧ q.b.size ≤ maxLen := by
  obtain ⟨xs, m, _, _, hlc, hlen, hel⟩ := DataW.trod_struct Try.underlying43 hf
  have hct : Try.prog.cellsOf 43 = 6 := by kernel_rfl
  have e1 : Try.prog.cellsOf 40 = 1 := by kernel_rfl
  have e2 : Try.prog.cellsOf 5 = 1 := by kernel_rfl
  have e3 : Try.prog.cellsOf 41 = 1 := by kernel_rfl
  have e4 : Try.prog.cellsOf 9 = 1 := by kernel_rfl
  rw [hct] at hlc
  match cs, hlc with
  | [c0, c1, c2, c3, c4, c5], _ =>
    match xs, hlen with
    | [x0, x1, x2, x3, x4, x5], _ =>
      have h0 := hel 0 _ rfl
      have h1 := hel 1 _ rfl
      have h2 := hel 2 _ rfl
      have h3 := hel 3 _ rfl
      have h4 := hel 4 _ rfl
      have h5 := hel 5 _ rfl
      simp [e1, e2, e3, e4] at h0 h1 h2 h3 h4 h5
      obtain ⟨n0, q0, _, w0⟩ := DataW.trod_int Try.underlying40 h0
      obtain ⟨n1, q1, _, w1⟩ := DataW.trod_int Try.underlying5 h1
      obtain ⟨n2, q2, _, w2⟩ := DataW.trod_int Try.underlying5 h2
      obtain ⟨n3, q3, _, w3⟩ := DataW.trod_int Try.underlying41 h3
      obtain ⟨n4, q4, _, w4⟩ := DataW.trod_int Try.underlying41 h4
      obtain ⟨s5, q5, _, w5⟩ := DataW.trod_string Try.underlying9 h5
      simp at q0 q1 q2 q3 q4 q5
      subst q0 q1 q2 q3 q4 q5
      exact ⟨⟨n0, n1, n2, n3, n4, s5⟩, rfl, ⟨bd_u8 w0, bd_u8 w1, bd_u8 w2, bd_u32 w3, bd_u32 w4⟩, w5⟩
theorem open_packet {H : Type} {enc : TypeId × Value → H} {W : World} {r : Reach} {b0 : Nat} {v : Value} {d : DataW H} {p : List MemPlace}
    (hv : Value.okWide Try.prog W r b0 43 v) (h : DataW.Trod enc Try.prog W 0 (fun _ => true) true 43 v d p) :
    ∃ q : Fr.Pk, v = Fr.val q ∧ Fr.Wf q ∧ q.b.size ≤ maxLen := by
  simp only [Value.okWide, Try.underlying43] at hv
  obtain ⟨cs, rfl, hsz, _⟩ := hv
  obtain ⟨fuel, hf⟩ := h
  obtain ⟨q, hq, hw, hs⟩ := trod_packet hf
  refine ⟨q, ?_, hw, hs⟩
  have : cs = #[.int .u8 q.k, .int .u8 q.f, .int .u8 q.t, .int .u32 q.e, .int .u32 q.s, .string q.b] := by
    apply Array.ext'
    simpa [Value.cells] using hq
  rw [this]; rfl
theorem own_empty8 (w : World) : (w.alloc (.cells #[] 5)).ownsRow w.heap.size 5 1 (.slice (some ⟨w.heap.size, 0, none⟩) 0 0) 0 [] :=
  ⟨rfl, .inr ⟨w.heap.size, 0, #[], rfl, Nat.le_refl _, heap_alloc_new w _, Nat.le_refl _, Nat.zero_le _, rfl, rfl⟩⟩
theorem own_cells8 {w : World} {base : Nat} {zs : List Int} {b : Addr} {cap : Nat} (h : w.ownsRow base 5 1 (.slice (some b) zs.length cap) zs.length (zs.map u8V)) : ∀ j u, (zs.map u8V)[j]? = some u → w.cell? (b.add j) = some u := by
  obtain ⟨g, cap', rfl, _⟩ : ∃ g cap', b = ⟨g, 0, none⟩ ∧ cap' = cap := by
    rcases h.2 with ⟨h1, _⟩ | ⟨g, cap', cur, h1, _⟩
    · cases h1
    · cases h1; exact ⟨g, _, rfl, rfl⟩
  exact h.cells rfl
theorem pk_ext {k f t e s k' f' t' e' s' : Int} {b b' : ByteArray} (h1 : k' = k) (h2 : f' = f) (h3 : t' = t) (h4 : e' = e) (h5 : s' = s) (h6 : b'.toList = b.toList) : (⟨k', f', t', e', s', b'⟩ : Fr.Pk) = ⟨k, f, t, e, s, b⟩ := by
  rw [Lib.toList_data, Lib.toList_data] at h6
  have : b' = b := by
    cases b'; cases b
    simp only [ByteArray.mk.injEq]
    exact Array.ext' h6
  subst h1 h2 h3 h4 h5 this
  rfl
theorem bd_u16 {a : Int} (h : (Lit.int .u16 a).wf = true) : 0 ≤ a ∧ a < 65536 := by
  simp [Lit.wf, IntKind.min, IntKind.max, IntKind.signed, IntKind.bits] at h; omega
end Go.Proofs.Yteimegacnmakaac
