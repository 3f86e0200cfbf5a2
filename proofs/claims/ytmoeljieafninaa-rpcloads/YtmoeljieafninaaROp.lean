/-
  What is read of a packet, of a deed, of deeds and of texts that came in.
-/
import Derived.Test.YtmoeljieafninaaRLv
import Derived.SliceStrings
namespace Go.Proofs.Ytmoeljieafninaa
open Go.RowKit Go.ChangeShapes Go.WideShapes Go.ChangeAt
set_option linter.unusedVariables false
set_option linter.unusedSimpArgs false
set_option maxRecDepth 100000
theorem trod_pk {H : Type} {enc : TypeId × Value → H} {W : World} {cs : List Value} {fuel : Nat} {x : DataW H × List MemPlace} {sp : Nat → Bool} {hd : Bool} {b0 : Nat} (hf : DataW.trod enc Try.prog W b0 sp hd fuel 26 cs = some x) :
    ∃ q : Fr.Pk, cs = [.int .u8 q.k, .int .u8 q.f, .int .u8 q.t, .int .u32 q.e, .int .u32 q.s, .string q.b] ∧ Fr.Wf q ∧ q.b.size ≤ maxLen := by
  obtain ⟨xs, m, _, _, hlc, hlen, hel⟩ := DataW.trod_struct Try.underlying26 hf
  have hct : Try.prog.cellsOf 26 = 6 := by kernel_rfl
  have e1 : Try.prog.cellsOf 23 = 1 := by kernel_rfl
  have e2 : Try.prog.cellsOf 5 = 1 := by kernel_rfl
  have e3 : Try.prog.cellsOf 24 = 1 := by kernel_rfl
  have e4 : Try.prog.cellsOf 9 = 1 := by kernel_rfl
  rw [hct] at hlc
  match cs, hlc with
  | [c0, c1, c2, c3, c4, c5], _ =>
    match xs, hlen with
    | [x0, x1, x2, x3, x4, x5], _ =>
      have h0 := hel 0 _ rfl
      have h1 := hel 1 _ rfl
      have h2 := hel 2 _ rfl
      have h3 := hel 3 _ rfl
      have h4 := hel 4 _ rfl
      have h5 := hel 5 _ rfl
      simp [e1, e2, e3, e4] at h0 h1 h2 h3 h4 h5
      obtain ⟨n0, q0, _, w0⟩ := DataW.trod_int Try.underlying23 h0
      obtain ⟨n1, q1, _, w1⟩ := DataW.trod_int Try.underlying5 h1
      obtain ⟨n2, q2, _, w2⟩ := DataW.trod_int Try.underlying5 h2
      obtain ⟨n3, q3, _, w3⟩ := DataW.trod_int Try.underlying24 h3
      obtain ⟨n4, q4, _, w4⟩ := DataW.trod_int Try.underlying24 h4
      obtain ⟨s5, q5, _, w5⟩ := DataW.trod_string Try.underlying9 h5
      simp at q0 q1 q2 q3 q4 q5
      subst q0 q1 q2 q3 q4 q5
      exact ⟨⟨n0, n1, n2, n3, n4, s5⟩, rfl, ⟨bd_u8 w0, bd_u8 w1, bd_u8 w2, bd_u32 w3, bd_u32 w4⟩, w5⟩
theorem open_packet {H : Type} {enc : TypeId × Value → H} {W : World} {r : Reach} {b0 : Nat} {v : Value} {d : DataW H} {p : List MemPlace}
    (hv : Value.okWide Try.prog W r b0 26 v) (h : DataW.Trod enc Try.prog W 0 (fun _ => true) true 26 v d p) :
    ∃ q : Fr.Pk, v = Fr.val q ∧ Fr.Wf q ∧ q.b.size ≤ maxLen := by
  simp only [Value.okWide, Try.underlying26] at hv
  obtain ⟨cs, rfl, hsz, _⟩ := hv
  obtain ⟨fuel, hf⟩ := h
  obtain ⟨q, hq, hw, hs⟩ := trod_pk hf
  refine ⟨q, ?_, hw, hs⟩
  have : cs = #[.int .u8 q.k, .int .u8 q.f, .int .u8 q.t, .int .u32 q.e, .int .u32 q.s, .string q.b] := by
    apply Array.ext'
    simpa [Value.cells] using hq
  rw [this]; rfl
/-- Texts that came in. -/
def IsTx (w : World) (a : Option Addr) (len : Nat) (ss : List ByteArray) : Prop :=
  ss.length = len ∧ len ≤ maxLen ∧ (0 < len → ∃ b off, a = some ⟨b, off, none⟩ ∧ ∀ i, i < len → w.cell? ⟨b, off + i, none⟩ = some (.string (ss.getD i ⟨#[]⟩)))
theorem IsTx.later {w w' : World} {a : Option Addr} {len : Nat} {ss : List ByteArray} (h : IsTx w a len ss) (hb : Below w.heap.size w w') : IsTx w' a len ss := by
  obtain ⟨h1, h2, h3⟩ := h
  refine ⟨h1, h2, fun hp => ?_⟩
  obtain ⟨b, off, e, hc⟩ := h3 hp
  exact ⟨b, off, e, fun i hi => cell_later hb (hc i hi)⟩
theorem isTx_of {H : Type} {enc : TypeId × Value → H} {P : Program} {W : World} {t e : TypeId} {a : Option Addr} {len cap : Nat} {d : DataW H} {p : List MemPlace}
    (ht : P.underlying t = some (.slice e)) (he : P.underlying e = some .string) (hc : P.cellsOf e = 1)
    (h : DataW.Trod enc P W 0 (fun _ => true) true t (.slice a len cap) d p) : ∃ ss, IsTx W a len ss := by
  obtain ⟨fuel, hf⟩ := h
  rcases open_strings ht he hc hf with ⟨hcs, _⟩ | ⟨x, l, c, ss, hcs, _, hl, hm, hz, _, hcell, hws⟩
  · simp [Value.cells] at hcs
    obtain ⟨rfl, rfl, rfl⟩ := hcs
    exact ⟨[], rfl, Nat.zero_le _, fun h => absurd h (by omega)⟩
  · simp [Value.cells] at hcs
    obtain ⟨rfl, rfl, rfl⟩ := hcs
    have hz' : ss.length = cap := by simpa using hz
    refine ⟨ss.take len, by rw [List.length_take]; omega, by omega, fun hp => ?_⟩
    obtain ⟨b, off, spot⟩ := x
    have hc0 := hcell 0 (by omega)
    have hspot : spot = none := by simpa [Addr.add] using World.cell?_spot hc0
    subst hspot
    refine ⟨b, off, rfl, fun i hi => ?_⟩
    have h1 := hcell i (by omega)
    have h2 : (⟨b, off, none⟩ : Addr).add i = ⟨b, off + i, none⟩ := by rcases i with _ | i <;> simp [Addr.add]
    rw [h2] at h1
    rw [h1]
    have hi' : i < ss.length := by omega
    simp [List.getD, hi', List.getElem?_take, hi]
end Go.Proofs.Ytmoeljieafninaa
