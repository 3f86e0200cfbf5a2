/-
  What is read of a deed, and of numbers, that came in.
-/
import Derived.Test.YteimegacnmakaabDLive
import Derived.ChangeArms
import Derived.ChangeOld
import Derived.Below
namespace Go.Proofs.Yteimegacnmakaab
open Go.RowKit Go.ChangeShapes Go.WideShapes Go.ChangeAt
set_option linter.unusedVariables false
set_option linter.unusedSimpArgs false
set_option maxRecDepth 100000
/-- A deed: its kind, a sector's number, a byte, and the numbers that are kept. -/
structure Dd where
  k : Int
  i : Int
  c : Int
  a : Option Addr
  len : Nat
  cap : Nat
  zs : List Int
def Dd.cells (x : Dd) : List Value := [.int .i64 x.k, .int .i64 x.i, .int .u8 x.c, .slice x.a x.len x.cap]
def Dd.val (x : Dd) : Value := .agg #[.int .i64 x.k, .int .i64 x.i, .int .u8 x.c, .slice x.a x.len x.cap]
def Dd.Wf (x : Dd) : Prop := (-9223372036854775808 ≤ x.k ∧ x.k < 9223372036854775808) ∧ (-9223372036854775808 ≤ x.i ∧ x.i < 9223372036854775808) ∧ (0 ≤ x.c ∧ x.c < 256)
theorem isZ_trod {H : Type} {enc : TypeId × Value → H} {P : Program} {W : World} {t e : TypeId} {v : Value} {fuel : Nat} {x : DataW H × List MemPlace} {sp : Nat → Bool} {hd : Bool} {b0 : Nat}
    (ht : P.underlying t = some (.slice e)) (he : P.underlying e = some (.int .i64)) (hc : P.cellsOf e = 1)
    (hf : DataW.trod enc P W b0 sp hd fuel t [v] = some x) (hsp : ∀ k, sp k = true) : ∃ a len cap zs, v = .slice a len cap ∧ IsZ W a len zs := by
  rcases open_ints ht he hc hf with ⟨hcs, _⟩ | ⟨x, l, c, zs, hcs, _, hl, hm, hz, _, hcell, hwz⟩
  · simp at hcs
    exact ⟨none, 0, 0, [], hcs, rfl, Nat.zero_le _, fun h => absurd h (by omega), fun i => by simp⟩
  · simp at hcs
    rw [hsp] at hz
    have hz' : zs.length = c := by simpa using hz
    refine ⟨some x, l, c, zs.take l, hcs, by rw [List.length_take]; omega, by omega, fun hp => ?_, fun i => ?_⟩
    · obtain ⟨b, off, spot⟩ := x
      have hc0 := hcell 0 (by omega)
      have hspot : spot = none := by simpa [Addr.add] using World.cell?_spot hc0
      subst hspot
      refine ⟨b, off, rfl, fun i hi => ?_⟩
      have h := hcell i (by omega)
      have h2 : (⟨b, off, none⟩ : Addr).add i = ⟨b, off + i, none⟩ := by rcases i with _ | i <;> simp [Addr.add]
      rw [h2] at h
      rw [h]
      simp [List.getD, List.getElem?_take, hi]
    · by_cases hi : i < l
      · have hmem : (zs.take l).getD i 0 ∈ zs := by
          have : i < zs.length := by omega
          simp [List.getD, List.getElem?_take, hi, this]
        exact bd_i64 (hwz _ hmem)
      · simp [List.getD, List.getElem?_take, hi]
theorem trod_deed {H : Type} {enc : TypeId × Value → H} {W : World} {cs : List Value} {fuel : Nat} {x : DataW H × List MemPlace} {sp : Nat → Bool} {hd : Bool} {b0 : Nat} (hf : DataW.trod enc Try.prog W b0 sp hd fuel 51 cs = some x) (hsp : ∀ k, sp k = true) :
    ∃ q : Dd, cs = q.cells ∧ q.Wf ∧ IsZ W q.a q.len q.zs := by
  obtain ⟨xs, m, _, _, hlc, hlen, hel⟩ := DataW.trod_struct Try.underlying51 hf
  have hct : Try.prog.cellsOf 51 = 4 := by kernel_rfl
  have e1 : Try.prog.cellsOf 3 = 1 := by kernel_rfl
  have e2 : Try.prog.cellsOf 5 = 1 := by kernel_rfl
  have e4 : Try.prog.cellsOf 45 = 1 := by kernel_rfl
  rw [hct] at hlc
  match cs, hlc with
  | [c0, c1, c2, c3], _ =>
    match xs, hlen with
    | [x0, x1, x2, x3], _ =>
      have h0 := hel 0 _ rfl
      have h1 := hel 1 _ rfl
      have h2 := hel 2 _ rfl
      have h3 := hel 3 _ rfl
      simp [e1, e2, e4] at h0 h1 h2 h3
      obtain ⟨n0, q0, _, w0⟩ := DataW.trod_int Try.underlying3 h0
      obtain ⟨n1, q1, _, w1⟩ := DataW.trod_int Try.underlying3 h1
      obtain ⟨n2, q2, _, w2⟩ := DataW.trod_int Try.underlying5 h2
      obtain ⟨a, l, c, zs, q3, hz⟩ := isZ_trod Try.underlying45 Try.underlying3 e1 h3 hsp
      simp at q0 q1 q2
      subst q0 q1 q2 q3
      exact ⟨⟨n0, n1, n2, a, l, c, zs⟩, rfl, ⟨bd_i64 w0, bd_i64 w1, bd_u8 w2⟩, hz⟩
theorem open_deed {H : Type} {enc : TypeId × Value → H} {W : World} {r : Reach} {b0 : Nat} {v : Value} {d : DataW H} {p : List MemPlace}
    (hv : Value.okWide Try.prog W r b0 51 v) (h : DataW.Trod enc Try.prog W 0 (fun _ => true) true 51 v d p) :
    ∃ q : Dd, v = q.val ∧ q.Wf ∧ IsZ W q.a q.len q.zs := by
  simp only [Value.okWide, Try.underlying51] at hv
  obtain ⟨cs, rfl, hsz, _⟩ := hv
  obtain ⟨fuel, hf⟩ := h
  obtain ⟨q, hq, hw, hs⟩ := trod_deed hf (fun _ => rfl)
  refine ⟨q, ?_, hw, hs⟩
  have : cs = #[.int .i64 q.k, .int .i64 q.i, .int .u8 q.c, .slice q.a q.len q.cap] := by
    apply Array.ext'
    simpa [Value.cells, Dd.cells] using hq
  rw [this]; rfl
end Go.Proofs.Yteimegacnmakaab
