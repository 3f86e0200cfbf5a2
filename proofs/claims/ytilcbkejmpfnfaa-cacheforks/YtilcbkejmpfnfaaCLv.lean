/-
  What must be whatever is asked of caches; what is read of a deed that came in.
-/
import Derived.Test.YtilcbkejmpfnfaaCPu
namespace Go.Proofs.Ytilcbkejmpfnfaa
open Go.RowKit Go.ChangeShapes Go.WideShapes Go.ChangeAt Go.Maps Go.Shelf
set_option linter.unusedVariables false
set_option linter.unusedSimpArgs false
set_option maxRecDepth 100000
def lv0 : Ca := ⟨1, 0, 0, fun _ => none, 0, fun _ => none⟩
def lv1 : Ca := lv0.useS 5
def lv2 : Ca := lv1.markS 5 true
theorem rise0 : RiseF lv0.f [] := ⟨List.Pairwise.nil, fun x => by simp [lv0]⟩
theorem rise2 : RiseF lv2.f [5] := ⟨by simp, fun x => by
  show x ∈ [5] ↔ (updF (updF lv0.f 5 _) 5 _ x).isSome = true
  unfold updF
  by_cases h : x = 5
  · simp [h]
  · simp [h, lv0]⟩
theorem lv_put5 : lv0.putR 5 (lv0.nextOf []) = (0, 0) ∧ lv0.putS 5 (lv0.nextOf []) = lv1 := ⟨by rfl, by rfl⟩
theorem lv_put6 : lv2.putR 6 (lv2.nextOf [5]) = (0, 4) ∧ lv2.putS 6 (lv2.nextOf [5]) = lv2 := ⟨by rfl, by rfl⟩
theorem lv_has : lv1.has 5 = true ∧ lv2.has 5 = true ∧ lv2.dirtyB 5 = true ∧ lv2.has 6 = false := ⟨rfl, rfl, rfl, rfl⟩
set_option maxHeartbeats 2000000 in
theorem clive_c (w : World) : Calls Try.prog 10 #[] w fun e w' => e = .returned (.bool true) ∧ Below w.heap.size w w' := by
  have P5 : Hid (∀ W g b1 b2, IsCa W g b1 b2 lv0 → Calls Try.prog 13 #[pA g, .int .u32 5] W fun e w' => e = .returned (.tuple #[.int .u32 0, .int .i64 0]) ∧ IsCa w' g b1 b2 lv1 ∧ Ou (Tri g b1 b2) W w') := hid (fun W g b1 b2 h => by
    have := put_c h (by decide) (by decide) (by decide) rise0 (i := 5) (by decide) (by decide)
    rw [lv_put5.1, lv_put5.2] at this
    exact this)
  have M5 : Hid (∀ W g b1 b2, IsCa W g b1 b2 lv1 → Calls Try.prog 25 #[pA g, .int .u32 5, .bool true] W fun e w' => e = .returned (.int .i64 0) ∧ IsCa w' g b1 b2 lv2 ∧ Ou (Tri g b1 b2) W w') := hid (fun W g b1 b2 h => by
    have := mark_c h (by decide) (i := 5) (by decide) (by decide) true
    rw [lv_has.1] at this
    exact this)
  have P6 : Hid (∀ W g b1 b2, IsCa W g b1 b2 lv2 → Calls Try.prog 13 #[pA g, .int .u32 6] W fun e w' => e = .returned (.tuple #[.int .u32 0, .int .i64 4]) ∧ IsCa w' g b1 b2 lv2 ∧ Ou (Tri g b1 b2) W w') := hid (fun W g b1 b2 h => by
    have := put_c h (by decide) (by decide) (by decide) rise2 (i := 6) (by decide) (by decide)
    rw [lv_put6.1, lv_put6.2] at this
    exact this)
  have H5 : Hid (∀ W g b1 b2, IsCa W g b1 b2 lv2 → Calls Try.prog 14 #[pA g, .int .u32 5] W fun e w' => e = .returned (.bool true) ∧ Below W.heap.size W w') := hid (fun W g b1 b2 h => has_c h (i := 5) (by decide) (by decide))
  have D5 : Hid (∀ W g b1 b2, IsCa W g b1 b2 lv2 → Calls Try.prog 16 #[pA g, .int .u32 5] W fun e w' => e = .returned (.bool true) ∧ w' = W) := hid (fun W g b1 b2 h => dirty_c h (i := 5) (by decide) (by decide))
  have H6 : Hid (∀ W g b1 b2, IsCa W g b1 b2 lv2 → Calls Try.prog 14 #[pA g, .int .u32 6] W fun e w' => e = .returned (.bool false) ∧ Below W.heap.size W w') := hid (fun W g b1 b2 h => has_c h (i := 6) (by decide) (by decide))
  go_enter Try.func10, Try.ntmps10
  go_wp2_with fail
  refine (new_c 1 (by decide) (by decide) w).mono ?_
  rintro _ w1 ⟨rfl, h1, b1⟩
  have H1 : Hid (IsCa w1 (w.heap.size + 2) w.heap.size (w.heap.size + 1) lv0) := hid h1
  have B1 := hid b1
  have T : Hid (∀ k, Tri (w.heap.size + 2) w.heap.size (w.heap.size + 1) k → w.heap.size ≤ k) := hid (fun k h => by rcases h with h | h | h <;> omega)
  clear h1 b1
  go_wp2_with fail
  refine (P5.out _ _ _ _ H1.out).mono ?_
  rintro _ w2 ⟨rfl, h2, o2⟩
  have H2 := hid h2
  have B2 := hid (B1.out.trans (o2.below B1.out.size T.out))
  clear h2 o2
  go_wp2_with fail
  refine (M5.out _ _ _ _ H2.out).mono ?_
  rintro _ w3 ⟨rfl, h3, o3⟩
  have H3 := hid h3
  have B3 := hid (B2.out.trans (o3.below B2.out.size T.out))
  clear h3 o3
  go_wp2_with fail
  refine (P6.out _ _ _ _ H3.out).mono ?_
  rintro _ w4 ⟨rfl, h4, o4⟩
  have H4 := hid h4
  have B4 := hid (B3.out.trans (o4.below B3.out.size T.out))
  clear h4 o4
  go_wp2_with fail
  refine (H5.out _ _ _ _ H4.out).mono ?_
  rintro _ w5 ⟨rfl, b5⟩
  have H5' := hid (H4.out.later b5)
  have B5 := hid (B4.out.trans (b5.mono B4.out.size))
  clear b5
  go_wp2_with fail
  refine (D5.out _ _ _ _ H5'.out).mono ?_
  rintro _ w6 ⟨rfl, e6⟩
  rw [e6]
  clear e6
  go_wp2_with fail
  refine (H6.out _ _ _ _ H5'.out).mono ?_
  rintro _ w7 ⟨rfl, b7⟩
  have B7 := hid (B5.out.trans (b7.mono B5.out.size))
  clear b7
  go_wp2_with fail
  go_ret
  exact ⟨rfl, B7.out⟩
/-- A deed. -/
structure Dc where
  k : Int
  f : Int
  dirty : Bool
  dear : Int
def Dc.cells (x : Dc) : List Value := [.int .i64 x.k, .int .u32 x.f, .bool x.dirty, .int .i64 x.dear]
def Dc.val (x : Dc) : Value := .agg #[.int .i64 x.k, .int .u32 x.f, .bool x.dirty, .int .i64 x.dear]
def Dc.Wf (x : Dc) : Prop := (-9223372036854775808 ≤ x.k ∧ x.k < 9223372036854775808) ∧ (0 ≤ x.f ∧ x.f < 4294967296) ∧ (-9223372036854775808 ≤ x.dear ∧ x.dear < 9223372036854775808)
theorem trod_dc {H : Type} {enc : TypeId × Value → H} {W : World} {cs : List Value} {fuel : Nat} {x : DataW H × List MemPlace} {sp : Nat → Bool} {hd : Bool} {b0 : Nat} (hf : DataW.trod enc Try.prog W b0 sp hd fuel 47 cs = some x) :
    ∃ q : Dc, cs = q.cells ∧ q.Wf := by
  obtain ⟨xs, m, _, _, hlc, hlen, hel⟩ := DataW.trod_struct Try.underlying47 hf
  have hct : Try.prog.cellsOf 47 = 4 := by kernel_rfl
  have e1 : Try.prog.cellsOf 3 = 1 := by kernel_rfl
  have e2 : Try.prog.cellsOf 24 = 1 := by kernel_rfl
  have e5 : Try.prog.cellsOf 4 = 1 := by kernel_rfl
  rw [hct] at hlc
  match cs, hlc with
  | [c0, c1, c2, c3], _ =>
    match xs, hlen with
    | [x0, x1, x2, x3], _ =>
      have h0 := hel 0 _ rfl
      have h1 := hel 1 _ rfl
      have h2 := hel 2 _ rfl
      have h3 := hel 3 _ rfl
      simp [e1, e2, e5] at h0 h1 h2 h3
      obtain ⟨n0, q0, _, w0⟩ := DataW.trod_int Try.underlying3 h0
      obtain ⟨n1, q1, _, w1⟩ := DataW.trod_int Try.underlying24 h1
      obtain ⟨n2, q2, _⟩ := DataW.trod_bool Try.underlying4 h2
      obtain ⟨n3, q3, _, w3⟩ := DataW.trod_int Try.underlying3 h3
      simp at q0 q1 q2 q3
      subst q0 q1 q2 q3
      exact ⟨⟨n0, n1, n2, n3⟩, rfl, bd_i64 w0, bd_u32 w1, bd_i64 w3⟩
theorem open_dc {H : Type} {enc : TypeId × Value → H} {W : World} {r : Reach} {b0 : Nat} {v : Value} {d : DataW H} {p : List MemPlace}
    (hv : Value.okWide Try.prog W r b0 47 v) (h : DataW.Trod enc Try.prog W 0 (fun _ => true) true 47 v d p) :
    ∃ q : Dc, v = q.val ∧ q.Wf := by
  simp only [Value.okWide, Try.underlying47] at hv
  obtain ⟨cs, rfl, hsz, _⟩ := hv
  obtain ⟨fuel, hf⟩ := h
  obtain ⟨q, hq, hw⟩ := trod_dc hf
  refine ⟨q, ?_, hw⟩
  have : cs = q.cells.toArray := by
    apply Array.ext'
    simpa [Value.cells] using hq
  rw [this]; rfl
end Go.Proofs.Ytilcbkejmpfnfaa
