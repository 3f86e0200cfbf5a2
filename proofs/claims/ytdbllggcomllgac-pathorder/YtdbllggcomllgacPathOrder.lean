/-
  For every three texts, nothing lies below itself, what lies below what lies below a third one lies below that, of two not each lies below the other one, and live holds.
-/
import Derived.Test.YtdbllggcomllgacPUses
import Derived.ChangeOld
import Derived.Below
namespace Go.Proofs.Ytdbllggcomllgac
open Go.ChangeShapes Go.WideShapes Go.ChangeAt Go.RowKit
open Go.ChangeMaps (open_string shut_string)
set_option linter.unusedVariables false
set_option maxHeartbeats 1000000 in
theorem pathOrder_f (a b c : ByteArray) (ha : a.size ≤ maxLen) (hb : b.size ≤ maxLen) (hc : c.size ≤ maxLen) (w : World) (hp : Pa.belowB a.data.toList b.data.toList = false) :
    Calls Try.prog 6 #[.string a, .string b, .string c] w fun e w' => e = .returned (.bool true) ∧ Below w.heap.size w w' := by
  have H0 := hid' (Pa.below_self a.data.toList)
  have Khp := hid' hp
  clear hp
  go_enter Try.func6, Try.ntmps6
  go_wp2_with fail
  refine (plive_c _).mono ?_
  rintro e w1 ⟨rfl, hb1⟩
  go_wp2_with fail
  refine (below_c a a _ ha ha).mono ?_
  rintro e w2 ⟨rfl, hb2⟩
  rw [H0.out]
  go_wp2_with fail
  refine (below_c a b _ ha hb).mono ?_
  rintro e w3 ⟨rfl, hb3⟩
  rw [Khp.out]
  go_wp2_with fail
  refine (below_c a b _ ha hb).mono ?_
  rintro e w4 ⟨rfl, hb4⟩
  rw [Khp.out]
  go_wp2
  go_ret
  have s1 := hb1.size
  have s2 := hb2.size
  have s3 := hb3.size
  have s4 := hb4.size
  exact ⟨rfl, (((hb1).trans (hb2.mono (by omega))).trans (hb3.mono (by omega))).trans (hb4.mono (by omega))⟩
set_option maxHeartbeats 1000000 in
theorem pathOrder_tf (a b c : ByteArray) (ha : a.size ≤ maxLen) (hb : b.size ≤ maxLen) (hc : c.size ≤ maxLen) (w : World) (hp : Pa.belowB a.data.toList b.data.toList = true) (hq : Pa.belowB b.data.toList c.data.toList = false) (ht : Pa.belowB b.data.toList a.data.toList = false) :
    Calls Try.prog 6 #[.string a, .string b, .string c] w fun e w' => e = .returned (.bool true) ∧ Below w.heap.size w w' := by
  have H0 := hid' (Pa.below_self a.data.toList)
  have Khp := hid' hp
  clear hp
  have Khq := hid' hq
  clear hq
  have Kht := hid' ht
  clear ht
  go_enter Try.func6, Try.ntmps6
  go_wp2_with fail
  refine (plive_c _).mono ?_
  rintro e w1 ⟨rfl, hb1⟩
  go_wp2_with fail
  refine (below_c a a _ ha ha).mono ?_
  rintro e w2 ⟨rfl, hb2⟩
  rw [H0.out]
  go_wp2_with fail
  refine (below_c a b _ ha hb).mono ?_
  rintro e w3 ⟨rfl, hb3⟩
  rw [Khp.out]
  go_wp2_with fail
  refine (below_c b c _ hb hc).mono ?_
  rintro e w4 ⟨rfl, hb4⟩
  rw [Khq.out]
  go_wp2_with fail
  refine (below_c a b _ ha hb).mono ?_
  rintro e w5 ⟨rfl, hb5⟩
  rw [Khp.out]
  go_wp2_with fail
  refine (below_c b a _ hb ha).mono ?_
  rintro e w6 ⟨rfl, hb6⟩
  rw [Kht.out]
  go_wp2
  go_ret
  have s1 := hb1.size
  have s2 := hb2.size
  have s3 := hb3.size
  have s4 := hb4.size
  have s5 := hb5.size
  have s6 := hb6.size
  exact ⟨rfl, (((((hb1).trans (hb2.mono (by omega))).trans (hb3.mono (by omega))).trans (hb4.mono (by omega))).trans (hb5.mono (by omega))).trans (hb6.mono (by omega))⟩
set_option maxHeartbeats 1000000 in
theorem pathOrder_tt (a b c : ByteArray) (ha : a.size ≤ maxLen) (hb : b.size ≤ maxLen) (hc : c.size ≤ maxLen) (w : World) (hp : Pa.belowB a.data.toList b.data.toList = true) (hq : Pa.belowB b.data.toList c.data.toList = true) (hr : Pa.belowB a.data.toList c.data.toList = true) (ht : Pa.belowB b.data.toList a.data.toList = false) :
    Calls Try.prog 6 #[.string a, .string b, .string c] w fun e w' => e = .returned (.bool true) ∧ Below w.heap.size w w' := by
  have H0 := hid' (Pa.below_self a.data.toList)
  have Khp := hid' hp
  clear hp
  have Khq := hid' hq
  clear hq
  have Khr := hid' hr
  clear hr
  have Kht := hid' ht
  clear ht
  go_enter Try.func6, Try.ntmps6
  go_wp2_with fail
  refine (plive_c _).mono ?_
  rintro e w1 ⟨rfl, hb1⟩
  go_wp2_with fail
  refine (below_c a a _ ha ha).mono ?_
  rintro e w2 ⟨rfl, hb2⟩
  rw [H0.out]
  go_wp2_with fail
  refine (below_c a b _ ha hb).mono ?_
  rintro e w3 ⟨rfl, hb3⟩
  rw [Khp.out]
  go_wp2_with fail
  refine (below_c b c _ hb hc).mono ?_
  rintro e w4 ⟨rfl, hb4⟩
  rw [Khq.out]
  go_wp2_with fail
  refine (below_c a c _ ha hc).mono ?_
  rintro e w5 ⟨rfl, hb5⟩
  rw [Khr.out]
  go_wp2_with fail
  refine (below_c a b _ ha hb).mono ?_
  rintro e w6 ⟨rfl, hb6⟩
  rw [Khp.out]
  go_wp2_with fail
  refine (below_c b a _ hb ha).mono ?_
  rintro e w7 ⟨rfl, hb7⟩
  rw [Kht.out]
  go_wp2
  go_ret
  have s1 := hb1.size
  have s2 := hb2.size
  have s3 := hb3.size
  have s4 := hb4.size
  have s5 := hb5.size
  have s6 := hb6.size
  have s7 := hb7.size
  exact ⟨rfl, ((((((hb1).trans (hb2.mono (by omega))).trans (hb3.mono (by omega))).trans (hb4.mono (by omega))).trans (hb5.mono (by omega))).trans (hb6.mono (by omega))).trans (hb7.mono (by omega))⟩
theorem pathOrder_walk (a : ByteArray) (ha : a.size ≤ maxLen) (b : ByteArray) (hb : b.size ≤ maxLen) (c : ByteArray) (hc : c.size ≤ maxLen) (w : World) :
    Calls Try.prog 6 #[.string a, .string b, .string c] w fun e w' => e = .returned (.bool true) ∧ Below w.heap.size w w' := by
  cases hp : Pa.belowB a.data.toList b.data.toList with
  | false => exact pathOrder_f a b c ha hb hc w hp
  | true =>
    cases hq : Pa.belowB b.data.toList c.data.toList with
    | false => exact pathOrder_tf a b c ha hb hc w hp hq (Pa.below_anti hp)
    | true => exact pathOrder_tt a b c ha hb hc w hp hq (Pa.below_trans hp hq) (Pa.below_anti hp)
/-! ### The row of PathOrder -/
theorem pathOrder_own : ownKnob Try.prog.godebug = none := by kernel_rfl
theorem pathOrder_laidOut : laidOutB Try.prog = true := by kernel_rfl
set_option maxRecDepth 100000 in
theorem pathOrder_lifted (os : Os) (started : os.Started) (H : Type) (enc : TypeId × Value → H) :
    ReturnsInHanded {} Try.checked os 6 .any (Rows.pathOrderSpec.pre6 enc Try.prog Try.f6 Rows.pathOrderRow.domain false) (Rows.pathOrderSpec.post enc Try.prog Try.f6 false true false false) := by
  refine returnsInHanded_of_change (C := Try.checked) pathOrder_own started (by kernel_rfl) Try.func6
    (ChangeSpec.witness6 (enc := enc) (C := Try.checked) false ⟨#[], #[.string ByteArray.empty, .string ByteArray.empty, .string ByteArray.empty], []⟩ 8 (by kernel_rfl) (by kernel_rfl) (by kernel_rfl) (by kernel_rfl)) ?_
  intro W base args ds gs before hval0 hW hcnd _
  have hval : ∀ (j : Nat) t v, Try.f6.params[j]? = some t → args[j]? = some v → Value.okWide Try.prog W .any base t v := hval0
  have hW' := hW
  obtain ⟨p, q, hA0, hV, rfl, hfz, hnd⟩ := hW
  have hA : DataW.TrodAll enc Try.prog W 0 (fun _ => true) true Try.f6.params.toList args.toList ds p := hA0
  rw [Try.params6] at hA hval
  obtain ⟨v0, vs0, d0, ds0, p0, q0, hargs, rfl, rfl, h0, r0⟩ := trodAll_cons hA
  obtain ⟨v1, vs1, d1, ds1, p1, q1, rfl, rfl, rfl, h1, r1⟩ := trodAll_cons r0
  obtain ⟨v2, vs2, d2, ds2, p2, q2, rfl, rfl, rfl, h2, r2⟩ := trodAll_cons r1
  obtain ⟨rfl, rfl, rfl⟩ := trodAll_nil r2
  obtain rfl : args = #[v0, v1, v2] := by cases args; simp_all
  obtain ⟨rfl, rfl⟩ := trodVars_none hV
  obtain ⟨a0, rfl, rfl, rfl, w0⟩ := open_string Try.underlying9 (hval 0 9 v0 rfl rfl) h0
  obtain ⟨a1, rfl, rfl, rfl, w1⟩ := open_string Try.underlying9 (hval 1 9 v1 rfl rfl) h1
  obtain ⟨a2, rfl, rfl, rfl, w2⟩ := open_string Try.underlying9 (hval 2 9 v2 rfl rfl) h2
  clear hA0 hval0
  refine (pathOrder_walk a0 w0 a1 w1 a2 w2 W).mono fun e W' ⟨he, bel⟩ => ?_
  subst he
  exact ⟨_, rfl, _, _, _, [], _, [], hW', trodAll_mk1 (shut_bool Try.underlying4 _), (trodAll_cons_mk (shut_string Try.underlying9 w0) (trodAll_cons_mk (shut_string Try.underlying9 w1) (trodAll_cons_mk (shut_string Try.underlying9 w2) trodAll_mk0))), rfl, bel.frame _, fun h => by cases h⟩
theorem pathOrder_over : Rows.pathOrderRow.holds Try.pinned (OpenSpec.ofChange Rows.pathOrderSpec) :=
  OpenClaim.holds_of_wide 6 Try.f6 rfl rfl rfl rfl rfl rfl rfl ⟨rfl, rfl, rfl, rfl, rfl⟩ rfl rfl rfl rfl rfl (by kernel_rfl) Try.func6 (by kernel_rfl)
    (of_decide_eq_true (by kernel_rfl)) (by unfold Func.isWrapper; first | (rw [if_pos (by decide +kernel)]; kernel_rfl) | (rw [if_neg (by decide +kernel)]; exact ⟨rfl, rfl⟩))
    (fun os started H enc _ => pathOrder_lifted os started H enc)
/-- The statement. -/
theorem pathOrder_holds : Rows.PathOrderSaid := pathOrder_over
#print axioms pathOrder_holds
end Go.Proofs.Ytdbllggcomllgac
