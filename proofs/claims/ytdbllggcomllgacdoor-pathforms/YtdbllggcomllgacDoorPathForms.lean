/-
  For every text, Clean, Dir and Base answer what the document's definition answers, and live holds (where the library's tables read as the program's text lays them, which the card ties).
-/
import Derived.Test.YtdbllggcomllgacDoorPRUses
import Derived.Test.YtdbllggcomllgacDoorCards
import Derived.Test.YtdbllggcomllgacDoorTie
import Derived.ChangeOld
import Derived.Below
import Derived.Deep.DeepHandedRow
import Derived.Lib.LaidTab
import Derived.Shelf.Vars
namespace Go.Proofs.YtdbllggcomllgacDoor
open Go.ChangeShapes Go.WideShapes Go.ChangeAt Go.RowKit
open Go.ChangeMaps (open_string shut_string)
set_option linter.unusedVariables false
set_option maxHeartbeats 1000000 in
theorem pathForms_00 (s : ByteArray) (hs : s.size ≤ maxLen) (w : World) (m : Int) (hmx : w.cell? ⟨0, 0, none⟩ = some (.int .i64 m)) (hc : Pa.cleanF s.data.toList = none) (hd : Pa.dirF s.data.toList = none) (hb : Pa.baseF s.data.toList = none) :
    Calls Tryd.prog 3 #[.string s] w fun e w' => e = .returned (.bool true) ∧ Below w.heap.size w w' := by
  have HC := hid' hc
  have HD := hid' hd
  have HB := hid' hb
  have HX := hid' hmx
  clear hc hd hb hmx
  go_enter Tryd.func3, Tryd.ntmps3
  go_wp2_with fail
  refine ((clean_c s _ hs).mono fun e w' hp => text_not HC.out hp).mono ?_
  rintro e w1 ⟨rfl, hb1⟩
  go_wp2_with fail
  refine ((rclean_c s _ m (cell_later hb1 HX.out) hs).mono fun e w' hp => text_not HC.out hp).mono ?_
  rintro e w2 ⟨rfl, hb2⟩
  go_wp2_with fail
  refine ((dir_c s _ hs).mono fun e w' hp => text_not HD.out hp).mono ?_
  rintro e w3 ⟨rfl, hb3⟩
  go_wp2_with fail
  refine ((rdir_c s _ m (cell_later hb3 (cell_later hb2 (cell_later hb1 HX.out))) hs).mono fun e w' hp => text_not HD.out hp).mono ?_
  rintro e w4 ⟨rfl, hb4⟩
  go_wp2_with fail
  refine ((base_c s _ hs).mono fun e w' hp => text_not HB.out hp).mono ?_
  rintro e w5 ⟨rfl, hb5⟩
  go_wp2_with fail
  refine ((rbase_c s _ m (cell_later hb5 (cell_later hb4 (cell_later hb3 (cell_later hb2 (cell_later hb1 HX.out))))) hs).mono fun e w' hp => text_not HB.out hp).mono ?_
  rintro e w6 ⟨rfl, hb6⟩
  go_wp2_with fail
  refine (plive_c _).mono ?_
  rintro e w7 ⟨rfl, hb7⟩
  go_wp2
  go_ret
  have s1 := hb1.size
  have s2 := hb2.size
  have s3 := hb3.size
  have s4 := hb4.size
  have s5 := hb5.size
  have s6 := hb6.size
  exact ⟨rfl, ((((((hb1).trans (hb2.mono (by omega))).trans (hb3.mono (by omega))).trans (hb4.mono (by omega))).trans (hb5.mono (by omega))).trans (hb6.mono (by omega))).trans (hb7.mono (by omega))⟩
set_option maxHeartbeats 1000000 in
theorem pathForms_01 (s : ByteArray) (hs : s.size ≤ maxLen) (w : World) (m : Int) (hmx : w.cell? ⟨0, 0, none⟩ = some (.int .i64 m)) (hc : Pa.cleanF s.data.toList = none) (d b : List UInt8) (hd : Pa.dirF s.data.toList = some d) (hb : Pa.baseF s.data.toList = some b) :
    Calls Tryd.prog 3 #[.string s] w fun e w' => e = .returned (.bool true) ∧ Below w.heap.size w w' := by
  have HC := hid' hc
  have HD := hid' hd
  have HB := hid' hb
  have HX := hid' hmx
  clear hc hd hb hmx
  go_enter Tryd.func3, Tryd.ntmps3
  go_wp2_with fail
  refine ((clean_c s _ hs).mono fun e w' hp => text_not HC.out hp).mono ?_
  rintro e w1 ⟨rfl, hb1⟩
  go_wp2_with fail
  refine ((rclean_c s _ m (cell_later hb1 HX.out) hs).mono fun e w' hp => text_not HC.out hp).mono ?_
  rintro e w2 ⟨rfl, hb2⟩
  go_wp2_with fail
  refine ((dir_c s _ hs).mono fun e w' hp => text_yes HD.out hp).mono ?_
  rintro e w3 ⟨rfl, hb3⟩
  go_wp2_with fail
  refine ((rdir_c s _ m (cell_later hb3 (cell_later hb2 (cell_later hb1 HX.out))) hs).mono fun e w' hp => text_yes HD.out hp).mono ?_
  rintro e w4 ⟨rfl, hb4⟩
  go_wp2_with fail
  refine ((base_c s _ hs).mono fun e w' hp => text_yes HB.out hp).mono ?_
  rintro e w5 ⟨rfl, hb5⟩
  go_wp2_with fail
  refine ((rbase_c s _ m (cell_later hb5 (cell_later hb4 (cell_later hb3 (cell_later hb2 (cell_later hb1 HX.out))))) hs).mono fun e w' hp => text_yes HB.out hp).mono ?_
  rintro e w6 ⟨rfl, hb6⟩
  go_wp2_with fail
  refine (plive_c _).mono ?_
  rintro e w7 ⟨rfl, hb7⟩
  go_wp2
  go_ret
  have s1 := hb1.size
  have s2 := hb2.size
  have s3 := hb3.size
  have s4 := hb4.size
  have s5 := hb5.size
  have s6 := hb6.size
  exact ⟨rfl, ((((((hb1).trans (hb2.mono (by omega))).trans (hb3.mono (by omega))).trans (hb4.mono (by omega))).trans (hb5.mono (by omega))).trans (hb6.mono (by omega))).trans (hb7.mono (by omega))⟩
set_option maxHeartbeats 1000000 in
theorem pathForms_10 (s : ByteArray) (hs : s.size ≤ maxLen) (w : World) (m : Int) (hmx : w.cell? ⟨0, 0, none⟩ = some (.int .i64 m)) (c : List UInt8) (hc : Pa.cleanF s.data.toList = some c) (hd : Pa.dirF s.data.toList = none) (hb : Pa.baseF s.data.toList = none) :
    Calls Tryd.prog 3 #[.string s] w fun e w' => e = .returned (.bool true) ∧ Below w.heap.size w w' := by
  have HC := hid' hc
  have HD := hid' hd
  have HB := hid' hb
  have HX := hid' hmx
  clear hc hd hb hmx
  go_enter Tryd.func3, Tryd.ntmps3
  go_wp2_with fail
  refine ((clean_c s _ hs).mono fun e w' hp => text_yes HC.out hp).mono ?_
  rintro e w1 ⟨rfl, hb1⟩
  go_wp2_with fail
  refine ((rclean_c s _ m (cell_later hb1 HX.out) hs).mono fun e w' hp => text_yes HC.out hp).mono ?_
  rintro e w2 ⟨rfl, hb2⟩
  go_wp2_with fail
  refine ((dir_c s _ hs).mono fun e w' hp => text_not HD.out hp).mono ?_
  rintro e w3 ⟨rfl, hb3⟩
  go_wp2_with fail
  refine ((rdir_c s _ m (cell_later hb3 (cell_later hb2 (cell_later hb1 HX.out))) hs).mono fun e w' hp => text_not HD.out hp).mono ?_
  rintro e w4 ⟨rfl, hb4⟩
  go_wp2_with fail
  refine ((base_c s _ hs).mono fun e w' hp => text_not HB.out hp).mono ?_
  rintro e w5 ⟨rfl, hb5⟩
  go_wp2_with fail
  refine ((rbase_c s _ m (cell_later hb5 (cell_later hb4 (cell_later hb3 (cell_later hb2 (cell_later hb1 HX.out))))) hs).mono fun e w' hp => text_not HB.out hp).mono ?_
  rintro e w6 ⟨rfl, hb6⟩
  go_wp2_with fail
  refine (plive_c _).mono ?_
  rintro e w7 ⟨rfl, hb7⟩
  go_wp2
  go_ret
  have s1 := hb1.size
  have s2 := hb2.size
  have s3 := hb3.size
  have s4 := hb4.size
  have s5 := hb5.size
  have s6 := hb6.size
  exact ⟨rfl, ((((((hb1).trans (hb2.mono (by omega))).trans (hb3.mono (by omega))).trans (hb4.mono (by omega))).trans (hb5.mono (by omega))).trans (hb6.mono (by omega))).trans (hb7.mono (by omega))⟩
set_option maxHeartbeats 1000000 in
theorem pathForms_11 (s : ByteArray) (hs : s.size ≤ maxLen) (w : World) (m : Int) (hmx : w.cell? ⟨0, 0, none⟩ = some (.int .i64 m)) (c : List UInt8) (hc : Pa.cleanF s.data.toList = some c) (d b : List UInt8) (hd : Pa.dirF s.data.toList = some d) (hb : Pa.baseF s.data.toList = some b) :
    Calls Tryd.prog 3 #[.string s] w fun e w' => e = .returned (.bool true) ∧ Below w.heap.size w w' := by
  have HC := hid' hc
  have HD := hid' hd
  have HB := hid' hb
  have HX := hid' hmx
  clear hc hd hb hmx
  go_enter Tryd.func3, Tryd.ntmps3
  go_wp2_with fail
  refine ((clean_c s _ hs).mono fun e w' hp => text_yes HC.out hp).mono ?_
  rintro e w1 ⟨rfl, hb1⟩
  go_wp2_with fail
  refine ((rclean_c s _ m (cell_later hb1 HX.out) hs).mono fun e w' hp => text_yes HC.out hp).mono ?_
  rintro e w2 ⟨rfl, hb2⟩
  go_wp2_with fail
  refine ((dir_c s _ hs).mono fun e w' hp => text_yes HD.out hp).mono ?_
  rintro e w3 ⟨rfl, hb3⟩
  go_wp2_with fail
  refine ((rdir_c s _ m (cell_later hb3 (cell_later hb2 (cell_later hb1 HX.out))) hs).mono fun e w' hp => text_yes HD.out hp).mono ?_
  rintro e w4 ⟨rfl, hb4⟩
  go_wp2_with fail
  refine ((base_c s _ hs).mono fun e w' hp => text_yes HB.out hp).mono ?_
  rintro e w5 ⟨rfl, hb5⟩
  go_wp2_with fail
  refine ((rbase_c s _ m (cell_later hb5 (cell_later hb4 (cell_later hb3 (cell_later hb2 (cell_later hb1 HX.out))))) hs).mono fun e w' hp => text_yes HB.out hp).mono ?_
  rintro e w6 ⟨rfl, hb6⟩
  go_wp2_with fail
  refine (plive_c _).mono ?_
  rintro e w7 ⟨rfl, hb7⟩
  go_wp2
  go_ret
  have s1 := hb1.size
  have s2 := hb2.size
  have s3 := hb3.size
  have s4 := hb4.size
  have s5 := hb5.size
  have s6 := hb6.size
  exact ⟨rfl, ((((((hb1).trans (hb2.mono (by omega))).trans (hb3.mono (by omega))).trans (hb4.mono (by omega))).trans (hb5.mono (by omega))).trans (hb6.mono (by omega))).trans (hb7.mono (by omega))⟩
theorem pathForms_walk (s : ByteArray) (hs : s.size ≤ maxLen) (w : World) (m : Int) (hmx : w.cell? ⟨0, 0, none⟩ = some (.int .i64 m)) :
    Calls Tryd.prog 3 #[.string s] w fun e w' => e = .returned (.bool true) ∧ Below w.heap.size w w' := by
  have key : (∃ d b, Pa.dirF s.data.toList = some d ∧ Pa.baseF s.data.toList = some b) ∨ (Pa.dirF s.data.toList = none ∧ Pa.baseF s.data.toList = none) := by
    cases h : Pa.splitF s.data.toList with
    | none => exact .inr (Pa.no_parts (.inl h))
    | some ns =>
      by_cases hne : ns = []
      · subst hne; exact .inr (Pa.no_parts (.inr h))
      · obtain ⟨d, b, c, h1, h2, _⟩ := Pa.parts h hne
        exact .inl ⟨d, b, h1, h2⟩
  cases hc : Pa.cleanF s.data.toList with
  | none =>
    rcases key with ⟨d, b, h1, h2⟩ | ⟨h1, h2⟩
    · exact pathForms_01 s hs w m hmx hc d b h1 h2
    · exact pathForms_00 s hs w m hmx hc h1 h2
  | some c =>
    rcases key with ⟨d, b, h1, h2⟩ | ⟨h1, h2⟩
    · exact pathForms_11 s hs w m hmx c hc d b h1 h2
    · exact pathForms_10 s hs w m hmx c hc h1 h2
/-! ### The row and the card of PathForms -/
theorem pathForms_own : ownKnob Tryd.prog.godebug = none := by kernel_rfl
theorem pathForms_laidOut : laidOutB Tryd.prog = true := by kernel_rfl
def pathForms_first : Array Value := (Go.Pinned.utf8FirstZ.map fun (n : Nat) => Value.int .u8 (n : Int)).toArray
def pathForms_ranges : Array Value := ([128, 191, 160, 191, 128, 159, 144, 191, 128, 143, 0, 0, 0, 0, 0, 0, 0, 0, 0, 0, 0, 0, 0, 0, 0, 0, 0, 0, 0, 0, 0, 0].map fun (n : Nat) => Value.int .u8 (n : Int)).toArray
/-- The library's MaxLen holds some number, whatever it is. -/
theorem pathForms_max {W : World} (h : W.ShapedOpen Tryd.prog) : ∃ m, W.cell? ⟨0, 0, none⟩ = some (.int .i64 m) :=
  cell_of_shapedOpen_int (t := 3) (zero := #[.int .i64 0]) h (by decide +kernel) (by kernel_rfl) rfl (by kernel_rfl) (by kernel_rfl) Tryd.underlying3
theorem pathForms_contract (H : Type) (enc : TypeId × Value → H) (W : World) (base : Nat) (args : Array Value) (ds gs : List (DataW H)) (before : List MemPlace)
    (hval : ∀ (j : Nat) t v, Tryd.f3.params[j]? = some t → args[j]? = some v → Value.okWide Tryd.prog W .any base t v)
    (hW : DataW.Whole enc Tryd.prog Tryd.f3.params.toList Rows.pathFormsSpec.vars false W args.toList ds gs before) (hsh : W.ShapedOpen Tryd.prog) :
    Calls Tryd.prog 3 args W fun e W' => ∃ v, e = .returned v ∧ Rows.pathFormsSpec.post enc Tryd.prog Tryd.f3 false true false false W args v W' := by
  obtain ⟨mx, hmx⟩ := pathForms_max hsh
  have hW' := hW
  obtain ⟨p, q, hA0, hV, rfl, hfz, hnd⟩ := hW
  have hA : DataW.TrodAll enc Tryd.prog W 0 (fun _ => true) true Tryd.f3.params.toList args.toList ds p := hA0
  rw [Tryd.params3] at hA hval
  obtain ⟨v0, vs0, d0, ds0, p0, q0, hargs, rfl, rfl, h0, r0⟩ := trodAll_cons hA
  obtain ⟨rfl, rfl, rfl⟩ := trodAll_nil r0
  obtain rfl : args = #[v0] := by cases args; simp_all
  obtain ⟨rfl, rfl⟩ := trodVars_none hV
  obtain ⟨a0, rfl, rfl, rfl, w0⟩ := open_string Tryd.underlying9 (hval 0 9 v0 rfl rfl) h0
  clear hA0
  refine (pathForms_walk a0 w0 W mx hmx).mono fun e W' ⟨he, bel⟩ => ?_
  subst he
  exact ⟨_, rfl, _, _, _, [], _, [], hW', trodAll_mk1 (shut_bool Tryd.underlying4 _), (trodAll_cons_mk (shut_string Tryd.underlying9 w0) trodAll_mk0), rfl, bel.frame _, fun h => by cases h⟩
set_option maxRecDepth 100000 in
theorem pathForms_wit (os : Os) (H : Type) (enc : TypeId × Value → H) : ∃ (w : World) (tape : Tape) (i : Input), w.os = os ∧ (w.forCall tape i).Shaped Tryd.checked.prog ∧ i.vars = [] ∧ Input.okWide Tryd.checked.prog (w.forCall tape i) .any w.heap.size 3 i ∧
      (OpenSpec.ofChange Rows.pathFormsSpec).preRow enc Tryd.checked.prog Tryd.f3 Rows.pathFormsRow.domain false Rows.pathFormsRow.laid (w.forCall tape i).memory i.args ∧ ({ modest := false } : Assume).holds Tryd.checked.prog (lone (Frame.enter Tryd.checked.prog 3 i.args .normal) [] (w.forCall tape i)) :=
  witness_row_at (enc := enc) (C := Tryd.checked) false ({ World.holding Tryd.prog os ⟨#[], #[], []⟩ with heap := ((World.holding Tryd.prog os ⟨#[], #[], []⟩).heap.modify 1 fun | .cells _ t fz => .cells pathForms_first t fz | o => o).modify 2 fun | .cells _ t fz => .cells pathForms_ranges t fz | o => o }) #[.string ByteArray.empty] rfl (by kernel_rfl) (by kernel_rfl) (by kernel_rfl)
    (OpenSpec.preRow_of_cond (x := ([.lit (.string [])], [], [])) 8 (by kernel_rfl) (by kernel_rfl) (fun k hk => by cases hk) (by kernel_rfl) (laidMet_of_run' 8 (by kernel_rfl) (by kernel_rfl)))
set_option maxRecDepth 100000 in
theorem pathForms_lifted (os : Os) (started : os.Started) (H : Type) (enc : TypeId × Value → H) (F : Stop.Interp) :
    ReturnsInHanded {} Tryd.checked os 3 .any ((OpenSpec.ofChange Rows.pathFormsSpec).preRow enc Tryd.prog Tryd.f3 Rows.pathFormsRow.domain false Rows.pathFormsRow.laid) (((OpenSpec.ofChange Rows.pathFormsSpec).at F).post enc Tryd.prog Tryd.f3 false true false false) := by
  refine returnsInHanded_of_row (C := Tryd.checked) (s := OpenSpec.ofChange Rows.pathFormsSpec) pathForms_own started (by kernel_rfl) Tryd.func3 (pathForms_wit os H enc) ?_
  intro W base args ds gs before hval hW _ _ _ hL hsh _
  exact pathForms_contract H enc W base args ds gs before hval hW hsh
theorem pathForms_said : Rows.PathFormsSaid :=
  OpenClaim.holds_of_cond 3 Tryd.f3 rfl rfl rfl rfl rfl rfl rfl ⟨rfl, rfl, rfl, rfl, rfl⟩ rfl rfl rfl rfl rfl (by kernel_rfl) Tryd.func3 (by kernel_rfl)
    (of_decide_eq_true (by kernel_rfl)) (by unfold Func.isWrapper; first | (rw [if_pos (by decide +kernel)]; kernel_rfl) | (rw [if_neg (by decide +kernel)]; exact ⟨rfl, rfl⟩))
    (fun os started H enc _ F => by rw [OpenClaim.pre_eq_preRow]; exact pathForms_lifted os started H enc F)
theorem pathForms_plain (g : FuncId) (fn : Func) (hf : Tryd.pinned.checked.prog.funcNamed Rows.pathFormsRow.func = some g) (hfn : Tryd.pinned.checked.prog.funcs[g]? = some fn) :
    false = Tryd.pinned.checked.prog.looks [] ∧ ∀ (j : Nat) t, fn.params[j]? = some t → Tryd.pinned.checked.prog.wantsStandIn t = false := by
  obtain rfl : g = 3 := Option.some.inj ((show Tryd.prog.funcNamed Rows.pathFormsRow.func = some 3 by kernel_rfl).symm.trans hf) |>.symm
  obtain rfl : fn = Tryd.f3 := (Option.some.inj (Tryd.func3.symm.trans hfn)).symm
  refine ⟨by kernel_rfl, fun j t ht => ?_⟩
  rw [Tryd.params3] at ht
  have hm := Array.mem_of_getElem? ht
  simp at hm
  subst hm
  exact (show Tryd.prog.wantsStandIn 9 = false by kernel_rfl)
/-- The statement: the card. -/
theorem pathForms_holds : Rows.PathFormsCardSaid :=
  Claim7.holds_tied_plain_at .later [] _ _ _ _ pathForms_said (fun _ h => by cases h) (by kernel_rfl) (fun _ h => by cases h) pathForms_row_tie rfl ⟨rfl, rfl⟩ (by kernel_rfl) rfl pathForms_plain (by kernel_rfl)
#print axioms pathForms_holds
end Go.Proofs.YtdbllggcomllgacDoor
