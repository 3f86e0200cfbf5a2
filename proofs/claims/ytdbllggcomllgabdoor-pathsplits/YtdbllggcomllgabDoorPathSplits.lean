/-
  For every text, Split and Name answer what the document's definition answers, and live holds (where the library's tables read as the program's text lays them, which the card ties).
-/
import Derived.Test.YtdbllggcomllgabDoorPRSplit
import Derived.Test.YtdbllggcomllgabDoorCards
import Derived.Test.YtdbllggcomllgabDoorTie
import Derived.ChangeOld
import Derived.Below
import Derived.Deep.DeepHandedRow
import Derived.Lib.LaidTab
import Derived.Shelf.Vars
namespace Go.Proofs.YtdbllggcomllgabDoor
open Go.ChangeShapes Go.WideShapes Go.ChangeAt Go.RowKit
open Go.ChangeMaps (open_string shut_string)
set_option linter.unusedVariables false
set_option maxHeartbeats 1000000 in
theorem pathSplits_yes (s : ByteArray) (hs : s.size ≤ maxLen) (w : World) (m : Int) (hmx : w.cell? ⟨0, 0, none⟩ = some (.int .i64 m)) (nb : Bool) (hn : Pa.nameB s.data.toList = nb) (ns : List (List UInt8)) (h : Pa.splitF s.data.toList = some ns) :
    Calls Tryd.prog 3 #[.string s] w fun e w' => e = .returned (.bool true) ∧ Below w.heap.size w w' := by
  have H := hid' h
  have HN := hid' hn
  have HX := hid' hmx
  clear h hn hmx
  go_enter Tryd.func3, Tryd.ntmps3
  go_wp2_with fail
  refine (split_yes _ _ hs _ H.out).mono ?_
  rintro e w1 ⟨v1, rfl, hI1, -, hb1⟩
  have HI1 := hid' hI1
  clear hI1
  go_wp2_with fail
  refine (rsplit_yes _ _ m (cell_later hb1 HX.out) hs _ H.out).mono ?_
  rintro e w2 ⟨v2, rfl, hI2, -, hb2⟩
  have HI2 := hid' hI2
  clear hI2
  go_wp2_with fail
  refine (plive_c _).mono ?_
  rintro e w3 ⟨rfl, hb3⟩
  go_wp2_with fail
  refine (rsame_c v1 v2 ns ns w3 ((HI1.out.later hb2).later hb3) (HI2.out.later hb3)).mono ?_
  rintro e w4 ⟨rfl, hb4⟩
  rw [decide_eq_true (rfl : ns = ns)]
  go_wp2_with fail
  refine (name_c _ _ hs).mono ?_
  rintro e w5 ⟨rfl, hb5⟩
  rw [HN.out]
  go_wp2_with fail
  refine (rname_c _ _ hs).mono ?_
  rintro e w6 ⟨rfl, rfl⟩
  rw [HN.out]
  go_wp2
  go_ret
  have s1 := hb1.size
  have s2 := hb2.size
  have s3 := hb3.size
  have s4 := hb4.size
  exact ⟨rfl, (((hb1.trans (hb2.mono (by omega))).trans (hb3.mono (by omega))).trans (hb4.mono (by omega))).trans (hb5.mono (by omega))⟩
set_option maxHeartbeats 1000000 in
theorem pathSplits_not (s : ByteArray) (hs : s.size ≤ maxLen) (w : World) (m : Int) (hmx : w.cell? ⟨0, 0, none⟩ = some (.int .i64 m)) (nb : Bool) (hn : Pa.nameB s.data.toList = nb) (h : Pa.splitF s.data.toList = none) :
    Calls Tryd.prog 3 #[.string s] w fun e w' => e = .returned (.bool true) ∧ Below w.heap.size w w' := by
  have H := hid' h
  have HN := hid' hn
  have HX := hid' hmx
  clear h hn hmx
  go_enter Tryd.func3, Tryd.ntmps3
  go_wp2_with fail
  refine (split_not _ _ hs H.out).mono ?_
  rintro e w1 ⟨rfl, hb1⟩
  go_wp2_with fail
  refine (rsplit_not _ _ m (cell_later hb1 HX.out) hs H.out).mono ?_
  rintro e w2 ⟨rfl, hb2⟩
  go_wp2_with fail
  refine (plive_c _).mono ?_
  rintro e w3 ⟨rfl, hb3⟩
  go_wp2_with fail
  refine (rsame_c _ _ [] [] w3 (isS_nil _) (isS_nil _)).mono ?_
  rintro e w4 ⟨rfl, hb4⟩
  rw [decide_eq_true (rfl : ([] : List (List UInt8)) = [])]
  go_wp2_with fail
  refine (name_c _ _ hs).mono ?_
  rintro e w5 ⟨rfl, hb5⟩
  rw [HN.out]
  go_wp2_with fail
  refine (rname_c _ _ hs).mono ?_
  rintro e w6 ⟨rfl, rfl⟩
  rw [HN.out]
  go_wp2
  go_ret
  have s1 := hb1.size
  have s2 := hb2.size
  have s3 := hb3.size
  have s4 := hb4.size
  exact ⟨rfl, (((hb1.trans (hb2.mono (by omega))).trans (hb3.mono (by omega))).trans (hb4.mono (by omega))).trans (hb5.mono (by omega))⟩
theorem pathSplits_walk (s : ByteArray) (hs : s.size ≤ maxLen) (w : World) (m : Int) (hmx : w.cell? ⟨0, 0, none⟩ = some (.int .i64 m)) :
    Calls Tryd.prog 3 #[.string s] w fun e w' => e = .returned (.bool true) ∧ Below w.heap.size w w' := by
  cases h : Pa.splitF s.data.toList with
  | none =>
    cases hn : Pa.nameB s.data.toList with
    | true => exact pathSplits_not s hs w m hmx true hn h
    | false => exact pathSplits_not s hs w m hmx false hn h
  | some ns =>
    cases hn : Pa.nameB s.data.toList with
    | true => exact pathSplits_yes s hs w m hmx true hn ns h
    | false => exact pathSplits_yes s hs w m hmx false hn ns h
/-! ### The row and the card of PathSplits -/
theorem pathSplits_own : ownKnob Tryd.prog.godebug = none := by kernel_rfl
theorem pathSplits_laidOut : laidOutB Tryd.prog = true := by kernel_rfl
def pathSplits_first : Array Value := (Go.Pinned.utf8FirstZ.map fun (n : Nat) => Value.int .u8 (n : Int)).toArray
def pathSplits_ranges : Array Value := ([128, 191, 160, 191, 128, 159, 144, 191, 128, 143, 0, 0, 0, 0, 0, 0, 0, 0, 0, 0, 0, 0, 0, 0, 0, 0, 0, 0, 0, 0, 0, 0].map fun (n : Nat) => Value.int .u8 (n : Int)).toArray
/-- The library's MaxLen holds some number, whatever it is. -/
theorem pathSplits_max {W : World} (h : W.ShapedOpen Tryd.prog) : ∃ m, W.cell? ⟨0, 0, none⟩ = some (.int .i64 m) :=
  cell_of_shapedOpen_int (t := 3) (zero := #[.int .i64 0]) h (by decide +kernel) (by kernel_rfl) rfl (by kernel_rfl) (by kernel_rfl) Tryd.underlying3
theorem pathSplits_contract (H : Type) (enc : TypeId × Value → H) (W : World) (base : Nat) (args : Array Value) (ds gs : List (DataW H)) (before : List MemPlace)
    (hval : ∀ (j : Nat) t v, Tryd.f3.params[j]? = some t → args[j]? = some v → Value.okWide Tryd.prog W .any base t v)
    (hW : DataW.Whole enc Tryd.prog Tryd.f3.params.toList Rows.pathSplitsSpec.vars false W args.toList ds gs before) (hsh : W.ShapedOpen Tryd.prog) :
    Calls Tryd.prog 3 args W fun e W' => ∃ v, e = .returned v ∧ Rows.pathSplitsSpec.post enc Tryd.prog Tryd.f3 false true false false W args v W' := by
  obtain ⟨mx, hmx⟩ := pathSplits_max hsh
  have hW' := hW
  obtain ⟨p, q, hA0, hV, rfl, hfz, hnd⟩ := hW
  have hA : DataW.TrodAll enc Tryd.prog W 0 (fun _ => true) true Tryd.f3.params.toList args.toList ds p := hA0
  rw [Tryd.params3] at hA hval
  obtain ⟨v0, vs0, d0, ds0, p0, q0, hargs, rfl, rfl, h0, r0⟩ := trodAll_cons hA
  obtain ⟨rfl, rfl, rfl⟩ := trodAll_nil r0
  obtain rfl : args = #[v0] := by cases args; simp_all
  obtain ⟨rfl, rfl⟩ := trodVars_none hV
  obtain ⟨a0, rfl, rfl, rfl, w0⟩ := open_string Tryd.underlying9 (hval 0 9 v0 rfl rfl) h0
  clear hA0
  refine (pathSplits_walk a0 w0 W mx hmx).mono fun e W' ⟨he, bel⟩ => ?_
  subst he
  exact ⟨_, rfl, _, _, _, [], _, [], hW', trodAll_mk1 (shut_bool Tryd.underlying4 _), (trodAll_cons_mk (shut_string Tryd.underlying9 w0) trodAll_mk0), rfl, bel.frame _, fun h => by cases h⟩
set_option maxRecDepth 100000 in
theorem pathSplits_wit (os : Os) (H : Type) (enc : TypeId × Value → H) : ∃ (w : World) (tape : Tape) (i : Input), w.os = os ∧ (w.forCall tape i).Shaped Tryd.checked.prog ∧ i.vars = [] ∧ Input.okWide Tryd.checked.prog (w.forCall tape i) .any w.heap.size 3 i ∧
      (OpenSpec.ofChange Rows.pathSplitsSpec).preRow enc Tryd.checked.prog Tryd.f3 Rows.pathSplitsRow.domain false Rows.pathSplitsRow.laid (w.forCall tape i).memory i.args ∧ ({ modest := false } : Assume).holds Tryd.checked.prog (lone (Frame.enter Tryd.checked.prog 3 i.args .normal) [] (w.forCall tape i)) :=
  witness_row_at (enc := enc) (C := Tryd.checked) false ({ World.holding Tryd.prog os ⟨#[], #[], []⟩ with heap := ((World.holding Tryd.prog os ⟨#[], #[], []⟩).heap.modify 1 fun | .cells _ t fz => .cells pathSplits_first t fz | o => o).modify 2 fun | .cells _ t fz => .cells pathSplits_ranges t fz | o => o }) #[.string ByteArray.empty] rfl (by kernel_rfl) (by kernel_rfl) (by kernel_rfl)
    (OpenSpec.preRow_of_cond (x := ([.lit (.string [])], [], [])) 8 (by kernel_rfl) (by kernel_rfl) (fun k hk => by cases hk) (by kernel_rfl) (laidMet_of_run' 8 (by kernel_rfl) (by kernel_rfl)))
set_option maxRecDepth 100000 in
theorem pathSplits_lifted (os : Os) (started : os.Started) (H : Type) (enc : TypeId × Value → H) (F : Stop.Interp) :
    ReturnsInHanded {} Tryd.checked os 3 .any ((OpenSpec.ofChange Rows.pathSplitsSpec).preRow enc Tryd.prog Tryd.f3 Rows.pathSplitsRow.domain false Rows.pathSplitsRow.laid) (((OpenSpec.ofChange Rows.pathSplitsSpec).at F).post enc Tryd.prog Tryd.f3 false true false false) := by
  refine returnsInHanded_of_row (C := Tryd.checked) (s := OpenSpec.ofChange Rows.pathSplitsSpec) pathSplits_own started (by kernel_rfl) Tryd.func3 (pathSplits_wit os H enc) ?_
  intro W base args ds gs before hval hW _ _ _ hL hsh _
  exact pathSplits_contract H enc W base args ds gs before hval hW hsh
theorem pathSplits_said : Rows.PathSplitsSaid :=
  OpenClaim.holds_of_cond 3 Tryd.f3 rfl rfl rfl rfl rfl rfl rfl ⟨rfl, rfl, rfl, rfl, rfl⟩ rfl rfl rfl rfl rfl (by kernel_rfl) Tryd.func3 (by kernel_rfl)
    (of_decide_eq_true (by kernel_rfl)) (by unfold Func.isWrapper; first | (rw [if_pos (by decide +kernel)]; kernel_rfl) | (rw [if_neg (by decide +kernel)]; exact ⟨rfl, rfl⟩))
    (fun os started H enc _ F => by rw [OpenClaim.pre_eq_preRow]; exact pathSplits_lifted os started H enc F)
theorem pathSplits_plain (g : FuncId) (fn : Func) (hf : Tryd.pinned.checked.prog.funcNamed Rows.pathSplitsRow.func = some g) (hfn : Tryd.pinned.checked.prog.funcs[g]? = some fn) :
    false = Tryd.pinned.checked.prog.looks [] ∧ ∀ (j : Nat) t, fn.params[j]? = some t → Tryd.pinned.checked.prog.wantsStandIn t = false := by
  obtain rfl : g = 3 := Option.some.inj ((show Tryd.prog.funcNamed Rows.pathSplitsRow.func = some 3 by kernel_rfl).symm.trans hf) |>.symm
  obtain rfl : fn = Tryd.f3 := (Option.some.inj (Tryd.func3.symm.trans hfn)).symm
  refine ⟨by kernel_rfl, fun j t ht => ?_⟩
  rw [Tryd.params3] at ht
  have hm := Array.mem_of_getElem? ht
  simp at hm
  subst hm
  exact (show Tryd.prog.wantsStandIn 9 = false by kernel_rfl)
/-- The statement: the card. -/
theorem pathSplits_holds : Rows.PathSplitsCardSaid :=
  Claim7.holds_tied_plain_at .later [] _ _ _ _ pathSplits_said (fun _ h => by cases h) (by kernel_rfl) (fun _ h => by cases h) pathSplits_row_tie rfl ⟨rfl, rfl⟩ (by kernel_rfl) rfl pathSplits_plain (by kernel_rfl)
#print axioms pathSplits_holds
end Go.Proofs.YtdbllggcomllgabDoor
