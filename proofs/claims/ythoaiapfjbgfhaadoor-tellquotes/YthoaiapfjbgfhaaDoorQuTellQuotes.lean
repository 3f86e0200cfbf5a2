/-
  For every text: Quote and Unquote answer as the document says.
-/
import Derived.Test.YthoaiapfjbgfhaaDoorQuBg
import Derived.Test.YthoaiapfjbgfhaaDoorCards
import Derived.Test.YthoaiapfjbgfhaaDoorTie
import Derived.ChangeOld
import Derived.Below
import Derived.Deep.DeepHandedRow
import Derived.Lib.LaidTab
import Derived.Shelf.Vars
namespace Go.Proofs.YthoaiapfjbgfhaaDoor
open Go.RowKit Go.ChangeShapes Go.WideShapes Go.ChangeAt Go.Maps Go.Shelf
open Go.ChangeMaps (open_string shut_string)
set_option linter.unusedVariables false
set_option linter.unusedSimpArgs false
set_option maxRecDepth 20000
set_option maxHeartbeats 8000000 in
theorem tellQuotes_walk (s : ByteArray) (hs : s.size ≤ maxLen) (w : World) (mx : Int) {gM : Nat} (hmx : w.cell? ⟨gM, 0, none⟩ = some (.int .i64 mx)) :
   Calls Tryd.prog 3 #[.string s] w fun e w' => e = .returned (.bool true) ∧ Below w.heap.size w w' := by
 clear hmx
 have h9 := few15_size s
 have FC := hid (few15_c s w)
 have UC := hid (fun W => unquote_c (few15 s) W (by omega))
 have RC := hid (fun W => runq_c (few15 s) W (by omega))
 rw [← unq_is] at RC
 have QC := hid (fun W => quote_c (few15 s) W (by omega))
 have PC := hid (fun W => rquote_c (few15 s) W (by omega))
 have LC := hid (fun W => tlive_c W)
 obtain ⟨⟨U, ue⟩, HU⟩ : ∃ u : ByteArray × Int, Hid (∀ w e w', UqP (unqL (few15 s).data.toList) w e w' → e = .returned (.tuple #[.string u.1, .int .i64 u.2]) ∧ Below w.heap.size w w') := by
   cases h : unqL (few15 s).data.toList with
   | none => exact ⟨(⟨#[]⟩, 3), hid (fun w e w' q => ⟨q.1, q.2⟩)⟩
   | some o => exact ⟨(⟨o.toArray⟩, 0), hid (fun w e w' q => ⟨q.1, q.2⟩)⟩
 have UC1 := hid (fun W => (UC.out W).mono (HU.out W))
 have RC1 := hid (fun W => (RC.out W).mono (HU.out W))
 clear UC RC HU
 obtain ⟨Q, hQ⟩ : ∃ Q : ByteArray, Q = ⟨(quoteL (few15 s).data.toList).toArray⟩ := ⟨_, rfl⟩
 rw [← hQ] at QC PC
 clear hQ
 generalize few15 s = s9 at *
 have b1 : (Q.toList == Q.toList) = true := beq_self_eq_true _
 have b2 : (U.toList == U.toList) = true := beq_self_eq_true _
 have b3 : (ue == ue) = true := beq_self_eq_true _
 go_enter Tryd.func3, Tryd.ntmps3
 go_wp2_with (first
   | (go_at_call 13; refine (PC.out _).mono ?_; rintro _ w5 ⟨rfl, hb5⟩; have B5 := hid (B4.out.trans (hb5.mono B4.out.size)); clear hb5)
   | (go_at_call 12; refine (QC.out _).mono ?_; rintro _ w4 ⟨rfl, hb4⟩; have B4 := hid (B3.out.trans (hb4.mono B3.out.size)); clear hb4)
   | (go_at_call 11; refine (LC.out _).mono ?_; rintro _ w3 ⟨rfl, hb3⟩; have B3 := hid (B2.out.trans (hb3.mono B2.out.size)); clear hb3)
   | (go_at_call 10; refine (RC1.out _).mono ?_; rintro _ w2 ⟨rfl, hb2⟩; have B2 := hid (B1.out.trans (hb2.mono B1.out.size)); clear hb2)
   | (go_at_call 9; refine (UC1.out _).mono ?_; rintro _ w1 ⟨rfl, hb1⟩; have B1 := hid hb1; clear hb1)
   | (go_at_call 8; refine FC.out.mono ?_; rintro _ w0 ⟨rfl, h0⟩; rw [h0]; clear h0))
 go_ret
 exact ⟨by first | rfl | simp, B5.out⟩
/-! ### The row and the card of TellQuotes -/
theorem tellQuotes_own : ownKnob Tryd.prog.godebug = none := by kernel_rfl
theorem tellQuotes_laidOut : laidOutB Tryd.prog = true := by kernel_rfl
def tellQuotes_tab0 : Array Value := ([0, 1, 28, 2, 29, 14, 24, 3, 30, 22, 20, 15, 25, 17, 4, 8, 31, 27, 13, 23, 21, 19, 16, 7, 26, 12, 18, 6, 11, 5, 10, 9].map fun (n : Nat) => Value.int .u8 (n : Int)).toArray
def tellQuotes_tab1 : Array Value := ([0, 1, 56, 2, 57, 49, 28, 3, 61, 58, 42, 50, 38, 29, 17, 4, 62, 47, 59, 36, 45, 43, 51, 22, 53, 39, 33, 30, 24, 18, 12, 5, 63, 55, 48, 27, 60, 41, 37, 16, 46, 35, 44, 21, 52, 32, 23, 11, 54, 26, 40, 15, 34, 20, 31, 10, 25, 14, 19, 9, 13, 8, 7, 6].map fun (n : Nat) => Value.int .u8 (n : Int)).toArray
def tellQuotes_tab2 : Array Value := ([1, 10, 100, 1000, 10000, 100000, 1000000, 10000000, 100000000, 1000000000, 10000000000, 100000000000, 1000000000000, 10000000000000, 100000000000000, 1000000000000000, 10000000000000000, 100000000000000000, 1000000000000000000, 10000000000000000000].map fun (n : Nat) => Value.int .u64 (n : Int)).toArray
theorem tellQuotes_max {W : World} (h : W.ShapedOpen Tryd.prog) : ∃ m, W.cell? ⟨1, 0, none⟩ = some (.int .i64 m) :=
 cell_of_shapedOpen_int (t := 3) (zero := #[.int .i64 0]) h (by decide +kernel) (by kernel_rfl) rfl (by kernel_rfl) (by kernel_rfl) Tryd.underlying3
theorem tellQuotes_contract (H : Type) (enc : TypeId × Value → H) (W : World) (base : Nat) (args : Array Value) (ds gs : List (DataW H)) (before : List MemPlace)
   (hval : ∀ (j : Nat) t v, Tryd.f3.params[j]? = some t → args[j]? = some v → Value.okWide Tryd.prog W .any base t v)
   (hW : DataW.Whole enc Tryd.prog Tryd.f3.params.toList Rows.tellQuotesSpec.vars false W args.toList ds gs before) (hsh : W.ShapedOpen Tryd.prog) :
   Calls Tryd.prog 3 args W fun e W' => ∃ v, e = .returned v ∧ Rows.tellQuotesSpec.post enc Tryd.prog Tryd.f3 false true false false W args v W' := by
 obtain ⟨mx, hmx⟩ := tellQuotes_max hsh
 have hW' := hW
 obtain ⟨p, q, hA0, hV, rfl, hfz, hnd⟩ := hW
 have hA : DataW.TrodAll enc Tryd.prog W 0 (fun _ => true) true Tryd.f3.params.toList args.toList ds p := hA0
 rw [Tryd.params3] at hA hval
 obtain ⟨v0, vs0, d0, ds0, p0, q0, hargs, rfl, rfl, h0, r0⟩ := trodAll_cons hA
 obtain ⟨rfl, rfl, rfl⟩ := trodAll_nil r0
 obtain rfl : args = #[v0] := by cases args; simp_all
 obtain ⟨rfl, rfl⟩ := trodVars_none hV
 obtain ⟨a0, rfl, rfl, rfl, w0⟩ := open_string Tryd.underlying9 (hval 0 9 v0 rfl rfl) h0
 clear hA0
 refine (tellQuotes_walk a0 w0 W mx hmx).mono fun e W' ⟨he, bel⟩ => ?_
 subst he
 exact ⟨_, rfl, _, _, _, [], _, [], hW', trodAll_mk1 (shut_bool Tryd.underlying4 _), (trodAll_cons_mk (shut_string Tryd.underlying9 w0) trodAll_mk0), rfl, bel.frame _, fun h => by cases h⟩
set_option maxRecDepth 100000 in
theorem tellQuotes_wit (os : Os) (H : Type) (enc : TypeId × Value → H) : ∃ (w : World) (tape : Tape) (i : Input), w.os = os ∧ (w.forCall tape i).Shaped Tryd.checked.prog ∧ i.vars = [] ∧ Input.okWide Tryd.checked.prog (w.forCall tape i) .any w.heap.size 3 i ∧
     (OpenSpec.ofChange Rows.tellQuotesSpec).preRow enc Tryd.checked.prog Tryd.f3 Rows.tellQuotesRow.domain false Rows.tellQuotesRow.laid (w.forCall tape i).memory i.args ∧ ({ modest := false } : Assume).holds Tryd.checked.prog (lone (Frame.enter Tryd.checked.prog 3 i.args .normal) [] (w.forCall tape i)) :=
 witness_row_at (enc := enc) (C := Tryd.checked) false ({ World.holding Tryd.prog os ⟨#[], #[], []⟩ with heap := ((((World.holding Tryd.prog os ⟨#[], #[], []⟩).heap.modify 2 fun | .cells _ t fz => .cells tellQuotes_tab0 t fz | o => o).modify 3 fun | .cells _ t fz => .cells tellQuotes_tab1 t fz | o => o).modify 0 fun | .cells _ t fz => .cells tellQuotes_tab2 t fz | o => o) }) #[.string ByteArray.empty] rfl (by kernel_rfl) (by kernel_rfl) (by kernel_rfl)
   (OpenSpec.preRow_of_cond (x := ([.lit (.string [])], [], [])) 8 (by kernel_rfl) (by kernel_rfl) (fun k hk => by cases hk) (by kernel_rfl) (laidMet_of_run' 8 (by kernel_rfl) (by kernel_rfl)))
set_option maxRecDepth 100000 in
theorem tellQuotes_lifted (os : Os) (started : os.Started) (H : Type) (enc : TypeId × Value → H) (F : Stop.Interp) :
   ReturnsInHanded {} Tryd.checked os 3 .any ((OpenSpec.ofChange Rows.tellQuotesSpec).preRow enc Tryd.prog Tryd.f3 Rows.tellQuotesRow.domain false Rows.tellQuotesRow.laid) (((OpenSpec.ofChange Rows.tellQuotesSpec).at F).post enc Tryd.prog Tryd.f3 false true false false) := by
 refine returnsInHanded_of_row (C := Tryd.checked) (s := OpenSpec.ofChange Rows.tellQuotesSpec) tellQuotes_own started (by kernel_rfl) Tryd.func3 (tellQuotes_wit os H enc) ?_
 intro W base args ds gs before hval hW _ _ _ hL hsh _
 exact tellQuotes_contract H enc W base args ds gs before hval hW hsh
theorem tellQuotes_said : Rows.TellQuotesSaid :=
 OpenClaim.holds_of_cond 3 Tryd.f3 rfl rfl rfl rfl rfl rfl rfl ⟨rfl, rfl, rfl, rfl, rfl⟩ rfl rfl rfl rfl rfl (by kernel_rfl) Tryd.func3 (by kernel_rfl)
   (of_decide_eq_true (by kernel_rfl)) (by unfold Func.isWrapper; first | (rw [if_pos (by decide +kernel)]; kernel_rfl) | (rw [if_neg (by decide +kernel)]; exact ⟨rfl, rfl⟩))
   (fun os started H enc _ F => by rw [OpenClaim.pre_eq_preRow]; exact tellQuotes_lifted os started H enc F)
theorem tellQuotes_plain (g : FuncId) (fn : Func) (hf : Tryd.pinned.checked.prog.funcNamed Rows.tellQuotesRow.func = some g) (hfn : Tryd.pinned.checked.prog.funcs[g]? = some fn) :
   false = Tryd.pinned.checked.prog.looks [] ∧ ∀ (j : Nat) t, fn.params[j]? = some t → Tryd.pinned.checked.prog.wantsStandIn t = false := by
 obtain rfl : g = 3 := Option.some.inj ((show Tryd.prog.funcNamed Rows.tellQuotesRow.func = some 3 by kernel_rfl).symm.trans hf) |>.symm
 obtain rfl : fn = Tryd.f3 := (Option.some.inj (Tryd.func3.symm.trans hfn)).symm
 refine ⟨by kernel_rfl, fun j t ht => ?_⟩
 rw [Tryd.params3] at ht
 have hm := Array.mem_of_getElem? ht
 simp at hm
 subst hm
 exact (show Tryd.prog.wantsStandIn 9 = false by kernel_rfl)
theorem tellQuotes_holds : Rows.TellQuotesCardSaid :=
 Claim7.holds_tied_plain_at .later [] _ _ _ _ tellQuotes_said (fun _ h => by cases h) (by kernel_rfl) (fun _ h => by cases h) tellQuotes_row_tie rfl ⟨rfl, rfl⟩ (by kernel_rfl) rfl tellQuotes_plain (by kernel_rfl)
#print axioms tellQuotes_holds
end Go.Proofs.YthoaiapfjbgfhaaDoor
