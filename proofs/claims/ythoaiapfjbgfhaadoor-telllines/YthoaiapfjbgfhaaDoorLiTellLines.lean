/-
  For every node: Line answers as the document says.
-/
import Derived.Test.YthoaiapfjbgfhaaDoorLiBs
import Derived.Test.YthoaiapfjbgfhaaDoorLiBn
import Derived.Test.YthoaiapfjbgfhaaDoorCards
import Derived.Test.YthoaiapfjbgfhaaDoorTie
import Derived.ChangeOld
import Derived.Below
import Derived.Deep.DeepHandedRow
import Derived.Lib.LaidTab
import Derived.Shelf.Vars
namespace Go.Proofs.YthoaiapfjbgfhaaDoor
open Go.RowKit Go.ChangeShapes Go.WideShapes Go.ChangeAt Go.Maps Go.Shelf
open Go.ChangeMaps (open_string shut_string)
set_option linter.unusedVariables false
set_option linter.unusedSimpArgs false
set_option maxRecDepth 20000
set_option maxHeartbeats 8000000 in
theorem tellLines_walk (x : Nd) (w : World) (mx : Int) {gM : Nat} (hmx : w.cell? ⟨gM, 0, none⟩ = some (.int .i64 mx)) (ht : TabW w) (hx : x.Ok w) :
   Calls Tryd.prog 4 #[x.val] w fun e w' => e = .returned (.bool true) ∧ Below w.heap.size w w' := by
 clear hmx
 have hb := below_1 w (.cells x.cells.toArray 35)
 have hB := heap_alloc_new w (.cells x.cells.toArray 35)
 obtain ⟨y0, y1, y2, y3, y4, y5⟩ := nd_cells hB
 have HB := hid hB
 have B0 := hid hb
 have PC := hid (fun W (h : Below w.heap.size w W) => pline_c x W (hx.later h) (ht.later h))
 have RC := hid (fun W (h : Below w.heap.size w W) => rline_c x W (hx.later h) (ht.later h))
 have LC := hid (fun W => tlive_c W)
 obtain ⟨⟨U, ue⟩, HU⟩ : ∃ u : ByteArray × Int, Hid (∀ w e w', LnP x w e w' → e = .returned (.tuple #[.string u.1, .int .i64 u.2]) ∧ Below w.heap.size w w') := by
   cases h : nodeOk x with
   | false => exact ⟨(⟨#[]⟩, 3), hid (fun w e w' q => ⟨by have := q.1; rw [h] at this; simpa using this, q.2⟩)⟩
   | true => exact ⟨(⟨(lineL x).toArray⟩, 0), hid (fun w e w' q => ⟨by have := q.1; rw [h] at this; simpa using this, q.2⟩)⟩
 have PC1 := hid (fun W h => (PC.out W h).mono (HU.out W))
 have RC1 := hid (fun W h => (RC.out W h).mono (HU.out W))
 clear PC RC HU hb hB hx ht
 have b2 : (U.toList == U.toList) = true := beq_self_eq_true _
 have b3 : (ue == ue) = true := beq_self_eq_true _
 unfold Nd.val at *
 unfold Nd.cells at y0 y1 y2 y3 y4 y5 B0
 go_enter Tryd.func4, Tryd.ntmps4
 go_wp2_with (first
   | (go_at_call 11; refine (LC.out _).mono ?_; rintro _ w3 ⟨rfl, hb3⟩; have B3 := hid (B2.out.trans (hb3.mono B2.out.size)); clear hb3)
   | (go_at_call 15; refine (RC1.out _ B1.out).mono ?_; rintro _ w2 ⟨rfl, hb2⟩; have B2 := hid (B1.out.trans (hb2.mono B1.out.size)); clear hb2)
   | (go_at_call 14; refine (PC1.out _ B0.out).mono ?_; rintro _ w1 ⟨rfl, hb1⟩; have B1 := hid (B0.out.trans (hb1.mono B0.out.size)); obtain ⟨z0, z1, z2, z3, z4, z5⟩ := nd_cells ((hb1.block _ (lt_blkR HB.out)).trans HB.out); clear hb1))
 go_ret
 exact ⟨by first | rfl | simp, B3.out⟩
/-! ### The row and the card of TellLines -/
theorem tellLines_own : ownKnob Tryd.prog.godebug = none := by kernel_rfl
theorem tellLines_laidOut : laidOutB Tryd.prog = true := by kernel_rfl
def tellLines_tab0 : Array Value := ([0, 1, 28, 2, 29, 14, 24, 3, 30, 22, 20, 15, 25, 17, 4, 8, 31, 27, 13, 23, 21, 19, 16, 7, 26, 12, 18, 6, 11, 5, 10, 9].map fun (n : Nat) => Value.int .u8 (n : Int)).toArray
def tellLines_tab1 : Array Value := ([0, 1, 56, 2, 57, 49, 28, 3, 61, 58, 42, 50, 38, 29, 17, 4, 62, 47, 59, 36, 45, 43, 51, 22, 53, 39, 33, 30, 24, 18, 12, 5, 63, 55, 48, 27, 60, 41, 37, 16, 46, 35, 44, 21, 52, 32, 23, 11, 54, 26, 40, 15, 34, 20, 31, 10, 25, 14, 19, 9, 13, 8, 7, 6].map fun (n : Nat) => Value.int .u8 (n : Int)).toArray
def tellLines_tab2 : Array Value := ([1, 10, 100, 1000, 10000, 100000, 1000000, 10000000, 100000000, 1000000000, 10000000000, 100000000000, 1000000000000, 10000000000000, 100000000000000, 1000000000000000, 10000000000000000, 100000000000000000, 1000000000000000000, 10000000000000000000].map fun (n : Nat) => Value.int .u64 (n : Int)).toArray
theorem tellLines_max {W : World} (h : W.ShapedOpen Tryd.prog) : ∃ m, W.cell? ⟨1, 0, none⟩ = some (.int .i64 m) :=
 cell_of_shapedOpen_int (t := 3) (zero := #[.int .i64 0]) h (by decide +kernel) (by kernel_rfl) rfl (by kernel_rfl) (by kernel_rfl) Tryd.underlying3
theorem tellLines_tab {W : World} (h : laidMet Tryd.prog Rows.tellLinesRow.laid W) : TabW W := by
 obtain ⟨_, h0, _⟩ := h
 obtain ⟨_, _, _, _, _, _, _, _, _, _, h1, _⟩ := h0
 obtain ⟨_, _, _, _, _, _, _, _, _, _, h2, _⟩ := h1
 obtain ⟨g, t, cs, fuel, p, q, hg, ht, hvar, hd, _, _⟩ := h2
 obtain rfl : 0 = g := Option.some.inj ((show Tryd.prog.globalNamed "internal/strconv.uint64pow10" = some 0 by kernel_rfl).symm.trans hg)
 obtain rfl : 140 = t := Option.some.inj ((show (Tryd.prog.globals[0]?).map (·.type) = some 140 by kernel_rfl).symm.trans ht)
 unfold TabW Lib.TabIs
 rw [hvar, ← Lib.cells_of_tab (k := .u64) (zs := Lib.pow10Tab) Tryd.underlying140 Tryd.underlying68 (by kernel_rfl) (by kernel_rfl) hd]
theorem tellLines_contract (H : Type) (enc : TypeId × Value → H) (W : World) (base : Nat) (args : Array Value) (ds gs : List (DataW H)) (before : List MemPlace)
   (hval : ∀ (j : Nat) t v, Tryd.f4.params[j]? = some t → args[j]? = some v → Value.okWide Tryd.prog W .any base t v)
   (hW : DataW.Whole enc Tryd.prog Tryd.f4.params.toList Rows.tellLinesSpec.vars false W args.toList ds gs before) (hsh : W.ShapedOpen Tryd.prog) (hT : TabW W) :
   Calls Tryd.prog 4 args W fun e W' => ∃ v, e = .returned v ∧ Rows.tellLinesSpec.post enc Tryd.prog Tryd.f4 false true false false W args v W' := by
 obtain ⟨mx, hmx⟩ := tellLines_max hsh
 have hW' := hW
 obtain ⟨p, q, hA0, hV, rfl, hfz, hnd⟩ := hW
 have hA : DataW.TrodAll enc Tryd.prog W 0 (fun _ => true) true Tryd.f4.params.toList args.toList ds p := hA0
 rw [Tryd.params4] at hA hval
 obtain ⟨v0, vs0, d0, ds0, p0, q0, hargs, rfl, rfl, h0, r0⟩ := trodAll_cons hA
 obtain ⟨rfl, rfl, rfl⟩ := trodAll_nil r0
 obtain rfl : args = #[v0] := by cases args; simp_all
 obtain ⟨rfl, rfl⟩ := trodVars_none hV
 have k0 := h0
 have lt0 : ∀ x ∈ p0, x.block < W.heap.size := by obtain ⟨m, hm⟩ := k0; exact DataW.trod_lt m _ _ _ hm
 obtain ⟨q0, rfl, wq0⟩ := open_node (hval 0 35 v0 rfl rfl) h0
 clear hA0
 refine (tellLines_walk q0 W mx hmx hT wq0).mono fun e W' ⟨he, bel⟩ => ?_
 subst he
 exact ⟨_, rfl, _, _, _, [], _, [], hW', trodAll_mk1 (shut_bool Tryd.underlying4 _), (trodAll_cons_mk (Below.trod tellLines_laidOut (by kernel_rfl) (of_decide_eq_true (by kernel_rfl)) k0 bel lt0) trodAll_mk0), rfl, bel.frame _, fun h => by cases h⟩
set_option maxRecDepth 100000 in
theorem tellLines_wit (os : Os) (H : Type) (enc : TypeId × Value → H) : ∃ (w : World) (tape : Tape) (i : Input), w.os = os ∧ (w.forCall tape i).Shaped Tryd.checked.prog ∧ i.vars = [] ∧ Input.okWide Tryd.checked.prog (w.forCall tape i) .any w.heap.size 4 i ∧
     (OpenSpec.ofChange Rows.tellLinesSpec).preRow enc Tryd.checked.prog Tryd.f4 Rows.tellLinesRow.domain false Rows.tellLinesRow.laid (w.forCall tape i).memory i.args ∧ ({ modest := false } : Assume).holds Tryd.checked.prog (lone (Frame.enter Tryd.checked.prog 4 i.args .normal) [] (w.forCall tape i)) :=
 witness_row_at (enc := enc) (C := Tryd.checked) false ({ World.holding Tryd.prog os ⟨#[], #[], []⟩ with heap := ((((World.holding Tryd.prog os ⟨#[], #[], []⟩).heap.modify 2 fun | .cells _ t fz => .cells tellLines_tab0 t fz | o => o).modify 3 fun | .cells _ t fz => .cells tellLines_tab1 t fz | o => o).modify 0 fun | .cells _ t fz => .cells tellLines_tab2 t fz | o => o) }) #[.agg #[.int .u32 0, .int .u8 0, .int .u16 0, .int .u16 0, .slice none 0 0, .slice none 0 0]] rfl (by kernel_rfl) (by kernel_rfl) (by kernel_rfl)
   (OpenSpec.preRow_of_cond (x := ([.agg [.lit (.int .u32 0), .lit (.int .u8 0), .lit (.int .u16 0), .lit (.int .u16 0), .nil, .nil]], [], [])) 8 (by kernel_rfl) (by kernel_rfl) (fun k hk => by cases hk) (by kernel_rfl) (laidMet_of_run' 8 (by kernel_rfl) (by kernel_rfl)))
set_option maxRecDepth 100000 in
theorem tellLines_lifted (os : Os) (started : os.Started) (H : Type) (enc : TypeId × Value → H) (F : Stop.Interp) :
   ReturnsInHanded {} Tryd.checked os 4 .any ((OpenSpec.ofChange Rows.tellLinesSpec).preRow enc Tryd.prog Tryd.f4 Rows.tellLinesRow.domain false Rows.tellLinesRow.laid) (((OpenSpec.ofChange Rows.tellLinesSpec).at F).post enc Tryd.prog Tryd.f4 false true false false) := by
 refine returnsInHanded_of_row (C := Tryd.checked) (s := OpenSpec.ofChange Rows.tellLinesSpec) tellLines_own started (by kernel_rfl) Tryd.func4 (tellLines_wit os H enc) ?_
 intro W base args ds gs before hval hW _ _ _ hL hsh _
 exact tellLines_contract H enc W base args ds gs before hval hW hsh (tellLines_tab hL)
theorem tellLines_said : Rows.TellLinesSaid :=
 OpenClaim.holds_of_cond 4 Tryd.f4 rfl rfl rfl rfl rfl rfl rfl ⟨rfl, rfl, rfl, rfl, rfl⟩ rfl rfl rfl rfl rfl (by kernel_rfl) Tryd.func4 (by kernel_rfl)
   (of_decide_eq_true (by kernel_rfl)) (by unfold Func.isWrapper; first | (rw [if_pos (by decide +kernel)]; kernel_rfl) | (rw [if_neg (by decide +kernel)]; exact ⟨rfl, rfl⟩))
   (fun os started H enc _ F => by rw [OpenClaim.pre_eq_preRow]; exact tellLines_lifted os started H enc F)
theorem tellLines_plain (g : FuncId) (fn : Func) (hf : Tryd.pinned.checked.prog.funcNamed Rows.tellLinesRow.func = some g) (hfn : Tryd.pinned.checked.prog.funcs[g]? = some fn) :
   false = Tryd.pinned.checked.prog.looks [] ∧ ∀ (j : Nat) t, fn.params[j]? = some t → Tryd.pinned.checked.prog.wantsStandIn t = false := by
 obtain rfl : g = 4 := Option.some.inj ((show Tryd.prog.funcNamed Rows.tellLinesRow.func = some 4 by kernel_rfl).symm.trans hf) |>.symm
 obtain rfl : fn = Tryd.f4 := (Option.some.inj (Tryd.func4.symm.trans hfn)).symm
 refine ⟨by kernel_rfl, fun j t ht => ?_⟩
 rw [Tryd.params4] at ht
 have hm := Array.mem_of_getElem? ht
 simp at hm
 subst hm
 exact (show Tryd.prog.wantsStandIn 35 = false by kernel_rfl)
theorem tellLines_holds : Rows.TellLinesCardSaid :=
 Claim7.holds_tied_plain_at .later [] _ _ _ _ tellLines_said (fun _ h => by cases h) (by kernel_rfl) (fun _ h => by cases h) tellLines_row_tie rfl ⟨rfl, rfl⟩ (by kernel_rfl) rfl tellLines_plain (by kernel_rfl)
#print axioms tellLines_holds
end Go.Proofs.YthoaiapfjbgfhaaDoor
