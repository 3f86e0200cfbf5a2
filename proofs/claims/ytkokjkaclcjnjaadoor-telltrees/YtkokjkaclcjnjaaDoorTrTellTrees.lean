/-
  For every nodes (the first 42 are looked at): Tree and Paths answer as the document says.
-/
import Derived.Test.YtkokjkaclcjnjaaDoorTrCa
import Derived.Test.YtkokjkaclcjnjaaDoorTrBx
import Derived.Test.YtkokjkaclcjnjaaDoorCards
import Derived.Test.YtkokjkaclcjnjaaDoorTie
import Derived.ChangeOld
import Derived.Below
import Derived.Deep.DeepHandedRow
import Derived.Lib.LaidTab
import Derived.Shelf.Vars
namespace Go.Proofs.YtkokjkaclcjnjaaDoor
open Go.RowKit Go.ChangeShapes Go.WideShapes Go.ChangeAt Go.Maps Go.Shelf
open Go.ChangeMaps (open_string shut_string)
set_option linter.unusedVariables false
set_option linter.unusedSimpArgs false
set_option maxRecDepth 20000
set_option maxHeartbeats 8000000 in
theorem tellTrees_walk (a : Option Addr) (len cap : Nat) (L : List Nd) (lz : L.length = len) (lc : len ≤ cap) (w : World) (mx : Int) {gM : Nat} (hmx : w.cell? ⟨gM, 0, none⟩ = some (.int .i64 mx)) (ht : TabW w) (hL : IsNs w a L ∧ ∀ x ∈ L, x.Nil) :
   Calls Tryd.prog 5 #[.slice a len cap] w fun e w' => e = .returned (.bool true) ∧ Below w.heap.size w w' := by
 clear hmx
 have SC := hid (small15_c a len cap L w lz lc)
 have hM := ns_take15 hL.1 42
 have hMn : ∀ x ∈ L.take 42, x.Nil := fun x hx => hL.2 x (List.mem_of_mem_take hx)
 have hMl : (L.take 42).length ≤ 42 := by rw [List.length_take]; omega
 generalize L.take 42 = M at *
 have PT := hid (fun W (h : Below w.heap.size w W) => ptree_c cap (hM.later h) (by omega) (ht.later h))
 have RT := hid (fun W (h : Below w.heap.size w W) => rtree_c cap (hM.later h) (by omega) (ht.later h))
 have LC := hid (fun W => tlive_c W)
 obtain ⟨⟨U, ue⟩, HU⟩ : ∃ u : ByteArray × Int, Hid (∀ w e w', TrP M w e w' → e = .returned (.tuple #[.string u.1, .int .i64 u.2]) ∧ Below w.heap.size w w') := by
   cases h : rightD M with
   | false => exact ⟨(⟨#[]⟩, 3), hid (fun w e w' q => ⟨by have := q.1; rw [h] at this; simpa using this, q.2⟩)⟩
   | true => exact ⟨(⟨(treeL M).toArray⟩, 0), hid (fun w e w' q => ⟨by have := q.1; rw [h] at this; simpa using this, q.2⟩)⟩
 have PT1 := hid (fun W h => (PT.out W h).mono (HU.out W))
 have RT1 := hid (fun W h => (RT.out W h).mono (HU.out W))
 obtain ⟨P, hP, PP, RP⟩ : ∃ P : List ByteArray, P.length ≤ 1000 ∧ Hid (∀ W, Below w.heap.size w W → Calls Tryd.prog 20 #[.slice a M.length cap] W (ColS P W)) ∧ Hid (∀ W, Below w.heap.size w W → Calls Tryd.prog 21 #[.slice a M.length cap] W (ColS P W)) := by
   cases h : rightD M with
   | false => exact ⟨[], by simp, hid (fun W hW => ppaths_no cap (hM.later hW) (by omega) (fun q => by rw [(rightD_iff M).1 q] at h; cases h)), hid (fun W hW => rpaths_no cap (hM.later hW) (by omega) h)⟩
   | true =>
     have R := rightD_rt.1 h
     exact ⟨belF M (M.length + 1) 1 ⟨#[]⟩, by rw [bel_len]; have := cn_few R (M.length + 1); omega, hid (fun W hW => ppaths_c cap (rt_tr (hM.later hW) hMn R) R), hid (fun W hW => rpaths_c cap (hM.later hW) R)⟩
 have ST := hid (fun W b1 b2 v1 v2 (h1 : OwS W b1 v1 P) (h2 : OwS W b2 v2 P) => sameTexts_c b1 b2 v1 v2 P h1 h2 (by omega))
 clear PT RT HU hM hMn ht hL lz lc hP
 have b2 : (U.toList == U.toList) = true := beq_self_eq_true _
 have b3 : (ue == ue) = true := beq_self_eq_true _
 generalize M.length = n at *
 go_enter Tryd.func5, Tryd.ntmps5
 go_wp2_with (first
   | (go_at_call 19; refine (ST.out _ _ _ _ _ (O4.out.later HB5.out) O5.out).mono ?_; rintro _ w6 ⟨rfl, hb6⟩; have B6 := hid (B5.out.trans (hb6.mono B5.out.size)); clear hb6)
   | (go_at_call 21; refine (RP.out _ B4.out).mono ?_; rintro _ w5 ⟨v5, rfl, hO5, hb5⟩; obtain ⟨a5, c5, rfl⟩ := hO5.shape; have O5 := hid hO5; have HB5 := hid hb5; have B5 := hid (B4.out.trans (hb5.mono B4.out.size)); clear hb5 hO5)
   | (go_at_call 20; refine (PP.out _ B3.out).mono ?_; rintro _ w4 ⟨v4, rfl, hO4, hb4⟩; obtain ⟨a4, c4, rfl⟩ := hO4.shape; have O4 := hid hO4; have B4 := hid (B3.out.trans (hb4.mono B3.out.size)); clear hb4 hO4)
   | (go_at_call 11; refine (LC.out _).mono ?_; rintro _ w3 ⟨rfl, hb3⟩; have B3 := hid (B2.out.trans (hb3.mono B2.out.size)); clear hb3)
   | (go_at_call 18; refine (RT1.out _ B1.out).mono ?_; rintro _ w2 ⟨rfl, hb2⟩; have B2 := hid (B1.out.trans (hb2.mono B1.out.size)); clear hb2)
   | (go_at_call 17; refine (PT1.out _ (Below.refl _ _)).mono ?_; rintro _ w1 ⟨rfl, hb1⟩; have B1 := hid hb1; clear hb1)
   | (go_at_call 16; refine SC.out.mono ?_; rintro _ w0 ⟨rfl, h0⟩; rw [h0]; clear h0))
 go_ret
 exact ⟨by first | rfl | simp, B6.out⟩
/-! ### The row and the card of TellTrees -/
theorem tellTrees_own : ownKnob Tryd.prog.godebug = none := by kernel_rfl
theorem tellTrees_laidOut : laidOutB Tryd.prog = true := by kernel_rfl
def tellTrees_tab0 : Array Value := ([0, 1, 28, 2, 29, 14, 24, 3, 30, 22, 20, 15, 25, 17, 4, 8, 31, 27, 13, 23, 21, 19, 16, 7, 26, 12, 18, 6, 11, 5, 10, 9].map fun (n : Nat) => Value.int .u8 (n : Int)).toArray
def tellTrees_tab1 : Array Value := ([0, 1, 56, 2, 57, 49, 28, 3, 61, 58, 42, 50, 38, 29, 17, 4, 62, 47, 59, 36, 45, 43, 51, 22, 53, 39, 33, 30, 24, 18, 12, 5, 63, 55, 48, 27, 60, 41, 37, 16, 46, 35, 44, 21, 52, 32, 23, 11, 54, 26, 40, 15, 34, 20, 31, 10, 25, 14, 19, 9, 13, 8, 7, 6].map fun (n : Nat) => Value.int .u8 (n : Int)).toArray
def tellTrees_tab2 : Array Value := ([1, 10, 100, 1000, 10000, 100000, 1000000, 10000000, 100000000, 1000000000, 10000000000, 100000000000, 1000000000000, 10000000000000, 100000000000000, 1000000000000000, 10000000000000000, 100000000000000000, 1000000000000000000, 10000000000000000000].map fun (n : Nat) => Value.int .u64 (n : Int)).toArray
theorem tellTrees_max {W : World} (h : W.ShapedOpen Tryd.prog) : ∃ m, W.cell? ⟨1, 0, none⟩ = some (.int .i64 m) :=
 cell_of_shapedOpen_int (t := 3) (zero := #[.int .i64 0]) h (by decide +kernel) (by kernel_rfl) rfl (by kernel_rfl) (by kernel_rfl) Tryd.underlying3
theorem tellTrees_tab {W : World} (h : laidMet Tryd.prog Rows.tellTreesRow.laid W) : TabW W := by
 obtain ⟨_, h0, _⟩ := h
 obtain ⟨_, _, _, _, _, _, _, _, _, _, h1, _⟩ := h0
 obtain ⟨_, _, _, _, _, _, _, _, _, _, h2, _⟩ := h1
 obtain ⟨g, t, cs, fuel, p, q, hg, ht, hvar, hd, _, _⟩ := h2
 obtain rfl : 0 = g := Option.some.inj ((show Tryd.prog.globalNamed "internal/strconv.uint64pow10" = some 0 by kernel_rfl).symm.trans hg)
 obtain rfl : 142 = t := Option.some.inj ((show (Tryd.prog.globals[0]?).map (·.type) = some 142 by kernel_rfl).symm.trans ht)
 unfold TabW Lib.TabIs
 rw [hvar, ← Lib.cells_of_tab (k := .u64) (zs := Lib.pow10Tab) Tryd.underlying142 Tryd.underlying68 (by kernel_rfl) (by kernel_rfl) hd]
theorem tellTrees_contract (H : Type) (enc : TypeId × Value → H) (W : World) (base : Nat) (args : Array Value) (ds gs : List (DataW H)) (before : List MemPlace)
   (hval : ∀ (j : Nat) t v, Tryd.f5.params[j]? = some t → args[j]? = some v → Value.okWide Tryd.prog W .any base t v)
   (hW : DataW.Whole enc Tryd.prog Tryd.f5.params.toList Rows.tellTreesSpec.vars false W args.toList ds gs before) (hsh : W.ShapedOpen Tryd.prog) (hT : TabW W) :
   Calls Tryd.prog 5 args W fun e W' => ∃ v, e = .returned v ∧ Rows.tellTreesSpec.post enc Tryd.prog Tryd.f5 false true false false W args v W' := by
 obtain ⟨mx, hmx⟩ := tellTrees_max hsh
 have hW' := hW
 obtain ⟨p, q, hA0, hV, rfl, hfz, hnd⟩ := hW
 have hA : DataW.TrodAll enc Tryd.prog W 0 (fun _ => true) true Tryd.f5.params.toList args.toList ds p := hA0
 rw [Tryd.params5] at hA hval
 obtain ⟨v0, vs0, d0, ds0, p0, q0, hargs, rfl, rfl, h0, r0⟩ := trodAll_cons hA
 obtain ⟨rfl, rfl, rfl⟩ := trodAll_nil r0
 obtain rfl : args = #[v0] := by cases args; simp_all
 obtain ⟨rfl, rfl⟩ := trodVars_none hV
 have k0 := h0
 have lt0 : ∀ x ∈ p0, x.block < W.heap.size := by obtain ⟨m, hm⟩ := k0; exact DataW.trod_lt m _ _ _ hm
 obtain ⟨a0, len0, cap0, rfl⟩ := okWide_slice Tryd.underlying38 (hval 0 38 v0 rfl rfl)
 obtain ⟨z0, lz0, w0, lc0⟩ := isNs_of Tryd.underlying38 h0
 clear hA0
 refine (tellTrees_walk a0 len0 cap0 z0 lz0 lc0 W mx hmx hT w0).mono fun e W' ⟨he, bel⟩ => ?_
 subst he
 exact ⟨_, rfl, _, _, _, [], _, [], hW', trodAll_mk1 (shut_bool Tryd.underlying4 _), (trodAll_cons_mk (Below.trod tellTrees_laidOut (by kernel_rfl) (of_decide_eq_true (by kernel_rfl)) k0 bel lt0) trodAll_mk0), rfl, bel.frame _, fun h => by cases h⟩
set_option maxRecDepth 100000 in
theorem tellTrees_wit (os : Os) (H : Type) (enc : TypeId × Value → H) : ∃ (w : World) (tape : Tape) (i : Input), w.os = os ∧ (w.forCall tape i).Shaped Tryd.checked.prog ∧ i.vars = [] ∧ Input.okWide Tryd.checked.prog (w.forCall tape i) .any w.heap.size 5 i ∧
     (OpenSpec.ofChange Rows.tellTreesSpec).preRow enc Tryd.checked.prog Tryd.f5 Rows.tellTreesRow.domain false Rows.tellTreesRow.laid (w.forCall tape i).memory i.args ∧ ({ modest := false } : Assume).holds Tryd.checked.prog (lone (Frame.enter Tryd.checked.prog 5 i.args .normal) [] (w.forCall tape i)) :=
 witness_row_at (enc := enc) (C := Tryd.checked) false ({ World.holding Tryd.prog os ⟨#[], #[], []⟩ with heap := ((((World.holding Tryd.prog os ⟨#[], #[], []⟩).heap.modify 2 fun | .cells _ t fz => .cells tellTrees_tab0 t fz | o => o).modify 3 fun | .cells _ t fz => .cells tellTrees_tab1 t fz | o => o).modify 0 fun | .cells _ t fz => .cells tellTrees_tab2 t fz | o => o) }) #[.slice none 0 0] rfl (by kernel_rfl) (by kernel_rfl) (by kernel_rfl)
   (OpenSpec.preRow_of_cond (x := ([.nil], [], [])) 8 (by kernel_rfl) (by kernel_rfl) (fun k hk => by cases hk) (by kernel_rfl) (laidMet_of_run' 8 (by kernel_rfl) (by kernel_rfl)))
set_option maxRecDepth 100000 in
theorem tellTrees_lifted (os : Os) (started : os.Started) (H : Type) (enc : TypeId × Value → H) (F : Stop.Interp) :
   ReturnsInHanded {} Tryd.checked os 5 .any ((OpenSpec.ofChange Rows.tellTreesSpec).preRow enc Tryd.prog Tryd.f5 Rows.tellTreesRow.domain false Rows.tellTreesRow.laid) (((OpenSpec.ofChange Rows.tellTreesSpec).at F).post enc Tryd.prog Tryd.f5 false true false false) := by
 refine returnsInHanded_of_row (C := Tryd.checked) (s := OpenSpec.ofChange Rows.tellTreesSpec) tellTrees_own started (by kernel_rfl) Tryd.func5 (tellTrees_wit os H enc) ?_
 intro W base args ds gs before hval hW _ _ _ hL hsh _
 exact tellTrees_contract H enc W base args ds gs before hval hW hsh (tellTrees_tab hL)
theorem tellTrees_said : Rows.TellTreesSaid :=
 OpenClaim.holds_of_cond 5 Tryd.f5 rfl rfl rfl rfl rfl rfl rfl ⟨rfl, rfl, rfl, rfl, rfl⟩ rfl rfl rfl rfl rfl (by kernel_rfl) Tryd.func5 (by kernel_rfl)
   (of_decide_eq_true (by kernel_rfl)) (by unfold Func.isWrapper; first | (rw [if_pos (by decide +kernel)]; kernel_rfl) | (rw [if_neg (by decide +kernel)]; exact ⟨rfl, rfl⟩))
   (fun os started H enc _ F => by rw [OpenClaim.pre_eq_preRow]; exact tellTrees_lifted os started H enc F)
theorem tellTrees_plain (g : FuncId) (fn : Func) (hf : Tryd.pinned.checked.prog.funcNamed Rows.tellTreesRow.func = some g) (hfn : Tryd.pinned.checked.prog.funcs[g]? = some fn) :
   false = Tryd.pinned.checked.prog.looks [] ∧ ∀ (j : Nat) t, fn.params[j]? = some t → Tryd.pinned.checked.prog.wantsStandIn t = false := by
 obtain rfl : g = 5 := Option.some.inj ((show Tryd.prog.funcNamed Rows.tellTreesRow.func = some 5 by kernel_rfl).symm.trans hf) |>.symm
 obtain rfl : fn = Tryd.f5 := (Option.some.inj (Tryd.func5.symm.trans hfn)).symm
 refine ⟨by kernel_rfl, fun j t ht => ?_⟩
 rw [Tryd.params5] at ht
 have hm := Array.mem_of_getElem? ht
 simp at hm
 subst hm
 exact (show Tryd.prog.wantsStandIn 38 = false by kernel_rfl)
theorem tellTrees_holds : Rows.TellTreesCardSaid :=
 Claim7.holds_tied_plain_at .later [] _ _ _ _ tellTrees_said (fun _ h => by cases h) (by kernel_rfl) (fun _ h => by cases h) tellTrees_row_tie rfl ⟨rfl, rfl⟩ (by kernel_rfl) rfl tellTrees_plain (by kernel_rfl)
#print axioms tellTrees_holds
end Go.Proofs.YtkokjkaclcjnjaaDoor
