/-
  For every text (its first 9000 bytes are looked at): Read answers as the document says.
-/
import Derived.Test.YtkokjkaclcjnjaaDoorRdBy
import Derived.Test.YtkokjkaclcjnjaaDoorRdAu
import Derived.Test.YtkokjkaclcjnjaaDoorRdBl
import Derived.Test.YtkokjkaclcjnjaaDoorCards
import Derived.Test.YtkokjkaclcjnjaaDoorTie
import Derived.ChangeOld
import Derived.Below
import Derived.Deep.DeepHandedRow
import Derived.Lib.LaidTab
import Derived.Shelf.Vars
namespace Go.Proofs.YtkokjkaclcjnjaaDoor
open Go.RowKit Go.ChangeShapes Go.WideShapes Go.ChangeAt Go.Maps Go.Shelf
open Go.ChangeMaps (open_string shut_string)
set_option linter.unusedVariables false
set_option linter.unusedSimpArgs false
set_option maxRecDepth 20000
set_option maxHeartbeats 8000000 in
theorem tellReads_walk (s : ByteArray) (hs : s.size ≤ maxLen) (w : World) (mx : Int) (hmx : w.cell? ⟨Tryd.lays145_ren.g 1, 0, none⟩ = some (.int .i64 mx)) (ht : TabW w) :
   Calls Tryd.prog 6 #[.string s] w fun e w' => e = .returned (.bool true) ∧ Below w.heap.size w w' := by
 have hm : MxW w := ⟨mx, hmx⟩
 clear hmx
 have h9 := few15_size s
 have FC := hid (few15_c s w)
 generalize few15 s = t9 at *
 have PC := hid (fun W (h : Below w.heap.size w W) => tread_c t9 W (by omega) (hm.later h))
 have RC := hid (fun W (h : Below w.heap.size w W) => rread_c t9 W (by omega) (hm.later h) (ht.later h))
 have LC := hid (fun W => tlive_c W)
 cases hT : treeP t9.data.toList with
 | none =>
   rw [hT] at PC RC
   unfold ReP at PC RC
   simp only at PC RC
   have SC := hid (fun W => same6_c none none 0 0 [] [] W (Tr.nil W).1 (Tr.nil W).1 rfl (by simp) (fun x hx => by cases hx))
   simp only [List.length_nil] at SC
   clear hT hm ht
   go_enter Tryd.func6, Tryd.ntmps6
   go_wp2_with (first
     | (go_at_call 24; refine (SC.out _).mono ?_; rintro _ w4 ⟨rfl, hb4⟩; have B4 := hid (B3.out.trans (hb4.mono B3.out.size)); clear hb4)
     | (go_at_call 11; refine (LC.out _).mono ?_; rintro _ w3 ⟨rfl, hb3⟩; have B3 := hid (B2.out.trans (hb3.mono B2.out.size)); clear hb3)
     | (go_at_call 23; refine (RC.out _ B1.out).mono ?_; rintro _ w2 ⟨rfl, hb2⟩; have B2 := hid (B1.out.trans (hb2.mono B1.out.size)); clear hb2)
     | (go_at_call 22; refine (PC.out _ (Below.refl _ _)).mono ?_; rintro _ w1 ⟨rfl, hb1⟩; have B1 := hid hb1; clear hb1)
     | (go_at_call 8; refine FC.out.mono ?_; rintro _ w0 ⟨rfl, h0⟩; rw [h0]; clear h0))
   go_ret
   exact ⟨by first | rfl | simp, B4.out⟩
 | some l =>
   rw [hT] at PC RC
   unfold ReP at PC RC
   simp only at PC RC
   obtain ⟨hr, _, hl, _⟩ := treeP_back15 hT
   have SM : Hid (∀ (W : World) (v u : Value) (K M : List Nd) (b1 b2 : Nat), OwN W b1 v K → (∀ x ∈ K, NdB W b1 x) → K.map Nd.er = l → OwN W b2 u M → (∀ x ∈ M, NdB W b2 x) → M.map Nd.er = l → ∃ a2 c2 a3 c3, v = .slice a2 K.length c2 ∧ u = .slice a3 M.length c3 ∧ Calls Tryd.prog 24 #[.slice a2 K.length c2, .slice a3 M.length c3] W fun e w' => e = .returned (.bool true) ∧ Below W.heap.size W w') := hid (fun W v u K M b1 b2 hO hN hE hO2 hN2 hE2 => by
     have hKl : K.length ≤ 42 := by have := congrArg List.length hE; rw [List.length_map] at this; omega
     have hMl : M.length ≤ 42 := by have := congrArg List.length hE2; rw [List.length_map] at this; omega
     obtain ⟨a2, c2, rfl, hI⟩ := NsB.is hO hN (by omega)
     obtain ⟨a3, c3, rfl, hI2⟩ := NsB.is hO2 hN2 (by omega)
     refine ⟨a2, c2, a3, c3, rfl, rfl, same6_c a2 a3 c2 c3 K M W hI hI2 (hE.trans hE2.symm) (by omega) (fun x hx => ?_)⟩
     have hrK : rightD K = true := by rw [← rightD_er K, hE]; exact hr
     have := (node_small ((rightD_rt.1 hrK).ok x hx).1).2.1
     omega)
   clear hT hm ht hr hl
   go_enter Tryd.func6, Tryd.ntmps6
   go_wp2_with (first
     | (go_at_call 24; refine S4.out.mono ?_; rintro _ w4 ⟨rfl, hb4⟩; have B4 := hid (B3.out.trans (hb4.mono B3.out.size)); clear hb4)
     | (go_at_call 11; refine (LC.out _).mono ?_; rintro _ w3 ⟨rfl, hb3⟩; have B3 := hid (B2.out.trans (hb3.mono B2.out.size)); have S4 := hid (S3.out w3 hb3); clear hb3)
     | (go_at_call 23; refine (RC.out _ B1.out).mono ?_; rintro _ w2 ⟨⟨v2, M, rfl, hO2, hN2, hE2⟩, hb2⟩; have B2 := hid (B1.out.trans (hb2.mono B1.out.size)); obtain ⟨a3, c3, rfl⟩ := hO2.shape; have S3 : Hid (∀ W, Below w2.heap.size w2 W → Calls Tryd.prog 24 #[.slice a2 K.length c2, .slice a3 M.length c3] W fun e w' => e = .returned (.bool true) ∧ Below W.heap.size W w') := hid (fun W hW => by obtain ⟨x1, x2, x3, x4, y1, y2, y3⟩ := SM.out W _ _ K M _ _ ((O1.out.later hb2).later hW) (fun x hx => ((N1.out x hx).later hb2).later hW) E1.out (hO2.later hW) (fun x hx => (hN2 x hx).later hW) hE2; simp only [Value.slice.injEq, true_and] at y1 y2; obtain ⟨rfl, rfl⟩ := y1; obtain ⟨rfl, rfl⟩ := y2; exact y3); clear hb2 hO2 hN2 hE2)
     | (go_at_call 22; refine (PC.out _ (Below.refl _ _)).mono ?_; rintro _ w1 ⟨⟨v1, K, rfl, hO1, hN1, hE1⟩, hb1⟩; have B1 := hid hb1; obtain ⟨a2, c2, rfl⟩ := hO1.shape; have O1 := hid hO1; have N1 := hid hN1; have E1 := hid hE1; clear hb1 hO1 hN1 hE1)
     | (go_at_call 8; refine FC.out.mono ?_; rintro _ w0 ⟨rfl, h0⟩; rw [h0]; clear h0))
   go_ret
   exact ⟨by first | rfl | simp, B4.out⟩
/-! ### The row and the card of TellReads -/
theorem tellReads_own : ownKnob Tryd.prog.godebug = none := by kernel_rfl
theorem tellReads_laidOut : laidOutB Tryd.prog = true := by kernel_rfl
def tellReads_tab0 : Array Value := ([0, 1, 28, 2, 29, 14, 24, 3, 30, 22, 20, 15, 25, 17, 4, 8, 31, 27, 13, 23, 21, 19, 16, 7, 26, 12, 18, 6, 11, 5, 10, 9].map fun (n : Nat) => Value.int .u8 (n : Int)).toArray
def tellReads_tab1 : Array Value := ([0, 1, 56, 2, 57, 49, 28, 3, 61, 58, 42, 50, 38, 29, 17, 4, 62, 47, 59, 36, 45, 43, 51, 22, 53, 39, 33, 30, 24, 18, 12, 5, 63, 55, 48, 27, 60, 41, 37, 16, 46, 35, 44, 21, 52, 32, 23, 11, 54, 26, 40, 15, 34, 20, 31, 10, 25, 14, 19, 9, 13, 8, 7, 6].map fun (n : Nat) => Value.int .u8 (n : Int)).toArray
def tellReads_tab2 : Array Value := ([1, 10, 100, 1000, 10000, 100000, 1000000, 10000000, 100000000, 1000000000, 10000000000, 100000000000, 1000000000000, 10000000000000, 100000000000000, 1000000000000000, 10000000000000000, 100000000000000000, 1000000000000000000, 10000000000000000000].map fun (n : Nat) => Value.int .u64 (n : Int)).toArray
def tellReads_tab3 : Array Value := ([128, 191, 160, 191, 128, 159, 144, 191, 128, 143, 0, 0, 0, 0, 0, 0, 0, 0, 0, 0, 0, 0, 0, 0, 0, 0, 0, 0, 0, 0, 0, 0].map fun (n : Nat) => Value.int .u8 (n : Int)).toArray
def tellReads_tab4 : Array Value := (Go.Pinned.utf8FirstZ.map fun (n : Nat) => Value.int .u8 (n : Int)).toArray
theorem tellReads_max {W : World} (h : W.ShapedOpen Tryd.prog) : ∃ m, W.cell? ⟨1, 0, none⟩ = some (.int .i64 m) :=
 cell_of_shapedOpen_int (t := 3) (zero := #[.int .i64 0]) h (by decide +kernel) (by kernel_rfl) rfl (by kernel_rfl) (by kernel_rfl) Tryd.underlying3
theorem tellReads_tab {W : World} (h : laidMet Tryd.prog Rows.tellReadsRow.laid W) : TabW W := by
 obtain ⟨_, h0, _⟩ := h
 obtain ⟨_, _, _, _, _, _, _, _, _, _, h1, _⟩ := h0
 obtain ⟨_, _, _, _, _, _, _, _, _, _, h2, _⟩ := h1
 obtain ⟨g, t, cs, fuel, p, q, hg, ht, hvar, hd, _, _⟩ := h2
 obtain rfl : 0 = g := Option.some.inj ((show Tryd.prog.globalNamed "internal/strconv.uint64pow10" = some 0 by kernel_rfl).symm.trans hg)
 obtain rfl : 142 = t := Option.some.inj ((show (Tryd.prog.globals[0]?).map (·.type) = some 142 by kernel_rfl).symm.trans ht)
 unfold TabW Lib.TabIs
 rw [hvar, ← Lib.cells_of_tab (k := .u64) (zs := Lib.pow10Tab) Tryd.underlying142 Tryd.underlying68 (by kernel_rfl) (by kernel_rfl) hd]
theorem tellReads_contract (H : Type) (enc : TypeId × Value → H) (W : World) (base : Nat) (args : Array Value) (ds gs : List (DataW H)) (before : List MemPlace)
   (hval : ∀ (j : Nat) t v, Tryd.f6.params[j]? = some t → args[j]? = some v → Value.okWide Tryd.prog W .any base t v)
   (hW : DataW.Whole enc Tryd.prog Tryd.f6.params.toList Rows.tellReadsSpec.vars false W args.toList ds gs before) (hsh : W.ShapedOpen Tryd.prog) (hT : TabW W) :
   Calls Tryd.prog 6 args W fun e W' => ∃ v, e = .returned v ∧ Rows.tellReadsSpec.post enc Tryd.prog Tryd.f6 false true false false W args v W' := by
 obtain ⟨mx, hmx⟩ := tellReads_max hsh
 have hW' := hW
 obtain ⟨p, q, hA0, hV, rfl, hfz, hnd⟩ := hW
 have hA : DataW.TrodAll enc Tryd.prog W 0 (fun _ => true) true Tryd.f6.params.toList args.toList ds p := hA0
 rw [Tryd.params6] at hA hval
 obtain ⟨v0, vs0, d0, ds0, p0, q0, hargs, rfl, rfl, h0, r0⟩ := trodAll_cons hA
 obtain ⟨rfl, rfl, rfl⟩ := trodAll_nil r0
 obtain rfl : args = #[v0] := by cases args; simp_all
 obtain ⟨rfl, rfl⟩ := trodVars_none hV
 obtain ⟨a0, rfl, rfl, rfl, w0⟩ := open_string Tryd.underlying9 (hval 0 9 v0 rfl rfl) h0
 clear hA0
 refine (tellReads_walk a0 w0 W mx hmx hT).mono fun e W' ⟨he, bel⟩ => ?_
 subst he
 exact ⟨_, rfl, _, _, _, [], _, [], hW', trodAll_mk1 (shut_bool Tryd.underlying4 _), (trodAll_cons_mk (shut_string Tryd.underlying9 w0) trodAll_mk0), rfl, bel.frame _, fun h => by cases h⟩
set_option maxRecDepth 100000 in
theorem tellReads_wit (os : Os) (H : Type) (enc : TypeId × Value → H) : ∃ (w : World) (tape : Tape) (i : Input), w.os = os ∧ (w.forCall tape i).Shaped Tryd.checked.prog ∧ i.vars = [] ∧ Input.okWide Tryd.checked.prog (w.forCall tape i) .any w.heap.size 6 i ∧
     (OpenSpec.ofChange Rows.tellReadsSpec).preRow enc Tryd.checked.prog Tryd.f6 Rows.tellReadsRow.domain false Rows.tellReadsRow.laid (w.forCall tape i).memory i.args ∧ ({ modest := false } : Assume).holds Tryd.checked.prog (lone (Frame.enter Tryd.checked.prog 6 i.args .normal) [] (w.forCall tape i)) :=
 witness_row_at (enc := enc) (C := Tryd.checked) false ({ World.holding Tryd.prog os ⟨#[], #[], []⟩ with heap := ((((((World.holding Tryd.prog os ⟨#[], #[], []⟩).heap.modify 2 fun | .cells _ t fz => .cells tellReads_tab0 t fz | o => o).modify 3 fun | .cells _ t fz => .cells tellReads_tab1 t fz | o => o).modify 0 fun | .cells _ t fz => .cells tellReads_tab2 t fz | o => o).modify 5 fun | .cells _ t fz => .cells tellReads_tab3 t fz | o => o).modify 4 fun | .cells _ t fz => .cells tellReads_tab4 t fz | o => o) }) #[.string ByteArray.empty] rfl (by kernel_rfl) (by kernel_rfl) (by kernel_rfl)
   (OpenSpec.preRow_of_cond (x := ([.lit (.string [])], [], [])) 8 (by kernel_rfl) (by kernel_rfl) (fun k hk => by cases hk) (by kernel_rfl) (laidMet_of_run' 8 (by kernel_rfl) (by kernel_rfl)))
set_option maxRecDepth 100000 in
theorem tellReads_lifted (os : Os) (started : os.Started) (H : Type) (enc : TypeId × Value → H) (F : Stop.Interp) :
   ReturnsInHanded {} Tryd.checked os 6 .any ((OpenSpec.ofChange Rows.tellReadsSpec).preRow enc Tryd.prog Tryd.f6 Rows.tellReadsRow.domain false Rows.tellReadsRow.laid) (((OpenSpec.ofChange Rows.tellReadsSpec).at F).post enc Tryd.prog Tryd.f6 false true false false) := by
 refine returnsInHanded_of_row (C := Tryd.checked) (s := OpenSpec.ofChange Rows.tellReadsSpec) tellReads_own started (by kernel_rfl) Tryd.func6 (tellReads_wit os H enc) ?_
 intro W base args ds gs before hval hW _ _ _ hL hsh _
 exact tellReads_contract H enc W base args ds gs before hval hW hsh (tellReads_tab hL)
theorem tellReads_said : Rows.TellReadsSaid :=
 OpenClaim.holds_of_cond 6 Tryd.f6 rfl rfl rfl rfl rfl rfl rfl ⟨rfl, rfl, rfl, rfl, rfl⟩ rfl rfl rfl rfl rfl (by kernel_rfl) Tryd.func6 (by kernel_rfl)
   (of_decide_eq_true (by kernel_rfl)) (by unfold Func.isWrapper; first | (rw [if_pos (by decide +kernel)]; kernel_rfl) | (rw [if_neg (by decide +kernel)]; exact ⟨rfl, rfl⟩))
   (fun os started H enc _ F => by rw [OpenClaim.pre_eq_preRow]; exact tellReads_lifted os started H enc F)
theorem tellReads_plain (g : FuncId) (fn : Func) (hf : Tryd.pinned.checked.prog.funcNamed Rows.tellReadsRow.func = some g) (hfn : Tryd.pinned.checked.prog.funcs[g]? = some fn) :
   false = Tryd.pinned.checked.prog.looks [] ∧ ∀ (j : Nat) t, fn.params[j]? = some t → Tryd.pinned.checked.prog.wantsStandIn t = false := by
 obtain rfl : g = 6 := Option.some.inj ((show Tryd.prog.funcNamed Rows.tellReadsRow.func = some 6 by kernel_rfl).symm.trans hf) |>.symm
 obtain rfl : fn = Tryd.f6 := (Option.some.inj (Tryd.func6.symm.trans hfn)).symm
 refine ⟨by kernel_rfl, fun j t ht => ?_⟩
 rw [Tryd.params6] at ht
 have hm := Array.mem_of_getElem? ht
 simp at hm
 subst hm
 exact (show Tryd.prog.wantsStandIn 9 = false by kernel_rfl)
theorem tellReads_holds : Rows.TellReadsCardSaid :=
 Claim7.holds_tied_plain_at .later [] _ _ _ _ tellReads_said (fun _ h => by cases h) (by kernel_rfl) (fun _ h => by cases h) tellReads_row_tie rfl ⟨rfl, rfl⟩ (by kernel_rfl) rfl tellReads_plain (by kernel_rfl)
#print axioms tellReads_holds
end Go.Proofs.YtkokjkaclcjnjaaDoor
