/-
  For every text: what stands in quotes has nothing in it that ends a line or the quotes.
-/
import Derived.Test.YthoaiapfjbgfhabDoorPnBd
import Derived.Test.YthoaiapfjbgfhabDoorCards
import Derived.Test.YthoaiapfjbgfhabDoorTie
import Derived.ChangeOld
import Derived.Below
import Derived.Deep.DeepHandedRow
import Derived.Lib.LaidTab
import Derived.Shelf.Vars
namespace Go.Proofs.YthoaiapfjbgfhabDoor
open Go.RowKit Go.ChangeShapes Go.WideShapes Go.ChangeAt Go.Maps Go.Shelf
open Go.ChangeMaps (open_string shut_string)
set_option linter.unusedVariables false
set_option linter.unusedSimpArgs false
set_option maxRecDepth 20000
set_option maxHeartbeats 8000000 in
theorem tellPlain_walk (s : ByteArray) (hs : s.size ≤ maxLen) (w : World) (mx : Int) (hmx : w.cell? ⟨0, 0, none⟩ = some (.int .i64 mx)) :
   Calls Tryd.prog 3 #[.string s] w fun e w' => e = .returned (.bool true) ∧ Below w.heap.size w w' := by
 clear hmx
 have h9 := few15_size s
 have FC := hid (few15_c s w)
 have QC := hid (quote_c (few15 s) w (by omega))
 have QL := quote_len (few15 s).data.toList
 have hl : (few15 s).data.toList.length = (few15 s).size := rfl
 obtain ⟨Q, hQ⟩ : ∃ Q : ByteArray, Q = ⟨(quoteL (few15 s).data.toList).toArray⟩ := ⟨_, rfl⟩
 have eQ : (quoteL (few15 s).data.toList).length = Q.size := by rw [hQ]; rfl
 rw [eQ] at QL
 rw [← hQ] at QC
 have OK : Hid (∀ (i : Nat) (h : i < Q.size), 32 ≤ (Q[i]'h).toNat ∧ (Q[i]'h).toNat ≤ 126 ∧ ((Q[i]'h) = 34 → i = 0 ∨ i + 1 = Q.size)) := hid (fun i h => by
   subst hQ
   exact quote_ok (few15 s).data.toList (i := i) h)
 clear hQ eQ
 have q2 : (few15 s).size + 2 ≤ Q.size := by omega
 have q3 : Q.size ≤ 30000 := by omega
 clear QL hl
 generalize few15 s = s9 at *
 go_enter Tryd.func3, Tryd.ntmps3
 go_wp2_with (first
   | (go_at_call 5; refine QC.out.mono ?_; rintro _ w1 ⟨rfl, hb1⟩; have B1 := hid hb1; clear hb1)
   | (go_at_call 4; refine FC.out.mono ?_; rintro _ w0 ⟨rfl, h0⟩; rw [h0]; clear h0))
 clear FC QC
 go_loopg [4] Q.size (fun gk v wr => ∃ m : Nat, m + gk = Q.size ∧ v = .int .i64 m ∧ Hid (wr = w1))
 case atStart => exact ⟨0, by omega, rfl, hid rfl⟩
 case round =>
   obtain ⟨m, hm, rfl, HW⟩ := hrel
   have hwr := HW.out.symm
   subst hwr
   by_cases hlt : m < Q.size
   · have hltI : (m : Int) < Q.size := by omega
     obtain ⟨o1, o2, o3⟩ := OK.out m hlt
     have p1 : ¬ ((Q[m]'hlt).toNat : Int) < 32 := by omega
     have p2 : ¬ (126 : Int) < ((Q[m]'hlt).toNat : Int) := by omega
     by_cases h34 : Q[m]'hlt = 34
     · have p3 : (((Q[m]'hlt).toNat : Int) == 34) = true := by rw [h34]; rfl
       rcases o3 h34 with hm0 | hme
       · subst hm0
         clear h34 o1 o2 o3
         go_wp2
         go_roundg (gk - 1)
         case measure => omega
         case rel => exact ⟨1, by omega, by first | rfl | go_num, hid rfl⟩
       · by_cases hm0 : m = 0
         · omega
         have g0 : (0 : Int) < (m : Int) := by omega
         have g1 : ¬ (m : Int) < (Q.size : Int) - 1 := by omega
         clear h34 o1 o2 o3
         go_wp2
         go_roundg (gk - 1)
         case measure => omega
         case rel => exact ⟨m + 1, by omega, by go_num, hid rfl⟩
     · have p3 : (((Q[m]'hlt).toNat : Int) == 34) = false := by
         rw [beq_eq_false_iff_ne]
         intro e
         exact h34 (UInt8.toNat_inj.1 (by show (Q[m]'hlt).toNat = 34; omega))
       clear h34 o1 o2 o3
       go_wp2
       go_roundg (gk - 1)
       case measure => omega
       case rel => exact ⟨m + 1, by omega, by go_num, hid rfl⟩
   · have hge : ¬ (m : Int) < Q.size := by omega
     have q2I : (s9.size : Int) + 2 ≤ (Q.size : Int) := by omega
     have LC := hid (tlive_c w1)
     go_wp2_with (go_at_call 6; refine LC.out.mono ?_; rintro _ w9 ⟨rfl, hb9⟩; have B9 := hid (B1.out.trans (hb9.mono B1.out.size)); clear hb9)
     go_ret
     exact ⟨by first | rfl | simp, B9.out⟩
/-! ### The row and the card of TellPlain -/
theorem tellPlain_own : ownKnob Tryd.prog.godebug = none := by kernel_rfl
theorem tellPlain_laidOut : laidOutB Tryd.prog = true := by kernel_rfl
def tellPlain_tab0 : Array Value := ([0, 1, 28, 2, 29, 14, 24, 3, 30, 22, 20, 15, 25, 17, 4, 8, 31, 27, 13, 23, 21, 19, 16, 7, 26, 12, 18, 6, 11, 5, 10, 9].map fun (n : Nat) => Value.int .u8 (n : Int)).toArray
def tellPlain_tab1 : Array Value := ([0, 1, 56, 2, 57, 49, 28, 3, 61, 58, 42, 50, 38, 29, 17, 4, 62, 47, 59, 36, 45, 43, 51, 22, 53, 39, 33, 30, 24, 18, 12, 5, 63, 55, 48, 27, 60, 41, 37, 16, 46, 35, 44, 21, 52, 32, 23, 11, 54, 26, 40, 15, 34, 20, 31, 10, 25, 14, 19, 9, 13, 8, 7, 6].map fun (n : Nat) => Value.int .u8 (n : Int)).toArray
def tellPlain_tab2 : Array Value := ([1, 10, 100, 1000, 10000, 100000, 1000000, 10000000, 100000000, 1000000000, 10000000000, 100000000000, 1000000000000, 10000000000000, 100000000000000, 1000000000000000, 10000000000000000, 100000000000000000, 1000000000000000000, 10000000000000000000].map fun (n : Nat) => Value.int .u64 (n : Int)).toArray
theorem tellPlain_max {W : World} (h : W.ShapedOpen Tryd.prog) : ∃ m, W.cell? ⟨0, 0, none⟩ = some (.int .i64 m) :=
 cell_of_shapedOpen_int (t := 3) (zero := #[.int .i64 0]) h (by decide +kernel) (by kernel_rfl) rfl (by kernel_rfl) (by kernel_rfl) Tryd.underlying3
theorem tellPlain_contract (H : Type) (enc : TypeId × Value → H) (W : World) (base : Nat) (args : Array Value) (ds gs : List (DataW H)) (before : List MemPlace)
   (hval : ∀ (j : Nat) t v, Tryd.f3.params[j]? = some t → args[j]? = some v → Value.okWide Tryd.prog W .any base t v)
   (hW : DataW.Whole enc Tryd.prog Tryd.f3.params.toList Rows.tellPlainSpec.vars false W args.toList ds gs before) (hsh : W.ShapedOpen Tryd.prog) :
   Calls Tryd.prog 3 args W fun e W' => ∃ v, e = .returned v ∧ Rows.tellPlainSpec.post enc Tryd.prog Tryd.f3 false true false false W args v W' := by
 obtain ⟨mx, hmx⟩ := tellPlain_max hsh
 have hW' := hW
 obtain ⟨p, q, hA0, hV, rfl, hfz, hnd⟩ := hW
 have hA : DataW.TrodAll enc Tryd.prog W 0 (fun _ => true) true Tryd.f3.params.toList args.toList ds p := hA0
 rw [Tryd.params3] at hA hval
 obtain ⟨v0, vs0, d0, ds0, p0, q0, hargs, rfl, rfl, h0, r0⟩ := trodAll_cons hA
 obtain ⟨rfl, rfl, rfl⟩ := trodAll_nil r0
 obtain rfl : args = #[v0] := by cases args; simp_all
 obtain ⟨rfl, rfl⟩ := trodVars_none hV
 obtain ⟨a0, rfl, rfl, rfl, w0⟩ := open_string Tryd.underlying9 (hval 0 9 v0 rfl rfl) h0
 clear hA0
 refine (tellPlain_walk a0 w0 W mx hmx).mono fun e W' ⟨he, bel⟩ => ?_
 subst he
 exact ⟨_, rfl, _, _, _, [], _, [], hW', trodAll_mk1 (shut_bool Tryd.underlying4 _), (trodAll_cons_mk (shut_string Tryd.underlying9 w0) trodAll_mk0), rfl, bel.frame _, fun h => by cases h⟩
set_option maxRecDepth 100000 in
theorem tellPlain_wit (os : Os) (H : Type) (enc : TypeId × Value → H) : ∃ (w : World) (tape : Tape) (i : Input), w.os = os ∧ (w.forCall tape i).Shaped Tryd.checked.prog ∧ i.vars = [] ∧ Input.okWide Tryd.checked.prog (w.forCall tape i) .any w.heap.size 3 i ∧
     (OpenSpec.ofChange Rows.tellPlainSpec).preRow enc Tryd.checked.prog Tryd.f3 Rows.tellPlainRow.domain false Rows.tellPlainRow.laid (w.forCall tape i).memory i.args ∧ ({ modest := false } : Assume).holds Tryd.checked.prog (lone (Frame.enter Tryd.checked.prog 3 i.args .normal) [] (w.forCall tape i)) :=
 witness_row_at (enc := enc) (C := Tryd.checked) false ({ World.holding Tryd.prog os ⟨#[], #[], []⟩ with heap := ((((World.holding Tryd.prog os ⟨#[], #[], []⟩).heap.modify 2 fun | .cells _ t fz => .cells tellPlain_tab0 t fz | o => o).modify 3 fun | .cells _ t fz => .cells tellPlain_tab1 t fz | o => o).modify 1 fun | .cells _ t fz => .cells tellPlain_tab2 t fz | o => o) }) #[.string ByteArray.empty] rfl (by kernel_rfl) (by kernel_rfl) (by kernel_rfl)
   (OpenSpec.preRow_of_cond (x := ([.lit (.string [])], [], [])) 8 (by kernel_rfl) (by kernel_rfl) (fun k hk => by cases hk) (by kernel_rfl) (laidMet_of_run' 8 (by kernel_rfl) (by kernel_rfl)))
set_option maxRecDepth 100000 in
theorem tellPlain_lifted (os : Os) (started : os.Started) (H : Type) (enc : TypeId × Value → H) (F : Stop.Interp) :
   ReturnsInHanded {} Tryd.checked os 3 .any ((OpenSpec.ofChange Rows.tellPlainSpec).preRow enc Tryd.prog Tryd.f3 Rows.tellPlainRow.domain false Rows.tellPlainRow.laid) (((OpenSpec.ofChange Rows.tellPlainSpec).at F).post enc Tryd.prog Tryd.f3 false true false false) := by
 refine returnsInHanded_of_row (C := Tryd.checked) (s := OpenSpec.ofChange Rows.tellPlainSpec) tellPlain_own started (by kernel_rfl) Tryd.func3 (tellPlain_wit os H enc) ?_
 intro W base args ds gs before hval hW _ _ _ hL hsh _
 exact tellPlain_contract H enc W base args ds gs before hval hW hsh
theorem tellPlain_said : Rows.TellPlainSaid :=
 OpenClaim.holds_of_cond 3 Tryd.f3 rfl rfl rfl rfl rfl rfl rfl ⟨rfl, rfl, rfl, rfl, rfl⟩ rfl rfl rfl rfl rfl (by kernel_rfl) Tryd.func3 (by kernel_rfl)
   (of_decide_eq_true (by kernel_rfl)) (by unfold Func.isWrapper; first | (rw [if_pos (by decide +kernel)]; kernel_rfl) | (rw [if_neg (by decide +kernel)]; exact ⟨rfl, rfl⟩))
   (fun os started H enc _ F => by rw [OpenClaim.pre_eq_preRow]; exact tellPlain_lifted os started H enc F)
theorem tellPlain_plain (g : FuncId) (fn : Func) (hf : Tryd.pinned.checked.prog.funcNamed Rows.tellPlainRow.func = some g) (hfn : Tryd.pinned.checked.prog.funcs[g]? = some fn) :
   false = Tryd.pinned.checked.prog.looks [] ∧ ∀ (j : Nat) t, fn.params[j]? = some t → Tryd.pinned.checked.prog.wantsStandIn t = false := by
 obtain rfl : g = 3 := Option.some.inj ((show Tryd.prog.funcNamed Rows.tellPlainRow.func = some 3 by kernel_rfl).symm.trans hf) |>.symm
 obtain rfl : fn = Tryd.f3 := (Option.some.inj (Tryd.func3.symm.trans hfn)).symm
 refine ⟨by kernel_rfl, fun j t ht => ?_⟩
 rw [Tryd.params3] at ht
 have hm := Array.mem_of_getElem? ht
 simp at hm
 subst hm
 exact (show Tryd.prog.wantsStandIn 9 = false by kernel_rfl)
theorem tellPlain_holds : Rows.TellPlainCardSaid :=
 Claim7.holds_tied_plain_at .later [] _ _ _ _ tellPlain_said (fun _ h => by cases h) (by kernel_rfl) (fun _ h => by cases h) tellPlain_row_tie rfl ⟨rfl, rfl⟩ (by kernel_rfl) rfl tellPlain_plain (by kernel_rfl)
#print axioms tellPlain_holds
end Go.Proofs.YthoaiapfjbgfhabDoor
