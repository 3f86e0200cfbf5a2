/-
  However many records were done and whichever comes again: it changes nothing, and is answered as it was.
-/
import Derived.Test.YtpolbbdaippclaaGreatNnBz
namespace Go.Proofs.YtpolbbdaippclaaGreat
open Go.ChangeShapes Go.WideShapes Go.ChangeAt Go.RowKit Go.Maps
open Go.ChangeMaps (open_string shut_string)
set_option linter.unusedVariables false
set_option linter.unusedSimpArgs false
set_option maxRecDepth 100000
set_option maxHeartbeats 8000000 in
theorem late_walk (n k : Int) (hn : 0 ≤ n ∧ n < 256) (hk : 0 ≤ k ∧ k < 256) (M : Nat) (hM : M = (n % 10).toNat + 1) (q : Int) (hq : q = k % (M : Int)) (w : World) :
   Calls Tryz.prog 5 #[.int .u8 n, .int .u8 k] w fun e w' => e = .returned (.bool true) ∧ Below w.heap.size w w' := by
 have hM1 : 1 ≤ M ∧ M ≤ 10 := by omega
 have hq1 : 0 ≤ q ∧ q < (M : Int) := by rw [hq]; exact ⟨Int.emod_nonneg _ (by omega), Int.emod_lt_of_pos _ (by omega)⟩
 have n1 : IntKind.i64.wrap n = n := by rw [IntKind.wrap_i64]; omega
 have n2 : n.tmod 10 = n % 10 := Int.tmod_eq_emod_of_nonneg (by omega)
 have n3 : IntKind.i64.wrap (n % 10) = n % 10 := by rw [IntKind.wrap_i64]; omega
 have n4 : IntKind.i64.wrap (n % 10 + 1) = (M : Int) := by rw [IntKind.wrap_i64]; omega
 have k1 : IntKind.i64.wrap k = k := by rw [IntKind.wrap_i64]; omega
 have k2 : k.tmod (M : Int) = q := by rw [hq]; exact Int.tmod_eq_emod_of_nonneg (by omega)
 have k3 : IntKind.i64.wrap q = q := by rw [IntKind.wrap_i64]; omega
 have k4 : IntKind.i64.wrap (q + 1) = q + 1 := by rw [IntKind.wrap_i64]; omega
 have k5 : IntKind.u32.wrap (q + 1) = q + 1 := by rw [IntKind.wrap_u32]; omega
 have k6 : IntKind.i64.wrap (M : Int) = (M : Int) := by rw [IntKind.wrap_i64]; omega
 have m0 : ¬ (M : Int) = 0 := by omega
 have NC0 := new_c 900 w (by omega) (by omega)
 have NC := hid (show Calls Tryz.prog 8 #[.int .i64 900] w _ from NC0)
 clear NC0 hq hM
 go_enter Tryz.func5, Tryz.ntmps5
 go_upto_region 6 with (first
   | (go_at_call 7; refine OC.out.mono ?_; rintro _ w2 ⟨p, rfl, hsv, hb2⟩; have SV := hid hsv; have B2 := hid (B1.out.trans (hb2.mono B1.out.size)); clear hsv hb2)
   | (go_at_call 8; refine NC.out.mono ?_; rintro _ w1 ⟨rfl, hd1, hb1, hz1⟩; have OC := hid (sopenI_c hd1 (by omega)); have B1 := hid hb1; clear hd1 hb1 hz1))
 have BZ := hid B1.out.size
 generalize w1.heap.size = base at *
 go_loopg [7] M (fun gk v7 wr => ∃ m : Nat, m + gk = M ∧ v7 = .int .i64 m ∧ Hid (SvI base wr p 900 (m : Int) (stS m).1 (stS m).2 ((m : Int) + 1) (m : Int)) ∧ Hid (Below w.heap.size w wr))
 case atStart => exact ⟨0, by omega, rfl, SV, B2⟩
 case round =>
   obtain ⟨m, hm, rfl, SV, BX⟩ := hrel
   by_cases hlt : m < M
   · have hltI : (m : Int) < (M : Int) := by omega
     have f1 : IntKind.i64.wrap (50 + (m : Int)) = 50 + (m : Int) := by rw [IntKind.wrap_i64]; omega
     have f2 : IntKind.u32.wrap (50 + (m : Int)) = 50 + (m : Int) := by rw [IntKind.wrap_u32]; omega
     have f3 : IntKind.u8.wrap (m : Int) = (m : Int) := by rw [IntKind.wrap_u8]; omega
     have f4 : IntKind.u8.wrap (97 + (m : Int)) = 97 + (m : Int) := by rw [IntKind.wrap_u8]; omega
     have f5 : IntKind.u32.wrap (m : Int) = (m : Int) := by rw [IntKind.wrap_u32]; omega
     have f6 : IntKind.u32.wrap ((m : Int) + 1) = (m : Int) + 1 := by rw [IntKind.wrap_u32]; omega
     have b3 := below_1 wr (.cells #[.int .u8 (97 + (m : Int))] 5)
     have g3 := heap_alloc_new wr (.cells #[.int .u8 (97 + (m : Int))] 5)
     have IB : IsB (wr.alloc (.cells #[.int .u8 (97 + (m : Int))] 5)) (some ⟨wr.heap.size, 0, none⟩) 1 [97 + (m : Int)] := by
       refine ⟨rfl, by unfold maxLen; omega, fun _ => ⟨_, 0, rfl, fun i hi => ?_⟩, fun i => ?_⟩
       · have : i = 0 := by omega
         subst this
         exact cell_of_row2 g3 0 rfl
       · rcases i with _ | i
         · show 0 ≤ 97 + (m : Int) ∧ 97 + (m : Int) ≤ 255
           omega
         · simp [List.getD]
     have CV := conv_anyN (pc := 1) IB
     simp only [List.length_cons, List.length_nil, Nat.zero_add, Nat.reduceAdd] at CV
     have B3 := hid (BX.out.trans (b3.mono BX.out.size))
     have SV3 := hid (SV.out.later b3)
     clear b3 g3 IB
     go_upto_region 9 with fail
     have z3 : (wr.alloc (.cells #[.int .u8 (97 + (m : Int))] 5)).heap.size = wr.heap.size + 1 := by simp
     generalize (wr.alloc (.cells #[.int .u8 (97 + (m : Int))] 5)) = V3 at *
     have b4 := below_1 V3 (.cells #[.int .u8 2, .int .u32 (50 + (m : Int)), .int .u32 1, .string (Fr.tx [97 + (m : Int)]), .int .u32 0, .string ⟨#[]⟩, .int .u16 0, .string ⟨#[]⟩, .int .u64 0] 39)
     have g4 := heap_alloc_new V3 (.cells #[.int .u8 2, .int .u32 (50 + (m : Int)), .int .u32 1, .string (Fr.tx [97 + (m : Int)]), .int .u32 0, .string ⟨#[]⟩, .int .u16 0, .string ⟨#[]⟩, .int .u64 0] 39)
     rw [z3] at g4
     have B4 := hid (B3.out.trans (b4.mono B3.out.size))
     have SV4 := SV3.out.later b4
     have hm10 : m < 10 := by omega
     have OK1 := okS_all m hm10
     unfold okS at OK1
     rw [Bool.and_eq_true] at OK1
     have S1 : Hid (Calls Tryz.prog 9 #[.pointer (some ⟨p, 0, none⟩), .int .u8 1, .int .u32 ((m : Int) + 1), .slice (some ⟨wr.heap.size + 1, 0, none⟩) 1 1] (V3.alloc (.cells #[.int .u8 2, .int .u32 (50 + (m : Int)), .int .u32 1, .string (Fr.tx [97 + (m : Int)]), .int .u32 0, .string ⟨#[]⟩, .int .u16 0, .string ⟨#[]⟩, .int .u64 0] 39)) fun e w' => ∃ ve, e = .returned (.tuple #[ve, .int .i64 0]) ∧ OwE w' (V3.alloc (.cells #[.int .u8 2, .int .u32 (50 + (m : Int)), .int .u32 1, .string (Fr.tx [97 + (m : Int)]), .int .u32 0, .string ⟨#[]⟩, .int .u16 0, .string ⟨#[]⟩, .int .u64 0] 39)).heap.size ve [0] ∧ SvI base w' p 900 ((m : Int) + 1) (stS (m + 1)).1 (stS (m + 1)).2 ((m : Int) + 1 + 1) ((m : Int) + 1) ∧ KeepP p (V3.alloc (.cells #[.int .u8 2, .int .u32 (50 + (m : Int)), .int .u32 1, .string (Fr.tx [97 + (m : Int)]), .int .u32 0, .string ⟨#[]⟩, .int .u16 0, .string ⟨#[]⟩, .int .u64 0] 39)) w' ∧ Below base (V3.alloc (.cells #[.int .u8 2, .int .u32 (50 + (m : Int)), .int .u32 1, .string (Fr.tx [97 + (m : Int)]), .int .u32 0, .string ⟨#[]⟩, .int .u16 0, .string ⟨#[]⟩, .int .u64 0] 39)) w') := hid (ship_mk SV4 (wr.heap.size + 1) 1 (opK m) g4 (opK_wf m hm10) OK1.2 rfl (by omega) (by omega) OK1.1 (by omega))
     have hc : ((m + 1 : Nat) : Int) = (m : Int) + 1 := by omega
     have HC := hid hc
     clear b4 g4 SV4 OK1 CV z3 hc SV
     generalize (V3.alloc (.cells #[.int .u8 2, .int .u32 (50 + (m : Int)), .int .u32 1, .string (Fr.tx [97 + (m : Int)]), .int .u32 0, .string ⟨#[]⟩, .int .u16 0, .string ⟨#[]⟩, .int .u64 0] 39)) = V4 at *
     go_upto_region 10 with (go_at_call 9; refine S1.out.mono ?_; rintro _ w5 ⟨v5, rfl, ho5, hs5, hk5, hb5⟩; obtain ⟨g5, c5, rfl, hg5, hc5⟩ := ho5.one; have SV5 := hid hs5; have B5 := hid (B4.out.trans (hb5.mono BZ.out)); clear ho5 hs5 hb5 hk5 hg5)
     clear S1
     go_wp2
     have SV6 : Hid (SvI base w5 p 900 (((m + 1 : Nat) : Int)) (stS (m + 1)).1 (stS (m + 1)).2 (((m + 1 : Nat) : Int) + 1) ((m + 1 : Nat) : Int)) := hid (by rw [HC.out]; exact SV5.out)
     go_roundg (gk - 1)
     case measure => omega
     case rel => exact ⟨m + 1, by omega, by go_num, SV6, B5⟩
   · have em : m = M := by omega
     subst em
     have hge : ¬ (m : Int) < (m : Int) := by omega
     have SS := hid (ssnap_c SV.out)
     have AC := hid (fun (W : World) (hW : SvI base W p 900 (m : Int) (stS m).1 (stS m).2 ((m : Int) + 1) (m : Int)) => (by
       obtain ⟨j, a, b, ca, cb, l, _, _, hr, _⟩ := hW
       exact applied1_c hr : Calls Tryz.prog 14 #[.pointer (some ⟨p, 0, none⟩), .int .u8 1] W fun e w' => e = .returned (.int .u32 (m : Int)) ∧ w' = W))
     have LT := hid (fun (W : World) (hW : SvI base W p 900 (m : Int) (stS m).1 (stS m).2 ((m : Int) + 1) (m : Int)) (lb : Nat) (hlb : W.heap[lb]? = some (.cells #[.int .u8 6, .int .u32 0, .int .u32 1, .string ⟨#[97]⟩, .int .u32 0, .string ⟨#[]⟩, .int .u16 0, .string ⟨#[]⟩, .int .u64 0] 39 (0, 0))) => (ship_late hW lb 1 opR hlb opR_wf opR_right (q + 1) (by omega) (by omega) (by omega) : Calls Tryz.prog 9 #[.pointer (some ⟨p, 0, none⟩), .int .u8 1, .int .u32 (q + 1), .slice (some ⟨lb, 0, none⟩) 1 1] W _))
     have SS2 := hid (fun (W : World) (hW : SvI base W p 900 (m : Int) (stS m).1 (stS m).2 ((m : Int) + 1) (m : Int)) => ssnap_c hW)
     generalize (stS m).1 = l0 at *
     generalize (stS m).2 = s0 at *
     obtain ⟨L, hL⟩ : ∃ L, L = l0.length := ⟨_, rfl⟩
     rw [← hL] at SS SS2
     clear hL
     go_upto_region 13 with (go_at_call 10; refine SS.out.mono ?_; rintro _ w3 ⟨sa, sc, sb, sn, sd, rfl, hb3⟩; have B3 := hid (BX.out.trans (hb3.mono BX.out.size)); have SV3 := hid (SV.out.later hb3); clear hb3)
     have b4 := below_1 w3 (.cells #[.slice sa L sc, .slice sb sn sd] 44)
     have G4 := hid (heap_alloc_new w3 (.cells #[.slice sa L sc, .slice sb sn sd] 44))
     have B4 := hid (B3.out.trans (b4.mono B3.out.size))
     have SV4 := hid (SV3.out.later b4)
     clear b4
     generalize (w3.alloc (.cells #[.slice sa L sc, .slice sb sn sd] 44)) = V4 at *
     go_upto_region 14 with fail
     have b5 := below_1 V4 (.cells #[.int .u8 6, .int .u32 0, .int .u32 1, .string ⟨#[97]⟩, .int .u32 0, .string ⟨#[]⟩, .int .u16 0, .string ⟨#[]⟩, .int .u64 0] 39)
     have g5 := heap_alloc_new V4 (.cells #[.int .u8 6, .int .u32 0, .int .u32 1, .string ⟨#[97]⟩, .int .u32 0, .string ⟨#[]⟩, .int .u16 0, .string ⟨#[]⟩, .int .u64 0] 39)
     have B5 := hid (B4.out.trans (b5.mono B4.out.size))
     have G5 := hid ((b5.block _ (lt_blkR G4.out)).trans G4.out)
     have SV5 := hid (SV4.out.later b5)
     have LT5 := hid (LT.out _ SV5.out _ g5)
     clear b5 g5
     go_upto_region 15 with (go_at_call 9; refine LT5.out.mono ?_; rintro _ w6 ⟨v6, rfl, ho6, hb6⟩; obtain ⟨g6, c6, rfl, hg6, hc6⟩ := ho6.one; have SV6 := hid (SV5.out.later hb6); have B6 := hid (B5.out.trans (hb6.mono B5.out.size)); have C6 := hid hc6; have G6 := hid ((hb6.block _ (lt_blkR G5.out)).trans G5.out); clear ho6 hb6 hg6 hc6)
     have SS6 := hid (SS2.out _ SV6.out)
     go_upto_region 16 with (go_at_call 10; refine SS6.out.mono ?_; rintro _ w7 ⟨ta, tc, tb, tn, td, rfl, hb7⟩; have B7 := hid (B6.out.trans (hb7.mono B6.out.size)); have SV7 := hid (SV6.out.later hb7); have C7 := hid (cell_later hb7 C6.out); have G7 := hid ((hb7.block _ (lt_blkR G6.out)).trans G6.out); clear hb7)
     have b8 := below_1 w7 (.cells #[.slice ta L tc, .slice tb tn td] 44)
     have g8 := heap_alloc_new w7 (.cells #[.slice ta L tc, .slice tb tn td] 44)
     have B8 := hid (B7.out.trans (b8.mono B7.out.size))
     have SV8 := hid (SV7.out.later b8)
     have c8 : (w7.alloc (.cells #[.slice ta L tc, .slice tb tn td] 44)).cell? ⟨g6, 0, none⟩ = some (.int .i64 0) := cell_later b8 C7.out
     have G8 := hid ((b8.block _ (lt_blkR G7.out)).trans G7.out)
     clear b8
     generalize (w7.alloc (.cells #[.slice ta L tc, .slice tb tn td] 44)) = V8 at *
     have d8 : V8.cell? ⟨w7.heap.size, 0, none⟩ = some (.slice ta L tc) := cell_of_row2 g8 0 rfl
     have e8 : V8.cell? ⟨w3.heap.size, 0, none⟩ = some (.slice sa L sc) := cell_of_row2 G8.out 0 rfl
     have AC8 := hid (AC.out _ SV8.out)
     clear g8
     go_wp2_with (go_at_call 14; refine AC8.out.mono ?_; rintro _ wz ⟨rfl, hwz⟩; rw [hwz]; clear hwz)
     go_ret
     exact ⟨by first | rfl | exact ret_bool (by simp), B8.out⟩
theorem topLate_walk (n : Int) (wn : (Lit.int .u8 n).wf = true) (k : Int) (wk : (Lit.int .u8 k).wf = true) (w : World) :
   Calls Tryz.prog 5 #[.int .u8 n, .int .u8 k] w fun e w' => e = .returned (.bool true) ∧ Below w.heap.size w w' := by
 have hn := bd_u8 wn
 have hk := bd_u8 wk
 exact late_walk n k (by omega) (by omega) _ rfl _ rfl w
/-! ### The row of TopLate -/
theorem topLate_own : ownKnob Tryz.prog.godebug = none := by kernel_rfl
theorem topLate_laidOut : laidOutB Tryz.prog = true := by kernel_rfl
set_option maxRecDepth 100000 in
theorem topLate_lifted (os : Os) (started : os.Started) (H : Type) (enc : TypeId × Value → H) :
   ReturnsInHanded {} Tryz.checked os 5 .any (Rows.topLateSpec.pre6 enc Tryz.prog Tryz.f5 Rows.topLateRow.domain false) (Rows.topLateSpec.post enc Tryz.prog Tryz.f5 false true false false) := by
 refine returnsInHanded_of_change (C := Tryz.checked) topLate_own started (by kernel_rfl) Tryz.func5
   (ChangeSpec.witness6 (enc := enc) (C := Tryz.checked) false ⟨#[], #[.int .u8 0, .int .u8 0], []⟩ 8 (by kernel_rfl) (by kernel_rfl) (by kernel_rfl) (by kernel_rfl)) ?_
 intro W base args ds gs before hval0 hW hcnd _
 have hval : ∀ (j : Nat) t v, Tryz.f5.params[j]? = some t → args[j]? = some v → Value.okWide Tryz.prog W .any base t v := hval0
 have hW' := hW
 obtain ⟨p, q, hA0, hV, rfl, hfz, hnd⟩ := hW
 have hA : DataW.TrodAll enc Tryz.prog W 0 (fun _ => true) true Tryz.f5.params.toList args.toList ds p := hA0
 rw [Tryz.params5] at hA hval
 obtain ⟨v0, vs0, d0, ds0, p0, q0, hargs, rfl, rfl, h0, r0⟩ := trodAll_cons hA
 obtain ⟨v1, vs1, d1, ds1, p1, q1, rfl, rfl, rfl, h1, r1⟩ := trodAll_cons r0
 obtain ⟨rfl, rfl, rfl⟩ := trodAll_nil r1
 obtain rfl : args = #[v0, v1] := by cases args; simp_all
 obtain ⟨rfl, rfl⟩ := trodVars_none hV
 obtain ⟨a0, rfl, rfl, rfl, w0⟩ := open_int Tryz.underlying5 (hval 0 5 v0 rfl rfl) h0
 obtain ⟨a1, rfl, rfl, rfl, w1⟩ := open_int Tryz.underlying5 (hval 1 5 v1 rfl rfl) h1
 clear hA0 hval0
 refine (topLate_walk a0 w0 a1 w1 W).mono fun e W' ⟨he, bel⟩ => ?_
 subst he
 exact ⟨_, rfl, _, _, _, [], _, [], hW', trodAll_mk1 (shut_bool Tryz.underlying4 _), (trodAll_cons_mk (shut_int Tryz.underlying5 w0) (trodAll_cons_mk (shut_int Tryz.underlying5 w1) trodAll_mk0)), rfl, bel.frame _, fun h => by cases h⟩
theorem topLate_over : Rows.topLateRow.holds Tryz.pinned (OpenSpec.ofChange Rows.topLateSpec) :=
 OpenClaim.holds_of_wide 5 Tryz.f5 rfl rfl rfl rfl rfl rfl rfl ⟨rfl, rfl, rfl, rfl, rfl⟩ rfl rfl rfl rfl rfl (by kernel_rfl) Tryz.func5 (by kernel_rfl)
   (of_decide_eq_true (by kernel_rfl)) (by unfold Func.isWrapper; first | (rw [if_pos (by decide +kernel)]; kernel_rfl) | (rw [if_neg (by decide +kernel)]; exact ⟨rfl, rfl⟩))
   (fun os started H enc _ => topLate_lifted os started H enc)
theorem topLate_holds : Rows.TopLateSaid := topLate_over
#print axioms topLate_holds
end Go.Proofs.YtpolbbdaippclaaGreat
