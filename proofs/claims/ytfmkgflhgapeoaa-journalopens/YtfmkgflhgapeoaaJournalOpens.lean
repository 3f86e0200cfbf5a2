/-
  For every number, every deeds (the first twenty are done) and one deed more: Open of the journal's disk is the journal, as the document's one tells.
-/
import Derived.Test.YtfmkgflhgapeoaaGM
import Derived.Test.YtfmkgflhgapeoaaGF
namespace Go.Proofs.Ytfmkgflhgapeoaa
open Go.ChangeShapes Go.WideShapes Go.ChangeAt Go.RowKit Go.Maps
open Go.ChangeMaps (open_string shut_string)
set_option linter.unusedVariables false
set_option linter.unusedSimpArgs false
set_option maxRecDepth 100000 in
set_option maxHeartbeats 2000000 in
theorem jopens_walk (n : Nat) (hn : n < 256) (a : Option Addr) (len cap : Nat) (f : Nat → De) (x : De) (w : World) (h : IsD5s w a len f) (hx : x.Ok w) :
    Calls Try.prog 8 #[.int .u8 n, .slice a len cap, x.val] w fun e w' => e = .returned (.bool true) ∧ Below w.heap.size w w' := by
  obtain ⟨xk, xga, xgl, xgc, xg, xr, xst, xa, xlen, xcap, xzs⟩ := x
  show Calls Try.prog 8 #[.int .u8 n, .slice a len cap, .agg #[.int .i64 xk, .slice xga xgl xgc, .bool xr, .int .i64 xst, .slice xa xlen xcap]] w _
  have hb0 : Below w.heap.size w (w.alloc (.cells #[.int .i64 xk, .slice xga xgl xgc, .bool xr, .int .i64 xst, .slice xa xlen xcap] 42)) := (Below.refl _ _).alloc (Nat.le_refl _) _
  have HX : Hid (BoxJ (w.alloc (.cells #[.int .i64 xk, .slice xga xgl xgc, .bool xr, .int .i64 xst, .slice xa xlen xcap] 42)) w.heap.size xk xga xgl xgc xr xst xa xlen xcap) := heap_alloc_new w _
  have PC := hid (jplay_c n hn a len cap f (h.later hb0))
  have HB0 := hid hb0
  have HXO := hid hx
  clear h hx hb0
  go_enter Try.func8, Try.ntmps8
  go_wp2_with fail
  generalize (w.alloc (.cells #[.int .i64 xk, .slice xga xgl xgc, .bool xr, .int .i64 xst, .slice xa xlen xcap] 42)) = W0 at *
  refine PC.out.mono ?_
  rintro _ w1 ⟨j, d, b1, b2, rj, r, on, c, rfl, hP, _, hl, hb1⟩
  have HP := hid hP
  have HX1 := hid (HX.out.later hb1)
  have HB1 := hid (HB0.out.trans (hb1.mono HB0.out.size))
  have hrw : w.heap.size ≤ r := by have := HB0.out.size; omega
  have hN8 := hP.1.2.2
  clear hP hb1 PC
  go_wp2_with fail
  refine (jlive_c _).mono ?_
  rintro _ w2 ⟨rfl, hb2⟩
  have HP2 := hid (HP.out.later hb2)
  have HX2 := hid (HX1.out.later hb2)
  have HB2 := hid (HB1.out.trans (hb2.mono HB1.out.size))
  clear hb2
  go_wp2_with (first
    | (go_at_call 22; refine (jdisk_c HP2.out.1).mono ?_; rintro _ w3 ⟨d3, p3, q3, rfl, hD3, hl3, hb3⟩; (have HP3 := hid (HP2.out.later hb3)); (have HX3 := hid (HX2.out.later hb3)); (have HB3 := hid (HB2.out.trans (hb3.mono HB2.out.size))); (have OC := hid (open_c hD3 hN8)); clear hb3 hD3 hl3)
    | (go_at_call 21; refine OC.out.mono ?_; rintro _ w4 ⟨o, d4, p4, q4, rfl, hJ4, hl4, hb4⟩; (have HP4 : Hid (PairJ w4 o d4 p4 q4 rj r (n % 56 + 8) on c) := ⟨hJ4, (HP3.out.later hb4).2⟩); (have HX4 := hid (HX3.out.later hb4)); (have HB4 := hid (HB3.out.trans (hb4.mono HB3.out.size))); (obtain ⟨x0, x1, x2, x3, x4⟩ := HX4.out.cells); (have hll4 : w.heap.size ≤ p4 ∧ w.heap.size ≤ q4 := by have := HB3.out.size; omega); (have DC := hid (jdo_c HP4.out ⟨xk, xga, xgl, xgc, xg, xr, xst, xa, xlen, xcap, xzs⟩ (HXO.out.2.2.1.1.later HB4.out) HXO.out.2.2.1.2.1 (fun W hW => HXO.out.2.2.2.lat (HB4.out.trans (hW.below HB4.out.size (fun k e => by rcases e with e | e | e <;> omega)))))); unfold De.val at DC; clear hb4 hJ4 hl4)
    | (go_at_call 23; refine DC.out.mono ?_; rintro _ w5 ⟨rfl, ⟨on5, c5, hP5, _⟩, ho5⟩; (have HB5 := hid (HB4.out.trans (ho5.below HB4.out.size (fun k e => by rcases e with e | e | e <;> omega)))); (have SC := hid (jsame_c hP5)); clear hP5 ho5)
    | (go_at_call 11; refine SC.out.mono ?_; rintro _ w6 ⟨rfl, hb6⟩; have HB6 := hid (HB5.out.trans (hb6.mono HB5.out.size)); clear hb6))
  go_ret
  exact ⟨rfl, HB6.out⟩
theorem journalOpens_walk (n : Int) (wn : (Lit.int .u8 n).wf = true) (a : Option Addr) (len cap : Nat) (f : Nat → De) (x : De) (w : World) (h : IsD5s w a len f) (hx : x.Ok w) :
    Calls Try.prog 8 #[.int .u8 n, .slice a len cap, x.val] w fun e w' => e = .returned (.bool true) ∧ Below w.heap.size w w' := by
  have hb := bd_u8 wn
  obtain ⟨m, rfl⟩ : ∃ m : Nat, n = (m : Int) := ⟨n.toNat, by omega⟩
  exact jopens_walk m (by omega) a len cap f x w h hx
/-! ### The row of JournalOpens -/
theorem journalOpens_own : ownKnob Try.prog.godebug = none := by kernel_rfl
theorem journalOpens_laidOut : laidOutB Try.prog = true := by kernel_rfl
set_option maxRecDepth 100000 in
theorem journalOpens_lifted (os : Os) (started : os.Started) (H : Type) (enc : TypeId × Value → H) :
    ReturnsInHanded {} Try.checked os 8 .any (Rows.journalOpensSpec.pre6 enc Try.prog Try.f8 Rows.journalOpensRow.domain false) (Rows.journalOpensSpec.post enc Try.prog Try.f8 false true false false) := by
  refine returnsInHanded_of_change (C := Try.checked) journalOpens_own started (by kernel_rfl) Try.func8
    (ChangeSpec.witness6 (enc := enc) (C := Try.checked) false ⟨#[], #[.int .u8 0, .slice none 0 0, .agg #[.int .i64 0, .slice none 0 0, .bool false, .int .i64 0, .slice none 0 0]], []⟩ 8 (by kernel_rfl) (by kernel_rfl) (by kernel_rfl) (by kernel_rfl)) ?_
  intro W base args ds gs before hval0 hW hcnd _
  have hval : ∀ (j : Nat) t v, Try.f8.params[j]? = some t → args[j]? = some v → Value.okWide Try.prog W .any base t v := hval0
  have hW' := hW
  obtain ⟨p, q, hA0, hV, rfl, hfz, hnd⟩ := hW
  have hA : DataW.TrodAll enc Try.prog W 0 (fun _ => true) true Try.f8.params.toList args.toList ds p := hA0
  rw [Try.params8] at hA hval
  obtain ⟨v0, vs0, d0, ds0, p0, q0, hargs, rfl, rfl, h0, r0⟩ := trodAll_cons hA
  obtain ⟨v1, vs1, d1, ds1, p1, q1, rfl, rfl, rfl, h1, r1⟩ := trodAll_cons r0
  obtain ⟨v2, vs2, d2, ds2, p2, q2, rfl, rfl, rfl, h2, r2⟩ := trodAll_cons r1
  obtain ⟨rfl, rfl, rfl⟩ := trodAll_nil r2
  obtain rfl : args = #[v0, v1, v2] := by cases args; simp_all
  obtain ⟨rfl, rfl⟩ := trodVars_none hV
  obtain ⟨a0, rfl, rfl, rfl, w0⟩ := open_int Try.underlying5 (hval 0 5 v0 rfl rfl) h0
  have k1 := h1
  have lt1 : ∀ x ∈ p1, x.block < W.heap.size := by obtain ⟨m, hm⟩ := k1; exact DataW.trod_lt m _ _ _ hm
  obtain ⟨a1, len1, cap1, rfl⟩ := okWide_slice Try.underlying22 (hval 1 22 v1 rfl rfl)
  obtain ⟨z1, w1⟩ := isD5s_of Try.underlying22 h1
  have k2 := h2
  have lt2 : ∀ x ∈ p2, x.block < W.heap.size := by obtain ⟨m, hm⟩ := k2; exact DataW.trod_lt m _ _ _ hm
  obtain ⟨q2, rfl, wq2⟩ := open_deed5 (hval 2 42 v2 rfl rfl) h2
  clear hA0 hval0
  refine (journalOpens_walk a0 w0 a1 len1 cap1 z1 q2 W w1 wq2).mono fun e W' ⟨he, bel⟩ => ?_
  subst he
  exact ⟨_, rfl, _, _, _, [], _, [], hW', trodAll_mk1 (shut_bool Try.underlying4 _), (trodAll_cons_mk (shut_int Try.underlying5 w0) (trodAll_cons_mk (Below.trod journalOpens_laidOut (by kernel_rfl) (of_decide_eq_true (by kernel_rfl)) k1 bel lt1) (trodAll_cons_mk (Below.trod journalOpens_laidOut (by kernel_rfl) (of_decide_eq_true (by kernel_rfl)) k2 bel lt2) trodAll_mk0))), rfl, bel.frame _, fun h => by cases h⟩
theorem journalOpens_over : Rows.journalOpensRow.holds Try.pinned (OpenSpec.ofChange Rows.journalOpensSpec) :=
  OpenClaim.holds_of_wide 8 Try.f8 rfl rfl rfl rfl rfl rfl rfl ⟨rfl, rfl, rfl, rfl, rfl⟩ rfl rfl rfl rfl rfl (by kernel_rfl) Try.func8 (by kernel_rfl)
    (of_decide_eq_true (by kernel_rfl)) (by unfold Func.isWrapper; first | (rw [if_pos (by decide +kernel)]; kernel_rfl) | (rw [if_neg (by decide +kernel)]; exact ⟨rfl, rfl⟩))
    (fun os started H enc _ => journalOpens_lifted os started H enc)
/-- The statement. -/
theorem journalOpens_holds : Rows.JournalOpensSaid := journalOpens_over
#print axioms journalOpens_holds

end Go.Proofs.Ytfmkgflhgapeoaa
