/-
  For every number and every deeds (the first sixty are done): a Crash that keeps all sectors is the document's Flush.
-/
import Derived.Test.YteimegacnmakaabRPlay
namespace Go.Proofs.Yteimegacnmakaab
open Go.ChangeShapes Go.WideShapes Go.ChangeAt Go.RowKit Go.Maps
open Go.ChangeMaps (open_string shut_string)
set_option linter.unusedVariables false
set_option linter.unusedSimpArgs false
def allK : List Int := [7, 6, 5, 4, 3, 2, 1, 0, 0]
theorem isZ_all (W : World) (t : TypeId) : IsZ (W.alloc (.cells #[.int .i64 7, .int .i64 6, .int .i64 5, .int .i64 4, .int .i64 3, .int .i64 2, .int .i64 1, .int .i64 0, .int .i64 0] t)) (some ⟨W.heap.size, 0, none⟩) 9 allK := by
  refine ⟨rfl, by unfold maxLen; omega, fun _ => ⟨W.heap.size, 0, rfl, fun i hi => ?_⟩, fun i => ?_⟩
  · rw [cell_of_row _ _ _ _ _ _ (heap_alloc_new W _)]
    match i, hi with
    | 0, _ => rfl
    | 1, _ => rfl
    | 2, _ => rfl
    | 3, _ => rfl
    | 4, _ => rfl
    | 5, _ => rfl
    | 6, _ => rfl
    | 7, _ => rfl
    | 8, _ => rfl
  · match i with
    | 0 => decide
    | 1 => decide
    | 2 => decide
    | 3 => decide
    | 4 => decide
    | 5 => decide
    | 6 => decide
    | 7 => decide
    | 8 => decide
    | n + 9 => simp [allK]
theorem mem_allK {i : Int} (h0 : 0 ≤ i) (h1 : i < 8) : i ∈ allK := by
  unfold allK
  simp
  omega
set_option maxRecDepth 100000 in
set_option maxHeartbeats 1000000 in
theorem all_walk (n : Nat) (hn : n < 256) (a : Option Addr) (len cap : Nat) (f : Nat → Dd) (w : World) (h : IsDs w a len f) :
    Calls Try.prog 7 #[.int .u8 n, .slice a len cap] w fun e w' => e = .returned (.bool true) ∧ Below w.heap.size w w' := by
  have PC := hid (play_c n hn a len cap f h)
  clear h
  go_enter Try.func7, Try.ntmps7
  go_wp2_with fail
  refine PC.out.mono ?_
  rintro _ w1 ⟨d, b1, b2, r, on, c, rfl, hP, hge, hb1⟩
  have HP := hid hP
  have HB1 := hid hb1
  clear hP hb1 PC
  go_wp2_with fail
  refine (dlive_c _).mono ?_
  rintro _ w2 ⟨rfl, hb2⟩
  have HB2 := hid (HB1.out.trans (hb2.mono HB1.out.size))
  have hN8 := HP.out.lts
  obtain ⟨hD2, L, B, hR2, hon, hc⟩ := HP.out.later hb2
  have HD2 := hid hD2
  have HR2 := hid hR2
  have HON := hid hon
  have HC := hid hc
  have hbA : Below w2.heap.size w2 (w2.alloc (.cells #[.int .i64 7, .int .i64 6, .int .i64 5, .int .i64 4, .int .i64 3, .int .i64 2, .int .i64 1, .int .i64 0, .int .i64 0] 3)) := (Below.refl _ _).alloc (Nat.le_refl _) _
  have HBA := hid hbA
  have CC := hid (crash_c (hD2.later hbA) (some ⟨w2.heap.size, 0, none⟩) 9 9 allK (isZ_all w2 3))
  clear hb2 hD2 hR2 hon hc hbA HP
  go_wp2_with (go_at_call 21; refine CC.out.mono ?_; rintro _ w3 ⟨rfl, hD3, ho3⟩)
  have HR3 := hid ((HR2.out.later HBA.out).disk (HD2.out.later HBA.out) ho3)
  have HD3 := hid hD3
  have HB3 := hid ((HB2.out.trans (HBA.out.mono HB2.out.size)).trans (ho3.below (Nat.le_trans HB2.out.size HBA.out.size) (fun k e => by omega)))
  clear hD3 ho3 CC
  go_wp2_with fail
  refine (rflush_c HR3.out).mono ?_
  rintro _ w4 ⟨rfl, hR4, ho4⟩
  have hP4 : Pair w4 d b1 b2 r (n % 8 + 1) (fun i => if i ∈ allK then (c i).getD (on i) else on i) (fun _ => none) := by
    refine pair_out (on := on) (c := c) true [] HR3.out.2.2.2.1 (fun p hp => (HR3.out.2.2.2.2.1 p hp).2.1) HR3.out.2.1 (HD3.out.ref HR3.out ho4) hR4 HON.out HC.out (fun i => ?_)
    by_cases hi : i ∈ allK
    · simp [hi]
    · have : c i = none := by
        cases hq : c i with
        | none => rfl
        | some s =>
          have h5 := (HD2.out.2.2.2.2.1.2 i s hq).2
          exact absurd (mem_allK h5.1 (by omega)) hi
      simp [hi, this]
  have SC := hid (same_c hP4)
  have HB4 := hid (HB3.out.trans (ho4.below HB3.out.size (fun k e => by omega)))
  clear hP4 hR4 ho4
  go_wp2_with (go_at_call 16; refine SC.out.mono ?_; rintro _ w5 ⟨rfl, hb5⟩)
  go_ret
  exact ⟨rfl, HB4.out.trans (hb5.mono HB4.out.size)⟩
theorem diskAll_walk (n : Int) (wn : (Lit.int .u8 n).wf = true) (a : Option Addr) (len cap : Nat) (f : Nat → Dd) (w : World) (h : IsDs w a len f) :
    Calls Try.prog 7 #[.int .u8 n, .slice a len cap] w fun e w' => e = .returned (.bool true) ∧ Below w.heap.size w w' := by
  have hb := bd_u8 wn
  obtain ⟨m, rfl⟩ : ∃ m : Nat, n = (m : Int) := ⟨n.toNat, by omega⟩
  exact all_walk m (by omega) a len cap f w h
/-! ### The row of DiskAll -/
theorem diskAll_own : ownKnob Try.prog.godebug = none := by kernel_rfl
theorem diskAll_laidOut : laidOutB Try.prog = true := by kernel_rfl
set_option maxRecDepth 100000 in
theorem diskAll_lifted (os : Os) (started : os.Started) (H : Type) (enc : TypeId × Value → H) :
    ReturnsInHanded {} Try.checked os 7 .any (Rows.diskAllSpec.pre6 enc Try.prog Try.f7 Rows.diskAllRow.domain false) (Rows.diskAllSpec.post enc Try.prog Try.f7 false true false false) := by
  refine returnsInHanded_of_change (C := Try.checked) diskAll_own started (by kernel_rfl) Try.func7
    (ChangeSpec.witness6 (enc := enc) (C := Try.checked) false ⟨#[], #[.int .u8 0, .slice none 0 0], []⟩ 8 (by kernel_rfl) (by kernel_rfl) (by kernel_rfl) (by kernel_rfl)) ?_
  intro W base args ds gs before hval0 hW hcnd _
  have hval : ∀ (j : Nat) t v, Try.f7.params[j]? = some t → args[j]? = some v → Value.okWide Try.prog W .any base t v := hval0
  have hW' := hW
  obtain ⟨p, q, hA0, hV, rfl, hfz, hnd⟩ := hW
  have hA : DataW.TrodAll enc Try.prog W 0 (fun _ => true) true Try.f7.params.toList args.toList ds p := hA0
  rw [Try.params7] at hA hval
  obtain ⟨v0, vs0, d0, ds0, p0, q0, hargs, rfl, rfl, h0, r0⟩ := trodAll_cons hA
  obtain ⟨v1, vs1, d1, ds1, p1, q1, rfl, rfl, rfl, h1, r1⟩ := trodAll_cons r0
  obtain ⟨rfl, rfl, rfl⟩ := trodAll_nil r1
  obtain rfl : args = #[v0, v1] := by cases args; simp_all
  obtain ⟨rfl, rfl⟩ := trodVars_none hV
  obtain ⟨a0, rfl, rfl, rfl, w0⟩ := open_int Try.underlying5 (hval 0 5 v0 rfl rfl) h0
  have k1 := h1
  have lt1 : ∀ x ∈ p1, x.block < W.heap.size := by obtain ⟨m, hm⟩ := k1; exact DataW.trod_lt m _ _ _ hm
  obtain ⟨a1, len1, cap1, rfl⟩ := okWide_slice Try.underlying38 (hval 1 38 v1 rfl rfl)
  obtain ⟨z1, w1⟩ := isDs_of Try.underlying38 h1
  clear hA0 hval0
  refine (diskAll_walk a0 w0 a1 len1 cap1 z1 W w1).mono fun e W' ⟨he, bel⟩ => ?_
  subst he
  exact ⟨_, rfl, _, _, _, [], _, [], hW', trodAll_mk1 (shut_bool Try.underlying4 _), (trodAll_cons_mk (shut_int Try.underlying5 w0) (trodAll_cons_mk (Below.trod diskAll_laidOut (by kernel_rfl) (of_decide_eq_true (by kernel_rfl)) k1 bel lt1) trodAll_mk0)), rfl, bel.frame _, fun h => by cases h⟩
theorem diskAll_over : Rows.diskAllRow.holds Try.pinned (OpenSpec.ofChange Rows.diskAllSpec) :=
  OpenClaim.holds_of_wide 7 Try.f7 rfl rfl rfl rfl rfl rfl rfl ⟨rfl, rfl, rfl, rfl, rfl⟩ rfl rfl rfl rfl rfl (by kernel_rfl) Try.func7 (by kernel_rfl)
    (of_decide_eq_true (by kernel_rfl)) (by unfold Func.isWrapper; first | (rw [if_pos (by decide +kernel)]; kernel_rfl) | (rw [if_neg (by decide +kernel)]; exact ⟨rfl, rfl⟩))
    (fun os started H enc _ => diskAll_lifted os started H enc)
/-- The statement. -/
theorem diskAll_holds : Rows.DiskAllSaid := diskAll_over
#print axioms diskAll_holds

end Go.Proofs.Yteimegacnmakaab
