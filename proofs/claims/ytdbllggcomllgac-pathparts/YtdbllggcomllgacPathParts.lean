/-
  For every text, Dir and Base, joined, are Clean, and the path lies below its Dir and not the other way round; with an error both err alike; and live holds.
-/
import Derived.Test.YtdbllggcomllgacPRefs
import Derived.ChangeOld
import Derived.Below
import Derived.Laws.AppendOwnNone
namespace Go.Proofs.Ytdbllggcomllgac
open Go.ChangeShapes Go.WideShapes Go.ChangeAt Go.RowKit
open Go.ChangeMaps (open_string shut_string)
set_option linter.unusedVariables false
set_option maxHeartbeats 400000 in
theorem pathParts_none (s : ByteArray) (hs : s.size ≤ maxLen) (w : World) (h : Pa.splitF s.data.toList = none ∨ Pa.splitF s.data.toList = some []) :
    Calls Try.prog 5 #[.string s] w fun e w' => e = .returned (.bool true) ∧ Below w.heap.size w w' := by
  obtain ⟨h1, h2⟩ := Pa.no_parts h
  have H1 := hid' h1
  have H2 := hid' h2
  clear h h1 h2
  go_enter Try.func5, Try.ntmps5
  go_wp2_with fail
  refine ((dir_c s _ hs).mono fun e w' hp => text_not H1.out hp).mono ?_
  rintro e w1 ⟨rfl, hb1⟩
  go_wp2_with fail
  refine ((base_c s _ hs).mono fun e w' hp => text_not H2.out hp).mono ?_
  rintro e w2 ⟨rfl, hb2⟩
  go_wp2_with fail
  refine (plive_c _).mono ?_
  rintro e w3 ⟨rfl, hb3⟩
  go_wp2
  go_ret
  have s1 := hb1.size
  have s2 := hb2.size
  exact ⟨rfl, (hb1.trans (hb2.mono (by omega))).trans (hb3.mono (by omega))⟩
set_option maxHeartbeats 1000000 in
theorem pathParts_some (s : ByteArray) (hs : s.size ≤ maxLen) (w : World) (ns ms : List (List UInt8)) (d b c : List UInt8) (h1 : Pa.dirF s.data.toList = some d) (h2 : Pa.baseF s.data.toList = some b) (h3 : Pa.splitF d = some ms) (h4 : ms ++ [b] = ns) (h5 : Pa.joinF ns = some c) (h6 : Pa.cleanF s.data.toList = some c)
    (h7 : Pa.belowB s.data.toList d = true) (h8 : Pa.belowB d s.data.toList = false) (h9 : d.length ≤ 120) (h10 : b.length ≤ 12) :
    Calls Try.prog 5 #[.string s] w fun e w' => e = .returned (.bool true) ∧ Below w.heap.size w w' := by
  obtain ⟨i0, hi, hz0, hz1, hz2⟩ := info_parts info_str
  have H1 := hid' h1
  have H2 := hid' h2
  have H3 := hid' h3
  have HJ : Hid (Pa.joinF (ms ++ [b]) = some c) := by rw [h4]; exact h5
  have HCl := hid' h6
  have HB1 : Hid (Pa.belowB s.data.toList (⟨d.toArray⟩ : ByteArray).data.toList = true) := h7
  have HB2 : Hid (Pa.belowB (⟨d.toArray⟩ : ByteArray).data.toList s.data.toList = false) := h8
  have hdl : (⟨d.toArray⟩ : ByteArray).size ≤ maxLen := by show d.length ≤ maxLen; unfold maxLen; omega
  have hfew := Pa.names_few h3
  have hpl : b.length ≤ maxLen := by unfold maxLen; omega
  clear h1 h2 h3 h4 h5 h6 h7 h8 h9
  go_enter Try.func5, Try.ntmps5
  go_wp2_with fail
  refine ((dir_c s _ hs).mono fun e w' hp => text_yes H1.out hp).mono ?_
  rintro e w1 ⟨rfl, hb1⟩
  go_wp2_with fail
  refine ((base_c s _ hs).mono fun e w' hp => text_yes H2.out hp).mono ?_
  rintro e w2 ⟨rfl, hb2⟩
  go_wp2_with fail
  refine (split_yes ⟨d.toArray⟩ _ hdl _ H3.out).mono ?_
  rintro e w3 ⟨v, rfl, hI, hnl, hb3⟩
  have hIk := hI
  obtain ⟨a, cap, rfl, r1, r2, r3, r4⟩ := hIk
  have R4 := hid' r4
  clear r4
  cases a with
  | none =>
    have h0 : ms.length = 0 := by
      rcases Nat.eq_zero_or_pos ms.length with h0 | h0
      · exact h0
      · obtain ⟨_, _, e, _⟩ := r3 h0; cases e
    have hcap : cap = 0 := by
      rcases hnl with e | ⟨_, _, _, e⟩
      · exact (Value.slice.inj e).2.2
      · cases e
    have h9 : ms = [] := List.eq_nil_of_length_eq_zero h0
    subst h9
    subst hcap
    clear r3 h0 hI hnl
    go_wp2_with (first | (at_builtin; refine wpList_append_own_none rfl _ _ 22 rfl w3.heap.size 9 i0 1 Try.underlying22 hi _ _ _ rfl (own_empty w3 9) rfl ?_) | (at_builtin; refine wpList_append_own _ rfl _ _ 22 rfl w3.heap.size 9 i0 (.string ByteArray.empty) 1 16 Try.underlying22 hi hz0 hz1 hz2 rfl (by decide) _ _ _ rfl ((own_empty w3 9).alloc _) ⟨w3.heap.size + 1, 0, none⟩ 1 1 [.string ⟨b.toArray⟩] rfl rfl (by simpa using cell_one_new (w3.alloc (.cells #[] 9)) (.string ⟨b.toArray⟩) 9) (fun y hy => by simp at hy; subst hy; rfl) (by unfold maxLen; omega) (by omega) (by simp; omega) ?_; intro v5 w5 hown5 hgrow5 hnil5))
    have hb5 : Below w3.heap.size w3 w5 := Below.grown (((Below.refl _ _).alloc (Nat.le_refl _) _).alloc (by simp) _) hgrow5 (by simp; omega) (fun k hk => by cases hk; exact Nat.le_refl _)
    have H5 : Hid (IsS w5 v5 ([] ++ [b])) := isS_of_owns (ss := [b]) hown5 (by simpa using hpl)
    clear hown5 hnil5
    go_wp2_with fail
    refine (join_yes _ _ _ H5.out _ HJ.out).mono ?_
    rintro e w6 ⟨rfl, hb6⟩
    go_wp2_with fail
    refine ((clean_c s _ hs).mono fun e w' hp => text_yes HCl.out hp).mono ?_
    rintro e w7 ⟨rfl, hb7⟩
    go_wp2_with fail
    refine (plive_c _).mono ?_
    rintro e w8 ⟨rfl, hb8⟩
    go_wp2_with fail
    refine (below_c s ⟨d.toArray⟩ _ hs hdl).mono ?_
    rintro e w9 ⟨rfl, hb9⟩
    rw [HB1.out]
    go_wp2_with fail
    refine (below_c ⟨d.toArray⟩ s _ hdl hs).mono ?_
    rintro e w10 ⟨rfl, hb10⟩
    rw [HB2.out]
    go_wp2
    go_ret
    have s1 := hb1.size
    have s2 := hb2.size
    have s3 := hb3.size
    have s5 := hb5.size
    have s6 := hb6.size
    have s7 := hb7.size
    have s8 := hb8.size
    have s9 := hb9.size
    exact ⟨rfl, ((((((((hb1.trans (hb2.mono (by omega))).trans (hb3.mono (by omega))).trans (hb5.mono (by omega))).trans (hb6.mono (by omega))).trans (hb7.mono (by omega))).trans (hb8.mono (by omega))).trans (hb9.mono (by omega))).trans (hb10.mono (by omega)))⟩

  | some x =>
    have HCells := hid' hI.cells
    clear r3 hI hnl
    unfold maxLen at r2
    go_wp2_with (first | (at_builtin; refine wpList_append_own _ rfl _ _ 22 rfl w3.heap.size 9 i0 (.string ByteArray.empty) 1 16 Try.underlying22 hi hz0 hz1 hz2 rfl (by decide) _ _ _ rfl (hown4.alloc _) ⟨w4.heap.size, 0, none⟩ 1 1 [.string ⟨b.toArray⟩] rfl rfl (cell_one_new _ _ _) (fun y hy => by simp at hy; subst hy; rfl) (by unfold maxLen; omega) (by omega) (by simp; omega) ?_; intro v5 w5 hown5 hgrow5 hnil5) | (at_builtin; refine wpList_append_own _ rfl _ _ 22 rfl w3.heap.size 9 i0 (.string ByteArray.empty) 1 16 Try.underlying22 hi hz0 hz1 hz2 rfl (by decide) _ _ _ rfl (own_empty w3 9) x ms.length cap (ms.map strV) rfl (by simp) (fun j u hu => cell_later ((Below.refl _ _).alloc (Nat.le_refl _) _) (HCells.out j u hu)) (strs_one ms) (by unfold maxLen; omega) (by omega) (by simp) ?_; intro v4 w4 hown4 hgrow4 hnil4; (rw [Nat.zero_add, List.nil_append] at hown4); (have hb4 : Below w3.heap.size w3 w4 := Below.grown ((Below.refl _ _).alloc (Nat.le_refl _) _) hgrow4 (by simp) (fun k hk => by cases hk; exact Nat.le_refl _)); (have hz4 := hb4.size)))
    have hb5 : Below w3.heap.size w3 w5 := hb4.trans (Below.grown ((Below.refl _ _).alloc (by omega) _) hgrow5 (by simp; omega) (fun k hk => (hown4.lt _ hk).1))
    have H5 : Hid (IsS w5 v5 (ms ++ [b])) := isS_of_owns (ss := ms ++ [b]) (by simpa [strV] using hown5) (by
      intro q hq
      rcases List.mem_append.1 hq with h9 | h9
      · exact R4.out q h9
      · rw [List.mem_singleton.1 h9]; exact hpl)
    clear hown4 hnil4
    clear hown5 hnil5
    go_wp2_with fail
    refine (join_yes _ _ _ H5.out _ HJ.out).mono ?_
    rintro e w6 ⟨rfl, hb6⟩
    go_wp2_with fail
    refine ((clean_c s _ hs).mono fun e w' hp => text_yes HCl.out hp).mono ?_
    rintro e w7 ⟨rfl, hb7⟩
    go_wp2_with fail
    refine (plive_c _).mono ?_
    rintro e w8 ⟨rfl, hb8⟩
    go_wp2_with fail
    refine (below_c s ⟨d.toArray⟩ _ hs hdl).mono ?_
    rintro e w9 ⟨rfl, hb9⟩
    rw [HB1.out]
    go_wp2_with fail
    refine (below_c ⟨d.toArray⟩ s _ hdl hs).mono ?_
    rintro e w10 ⟨rfl, hb10⟩
    rw [HB2.out]
    go_wp2
    go_ret
    have s1 := hb1.size
    have s2 := hb2.size
    have s3 := hb3.size
    have s5 := hb5.size
    have s6 := hb6.size
    have s7 := hb7.size
    have s8 := hb8.size
    have s9 := hb9.size
    exact ⟨rfl, ((((((((hb1.trans (hb2.mono (by omega))).trans (hb3.mono (by omega))).trans (hb5.mono (by omega))).trans (hb6.mono (by omega))).trans (hb7.mono (by omega))).trans (hb8.mono (by omega))).trans (hb9.mono (by omega))).trans (hb10.mono (by omega)))⟩

theorem pathParts_walk (s : ByteArray) (hs : s.size ≤ maxLen) (w : World) :
    Calls Try.prog 5 #[.string s] w fun e w' => e = .returned (.bool true) ∧ Below w.heap.size w w' := by
  cases h : Pa.splitF s.data.toList with
  | none => exact pathParts_none s hs w (.inl h)
  | some ns =>
    by_cases hne : ns = []
    · subst hne; exact pathParts_none s hs w (.inr h)
    · obtain ⟨d, b, c, h1, h2, h3, h4, h5, h6, h7, h8, h9, h10, _⟩ := Pa.parts h hne
      exact pathParts_some s hs w ns ns.dropLast d b c h1 h2 h3 h4 h5 h6 h7 h8 h9 h10
/-! ### The row of PathParts -/
theorem pathParts_own : ownKnob Try.prog.godebug = none := by kernel_rfl
theorem pathParts_laidOut : laidOutB Try.prog = true := by kernel_rfl
set_option maxRecDepth 100000 in
theorem pathParts_lifted (os : Os) (started : os.Started) (H : Type) (enc : TypeId × Value → H) :
    ReturnsInHanded {} Try.checked os 5 .any (Rows.pathPartsSpec.pre6 enc Try.prog Try.f5 Rows.pathPartsRow.domain false) (Rows.pathPartsSpec.post enc Try.prog Try.f5 false true false false) := by
  refine returnsInHanded_of_change (C := Try.checked) pathParts_own started (by kernel_rfl) Try.func5
    (ChangeSpec.witness6 (enc := enc) (C := Try.checked) false ⟨#[], #[.string ByteArray.empty], []⟩ 8 (by kernel_rfl) (by kernel_rfl) (by kernel_rfl) (by kernel_rfl)) ?_
  intro W base args ds gs before hval0 hW hcnd _
  have hval : ∀ (j : Nat) t v, Try.f5.params[j]? = some t → args[j]? = some v → Value.okWide Try.prog W .any base t v := hval0
  have hW' := hW
  obtain ⟨p, q, hA0, hV, rfl, hfz, hnd⟩ := hW
  have hA : DataW.TrodAll enc Try.prog W 0 (fun _ => true) true Try.f5.params.toList args.toList ds p := hA0
  rw [Try.params5] at hA hval
  obtain ⟨v0, vs0, d0, ds0, p0, q0, hargs, rfl, rfl, h0, r0⟩ := trodAll_cons hA
  obtain ⟨rfl, rfl, rfl⟩ := trodAll_nil r0
  obtain rfl : args = #[v0] := by cases args; simp_all
  obtain ⟨rfl, rfl⟩ := trodVars_none hV
  obtain ⟨a0, rfl, rfl, rfl, w0⟩ := open_string Try.underlying9 (hval 0 9 v0 rfl rfl) h0
  clear hA0 hval0
  refine (pathParts_walk a0 w0 W).mono fun e W' ⟨he, bel⟩ => ?_
  subst he
  exact ⟨_, rfl, _, _, _, [], _, [], hW', trodAll_mk1 (shut_bool Try.underlying4 _), (trodAll_cons_mk (shut_string Try.underlying9 w0) trodAll_mk0), rfl, bel.frame _, fun h => by cases h⟩
theorem pathParts_over : Rows.pathPartsRow.holds Try.pinned (OpenSpec.ofChange Rows.pathPartsSpec) :=
  OpenClaim.holds_of_wide 5 Try.f5 rfl rfl rfl rfl rfl rfl rfl ⟨rfl, rfl, rfl, rfl, rfl⟩ rfl rfl rfl rfl rfl (by kernel_rfl) Try.func5 (by kernel_rfl)
    (of_decide_eq_true (by kernel_rfl)) (by unfold Func.isWrapper; first | (rw [if_pos (by decide +kernel)]; kernel_rfl) | (rw [if_neg (by decide +kernel)]; exact ⟨rfl, rfl⟩))
    (fun os started H enc _ => pathParts_lifted os started H enc)
/-- The statement. -/
theorem pathParts_holds : Rows.PathPartsSaid := pathParts_over
#print axioms pathParts_holds
end Go.Proofs.Ytdbllggcomllgac
