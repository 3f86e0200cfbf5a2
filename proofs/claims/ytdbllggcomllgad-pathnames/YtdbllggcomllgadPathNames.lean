/-
  For every text and path, a name with one more letter is one as far as there is room, below a path it makes one that lies below it, what is none is none by the document's definition too, and live holds.
-/
import Derived.Test.YtdbllggcomllgadPRefs
import Derived.ChangeOld
import Derived.Below
import Derived.Laws.AppendOwnNone
namespace Go.Proofs.Ytdbllggcomllgad
open Go.ChangeShapes Go.WideShapes Go.ChangeAt Go.RowKit
open Go.ChangeMaps (open_string shut_string)
set_option linter.unusedVariables false
set_option maxHeartbeats 400000 in
theorem pathNames_none (s p : ByteArray) (w : World) (hs : s.size ≤ maxLen) (hp : p.size ≤ maxLen) (h : Pa.nameB s.data.toList = false) :
    Calls Try.prog 3 #[.string s, .string p] w fun e w' => e = .returned (.bool true) ∧ Below w.heap.size w w' := by
  go_enter Try.func3, Try.ntmps3
  go_wp2_with fail
  refine (name_c _ _ hs).mono ?_
  rintro e w1 ⟨rfl, hb1⟩
  rw [h]
  go_wp2_with fail
  refine (plive_c _).mono ?_
  rintro e w2 ⟨rfl, hb2⟩
  go_wp2_with fail
  refine (rname_c _ _ hs).mono ?_
  rintro e w3 ⟨rfl, rfl⟩
  rw [h]
  go_wp2
  go_ret
  exact ⟨rfl, hb1.trans (hb2.mono hb1.size)⟩
theorem more_data (s : ByteArray) : (s ++ (⟨#[97]⟩ : ByteArray)).data.toList = s.data.toList ++ [97] := by simp [ByteArray.data_append]
theorem more_size (s : ByteArray) : (s ++ (⟨#[97]⟩ : ByteArray)).size = s.size + 1 := by
  have h := congrArg List.length (more_data s)
  have h1 : ∀ y : ByteArray, y.data.toList.length = y.size := fun _ => rfl
  rw [List.length_append, h1, h1] at h
  exact h
set_option maxHeartbeats 400000 in
theorem pathNames_nopath (s p : ByteArray) (w : World) (hp : p.size ≤ maxLen) (h : Pa.nameB s.data.toList = true) (h1 : Pa.splitF p.data.toList = none) (b : Bool) (hb : decide ((s.size : Int) < 12) = b) :
    Calls Try.prog 3 #[.string s, .string p] w fun e w' => e = .returned (.bool true) ∧ Below w.heap.size w w' := by
  have hl := Pa.name_len _ h
  have hl' : 1 ≤ s.size ∧ s.size ≤ 12 := hl
  have hm := Pa.name_more h
  have hmb : Pa.nameB (s ++ (⟨#[97]⟩ : ByteArray)).data.toList = b := by
    rw [more_data, hm, ← hb]
    have : s.data.toList.length = s.size := rfl
    rw [this, Bool.eq_iff_iff]; simp; omega
  have hms := more_size s
  have H1 := hid' h1
  have HM := hid' hmb
  have HMs := hid' hms
  clear hl hm h1 hmb hms
  go_enter Try.func3, Try.ntmps3
  go_wp2_with fail
  refine (name_c _ _ (by unfold maxLen; omega)).mono ?_
  rintro e w1 ⟨rfl, hb1⟩
  rw [h]
  go_wp2_with fail
  refine (split_not _ _ hp H1.out).mono ?_
  rintro e w2 ⟨rfl, hb2⟩
  go_wp2_with fail
  refine (plive_c _).mono ?_
  rintro e w3 ⟨rfl, hb3⟩
  go_wp2_with fail
  refine (name_c _ _ (by unfold maxLen; rw [HMs.out]; omega)).mono ?_
  rintro e w4 ⟨rfl, hb4⟩
  rw [HM.out]
  go_wp2
  go_ret
  have s1 := hb1.size
  have s2 := hb2.size
  have s3 := hb3.size
  exact ⟨rfl, ((hb1.trans (hb2.mono (by omega))).trans (hb3.mono (by omega))).trans (hb4.mono (by omega))⟩
set_option maxHeartbeats 1000000 in
theorem pathNames_path (s p : ByteArray) (w : World) (hp : p.size ≤ maxLen) (h : Pa.nameB s.data.toList = true) (ns : List (List UInt8)) (h1 : Pa.splitF p.data.toList = some ns) (b : Bool) (hb : decide ((s.size : Int) < 12) = b) :
    Calls Try.prog 3 #[.string s, .string p] w fun e w' => e = .returned (.bool true) ∧ Below w.heap.size w w' := by
  obtain ⟨i0, hi, hz0, hz1, hz2⟩ := info_parts info_str
  have hl := Pa.name_len _ h
  have hl' : 1 ≤ s.size ∧ s.size ≤ 12 := hl
  have hm := Pa.name_more h
  have hmb : Pa.nameB (s ++ (⟨#[97]⟩ : ByteArray)).data.toList = b := by
    rw [more_data, hm, ← hb]
    have : s.data.toList.length = s.size := rfl
    rw [this, Bool.eq_iff_iff]; simp; omega
  have hms := more_size s
  have H1 := hid' h1
  have HM := hid' hmb
  have HMs := hid' hms
  clear hl hm h1 hmb hms
  go_enter Try.func3, Try.ntmps3
  go_wp2_with fail
  refine (name_c _ _ (by unfold maxLen; omega)).mono ?_
  rintro e w1 ⟨rfl, hb1⟩
  rw [h]
  go_wp2_with fail
  refine (split_yes _ _ hp _ H1.out).mono ?_
  rintro e w2 ⟨v, rfl, hI, hnl, hb2⟩
  have hfew := Pa.names_few H1.out
  have hIk := hI
  obtain ⟨a, cap, rfl, r1, r2, r3, r4⟩ := hIk
  have R4 := hid' r4
  clear r4
  have hpl : s.data.toList.length ≤ maxLen := by unfold maxLen; show s.size ≤ _; omega
  cases a with
  | none =>
    have h0 : ns.length = 0 := by
      rcases Nat.eq_zero_or_pos ns.length with h0 | h0
      · exact h0
      · obtain ⟨_, _, e, _⟩ := r3 h0; cases e
    have hcap : cap = 0 := by
      rcases hnl with e | ⟨_, _, _, e⟩
      · exact (Value.slice.inj e).2.2
      · cases e
    have h9 : ns = [] := List.eq_nil_of_length_eq_zero h0
    subst h9
    subst hcap
    clear r3 h0 hI hnl
    go_wp2_with (first | (at_builtin; refine wpList_append_own_none rfl _ _ 24 rfl w2.heap.size 9 i0 1 Try.underlying24 hi _ _ _ rfl (own_empty w2 9) rfl ?_) | (at_builtin; refine wpList_append_own _ rfl _ _ 24 rfl w2.heap.size 9 i0 (.string ByteArray.empty) 1 16 Try.underlying24 hi hz0 hz1 hz2 rfl (by decide) _ _ _ rfl ((own_empty w2 9).alloc _) ⟨w2.heap.size + 1, 0, none⟩ 1 1 [.string s] rfl rfl (by simpa using cell_one_new (w2.alloc (.cells #[] 9)) (.string s) 9) (fun y hy => by simp at hy; subst hy; rfl) (by unfold maxLen; omega) (by omega) (by simp; omega) ?_; intro v4 w4 hown4 hgrow4 hnil4))
    have hb4 : Below w2.heap.size w2 w4 := Below.grown (((Below.refl _ _).alloc (Nat.le_refl _) _).alloc (by simp) _) hgrow4 (by simp; omega) (fun k hk => by cases hk; exact Nat.le_refl _)
    have H4 : Hid (IsS w4 v4 ([] ++ [s.data.toList])) := isS_of_owns (ss := [s.data.toList]) hown4 (by simpa using hpl)
    clear hown4 hnil4
    cases hj : Pa.joinF ([] ++ [s.data.toList]) with
    | some j =>
      have HB := hid' (Pa.below_joined H1.out hj)
      have hjl : (⟨j.toArray⟩ : ByteArray).size ≤ maxLen := by
        obtain ⟨_, _, h9, _⟩ := Pa.split_slashed (Pa.split_join hj)
        show j.length ≤ maxLen
        unfold maxLen; omega
      have HJ := hid' hj
      clear hj
      go_wp2_with fail
      refine (join_yes _ _ _ H4.out _ HJ.out).mono ?_
      rintro e w5 ⟨rfl, hb5⟩
      go_wp2_with fail
      refine (plive_c _).mono ?_
      rintro e w6 ⟨rfl, hb6⟩
      go_wp2_with fail
      refine (name_c _ _ (by unfold maxLen; rw [HMs.out]; omega)).mono ?_
      rintro e w7 ⟨rfl, hb7⟩
      rw [HM.out]
      go_wp2_with fail
      refine (below_c _ _ _ hjl hp).mono ?_
      rintro e w8 ⟨rfl, hb8⟩
      rw [HB.out]
      go_wp2
      go_ret
      have s1 := hb1.size
      have s2 := hb2.size
      have s4 := hb4.size
      have s5 := hb5.size
      have s6 := hb6.size
      have s7 := hb7.size
      exact ⟨rfl, (((((hb1.trans (hb2.mono (by omega))).trans (hb4.mono (by omega))).trans (hb5.mono (by omega))).trans (hb6.mono (by omega))).trans (hb7.mono (by omega))).trans (hb8.mono (by omega))⟩
    | none =>
      have HJ := hid' hj
      clear hj
      go_wp2_with fail
      refine (join_not _ _ _ H4.out HJ.out).mono ?_
      rintro e w5 ⟨rfl, hb5⟩
      go_wp2_with fail
      refine (plive_c _).mono ?_
      rintro e w6 ⟨rfl, hb6⟩
      go_wp2_with fail
      refine (name_c _ _ (by unfold maxLen; rw [HMs.out]; omega)).mono ?_
      rintro e w7 ⟨rfl, hb7⟩
      rw [HM.out]
      go_wp2
      go_ret
      have s1 := hb1.size
      have s2 := hb2.size
      have s4 := hb4.size
      have s5 := hb5.size
      have s6 := hb6.size
      exact ⟨rfl, ((((hb1.trans (hb2.mono (by omega))).trans (hb4.mono (by omega))).trans (hb5.mono (by omega))).trans (hb6.mono (by omega))).trans (hb7.mono (by omega))⟩

  | some x =>
    have HCells := hid' hI.cells
    clear r3 hI hnl
    unfold maxLen at r2
    go_wp2_with (first | (at_builtin; refine wpList_append_own _ rfl _ _ 24 rfl w2.heap.size 9 i0 (.string ByteArray.empty) 1 16 Try.underlying24 hi hz0 hz1 hz2 rfl (by decide) _ _ _ rfl (hown3.alloc _) ⟨w3.heap.size, 0, none⟩ 1 1 [.string s] rfl rfl (cell_one_new _ _ _) (fun y hy => by simp at hy; subst hy; rfl) (by unfold maxLen; omega) (by omega) (by simp; omega) ?_; intro v4 w4 hown4 hgrow4 hnil4) | (at_builtin; refine wpList_append_own _ rfl _ _ 24 rfl w2.heap.size 9 i0 (.string ByteArray.empty) 1 16 Try.underlying24 hi hz0 hz1 hz2 rfl (by decide) _ _ _ rfl (own_empty w2 9) x ns.length cap (ns.map strV) rfl (by simp) (fun j u hu => cell_later ((Below.refl _ _).alloc (Nat.le_refl _) _) (HCells.out j u hu)) (strs_one ns) (by unfold maxLen; omega) (by omega) (by simp) ?_; intro v3 w3 hown3 hgrow3 hnil3; (rw [Nat.zero_add, List.nil_append] at hown3); (have hb3 : Below w2.heap.size w2 w3 := Below.grown ((Below.refl _ _).alloc (Nat.le_refl _) _) hgrow3 (by simp) (fun k hk => by cases hk; exact Nat.le_refl _)); (have hz3 := hb3.size)))
    have hb4 : Below w2.heap.size w2 w4 := hb3.trans (Below.grown ((Below.refl _ _).alloc (by omega) _) hgrow4 (by simp; omega) (fun k hk => (hown3.lt _ hk).1))
    have H4 : Hid (IsS w4 v4 (ns ++ [s.data.toList])) := isS_of_owns (ss := ns ++ [s.data.toList]) (by simpa [strV_self] using hown4) (by
      intro q hq
      rcases List.mem_append.1 hq with h9 | h9
      · exact R4.out q h9
      · rw [List.mem_singleton.1 h9]; exact hpl)
    clear hown3 hnil3
    clear hown4 hnil4
    cases hj : Pa.joinF (ns ++ [s.data.toList]) with
    | some j =>
      have HB := hid' (Pa.below_joined H1.out hj)
      have hjl : (⟨j.toArray⟩ : ByteArray).size ≤ maxLen := by
        obtain ⟨_, _, h9, _⟩ := Pa.split_slashed (Pa.split_join hj)
        show j.length ≤ maxLen
        unfold maxLen; omega
      have HJ := hid' hj
      clear hj
      go_wp2_with fail
      refine (join_yes _ _ _ H4.out _ HJ.out).mono ?_
      rintro e w5 ⟨rfl, hb5⟩
      go_wp2_with fail
      refine (plive_c _).mono ?_
      rintro e w6 ⟨rfl, hb6⟩
      go_wp2_with fail
      refine (name_c _ _ (by unfold maxLen; rw [HMs.out]; omega)).mono ?_
      rintro e w7 ⟨rfl, hb7⟩
      rw [HM.out]
      go_wp2_with fail
      refine (below_c _ _ _ hjl hp).mono ?_
      rintro e w8 ⟨rfl, hb8⟩
      rw [HB.out]
      go_wp2
      go_ret
      have s1 := hb1.size
      have s2 := hb2.size
      have s4 := hb4.size
      have s5 := hb5.size
      have s6 := hb6.size
      have s7 := hb7.size
      exact ⟨rfl, (((((hb1.trans (hb2.mono (by omega))).trans (hb4.mono (by omega))).trans (hb5.mono (by omega))).trans (hb6.mono (by omega))).trans (hb7.mono (by omega))).trans (hb8.mono (by omega))⟩
    | none =>
      have HJ := hid' hj
      clear hj
      go_wp2_with fail
      refine (join_not _ _ _ H4.out HJ.out).mono ?_
      rintro e w5 ⟨rfl, hb5⟩
      go_wp2_with fail
      refine (plive_c _).mono ?_
      rintro e w6 ⟨rfl, hb6⟩
      go_wp2_with fail
      refine (name_c _ _ (by unfold maxLen; rw [HMs.out]; omega)).mono ?_
      rintro e w7 ⟨rfl, hb7⟩
      rw [HM.out]
      go_wp2
      go_ret
      have s1 := hb1.size
      have s2 := hb2.size
      have s4 := hb4.size
      have s5 := hb5.size
      have s6 := hb6.size
      exact ⟨rfl, ((((hb1.trans (hb2.mono (by omega))).trans (hb4.mono (by omega))).trans (hb5.mono (by omega))).trans (hb6.mono (by omega))).trans (hb7.mono (by omega))⟩

theorem pathNames_walk (s : ByteArray) (hs : s.size ≤ maxLen) (p : ByteArray) (hp : p.size ≤ maxLen) (w : World) :
    Calls Try.prog 3 #[.string s, .string p] w fun e w' => e = .returned (.bool true) ∧ Below w.heap.size w w' := by
  cases h : Pa.nameB s.data.toList with
  | false => exact pathNames_none s p w hs hp h
  | true =>
    cases h1 : Pa.splitF p.data.toList with
    | none => 
      cases hb : decide ((s.size : Int) < 12) with
      | true => exact pathNames_nopath s p w hp h h1 true hb
      | false => exact pathNames_nopath s p w hp h h1 false hb
    | some ns =>
      cases hb : decide ((s.size : Int) < 12) with
      | true => exact pathNames_path s p w hp h ns h1 true hb
      | false => exact pathNames_path s p w hp h ns h1 false hb
/-! ### The row of PathNames -/
theorem pathNames_own : ownKnob Try.prog.godebug = none := by kernel_rfl
theorem pathNames_laidOut : laidOutB Try.prog = true := by kernel_rfl
set_option maxRecDepth 100000 in
theorem pathNames_lifted (os : Os) (started : os.Started) (H : Type) (enc : TypeId × Value → H) :
    ReturnsInHanded {} Try.checked os 3 .any (Rows.pathNamesSpec.pre6 enc Try.prog Try.f3 Rows.pathNamesRow.domain false) (Rows.pathNamesSpec.post enc Try.prog Try.f3 false true false false) := by
  refine returnsInHanded_of_change (C := Try.checked) pathNames_own started (by kernel_rfl) Try.func3
    (ChangeSpec.witness6 (enc := enc) (C := Try.checked) false ⟨#[], #[.string ByteArray.empty, .string ByteArray.empty], []⟩ 8 (by kernel_rfl) (by kernel_rfl) (by kernel_rfl) (by kernel_rfl)) ?_
  intro W base args ds gs before hval0 hW hcnd _
  have hval : ∀ (j : Nat) t v, Try.f3.params[j]? = some t → args[j]? = some v → Value.okWide Try.prog W .any base t v := hval0
  have hW' := hW
  obtain ⟨p, q, hA0, hV, rfl, hfz, hnd⟩ := hW
  have hA : DataW.TrodAll enc Try.prog W 0 (fun _ => true) true Try.f3.params.toList args.toList ds p := hA0
  rw [Try.params3] at hA hval
  obtain ⟨v0, vs0, d0, ds0, p0, q0, hargs, rfl, rfl, h0, r0⟩ := trodAll_cons hA
  obtain ⟨v1, vs1, d1, ds1, p1, q1, rfl, rfl, rfl, h1, r1⟩ := trodAll_cons r0
  obtain ⟨rfl, rfl, rfl⟩ := trodAll_nil r1
  obtain rfl : args = #[v0, v1] := by cases args; simp_all
  obtain ⟨rfl, rfl⟩ := trodVars_none hV
  obtain ⟨a0, rfl, rfl, rfl, w0⟩ := open_string Try.underlying9 (hval 0 9 v0 rfl rfl) h0
  obtain ⟨a1, rfl, rfl, rfl, w1⟩ := open_string Try.underlying9 (hval 1 9 v1 rfl rfl) h1
  clear hA0 hval0
  refine (pathNames_walk a0 w0 a1 w1 W).mono fun e W' ⟨he, bel⟩ => ?_
  subst he
  exact ⟨_, rfl, _, _, _, [], _, [], hW', trodAll_mk1 (shut_bool Try.underlying4 _), (trodAll_cons_mk (shut_string Try.underlying9 w0) (trodAll_cons_mk (shut_string Try.underlying9 w1) trodAll_mk0)), rfl, bel.frame _, fun h => by cases h⟩
theorem pathNames_over : Rows.pathNamesRow.holds Try.pinned (OpenSpec.ofChange Rows.pathNamesSpec) :=
  OpenClaim.holds_of_wide 3 Try.f3 rfl rfl rfl rfl rfl rfl rfl ⟨rfl, rfl, rfl, rfl, rfl⟩ rfl rfl rfl rfl rfl (by kernel_rfl) Try.func3 (by kernel_rfl)
    (of_decide_eq_true (by kernel_rfl)) (by unfold Func.isWrapper; first | (rw [if_pos (by decide +kernel)]; kernel_rfl) | (rw [if_neg (by decide +kernel)]; exact ⟨rfl, rfl⟩))
    (fun os started H enc _ => pathNames_lifted os started H enc)
/-- The statement. -/
theorem pathNames_holds : Rows.PathNamesSaid := pathNames_over
#print axioms pathNames_holds
end Go.Proofs.Ytdbllggcomllgad
