/-
  What Clean, Dir, Base and Below of the document's answer for paths return.
-/
import Derived.Test.YtdbllggcomllgacDoorPRSplit
namespace Go.Proofs.YtdbllggcomllgacDoor
open Go.RowKit Go.ChangeShapes Go.WideShapes Go.ChangeAt
set_option linter.unusedVariables false
set_option linter.unusedSimpArgs false
set_option maxHeartbeats 400000 in
theorem rclean_c (s : ByteArray) (w : World) (m : Int) (hmx : w.cell? ⟨0, 0, none⟩ = some (.int .i64 m)) (hs : s.size ≤ maxLen) :
    Calls Tryd.prog 6 #[.string s] w (TextPost (Pa.cleanF s.data.toList) w) := by
  have HX := hid' hmx
  clear hmx
  go_enter Tryd.func6, Tryd.ntmps6
  go_wp2_with fail
  refine (rsplit_c s w m HX.out hs).mono ?_
  rintro e w1 ⟨⟨ns, v, hsp, rfl, hown⟩ | ⟨hsp, rfl⟩, hb1⟩
  · have HI := hid' (isS_of_owns hown (names_short hsp))
    have HS := hid' hsp
    clear hsp hown
    go_wp2_with fail
    refine (rjoin_c v ns _ HI.out).mono ?_
    rintro e w2 ⟨⟨t, hj, rfl⟩ | ⟨hj, rfl⟩, hb2⟩
    · have HJ := hid' hj
      clear hj
      go_wp2
      go_ret2
      exact ⟨.inl ⟨t, by unfold Pa.cleanF; rw [HS.out]; exact HJ.out, rfl⟩, hb1.trans (hb2.mono hb1.size)⟩
    · have HJ := hid' hj
      clear hj
      go_wp2
      go_ret2
      exact ⟨.inr ⟨by unfold Pa.cleanF; rw [HS.out]; exact HJ.out, rfl⟩, hb1.trans (hb2.mono hb1.size)⟩
  · have HS := hid' hsp
    clear hsp
    go_wp2
    go_ret2
    exact ⟨.inr ⟨by unfold Pa.cleanF; rw [HS.out]; rfl, rfl⟩, hb1⟩
theorem someF_of {l : List UInt8} {ns : List (List UInt8)} (h : Pa.splitF l = some ns) (hne : ns ≠ []) : Pa.someF l = some ns := by
  unfold Pa.someF; rw [h]; exact if_neg hne
set_option maxHeartbeats 400000 in
theorem rdir_c (s : ByteArray) (w : World) (m : Int) (hmx : w.cell? ⟨0, 0, none⟩ = some (.int .i64 m)) (hs : s.size ≤ maxLen) :
    Calls Tryd.prog 8 #[.string s] w (TextPost (Pa.dirF s.data.toList) w) := by
  have HX := hid' hmx
  clear hmx
  go_enter Tryd.func8, Tryd.ntmps8
  go_wp2_with fail
  refine (rsplit_c s w m HX.out hs).mono ?_
  rintro e w1 ⟨⟨ns, v, hsp, rfl, hown⟩ | ⟨hsp, rfl⟩, hb1⟩
  · have hI := isS_of_owns hown (names_short hsp)
    clear hown
    have hIc := hI
    obtain ⟨a, cap, rfl, r1, r2, r3, r4⟩ := hIc
    unfold maxLen at r2
    by_cases h0 : ns.length = 0
    · have h9 : ns = [] := List.eq_nil_of_length_eq_zero h0
      subst h9
      have HN := hid' (Pa.no_parts (.inr hsp)).1
      have hb0 : ((([] : List (List UInt8)).length : Int) == 0) = true := rfl
      clear h0 hI r3 r4 hsp
      go_wp2
      go_ret2
      exact ⟨.inr ⟨HN.out, rfl⟩, hb1⟩
    · have hb0 : ((ns.length : Int) == 0) = false := beq_eq_false_iff_ne.2 (by omega)
      have hne : ns ≠ [] := fun e => h0 (by rw [e]; rfl)
      have HS := hid' (someF_of hsp hne)
      obtain ⟨b, off, rfl, -⟩ := r3 (by omega)
      have HI := hid' (hI.front (ns.length - 1) (by omega))
      have hl : 1 ≤ ns.length := by omega
      clear hsp hne hI r3 r4
      go_wp2_with fail
      refine (rjoin_c _ (ns.take (ns.length - 1)) _ HI.out).mono ?_
      rintro e w2 ⟨⟨t, hj, rfl⟩ | ⟨hj, rfl⟩, hb2⟩
      · have HJ := hid' hj
        clear hj
        go_wp2
        go_ret2
        exact ⟨.inl ⟨t, by unfold Pa.dirF; rw [HS.out]; show Pa.joinF ns.dropLast = _; rw [List.dropLast_eq_take]; exact HJ.out, rfl⟩, hb1.trans (hb2.mono hb1.size)⟩
      · have HJ := hid' hj
        clear hj
        go_wp2
        go_ret2
        exact ⟨.inr ⟨by unfold Pa.dirF; rw [HS.out]; show Pa.joinF ns.dropLast = _; rw [List.dropLast_eq_take]; exact HJ.out, rfl⟩, hb1.trans (hb2.mono hb1.size)⟩
  · have HN := hid' (Pa.no_parts (.inl hsp)).1
    clear hsp
    go_wp2
    go_ret2
    exact ⟨.inr ⟨HN.out, rfl⟩, hb1⟩
set_option maxHeartbeats 400000 in
theorem rbase_c (s : ByteArray) (w : World) (m : Int) (hmx : w.cell? ⟨0, 0, none⟩ = some (.int .i64 m)) (hs : s.size ≤ maxLen) :
    Calls Tryd.prog 10 #[.string s] w (TextPost (Pa.baseF s.data.toList) w) := by
  have HX := hid' hmx
  clear hmx
  go_enter Tryd.func10, Tryd.ntmps10
  go_wp2_with fail
  refine (rsplit_c s w m HX.out hs).mono ?_
  rintro e w1 ⟨⟨ns, v, hsp, rfl, hown⟩ | ⟨hsp, rfl⟩, hb1⟩
  · have hI := isS_of_owns hown (names_short hsp)
    clear hown
    obtain ⟨a, cap, rfl, r1, r2, r3, r4⟩ := hI
    unfold maxLen at r2
    by_cases h0 : ns.length = 0
    · have h9 : ns = [] := List.eq_nil_of_length_eq_zero h0
      subst h9
      have HN := hid' (Pa.no_parts (.inr hsp)).2
      have hb0 : ((([] : List (List UInt8)).length : Int) == 0) = true := rfl
      clear h0 r3 r4 hsp
      go_wp2
      go_ret2
      exact ⟨.inr ⟨HN.out, rfl⟩, hb1⟩
    · have hb0 : ((ns.length : Int) == 0) = false := beq_eq_false_iff_ne.2 (by omega)
      have hne : ns ≠ [] := fun e => h0 (by rw [e]; rfl)
      have HS := hid' (someF_of hsp hne)
      obtain ⟨b, off, rfl, hc⟩ := r3 (by omega)
      have hcell := hc (ns.length - 1) (by omega)
      have HG : Hid (Pa.baseF s.data.toList = some (ns[ns.length - 1]'(by omega))) := by
        show _ = _
        unfold Pa.baseF; rw [HS.out]; show ns.getLast? = _
        rw [List.getLast?_eq_getElem?, List.getElem?_eq_getElem]
      generalize hlast : ns[ns.length - 1]'(by omega) = last at *
      have hl : 1 ≤ ns.length := by omega
      unfold strV at hcell
      clear hlast
      clear hsp hne r3 r4 hc
      go_wp2
      go_ret2
      exact ⟨.inl ⟨last, HG.out, rfl⟩, hb1⟩
  · have HN := hid' (Pa.no_parts (.inl hsp)).2
    clear hsp
    go_wp2
    go_ret2
    exact ⟨.inr ⟨HN.out, rfl⟩, hb1⟩
set_option maxHeartbeats 1000000 in
theorem rbelow_c (s t : ByteArray) (w : World) (m : Int) (hmx : w.cell? ⟨0, 0, none⟩ = some (.int .i64 m)) (hs : s.size ≤ maxLen) (ht : t.size ≤ maxLen) :
    Calls Tryd.prog 13 #[.string s, .string t] w fun e w' => e = .returned (.bool (Pa.belowB s.data.toList t.data.toList)) ∧ Below w.heap.size w w' := by
  have HX := hid' hmx
  clear hmx
  go_enter Tryd.func13, Tryd.ntmps13
  go_wp2_with fail
  refine (rsplit_c s w m HX.out hs).mono ?_
  rintro e w1 ⟨⟨ns, v, hsp, rfl, hown⟩ | ⟨hsp, rfl⟩, hb1⟩
  · have HI := hid' (isS_of_owns hown (names_short hsp))
    have HS := hid' hsp
    clear hsp hown
    go_wp2_with fail
    refine (rsplit_c t w1 m (cell_later hb1 HX.out) ht).mono ?_
    rintro e w2 ⟨⟨ms, u, hsp, rfl, hown⟩ | ⟨hsp, rfl⟩, hb2⟩
    · have HJ := hid' (isS_of_owns hown (names_short hsp))
      have HT := hid' hsp
      clear hsp hown
      have HI2 := HI.out.later hb2
      obtain ⟨a, cap, rfl, r1, r2, r3, r4⟩ := HI.out
      obtain ⟨a2, cap2, rfl, q1, q2, q3, q4⟩ := HJ.out
      unfold maxLen at r2 q2
      by_cases hlt : ns.length ≤ ms.length
      · have HB : Hid (Pa.belowB s.data.toList t.data.toList = false) := by
          show _ = _
          unfold Pa.belowB; rw [HS.out, HT.out]
          show (decide (ms.length < ns.length) && _) = false
          rw [decide_eq_false (by omega)]; rfl
        have hd : decide ((ms.length : Int) < (ns.length : Int)) = false := decide_eq_false (by omega)
        clear HI2 r3 r4 q3 q4
        go_wp2
        go_ret
        exact ⟨ret_bool' HB.out.symm, hb1.trans (hb2.mono hb1.size)⟩
      · have HB : Hid (Pa.belowB s.data.toList t.data.toList = decide (ns.take ms.length = ms)) := by
          show _ = _
          unfold Pa.belowB; rw [HS.out, HT.out]
          show (decide (ms.length < ns.length) && _) = _
          rw [decide_eq_true (by omega)]; rfl
        have hd : decide ((ms.length : Int) < (ns.length : Int)) = true := decide_eq_true (by omega)
        have hd' : (ms.length : Int) < (ns.length : Int) := by omega
        obtain ⟨b, off, rfl, -⟩ := r3 (by omega)
        have HF := hid' (HI2.front ms.length (by omega))
        clear HI2 r3 r4 q3 q4
        go_wp2_with (go_at_call 15; refine (rsame_c _ _ (ns.take ms.length) ms _ HF.out HJ.out).mono ?_; rintro e w3 ⟨rfl, hb3⟩)
        go_ret
        exact ⟨ret_bool' HB.out.symm, (hb1.trans (hb2.mono hb1.size)).trans (hb3.mono (Nat.le_trans hb1.size hb2.size))⟩
    · have HB : Hid (Pa.belowB s.data.toList t.data.toList = false) := by
        show _ = _
        unfold Pa.belowB; rw [HS.out, hsp]
      clear hsp
      go_wp2
      go_ret
      exact ⟨ret_bool' HB.out.symm, hb1.trans (hb2.mono hb1.size)⟩
  · have HB : Hid (Pa.belowB s.data.toList t.data.toList = false) := by
      show _ = _
      unfold Pa.belowB; rw [hsp]
    clear hsp
    go_wp2_with fail
    refine (rsplit_c t w1 m (cell_later hb1 HX.out) ht).mono ?_
    rintro e w2 ⟨⟨ms, u, hsp, rfl, hown⟩ | ⟨hsp, rfl⟩, hb2⟩
    · clear hsp hown
      go_wp2
      go_ret
      exact ⟨ret_bool' HB.out.symm, hb1.trans (hb2.mono hb1.size)⟩
    · clear hsp
      go_wp2
      go_ret
      exact ⟨ret_bool' HB.out.symm, hb1.trans (hb2.mono hb1.size)⟩
end Go.Proofs.YtdbllggcomllgacDoor
