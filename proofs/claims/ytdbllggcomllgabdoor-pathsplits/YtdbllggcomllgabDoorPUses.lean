/-
  What Same, Clean, Dir, Base and Below of the package path return, and that live holds.
-/
import Derived.Test.YtdbllggcomllgabDoorPJoin
namespace Go.Proofs.YtdbllggcomllgabDoor
open Go.RowKit Go.ChangeShapes Go.WideShapes Go.ChangeAt
set_option linter.unusedVariables false
set_option linter.unusedSimpArgs false
theorem names_short {l : List UInt8} {ns : List (List UInt8)} (h : Pa.splitF l = some ns) : ∀ p ∈ ns, p.length ≤ maxLen := fun p hp => by
  have := Pa.name_len p (Pa.split_names h p hp)
  unfold maxLen; omega
set_option maxRecDepth 100000 in
set_option maxHeartbeats 1000000 in
theorem same_c (v u : Value) (xs ys : List (List UInt8)) (w : World) (hv : IsS w v xs) (hu : IsS w u ys) :
    Calls Tryd.prog 23 #[v, u] w fun e w' => e = .returned (.bool (decide (xs = ys))) ∧ w' = w := by
  obtain ⟨a, cap, rfl, hc1, hc2, hcell, hlen⟩ := hv
  obtain ⟨a2, cap2, rfl, hd1, hd2, hcell2, hlen2⟩ := hu
  unfold maxLen at hc2 hd2
  by_cases hne : xs.length = ys.length
  · have hb : ((xs.length : Int) != (ys.length : Int)) = false := by rw [hne]; simp
    have HC := hid' hcell
    have HD := hid' hcell2
    have HNe := hid' hne
    have hlt2 : xs.length ≤ ys.length := by omega
    clear hcell hcell2 hlen hlen2 hne
    go_enter Tryd.func23, Tryd.ntmps23
    go_wp2
    go_loop [5, 6, 14] (fun j n i => ∃ k : Nat, k ≤ xs.length ∧ i = .int .i64 k ∧ Hid (xs.take k = ys.take k)) (fun _ _ i => ((xs.length : Int) - intOf i).toNat)
    case atStart => exact ⟨0, by omega, rfl, rfl⟩
    case round =>
      obtain ⟨k, hk, rfl, HT⟩ := hrel
      by_cases hlt : k < xs.length
      · obtain ⟨b, off, rfl, hc⟩ := HC.out (by omega)
        obtain ⟨b2, off2, rfl, hd⟩ := HD.out (by omega)
        have hck := hc k hlt
        have hdk := hd k (by omega)
        obtain ⟨x, hx⟩ : ∃ x : ByteArray, x.data.toList = xs[k] := ⟨⟨xs[k].toArray⟩, rfl⟩
        obtain ⟨y, hy⟩ : ∃ y : ByteArray, y.data.toList = ys[k]'(by omega) := ⟨⟨(ys[k]'(by omega)).toArray⟩, rfl⟩
        rw [← hx, strV_self] at hck
        rw [← hy, strV_self] at hdk
        clear hc hd
        by_cases hxy : xs[k] = ys[k]'(by omega)
        · have hb2 : (x.toList == y.toList) = true := by rw [Lib.toList_data, Lib.toList_data, hx, hy, hxy]; simp
          have HT2 : Hid (xs.take (k + 1) = ys.take (k + 1)) := by
            show _ = _
            rw [List.take_succ_eq_append_getElem hlt, List.take_succ_eq_append_getElem (show k < ys.length by omega), HT.out, hxy]
          have Hx := hid' hx
          have Hy := hid' hy
          clear hx hy hxy
          go_wp2
          go_round
          case rel => exact ⟨k + 1, by omega, by go_num, HT2⟩
          case measure => simp [intOf]; omega
        · have hb2 : (x.toList == y.toList) = false := by rw [Lib.toList_data, Lib.toList_data, hx, hy]; exact beq_eq_false_iff_ne.2 hxy
          have HE : Hid (decide (xs = ys) = false) := decide_eq_false fun e => hxy (by subst e; rfl)
          have Hx := hid' hx
          have Hy := hid' hy
          clear hx hy hxy
          go_wp2
          go_ret
          exact ⟨ret_bool' HE.out.symm, rfl⟩
      · have HE : Hid (decide (xs = ys) = true) := by
          have h1 := HT.out
          rw [List.take_of_length_le (by omega), List.take_of_length_le (by have := HNe.out; omega)] at h1
          exact decide_eq_true h1
        go_wp2
        go_ret
        exact ⟨ret_bool' HE.out.symm, rfl⟩
  · have hb : ((xs.length : Int) != (ys.length : Int)) = true := by rw [bne_iff_ne]; omega
    have HE : Hid (decide (xs = ys) = false) := decide_eq_false fun e => hne (by rw [e])
    clear hcell hcell2 hlen hlen2
    go_enter Tryd.func23, Tryd.ntmps23
    go_wp2
    go_ret
    exact ⟨ret_bool' HE.out.symm, rfl⟩
/-- A text with a number, or none. -/
def TextPost (r : Option (List UInt8)) (w : World) (e : Ending) (w' : World) : Prop :=
  ((∃ t, r = some t ∧ e = .returned (.tuple #[strV t, .int .i64 0])) ∨ (r = none ∧ e = .returned (.tuple #[strV [], .int .i64 3]))) ∧ Below w.heap.size w w'
set_option maxHeartbeats 400000 in
theorem clean_c (s : ByteArray) (w : World) (hs : s.size ≤ maxLen) :
    Calls Tryd.prog 14 #[.string s] w (TextPost (Pa.cleanF s.data.toList) w) := by
  go_enter Tryd.func14, Tryd.ntmps14
  go_wp2_with fail
  refine (split_c s w hs).mono ?_
  rintro e w1 ⟨⟨ns, v, hsp, rfl, hown⟩ | ⟨hsp, rfl⟩, hb1⟩
  · have HI := hid' (isS_of_owns hown (names_short hsp))
    have HS := hid' hsp
    clear hsp hown
    go_wp2_with fail
    refine (join_c v ns _ HI.out).mono ?_
    rintro e w2 ⟨⟨t, hj, rfl⟩ | ⟨hj, rfl⟩, hb2⟩
    · have HJ := hid' hj
      clear hj
      go_wp2
      go_ret2
      exact ⟨.inl ⟨t, by unfold Pa.cleanF; rw [HS.out]; exact HJ.out, rfl⟩, hb1.trans (hb2.mono hb1.size)⟩
    · have HJ := hid' hj
      clear hj
      go_wp2
      go_ret2
      exact ⟨.inr ⟨by unfold Pa.cleanF; rw [HS.out]; exact HJ.out, rfl⟩, hb1.trans (hb2.mono hb1.size)⟩
  · have HS := hid' hsp
    clear hsp
    go_wp2
    go_ret2
    exact ⟨.inr ⟨by unfold Pa.cleanF; rw [HS.out]; rfl, rfl⟩, hb1⟩
/-- What someNames answers. -/
def SomePost (l : List UInt8) (w : World) (e : Ending) (w' : World) : Prop :=
  ((∃ ns v, Pa.someF l = some ns ∧ ns ≠ [] ∧ Pa.splitF l = some ns ∧ e = .returned (.tuple #[v, .int .i64 0]) ∧ IsS w' v ns) ∨ (Pa.someF l = none ∧ e = .returned (.tuple #[.slice none 0 0, .int .i64 3]))) ∧ Below w.heap.size w w'
set_option maxHeartbeats 400000 in
theorem someNames_c (s : ByteArray) (w : World) (hs : s.size ≤ maxLen) :
    Calls Tryd.prog 22 #[.string s] w (SomePost s.data.toList w) := by
  go_enter Tryd.func22, Tryd.ntmps22
  go_wp2_with fail
  refine (split_c s w hs).mono ?_
  rintro e w1 ⟨⟨ns, v, hsp, rfl, hown⟩ | ⟨hsp, rfl⟩, hb1⟩
  · have HI := isS_of_owns hown (names_short hsp)
    have HS := hid' hsp
    clear hsp hown
    obtain ⟨a, cap, hv, r1, r2, r3⟩ := HI
    have HI : Hid (IsS w1 v ns) := ⟨a, cap, hv, r1, r2, r3⟩
    subst hv
    clear r2 r3
    by_cases h0 : ns.length = 0
    · have h9 : ns = [] := List.eq_nil_of_length_eq_zero h0
      subst h9
      have hb0 : ((([] : List (List UInt8)).length : Int) == 0) = true := rfl
      clear h0
      go_wp2
      go_ret2
      exact ⟨.inr ⟨by unfold Pa.someF; rw [HS.out]; rfl, rfl⟩, hb1⟩
    · have hb0 : ((ns.length : Int) == 0) = false := beq_eq_false_iff_ne.2 (by omega)
      have hne : ns ≠ [] := fun e => h0 (by rw [e]; rfl)
      have HN := hid' hne
      clear hne h0
      go_wp2
      go_ret2
      exact ⟨.inl ⟨ns, _, by unfold Pa.someF; rw [HS.out]; exact if_neg HN.out, HN.out, HS.out, rfl, HI.out⟩, hb1⟩
  · have HS := hid' hsp
    clear hsp
    go_wp2
    go_ret2
    exact ⟨.inr ⟨by unfold Pa.someF; rw [HS.out]; rfl, rfl⟩, hb1⟩
set_option maxHeartbeats 400000 in
theorem dir_c (s : ByteArray) (w : World) (hs : s.size ≤ maxLen) :
    Calls Tryd.prog 15 #[.string s] w (TextPost (Pa.dirF s.data.toList) w) := by
  go_enter Tryd.func15, Tryd.ntmps15
  go_wp2_with fail
  refine (someNames_c s w hs).mono ?_
  rintro e w1 ⟨⟨ns, v, hsp, hne, hsp2, rfl, hI⟩ | ⟨hsp, rfl⟩, hb1⟩
  · have HS := hid' hsp
    have hl : 1 ≤ ns.length := by
      cases ns with
      | nil => exact absurd rfl hne
      | cons c r => simp
    have hIc := hI
    obtain ⟨a, cap, rfl, r1, r2, r3, r4⟩ := hIc
    obtain ⟨b, off, rfl, -⟩ := r3 (by omega)
    have HI := hid' (hI.front (ns.length - 1) (by omega))
    unfold maxLen at r2
    clear hsp hsp2 hne hI r3 r4
    go_wp2_with fail
    refine (join_c _ (ns.take (ns.length - 1)) _ HI.out).mono ?_
    rintro e w2 ⟨⟨t, hj, rfl⟩ | ⟨hj, rfl⟩, hb2⟩
    · have HJ := hid' hj
      clear hj
      go_wp2
      go_ret2
      exact ⟨.inl ⟨t, by unfold Pa.dirF; rw [HS.out]; show Pa.joinF ns.dropLast = _; rw [List.dropLast_eq_take]; exact HJ.out, rfl⟩, hb1.trans (hb2.mono hb1.size)⟩
    · have HJ := hid' hj
      clear hj
      go_wp2
      go_ret2
      exact ⟨.inr ⟨by unfold Pa.dirF; rw [HS.out]; show Pa.joinF ns.dropLast = _; rw [List.dropLast_eq_take]; exact HJ.out, rfl⟩, hb1.trans (hb2.mono hb1.size)⟩
  · have HS := hid' hsp
    clear hsp
    go_wp2
    go_ret2
    exact ⟨.inr ⟨by unfold Pa.dirF; rw [HS.out]; rfl, rfl⟩, hb1⟩
set_option maxHeartbeats 1000000 in
theorem below_c (s t : ByteArray) (w : World) (hs : s.size ≤ maxLen) (ht : t.size ≤ maxLen) :
    Calls Tryd.prog 16 #[.string s, .string t] w fun e w' => e = .returned (.bool (Pa.belowB s.data.toList t.data.toList)) ∧ Below w.heap.size w w' := by
  go_enter Tryd.func16, Tryd.ntmps16
  go_wp2_with fail
  refine (split_c s w hs).mono ?_
  rintro e w1 ⟨⟨ns, v, hsp, rfl, hown⟩ | ⟨hsp, rfl⟩, hb1⟩
  · have HI := hid' (isS_of_owns hown (names_short hsp))
    have HS := hid' hsp
    clear hsp hown
    go_wp2_with fail
    refine (split_c t w1 ht).mono ?_
    rintro e w2 ⟨⟨ms, u, hsp, rfl, hown⟩ | ⟨hsp, rfl⟩, hb2⟩
    · have HJ := hid' (isS_of_owns hown (names_short hsp))
      have HT := hid' hsp
      clear hsp hown
      have HI2 := HI.out.later hb2
      obtain ⟨a, cap, rfl, r1, r2, r3, r4⟩ := HI.out
      obtain ⟨a2, cap2, rfl, q1, q2, q3, q4⟩ := HJ.out
      unfold maxLen at r2 q2
      by_cases hlt : ns.length ≤ ms.length
      · have HB : Hid (Pa.belowB s.data.toList t.data.toList = false) := by
          show _ = _
          unfold Pa.belowB; rw [HS.out, HT.out]
          show (decide (ms.length < ns.length) && _) = false
          rw [decide_eq_false (by omega)]; rfl
        clear HI2 r3 r4 q3 q4
        go_wp2
        go_ret
        exact ⟨ret_bool' HB.out.symm, hb1.trans (hb2.mono hb1.size)⟩
      · have HB : Hid (Pa.belowB s.data.toList t.data.toList = decide (ns.take ms.length = ms)) := by
          show _ = _
          unfold Pa.belowB; rw [HS.out, HT.out]
          show (decide (ms.length < ns.length) && _) = _
          rw [decide_eq_true (by omega)]; rfl
        obtain ⟨b, off, rfl, -⟩ := r3 (by omega)
        have HF := hid' (HI2.front ms.length (by omega))
        clear HI2 r3 r4 q3 q4
        go_wp2_with (go_at_call 23; refine (same_c _ _ (ns.take ms.length) ms _ HF.out HJ.out).mono ?_; rintro e w3 ⟨rfl, rfl⟩)
        go_ret
        exact ⟨ret_bool' HB.out.symm, hb1.trans (hb2.mono hb1.size)⟩
    · have HB : Hid (Pa.belowB s.data.toList t.data.toList = false) := by
        show _ = _
        unfold Pa.belowB; rw [HS.out, hsp]
      clear hsp
      go_wp2
      go_ret
      exact ⟨ret_bool' HB.out.symm, hb1.trans (hb2.mono hb1.size)⟩
  · have HB : Hid (Pa.belowB s.data.toList t.data.toList = false) := by
      show _ = _
      unfold Pa.belowB; rw [hsp]
    clear hsp
    go_wp2
    go_ret
    exact ⟨ret_bool' HB.out.symm, hb1⟩
set_option maxHeartbeats 1000000 in
theorem plive_c (w : World) : Calls Tryd.prog 6 #[] w fun e w' => e = .returned (.bool true) ∧ Below w.heap.size w w' := by
  go_enter Tryd.func6, Tryd.ntmps6
  go_wp2_with fail
  refine (clean_c ⟨#[47, 97, 47, 46, 47, 98, 47, 47, 46, 46, 47, 99]⟩ w (by unfold maxLen; decide)).mono ?_
  rintro e w1 ⟨⟨t, hc, rfl⟩ | ⟨hc, rfl⟩, hb1⟩
  · have e1 : t = [47, 97, 47, 99] := by
      have : Pa.cleanF [47, 97, 47, 46, 47, 98, 47, 47, 46, 46, 47, 99] = some [47, 97, 47, 99] := by decide +kernel
      rw [this] at hc; cases hc; rfl
    subst e1
    clear hc
    go_wp2_with fail
    refine (dir_c ⟨#[47, 97, 47, 98]⟩ w1 (by unfold maxLen; decide)).mono ?_
    rintro e w2 ⟨⟨t, hc, rfl⟩ | ⟨hc, rfl⟩, hb2⟩
    · have e1 : t = [47, 97] := by
        have : Pa.dirF [47, 97, 47, 98] = some [47, 97] := by decide +kernel
        rw [this] at hc; cases hc; rfl
      subst e1
      clear hc
      unfold strV
      go_wp2_with fail
      refine (name_c ⟨#[97]⟩ w2 (by unfold maxLen; decide)).mono ?_
      rintro e w3 ⟨rfl, hb3⟩
      rw [show Pa.nameB (⟨#[97]⟩ : ByteArray).data.toList = true from by decide +kernel]
      go_wp2_with fail
      refine (below_c ⟨#[47, 97, 47, 98]⟩ ⟨#[47, 97]⟩ w3 (by unfold maxLen; decide) (by unfold maxLen; decide)).mono ?_
      rintro e w4 ⟨rfl, hb4⟩
      rw [show Pa.belowB (⟨#[47, 97, 47, 98]⟩ : ByteArray).data.toList (⟨#[47, 97]⟩ : ByteArray).data.toList = true from by decide +kernel]
      go_wp2
      go_ret
      have s1 := hb1.size
      have s2 := hb2.size
      have s3 := hb3.size
      exact ⟨rfl, ((hb1.trans (hb2.mono (by omega))).trans (hb3.mono (by omega))).trans (hb4.mono (by omega))⟩
    · exact absurd hc (by decide +kernel)
  · exact absurd hc (by decide +kernel)
/-! ### The same contracts, where the answer is known -/
theorem split_yes (s : ByteArray) (w : World) (hs : s.size ≤ maxLen) (ns : List (List UInt8)) (h : Pa.splitF s.data.toList = some ns) :
    Calls Tryd.prog 4 #[.string s] w fun e w' => ∃ v, e = .returned (.tuple #[v, .int .i64 0]) ∧ IsS w' v ns ∧ (v = .slice none 0 0 ∨ ∃ x n cap, v = .slice (some x) n cap) ∧ Below w.heap.size w w' :=
  (split_c s w hs).mono fun e w' ⟨hp, hb⟩ => by
    rcases hp with ⟨ns', v, h', rfl, ho⟩ | ⟨h', rfl⟩
    · rw [h] at h'; cases h'
      exact ⟨v, rfl, isS_of_owns ho (names_short h), by rcases ho.2 with ⟨e, _⟩ | ⟨g, cap, cur, e, _⟩; exact .inl e; exact .inr ⟨_, _, _, e⟩, hb⟩
    · rw [h] at h'; cases h'
theorem split_not (s : ByteArray) (w : World) (hs : s.size ≤ maxLen) (h : Pa.splitF s.data.toList = none) :
    Calls Tryd.prog 4 #[.string s] w fun e w' => e = .returned (.tuple #[.slice none 0 0, .int .i64 3]) ∧ Below w.heap.size w w' :=
  (split_c s w hs).mono fun e w' ⟨hp, hb⟩ => by
    rcases hp with ⟨ns', v, h', rfl, ho⟩ | ⟨h', rfl⟩
    · rw [h] at h'; cases h'
    · exact ⟨rfl, hb⟩
theorem join_yes (v : Value) (ns : List (List UInt8)) (w : World) (hv : IsS w v ns) (t : List UInt8) (h : Pa.joinF ns = some t) :
    Calls Tryd.prog 21 #[v] w fun e w' => e = .returned (.tuple #[.string ⟨t.toArray⟩, .int .i64 0]) ∧ Below w.heap.size w w' :=
  (join_c v ns w hv).mono fun e w' ⟨hp, hb⟩ => by
    rcases hp with ⟨t', h', rfl⟩ | ⟨h', rfl⟩
    · rw [h] at h'; cases h'
      exact ⟨rfl, hb⟩
    · rw [h] at h'; cases h'
theorem join_not (v : Value) (ns : List (List UInt8)) (w : World) (hv : IsS w v ns) (h : Pa.joinF ns = none) :
    Calls Tryd.prog 21 #[v] w fun e w' => e = .returned (.tuple #[.string ⟨#[]⟩, .int .i64 3]) ∧ Below w.heap.size w w' :=
  (join_c v ns w hv).mono fun e w' ⟨hp, hb⟩ => by
    rcases hp with ⟨t', h', rfl⟩ | ⟨h', rfl⟩
    · rw [h] at h'; cases h'
    · exact ⟨rfl, hb⟩
theorem text_yes {e : Ending} {w w' : World} {r : Option (List UInt8)} {t : List UInt8} (h : r = some t) (hp : TextPost r w e w') : e = .returned (.tuple #[.string ⟨t.toArray⟩, .int .i64 0]) ∧ Below w.heap.size w w' := by
  obtain ⟨hp, hb⟩ := hp
  rcases hp with ⟨t', h', rfl⟩ | ⟨h', rfl⟩
  · rw [h] at h'; cases h'
    exact ⟨rfl, hb⟩
  · rw [h] at h'; cases h'
theorem text_not {e : Ending} {w w' : World} {r : Option (List UInt8)} (h : r = none) (hp : TextPost r w e w') : e = .returned (.tuple #[.string ⟨#[]⟩, .int .i64 3]) ∧ Below w.heap.size w w' := by
  obtain ⟨hp, hb⟩ := hp
  rcases hp with ⟨t', h', rfl⟩ | ⟨h', rfl⟩
  · rw [h] at h'; cases h'
  · exact ⟨rfl, hb⟩
theorem own_empty (w : World) (t : TypeId) : (w.alloc (.cells #[] t)).ownsRow w.heap.size t 1 (.slice (some ⟨w.heap.size, 0, none⟩) 0 0) 0 [] :=
  ⟨rfl, .inr ⟨w.heap.size, 0, #[], rfl, Nat.le_refl _, heap_alloc_new w _, Nat.le_refl _, Nat.zero_le _, rfl, rfl⟩⟩
theorem IsS.cells {w : World} {x : Addr} {n cap : Nat} {ss : List (List UInt8)} (h : IsS w (.slice (some x) n cap) ss) : ∀ j u, (ss.map strV)[j]? = some u → w.cell? (x.add j) = some u := by
  obtain ⟨a, cap', h1, h2, h3, h4, h5⟩ := h
  cases h1
  intro j u hu
  rw [List.getElem?_map] at hu
  by_cases hj : j < ss.length
  · obtain ⟨b, off, e, hc⟩ := h4 (by omega)
    cases e
    rw [List.getElem?_eq_getElem hj] at hu
    cases hu
    have h2 : (⟨b, off, none⟩ : Addr).add j = ⟨b, off + j, none⟩ := by rcases j with _ | j <;> simp [Addr.add]
    rw [h2]; exact hc j hj
  · rw [List.getElem?_eq_none (by omega)] at hu; cases hu
theorem strs_one (ss : List (List UInt8)) : ∀ u ∈ ss.map strV, u.oneCell' = true := by
  intro u hu
  obtain ⟨s, _, rfl⟩ := List.mem_map.1 hu
  rfl
end Go.Proofs.YtdbllggcomllgabDoor
