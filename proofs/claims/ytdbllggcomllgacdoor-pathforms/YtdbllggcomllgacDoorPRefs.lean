/-
  What Name and Join of the document's answer for paths return, and how a slice of texts that came in is read.
-/
import Derived.Test.YtdbllggcomllgacDoorPUses
namespace Go.Proofs.YtdbllggcomllgacDoor
open Go.RowKit Go.ChangeShapes Go.WideShapes Go.ChangeAt
set_option linter.unusedVariables false
set_option linter.unusedSimpArgs false
set_option maxRecDepth 100000 in
set_option maxHeartbeats 2000000 in
theorem rname_c (s : ByteArray) (w : World) (hs : s.size ≤ maxLen) :
    Calls Tryd.prog 26 #[.string s] w fun e w' => e = .returned (.bool (Pa.nameB s.data.toList)) ∧ w' = w := by
  have HL : Hid (s.data.toList.length = s.size) := rfl
  unfold maxLen at hs
  go_enter Tryd.func26, Tryd.ntmps26
  go_wp2
  go_loop [3, 4] (fun i c => ∃ j : Nat, j ≤ s.size ∧ i = .int .i64 j ∧ Hid ((s.data.toList.take j).all Pa.okC = true)) (fun i _ => ((s.size : Int) - intOf i).toNat)
  case atStart => exact ⟨0, by omega, rfl, by simp [Hid]⟩
  case round =>
    obtain ⟨j, hj, rfl, HA⟩ := hrel
    by_cases hp : j < s.size
    · cases hc : Pa.okR ((s[j]'hp).toNat : Int) with
      | true =>
        have HB : Hid ((s.data.toList.take (j + 1)).all Pa.okC = true) := Pa.all_take_succ s.data.toList j (by have := HL.out; omega) HA.out (by unfold Pa.okC; exact hc)
        have hcs := Pa.okR_true hc
        clear hc
        rcases hcs with ⟨c1, c2⟩ | ⟨c1, c2⟩ | ⟨c1, c2⟩ | ⟨c1, c2⟩ | ⟨c1, c2⟩
        · have d97 : decide (97 ≤ ((s[j]'hp).toNat : Int)) = true := decide_eq_true (by omega)
          have d122 : decide (((s[j]'hp).toNat : Int) ≤ 122) = true := decide_eq_true (by omega)
          go_wp2
          go_round
          case rel => exact ⟨j + 1, by omega, by go_num, HB⟩
          case measure => simp [intOf]; omega
        · have d97 : decide (97 ≤ ((s[j]'hp).toNat : Int)) = false := decide_eq_false (by omega)
          have d48 : decide (48 ≤ ((s[j]'hp).toNat : Int)) = true := decide_eq_true (by omega)
          have d57 : decide (((s[j]'hp).toNat : Int) ≤ 57) = true := decide_eq_true (by omega)
          go_wp2
          go_round
          case rel => exact ⟨j + 1, by omega, by go_num, HB⟩
          case measure => simp [intOf]; omega
        · have q46 : (((s[j]'hp).toNat : Int) == 46) = true := beq_iff_eq.2 (by omega)
          have d97 : decide (97 ≤ ((s[j]'hp).toNat : Int)) = false := decide_eq_false (by omega)
          have d48 : decide (48 ≤ ((s[j]'hp).toNat : Int)) = false := decide_eq_false (by omega)
          go_wp2
          go_round
          case rel => exact ⟨j + 1, by omega, by go_num, HB⟩
          case measure => simp [intOf]; omega
        · have q46 : (((s[j]'hp).toNat : Int) == 46) = false := beq_eq_false_iff_ne.2 (by omega)
          have q45 : (((s[j]'hp).toNat : Int) == 45) = true := beq_iff_eq.2 (by omega)
          have d97 : decide (97 ≤ ((s[j]'hp).toNat : Int)) = false := decide_eq_false (by omega)
          have d48 : decide (48 ≤ ((s[j]'hp).toNat : Int)) = false := decide_eq_false (by omega)
          go_wp2
          go_round
          case rel => exact ⟨j + 1, by omega, by go_num, HB⟩
          case measure => simp [intOf]; omega
        · have q46 : (((s[j]'hp).toNat : Int) == 46) = false := beq_eq_false_iff_ne.2 (by omega)
          have q45 : (((s[j]'hp).toNat : Int) == 45) = false := beq_eq_false_iff_ne.2 (by omega)
          have q95 : (((s[j]'hp).toNat : Int) == 95) = true := beq_iff_eq.2 (by omega)
          have d97 : decide (97 ≤ ((s[j]'hp).toNat : Int)) = false := decide_eq_false (by omega)
          have d48 : decide (48 ≤ ((s[j]'hp).toNat : Int)) = true := decide_eq_true (by omega)
          have d57 : decide (((s[j]'hp).toNat : Int) ≤ 57) = false := decide_eq_false (by omega)
          go_wp2
          go_round
          case rel => exact ⟨j + 1, by omega, by go_num, HB⟩
          case measure => simp [intOf]; omega
      | false =>
        have HB : Hid (Pa.nameB s.data.toList = false) := Pa.nameB_bad _ (Pa.all_bad s.data.toList j (by have := HL.out; omega) (by unfold Pa.okC; exact hc))
        have hcs := Pa.okR_false hc
        clear hc
        rcases hcs with c1 | ⟨c1, c2⟩ | ⟨c1, c2⟩ | ⟨c1, c2⟩ | c1
        · have q46 : (((s[j]'hp).toNat : Int) == 46) = false := beq_eq_false_iff_ne.2 (by omega)
          have q45 : (((s[j]'hp).toNat : Int) == 45) = false := beq_eq_false_iff_ne.2 (by omega)
          have q95 : (((s[j]'hp).toNat : Int) == 95) = false := beq_eq_false_iff_ne.2 (by omega)
          have d97 : decide (97 ≤ ((s[j]'hp).toNat : Int)) = false := decide_eq_false (by omega)
          have d48 : decide (48 ≤ ((s[j]'hp).toNat : Int)) = false := decide_eq_false (by omega)
          go_wp2
          go_ret
          exact ⟨ret_bool' HB.out.symm, rfl⟩
        · have q46 : (((s[j]'hp).toNat : Int) == 46) = false := beq_eq_false_iff_ne.2 (by omega)
          have q45 : (((s[j]'hp).toNat : Int) == 45) = false := beq_eq_false_iff_ne.2 (by omega)
          have q95 : (((s[j]'hp).toNat : Int) == 95) = false := beq_eq_false_iff_ne.2 (by omega)
          have d97 : decide (97 ≤ ((s[j]'hp).toNat : Int)) = false := decide_eq_false (by omega)
          have d48 : decide (48 ≤ ((s[j]'hp).toNat : Int)) = false := decide_eq_false (by omega)
          go_wp2
          go_ret
          exact ⟨ret_bool' HB.out.symm, rfl⟩
        · have q46 : (((s[j]'hp).toNat : Int) == 46) = false := beq_eq_false_iff_ne.2 (by omega)
          have q45 : (((s[j]'hp).toNat : Int) == 45) = false := beq_eq_false_iff_ne.2 (by omega)
          have q95 : (((s[j]'hp).toNat : Int) == 95) = false := beq_eq_false_iff_ne.2 (by omega)
          have d97 : decide (97 ≤ ((s[j]'hp).toNat : Int)) = false := decide_eq_false (by omega)
          have d48 : decide (48 ≤ ((s[j]'hp).toNat : Int)) = true := decide_eq_true (by omega)
          have d57 : decide (((s[j]'hp).toNat : Int) ≤ 57) = false := decide_eq_false (by omega)
          go_wp2
          go_ret
          exact ⟨ret_bool' HB.out.symm, rfl⟩
        · have q46 : (((s[j]'hp).toNat : Int) == 46) = false := beq_eq_false_iff_ne.2 (by omega)
          have q45 : (((s[j]'hp).toNat : Int) == 45) = false := beq_eq_false_iff_ne.2 (by omega)
          have q95 : (((s[j]'hp).toNat : Int) == 95) = false := beq_eq_false_iff_ne.2 (by omega)
          have d97 : decide (97 ≤ ((s[j]'hp).toNat : Int)) = false := decide_eq_false (by omega)
          have d48 : decide (48 ≤ ((s[j]'hp).toNat : Int)) = true := decide_eq_true (by omega)
          have d57 : decide (((s[j]'hp).toNat : Int) ≤ 57) = false := decide_eq_false (by omega)
          go_wp2
          go_ret
          exact ⟨ret_bool' HB.out.symm, rfl⟩
        · have q46 : (((s[j]'hp).toNat : Int) == 46) = false := beq_eq_false_iff_ne.2 (by omega)
          have q45 : (((s[j]'hp).toNat : Int) == 45) = false := beq_eq_false_iff_ne.2 (by omega)
          have q95 : (((s[j]'hp).toNat : Int) == 95) = false := beq_eq_false_iff_ne.2 (by omega)
          have d97 : decide (97 ≤ ((s[j]'hp).toNat : Int)) = true := decide_eq_true (by omega)
          have d122 : decide (((s[j]'hp).toNat : Int) ≤ 122) = false := decide_eq_false (by omega)
          have d48 : decide (48 ≤ ((s[j]'hp).toNat : Int)) = true := decide_eq_true (by omega)
          have d57 : decide (((s[j]'hp).toNat : Int) ≤ 57) = false := decide_eq_false (by omega)
          go_wp2
          go_ret
          exact ⟨ret_bool' HB.out.symm, rfl⟩
    · have HAll : Hid (s.data.toList.all Pa.okC = true) := by
        have h1 := HA.out
        rw [List.take_of_length_le (by have := HL.out; omega)] at h1; exact h1
      by_cases h1 : s.size < 1
      · have N := hid' (Pa.nameB_short s.data.toList (by have := HL.out; omega))
        go_wp2
        go_ret
        exact ⟨ret_bool' N.out.symm, rfl⟩
      · by_cases h2 : 12 < s.size
        · have N := hid' (Pa.nameB_long s.data.toList (by have := HL.out; omega))
          go_wp2
          go_ret
          exact ⟨ret_bool' N.out.symm, rfl⟩
        · cases h3 : (s.toList == [46]) with
          | true =>
            have N : Hid (Pa.nameB s.data.toList = false) := by
              have : s.data.toList = [46] := by rw [← Lib.toList_data]; exact beq_iff_eq.1 h3
              show _ = _
              rw [this]; exact Pa.nameB_dot
            go_wp2
            go_ret
            exact ⟨ret_bool' N.out.symm, rfl⟩
          | false =>
            cases h4 : (s.toList == [46, 46]) with
            | true =>
              have N : Hid (Pa.nameB s.data.toList = false) := by
                have : s.data.toList = [46, 46] := by rw [← Lib.toList_data]; exact beq_iff_eq.1 h4
                show _ = _
                rw [this]; exact Pa.nameB_dots
              go_wp2
              go_ret
              exact ⟨ret_bool' N.out.symm, rfl⟩
            | false =>
              have N : Hid (Pa.nameB s.data.toList = true) := by
                show _ = _
                rw [Pa.nameB_mid _ (by have := HL.out; omega) (by have := HL.out; omega) (by rw [← Lib.toList_data]; exact h3) (by rw [← Lib.toList_data]; exact h4)]
                exact HAll.out
              go_wp2
              go_ret
              exact ⟨ret_bool' N.out.symm, rfl⟩
theorem app_data (a b : ByteArray) : (a ++ b).data.toList = a.data.toList ++ b.data.toList := by simp [ByteArray.data_append]
theorem app_size (a b : ByteArray) : (a ++ b).size = a.size + b.size := by
  have h := congrArg List.length (app_data a b)
  have h1 : ∀ y : ByteArray, y.data.toList.length = y.size := fun _ => rfl
  rw [List.length_append, h1, h1, h1] at h
  exact h
set_option maxRecDepth 100000 in
set_option maxHeartbeats 2000000 in
theorem rjoin_c (v : Value) (ns : List (List UInt8)) (w : World) (hv : IsS w v ns) :
    Calls Tryd.prog 19 #[v] w (JoinPost ns w) := by
  obtain ⟨a, cap, rfl, hc1, hc2, hcell, hlen⟩ := hv
  unfold maxLen at hc2
  have HC := hid' hcell
  have HLen := hid' hlen
  clear hcell hlen
  go_enter Tryd.func19, Tryd.ntmps19
  go_wp2
  go_loop [4, 5] (fun t i => ∃ (k : Nat) (cur : ByteArray) (text : List UInt8), k ≤ ns.length ∧ i = .int .i64 k ∧ t = .string cur ∧ cur.size ≤ 120 ∧ Hid ((k = 0 ∧ cur = ⟨#[47]⟩ ∧ text = []) ∨ (0 < k ∧ cur.data.toList = text)) ∧ Hid (Pa.joinG text (ns.drop k) = Pa.joinG [] ns)) (fun _ i => ((ns.length : Int) - intOf i).toNat)
  case atStart => exact ⟨0, ⟨#[47]⟩, [], by omega, rfl, rfl, by decide, .inl ⟨rfl, rfl, rfl⟩, rfl⟩
  case round =>
    obtain ⟨k, cur, text, hk, rfl, rfl, htx, HK, HS⟩ := hrel
    by_cases hlt : k < ns.length
    · have HN : Hid (Pa.joinF ns = Pa.joinG [] ns) := by
        show _ = _
        unfold Pa.joinF; rw [if_neg]
        intro e; rw [e] at hlt; exact absurd hlt (by simp)
      obtain ⟨b, off, rfl, hcl⟩ := HC.out (by omega)
      have hck := hcl k hlt
      obtain ⟨x, hx⟩ : ∃ x : ByteArray, x.data.toList = ns[k] := ⟨⟨ns[k].toArray⟩, rfl⟩
      have HAt : Hid _ := Pa.joinG_at text ns k hlt
      rw [← hx, strV_self] at hck
      have HX := hid' hx
      have hxs : x.size ≤ maxLen := by
        have h1 := HLen.out ns[k] (List.getElem_mem hlt)
        rw [← hx] at h1; exact h1
      clear hx hcl
      cases hD : Pa.nameB x.data.toList with
      | true =>
        have hn := Pa.name_len _ hD
        have hxl : x.data.toList.length = x.size := rfl
        rw [hxl] at hn
        clear hxs hxl
        rcases HK.out with ⟨rfl, rfl, rfl⟩ | ⟨hk0, hcur⟩
        · rw [Nat.add_zero] at hck
          have e1 := app_size ⟨#[47]⟩ x
          have e1' : ((⟨#[47]⟩ : ByteArray) ++ x).size = 1 + x.size := e1
          have HT : Hid (Pa.joinG (((⟨#[47]⟩ : ByteArray) ++ x).data.toList) (ns.drop (0 + 1)) = Pa.joinG [] ns) := by
            have h1 := HAt.out
            rw [if_pos ⟨by rw [← HX.out]; exact hD, by rw [← HX.out]; show 0 + 1 + x.size ≤ 120; omega⟩] at h1
            show _ = _
            rw [app_data, HX.out]
            exact h1.symm.trans HS.out
          have hle : (((⟨#[47]⟩ : ByteArray) ++ x).size : Int) ≤ 120 := by rw [e1']; omega
          clear e1
          go_wp2_with (go_at_call 26; refine (rname_c _ _ (by unfold maxLen; omega)).mono ?_; rintro e w3 ⟨rfl, rfl⟩; rw [hD])
          go_round
          case rel => exact ⟨0 + 1, _, _, by omega, by go_num, rfl, by omega, .inr ⟨by omega, rfl⟩, HT⟩
          case measure => simp [intOf]; omega
        · have e1 := app_size (cur ++ ⟨#[47]⟩) x
          have e2 : (cur ++ (⟨#[47]⟩ : ByteArray)).size = cur.size + 1 := app_size cur ⟨#[47]⟩
          rw [e2] at e1
          have hgk : (0 : Int) < (k : Int) := by omega
          have hcl2 : cur.data.toList.length = cur.size := rfl
          by_cases hsum : cur.size + 1 + x.size ≤ 120
          · have HT : Hid (Pa.joinG ((cur ++ (⟨#[47]⟩ : ByteArray) ++ x).data.toList) (ns.drop (k + 1)) = Pa.joinG [] ns) := by
              have h1 := HAt.out
              rw [if_pos ⟨by rw [← HX.out]; exact hD, by rw [← HX.out, ← hcur]; exact hsum⟩] at h1
              show _ = _
              rw [app_data, app_data, HX.out, hcur, List.append_assoc]
              exact h1.symm.trans HS.out
            have hle : ((cur ++ (⟨#[47]⟩ : ByteArray) ++ x).size : Int) ≤ 120 := by rw [e1]; omega
            have E1 := hid' e1
            have HCu := hid' hcur
            clear e1 e2 hcur hcl2
            go_wp2_with (go_at_call 26; refine (rname_c _ _ (by unfold maxLen; omega)).mono ?_; rintro e w3 ⟨rfl, rfl⟩; rw [hD])
            go_round
            case rel => exact ⟨k + 1, _, _, by omega, by go_num, rfl, by omega, .inr ⟨by omega, rfl⟩, HT⟩
            case measure => simp [intOf]; omega
          · have HE : Hid (Pa.joinF ns = none) := by
              have h1 := HAt.out
              rw [if_neg (by rintro ⟨_, h2⟩; rw [← HX.out, ← hcur] at h2; exact hsum h2)] at h1
              show _ = _
              rw [HN.out, ← HS.out, h1]
            have hle : (120 : Int) < ((cur ++ (⟨#[47]⟩ : ByteArray) ++ x).size : Int) := by rw [e1]; omega
            clear e1 e2 hcur hcl2
            go_wp2_with (go_at_call 26; refine (rname_c _ _ (by unfold maxLen; omega)).mono ?_; rintro e w3 ⟨rfl, rfl⟩; rw [hD])
            go_ret2
            exact ⟨.inr ⟨HE.out, rfl⟩, Below.refl _ _⟩
      | false =>
        have HE : Hid (Pa.joinF ns = none) := by
          have h1 := HAt.out
          rw [if_neg (by rw [← HX.out, hD]; simp)] at h1
          show _ = _
          rw [HN.out, ← HS.out, h1]
        go_wp2_with (go_at_call 26; refine (rname_c _ _ hxs).mono ?_; rintro e w3 ⟨rfl, rfl⟩; rw [hD])
        go_ret2
        exact ⟨.inr ⟨HE.out, rfl⟩, Below.refl _ _⟩
    · have HE : Hid (Pa.joinF ns = some cur.data.toList) := by
        show _ = _
        rcases HK.out with ⟨rfl, rfl, rfl⟩ | ⟨hk0, hcur⟩
        · have : ns = [] := List.eq_nil_of_length_eq_zero (by omega)
          subst this; rfl
        · unfold Pa.joinF
          rw [if_neg (by intro e; rw [e] at hk; simp at hk; omega), ← HS.out, List.drop_of_length_le (by omega), hcur]; rfl
      go_wp2
      go_ret2
      exact ⟨.inl ⟨_, HE.out, by rw [strV_self]; rfl⟩, Below.refl _ _⟩
/-- What is read of a slice of texts that came in. -/
theorem isS_of {H : Type} {enc : TypeId × Value → H} {P : Program} {W : World} {t e : TypeId} {a : Option Addr} {len cap : Nat} {d : DataW H} {p : List MemPlace}
    (ht : P.underlying t = some (.slice e)) (he : P.underlying e = some .string) (hc : P.cellsOf e = 1)
    (h : DataW.Trod enc P W 0 (fun _ => true) true t (.slice a len cap) d p) : ∃ ss, ss.length = len ∧ IsS W (.slice a len cap) ss := by
  obtain ⟨fuel, hf⟩ := h
  rcases open_strings ht he hc hf with ⟨hcs, _⟩ | ⟨x, l, c, ss, hcs, _, hl, hm, hz, _, hcell, hws⟩
  · simp [Value.cells] at hcs
    obtain ⟨rfl, rfl, rfl⟩ := hcs
    exact ⟨[], rfl, none, 0, rfl, Nat.le_refl _, Nat.zero_le _, fun h => absurd h (by simp), by simp⟩
  · simp [Value.cells] at hcs
    obtain ⟨rfl, rfl, rfl⟩ := hcs
    have hz' : ss.length = cap := by simpa using hz
    have hlen : ((ss.take len).map fun s => s.data.toList).length = len := by rw [List.length_map, List.length_take]; omega
    refine ⟨(ss.take len).map fun s => s.data.toList, hlen, some x, cap, by rw [hlen], by omega, hm, fun hp => ?_, ?_⟩
    · obtain ⟨b, off, spot⟩ := x
      have hc0 := hcell 0 (by omega)
      have hspot : spot = none := by simpa [Addr.add] using World.cell?_spot hc0
      subst hspot
      refine ⟨b, off, rfl, fun i hi => ?_⟩
      have h1 := hcell i (by omega)
      have h2 : (⟨b, off, none⟩ : Addr).add i = ⟨b, off + i, none⟩ := by rcases i with _ | i <;> simp [Addr.add]
      rw [h2] at h1
      have hi' : i < ss.length := by omega
      rw [h1, List.getElem_map, List.getElem_take, strV_self]
      simp [List.getD, hi']
    · intro q hq
      obtain ⟨s, hs, rfl⟩ := List.mem_map.1 hq
      exact hws s (List.mem_of_mem_take hs)
end Go.Proofs.YtdbllggcomllgacDoor
