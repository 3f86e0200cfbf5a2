/-
  partsOf of the package journal.
-/
import Derived.Test.YtllohapbbmnipadJParts
namespace Go.Proofs.Ytllohapbbmnipad
open Go.RowKit Go.ChangeShapes Go.WideShapes Go.ChangeAt Go.Maps
set_option linter.unusedVariables false
set_option linter.unusedSimpArgs false
theorem info54 : ∃ i : TypeInfo, Try.prog.info? 23 = some i ∧ i.zero = some (.slice none 0 0) ∧ i.size = 1 ∧ i.bytes = 24 := by
  have h : (Try.prog.info? 23).map (fun i => (i.zero, i.size, i.bytes)) = some (some (.slice none 0 0), 1, 24) := by kernel_rfl
  cases hi : Try.prog.info? 23 with
  | none => rw [hi] at h; cases h
  | some i => rw [hi] at h; simp at h; exact ⟨i, rfl, h.1, h.2.1, h.2.2⟩
/-- What partsOf answers. -/
def PartsPost (cnt : Nat) (L : List Int) (w : World) (e : Ending) (w' : World) : Prop :=
  (∃ v ok, e = .returned (.tuple #[v, .bool ok]) ∧ ((∃ g, Jo.partsF cnt L = some g ∧ ok = true ∧ PG w.heap.size w' v g) ∨ (Jo.partsF cnt L = none ∧ ok = false))) ∧ Below w.heap.size w w'
/-- What is left to be done behind gs. -/
def Rest (cnt : Nat) (L : List Int) (k : Nat) (gs : Jo.Gr) (r : List Int) : Prop :=
  gs.length = k ∧ Jo.partsF cnt L = (match Jo.partsF (cnt - k) r with | none => none | some g => some (gs ++ g))
theorem Rest.step {cnt k : Nat} {L r : List Int} {gs : Jo.Gr} (h : Rest cnt L k gs r) (hk : k < cnt) (h4 : ¬ r.length < 4) (hx : ¬ (16384 < Fr.at4 r 0 ∨ ((r.length - 4 : Nat) : Int) < Fr.at4 r 0)) :
    Rest cnt L (k + 1) (gs ++ [(r.drop 4).take (Fr.at4 r 0).toNat]) ((r.drop 4).drop (Fr.at4 r 0).toNat) := by
  refine ⟨by simp [h.1], ?_⟩
  rw [h.2]
  obtain ⟨j, hj⟩ : ∃ j, cnt - k = j + 1 := ⟨cnt - k - 1, by omega⟩
  have e : cnt - (k + 1) = j := by omega
  rw [hj, e]
  conv => lhs; unfold Jo.partsF
  rw [if_neg h4, if_neg hx]
  cases Jo.partsF j ((r.drop 4).drop (Fr.at4 r 0).toNat) with
  | none => rfl
  | some g => simp
theorem Rest.stop {cnt k : Nat} {L r : List Int} {gs : Jo.Gr} (h : Rest cnt L k gs r) (hk : k < cnt) (hx : r.length < 4 ∨ 16384 < Fr.at4 r 0 ∨ ((r.length - 4 : Nat) : Int) < Fr.at4 r 0) : Jo.partsF cnt L = none := by
  rw [h.2]
  obtain ⟨j, hj⟩ : ∃ j, cnt - k = j + 1 := ⟨cnt - k - 1, by omega⟩
  rw [hj]
  have : Jo.partsF (j + 1) r = none := by
    unfold Jo.partsF
    by_cases h4 : r.length < 4
    · rw [if_pos h4]
    · rw [if_neg h4, if_pos (by omega)]
  rw [this]
theorem Rest.last {cnt : Nat} {L r : List Int} {gs : Jo.Gr} (h : Rest cnt L cnt gs r) : Jo.partsF cnt L = if r.length = 0 then some gs else none := by
  rw [h.2, Nat.sub_self]
  unfold Jo.partsF
  by_cases h0 : r.length = 0
  · rw [if_pos h0, if_pos h0]; simp
  · rw [if_neg h0, if_neg h0]
theorem own_base {w : World} {base base' : Nat} {e size n : Nat} {v : Value} {xs : List Value} (h : w.ownsRow base e size v n xs) (hb : base' ≤ base) : w.ownsRow base' e size v n xs := by
  refine ⟨h.1, ?_⟩
  rcases h.2 with h | ⟨g, cap, cur, e1, e2, e3⟩
  · exact .inl h
  · exact .inr ⟨g, cap, cur, e1, by omega, e3⟩
set_option maxRecDepth 20000 in
set_option maxHeartbeats 4000000 in
theorem partsOf_c (la : Option Addr) (len cnt : Nat) (L : List Int) (w : World) (h : IsB w la len L) (hln : la = none → len = 0) (hc : cnt < 256) (hlen : len ≤ 200000) :
    Calls Try.prog 66 #[.slice la len len, .int .i64 cnt] w (PartsPost cnt L w) := by
  have hby : Jo.Bytes L := fun x hx => by
    obtain ⟨i, hi, rfl⟩ := List.getElem_of_mem hx
    have := h.2.2.2 i
    simp [List.getD, hi] at this
    omega
  obtain ⟨i0, hi, hz0, hz1, hz2⟩ := info54
  have HB0 := hid hby
  have H0 := hid h
  clear h hby
  go_enter Try.func66, Try.ntmps66
  go_wp2
  go_loopw [0, 6, 9] (fun s v i wr => ∃ (k : Nat) (r : List Int) (a : Option Addr) (m : Nat) (gs : Jo.Gr), k ≤ cnt ∧ i = .int .i64 k ∧ s = .slice a m m ∧ IsB w a m r ∧ (a = none → m = 0) ∧ m ≤ 200000 ∧ Jo.Bytes r ∧ Rest cnt L k gs r ∧ PG w.heap.size wr v gs ∧ Below w.heap.size w wr) (fun _ _ i _ => cnt - (intOf i).toNat)
  case atStart => exact ⟨0, L, la, len, [], Nat.zero_le _, rfl, rfl, H0.out, hln, hlen, HB0.out, ⟨rfl, by cases Jo.partsF (cnt - 0) L <;> simp_all⟩, PG.nil _ _, Below.refl _ _⟩
  case round =>
    obtain ⟨k, r, a, m, gs, hk, rfl, rfl, hI, hnone, hm, hby, hR, hP, hB⟩ := hrel
    have hrl := hI.1
    have HR := hid hR
    have HP := hid hP
    have HB := hid hB
    have HI := hid hI
    have HY := hid hby
    obtain ⟨gv, gc, rfl⟩ : ∃ gv gc, u6 = .slice gv gs.length gc := by obtain ⟨vals, h1, _⟩ := hP; exact own_shape6 h1
    clear hR hP hB hI hby
    by_cases hlt : k < cnt
    · by_cases h4 : m < 4
      · have E := hid (HR.out.stop hlt (.inl (by rw [hrl]; exact h4)))
        have h4' : (m : Int) < 4 := by omega
        go_wp2
        go_ret2
        exact ⟨⟨_, _, rfl, .inr ⟨E.out, rfl⟩⟩, HB.out⟩
      · obtain ⟨b, off, rfl, _⟩ := HI.out.2.2.1 (by omega)
        have RN : Hid (Calls Try.prog 63 #[.slice (some ⟨b, off, none⟩) 4 4] wr fun e w' => e = .returned (.int .u32 (Fr.at4 r 0)) ∧ w' = wr) := by
          have := readNumber_c (some ⟨b, off, none⟩) 4 (r.take 4) wr ((HI.out.later HB.out).front 4 (by omega))
          have e : Fr.at4 (r.take 4) 0 = Fr.at4 r 0 := by unfold Fr.at4; simp [List.getD, List.getElem?_take]
          rw [e] at this; exact this
        have hx := Fr.num4_lt (r.getD 0 0) (r.getD 1 0) (r.getD 2 0) (r.getD 3 0) (HI.out.2.2.2 0) (HI.out.2.2.2 1) (HI.out.2.2.2 2) (HI.out.2.2.2 3)
        have hx' : 0 ≤ Fr.at4 r 0 ∧ Fr.at4 r 0 < 4294967296 := hx
        obtain ⟨x, hxe⟩ : ∃ x : Nat, Fr.at4 r 0 = x := ⟨(Fr.at4 r 0).toNat, by omega⟩
        clear hx
        have h4' : ¬ (m : Int) < 4 := by omega
        have h4c : (4 : Int) ≤ m := by omega
        by_cases hbad : 16384 < x ∨ m - 4 < x
        · have E := hid (HR.out.stop hlt (.inr (by rw [hxe, hrl]; omega)))
          rw [hxe] at RN hx'
          by_cases hb1 : 16384 < x
          · have hb1' : (16384 : Int) < x := by omega
            go_wp2_with (go_at_call 63; refine RN.out.mono ?_; rintro e w' ⟨rfl, rfl⟩)
            all_goals
              go_ret2
              exact ⟨⟨_, _, rfl, .inr ⟨E.out, rfl⟩⟩, HB.out⟩
          · have hb1' : ¬ (16384 : Int) < x := by omega
            have hb2' : ((m - 4 : Nat) : Int) < x := by omega
            go_wp2_with (go_at_call 63; refine RN.out.mono ?_; rintro e w' ⟨rfl, rfl⟩)
            all_goals
              go_ret2
              exact ⟨⟨_, _, rfl, .inr ⟨E.out, rfl⟩⟩, HB.out⟩
        · have HS := hid (HR.out.step hlt (by omega) (by rw [hxe, hrl]; omega))
          have hxt : (Fr.at4 r 0).toNat = x := by omega
          have HXT := hid hxt
          rw [hxt] at HS
          rw [hxe] at RN
          have HXE := hid hxe
          have hg4 : gs.length ≤ 256 := by rw [HR.out.1]; omega
          clear hxe hxt hx'
          have b1 : ¬ (16384 : Int) < x := by omega
          have b2 : ¬ ((m - 4 : Nat) : Int) < x := by omega
          have b3 : (x : Int) ≤ ((m - 4 : Nat) : Int) := by omega
          have b0 : (0 : Int) ≤ x := by omega
          by_cases hm4 : m = 4
          · subst hm4
            have hx0 : x = 0 := by omega
            subst hx0
            have CI0 : IsB wr (some ⟨b, off, none⟩) 0 ((r.drop 4).take 0) := by rw [List.take_zero]; exact ⟨rfl, by decide, fun h => absurd h (by omega), fun i => by simp⟩
            have NI : Hid (IsB w (some ⟨b, off, none⟩) 0 ((r.drop 4).drop 0)) := by
              have : r.drop 4 = [] := List.eq_nil_of_length_eq_zero (by simp; omega)
              rw [this]; exact ⟨rfl, by decide, fun h => absurd h (by omega), fun i => by simp⟩
            
            have CI := hid (CI0)
            go_wp2_with (first
              | (at_builtin; (refine wpList_append_own _ rfl _ _ 28 rfl w.heap.size 23 i0 (.slice none 0 0) 1 24 Try.underlying28 hi hz0 hz1 hz2 rfl (by decide) _ _ _ rfl (P1.alloc _) ⟨w5.heap.size, 0, none⟩ 1 1 [.slice ua ul uc] rfl rfl (cell_one_new _ _ _) (fun y hy => by simp at hy; subst hy; rfl) (by unfold maxLen; omega) (by omega) (by simp; omega) ?_; intro v9 w9 hown9 hgrow9 hnil9))
              | (go_at_call 81; refine (clone8_c (some ⟨b, off, none⟩) 0 _ _ _ CI.out (fun e => by cases e) (by omega)).mono ?_; rintro e w5 ⟨u, rfl, hu5, hb5⟩; obtain ⟨ul, hul⟩ : ∃ ul, ul = ((r.drop 4).take 0).length := ⟨_, rfl⟩; rw [← hul] at hu5; (have HUL := hid hul); clear hul; obtain ⟨ua, uc, rfl⟩ := own_shape6 hu5; obtain ⟨vals, P1, P2⟩ := HP.out.later hb5; (have HZ5 : w.heap.size ≤ w5.heap.size := Nat.le_trans HB.out.size hb5.size))
              | (go_at_call 63; refine RN.out.mono ?_; rintro e w' ⟨rfl, rfl⟩))
            have hul := HUL.out
            clear HUL
            subst hul
            have hu6 := own_base hu5 HB.out.size
            have P9 := PG.snoc (w := w5.alloc (.cells #[.slice ua _ uc] 23)) (P1.alloc _) (fun i hi => by obtain ⟨u, e1, e2, e3⟩ := P2 i hi; exact ⟨u, e1, e2.alloc _, e3⟩) (hu6.alloc _) (Jo.bytes_take (Jo.bytes_drop HY.out 4) _) hgrow9 hown9
            have B9 : Below w.heap.size w w9 := below_grown ((HB.out.trans (hb5.mono HB.out.size)).alloc HZ5 _) (P1.alloc _) (Nat.le_refl _) (by simp; omega) hgrow9
            obtain ⟨a9, c9, rfl⟩ := own_shape6 hown9
            go_roundw
            case rel => exact ⟨k + 1, (r.drop 4).drop 0, some ⟨b, off, none⟩, _, _, by omega, by go_num, rfl, NI.out, (fun e => by cases e), by omega, Jo.bytes_drop (Jo.bytes_drop HY.out _) _, HS.out, P9, B9⟩
            case measure => simp [intOf]; omega
          · have CI0 : IsB wr (some ⟨b, off + 4, none⟩) x ((r.drop 4).take x) := by
              have h1 := isB_sub (HI.out.later HB.out) 4 (m - 4) (by omega)
              rw [List.take_of_length_le (by simp; omega)] at h1
              exact h1.front x (by omega)
            by_cases hxm : x = m - 4
            · have NI : Hid (IsB w (some ⟨b, off + 4, none⟩) 0 ((r.drop 4).drop x)) := by
                have : (r.drop 4).drop x = [] := List.eq_nil_of_length_eq_zero (by simp; omega)
                rw [this]; exact ⟨rfl, by decide, fun h => absurd h (by omega), fun i => by simp⟩
              have c1 : (m - 4 : Nat) = x := hxm.symm
              have HXM := hid hxm
              clear hxm
              have c2 : ¬ m = 4 := hm4
              have c3 : m - 4 - x = 0 := by omega
              
              have CI := hid (CI0)
              go_wp2_with (first
                | (at_builtin; (refine wpList_append_own _ rfl _ _ 28 rfl w.heap.size 23 i0 (.slice none 0 0) 1 24 Try.underlying28 hi hz0 hz1 hz2 rfl (by decide) _ _ _ rfl (P1.alloc _) ⟨w5.heap.size, 0, none⟩ 1 1 [.slice ua ul uc] rfl rfl (cell_one_new _ _ _) (fun y hy => by simp at hy; subst hy; rfl) (by unfold maxLen; omega) (by omega) (by simp; omega) ?_; intro v9 w9 hown9 hgrow9 hnil9))
                | (go_at_call 81; refine (clone8_c (some ⟨b, off + 4, none⟩) x _ _ _ CI.out (fun e => by cases e) (by omega)).mono ?_; rintro e w5 ⟨u, rfl, hu5, hb5⟩; obtain ⟨ul, hul⟩ : ∃ ul, ul = ((r.drop 4).take x).length := ⟨_, rfl⟩; rw [← hul] at hu5; (have HUL := hid hul); clear hul; obtain ⟨ua, uc, rfl⟩ := own_shape6 hu5; obtain ⟨vals, P1, P2⟩ := HP.out.later hb5; (have HZ5 : w.heap.size ≤ w5.heap.size := Nat.le_trans HB.out.size hb5.size))
                | (go_at_call 63; refine RN.out.mono ?_; rintro e w' ⟨rfl, rfl⟩))
              have hul := HUL.out
              clear HUL
              subst hul
              have hu6 := own_base hu5 HB.out.size
              have P9 := PG.snoc (w := w5.alloc (.cells #[.slice ua _ uc] 23)) (P1.alloc _) (fun i hi => by obtain ⟨u, e1, e2, e3⟩ := P2 i hi; exact ⟨u, e1, e2.alloc _, e3⟩) (hu6.alloc _) (Jo.bytes_take (Jo.bytes_drop HY.out 4) _) hgrow9 hown9
              have B9 : Below w.heap.size w w9 := below_grown ((HB.out.trans (hb5.mono HB.out.size)).alloc HZ5 _) (P1.alloc _) (Nat.le_refl _) (by simp; omega) hgrow9
              obtain ⟨a9, c9, rfl⟩ := own_shape6 hown9
              go_roundw
              case rel => exact ⟨k + 1, (r.drop 4).drop x, some ⟨b, off + 4, none⟩, _, _, by omega, by go_num, rfl, NI.out, (fun e => by cases e), by omega, Jo.bytes_drop (Jo.bytes_drop HY.out _) _, HS.out, P9, B9⟩
              case measure => simp [intOf]; omega
            · have NI : Hid (IsB w (some ⟨b, off + 4 + x, none⟩) (m - 4 - x) ((r.drop 4).drop x)) := by
                have h1 := isB_sub HI.out (4 + x) (m - 4 - x) (by omega)
                rw [List.take_of_length_le (by simp; omega), ← List.drop_drop] at h1
                rw [show off + 4 + x = off + (4 + x) by omega]
                exact h1
              have c2 : ¬ m = 4 := hm4
              have c1 : ¬ (m - 4 : Nat) = x := fun e => hxm e.symm
              
              have CI := hid (CI0)
              go_wp2_with (first
                | (at_builtin; (refine wpList_append_own _ rfl _ _ 28 rfl w.heap.size 23 i0 (.slice none 0 0) 1 24 Try.underlying28 hi hz0 hz1 hz2 rfl (by decide) _ _ _ rfl (P1.alloc _) ⟨w5.heap.size, 0, none⟩ 1 1 [.slice ua ul uc] rfl rfl (cell_one_new _ _ _) (fun y hy => by simp at hy; subst hy; rfl) (by unfold maxLen; omega) (by omega) (by simp; omega) ?_; intro v9 w9 hown9 hgrow9 hnil9))
                | (go_at_call 81; refine (clone8_c (some ⟨b, off + 4, none⟩) x _ _ _ CI.out (fun e => by cases e) (by omega)).mono ?_; rintro e w5 ⟨u, rfl, hu5, hb5⟩; obtain ⟨ul, hul⟩ : ∃ ul, ul = ((r.drop 4).take x).length := ⟨_, rfl⟩; rw [← hul] at hu5; (have HUL := hid hul); clear hul; obtain ⟨ua, uc, rfl⟩ := own_shape6 hu5; obtain ⟨vals, P1, P2⟩ := HP.out.later hb5; (have HZ5 : w.heap.size ≤ w5.heap.size := Nat.le_trans HB.out.size hb5.size))
                | (go_at_call 63; refine RN.out.mono ?_; rintro e w' ⟨rfl, rfl⟩))
              have hul := HUL.out
              clear HUL
              subst hul
              have hu6 := own_base hu5 HB.out.size
              have P9 := PG.snoc (w := w5.alloc (.cells #[.slice ua _ uc] 23)) (P1.alloc _) (fun i hi => by obtain ⟨u, e1, e2, e3⟩ := P2 i hi; exact ⟨u, e1, e2.alloc _, e3⟩) (hu6.alloc _) (Jo.bytes_take (Jo.bytes_drop HY.out 4) _) hgrow9 hown9
              have B9 : Below w.heap.size w w9 := below_grown ((HB.out.trans (hb5.mono HB.out.size)).alloc HZ5 _) (P1.alloc _) (Nat.le_refl _) (by simp; omega) hgrow9
              obtain ⟨a9, c9, rfl⟩ := own_shape6 hown9
              go_roundw
              case rel => exact ⟨k + 1, (r.drop 4).drop x, some ⟨b, off + 4 + x, none⟩, _, _, by omega, by go_num, rfl, NI.out, (fun e => by cases e), by omega, Jo.bytes_drop (Jo.bytes_drop HY.out _) _, HS.out, P9, B9⟩
              case measure => simp [intOf]; omega
    · have ek : k = cnt := by omega
      subst ek
      have E := HR.out.last
      rw [hrl] at E
      obtain ⟨ga, gc', e1, hG⟩ := HP.out.isG0 (by rw [HR.out.1]; omega)
      have EG := hid e1
      clear e1
      by_cases h0 : m = 0
      · rw [if_pos h0] at E
        have E' := hid E
        have h0' : ((m : Int) == 0) = true := by simp; omega
        clear E
        go_wp2
        go_ret2
        exact ⟨⟨_, _, rfl, .inl ⟨gs, E'.out, by simp [h0], HP.out⟩⟩, HB.out⟩
      · rw [if_neg h0] at E
        have E' := hid E
        have h0' : ((m : Int) == 0) = false := by simp; omega
        clear E
        go_wp2
        go_ret2
        exact ⟨⟨_, _, rfl, .inr ⟨E'.out, by simp [h0]⟩⟩, HB.out⟩
end Go.Proofs.Ytllohapbbmnipad
