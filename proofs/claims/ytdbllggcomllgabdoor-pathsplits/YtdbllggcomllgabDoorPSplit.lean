/-
  What Split of the package path returns.
-/
import Derived.Test.YtdbllggcomllgabDoorPCalls
namespace Go.Proofs.YtdbllggcomllgabDoor
open Go.RowKit Go.ChangeShapes Go.WideShapes Go.ChangeAt
set_option linter.unusedVariables false
set_option linter.unusedSimpArgs false
theorem ownsRow_front {w : World} {base : Nat} {e : TypeId} {a : Option Addr} {n cap m : Nat} {xs : List Value} (h : w.ownsRow base e 1 (.slice a n cap) n xs) (hm : m ≤ n) : w.ownsRow base e 1 (.slice a m cap) m (xs.take m) := by
  obtain ⟨h1, h2⟩ := h
  refine ⟨by rw [List.length_take]; omega, ?_⟩
  rcases h2 with ⟨hv, hn⟩ | ⟨g, cap', cur, hv, b, c, d, e1, f, g1⟩
  · cases hv
    obtain rfl : m = 0 := by omega
    exact .inl ⟨rfl, rfl⟩
  · cases hv
    refine .inr ⟨g, cap, cur, rfl, b, c, by omega, e1, f, ?_⟩
    rw [← g1, List.take_take, Nat.mul_one, Nat.mul_one, Nat.min_eq_left hm]
theorem ownsRow_later {w w' : World} {base : Nat} {e : TypeId} {size : Nat} {v : Value} {n : Nat} {xs : List Value} (h : w.ownsRow base e size v n xs) (hb : Below w.heap.size w w') : w'.ownsRow base e size v n xs := by
  obtain ⟨h1, h2⟩ := h
  refine ⟨h1, ?_⟩
  rcases h2 with h2 | ⟨g, cap, cur, a, b, c, d⟩
  · exact .inl h2
  · exact .inr ⟨g, cap, cur, a, b, by rw [hb.block g (lt_of_block' c)]; exact c, d⟩
/-- What Split answers. -/
def SplitPost (l : List UInt8) (w : World) (e : Ending) (w' : World) : Prop :=
  ((∃ ns v, Pa.splitF l = some ns ∧ e = .returned (.tuple #[v, .int .i64 0]) ∧ w'.ownsRow w.heap.size 9 1 v ns.length (ns.map strV)) ∨ (Pa.splitF l = none ∧ e = .returned (.tuple #[.slice none 0 0, .int .i64 3]))) ∧ Below w.heap.size w w'
set_option maxHeartbeats 400000 in
theorem split_long (s : ByteArray) (w : World) (hs : s.size ≤ maxLen) (h : 120 < s.size) :
    Calls Tryd.prog 4 #[.string s] w (SplitPost s.data.toList w) := by
  unfold maxLen at hs
  have N : Hid (Pa.splitF s.data.toList = none) := by
    have hl : s.data.toList.length = s.size := rfl
    show _ = _
    unfold Pa.splitF; rw [if_neg (by omega)]
  have h' : (120 : Int) < (s.size : Int) := by omega
  go_enter Tryd.func4, Tryd.ntmps4
  go_wp2
  go_ret2
  exact ⟨.inr ⟨N.out, rfl⟩, Below.refl _ _⟩
set_option maxHeartbeats 400000 in
theorem split_noslash (s : ByteArray) (w : World) (h : s.size ≤ 120) (hl : ∀ l, s.data.toList ≠ 47 :: l) :
    Calls Tryd.prog 4 #[.string s] w (SplitPost s.data.toList w) := by
  have N : Hid (Pa.splitF s.data.toList = none) := by
    show _ = _
    unfold Pa.splitF; rw [if_neg]
    rintro ⟨_, h2⟩
    cases h3 : s.data.toList with
    | nil => rw [h3] at h2; simp at h2
    | cons c r => rw [h3] at h2; simp at h2; subst h2; exact hl r h3
  have HL := hid' hl
  clear hl
  go_enter Tryd.func4, Tryd.ntmps4
  go_wp2_with (go_at_call 10; refine (slash_no _ _ (by omega) HL.out).mono ?_; rintro e w' ⟨rfl, rfl⟩)
  go_ret2
  exact ⟨.inr ⟨N.out, rfl⟩, Below.refl _ _⟩
set_option maxRecDepth 100000 in
set_option maxHeartbeats 2000000 in
theorem split_slash (s : ByteArray) (w : World) (h : s.size ≤ 120) (l : List UInt8) (hl : s.data.toList = 47 :: l) :
    Calls Tryd.prog 4 #[.string s] w (SplitPost s.data.toList w) := by
  obtain ⟨i0, hi, hz0, hz1, hz2⟩ := info_parts info_str
  have hsz : s.data.toList.length = s.size := rfl
  have N : Hid (Pa.splitF s.data.toList = Pa.splitN [] (Pa.piecesF s.data.toList)) := by
    show _ = _
    unfold Pa.splitF; rw [if_pos ⟨by omega, by rw [hl]; rfl⟩]
  have hPl := Pa.pieces_length s.data.toList
  have HM : Hid (∀ p ∈ Pa.piecesF s.data.toList, p.length ≤ 120) := fun p hp => by
    have := Pa.pieces_mem s.data.toList p hp
    omega
  have hP0 : 0 < (Pa.piecesF s.data.toList).length := by
    rw [hl]; unfold Pa.piecesF; simp
  have HL := hid' hl
  rw [hsz] at hPl
  clear hl hsz
  go_enter Tryd.func4, Tryd.ntmps4
  go_wp2_with (first
    | (go_at_call 10; refine (slash_yes _ _ (by omega) _ HL.out).mono ?_; rintro e w2 ⟨rfl, rfl⟩)
    | (go_at_call 11; refine (pieces_c _ _ (by omega)).mono ?_; rintro e w1 ⟨v, rfl, hown0, hb0⟩; obtain ⟨g, cap, cur, rfl, -⟩ : ∃ g cap cur, v = .slice (some ⟨g, 0, none⟩) (Pa.piecesF s.data.toList).length cap ∧ cur = cap := (by rcases hown0.2 with ⟨_, h0⟩ | ⟨g, cap, cur, hv, _⟩; omega; exact ⟨g, cap, cap, hv, rfl⟩)))
  have HC : Hid (∀ (j : Nat) (u : Value), ((Pa.piecesF s.data.toList).map strV)[j]? = some u → w1.cell? ((⟨g, 0, none⟩ : Addr).add j) = some u) := hown0.cells rfl
  generalize Pa.piecesF s.data.toList = P at *
  clear hown0
  go_loopw [4, 6, 18] (fun v p i wr => ∃ (k : Nat) (acc : List (List UInt8)), k ≤ P.length ∧ i = .int .i64 k ∧ acc.length ≤ k ∧ wr.ownsRow w1.heap.size 9 1 v acc.length (acc.map strV) ∧ Below w1.heap.size w1 wr ∧ Hid (Pa.splitN acc (P.drop k) = Pa.splitN [] P)) (fun _ _ i _ => ((P.length : Int) - intOf i).toNat)
  case atStart => exact ⟨0, [], by omega, rfl, by simp, World.ownsRow_nil _ _ _ _, Below.refl _ _, rfl⟩
  case round =>
    obtain ⟨k, acc, hk, rfl, hak, hown, hbw, HS⟩ := hrel
    have hbz := hbw.size
    by_cases hlt : k < P.length
    · have HAt : Hid _ := Pa.splitN_at acc P k hlt
      obtain ⟨x, hx⟩ : ∃ x : ByteArray, x.data.toList = P[k] := ⟨⟨P[k].toArray⟩, rfl⟩
      have hcell : wr.cell? ⟨g, k, none⟩ = some (.string x) := by
        have h1 := HC.out k (.string x) (by rw [List.getElem?_map, List.getElem?_eq_getElem hlt, ← hx]; rfl)
        have h2 : (⟨g, 0, none⟩ : Addr).add k = ⟨g, k, none⟩ := by rcases k with _ | k <;> simp [Addr.add]
        rw [h2] at h1
        exact cell_later hbw h1
      have hxl : x.toList = P[k] := by rw [Lib.toList_data, hx]
      have HX := hid' hx
      have hx120 : x.size ≤ 120 := by
        have h1 := HM.out P[k] (List.getElem_mem hlt)
        rw [← hx] at h1; exact h1
      clear hx
      cases hA : decide (P[k] = []) with
      | true =>
        have e0 : P[k] = [] := of_decide_eq_true hA
        have b0 : x.toList.isEmpty = true := by rw [hxl, e0]; rfl
        have HT : Hid (Pa.splitN acc (P.drop (k + 1)) = Pa.splitN [] P) := by
          have h1 := HAt.out
          rw [e0, Pa.step_empty] at h1
          exact h1.symm.trans HS.out
        clear hA e0 hxl
        go_wp2
        go_roundw
        case rel => exact ⟨k + 1, acc, by omega, by go_num, by omega, hown, hbw, HT⟩
        case measure => simp [intOf]; omega
      | false =>
        have e0 : P[k] ≠ [] := of_decide_eq_false hA
        have b0 : x.toList.isEmpty = false := by rw [hxl]; cases h : P[k] with | nil => exact absurd h e0 | cons c r => rfl
        cases hB : decide (P[k] = [46]) with
        | true =>
          have e1 : P[k] = [46] := of_decide_eq_true hB
          have b1 : (x.toList == [46]) = true := by rw [hxl, e1]; rfl
          have HT : Hid (Pa.splitN acc (P.drop (k + 1)) = Pa.splitN [] P) := by
            have h1 := HAt.out
            rw [e1, Pa.step_dot] at h1
            exact h1.symm.trans HS.out
          clear hA hB e0 e1 hxl
          go_wp2
          go_roundw
          case rel => exact ⟨k + 1, acc, by omega, by go_num, by omega, hown, hbw, HT⟩
          case measure => simp [intOf]; omega
        | false =>
          have e1 : P[k] ≠ [46] := of_decide_eq_false hB
          have b1 : (x.toList == [46]) = false := by rw [hxl]; exact beq_eq_false_iff_ne.2 e1
          cases hC : decide (P[k] = [46, 46]) with
          | true =>
            have e2 : P[k] = [46, 46] := of_decide_eq_true hC
            have b2 : (x.toList == [46, 46]) = true := by rw [hxl, e2]; rfl
            have HT : Hid (Pa.splitN acc.dropLast (P.drop (k + 1)) = Pa.splitN [] P) := by
              have h1 := HAt.out
              rw [e2, Pa.step_dots] at h1
              exact h1.symm.trans HS.out
            clear hA hB hC e0 e1 e2 hxl
            rcases hown.2 with ⟨rfl, hn0⟩ | ⟨g2, cap2, cur2, rfl, hg2, hh2, hn2, hc2, hs2, ht2⟩
            · have h9 : acc = [] := List.eq_nil_of_length_eq_zero hn0
              subst h9
              clear hn0
              go_wp2
              go_roundw
              case rel => exact ⟨k + 1, [], by omega, by go_num, by simp, hown, hbw, HT⟩
              case measure => simp [intOf]; omega
            · have HO := hid' (ownsRow_front hown (m := acc.length - 1) (by omega))
              unfold maxLen at hc2
              clear hh2 hs2 ht2
              go_wp2
              go_roundw
              case rel =>
                refine ⟨k + 1, acc.dropLast, by omega, by go_num, by rw [List.length_dropLast]; omega, ?_, hbw, HT⟩
                rw [List.length_dropLast, show (if (acc.length : Int) - 1 < 0 then (0 : Int) else (acc.length : Int) - 1).toNat = acc.length - 1 from by split <;> omega]
                have h9 : (acc.map strV).take (acc.length - 1) = acc.dropLast.map strV := by rw [List.dropLast_eq_take, List.map_take]
                rw [← h9]
                exact HO.out
              case measure => simp [intOf]; omega
          | false =>
            have e2 : P[k] ≠ [46, 46] := of_decide_eq_false hC
            have b2 : (x.toList == [46, 46]) = false := by rw [hxl]; exact beq_eq_false_iff_ne.2 e2
            cases hD : Pa.nameB x.data.toList with
            | true =>
              have hn := Pa.name_len _ hD
              have hxs : x.data.toList.length = x.size := rfl
              rw [hxs] at hn
              have HT : Hid (Pa.splitN (acc ++ [P[k]]) (P.drop (k + 1)) = Pa.splitN [] P) := by
                have h1 := HAt.out
                rw [Pa.step_name acc P[k] (by rw [← HX.out]; exact hD)] at h1
                exact h1.symm.trans HS.out
              clear hA hB hC e0 e1 e2 hxl hxs
              go_wp2_with (first
                | (go_at_call 8; refine (name_c _ _ (by unfold maxLen; omega)).mono ?_; rintro e w3 ⟨rfl, hb3⟩; rw [hD])
                | (go_at_call 12; refine (sclone_c _ _ (by omega) (by omega)).mono ?_; rintro e w4 ⟨rfl, hb4⟩; (have hown4 := ownsRow_later (ownsRow_later hown hb3) hb4); (have hz4 := Nat.le_trans hb3.size hb4.size); clear hown)
                | (at_builtin; refine wpList_append_own _ rfl _ _ 22 rfl w1.heap.size 9 i0 (.string ByteArray.empty) 1 16 Tryd.underlying22 hi hz0 hz1 hz2 rfl (by decide) _ _ _ rfl (hown4.alloc _) ⟨w4.heap.size, 0, none⟩ 1 1 [.string x] rfl rfl (cell_one_new _ _ _) (fun y hy => by simp at hy; subst hy; rfl) (by unfold maxLen; omega) (by omega) (by simp; omega) ?_; intro v' w5 hown' hgrow5 hnil5))
              have hbw5 : Below w1.heap.size w1 w5 := Below.grown ((hbw.trans ((hb3.mono (by omega)).trans (hb4.mono (by have := hb3.size; omega)))).alloc (by omega) _) hgrow5 (by simp; omega) (fun k hk => (hown4.lt _ hk).1)
              go_roundw
              case rel =>
                refine ⟨k + 1, acc ++ [P[k]], by omega, by go_num, by simp; omega, ?_, hbw5, HT⟩
                have h9 : Value.string x = strV P[k] := by rw [← HX.out]; rfl
                rw [h9] at hown'
                simpa using hown'
              case measure => simp [intOf]; omega
            | false =>
              have HN : Hid (Pa.splitF s.data.toList = none) := by
                have h1 := HAt.out
                rw [Pa.step_bad acc P[k] e0 e1 e2 (by rw [← HX.out]; exact hD)] at h1
                show _ = _
                rw [N.out, ← HS.out, h1]; rfl
              clear hA hB hC e0 e1 e2 hxl
              go_wp2_with (go_at_call 8; refine (name_c _ _ (by unfold maxLen; omega)).mono ?_; rintro e w3 ⟨rfl, hb3⟩; rw [hD])
              go_ret2
              exact ⟨.inr ⟨HN.out, rfl⟩, hb0.trans ((hbw.mono hb0.size).trans (hb3.mono (by have := hb0.size; omega)))⟩
    · have e3 : k = P.length := by omega
      have HN : Hid (Pa.splitF s.data.toList = some acc) := by
        show _ = _
        rw [N.out, ← HS.out, e3, List.drop_length]; rfl
      clear e3
      go_wp2
      go_ret2
      exact ⟨.inl ⟨acc, _, HN.out, rfl, World.ownsRow_mono hown hb0.size⟩, hb0.trans (hbw.mono hb0.size)⟩
theorem split_c (s : ByteArray) (w : World) (hs : s.size ≤ maxLen) : Calls Tryd.prog 4 #[.string s] w (SplitPost s.data.toList w) := by
  by_cases h : s.size ≤ 120
  · cases hl : s.data.toList with
    | nil =>
      have := split_noslash s w h (fun l e => by rw [hl] at e; cases e)
      rw [hl] at this; exact this
    | cons c r =>
      by_cases hc : c = 47
      · subst hc
        have := split_slash s w h r hl
        rw [hl] at this; exact this
      · have := split_noslash s w h (fun l e => by rw [hl] at e; cases e; exact hc rfl)
        rw [hl] at this; exact this
  · exact split_long s w hs (by omega)
end Go.Proofs.YtdbllggcomllgabDoor
