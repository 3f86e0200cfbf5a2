/-
  What Split and Same of the document's answer for paths return.
-/
import Derived.Test.YtdbllggcomllgabDoorPRefs
import Derived.Test.YtdbllggcomllgabDoorShelf
import Derived.Lib.SplitLaws
import Derived.Lib.IndexLaws
namespace Go.Proofs.YtdbllggcomllgabDoor
open Go.RowKit Go.ChangeShapes Go.WideShapes Go.ChangeAt
set_option linter.unusedVariables false
set_option linter.unusedSimpArgs false
/-- The library's cut at each slash is ours. -/
theorem splitK_pieces : ∀ (n : Nat) (s : List UInt8), s.length ≤ n → Lib.splitK [47] 0 (Lib.count s [47]) s = Pa.piecesF s := by
  intro n
  induction n with
  | zero =>
    intro s hs
    have : s = [] := List.eq_nil_of_length_eq_zero (by omega)
    subst this
    decide +kernel
  | succ n ih =>
    intro s hs
    have hone := Lib.index_one s 47
    by_cases h : Lib.indexByte s 47 = -1
    · have h47 : 47 ∉ s := fun hm => by
        obtain ⟨k, hk, e⟩ := List.getElem_of_mem hm
        exact Lib.indexByte_none h k (by rw [List.getElem?_eq_getElem hk, e])
      rw [Lib.count_miss (by rw [hone]; exact h), Pa.pieces_none s h47]; rfl
    · have hge := Lib.indexByte_ge s 47
      obtain ⟨i, hi⟩ := Int.eq_ofNat_of_zero_le (show 0 ≤ Lib.indexByte s 47 by omega)
      obtain ⟨h1, h2⟩ := Lib.indexByte_some hi
      have hix : Lib.index s [47] = (i : Int) := by rw [hone]; exact hi
      have hil : i < s.length := by
        rcases Nat.lt_or_ge i s.length with h3 | h3
        · exact h3
        · rw [List.getElem?_eq_none h3] at h1; cases h1
      have hsi : s[i] = 47 := by rw [List.getElem?_eq_getElem hil] at h1; exact Option.some.inj h1
      have h47 : 47 ∉ s.take i := fun hm => by
        obtain ⟨k, hk, e⟩ := List.getElem_of_mem hm
        rw [List.length_take] at hk
        rw [List.getElem_take] at e
        exact h2 k (by omega) (by rw [List.getElem?_eq_getElem (by omega), e])
      have es : s = s.take i ++ 47 :: s.drop (i + 1) := by
        have e1 := (List.take_append_drop i s).symm
        rw [List.drop_eq_getElem_cons hil, hsi] at e1
        exact e1
      rw [Lib.count_hit (by simp) hix, Nat.add_comm 1]
      unfold Lib.splitK
      rw [if_neg (by rw [hix]; simp), hix]
      have e2 : Pa.piecesF s = s.take i :: Pa.piecesF (s.drop (i + 1)) := by
        conv => lhs; rw [es]
        exact Pa.pieces_cut _ _ h47
      rw [e2]
      simp only [Int.toNat_natCast, Nat.add_zero, List.length_singleton]
      rw [ih (s.drop (i + 1)) (by rw [List.length_drop]; omega)]
theorem lib_split (s : ByteArray) : (Lib.splitB ⟨#[47]⟩ 0 (Lib.countB s ⟨#[47]⟩) s).map (fun x => x.data.toList) = Pa.piecesF s.data.toList := by
  rw [Lib.splitB_data]
  exact splitK_pieces _ _ (Nat.le_refl _)
set_option maxHeartbeats 400000 in
theorem rsplit_long (s : ByteArray) (w : World) (hs : s.size ≤ maxLen) (h : 120 < s.size) :
    Calls Tryd.prog 5 #[.string s] w (SplitPost s.data.toList w) := by
  unfold maxLen at hs
  have N : Hid (Pa.splitF s.data.toList = none) := by
    have hl : s.data.toList.length = s.size := rfl
    show _ = _
    unfold Pa.splitF; rw [if_neg (by omega)]
  have h' : (120 : Int) < (s.size : Int) := by omega
  go_enter Tryd.func5, Tryd.ntmps5
  go_wp2
  go_ret2
  exact ⟨.inr ⟨N.out, rfl⟩, Below.refl _ _⟩
set_option maxHeartbeats 400000 in
theorem rsplit_empty (s : ByteArray) (w : World) (h : s.size < 1) :
    Calls Tryd.prog 5 #[.string s] w (SplitPost s.data.toList w) := by
  have N : Hid (Pa.splitF s.data.toList = none) := by
    have hl : s.data.toList = [] := List.eq_nil_of_length_eq_zero (show s.size = 0 by omega)
    show _ = _
    rw [hl]; decide +kernel
  go_enter Tryd.func5, Tryd.ntmps5
  go_wp2
  go_ret2
  exact ⟨.inr ⟨N.out, rfl⟩, Below.refl _ _⟩
set_option maxHeartbeats 400000 in
theorem rsplit_noslash (s : ByteArray) (w : World) (h0 : 0 < s.size) (h : s.size ≤ 120) (c : UInt8) (r : List UInt8) (hl : s.data.toList = c :: r) (hc : c ≠ 47) :
    Calls Tryd.prog 5 #[.string s] w (SplitPost s.data.toList w) := by
  have N : Hid (Pa.splitF s.data.toList = none) := by
    show _ = _
    unfold Pa.splitF; rw [if_neg]
    rintro ⟨_, h2⟩
    rw [hl] at h2; simp at h2; exact hc h2
  have e0 : s[0]'h0 = c := by
    have : s.data.toList[0]'h0 = c := by simp [hl]
    exact this
  have hb : (((s[0]'h0).toNat : Int) != 47) = true := by
    rw [bne_iff_ne, e0]
    intro e
    apply hc
    apply UInt8.toNat_inj.1
    have : (47 : UInt8).toNat = 47 := rfl
    omega
  clear hl e0
  go_enter Tryd.func5, Tryd.ntmps5
  go_wp2
  go_ret2
  exact ⟨.inr ⟨N.out, rfl⟩, Below.refl _ _⟩
set_option maxRecDepth 100000 in
set_option maxHeartbeats 2000000 in
theorem rsplit_slash (s : ByteArray) (w : World) (m : Int) (hmx : w.cell? ⟨0, 0, none⟩ = some (.int .i64 m)) (h : s.size ≤ 120) (l : List UInt8) (hl : s.data.toList = 47 :: l) :
    Calls Tryd.prog 5 #[.string s] w (SplitPost s.data.toList w) := by
  obtain ⟨i0, hi, hz0, hz1, hz2⟩ := info_parts info_str
  have hsz : s.data.toList.length = s.size := rfl
  have h0 : 0 < s.size := by rw [hl] at hsz; simp at hsz; omega
  have N : Hid (Pa.splitF s.data.toList = Pa.splitN [] (Pa.piecesF l)) := by
    show _ = _
    unfold Pa.splitF; rw [if_pos ⟨by omega, by rw [hl]; rfl⟩, hl]
    have e : Pa.piecesF (47 :: l) = [] :: Pa.piecesF l := by simp [Pa.piecesF]
    rw [e]; rfl
  have hll : l.length + 1 = s.size := by rw [hl] at hsz; simpa using hsz
  have hPl := Pa.pieces_length l
  have HM : Hid (∀ p ∈ Pa.piecesF l, p.length ≤ 120) := fun p hp => by
    have := Pa.pieces_mem l p hp
    omega
  have e0 : s[0]'h0 = 47 := by
    have : s.data.toList[0]'h0 = 47 := by simp [hl]
    exact this
  have hb : (((s[0]'h0).toNat : Int) != 47) = false := by rw [e0]; rfl
  have hex : (s.extract 1 s.size).data.toList = l := by rw [Lib.extract_to_end, hl]; rfl
  have hxs : (s.extract 1 s.size).size < 4294967281 := by
    have h9 : (s.extract 1 s.size).data.toList.length = (s.extract 1 s.size).size := rfl
    rw [hex] at h9
    omega
  have HSp := hid' (Tryd.strings_Split (s.extract 1 s.size) ⟨#[47]⟩ m w hxs hmx (by decide))
  have hlib := lib_split (s.extract 1 s.size)
  rw [hex] at hlib
  have hall := Lib.splitB_all ⟨#[47]⟩ (by decide) 0 _ (s.extract 1 s.size) rfl
  generalize Lib.splitB ⟨#[47]⟩ 0 (Lib.countB (s.extract 1 s.size) ⟨#[47]⟩) (s.extract 1 s.size) = C at *
  generalize Lib.countB (s.extract 1 s.size) ⟨#[47]⟩ = cn at *
  have hCP : C.length = (Pa.piecesF l).length := by rw [← hlib, List.length_map]
  rw [← hall, hCP] at HSp
  have HC0 : Hid (∀ k (hk : k < (Pa.piecesF l).length), (w.alloc (.cells (C.map Value.string).toArray 9)).cell? ⟨w.heap.size, k, none⟩ = some (strV (Pa.piecesF l)[k])) := fun k hk => by
    rw [World.cell?_alloc_mark]
    have e9 : (Pa.piecesF l)[k] = (C[k]'(by omega)).data.toList := by simp [← hlib]
    rw [e9, strV_self]
    simp
  have HL := hid' hl
  clear hlib hall hCP e0 hex hxs hsz
  generalize Pa.piecesF l = P at *
  go_enter Tryd.func5, Tryd.ntmps5
  go_wp2_with (go_at_call 13; refine HSp.out.mono ?_; rintro e w1 ⟨rfl, hw1⟩; (have HW := hid' hw1); clear hw1)
  have hb0 : Below w.heap.size w w1 := by rw [HW.out]; exact (Below.refl _ _).alloc (Nat.le_refl _) _
  have HC : Hid (∀ k (hk : k < P.length), w1.cell? ⟨w.heap.size, k, none⟩ = some (strV P[k])) := by rw [HW.out]; exact HC0.out
  clear HW HC0 HSp
  go_loopw [4, 6, 7] (fun v i p wr => ∃ (k : Nat) (acc : List (List UInt8)), k ≤ P.length ∧ i = .int .i64 k ∧ acc.length ≤ k ∧ wr.ownsRow w1.heap.size 9 1 v acc.length (acc.map strV) ∧ Below w1.heap.size w1 wr ∧ Hid (Pa.splitN acc (P.drop k) = Pa.splitN [] P)) (fun _ i _ _ => ((P.length : Int) - intOf i).toNat)
  case atStart => exact ⟨0, [], by omega, rfl, by simp, World.ownsRow_nil _ _ _ _, Below.refl _ _, rfl⟩
  case round =>
    obtain ⟨k, acc, hk, rfl, hak, hown, hbw, HS⟩ := hrel
    have hbz := hbw.size
    by_cases hlt : k < P.length
    · have HAt : Hid _ := Pa.splitN_at acc P k hlt
      obtain ⟨x, hx⟩ : ∃ x : ByteArray, x.data.toList = P[k] := ⟨⟨P[k].toArray⟩, rfl⟩
      have hcell : wr.cell? ⟨w.heap.size, k, none⟩ = some (.string x) := by
        exact cell_later hbw (by rw [HC.out k hlt, ← hx]; rfl)
      have hxl : x.toList = P[k] := by rw [Lib.toList_data, hx]
      have HX := hid' hx
      have hx120 : x.size ≤ 120 := by
        have h1 := HM.out P[k] (List.getElem_mem hlt)
        rw [← hx] at h1; exact h1
      clear hx
      cases hA : decide (P[k] = []) with
      | true =>
        have e0 : P[k] = [] := of_decide_eq_true hA
        have b0 : x.toList.isEmpty = true := by rw [hxl, e0]; rfl
        have HT : Hid (Pa.splitN acc (P.drop (k + 1)) = Pa.splitN [] P) := by
          have h1 := HAt.out
          rw [e0, Pa.step_empty] at h1
          exact h1.symm.trans HS.out
        clear hA e0 hxl
        go_wp2
        go_roundw
        case rel => exact ⟨k + 1, acc, by omega, by go_num, by omega, hown, hbw, HT⟩
        case measure => simp [intOf]; omega
      | false =>
        have e0 : P[k] ≠ [] := of_decide_eq_false hA
        have b0 : x.toList.isEmpty = false := by rw [hxl]; cases h : P[k] with | nil => exact absurd h e0 | cons c r => rfl
        cases hB : decide (P[k] = [46]) with
        | true =>
          have e1 : P[k] = [46] := of_decide_eq_true hB
          have b1 : (x.toList == [46]) = true := by rw [hxl, e1]; rfl
          have HT : Hid (Pa.splitN acc (P.drop (k + 1)) = Pa.splitN [] P) := by
            have h1 := HAt.out
            rw [e1, Pa.step_dot] at h1
            exact h1.symm.trans HS.out
          clear hA hB e0 e1 hxl
          go_wp2
          go_roundw
          case rel => exact ⟨k + 1, acc, by omega, by go_num, by omega, hown, hbw, HT⟩
          case measure => simp [intOf]; omega
        | false =>
          have e1 : P[k] ≠ [46] := of_decide_eq_false hB
          have b1 : (x.toList == [46]) = false := by rw [hxl]; exact beq_eq_false_iff_ne.2 e1
          cases hC : decide (P[k] = [46, 46]) with
          | true =>
            have e2 : P[k] = [46, 46] := of_decide_eq_true hC
            have b2 : (x.toList == [46, 46]) = true := by rw [hxl, e2]; rfl
            have HT : Hid (Pa.splitN acc.dropLast (P.drop (k + 1)) = Pa.splitN [] P) := by
              have h1 := HAt.out
              rw [e2, Pa.step_dots] at h1
              exact h1.symm.trans HS.out
            clear hA hB hC e0 e1 e2 hxl
            rcases hown.2 with ⟨rfl, hn0⟩ | ⟨g2, cap2, cur2, rfl, hg2, hh2, hn2, hc2, hs2, ht2⟩
            · have h9 : acc = [] := List.eq_nil_of_length_eq_zero hn0
              subst h9
              clear hn0
              go_wp2
              go_roundw
              case rel => exact ⟨k + 1, [], by omega, by go_num, by simp, hown, hbw, HT⟩
              case measure => simp [intOf]; omega
            · have HO := hid' (ownsRow_front hown (m := acc.length - 1) (by omega))
              unfold maxLen at hc2
              clear hh2 hs2 ht2
              by_cases hz : 0 < acc.length
              · have hz' : (0 : Int) < (acc.length : Int) := by omega
                go_wp2
                go_roundw
                case rel =>
                  refine ⟨k + 1, acc.dropLast, by omega, by go_num, by rw [List.length_dropLast]; omega, ?_, hbw, HT⟩
                  rw [List.length_dropLast]
                  have h9 : (acc.map strV).take (acc.length - 1) = acc.dropLast.map strV := by rw [List.dropLast_eq_take, List.map_take]
                  rw [← h9]
                  exact HO.out
                case measure => simp [intOf]; omega
              · have h9 : acc = [] := List.eq_nil_of_length_eq_zero (by omega)
                subst h9
                go_wp2
                go_roundw
                case rel => exact ⟨k + 1, [], by omega, by go_num, by simp, hown, hbw, HT⟩
                case measure => simp [intOf]; omega
          | false =>
            have e2 : P[k] ≠ [46, 46] := of_decide_eq_false hC
            have b2 : (x.toList == [46, 46]) = false := by rw [hxl]; exact beq_eq_false_iff_ne.2 e2
            cases hD : Pa.nameB x.data.toList with
            | true =>
              have hn := Pa.name_len _ hD
              have hxs : x.data.toList.length = x.size := rfl
              rw [hxs] at hn
              have HT : Hid (Pa.splitN (acc ++ [P[k]]) (P.drop (k + 1)) = Pa.splitN [] P) := by
                have h1 := HAt.out
                rw [Pa.step_name acc P[k] (by rw [← HX.out]; exact hD)] at h1
                exact h1.symm.trans HS.out
              clear hA hB hC e0 e1 e2 hxl hxs
              go_wp2_with (first
                | (go_at_call 9; refine (rname_c _ _ (by unfold maxLen; omega)).mono ?_; rintro e w3 ⟨rfl, rfl⟩; rw [hD])
                | (at_builtin; refine wpList_append_own _ rfl _ _ 22 rfl w1.heap.size 9 i0 (.string ByteArray.empty) 1 16 Tryd.underlying22 hi hz0 hz1 hz2 rfl (by decide) _ _ _ rfl (hown.alloc _) ⟨w3.heap.size, 0, none⟩ 1 1 [.string x] rfl rfl (cell_one_new _ _ _) (fun y hy => by simp at hy; subst hy; rfl) (by unfold maxLen; omega) (by omega) (by simp; omega) ?_; intro v' w5 hown' hgrow5 hnil5))
              have hbw5 : Below w1.heap.size w1 w5 := Below.grown (hbw.alloc (by omega) _) hgrow5 (by simp; omega) (fun k hk => (hown.lt _ hk).1)
              go_roundw
              case rel =>
                refine ⟨k + 1, acc ++ [P[k]], by omega, by go_num, by simp; omega, ?_, hbw5, HT⟩
                have h9 : Value.string x = strV P[k] := by rw [← HX.out]; rfl
                rw [h9] at hown'
                simpa using hown'
              case measure => simp [intOf]; omega
            | false =>
              have HN : Hid (Pa.splitF s.data.toList = none) := by
                have h1 := HAt.out
                rw [Pa.step_bad acc P[k] e0 e1 e2 (by rw [← HX.out]; exact hD)] at h1
                show _ = _
                rw [N.out, ← HS.out, h1]; rfl
              clear hA hB hC e0 e1 e2 hxl
              go_wp2_with (go_at_call 9; refine (rname_c _ _ (by unfold maxLen; omega)).mono ?_; rintro e w3 ⟨rfl, rfl⟩; rw [hD])
              go_ret2
              exact ⟨.inr ⟨HN.out, rfl⟩, hb0.trans (hbw.mono hb0.size)⟩
    · have e3 : k = P.length := by omega
      have HN : Hid (Pa.splitF s.data.toList = some acc) := by
        show _ = _
        rw [N.out, ← HS.out, e3, List.drop_length]; rfl
      clear e3
      go_wp2
      go_ret2
      exact ⟨.inl ⟨acc, _, HN.out, rfl, World.ownsRow_mono hown hb0.size⟩, hb0.trans (hbw.mono hb0.size)⟩
theorem rsplit_c (s : ByteArray) (w : World) (m : Int) (hmx : w.cell? ⟨0, 0, none⟩ = some (.int .i64 m)) (hs : s.size ≤ maxLen) : Calls Tryd.prog 5 #[.string s] w (SplitPost s.data.toList w) := by
  by_cases h : s.size ≤ 120
  · cases hl : s.data.toList with
    | nil =>
      have h9 : s.data.toList.length = 0 := by rw [hl]; rfl
      have := rsplit_empty s w (show s.data.toList.length < 1 by omega)
      rw [hl] at this; exact this
    | cons c r =>
      have h9 : s.data.toList.length = r.length + 1 := by rw [hl]; rfl
      by_cases hc : c = 47
      · subst hc
        have := rsplit_slash s w m hmx h r hl
        rw [hl] at this; exact this
      · have := rsplit_noslash s w (show 0 < s.data.toList.length by omega) h c r hl hc
        rw [hl] at this; exact this
  · exact rsplit_long s w hs (by omega)
set_option maxRecDepth 100000 in
set_option maxHeartbeats 1000000 in
theorem rsame_c (v u : Value) (xs ys : List (List UInt8)) (w : World) (hv : IsS w v xs) (hu : IsS w u ys) :
    Calls Tryd.prog 7 #[v, u] w fun e w' => e = .returned (.bool (decide (xs = ys))) ∧ Below w.heap.size w w' := by
  obtain ⟨a, cap, rfl, hc1, hc2, hcell, hlen⟩ := hv
  obtain ⟨a2, cap2, rfl, hd1, hd2, hcell2, hlen2⟩ := hu
  unfold maxLen at hc2 hd2
  by_cases hne : xs.length = ys.length
  · have hb : ((xs.length : Int) != (ys.length : Int)) = false := by rw [hne]; simp
    have HC := hid' hcell
    have HD := hid' hcell2
    have HNe := hid' hne
    have hlt2 : xs.length ≤ ys.length := by omega
    clear hcell hcell2 hlen hlen2 hne
    go_enter Tryd.func7, Tryd.ntmps7
    go_wp2
    go_loopw [5] (fun i wr => ∃ (k q : Nat), k ≤ xs.length ∧ i = .int .i64 k ∧ wr = w.drewN q ∧ Hid (xs.take k = ys.take k)) (fun i _ => ((xs.length : Int) - intOf i).toNat)
    case atStart => exact ⟨0, 0, by omega, rfl, rfl, rfl⟩
    case round =>
      obtain ⟨k, q, hk, rfl, rfl, HT⟩ := hrel
      by_cases hlt : k < xs.length
      · obtain ⟨b, off, rfl, hc⟩ := HC.out (by omega)
        obtain ⟨b2, off2, rfl, hd⟩ := HD.out (by omega)
        have hck := hc k hlt
        have hdk := hd k (by omega)
        obtain ⟨x, hx⟩ : ∃ x : ByteArray, x.data.toList = xs[k] := ⟨⟨xs[k].toArray⟩, rfl⟩
        obtain ⟨y, hy⟩ : ∃ y : ByteArray, y.data.toList = ys[k]'(by omega) := ⟨⟨(ys[k]'(by omega)).toArray⟩, rfl⟩
        rw [← hx, strV_self] at hck
        rw [← hy, strV_self] at hdk
        have hk1 : (k : Int) < (xs.length : Int) := by omega
        have hk2 : (k : Int) < (ys.length : Int) := by omega
        clear hc hd
        by_cases hxy : xs[k] = ys[k]'(by omega)
        · have hb2 : (x.toList == y.toList) = true := by rw [Lib.toList_data, Lib.toList_data, hx, hy, hxy]; simp
          have HT2 : Hid (xs.take (k + 1) = ys.take (k + 1)) := by
            show _ = _
            rw [List.take_succ_eq_append_getElem hlt, List.take_succ_eq_append_getElem (show k < ys.length by omega), HT.out, hxy]
          have Hx := hid' hx
          have Hy := hid' hy
          clear hx hy hxy
          go_wp2
          go_quiet (fail)
          go_wp2
          go_roundw
          case rel => exact ⟨k + 1, _, by omega, by go_num, rfl, HT2⟩
          case measure => simp [intOf]; omega
        · have hb2 : (x.toList == y.toList) = false := by rw [Lib.toList_data, Lib.toList_data, hx, hy]; exact beq_eq_false_iff_ne.2 hxy
          have HE : Hid (decide (xs = ys) = false) := decide_eq_false fun e => hxy (by subst e; rfl)
          have Hx := hid' hx
          have Hy := hid' hy
          clear hx hy hxy
          go_wp2
          go_quiet (fail)
          go_wp2
          go_ret
          exact ⟨ret_bool' HE.out.symm, below_drewN (below_drewN (Below.refl _ _) _) _⟩
      · have HE : Hid (decide (xs = ys) = true) := by
          have h1 := HT.out
          rw [List.take_of_length_le (by omega), List.take_of_length_le (by have := HNe.out; omega)] at h1
          exact decide_eq_true h1
        go_wp2
        go_ret
        exact ⟨ret_bool' HE.out.symm, below_drewN (Below.refl _ _) _⟩
  · have hb : ((xs.length : Int) != (ys.length : Int)) = true := by rw [bne_iff_ne]; omega
    have HE : Hid (decide (xs = ys) = false) := decide_eq_false fun e => hne (by rw [e])
    clear hcell hcell2 hlen hlen2
    go_enter Tryd.func7, Tryd.ntmps7
    go_wp2
    go_ret
    exact ⟨ret_bool' HE.out.symm, Below.refl _ _⟩
theorem rsplit_yes (s : ByteArray) (w : World) (m : Int) (hmx : w.cell? ⟨0, 0, none⟩ = some (.int .i64 m)) (hs : s.size ≤ maxLen) (ns : List (List UInt8)) (h : Pa.splitF s.data.toList = some ns) :
    Calls Tryd.prog 5 #[.string s] w fun e w' => ∃ v, e = .returned (.tuple #[v, .int .i64 0]) ∧ IsS w' v ns ∧ (v = .slice none 0 0 ∨ ∃ x n cap, v = .slice (some x) n cap) ∧ Below w.heap.size w w' :=
  (rsplit_c s w m hmx hs).mono fun e w' ⟨hp, hb⟩ => by
    rcases hp with ⟨ns', v, h', rfl, ho⟩ | ⟨h', rfl⟩
    · rw [h] at h'; cases h'
      exact ⟨v, rfl, isS_of_owns ho (names_short h), by rcases ho.2 with ⟨e, _⟩ | ⟨g, cap, cur, e, _⟩; exact .inl e; exact .inr ⟨_, _, _, e⟩, hb⟩
    · rw [h] at h'; cases h'
theorem rsplit_not (s : ByteArray) (w : World) (m : Int) (hmx : w.cell? ⟨0, 0, none⟩ = some (.int .i64 m)) (hs : s.size ≤ maxLen) (h : Pa.splitF s.data.toList = none) :
    Calls Tryd.prog 5 #[.string s] w fun e w' => e = .returned (.tuple #[.slice none 0 0, .int .i64 3]) ∧ Below w.heap.size w w' :=
  (rsplit_c s w m hmx hs).mono fun e w' ⟨hp, hb⟩ => by
    rcases hp with ⟨ns', v, h', rfl, ho⟩ | ⟨h', rfl⟩
    · rw [h] at h'; cases h'
    · exact ⟨rfl, hb⟩
theorem isS_nil (w : World) : IsS w (.slice none 0 0) [] := ⟨none, 0, rfl, Nat.le_refl _, Nat.zero_le _, fun h => absurd h (by simp), by simp⟩
end Go.Proofs.YtdbllggcomllgabDoor
