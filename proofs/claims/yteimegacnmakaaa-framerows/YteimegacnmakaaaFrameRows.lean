/-
  For every packets (the first six are looked at), and wherever their bytes are cut: All of the bytes of those that are right, one behind the other, are the packets, and of bytes that end early just those that are whole; and live holds.
-/
import Derived.Test.YteimegacnmakaaaFEncs
namespace Go.Proofs.Yteimegacnmakaaa
open Go.ChangeShapes Go.WideShapes Go.ChangeAt Go.RowKit
open Go.ChangeMaps (open_string shut_string)
set_option linter.unusedVariables false
set_option linter.unusedSimpArgs false
theorem dj_none (v : Value) : Dj (.slice none 0 0) v := fun k h => (by cases h)
theorem pk_low {w w' : World} {b o : Nat} {p : Fr.Pk} (h : PkAt w b o p) (hb : Below w.heap.size w w') : PkAt w' b o p := h.later hb
set_option maxRecDepth 100000 in
set_option maxHeartbeats 4000000 in
theorem frameRows_walk (a : Option Addr) (len cap : Nat) (ls : List Fr.Pk) (hl : ls.length = len) (hq : ∀ q ∈ ls, Fr.Wf q ∧ q.b.size ≤ maxLen) (n : Int) (hn : (Lit.int .u16 n).wf = true) (w : World) (hP : IsP w a ls) :
    Calls Try.prog 7 #[.slice a len cap, .int .u16 n] w fun e w' => e = .returned (.bool true) ∧ Below w.heap.size w w' := by
  obtain ⟨n0, n1⟩ := bd_u16 hn
  obtain ⟨i8, h8, h80, h81, h82⟩ := info_parts8
  obtain ⟨iP, hp, hp0, hp1, hp2⟩ := info_parts25
  obtain ⟨iI, hi, hi0, hi1, hi2⟩ := info_partsI
  have HP := hid hP
  have HQ := hid hq
  have HLL := hid hl
  have hm := hP.1
  unfold maxLen at hm
  rw [hl] at hm
  clear hn hP hq hl
  go_enter Try.func7, Try.ntmps7
  go_wp2
  go_loopw [5, 6, 7, 8] (fun v5 v6 v7 i wr => ∃ (k : Nat) (ps : List Fr.Pk), k ≤ 6 ∧ k ≤ len ∧ i = .int .i64 k ∧ ps.length ≤ k ∧ encLen ps ≤ 16403 * k ∧ wr.ownsRow w.heap.size 5 1 v5 (encAll ps).length ((encAll ps).map u8V) ∧ wr.ownsRow w.heap.size 25 6 v6 ps.length (ps.flatMap pkCells) ∧ wr.ownsRow w.heap.size 3 1 v7 (endsOf ps).length ((endsOf ps).map intV) ∧ Dj v5 v6 ∧ Dj v5 v7 ∧ Dj v6 v7 ∧ Below w.heap.size w wr ∧ Hid (∀ p ∈ ps, Fr.Wf p ∧ Fr.rightB p = true)) (fun _ _ _ i _ => (6 - intOf i).toNat)
  case atStart =>
    refine ⟨0, [], by omega, by omega, rfl, by simp, by simp [encLen], World.ownsRow_nil _ _ _ _, World.ownsRow_nil _ _ _ _, ⟨rfl, .inr ⟨w.heap.size, 1, #[.int .i64 0], rfl, Nat.le_refl _, heap_alloc_new w _, Nat.le_refl _, by unfold maxLen; omega, rfl, rfl⟩⟩, dj_none _, dj_none _, dj_none _, (Below.refl _ _).alloc (Nat.le_refl _) _, fun p hp => (by cases hp)⟩
  case round =>
    obtain ⟨k, ps, hk6, hkl, rfl, hpk, hel, hR5, hR6, hR7, hd56, hd57, hd67, hbw, HPS⟩ := hrel
    by_cases hlt : k < len
    · by_cases h6 : k < 6
      · obtain ⟨b, off, rfl, hc⟩ := HP.out.2 (by have := HLL.out; omega)
        have hck := hc k (by have := HLL.out; omega)
        have hwk := HQ.out _ (List.getElem_mem (by have := HLL.out; omega : k < ls.length))
        generalize ls[k]'(by have := HLL.out; omega) = q at *
        have HK := hid hck
        obtain ⟨c0, c1, c2, c3, c4, c5⟩ := pk_low hck hbw
        have C := encode_c q hwk.1 hwk.2
        have HW := hid hwk
        clear hc hck hwk
        obtain ⟨qk, qf, qt, qe, qs, qb⟩ := q
        simp only at c0 c1 c2 c3 c4 c5
        rw [show Fr.val ⟨qk, qf, qt, qe, qs, qb⟩ = .agg #[.int .u8 qk, .int .u8 qf, .int .u8 qt, .int .u32 qe, .int .u32 qs, .string qb] from rfl] at C
        have HE : Hid _ := C
        clear C
        have hlt' : (k : Int) < len := by omega
        go_wp2_with fail
        refine (HE.out _).mono ?_
        rintro _ w2 ⟨⟨hr, v9, rfl, hown9⟩ | ⟨hr, rfl⟩, hb2⟩
        · have hbw2 := hbw.trans (hb2.mono hbw.size)
          have hz2' := hbw2.size
          have h16 := Fr.right_size hr
          simp only at h16
          have hle9 := Fr.enc_length ⟨qk, qf, qt, qe, qs, qb⟩
          simp only at hle9
          obtain ⟨g9, cap9, rfl, hg9, _⟩ := hown9.form (by omega)
          have HCells := hid (own_cells8 hown9)
          have hle : (Fr.enc ⟨qk, qf, qt, qe, qs, qb⟩).length ≤ 16403 := by omega
          have hlA := encAll_len ps
          have hlB : (encAll ps).length ≤ 98418 := by omega
          have HLA := hid hlA
          have HLE := hid hle9
          have s5 := own_later hR5 hb2
          have s6 := own_later hR6 hb2
          have s7 := own_later hR7 hb2
          have HPE : Hid (∀ p ∈ ps ++ [⟨qk, qf, qt, qe, qs, qb⟩], Fr.Wf p ∧ Fr.rightB p = true) := fun p hp => by
            rcases List.mem_append.1 hp with h9 | h9
            · exact HPS.out p h9
            · rw [List.mem_singleton.1 h9]; exact ⟨HW.out.1, hr⟩
          clear hown9 hle9 hlA hR5 hR6 hR7 c0 c1 c2 c3 c4 c5
          go_wp2_with (first
            | (at_builtin; refine wpList_append_own_at _ rfl (.tmp 38) (.tmp 39) 26 rfl w.heap.size 5 i8 (.int .u8 0) 1 1 Try.underlying26 h8 h80 h81 h82 rfl (by decide) _ _ _ rfl s5 ⟨g9, 0, none⟩ _ cap9 ((Fr.enc ⟨qk, qf, qt, qe, qs, qb⟩).map u8V) rfl (by simp) HCells.out (fun y hy => by obtain ⟨x, _, rfl⟩ := List.mem_map.1 hy; rfl) (by unfold maxLen; omega) (by omega) (by omega) ?_; intro v5 w3 t5 hgrow3 hnil3 hat3; (have t6 := row_kept s6 hgrow3 hd56.symm); (have t7 := row_kept s7 hgrow3 hd57.symm); (have e56 := dj_new s6 (Nat.le_refl _) hd56 hat3); (have e57 := dj_new s7 (Nat.le_refl _) hd57 hat3); (have hbw3 : Below w.heap.size w w3 := Below.grown hbw2 hgrow3 hz2' (fun z hz => (s5.lt z hz).1)); (have hz3 := hbw3.size); (obtain ⟨c0, c1, c2, c3, c4, c5⟩ := pk_low HK.out hbw3); (simp only at c0 c1 c2 c3 c4 c5); (obtain ⟨a5, cap5, rfl⟩ := own_len t5); clear s5 s6 s7 hgrow3 hnil3 hat3)
            | (at_builtin; refine wpList_append_own_at _ rfl (.tmp 41) (.tmp 46) 38 rfl w.heap.size 25 iP _ 6 32 Try.underlying38 hp hp0 hp1 hp2 rfl (by decide) _ _ _ rfl (t6.alloc _) ⟨w3.heap.size, 0, none⟩ 1 1 (pkCells ⟨qk, qf, qt, qe, qs, qb⟩) rfl rfl (World.news_of_block (heap_alloc_new w3 _)) (by intro u hu; simp [pkCells] at hu; rcases hu with rfl | rfl | rfl | rfl | rfl | rfl <;> rfl) (by unfold maxLen; omega) (by omega) (by simp; omega) ?_; intro v6 w4 u6 hgrow4 hnil4 hat4; (have u5 := row_kept (t5.alloc _) hgrow4 e56); (have u7 := row_kept (t7.alloc _) hgrow4 hd67.symm); (have f56 := (dj_new (t5.alloc _) (Nat.le_refl _) e56.symm hat4).symm); (have f67 := dj_new (t7.alloc _) (Nat.le_refl _) hd67 hat4); (have hbw4 : Below w.heap.size w w4 := Below.grown (hbw3.alloc hz3 _) hgrow4 (by simp; omega) (fun z hz => (t6.lt z hz).1)); (have hz4 := hbw4.size); clear t5 t6 t7 hgrow4 hnil4 hat4)
            | (at_builtin; refine wpList_append_own_at _ rfl (.tmp 48) (.tmp 51) 44 rfl w.heap.size 3 iI (.int .i64 0) 1 8 Try.underlying44 hi hi0 hi1 hi2 rfl (by decide) _ _ _ rfl (u7.alloc _) ⟨w4.heap.size, 0, none⟩ 1 1 _ rfl rfl (cell_one_new _ _ _) (fun y hy => by simp at hy; subst hy; rfl) (by unfold maxLen; have := endsOf_len ps; omega) (by have := endsOf_len ps; omega) (by simp; omega) ?_; intro v7 w5 x7 hgrow5 hnil5 hat5; (have x5 := row_kept (u5.alloc _) hgrow5 e57); (have x6 := row_kept (u6.alloc _) hgrow5 f67); (have g57 := (dj_new (u5.alloc _) (Nat.le_refl _) e57.symm hat5).symm); (have g67 := (dj_new (u6.alloc _) (Nat.le_refl _) f67.symm hat5).symm); (have hbw5 : Below w.heap.size w w5 := Below.grown (hbw4.alloc hz4 _) hgrow5 (by simp; omega) (fun z hz => (u7.lt z hz).1)); clear u5 u6 u7 hgrow5 hnil5 hat5))
          go_roundw
          case rel =>
            have hS := encAll_snoc ps ⟨qk, qf, qt, qe, qs, qb⟩
            have hE := endsOf_snoc ps ⟨qk, qf, qt, qe, qs, qb⟩
            have hLe := encLen_snoc ps ⟨qk, qf, qt, qe, qs, qb⟩
            simp only at hLe
            have hsum : (encAll ps).length + (Fr.enc ⟨qk, qf, qt, qe, qs, qb⟩).length = encLen (ps ++ [⟨qk, qf, qt, qe, qs, qb⟩]) := by rw [HLA.out, HLE.out, hLe]
            refine ⟨k + 1, ps ++ [⟨qk, qf, qt, qe, qs, qb⟩], by omega, by omega, by go_num, by simp; omega, by rw [hLe]; omega, ?_, ?_, ?_, f56, g57, g67, hbw5, HPE⟩
            · rw [hS, List.length_append, List.map_append]; exact x5
            · rw [List.length_append, List.flatMap_append]; simpa using x6
            · rw [hE, List.length_append, List.map_append, ← hsum]; simpa [intV] using x7
          case measure => simp [intOf]; omega
        · have hbw2 := hbw.trans (hb2.mono hbw.size)
          have s5 := own_later hR5 hb2
          have s6 := own_later hR6 hb2
          have s7 := own_later hR7 hb2
          go_wp2
          go_roundw
          case rel => exact ⟨k + 1, ps, by omega, by omega, by go_num, by omega, by omega, s5, s6, s7, hd56, hd57, hd67, hbw2, HPS⟩
          case measure => simp [intOf]; omega
      · have hk : k = 6 := by omega
        clear HP HQ HLL
        subst hk
        have HYY : Hid (∀ x ∈ encAll ps, 0 ≤ x ∧ x ≤ 255) := fun x hx => by
          obtain ⟨p, hp, hx'⟩ := List.mem_flatMap.1 hx
          exact Fr.enc_byte p (HPS.out p hp).1 x hx'
        have HL2 := hid (encAll_len ps)
        have hL2 : (encAll ps).length ≤ 98418 := by have := HL2.out; omega
        obtain ⟨a5, cap5, rfl, hI5, hc5⟩ := isB_pile (T := 0) (g := 0) HYY.out hR5
        obtain ⟨a6, cap6, rfl, hI6, hc6⟩ := isP_own hR6
        obtain ⟨g7, cap7, rfl, hI7⟩ := int_cell hR7 (by rw [endsOf_len]; omega)
        rw [endsOf_len] at hR7 ⊢
        have HI5 := hid hI5
        have HI6 := hid hI6
        have HI7 := hid hI7
        clear hI5 hI6 hI7 hR5 hR6 hR7 hd56 hd57 hd67
        go_wp2_with fail
        refine (all_c _ _ _ _ _ HI5.out hc5 (by omega)).mono ?_
        rintro _ w7 ⟨qs, r, v7, hC, hN, rfl, hown7, hb7⟩
        obtain ⟨e1, e2⟩ := cuts_eq hC
        obtain ⟨e3, e4⟩ := rows_one ps qs [] r HPS.out e2 no_begins_nil hN (by rw [List.append_nil]; exact e1)
        subst e3
        obtain ⟨a8, cap8, rfl, hI8, hc8⟩ := isP_own hown7
        have hB7 := hbw.trans (hb7.mono hbw.size)
        rw [← HL2.out]
        have HI8 := hid hI8
        clear hown7 hC hN e1 e2 e4 hI8
        go_wp2_with fail
        refine (same_c _ _ _ _ _ _ HI8.out (HI6.out.later hb7)).mono ?_
        rintro _ w8 ⟨rfl, hb8⟩
        have hB8 := hB7.trans (hb8.mono hB7.size)
        have hb78 := hb7.trans (hb8.mono hb7.size)
        have J6 := hid (HI6.out.later hb78)
        have J5 := hid (HI5.out.later hb78)
        have J7 : Hid (∀ i x, (endsOf ps)[i]? = some x → w8.cell? ⟨g7, i, none⟩ = some (.int .i64 x)) := fun i x h => cell_later hb78 (HI7.out i x h)
        have hm0 : 0 ≤ n % ((encAll ps).length + 1 : Int) := Int.emod_nonneg _ (by omega)
        have hm1 : n % ((encAll ps).length + 1 : Int) < (encAll ps).length + 1 := Int.emod_lt_of_pos _ (by omega)
        go_wp2
        go_loopw [14] (fun i wr => ∃ m : Nat, m ≤ ps.length ∧ i = .int .i64 m ∧ (encLen (ps.take m) : Int) ≤ n % ((encAll ps).length + 1 : Int) ∧ wr = w8) (fun i _ => ((ps.length : Int) - intOf i).toNat)
        case atStart => exact ⟨0, by omega, rfl, by simpa [encLen] using hm0, rfl⟩
        case round =>
          obtain ⟨m, hmp, rfl, hmn, rfl⟩ := hrel
          by_cases hml : m < ps.length
          · have hE1 := J7.out (m + 1) _ (endsOf_get ps (m + 1) (by omega))
            have hml' : (m : Int) + 1 < (ps.length : Int) + 1 := by omega
            by_cases hle : (encLen (ps.take (m + 1)) : Int) ≤ n % ((encAll ps).length + 1 : Int)
            · have HLE := hid hle
              go_wp2
              go_roundw
              case rel => exact ⟨m + 1, by omega, by go_num, HLE.out, by first | rfl | trivial⟩
              case measure => simp [intOf]; omega
            · have hgt : n % ((encAll ps).length + 1 : Int) < (encLen (ps.take (m + 1)) : Int) := by omega
              have HX : Hid (m < ps.length → n % ((encAll ps).length + 1 : Int) < (encLen (ps.take (m + 1)) : Int)) := fun _ => hgt
              have hd2 : decide ((encLen (ps.take (m + 1)) : Int) ≤ n % ((encAll ps).length + 1 : Int)) = false := decide_eq_false hle
              have hE := J7.out m _ (endsOf_get ps m hmp)
              have hat2 : (n % ((encAll ps).length + 1 : Int)).toNat ≤ (encAll ps).length := by omega
              have i1 : n % ((encAll ps).length + 1 : Int) ≤ cap5 := by omega
              have HN3 : Hid ((n % ((encAll ps).length + 1 : Int)).toNat ≤ encLen ps) := by rw [← HL2.out]; exact hat2
              have HM1 : Hid (encLen (ps.take m) ≤ (n % ((encAll ps).length + 1 : Int)).toNat) := by show _ ≤ _; omega
              generalize n % ((encAll ps).length + 1 : Int) = at' at *
              have HF5 := hid (J5.out.front at'.toNat hat2)
              go_wp2_with fail
              refine (all_c _ _ _ _ _ HF5.out (by omega) (by rw [List.length_take]; omega)).mono ?_
              rintro _ w9 ⟨qs2, r2, v9, hC, hN, rfl, hown9, hb9⟩
              have e5 := cut_rows ps HPS.out m _ hmp HM1.out (fun h => by have := HX.out h; omega) HN3.out hC hN
              subst e5
              obtain ⟨a9, cap9, rfl, hI9, hc9⟩ := isP_own hown9
              have hlen9 : (ps.take m).length = m := by rw [List.length_take]; omega
              rw [hlen9] at hc9 ⊢
              have hB9 := hB8.trans (hb9.mono hB8.size)
              have HI9 := hid hI9
              have HLN := hid hlen9
              clear hown9 hC hN hI9 hlen9
              go_wp2_with fail
              refine (live_c _).mono ?_
              rintro _ w10 ⟨rfl, hb10⟩
              have hB10 := hB9.trans (hb10.mono hB9.size)
              have hE10 := cell_later hb10 (cell_later hb9 hE)
              have KS : Hid (Calls Try.prog 21 #[.slice a9 m cap9, .slice a6 m cap6] w10 fun e w' => e = .returned (.bool true) ∧ Below w10.heap.size w10 w') := by
                have := same_c a9 a6 cap9 cap6 (ps.take m) w10 (HI9.out.later hb10) (((J6.out.front m).later hb9).later hb10)
                rw [HLN.out] at this
                exact this
              clear hE
              go_wp2_with fail
              refine KS.out.mono ?_
              rintro _ w11 ⟨rfl, hb11⟩
              go_wp2
              go_ret
              exact ⟨rfl, hB10.trans (hb11.mono hB10.size)⟩
          · have HX : Hid (m < ps.length → n % ((encAll ps).length + 1 : Int) < (encLen (ps.take (m + 1)) : Int)) := fun h => absurd h hml
            have hd2 : decide ((m : Int) + 1 < (ps.length : Int) + 1) = false := decide_eq_false (by omega)
            have hE := J7.out m _ (endsOf_get ps m hmp)
            have hat2 : (n % ((encAll ps).length + 1 : Int)).toNat ≤ (encAll ps).length := by omega
            have i1 : n % ((encAll ps).length + 1 : Int) ≤ cap5 := by omega
            have HN3 : Hid ((n % ((encAll ps).length + 1 : Int)).toNat ≤ encLen ps) := by rw [← HL2.out]; exact hat2
            have HM1 : Hid (encLen (ps.take m) ≤ (n % ((encAll ps).length + 1 : Int)).toNat) := by show _ ≤ _; omega
            generalize n % ((encAll ps).length + 1 : Int) = at' at *
            have HF5 := hid (J5.out.front at'.toNat hat2)
            go_wp2_with fail
            refine (all_c _ _ _ _ _ HF5.out (by omega) (by rw [List.length_take]; omega)).mono ?_
            rintro _ w9 ⟨qs2, r2, v9, hC, hN, rfl, hown9, hb9⟩
            have e5 := cut_rows ps HPS.out m _ hmp HM1.out (fun h => by have := HX.out h; omega) HN3.out hC hN
            subst e5
            obtain ⟨a9, cap9, rfl, hI9, hc9⟩ := isP_own hown9
            have hlen9 : (ps.take m).length = m := by rw [List.length_take]; omega
            rw [hlen9] at hc9 ⊢
            have hB9 := hB8.trans (hb9.mono hB8.size)
            have HI9 := hid hI9
            have HLN := hid hlen9
            clear hown9 hC hN hI9 hlen9
            go_wp2_with fail
            refine (live_c _).mono ?_
            rintro _ w10 ⟨rfl, hb10⟩
            have hB10 := hB9.trans (hb10.mono hB9.size)
            have hE10 := cell_later hb10 (cell_later hb9 hE)
            have KS : Hid (Calls Try.prog 21 #[.slice a9 m cap9, .slice a6 m cap6] w10 fun e w' => e = .returned (.bool true) ∧ Below w10.heap.size w10 w') := by
              have := same_c a9 a6 cap9 cap6 (ps.take m) w10 (HI9.out.later hb10) (((J6.out.front m).later hb9).later hb10)
              rw [HLN.out] at this
              exact this
            clear hE
            go_wp2_with fail
            refine KS.out.mono ?_
            rintro _ w11 ⟨rfl, hb11⟩
            go_wp2
            go_ret
            exact ⟨rfl, hB10.trans (hb11.mono hB10.size)⟩
    · clear HP HQ HLL
      have HYY : Hid (∀ x ∈ encAll ps, 0 ≤ x ∧ x ≤ 255) := fun x hx => by
        obtain ⟨p, hp, hx'⟩ := List.mem_flatMap.1 hx
        exact Fr.enc_byte p (HPS.out p hp).1 x hx'
      have HL2 := hid (encAll_len ps)
      have hL2 : (encAll ps).length ≤ 98418 := by have := HL2.out; omega
      obtain ⟨a5, cap5, rfl, hI5, hc5⟩ := isB_pile (T := 0) (g := 0) HYY.out hR5
      obtain ⟨a6, cap6, rfl, hI6, hc6⟩ := isP_own hR6
      obtain ⟨g7, cap7, rfl, hI7⟩ := int_cell hR7 (by rw [endsOf_len]; omega)
      rw [endsOf_len] at hR7 ⊢
      have HI5 := hid hI5
      have HI6 := hid hI6
      have HI7 := hid hI7
      clear hI5 hI6 hI7 hR5 hR6 hR7 hd56 hd57 hd67
      go_wp2_with fail
      refine (all_c _ _ _ _ _ HI5.out hc5 (by omega)).mono ?_
      rintro _ w7 ⟨qs, r, v7, hC, hN, rfl, hown7, hb7⟩
      obtain ⟨e1, e2⟩ := cuts_eq hC
      obtain ⟨e3, e4⟩ := rows_one ps qs [] r HPS.out e2 no_begins_nil hN (by rw [List.append_nil]; exact e1)
      subst e3
      obtain ⟨a8, cap8, rfl, hI8, hc8⟩ := isP_own hown7
      have hB7 := hbw.trans (hb7.mono hbw.size)
      rw [← HL2.out]
      have HI8 := hid hI8
      clear hown7 hC hN e1 e2 e4 hI8
      go_wp2_with fail
      refine (same_c _ _ _ _ _ _ HI8.out (HI6.out.later hb7)).mono ?_
      rintro _ w8 ⟨rfl, hb8⟩
      have hB8 := hB7.trans (hb8.mono hB7.size)
      have hb78 := hb7.trans (hb8.mono hb7.size)
      have J6 := hid (HI6.out.later hb78)
      have J5 := hid (HI5.out.later hb78)
      have J7 : Hid (∀ i x, (endsOf ps)[i]? = some x → w8.cell? ⟨g7, i, none⟩ = some (.int .i64 x)) := fun i x h => cell_later hb78 (HI7.out i x h)
      have hm0 : 0 ≤ n % ((encAll ps).length + 1 : Int) := Int.emod_nonneg _ (by omega)
      have hm1 : n % ((encAll ps).length + 1 : Int) < (encAll ps).length + 1 := Int.emod_lt_of_pos _ (by omega)
      go_wp2
      go_loopw [14] (fun i wr => ∃ m : Nat, m ≤ ps.length ∧ i = .int .i64 m ∧ (encLen (ps.take m) : Int) ≤ n % ((encAll ps).length + 1 : Int) ∧ wr = w8) (fun i _ => ((ps.length : Int) - intOf i).toNat)
      case atStart => exact ⟨0, by omega, rfl, by simpa [encLen] using hm0, rfl⟩
      case round =>
        obtain ⟨m, hmp, rfl, hmn, rfl⟩ := hrel
        by_cases hml : m < ps.length
        · have hE1 := J7.out (m + 1) _ (endsOf_get ps (m + 1) (by omega))
          have hml' : (m : Int) + 1 < (ps.length : Int) + 1 := by omega
          by_cases hle : (encLen (ps.take (m + 1)) : Int) ≤ n % ((encAll ps).length + 1 : Int)
          · have HLE := hid hle
            go_wp2
            go_roundw
            case rel => exact ⟨m + 1, by omega, by go_num, HLE.out, by first | rfl | trivial⟩
            case measure => simp [intOf]; omega
          · have hgt : n % ((encAll ps).length + 1 : Int) < (encLen (ps.take (m + 1)) : Int) := by omega
            have HX : Hid (m < ps.length → n % ((encAll ps).length + 1 : Int) < (encLen (ps.take (m + 1)) : Int)) := fun _ => hgt
            have hd2 : decide ((encLen (ps.take (m + 1)) : Int) ≤ n % ((encAll ps).length + 1 : Int)) = false := decide_eq_false hle
            have hE := J7.out m _ (endsOf_get ps m hmp)
            have hat2 : (n % ((encAll ps).length + 1 : Int)).toNat ≤ (encAll ps).length := by omega
            have i1 : n % ((encAll ps).length + 1 : Int) ≤ cap5 := by omega
            have HN3 : Hid ((n % ((encAll ps).length + 1 : Int)).toNat ≤ encLen ps) := by rw [← HL2.out]; exact hat2
            have HM1 : Hid (encLen (ps.take m) ≤ (n % ((encAll ps).length + 1 : Int)).toNat) := by show _ ≤ _; omega
            generalize n % ((encAll ps).length + 1 : Int) = at' at *
            have HF5 := hid (J5.out.front at'.toNat hat2)
            go_wp2_with fail
            refine (all_c _ _ _ _ _ HF5.out (by omega) (by rw [List.length_take]; omega)).mono ?_
            rintro _ w9 ⟨qs2, r2, v9, hC, hN, rfl, hown9, hb9⟩
            have e5 := cut_rows ps HPS.out m _ hmp HM1.out (fun h => by have := HX.out h; omega) HN3.out hC hN
            subst e5
            obtain ⟨a9, cap9, rfl, hI9, hc9⟩ := isP_own hown9
            have hlen9 : (ps.take m).length = m := by rw [List.length_take]; omega
            rw [hlen9] at hc9 ⊢
            have hB9 := hB8.trans (hb9.mono hB8.size)
            have HI9 := hid hI9
            have HLN := hid hlen9
            clear hown9 hC hN hI9 hlen9
            go_wp2_with fail
            refine (live_c _).mono ?_
            rintro _ w10 ⟨rfl, hb10⟩
            have hB10 := hB9.trans (hb10.mono hB9.size)
            have hE10 := cell_later hb10 (cell_later hb9 hE)
            have KS : Hid (Calls Try.prog 21 #[.slice a9 m cap9, .slice a6 m cap6] w10 fun e w' => e = .returned (.bool true) ∧ Below w10.heap.size w10 w') := by
              have := same_c a9 a6 cap9 cap6 (ps.take m) w10 (HI9.out.later hb10) (((J6.out.front m).later hb9).later hb10)
              rw [HLN.out] at this
              exact this
            clear hE
            go_wp2_with fail
            refine KS.out.mono ?_
            rintro _ w11 ⟨rfl, hb11⟩
            go_wp2
            go_ret
            exact ⟨rfl, hB10.trans (hb11.mono hB10.size)⟩
        · have HX : Hid (m < ps.length → n % ((encAll ps).length + 1 : Int) < (encLen (ps.take (m + 1)) : Int)) := fun h => absurd h hml
          have hd2 : decide ((m : Int) + 1 < (ps.length : Int) + 1) = false := decide_eq_false (by omega)
          have hE := J7.out m _ (endsOf_get ps m hmp)
          have hat2 : (n % ((encAll ps).length + 1 : Int)).toNat ≤ (encAll ps).length := by omega
          have i1 : n % ((encAll ps).length + 1 : Int) ≤ cap5 := by omega
          have HN3 : Hid ((n % ((encAll ps).length + 1 : Int)).toNat ≤ encLen ps) := by rw [← HL2.out]; exact hat2
          have HM1 : Hid (encLen (ps.take m) ≤ (n % ((encAll ps).length + 1 : Int)).toNat) := by show _ ≤ _; omega
          generalize n % ((encAll ps).length + 1 : Int) = at' at *
          have HF5 := hid (J5.out.front at'.toNat hat2)
          go_wp2_with fail
          refine (all_c _ _ _ _ _ HF5.out (by omega) (by rw [List.length_take]; omega)).mono ?_
          rintro _ w9 ⟨qs2, r2, v9, hC, hN, rfl, hown9, hb9⟩
          have e5 := cut_rows ps HPS.out m _ hmp HM1.out (fun h => by have := HX.out h; omega) HN3.out hC hN
          subst e5
          obtain ⟨a9, cap9, rfl, hI9, hc9⟩ := isP_own hown9
          have hlen9 : (ps.take m).length = m := by rw [List.length_take]; omega
          rw [hlen9] at hc9 ⊢
          have hB9 := hB8.trans (hb9.mono hB8.size)
          have HI9 := hid hI9
          have HLN := hid hlen9
          clear hown9 hC hN hI9 hlen9
          go_wp2_with fail
          refine (live_c _).mono ?_
          rintro _ w10 ⟨rfl, hb10⟩
          have hB10 := hB9.trans (hb10.mono hB9.size)
          have hE10 := cell_later hb10 (cell_later hb9 hE)
          have KS : Hid (Calls Try.prog 21 #[.slice a9 m cap9, .slice a6 m cap6] w10 fun e w' => e = .returned (.bool true) ∧ Below w10.heap.size w10 w') := by
            have := same_c a9 a6 cap9 cap6 (ps.take m) w10 (HI9.out.later hb10) (((J6.out.front m).later hb9).later hb10)
            rw [HLN.out] at this
            exact this
          clear hE
          go_wp2_with fail
          refine KS.out.mono ?_
          rintro _ w11 ⟨rfl, hb11⟩
          go_wp2
          go_ret
          exact ⟨rfl, hB10.trans (hb11.mono hB10.size)⟩
/-! ### The row of FrameRows -/
theorem frameRows_own : ownKnob Try.prog.godebug = none := by kernel_rfl
theorem frameRows_laidOut : laidOutB Try.prog = true := by kernel_rfl
set_option maxRecDepth 100000 in
theorem frameRows_lifted (os : Os) (started : os.Started) (H : Type) (enc : TypeId × Value → H) :
    ReturnsInHanded {} Try.checked os 7 .any (Rows.frameRowsSpec.pre6 enc Try.prog Try.f7 Rows.frameRowsRow.domain false) (Rows.frameRowsSpec.post enc Try.prog Try.f7 false true false false) := by
  refine returnsInHanded_of_change (C := Try.checked) frameRows_own started (by kernel_rfl) Try.func7
    (ChangeSpec.witness6 (enc := enc) (C := Try.checked) false ⟨#[], #[.slice none 0 0, .int .u16 0], []⟩ 8 (by kernel_rfl) (by kernel_rfl) (by kernel_rfl) (by kernel_rfl)) ?_
  intro W base args ds gs before hval0 hW hcnd _
  have hval : ∀ (j : Nat) t v, Try.f7.params[j]? = some t → args[j]? = some v → Value.okWide Try.prog W .any base t v := hval0
  have hW' := hW
  obtain ⟨p, q, hA0, hV, rfl, hfz, hnd⟩ := hW
  have hA : DataW.TrodAll enc Try.prog W 0 (fun _ => true) true Try.f7.params.toList args.toList ds p := hA0
  rw [Try.params7] at hA hval
  obtain ⟨v0, vs0, d0, ds0, p0, q0, hargs, rfl, rfl, h0, r0⟩ := trodAll_cons hA
  obtain ⟨v1, vs1, d1, ds1, p1, q1, rfl, rfl, rfl, h1, r1⟩ := trodAll_cons r0
  obtain ⟨rfl, rfl, rfl⟩ := trodAll_nil r1
  obtain rfl : args = #[v0, v1] := by cases args; simp_all
  obtain ⟨rfl, rfl⟩ := trodVars_none hV
  have k0 := h0
  have lt0 : ∀ x ∈ p0, x.block < W.heap.size := by obtain ⟨m, hm⟩ := k0; exact DataW.trod_lt m _ _ _ hm
  obtain ⟨a0, len0, cap0, rfl⟩ := okWide_slice Try.underlying38 (hval 0 38 v0 rfl rfl)
  obtain ⟨z0, lz0, w0, q0⟩ := isP_of Try.underlying38 h0
  obtain ⟨a1, rfl, rfl, rfl, w1⟩ := open_int Try.underlying43 (hval 1 43 v1 rfl rfl) h1
  clear hA0 hval0
  refine (frameRows_walk a0 len0 cap0 z0 lz0 q0 a1 w1 W w0).mono fun e W' ⟨he, bel⟩ => ?_
  subst he
  exact ⟨_, rfl, _, _, _, [], _, [], hW', trodAll_mk1 (shut_bool Try.underlying4 _), (trodAll_cons_mk (Below.trod frameRows_laidOut (by kernel_rfl) (of_decide_eq_true (by kernel_rfl)) k0 bel lt0) (trodAll_cons_mk (shut_int Try.underlying43 w1) trodAll_mk0)), rfl, bel.frame _, fun h => by cases h⟩
theorem frameRows_over : Rows.frameRowsRow.holds Try.pinned (OpenSpec.ofChange Rows.frameRowsSpec) :=
  OpenClaim.holds_of_wide 7 Try.f7 rfl rfl rfl rfl rfl rfl rfl ⟨rfl, rfl, rfl, rfl, rfl⟩ rfl rfl rfl rfl rfl (by kernel_rfl) Try.func7 (by kernel_rfl)
    (of_decide_eq_true (by kernel_rfl)) (by unfold Func.isWrapper; first | (rw [if_pos (by decide +kernel)]; kernel_rfl) | (rw [if_neg (by decide +kernel)]; exact ⟨rfl, rfl⟩))
    (fun os started H enc _ => frameRows_lifted os started H enc)
/-- The statement. -/
theorem frameRows_holds : Rows.FrameRowsSaid := frameRows_over
#print axioms frameRows_holds

end Go.Proofs.Yteimegacnmakaaa
