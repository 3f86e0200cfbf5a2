/-
  For every packet (its body cut at 600 bytes) and every numbers: its bytes, written sector by sector to a disk and flushed, are read as the packet behind a loss of power, unless the first sector, written once more meanwhile, is kept; then they are no packet. What is no right packet has no bytes.
-/
import Derived.Test.YteimegacnmakaacKMath
namespace Go.Proofs.Yteimegacnmakaac
open Go.ChangeShapes Go.WideShapes Go.ChangeAt Go.RowKit Go.Maps
open Go.ChangeMaps (open_string shut_string)
set_option linter.unusedVariables false
set_option linter.unusedSimpArgs false
theorem own_ltr {w w' : World} {base : Nat} {e : TypeId} {size : Nat} {v : Value} {n : Nat} {xs : List Value} (h : w.ownsRow base e size v n xs) (hb : Below w.heap.size w w') : w'.ownsRow base e size v n xs := by
  obtain ⟨h1, h2⟩ := h
  refine ⟨h1, ?_⟩
  rcases h2 with h2 | ⟨g, cap, cur, a, b, c, d⟩
  · exact .inl h2
  · exact .inr ⟨g, cap, cur, a, b, by rw [hb.block g (lt_of_blk c)]; exact c, d⟩
theorem cell_new_at (W : World) (s : Sec) (t : TypeId) (k : Nat) (h : k < s.length) : (W.alloc (.cells (s.map by8).toArray t)).cell? ⟨W.heap.size, k, none⟩ = some (by8 (s.getD k 0)) := by
  rw [cell_of_row _ _ _ _ _ _ (heap_alloc_new W _)]
  simp [List.getD, h]
theorem fz_new_at (W : World) (c : Array Value) (t : TypeId) (k : Nat) : (W.alloc (.cells c t)).frozen? ⟨W.heap.size, k, none⟩ = false := by
  unfold World.frozen?
  rw [heap_alloc_new W]
  simp
theorem part_set2 (zs : List Int) (n k : Nat) (h : k < 32) : ((part zs n k).map by8).set k (.int .u8 (zs[n * 32 + k]?.getD 0)) = (part zs n (k + 1)).map by8 := by
  have := part_set zs n k h (by8 (zs.getD (32 * n + k) 0)) rfl
  have h2 := congrArg Array.toList this
  rw [Array.toList_setIfInBounds] at h2
  simpa [by8, List.getD, Nat.mul_comm] using h2
theorem new_sec (W : World) (s : Sec) (t : TypeId) : ∀ j u, (s.map u8V)[j]? = some u → (W.alloc (.cells (s.map by8).toArray t)).cell? ((⟨W.heap.size, 0, none⟩ : Addr).add j) = some u := by
  intro j u hu
  have hadd : (⟨W.heap.size, 0, none⟩ : Addr).add j = ⟨W.heap.size, j, none⟩ := by unfold Addr.add; split <;> simp_all
  rw [hadd, cell_of_row _ _ _ _ _ _ (heap_alloc_new W _)]
  simpa [u8V, by8] using hu
def lostB (ks : List Int) (k : Nat) : Bool := decide ((0 : Int) ∉ ks.take k)
theorem lost_zero (ks : List Int) : lostB ks 0 = true := by simp [lostB]
theorem lost_succ (ks : List Int) (k : Nat) (h : k < ks.length) : lostB ks (k + 1) = (lostB ks k && decide (ks.getD k 0 ≠ 0)) := by
  unfold lostB
  rw [Bool.eq_iff_iff]
  simp only [decide_eq_true_eq, Bool.and_eq_true]
  rw [take_mem_succ ks k h]
  constructor
  · intro h1; exact ⟨fun h2 => h1 (.inl h2), fun h2 => h1 (.inr h2.symm)⟩
  · rintro ⟨h1, h2⟩ (h3 | h3)
    · exact h1 h3
    · exact h2 h3.symm
theorem lost_all (ks : List Int) (k : Nat) (h : ks.length ≤ k) : lostB ks k = !decide ((0 : Int) ∈ ks) := by
  unfold lostB; rw [List.take_of_length_le h]; simp
theorem on_flushed {zs : List Int} {n : Nat} {c : Int → Option Sec} (h : ∀ j : Int, c j = if 0 ≤ j ∧ j < n then some (chunk zs j.toNat) else none) (hn : zs.length ≤ 32 * n) (j : Nat) : (c j).getD zsec = chunk zs j := by
  rw [h]
  split
  · simp
  · rw [chunk_out zs j (by omega)]; rfl
theorem on_crashed {zs ks : List Int} {on : Int → Sec} (h : ∀ j : Nat, on j = chunk zs j) (j : Nat) : (if (j : Int) ∈ ks then ((upd (fun _ => none) 0 (some nine)) (j : Int)).getD (on j) else on j) = after zs (decide ((0 : Int) ∈ ks)) j := by
  unfold upd after
  by_cases hj : j = 0
  · subst hj
    by_cases hk : (0 : Int) ∈ ks
    · simp [hk]
    · simp [hk, h 0]
      exact h 0
  · have hj2 : (j : Int) ≠ 0 := by omega
    have r : (if decide ((0 : Int) ∈ ks) = true ∧ j = 0 then nine else chunk zs j) = chunk zs j := if_neg (fun e => hj e.2)
    have u : (if (j : Int) = 0 then some nine else none) = (none : Option Sec) := if_neg hj2
    rw [r, ← h j, u]
    split <;> rfl
set_option maxRecDepth 100000 in
set_option maxHeartbeats 4000000 in
theorem kept_small (k f t e s : Int) (b : ByteArray) (hw : Fr.Wf ⟨k, f, t, e, s, b⟩) (hs : b.size ≤ maxLen) (a : Option Addr) (len cap : Nat) (ks : List Int) (w : World) (hz : IsZ w a len ks) (hbig : ¬ 600 < b.size) :
    Calls Try.prog 4 #[Fr.val ⟨k, f, t, e, s, b⟩, .slice a len cap] w fun e w' => e = .returned (.bool true) ∧ Below w.heap.size w w' := by
  rw [show Fr.val ⟨k, f, t, e, s, b⟩ = .agg #[.int .u8 k, .int .u8 f, .int .u8 t, .int .u32 e, .int .u32 s, .string b] from rfl]
  have HW := hid hw
  have HZ := hid hz
  have hb6 : (b.size : Int) ≤ 600 := by omega
  have hP0 : PB (w.alloc (.cells #[.int .u8 k, .int .u8 f, .int .u8 t, .int .u32 e, .int .u32 s, .string b] 43)) w.heap.size ⟨k, f, t, e, s, b⟩ := heap_alloc_new w _
  have hB0 : Below w.heap.size w (w.alloc (.cells #[.int .u8 k, .int .u8 f, .int .u8 t, .int .u32 e, .int .u32 s, .string b] 43)) := (Below.refl _ _).alloc (Nat.le_refl _) _
  have hS0 : (w.alloc (.cells #[.int .u8 k, .int .u8 f, .int .u8 t, .int .u32 e, .int .u32 s, .string b] 43)).heap.size = w.heap.size + 1 := by simp
  have HP0 := hid hP0
  have HB0 := hid hB0
  have HS0 := hid hS0
  have HE : Hid (∀ W, Calls Try.prog 15 #[.agg #[.int .u8 k, .int .u8 f, .int .u8 t, .int .u32 e, .int .u32 s, .string b]] W (EncPost ⟨k, f, t, e, s, b⟩ W)) := fun W => encode_c ⟨k, f, t, e, s, b⟩ hw hs W
  have HR : Hid (∀ W, Calls Try.prog 16 #[.agg #[.int .u8 k, .int .u8 f, .int .u8 t, .int .u32 e, .int .u32 s, .string b]] W fun e' w' => e' = .returned (.bool (Fr.rightB ⟨k, f, t, e, s, b⟩)) ∧ Below W.heap.size W w') := fun W => right_c ⟨k, f, t, e, s, b⟩ hw hs W
  clear hw hz hP0 hB0 hS0 hs
  go_enter Try.func4, Try.ntmps4
  go_wp2_with fail
  generalize (w.alloc (.cells #[.int .u8 k, .int .u8 f, .int .u8 t, .int .u32 e, .int .u32 s, .string b] 43)) = W0 at *
  refine (HE.out W0).mono ?_
  rintro _ w2 ⟨⟨hr, v, rfl, hown⟩ | ⟨hr, rfl⟩, hb2⟩
  case inr =>
    have HP2 := HP0.out.later hb2
    obtain ⟨d0, d1, d2, d3, d4, d5⟩ := HP2.cells
    have HBB := hid (HB0.out.trans (hb2.mono (by have := HS0.out; omega)))
    clear hb2
    go_wp2_with (go_at_call 16; refine (HR.out _).mono ?_; rintro _ w3 ⟨rfl, hb3⟩; rw [hr])
    go_ret
    exact ⟨rfl, HBB.out.trans (hb3.mono HBB.out.size)⟩
  have HP2 := hid (HP0.out.later hb2)
  have HB2 := hid (HB0.out.trans (hb2.mono (by have := HS0.out; omega)))
  have HS2 : Hid (w.heap.size + 1 ≤ w2.heap.size) := by have := hb2.size; have := HS0.out; show _ ≤ _; omega
  have HRT := hid hr
  have HLL : Hid ((Fr.enc ⟨k, f, t, e, s, b⟩).length = 19 + b.size) := Fr.enc_length ⟨k, f, t, e, s, b⟩
  obtain ⟨zs, ezs⟩ : ∃ zs, zs = Fr.enc ⟨k, f, t, e, s, b⟩ := ⟨_, rfl⟩
  have EZ := hid ezs
  rw [← ezs] at hown HLL
  obtain ⟨av, capv, rfl, hIB, hcapv⟩ := isB_pile (T := 0) (g := 0) (fun x hx => by rw [ezs] at hx; exact Fr.enc_byte _ HW.out x hx) hown
  have HY : Hid (∀ j, 0 ≤ zs.getD j 0 ∧ zs.getD j 0 ≤ 255) := hIB.2.2.2
  obtain ⟨gv, gov, rfl, hcv⟩ := hIB.2.2.1 (by rw [HLL.out]; omega)
  obtain ⟨L, eL⟩ : ∃ L, L = zs.length := ⟨_, rfl⟩
  rw [← eL] at hcv ⊢
  have HL : Hid (zs.length = L) := eL.symm
  have hL1 : 19 ≤ L := by have := HLL.out; omega
  have hL2 : L ≤ 619 := by have := HLL.out; omega
  have HCV := hid hcv
  have HGV : Hid (gv < w2.heap.size) := World.block_lt_of_cell? w2 _ (hcv 0 (by omega))
  clear hb2 hr hown hIB hcapv hcv eL ezs HE HR HP0 HB0 HS0 hbig
  go_wp2_with (go_at_call 14; refine (new_c 30 _ (by omega) (by omega)).mono ?_; rintro _ w3 ⟨rfl, hD3, hb3, hs3⟩)
  have HD3 := hid hD3
  have HB3 := hid hb3
  have HS3 := hid hs3
  clear hD3 hb3 hs3
  go_loopw [8] (fun i wr => ∃ (n : Nat) (c : Int → Option Sec), n ≤ 20 ∧ i = .int .i64 n ∧ Hid (IsD wr (w2.heap.size + 2) w2.heap.size (w2.heap.size + 1) 30 (fun _ => zsec) c) ∧ Hid (∀ j : Int, c j = if 0 ≤ j ∧ j < n then some (chunk zs j.toNat) else none) ∧ Hid (Below w2.heap.size w2 wr) ∧ Hid (w2.heap.size + 3 ≤ wr.heap.size)) (fun i _ => (20 - intOf i).toNat)
  case atStart =>
    exact ⟨0, fun _ => none, by omega, rfl, HD3, (fun j => by rw [if_neg (by omega)]), HB3, (by have := HS3.out; show _ ≤ _; omega)⟩
  case round =>
    obtain ⟨n, c, hn, rfl, HD, HC, HB, HS⟩ := hrel
    by_cases hlt : n * 32 < L
    · have zz := zlit
      have hltI : (n : Int) * 32 < (L : Int) := by omega
      go_wp2
      go_loopw [10] (fun kk wx => ∃ k : Nat, k ≤ 32 ∧ kk = .int .i64 k ∧ wx = wr.alloc (.cells ((part zs n k).map by8).toArray 27)) (fun kk _ => (32 - intOf kk).toNat)
      case atStart => exact ⟨0, by omega, rfl, by rw [part_zero]⟩
      case round =>
        obtain ⟨k, hk, rfl, rfl⟩ := hrel
        by_cases h1 : k < 32
        · by_cases h2 : n * 32 + k < L
          · have h2I : (n : Int) * 32 + (k : Int) < (L : Int) := by omega
            have hcv : (wr.alloc (.cells ((part zs n k).map by8).toArray 27)).cell? ⟨gv, gov + (n * 32 + k), none⟩ = some (.int .u8 (zs.getD (n * 32 + k) 0)) := by
              have := HCV.out (n * 32 + k) h2
              exact cell_later (((Below.refl _ _).alloc (Nat.le_refl _) _)) (by rw [← this]; exact World.cell?_of_block (HB.out.block gv HGV.out))
            have hcn := cell_new_at wr (part zs n k) 27 k (by rw [part_len]; exact h1)
            have hfn := fz_new_at wr ((part zs n k).map by8).toArray 27 k
            go_wp2
            go_roundw
            case rel => exact ⟨k + 1, by omega, by go_num, by rw [part_set2 zs n k h1]⟩
            case measure => simp [intOf]; omega
          · have h2I : ¬ (n : Int) * 32 + (k : Int) < (L : Int) := by omega
            have EP : Hid (part zs n k = chunk zs n) := part_end zs n k (by have := HL.out; omega)
            have hsec := part_sec zs HY.out n k
            have HO5 : Hid (Below wr.heap.size wr (wr.alloc (.cells ((part zs n k).map by8).toArray 27))) := (Below.refl _ _).alloc (Nat.le_refl _) _
            have WC := hid (write_c (HD.out.later HO5.out) (n : Int) (part zs n k) hsec (by omega) (by omega))
            go_wp2_with (first
              | (refine wpList_loadS _ rfl _ _ rfl sizeS Try.underlying27 _ rfl (part zs n k) hsec.1 _ _ (heap_alloc_new wr _) ?_)
              | (go_at_call 8; refine WC.out.mono ?_; rintro _ w4 ⟨rfl, hD4, ho4⟩))
            have HD4 := hid hD4
            have hb4 : Below w2.heap.size w2 w4 := HB.out.trans ((HO5.out.mono HB.out.size).trans (ho4.below (by have := HO5.out.size; have := HB.out.size; omega) (fun k e => by omega)))
            have hs4 : w2.heap.size + 3 ≤ w4.heap.size := by have := HO5.out.size; have := ho4.size; have := HS.out; omega
            go_roundw
            case rel =>
              refine ⟨n + 1, _, by omega, by go_num, HD4, fun j => ?_, hb4, hs4⟩
              unfold upd
              by_cases hj : j = (n : Int)
              · rw [if_pos hj, if_pos (by omega), hj, EP.out]; simp
              · rw [if_neg hj, HC.out j]
                by_cases hj2 : 0 ≤ j ∧ j < (n : Int)
                · rw [if_pos hj2, if_pos (by omega)]
                · rw [if_neg hj2, if_neg (by omega)]
            case measure => simp [intOf]; omega
        · have EP : Hid (part zs n k = chunk zs n) := part_end zs n k (by omega)
          have hsec := part_sec zs HY.out n k
          have HO5 : Hid (Below wr.heap.size wr (wr.alloc (.cells ((part zs n k).map by8).toArray 27))) := (Below.refl _ _).alloc (Nat.le_refl _) _
          have WC := hid (write_c (HD.out.later HO5.out) (n : Int) (part zs n k) hsec (by omega) (by omega))
          go_wp2_with (first
            | (refine wpList_loadS _ rfl _ _ rfl sizeS Try.underlying27 _ rfl (part zs n k) hsec.1 _ _ (heap_alloc_new wr _) ?_)
            | (go_at_call 8; refine WC.out.mono ?_; rintro _ w4 ⟨rfl, hD4, ho4⟩))
          have HD4 := hid hD4
          have hb4 : Below w2.heap.size w2 w4 := HB.out.trans ((HO5.out.mono HB.out.size).trans (ho4.below (by have := HO5.out.size; have := HB.out.size; omega) (fun k e => by omega)))
          have hs4 : w2.heap.size + 3 ≤ w4.heap.size := by have := HO5.out.size; have := ho4.size; have := HS.out; omega
          go_roundw
          case rel =>
            refine ⟨n + 1, _, by omega, by go_num, HD4, fun j => ?_, hb4, hs4⟩
            unfold upd
            by_cases hj : j = (n : Int)
            · rw [if_pos hj, if_pos (by omega), hj, EP.out]; simp
            · rw [if_neg hj, HC.out j]
              by_cases hj2 : 0 ≤ j ∧ j < (n : Int)
              · rw [if_pos hj2, if_pos (by omega)]
              · rw [if_neg hj2, if_neg (by omega)]
          case measure => simp [intOf]; omega
    · have hltI : ¬ (n : Int) * 32 < (L : Int) := by omega
      go_wp2_with fail
      refine (flush_c HD.out).mono ?_
      rintro _ w5 ⟨rfl, hD5, ho5⟩
      have HON : Hid (∀ j : Nat, (fun i : Int => (c i).getD zsec) (j : Int) = chunk zs j) := fun j => on_flushed HC.out (by have := HL.out; omega) j
      have hD5' : IsD w5 (w2.heap.size + 2) w2.heap.size (w2.heap.size + 1) 30 (fun i : Int => (c i).getD zsec) (fun _ => none) := hD5
      generalize (fun i : Int => (c i).getD zsec) = on5 at HON hD5'
      have WC := hid (write_c hD5' 0 nine nine_is (by omega) (by omega))
      have hb5 : Below w2.heap.size w2 w5 := HB.out.trans (ho5.below HB.out.size (fun k e => by omega))
      have hs5 : w2.heap.size + 3 ≤ w5.heap.size := by have := ho5.size; have := HS.out; omega
      have HB5 := hid hb5
      have HS5 := hid hs5
      clear hD5 ho5 hD5' hb5 hs5 HD HC HB HS HD3 HB3 HS3 hlt hltI hn
      unfold secV at WC
      have zz := nlit
      go_wp2_with (go_at_call 8; refine WC.out.mono ?_; rintro _ w6 ⟨rfl, hD6, ho6⟩)
      have HD6 := hid hD6
      have hb6' : Below w2.heap.size w2 w6 := HB5.out.trans (ho6.below HB5.out.size (fun k e => by omega))
      have hs6 : w2.heap.size + 3 ≤ w6.heap.size := by have := ho6.size; have := HS5.out; omega
      have HB6 := hid hb6'
      have HS6 := hid hs6
      have HZ6 : Hid (IsZ w6 a len ks) := HZ.out.later (HB2.out.trans (hb6'.mono (by have := HS2.out; omega)))
      have hlm : len ≤ maxLen := HZ.out.2.1
      unfold maxLen at hlm
      have HLK := hid HZ.out.1
      clear hD6 ho6 hb6' hs6 WC HB5 HS5 zz
      go_loop [11, 12] (fun lo i => ∃ m : Nat, m ≤ len ∧ i = .int .i64 m ∧ lo = .bool (lostB ks m)) (fun _ i => (len - intOf i).toNat)
      case atStart => exact ⟨0, by omega, rfl, by rw [lost_zero]⟩
      case round =>
        obtain ⟨m, hm, rfl, rfl⟩ := hrel
        by_cases hml : m < len
        · obtain ⟨zb, zo, ea, hcz⟩ := HZ6.out.2.2.1 (by omega)
          have hcz1 := hcz m hml
          have HLS := hid (lost_succ ks m (by have := HLK.out; omega))
          obtain ⟨z, ez⟩ : ∃ z, z = ks.getD m 0 := ⟨_, rfl⟩
          rw [← ez] at hcz1 HLS
          rw [ea]
          clear hcz ez
          cases hlo : lostB ks m with
          | false =>
            rw [hlo] at HLS
            go_wp2
            go_round
            case rel => exact ⟨m + 1, by omega, by go_num, by rw [HLS.out]; rfl⟩
            case measure => simp [intOf]; omega
          | true =>
            rw [hlo] at HLS
            by_cases hz0 : z = 0
            · have hzb : (z == 0) = true := by simp [hz0]
              have HZ0 := hid hz0
              clear hz0
              go_wp2
              go_round
              case rel => exact ⟨m + 1, by omega, by go_num, by rw [HLS.out, HZ0.out]; first | rfl | simp⟩
              case measure => simp [intOf]; omega
            · have hzb : (z == 0) = false := by simp [hz0]
              have HZ0 := hid hz0
              go_wp2
              go_round
              case rel => exact ⟨m + 1, by omega, by go_num, by rw [HLS.out]; simp [HZ0.out]⟩
              case measure => simp [intOf]; omega
        · have HLO := hid (lost_all ks m (by have := HLK.out; omega))
          obtain ⟨B, eB⟩ : ∃ B, B = decide ((0 : Int) ∈ ks) := ⟨_, rfl⟩
          rw [← eB] at HLO
          rw [HLO.out]
          obtain ⟨on7, e7⟩ : ∃ on7 : Int → Sec, on7 = fun i : Int => if i ∈ ks then ((upd (fun _ => none) 0 (some nine)) i).getD (on5 i) else on5 i := ⟨_, rfl⟩
          have HOC : Hid (∀ j : Nat, on7 (j : Int) = after zs B j) := fun j => by rw [eB, e7]; exact on_crashed HON.out j
          have E7 := hid e7
          clear e7
          have CC := hid (crash_c HD6.out a len cap ks HZ6.out)
          clear HLO HD6 HZ6 HLK eB
          go_wp2_with (go_at_call 10; refine CC.out.mono ?_; rintro _ w7 ⟨rfl, hD7, ho7⟩)
          have hD7' : IsD w7 (w2.heap.size + 2) w2.heap.size (w2.heap.size + 1) 30 on7 (fun _ => none) := by rw [E7.out]; exact hD7
          have HD7 := hid hD7'
          have hb7 : Below w2.heap.size w2 w7 := HB6.out.trans (ho7.below HB6.out.size (fun k e => by omega))
          have hs7 : w2.heap.size + 3 ≤ w7.heap.size := by have := ho7.size; have := HS6.out; omega
          have HB7 := hid hb7
          have HS7 := hid hs7
          clear hD7 ho7 hD7' hb7 hs7 HB6 HS6 CC HON
          obtain ⟨i0, hi, hz0, hz1, hz2⟩ := info_parts8
          go_loopw [13, 14] (fun v i wr => ∃ j : Nat, j ≤ 30 ∧ i = .int .i64 j ∧ Hid (IsD wr (w2.heap.size + 2) w2.heap.size (w2.heap.size + 1) 30 on7 (fun _ => none)) ∧ wr.ownsRow w7.heap.size 5 1 v (32 * j) ((flat (after zs B) j).map u8V) ∧ Hid (Below w7.heap.size w7 wr)) (fun _ i _ => (30 - intOf i).toNat)
          case atStart => exact ⟨0, by omega, rfl, HD7, World.ownsRow_nil _ _ _ _, Below.refl _ _⟩
          case round =>
            obtain ⟨j, hj, rfl, HD, hown, HB⟩ := hrel
            by_cases hj3 : j < 30
            · have RC := hid (read_c HD.out (j : Int) (by omega) (by omega))
              have hoj := HOC.out j
              simp only [Option.getD_none] at RC
              rw [hoj] at RC
              have hal := after_len zs B j
              have HAS := hid (flat_succ (after zs B) j)
              obtain ⟨sj, esj⟩ : ∃ sj, sj = after zs B j := ⟨_, rfl⟩
              obtain ⟨fj, efj⟩ : ∃ fj, fj = flat (after zs B) j := ⟨_, rfl⟩
              rw [← esj] at RC hal HAS
              rw [← efj] at hown HAS
              clear hoj esj efj
              have zz := zlit
              go_wp2_with (first
                | (go_at_call 6; refine RC.out.mono ?_; rintro _ w8 ⟨rfl, hb8⟩)
                | (refine wpList_storeS _ rfl _ _ _ rfl sizeS _ rfl (by simp) sj rfl hal _ (by simp; decide) ?_)
                | (at_builtin; refine wpList_append_own _ rfl _ _ 44 rfl w7.heap.size 5 i0 (.int .u8 0) 1 1 Try.underlying44 hi hz0 hz1 hz2 rfl (by decide) _ _ _ rfl ((own_ltr hown hb8).alloc _) ⟨w8.heap.size, 0, none⟩ 32 32 (sj.map u8V) rfl (by rw [List.length_map, hal]) (new_sec w8 sj _) (fun y hy => by obtain ⟨x, _, rfl⟩ := List.mem_map.1 hy; rfl) (by unfold maxLen; omega) (by omega) (by have := HB.out.size; have := hb8.size; simp; omega) ?_; intro v9 w9 hown9 hgrow9 hnil9))
              have HB8 := hid (HB.out.trans (hb8.mono HB.out.size))
              have hrow := hown.lt
              have hs9 : w7.heap.size ≤ w8.heap.size := HB8.out.size
              have ho9 : Out (fun q => w7.heap.size ≤ q) w8 w9 := ((Out.refl _ w8).alloc _).trans (Out.grown hgrow9 (fun q hq => (hrow q hq).1))
              go_roundw
              case rel =>
                have hn7 := HS7.out
                refine ⟨j + 1, by omega, by go_num, (HD.out.later hb8).out ho9 (by omega) (by omega) (by omega), ?_, HB8.out.trans (ho9.below hs9 (fun _ h => h))⟩
                rw [HAS.out, List.map_append]
                exact hown9
              case measure => simp [intOf]; omega
            · have ej : j = 30 := by omega
              subst ej
              have HFL := hid (flat_len (after zs B) (after_len zs B) 30)
              obtain ⟨fj, efj⟩ : ∃ fj, fj = flat (after zs B) 30 := ⟨_, rfl⟩
              rw [← efj] at hown HFL
              have HFJ := hid efj
              have hfl : fj.length = 32 * 30 := HFL.out
              rw [← hfl] at hown
              have HBYT : ∀ x ∈ fj, 0 ≤ x ∧ x ≤ 255 := by
                intro x hx
                rw [efj] at hx
                unfold flat at hx
                obtain ⟨q, _, hq⟩ := List.mem_flatMap.1 hx
                unfold after at hq
                split at hq
                · have := nine_is.2 x hq; omega
                · have := (part_sec zs HY.out q 32).2 x hq; omega
              obtain ⟨ac, capc, rfl, hIC, hcapc⟩ := isB_pile (T := 0) (g := 0) HBYT hown
              have CT := hid (cut_c ac fj.length capc fj wr hIC hcapc (by omega))
              rw [hfl] at CT ⊢
              have HBW := hid (HB2.out.trans ((HB7.out.trans (HB.out.mono (by have := HS7.out; omega))).mono (by have := HS2.out; omega)))
              have HPW : Hid (PB wr w.heap.size ⟨k, f, t, e, s, b⟩) := HP2.out.later (HB7.out.trans (HB.out.mono (by have := HS7.out; omega)))
              have hwl : w.heap.size < wr.heap.size := HPW.out.lt
              clear hown HBYT hIC hcapc hfl efj HD HB HD7 HB7 hi hz0 hz1 hz2 HFL
              go_wp2_with fail
              refine CT.out.mono ?_
              rintro _ w9 ⟨⟨p', v', hp', rfl, _⟩ | ⟨hno, rfl⟩, hb9⟩
              · have hBf : B = false := by
                  cases B with
                  | false => rfl
                  | true =>
                    obtain ⟨r, er⟩ := after_true zs 30 (by omega)
                    rw [HFJ.out, er] at hp'
                    exact absurd hp' no_begins_nine
                subst hBf
                have e1 : p' = ⟨k, f, t, e, s, b⟩ := by
                  have h1 := begins_kept HW.out HRT.out 30 (by have := HLL.out; rw [← EZ.out]; omega)
                  rw [← EZ.out, ← HFJ.out] at h1
                  exact Fr.begins_one hp' h1
                subst e1
                have hP9 := HPW.out.later hb9
                obtain ⟨d0, d1, d2, d3, d4, d5⟩ := hP9.cells
                have hwl9 : w.heap.size < w9.heap.size := Nat.lt_of_lt_of_le hwl hb9.size
                rw [show Fr.val ⟨k, f, t, e, s, b⟩ = .agg #[.int .u8 k, .int .u8 f, .int .u8 t, .int .u32 e, .int .u32 s, .string b] from rfl]
                have HB9 := hid (HBW.out.trans (hb9.mono HBW.out.size))
                clear hp' hb9 hP9
                go_wp2
                go_ret
                exact ⟨by simp, HB9.out.alloc HB9.out.size _⟩
              · have hBt : B = true := by
                  cases B with
                  | true => rfl
                  | false =>
                    have h1 := begins_kept HW.out HRT.out 30 (by have := HLL.out; rw [← EZ.out]; omega)
                    rw [← EZ.out, ← HFJ.out] at h1
                    exact absurd h1 (hno _)
                subst hBt
                rw [show noPk = .agg #[.int .u8 0, .int .u8 0, .int .u8 0, .int .u32 0, .int .u32 0, .string ⟨#[]⟩] from rfl]
                have HB9 := hid (HBW.out.trans (hb9.mono HBW.out.size))
                clear hno hb9
                go_wp2
                go_ret
                exact ⟨by simp, HB9.out.alloc HB9.out.size _⟩
set_option maxRecDepth 100000 in
set_option maxHeartbeats 4000000 in
theorem kept_big (k f t e s : Int) (bo : ByteArray) (hw0 : Fr.Wf ⟨k, f, t, e, s, bo⟩) (hs0 : bo.size ≤ maxLen) (a : Option Addr) (len cap : Nat) (ks : List Int) (w : World) (hz : IsZ w a len ks) (hbig0 : 600 < bo.size) :
    Calls Try.prog 4 #[Fr.val ⟨k, f, t, e, s, bo⟩, .slice a len cap] w fun e w' => e = .returned (.bool true) ∧ Below w.heap.size w w' := by
  rw [show Fr.val ⟨k, f, t, e, s, bo⟩ = .agg #[.int .u8 k, .int .u8 f, .int .u8 t, .int .u32 e, .int .u32 s, .string bo] from rfl]
  obtain ⟨b, eb⟩ : ∃ b, bo.extract 0 600 = b := ⟨_, rfl⟩
  have hbsz : b.size = 600 := by rw [← eb, ByteArray.size_extract]; omega
  have hw : Fr.Wf ⟨k, f, t, e, s, b⟩ := hw0
  have hs : b.size ≤ maxLen := by unfold maxLen; omega
  have hbig : ¬ 600 < b.size := by omega
  have hbI : (600 : Int) < (bo.size : Int) := by omega
  have HW := hid hw
  have HZ := hid hz
  have hb6 : (b.size : Int) ≤ 600 := by omega
  have hP0 : PB (w.alloc (.cells #[.int .u8 k, .int .u8 f, .int .u8 t, .int .u32 e, .int .u32 s, .string b] 43)) w.heap.size ⟨k, f, t, e, s, b⟩ := heap_alloc_new w _
  have hB0 : Below w.heap.size w (w.alloc (.cells #[.int .u8 k, .int .u8 f, .int .u8 t, .int .u32 e, .int .u32 s, .string b] 43)) := (Below.refl _ _).alloc (Nat.le_refl _) _
  have hS0 : (w.alloc (.cells #[.int .u8 k, .int .u8 f, .int .u8 t, .int .u32 e, .int .u32 s, .string b] 43)).heap.size = w.heap.size + 1 := by simp
  have HP0 := hid hP0
  have HB0 := hid hB0
  have HS0 := hid hS0
  have HE : Hid (∀ W, Calls Try.prog 15 #[.agg #[.int .u8 k, .int .u8 f, .int .u8 t, .int .u32 e, .int .u32 s, .string b]] W (EncPost ⟨k, f, t, e, s, b⟩ W)) := fun W => encode_c ⟨k, f, t, e, s, b⟩ hw hs W
  have HR : Hid (∀ W, Calls Try.prog 16 #[.agg #[.int .u8 k, .int .u8 f, .int .u8 t, .int .u32 e, .int .u32 s, .string b]] W fun e' w' => e' = .returned (.bool (Fr.rightB ⟨k, f, t, e, s, b⟩)) ∧ Below W.heap.size W w') := fun W => right_c ⟨k, f, t, e, s, b⟩ hw hs W
  clear hw hz hP0 hB0 hS0 hs hw0 hs0 hbsz
  go_enter Try.func4, Try.ntmps4
  go_wp2_with fail
  generalize (w.alloc (.cells #[.int .u8 k, .int .u8 f, .int .u8 t, .int .u32 e, .int .u32 s, .string b] 43)) = W0 at *
  refine (HE.out W0).mono ?_
  rintro _ w2 ⟨⟨hr, v, rfl, hown⟩ | ⟨hr, rfl⟩, hb2⟩
  case inr =>
    have HP2 := HP0.out.later hb2
    obtain ⟨d0, d1, d2, d3, d4, d5⟩ := HP2.cells
    have HBB := hid (HB0.out.trans (hb2.mono (by have := HS0.out; omega)))
    clear hb2
    go_wp2_with (go_at_call 16; refine (HR.out _).mono ?_; rintro _ w3 ⟨rfl, hb3⟩; rw [hr])
    go_ret
    exact ⟨rfl, HBB.out.trans (hb3.mono HBB.out.size)⟩
  have HP2 := hid (HP0.out.later hb2)
  have HB2 := hid (HB0.out.trans (hb2.mono (by have := HS0.out; omega)))
  have HS2 : Hid (w.heap.size + 1 ≤ w2.heap.size) := by have := hb2.size; have := HS0.out; show _ ≤ _; omega
  have HRT := hid hr
  have HLL : Hid ((Fr.enc ⟨k, f, t, e, s, b⟩).length = 19 + b.size) := Fr.enc_length ⟨k, f, t, e, s, b⟩
  obtain ⟨zs, ezs⟩ : ∃ zs, zs = Fr.enc ⟨k, f, t, e, s, b⟩ := ⟨_, rfl⟩
  have EZ := hid ezs
  rw [← ezs] at hown HLL
  obtain ⟨av, capv, rfl, hIB, hcapv⟩ := isB_pile (T := 0) (g := 0) (fun x hx => by rw [ezs] at hx; exact Fr.enc_byte _ HW.out x hx) hown
  have HY : Hid (∀ j, 0 ≤ zs.getD j 0 ∧ zs.getD j 0 ≤ 255) := hIB.2.2.2
  obtain ⟨gv, gov, rfl, hcv⟩ := hIB.2.2.1 (by rw [HLL.out]; omega)
  obtain ⟨L, eL⟩ : ∃ L, L = zs.length := ⟨_, rfl⟩
  rw [← eL] at hcv ⊢
  have HL : Hid (zs.length = L) := eL.symm
  have hL1 : 19 ≤ L := by have := HLL.out; omega
  have hL2 : L ≤ 619 := by have := HLL.out; omega
  have HCV := hid hcv
  have HGV : Hid (gv < w2.heap.size) := World.block_lt_of_cell? w2 _ (hcv 0 (by omega))
  clear hb2 hr hown hIB hcapv hcv eL ezs HE HR HP0 HB0 HS0 hbig
  go_wp2_with (go_at_call 14; refine (new_c 30 _ (by omega) (by omega)).mono ?_; rintro _ w3 ⟨rfl, hD3, hb3, hs3⟩)
  have HD3 := hid hD3
  have HB3 := hid hb3
  have HS3 := hid hs3
  clear hD3 hb3 hs3
  go_loopw [8] (fun i wr => ∃ (n : Nat) (c : Int → Option Sec), n ≤ 20 ∧ i = .int .i64 n ∧ Hid (IsD wr (w2.heap.size + 2) w2.heap.size (w2.heap.size + 1) 30 (fun _ => zsec) c) ∧ Hid (∀ j : Int, c j = if 0 ≤ j ∧ j < n then some (chunk zs j.toNat) else none) ∧ Hid (Below w2.heap.size w2 wr) ∧ Hid (w2.heap.size + 3 ≤ wr.heap.size)) (fun i _ => (20 - intOf i).toNat)
  case atStart =>
    exact ⟨0, fun _ => none, by omega, rfl, HD3, (fun j => by rw [if_neg (by omega)]), HB3, (by have := HS3.out; show _ ≤ _; omega)⟩
  case round =>
    obtain ⟨n, c, hn, rfl, HD, HC, HB, HS⟩ := hrel
    by_cases hlt : n * 32 < L
    · have zz := zlit
      have hltI : (n : Int) * 32 < (L : Int) := by omega
      go_wp2
      go_loopw [10] (fun kk wx => ∃ k : Nat, k ≤ 32 ∧ kk = .int .i64 k ∧ wx = wr.alloc (.cells ((part zs n k).map by8).toArray 27)) (fun kk _ => (32 - intOf kk).toNat)
      case atStart => exact ⟨0, by omega, rfl, by rw [part_zero]⟩
      case round =>
        obtain ⟨k, hk, rfl, rfl⟩ := hrel
        by_cases h1 : k < 32
        · by_cases h2 : n * 32 + k < L
          · have h2I : (n : Int) * 32 + (k : Int) < (L : Int) := by omega
            have hcv : (wr.alloc (.cells ((part zs n k).map by8).toArray 27)).cell? ⟨gv, gov + (n * 32 + k), none⟩ = some (.int .u8 (zs.getD (n * 32 + k) 0)) := by
              have := HCV.out (n * 32 + k) h2
              exact cell_later (((Below.refl _ _).alloc (Nat.le_refl _) _)) (by rw [← this]; exact World.cell?_of_block (HB.out.block gv HGV.out))
            have hcn := cell_new_at wr (part zs n k) 27 k (by rw [part_len]; exact h1)
            have hfn := fz_new_at wr ((part zs n k).map by8).toArray 27 k
            go_wp2
            go_roundw
            case rel => exact ⟨k + 1, by omega, by go_num, by rw [part_set2 zs n k h1]⟩
            case measure => simp [intOf]; omega
          · have h2I : ¬ (n : Int) * 32 + (k : Int) < (L : Int) := by omega
            have EP : Hid (part zs n k = chunk zs n) := part_end zs n k (by have := HL.out; omega)
            have hsec := part_sec zs HY.out n k
            have HO5 : Hid (Below wr.heap.size wr (wr.alloc (.cells ((part zs n k).map by8).toArray 27))) := (Below.refl _ _).alloc (Nat.le_refl _) _
            have WC := hid (write_c (HD.out.later HO5.out) (n : Int) (part zs n k) hsec (by omega) (by omega))
            go_wp2_with (first
              | (refine wpList_loadS _ rfl _ _ rfl sizeS Try.underlying27 _ rfl (part zs n k) hsec.1 _ _ (heap_alloc_new wr _) ?_)
              | (go_at_call 8; refine WC.out.mono ?_; rintro _ w4 ⟨rfl, hD4, ho4⟩))
            have HD4 := hid hD4
            have hb4 : Below w2.heap.size w2 w4 := HB.out.trans ((HO5.out.mono HB.out.size).trans (ho4.below (by have := HO5.out.size; have := HB.out.size; omega) (fun k e => by omega)))
            have hs4 : w2.heap.size + 3 ≤ w4.heap.size := by have := HO5.out.size; have := ho4.size; have := HS.out; omega
            go_roundw
            case rel =>
              refine ⟨n + 1, _, by omega, by go_num, HD4, fun j => ?_, hb4, hs4⟩
              unfold upd
              by_cases hj : j = (n : Int)
              · rw [if_pos hj, if_pos (by omega), hj, EP.out]; simp
              · rw [if_neg hj, HC.out j]
                by_cases hj2 : 0 ≤ j ∧ j < (n : Int)
                · rw [if_pos hj2, if_pos (by omega)]
                · rw [if_neg hj2, if_neg (by omega)]
            case measure => simp [intOf]; omega
        · have EP : Hid (part zs n k = chunk zs n) := part_end zs n k (by omega)
          have hsec := part_sec zs HY.out n k
          have HO5 : Hid (Below wr.heap.size wr (wr.alloc (.cells ((part zs n k).map by8).toArray 27))) := (Below.refl _ _).alloc (Nat.le_refl _) _
          have WC := hid (write_c (HD.out.later HO5.out) (n : Int) (part zs n k) hsec (by omega) (by omega))
          go_wp2_with (first
            | (refine wpList_loadS _ rfl _ _ rfl sizeS Try.underlying27 _ rfl (part zs n k) hsec.1 _ _ (heap_alloc_new wr _) ?_)
            | (go_at_call 8; refine WC.out.mono ?_; rintro _ w4 ⟨rfl, hD4, ho4⟩))
          have HD4 := hid hD4
          have hb4 : Below w2.heap.size w2 w4 := HB.out.trans ((HO5.out.mono HB.out.size).trans (ho4.below (by have := HO5.out.size; have := HB.out.size; omega) (fun k e => by omega)))
          have hs4 : w2.heap.size + 3 ≤ w4.heap.size := by have := HO5.out.size; have := ho4.size; have := HS.out; omega
          go_roundw
          case rel =>
            refine ⟨n + 1, _, by omega, by go_num, HD4, fun j => ?_, hb4, hs4⟩
            unfold upd
            by_cases hj : j = (n : Int)
            · rw [if_pos hj, if_pos (by omega), hj, EP.out]; simp
            · rw [if_neg hj, HC.out j]
              by_cases hj2 : 0 ≤ j ∧ j < (n : Int)
              · rw [if_pos hj2, if_pos (by omega)]
              · rw [if_neg hj2, if_neg (by omega)]
          case measure => simp [intOf]; omega
    · have hltI : ¬ (n : Int) * 32 < (L : Int) := by omega
      go_wp2_with fail
      refine (flush_c HD.out).mono ?_
      rintro _ w5 ⟨rfl, hD5, ho5⟩
      have HON : Hid (∀ j : Nat, (fun i : Int => (c i).getD zsec) (j : Int) = chunk zs j) := fun j => on_flushed HC.out (by have := HL.out; omega) j
      have hD5' : IsD w5 (w2.heap.size + 2) w2.heap.size (w2.heap.size + 1) 30 (fun i : Int => (c i).getD zsec) (fun _ => none) := hD5
      generalize (fun i : Int => (c i).getD zsec) = on5 at HON hD5'
      have WC := hid (write_c hD5' 0 nine nine_is (by omega) (by omega))
      have hb5 : Below w2.heap.size w2 w5 := HB.out.trans (ho5.below HB.out.size (fun k e => by omega))
      have hs5 : w2.heap.size + 3 ≤ w5.heap.size := by have := ho5.size; have := HS.out; omega
      have HB5 := hid hb5
      have HS5 := hid hs5
      clear hD5 ho5 hD5' hb5 hs5 HD HC HB HS HD3 HB3 HS3 hlt hltI hn
      unfold secV at WC
      have zz := nlit
      go_wp2_with (go_at_call 8; refine WC.out.mono ?_; rintro _ w6 ⟨rfl, hD6, ho6⟩)
      have HD6 := hid hD6
      have hb6' : Below w2.heap.size w2 w6 := HB5.out.trans (ho6.below HB5.out.size (fun k e => by omega))
      have hs6 : w2.heap.size + 3 ≤ w6.heap.size := by have := ho6.size; have := HS5.out; omega
      have HB6 := hid hb6'
      have HS6 := hid hs6
      have HZ6 : Hid (IsZ w6 a len ks) := HZ.out.later (HB2.out.trans (hb6'.mono (by have := HS2.out; omega)))
      have hlm : len ≤ maxLen := HZ.out.2.1
      unfold maxLen at hlm
      have HLK := hid HZ.out.1
      clear hD6 ho6 hb6' hs6 WC HB5 HS5 zz
      go_loop [11, 12] (fun lo i => ∃ m : Nat, m ≤ len ∧ i = .int .i64 m ∧ lo = .bool (lostB ks m)) (fun _ i => (len - intOf i).toNat)
      case atStart => exact ⟨0, by omega, rfl, by rw [lost_zero]⟩
      case round =>
        obtain ⟨m, hm, rfl, rfl⟩ := hrel
        by_cases hml : m < len
        · obtain ⟨zb, zo, ea, hcz⟩ := HZ6.out.2.2.1 (by omega)
          have hcz1 := hcz m hml
          have HLS := hid (lost_succ ks m (by have := HLK.out; omega))
          obtain ⟨z, ez⟩ : ∃ z, z = ks.getD m 0 := ⟨_, rfl⟩
          rw [← ez] at hcz1 HLS
          rw [ea]
          clear hcz ez
          cases hlo : lostB ks m with
          | false =>
            rw [hlo] at HLS
            go_wp2
            go_round
            case rel => exact ⟨m + 1, by omega, by go_num, by rw [HLS.out]; rfl⟩
            case measure => simp [intOf]; omega
          | true =>
            rw [hlo] at HLS
            by_cases hz0 : z = 0
            · have hzb : (z == 0) = true := by simp [hz0]
              have HZ0 := hid hz0
              clear hz0
              go_wp2
              go_round
              case rel => exact ⟨m + 1, by omega, by go_num, by rw [HLS.out, HZ0.out]; first | rfl | simp⟩
              case measure => simp [intOf]; omega
            · have hzb : (z == 0) = false := by simp [hz0]
              have HZ0 := hid hz0
              go_wp2
              go_round
              case rel => exact ⟨m + 1, by omega, by go_num, by rw [HLS.out]; simp [HZ0.out]⟩
              case measure => simp [intOf]; omega
        · have HLO := hid (lost_all ks m (by have := HLK.out; omega))
          obtain ⟨B, eB⟩ : ∃ B, B = decide ((0 : Int) ∈ ks) := ⟨_, rfl⟩
          rw [← eB] at HLO
          rw [HLO.out]
          obtain ⟨on7, e7⟩ : ∃ on7 : Int → Sec, on7 = fun i : Int => if i ∈ ks then ((upd (fun _ => none) 0 (some nine)) i).getD (on5 i) else on5 i := ⟨_, rfl⟩
          have HOC : Hid (∀ j : Nat, on7 (j : Int) = after zs B j) := fun j => by rw [eB, e7]; exact on_crashed HON.out j
          have E7 := hid e7
          clear e7
          have CC := hid (crash_c HD6.out a len cap ks HZ6.out)
          clear HLO HD6 HZ6 HLK eB
          go_wp2_with (go_at_call 10; refine CC.out.mono ?_; rintro _ w7 ⟨rfl, hD7, ho7⟩)
          have hD7' : IsD w7 (w2.heap.size + 2) w2.heap.size (w2.heap.size + 1) 30 on7 (fun _ => none) := by rw [E7.out]; exact hD7
          have HD7 := hid hD7'
          have hb7 : Below w2.heap.size w2 w7 := HB6.out.trans (ho7.below HB6.out.size (fun k e => by omega))
          have hs7 : w2.heap.size + 3 ≤ w7.heap.size := by have := ho7.size; have := HS6.out; omega
          have HB7 := hid hb7
          have HS7 := hid hs7
          clear hD7 ho7 hD7' hb7 hs7 HB6 HS6 CC HON
          obtain ⟨i0, hi, hz0, hz1, hz2⟩ := info_parts8
          go_loopw [13, 14] (fun v i wr => ∃ j : Nat, j ≤ 30 ∧ i = .int .i64 j ∧ Hid (IsD wr (w2.heap.size + 2) w2.heap.size (w2.heap.size + 1) 30 on7 (fun _ => none)) ∧ wr.ownsRow w7.heap.size 5 1 v (32 * j) ((flat (after zs B) j).map u8V) ∧ Hid (Below w7.heap.size w7 wr)) (fun _ i _ => (30 - intOf i).toNat)
          case atStart => exact ⟨0, by omega, rfl, HD7, World.ownsRow_nil _ _ _ _, Below.refl _ _⟩
          case round =>
            obtain ⟨j, hj, rfl, HD, hown, HB⟩ := hrel
            by_cases hj3 : j < 30
            · have RC := hid (read_c HD.out (j : Int) (by omega) (by omega))
              have hoj := HOC.out j
              simp only [Option.getD_none] at RC
              rw [hoj] at RC
              have hal := after_len zs B j
              have HAS := hid (flat_succ (after zs B) j)
              obtain ⟨sj, esj⟩ : ∃ sj, sj = after zs B j := ⟨_, rfl⟩
              obtain ⟨fj, efj⟩ : ∃ fj, fj = flat (after zs B) j := ⟨_, rfl⟩
              rw [← esj] at RC hal HAS
              rw [← efj] at hown HAS
              clear hoj esj efj
              have zz := zlit
              go_wp2_with (first
                | (go_at_call 6; refine RC.out.mono ?_; rintro _ w8 ⟨rfl, hb8⟩)
                | (refine wpList_storeS _ rfl _ _ _ rfl sizeS _ rfl (by simp) sj rfl hal _ (by simp; decide) ?_)
                | (at_builtin; refine wpList_append_own _ rfl _ _ 44 rfl w7.heap.size 5 i0 (.int .u8 0) 1 1 Try.underlying44 hi hz0 hz1 hz2 rfl (by decide) _ _ _ rfl ((own_ltr hown hb8).alloc _) ⟨w8.heap.size, 0, none⟩ 32 32 (sj.map u8V) rfl (by rw [List.length_map, hal]) (new_sec w8 sj _) (fun y hy => by obtain ⟨x, _, rfl⟩ := List.mem_map.1 hy; rfl) (by unfold maxLen; omega) (by omega) (by have := HB.out.size; have := hb8.size; simp; omega) ?_; intro v9 w9 hown9 hgrow9 hnil9))
              have HB8 := hid (HB.out.trans (hb8.mono HB.out.size))
              have hrow := hown.lt
              have hs9 : w7.heap.size ≤ w8.heap.size := HB8.out.size
              have ho9 : Out (fun q => w7.heap.size ≤ q) w8 w9 := ((Out.refl _ w8).alloc _).trans (Out.grown hgrow9 (fun q hq => (hrow q hq).1))
              go_roundw
              case rel =>
                have hn7 := HS7.out
                refine ⟨j + 1, by omega, by go_num, (HD.out.later hb8).out ho9 (by omega) (by omega) (by omega), ?_, HB8.out.trans (ho9.below hs9 (fun _ h => h))⟩
                rw [HAS.out, List.map_append]
                exact hown9
              case measure => simp [intOf]; omega
            · have ej : j = 30 := by omega
              subst ej
              have HFL := hid (flat_len (after zs B) (after_len zs B) 30)
              obtain ⟨fj, efj⟩ : ∃ fj, fj = flat (after zs B) 30 := ⟨_, rfl⟩
              rw [← efj] at hown HFL
              have HFJ := hid efj
              have hfl : fj.length = 32 * 30 := HFL.out
              rw [← hfl] at hown
              have HBYT : ∀ x ∈ fj, 0 ≤ x ∧ x ≤ 255 := by
                intro x hx
                rw [efj] at hx
                unfold flat at hx
                obtain ⟨q, _, hq⟩ := List.mem_flatMap.1 hx
                unfold after at hq
                split at hq
                · have := nine_is.2 x hq; omega
                · have := (part_sec zs HY.out q 32).2 x hq; omega
              obtain ⟨ac, capc, rfl, hIC, hcapc⟩ := isB_pile (T := 0) (g := 0) HBYT hown
              have CT := hid (cut_c ac fj.length capc fj wr hIC hcapc (by omega))
              rw [hfl] at CT ⊢
              have HBW := hid (HB2.out.trans ((HB7.out.trans (HB.out.mono (by have := HS7.out; omega))).mono (by have := HS2.out; omega)))
              have HPW : Hid (PB wr w.heap.size ⟨k, f, t, e, s, b⟩) := HP2.out.later (HB7.out.trans (HB.out.mono (by have := HS7.out; omega)))
              have hwl : w.heap.size < wr.heap.size := HPW.out.lt
              clear hown HBYT hIC hcapc hfl efj HD HB HD7 HB7 hi hz0 hz1 hz2 HFL
              go_wp2_with fail
              refine CT.out.mono ?_
              rintro _ w9 ⟨⟨p', v', hp', rfl, _⟩ | ⟨hno, rfl⟩, hb9⟩
              · have hBf : B = false := by
                  cases B with
                  | false => rfl
                  | true =>
                    obtain ⟨r, er⟩ := after_true zs 30 (by omega)
                    rw [HFJ.out, er] at hp'
                    exact absurd hp' no_begins_nine
                subst hBf
                have e1 : p' = ⟨k, f, t, e, s, b⟩ := by
                  have h1 := begins_kept HW.out HRT.out 30 (by have := HLL.out; rw [← EZ.out]; omega)
                  rw [← EZ.out, ← HFJ.out] at h1
                  exact Fr.begins_one hp' h1
                subst e1
                have hP9 := HPW.out.later hb9
                obtain ⟨d0, d1, d2, d3, d4, d5⟩ := hP9.cells
                have hwl9 : w.heap.size < w9.heap.size := Nat.lt_of_lt_of_le hwl hb9.size
                rw [show Fr.val ⟨k, f, t, e, s, b⟩ = .agg #[.int .u8 k, .int .u8 f, .int .u8 t, .int .u32 e, .int .u32 s, .string b] from rfl]
                have HB9 := hid (HBW.out.trans (hb9.mono HBW.out.size))
                clear hp' hb9 hP9
                go_wp2
                go_ret
                exact ⟨by simp, HB9.out.alloc HB9.out.size _⟩
              · have hBt : B = true := by
                  cases B with
                  | true => rfl
                  | false =>
                    have h1 := begins_kept HW.out HRT.out 30 (by have := HLL.out; rw [← EZ.out]; omega)
                    rw [← EZ.out, ← HFJ.out] at h1
                    exact absurd h1 (hno _)
                subst hBt
                rw [show noPk = .agg #[.int .u8 0, .int .u8 0, .int .u8 0, .int .u32 0, .int .u32 0, .string ⟨#[]⟩] from rfl]
                have HB9 := hid (HBW.out.trans (hb9.mono HBW.out.size))
                clear hno hb9
                go_wp2
                go_ret
                exact ⟨by simp, HB9.out.alloc HB9.out.size _⟩
theorem topKept_walk (p : Fr.Pk) (hw : Fr.Wf p) (hs : p.b.size ≤ maxLen) (a : Option Addr) (len cap : Nat) (ks : List Int) (w : World) (hz : IsZ w a len ks) :
    Calls Try.prog 4 #[Fr.val p, .slice a len cap] w fun e w' => e = .returned (.bool true) ∧ Below w.heap.size w w' := by
  obtain ⟨k, f, t, e, s, b⟩ := p
  by_cases h : 600 < b.size
  · exact kept_big k f t e s b hw hs a len cap ks w hz h
  · exact kept_small k f t e s b hw hs a len cap ks w hz h
/-! ### The row of TopKept -/
theorem topKept_own : ownKnob Try.prog.godebug = none := by kernel_rfl
theorem topKept_laidOut : laidOutB Try.prog = true := by kernel_rfl
set_option maxRecDepth 100000 in
theorem topKept_lifted (os : Os) (started : os.Started) (H : Type) (enc : TypeId × Value → H) :
    ReturnsInHanded {} Try.checked os 4 .any (Rows.topKeptSpec.pre6 enc Try.prog Try.f4 Rows.topKeptRow.domain false) (Rows.topKeptSpec.post enc Try.prog Try.f4 false true false false) := by
  refine returnsInHanded_of_change (C := Try.checked) topKept_own started (by kernel_rfl) Try.func4
    (ChangeSpec.witness6 (enc := enc) (C := Try.checked) false ⟨#[], #[.agg #[.int .u8 0, .int .u8 0, .int .u8 0, .int .u32 0, .int .u32 0, .string ByteArray.empty], .slice none 0 0], []⟩ 8 (by kernel_rfl) (by kernel_rfl) (by kernel_rfl) (by kernel_rfl)) ?_
  intro W base args ds gs before hval0 hW hcnd _
  have hval : ∀ (j : Nat) t v, Try.f4.params[j]? = some t → args[j]? = some v → Value.okWide Try.prog W .any base t v := hval0
  have hW' := hW
  obtain ⟨p, q, hA0, hV, rfl, hfz, hnd⟩ := hW
  have hA : DataW.TrodAll enc Try.prog W 0 (fun _ => true) true Try.f4.params.toList args.toList ds p := hA0
  rw [Try.params4] at hA hval
  obtain ⟨v0, vs0, d0, ds0, p0, q0, hargs, rfl, rfl, h0, r0⟩ := trodAll_cons hA
  obtain ⟨v1, vs1, d1, ds1, p1, q1, rfl, rfl, rfl, h1, r1⟩ := trodAll_cons r0
  obtain ⟨rfl, rfl, rfl⟩ := trodAll_nil r1
  obtain rfl : args = #[v0, v1] := by cases args; simp_all
  obtain ⟨rfl, rfl⟩ := trodVars_none hV
  have k0 := h0
  have lt0 : ∀ x ∈ p0, x.block < W.heap.size := by obtain ⟨m, hm⟩ := k0; exact DataW.trod_lt m _ _ _ hm
  obtain ⟨q0, rfl, wq0, zq0⟩ := open_packet (hval 0 43 v0 rfl rfl) h0
  have k1 := h1
  have lt1 : ∀ x ∈ p1, x.block < W.heap.size := by obtain ⟨m, hm⟩ := k1; exact DataW.trod_lt m _ _ _ hm
  obtain ⟨a1, len1, cap1, rfl⟩ := okWide_slice Try.underlying22 (hval 1 22 v1 rfl rfl)
  obtain ⟨z1, w1⟩ := isZ_of Try.underlying22 Try.underlying3 (by kernel_rfl) h1
  clear hA0 hval0
  refine (topKept_walk q0 wq0 zq0 a1 len1 cap1 z1 W w1).mono fun e W' ⟨he, bel⟩ => ?_
  subst he
  exact ⟨_, rfl, _, _, _, [], _, [], hW', trodAll_mk1 (shut_bool Try.underlying4 _), (trodAll_cons_mk (Below.trod topKept_laidOut (by kernel_rfl) (of_decide_eq_true (by kernel_rfl)) k0 bel lt0) (trodAll_cons_mk (Below.trod topKept_laidOut (by kernel_rfl) (of_decide_eq_true (by kernel_rfl)) k1 bel lt1) trodAll_mk0)), rfl, bel.frame _, fun h => by cases h⟩
theorem topKept_over : Rows.topKeptRow.holds Try.pinned (OpenSpec.ofChange Rows.topKeptSpec) :=
  OpenClaim.holds_of_wide 4 Try.f4 rfl rfl rfl rfl rfl rfl rfl ⟨rfl, rfl, rfl, rfl, rfl⟩ rfl rfl rfl rfl rfl (by kernel_rfl) Try.func4 (by kernel_rfl)
    (of_decide_eq_true (by kernel_rfl)) (by unfold Func.isWrapper; first | (rw [if_pos (by decide +kernel)]; kernel_rfl) | (rw [if_neg (by decide +kernel)]; exact ⟨rfl, rfl⟩))
    (fun os started H enc _ => topKept_lifted os started H enc)
/-- The statement. -/
theorem topKept_holds : Rows.TopKeptSaid := topKept_over
#print axioms topKept_holds

end Go.Proofs.Yteimegacnmakaac
