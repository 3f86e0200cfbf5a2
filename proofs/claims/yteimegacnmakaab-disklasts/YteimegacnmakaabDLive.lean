/-
  What sector and live of the statements on disks return.
-/
import Derived.Test.YteimegacnmakaabDLoose
namespace Go.Proofs.Yteimegacnmakaab
open Go.RowKit Go.ChangeShapes Go.WideShapes Go.ChangeAt Go.Maps
set_option linter.unusedVariables false
set_option linter.unusedSimpArgs false
/-- A sector full of one byte. -/
def full (c : Int) : Sec := List.replicate 32 c
theorem full_is {c : Int} (h0 : 0 ≤ c) (h1 : c < 256) : IsSec (full c) := ⟨by simp [full], fun x hx => by have := List.eq_of_mem_replicate hx; omega⟩
def fillc (c : Int) (k : Nat) : Sec := List.replicate k c ++ List.replicate (32 - k) 0
theorem fillc_zero (c : Int) : fillc c 0 = zsec := rfl
theorem fillc_full (c : Int) : fillc c 32 = full c := by simp [fillc, full]
theorem fillc_len (c : Int) (k : Nat) (h : k ≤ 32) : (fillc c k).length = 32 := by simp [fillc]; omega
theorem fillc_set (c : Int) (k : Nat) (h : k < 32) : ((fillc c k).map by8).set k (.int .u8 c) = (fillc c (k + 1)).map by8 := by
  unfold fillc
  have e : 32 - k = (32 - (k + 1)) + 1 := by omega
  rw [e, List.replicate_succ, List.map_append, List.map_append, List.map_cons, List.set_append, if_neg (by simp)]
  simp only [List.length_map, List.length_replicate, Nat.sub_self, List.set_cons_zero]
  rw [List.replicate_succ' (n := k), List.map_append]
  simp [by8]
theorem cell_new_s (W : World) (s : Sec) (t : TypeId) (k : Nat) (h : k < s.length) : (W.alloc (.cells (s.map by8).toArray t)).cell? ⟨W.heap.size, k, none⟩ = some (.int .u8 (s.getD k 0)) := by
  rw [cell_of_row _ _ _ _ _ _ (heap_alloc_new W _)]
  simp [List.getD, h, by8]
theorem fz_new_s (W : World) (c : Array Value) (t : TypeId) (k : Nat) : (W.alloc (.cells c t)).frozen? ⟨W.heap.size, k, none⟩ = false := by
  unfold World.frozen?
  rw [heap_alloc_new W]
  simp
theorem sizeA : (Try.prog.info? 52).map (·.size) = some 32 := by kernel_rfl
set_option maxRecDepth 100000 in
set_option maxHeartbeats 1000000 in
theorem sector_c (c : Int) (w : World) : Calls Try.prog 20 #[.int .u8 c] w fun e w' => e = .returned (secV (full c)) ∧ Below w.heap.size w w' := by
  have zz := zlit
  go_enter Try.func20, Try.ntmps20
  go_wp2
  go_loopw [3] (fun kk wx => ∃ k : Nat, k ≤ 32 ∧ kk = .int .i64 k ∧ wx = w.alloc (.cells ((fillc c k).map by8).toArray 52)) (fun kk _ => (32 - intOf kk).toNat)
  case atStart => exact ⟨0, by omega, rfl, rfl⟩
  case round =>
    obtain ⟨k, hk, rfl, rfl⟩ := hrel
    by_cases h1 : k < 32
    · have hcn := cell_new_s w (fillc c k) 52 k (by rw [fillc_len c k hk]; exact h1)
      have hfn := fz_new_s w ((fillc c k).map by8).toArray 52 k
      go_wp2
      go_roundw
      case rel => exact ⟨k + 1, by omega, by go_num, by rw [fillc_set c k h1]⟩
      case measure => simp [intOf]; omega
    · obtain rfl : k = 32 := by omega
      rw [fillc_full]
      go_wp2_with (first
        | (refine wpList_loadS _ rfl _ _ rfl sizeA Try.underlying52 _ rfl (full c) (by simp [full]) _ _ (heap_alloc_new w _) ?_)
        | (refine wpList_storeS _ rfl _ _ _ rfl sizeA _ rfl (by simp) (full c) rfl (by simp [full]) _ (by simp [full]) ?_))
      exact bodyPost_ret (v := secV (full c)) (results_cell_row rfl _ _ w.heap.size _ ((full c).map by8).toArray _ _ rfl (heap_alloc_new w _) Try.underlying52 rfl (by rw [sizeA]; simp [full])) rfl ⟨rfl, (Below.refl _ _).alloc (Nat.le_refl _) _⟩
theorem own_shape {w : World} {base e size n : Nat} {v : Value} {xs : List Value} (h : w.ownsRow base e size v n xs) : ∃ a cap, v = .slice a n cap := by
  rcases h.2 with ⟨hv, hn⟩ | ⟨g, cap, cur, hv, _⟩
  · exact ⟨none, 0, by rw [hv, hn]⟩
  · exact ⟨_, _, hv⟩
theorem isZ_new (W : World) (t : TypeId) (x : Int) (h0 : -9223372036854775808 ≤ x) (h1 : x < 9223372036854775808) : IsZ (W.alloc (.cells #[.int .i64 x] t)) (some ⟨W.heap.size, 0, none⟩) 1 [x] := by
  refine ⟨rfl, by unfold maxLen; omega, fun _ => ⟨W.heap.size, 0, rfl, fun i hi => ?_⟩, fun i => ?_⟩
  · obtain rfl : i = 0 := by omega
    rw [cell_of_row _ _ _ _ _ _ (heap_alloc_new W _)]
    simp
  · rcases i with _ | i
    · simpa using ⟨h0, h1⟩
    · simp
set_option maxRecDepth 100000 in
set_option maxHeartbeats 2000000 in
theorem dlive_c (w : World) : Calls Try.prog 15 #[] w fun e w' => e = .returned (.bool true) ∧ Below w.heap.size w w' := by
  have zz := zlit
  go_enter Try.func15, Try.ntmps15
  go_wp2_with (go_at_call 31; refine (new_c 3 _ (by omega) (by omega)).mono ?_; rintro _ w1 ⟨rfl, hD1, hb1, hs1⟩)
  refine (sector_c 1 w1).mono ?_
  rintro _ w2 ⟨rfl, hb2⟩
  have WC := hid (write_c (hD1.later hb2) 0 (full 1) (full_is (by omega) (by omega)) (by omega) (by omega))
  have HB2 := hid (hb1.trans (hb2.mono hb1.size))
  have HS2 : Hid (w.heap.size + 3 ≤ w2.heap.size) := by have := hb2.size; show _ ≤ _; omega
  clear hD1 hb1 hb2 hs1
  go_wp2_with (go_at_call 19; refine WC.out.mono ?_; rintro _ w3 ⟨rfl, hD3, ho3⟩)
  refine (sector_c 2 w3).mono ?_
  rintro _ w4 ⟨rfl, hb4⟩
  have WC2 := hid (write_c (hD3.later hb4) 0 (full 2) (full_is (by omega) (by omega)) (by omega) (by omega))
  have HB4 := hid (HB2.out.trans ((ho3.below HB2.out.size (fun k e => by omega)).trans (hb4.mono (Nat.le_trans HB2.out.size ho3.size))))
  clear hD3 ho3 hb4 WC
  go_wp2_with (go_at_call 19; refine WC2.out.mono ?_; rintro _ w5 ⟨rfl, hD5, ho5⟩)
  have HB5 := hid (HB4.out.trans (ho5.below HB4.out.size (fun k e => by omega)))
  have HD5 := hid hD5
  have LC := hid (loose_c hD5)
  clear hD5 ho5 WC2
  go_wp2_with (go_at_call 22; refine LC.out.mono ?_; rintro _ w6 ⟨v, ss, rfl, hk, hrow, hb6⟩)
  have ess : ss = [0] := by
    refine Keys.one hk ⟨by simp, fun i => ?_⟩
    unfold upd
    by_cases hi : i = 0
    · simp [hi]
    · simp [hi]
  obtain ⟨av, capv, rfl⟩ := own_shape hrow
  rw [ess]
  have HD6 := hid (HD5.out.later hb6)
  have HB6 := hid (HB5.out.trans (hb6.mono HB5.out.size))
  clear hk hrow hb6 ess LC HD5
  have hlast : ([0] : List Int).length = 1 := rfl
  rw [hlast]
  clear hlast
  have CC := hid (crash_c (HD6.out.later (((Below.refl _ w6).alloc (Nat.le_refl _) (.cells #[.int .i64 0] 3)))) (some ⟨w6.heap.size, 0, none⟩) 1 1 [0] (isZ_new w6 3 0 (by omega) (by omega)))
  go_wp2_with (go_at_call 21; refine CC.out.mono ?_; rintro _ w7 ⟨rfl, hD7, ho7⟩)
  have hB7 := HB6.out.trans (((Below.refl _ w6).alloc (Nat.le_refl _) (.cells #[.int .i64 0] 3)).mono HB6.out.size)
  have HB7 := hid (hB7.trans (ho7.below (Nat.le_trans hB7.size (Nat.le_refl _)) (fun k e => by omega)))
  have RC := hid (read_c hD7 0 (by omega) (by omega))
  have SC : Hid (∀ W, Below w7.heap.size w7 W → Calls Try.prog 33 #[pD (w.heap.size + 2)] W fun e w' => e = .returned (.int .i64 (3 : Nat)) ∧ w' = W) := fun W hW => size_c (hD7.later hW)
  have e2 : (if (0 : Int) ∈ [(0 : Int)] then (upd (upd (fun _ => none) 0 (some (full 1))) 0 (some (full 2)) 0).getD zsec else zsec) = full 2 := by simp [upd]
  simp only [Option.getD_none] at RC
  rw [e2] at RC
  clear hB7 hD7 ho7 CC HD6 e2
  have hf32 : (full 2).length = 32 := by simp [full]
  go_wp2_with (first
    | (go_at_call 23; refine RC.out.mono ?_; rintro _ w8 ⟨rfl, hb8⟩; have hc5 := cell_new_s w8 (full 2) 53 5 (by simp [full]); (have hg5 : (full 2).getD 5 0 = 2 := by rfl); rw [hg5] at hc5; have SC8 := hid (SC.out _ (hb8.alloc hb8.size (.cells ((full 2).map by8).toArray 53))))
    | (refine wpList_storeS _ rfl _ _ _ rfl sizeS _ rfl (by simp) (full 2) rfl hf32 _ (by simp; decide) ?_)
    | (go_at_call 33; refine SC8.out.mono ?_; rintro _ w9 ⟨rfl, rfl⟩))
  go_ret
  exact ⟨rfl, (HB7.out.trans (hb8.mono HB7.out.size)).alloc (Nat.le_trans HB7.out.size hb8.size) _⟩
end Go.Proofs.Yteimegacnmakaab
