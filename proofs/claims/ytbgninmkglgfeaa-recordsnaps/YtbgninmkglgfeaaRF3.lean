/-
  The document's Name, bare.
-/
import Derived.Test.YtbgninmkglgfeaaRF2
import Derived.Test.YtbgninmkglgfeaaRLv
import Derived.RegionTactic
import Derived.ChangeAlike
import Derived.BigRegion
namespace Go.Proofs.Ytbgninmkglgfeaa
open Go.RowKit Go.ChangeShapes Go.WideShapes Go.ChangeAt
set_option linter.unusedVariables false
set_option linter.unusedSimpArgs false
set_option maxRecDepth 100000
set_option maxRecDepth 100000 in
set_option maxHeartbeats 2000000 in
theorem rname_c (s : ByteArray) (w : World) (hs : s.size ≤ maxLen) :
    Calls Try.prog 67 #[.string s] w fun e w' => e = .returned (.bool (Pa.nameB s.data.toList)) ∧ w' = w := by
  have HL : Hid (s.data.toList.length = s.size) := rfl
  unfold maxLen at hs
  go_enter Try.func67, Try.ntmps67
  go_wp2
  go_loop [3, 4] (fun i c => ∃ j : Nat, j ≤ s.size ∧ i = .int .i64 j ∧ Hid ((s.data.toList.take j).all Pa.okC = true)) (fun i _ => ((s.size : Int) - intOf i).toNat)
  case atStart => exact ⟨0, by omega, rfl, by simp [Hid]⟩
  case round =>
    obtain ⟨j, hj, rfl, HA⟩ := hrel
    by_cases hp : j < s.size
    · cases hc : Pa.okR ((s[j]'hp).toNat : Int) with
      | true =>
        have HB : Hid ((s.data.toList.take (j + 1)).all Pa.okC = true) := Pa.all_take_succ s.data.toList j (by have := HL.out; omega) HA.out (by unfold Pa.okC; exact hc)
        have hcs := Pa.okR_true hc
        clear hc
        rcases hcs with ⟨c1, c2⟩ | ⟨c1, c2⟩ | ⟨c1, c2⟩ | ⟨c1, c2⟩ | ⟨c1, c2⟩
        · have d97 : decide (97 ≤ ((s[j]'hp).toNat : Int)) = true := decide_eq_true (by omega)
          have d122 : decide (((s[j]'hp).toNat : Int) ≤ 122) = true := decide_eq_true (by omega)
          go_wp2
          go_round
          case rel => exact ⟨j + 1, by omega, by go_num, HB⟩
          case measure => simp [intOf]; omega
        · have d97 : decide (97 ≤ ((s[j]'hp).toNat : Int)) = false := decide_eq_false (by omega)
          have d48 : decide (48 ≤ ((s[j]'hp).toNat : Int)) = true := decide_eq_true (by omega)
          have d57 : decide (((s[j]'hp).toNat : Int) ≤ 57) = true := decide_eq_true (by omega)
          go_wp2
          go_round
          case rel => exact ⟨j + 1, by omega, by go_num, HB⟩
          case measure => simp [intOf]; omega
        · have q46 : (((s[j]'hp).toNat : Int) == 46) = true := beq_iff_eq.2 (by omega)
          have d97 : decide (97 ≤ ((s[j]'hp).toNat : Int)) = false := decide_eq_false (by omega)
          have d48 : decide (48 ≤ ((s[j]'hp).toNat : Int)) = false := decide_eq_false (by omega)
          go_wp2
          go_round
          case rel => exact ⟨j + 1, by omega, by go_num, HB⟩
          case measure => simp [intOf]; omega
        · have q46 : (((s[j]'hp).toNat : Int) == 46) = false := beq_eq_false_iff_ne.2 (by omega)
          have q45 : (((s[j]'hp).toNat : Int) == 45) = true := beq_iff_eq.2 (by omega)
          have d97 : decide (97 ≤ ((s[j]'hp).toNat : Int)) = false := decide_eq_false (by omega)
          have d48 : decide (48 ≤ ((s[j]'hp).toNat : Int)) = false := decide_eq_false (by omega)
          go_wp2
          go_round
          case rel => exact ⟨j + 1, by omega, by go_num, HB⟩
          case measure => simp [intOf]; omega
        · have q46 : (((s[j]'hp).toNat : Int) == 46) = false := beq_eq_false_iff_ne.2 (by omega)
          have q45 : (((s[j]'hp).toNat : Int) == 45) = false := beq_eq_false_iff_ne.2 (by omega)
          have q95 : (((s[j]'hp).toNat : Int) == 95) = true := beq_iff_eq.2 (by omega)
          have d97 : decide (97 ≤ ((s[j]'hp).toNat : Int)) = false := decide_eq_false (by omega)
          have d48 : decide (48 ≤ ((s[j]'hp).toNat : Int)) = true := decide_eq_true (by omega)
          have d57 : decide (((s[j]'hp).toNat : Int) ≤ 57) = false := decide_eq_false (by omega)
          go_wp2
          go_round
          case rel => exact ⟨j + 1, by omega, by go_num, HB⟩
          case measure => simp [intOf]; omega
      | false =>
        have HB : Hid (Pa.nameB s.data.toList = false) := Pa.nameB_bad _ (Pa.all_bad s.data.toList j (by have := HL.out; omega) (by unfold Pa.okC; exact hc))
        have hcs := Pa.okR_false hc
        clear hc
        rcases hcs with c1 | ⟨c1, c2⟩ | ⟨c1, c2⟩ | ⟨c1, c2⟩ | c1
        · have q46 : (((s[j]'hp).toNat : Int) == 46) = false := beq_eq_false_iff_ne.2 (by omega)
          have q45 : (((s[j]'hp).toNat : Int) == 45) = false := beq_eq_false_iff_ne.2 (by omega)
          have q95 : (((s[j]'hp).toNat : Int) == 95) = false := beq_eq_false_iff_ne.2 (by omega)
          have d97 : decide (97 ≤ ((s[j]'hp).toNat : Int)) = false := decide_eq_false (by omega)
          have d48 : decide (48 ≤ ((s[j]'hp).toNat : Int)) = false := decide_eq_false (by omega)
          go_wp2
          go_ret
          exact ⟨ret_bool' HB.out.symm, rfl⟩
        · have q46 : (((s[j]'hp).toNat : Int) == 46) = false := beq_eq_false_iff_ne.2 (by omega)
          have q45 : (((s[j]'hp).toNat : Int) == 45) = false := beq_eq_false_iff_ne.2 (by omega)
          have q95 : (((s[j]'hp).toNat : Int) == 95) = false := beq_eq_false_iff_ne.2 (by omega)
          have d97 : decide (97 ≤ ((s[j]'hp).toNat : Int)) = false := decide_eq_false (by omega)
          have d48 : decide (48 ≤ ((s[j]'hp).toNat : Int)) = false := decide_eq_false (by omega)
          go_wp2
          go_ret
          exact ⟨ret_bool' HB.out.symm, rfl⟩
        · have q46 : (((s[j]'hp).toNat : Int) == 46) = false := beq_eq_false_iff_ne.2 (by omega)
          have q45 : (((s[j]'hp).toNat : Int) == 45) = false := beq_eq_false_iff_ne.2 (by omega)
          have q95 : (((s[j]'hp).toNat : Int) == 95) = false := beq_eq_false_iff_ne.2 (by omega)
          have d97 : decide (97 ≤ ((s[j]'hp).toNat : Int)) = false := decide_eq_false (by omega)
          have d48 : decide (48 ≤ ((s[j]'hp).toNat : Int)) = true := decide_eq_true (by omega)
          have d57 : decide (((s[j]'hp).toNat : Int) ≤ 57) = false := decide_eq_false (by omega)
          go_wp2
          go_ret
          exact ⟨ret_bool' HB.out.symm, rfl⟩
        · have q46 : (((s[j]'hp).toNat : Int) == 46) = false := beq_eq_false_iff_ne.2 (by omega)
          have q45 : (((s[j]'hp).toNat : Int) == 45) = false := beq_eq_false_iff_ne.2 (by omega)
          have q95 : (((s[j]'hp).toNat : Int) == 95) = false := beq_eq_false_iff_ne.2 (by omega)
          have d97 : decide (97 ≤ ((s[j]'hp).toNat : Int)) = false := decide_eq_false (by omega)
          have d48 : decide (48 ≤ ((s[j]'hp).toNat : Int)) = true := decide_eq_true (by omega)
          have d57 : decide (((s[j]'hp).toNat : Int) ≤ 57) = false := decide_eq_false (by omega)
          go_wp2
          go_ret
          exact ⟨ret_bool' HB.out.symm, rfl⟩
        · have q46 : (((s[j]'hp).toNat : Int) == 46) = false := beq_eq_false_iff_ne.2 (by omega)
          have q45 : (((s[j]'hp).toNat : Int) == 45) = false := beq_eq_false_iff_ne.2 (by omega)
          have q95 : (((s[j]'hp).toNat : Int) == 95) = false := beq_eq_false_iff_ne.2 (by omega)
          have d97 : decide (97 ≤ ((s[j]'hp).toNat : Int)) = true := decide_eq_true (by omega)
          have d122 : decide (((s[j]'hp).toNat : Int) ≤ 122) = false := decide_eq_false (by omega)
          have d48 : decide (48 ≤ ((s[j]'hp).toNat : Int)) = true := decide_eq_true (by omega)
          have d57 : decide (((s[j]'hp).toNat : Int) ≤ 57) = false := decide_eq_false (by omega)
          go_wp2
          go_ret
          exact ⟨ret_bool' HB.out.symm, rfl⟩
    · have HAll : Hid (s.data.toList.all Pa.okC = true) := by
        have h1 := HA.out
        rw [List.take_of_length_le (by have := HL.out; omega)] at h1; exact h1
      by_cases h1 : s.size < 1
      · have N := hid' (Pa.nameB_short s.data.toList (by have := HL.out; omega))
        go_wp2
        go_ret
        exact ⟨ret_bool' N.out.symm, rfl⟩
      · by_cases h2 : 12 < s.size
        · have N := hid' (Pa.nameB_long s.data.toList (by have := HL.out; omega))
          go_wp2
          go_ret
          exact ⟨ret_bool' N.out.symm, rfl⟩
        · cases h3 : (s.toList == [46]) with
          | true =>
            have N : Hid (Pa.nameB s.data.toList = false) := by
              have : s.data.toList = [46] := by rw [← Lib.toList_data]; exact beq_iff_eq.1 h3
              show _ = _
              rw [this]; exact Pa.nameB_dot
            go_wp2
            go_ret
            exact ⟨ret_bool' N.out.symm, rfl⟩
          | false =>
            cases h4 : (s.toList == [46, 46]) with
            | true =>
              have N : Hid (Pa.nameB s.data.toList = false) := by
                have : s.data.toList = [46, 46] := by rw [← Lib.toList_data]; exact beq_iff_eq.1 h4
                show _ = _
                rw [this]; exact Pa.nameB_dots
              go_wp2
              go_ret
              exact ⟨ret_bool' N.out.symm, rfl⟩
            | false =>
              have N : Hid (Pa.nameB s.data.toList = true) := by
                show _ = _
                rw [Pa.nameB_mid _ (by have := HL.out; omega) (by have := HL.out; omega) (by rw [← Lib.toList_data]; exact h3) (by rw [← Lib.toList_data]; exact h4)]
                exact HAll.out
              go_wp2
              go_ret
              exact ⟨ret_bool' N.out.symm, rfl⟩

/-- An operation with what its kind names, and nothing else. -/
def bareR (x : Rec) : Rec := ⟨x.k, bif pFid x.k then x.fid else 0, bif pEnt x.k then x.dir else 0, bif pEnt x.k then x.nm else ⟨#[]⟩, bif pGoal x.k then x.to else 0, bif pGoal x.k then x.nm2 else ⟨#[]⟩, bif pMode x.k then x.md else 0, bif pData x.k then x.dt else ⟨#[]⟩, x.sn⟩
set_option maxHeartbeats 4000000 in
theorem bare_c1 (x : Rec) (w : World) (hk : x.k = 1) :
    Calls Try.prog 99 #[x.opV] w fun e w' => e = .returned (bareR x).opV ∧ Below w.heap.size w w' := by
  obtain ⟨k, fid, dir, nm, tt, nm2, md, dt, sn⟩ := x
  simp only at hk
  subst hk
  unfold Rec.opV bareR
  simp only [show pFid 1 = _ from rfl, show pEnt 1 = _ from rfl, show pGoal 1 = _ from rfl, show pMode 1 = _ from rfl, show pData 1 = _ from rfl]
  go_enter Try.func99, Try.ntmps99
  go_wp2
  go_region
  all_goals go_wp2
  all_goals (
    refine bodyPost_ret (v := .agg #[.int .u8 1, .int .u32 fid, .int .u32 dir, .string nm, .int .u32 0, .string ⟨#[]⟩, .int .u16 md, .string ⟨#[]⟩]) (by simp [results, Try.results99, go_sem]) rfl ⟨rfl, ?_⟩
    exact ((((Below.refl _ _).alloc (Nat.le_refl _) _).alloc (by simp) _).alloc (by simp; omega) _).drew)
set_option maxHeartbeats 4000000 in
theorem bare_c2 (x : Rec) (w : World) (hk : x.k = 2) :
    Calls Try.prog 99 #[x.opV] w fun e w' => e = .returned (bareR x).opV ∧ Below w.heap.size w w' := by
  obtain ⟨k, fid, dir, nm, tt, nm2, md, dt, sn⟩ := x
  simp only at hk
  subst hk
  unfold Rec.opV bareR
  simp only [show pFid 2 = _ from rfl, show pEnt 2 = _ from rfl, show pGoal 2 = _ from rfl, show pMode 2 = _ from rfl, show pData 2 = _ from rfl]
  go_enter Try.func99, Try.ntmps99
  go_wp2
  go_region
  all_goals go_wp2
  all_goals (
    refine bodyPost_ret (v := .agg #[.int .u8 2, .int .u32 fid, .int .u32 dir, .string nm, .int .u32 0, .string ⟨#[]⟩, .int .u16 md, .string ⟨#[]⟩]) (by simp [results, Try.results99, go_sem]) rfl ⟨rfl, ?_⟩
    exact ((((Below.refl _ _).alloc (Nat.le_refl _) _).alloc (by simp) _).alloc (by simp; omega) _).drew)
set_option maxHeartbeats 4000000 in
theorem bare_c3 (x : Rec) (w : World) (hk : x.k = 3) :
    Calls Try.prog 99 #[x.opV] w fun e w' => e = .returned (bareR x).opV ∧ Below w.heap.size w w' := by
  obtain ⟨k, fid, dir, nm, tt, nm2, md, dt, sn⟩ := x
  simp only at hk
  subst hk
  unfold Rec.opV bareR
  simp only [show pFid 3 = _ from rfl, show pEnt 3 = _ from rfl, show pGoal 3 = _ from rfl, show pMode 3 = _ from rfl, show pData 3 = _ from rfl]
  go_enter Try.func99, Try.ntmps99
  go_wp2
  go_region
  all_goals go_wp2
  all_goals (
    refine bodyPost_ret (v := .agg #[.int .u8 3, .int .u32 fid, .int .u32 dir, .string nm, .int .u32 0, .string ⟨#[]⟩, .int .u16 md, .string dt]) (by simp [results, Try.results99, go_sem]) rfl ⟨rfl, ?_⟩
    exact ((((Below.refl _ _).alloc (Nat.le_refl _) _).alloc (by simp) _).alloc (by simp; omega) _).drew)
set_option maxHeartbeats 4000000 in
theorem bare_c4 (x : Rec) (w : World) (hk : x.k = 4) :
    Calls Try.prog 99 #[x.opV] w fun e w' => e = .returned (bareR x).opV ∧ Below w.heap.size w w' := by
  obtain ⟨k, fid, dir, nm, tt, nm2, md, dt, sn⟩ := x
  simp only at hk
  subst hk
  unfold Rec.opV bareR
  simp only [show pFid 4 = _ from rfl, show pEnt 4 = _ from rfl, show pGoal 4 = _ from rfl, show pMode 4 = _ from rfl, show pData 4 = _ from rfl]
  go_enter Try.func99, Try.ntmps99
  go_wp2
  go_region
  all_goals go_wp2
  all_goals (
    refine bodyPost_ret (v := .agg #[.int .u8 4, .int .u32 fid, .int .u32 dir, .string nm, .int .u32 0, .string ⟨#[]⟩, .int .u16 0, .string ⟨#[]⟩]) (by simp [results, Try.results99, go_sem]) rfl ⟨rfl, ?_⟩
    exact ((((Below.refl _ _).alloc (Nat.le_refl _) _).alloc (by simp) _).alloc (by simp; omega) _).drew)
set_option maxHeartbeats 4000000 in
theorem bare_c5 (x : Rec) (w : World) (hk : x.k = 5) :
    Calls Try.prog 99 #[x.opV] w fun e w' => e = .returned (bareR x).opV ∧ Below w.heap.size w w' := by
  obtain ⟨k, fid, dir, nm, tt, nm2, md, dt, sn⟩ := x
  simp only at hk
  subst hk
  unfold Rec.opV bareR
  simp only [show pFid 5 = _ from rfl, show pEnt 5 = _ from rfl, show pGoal 5 = _ from rfl, show pMode 5 = _ from rfl, show pData 5 = _ from rfl]
  go_enter Try.func99, Try.ntmps99
  go_wp2
  go_region
  all_goals go_wp2
  all_goals (
    refine bodyPost_ret (v := .agg #[.int .u8 5, .int .u32 0, .int .u32 dir, .string nm, .int .u32 0, .string ⟨#[]⟩, .int .u16 0, .string ⟨#[]⟩]) (by simp [results, Try.results99, go_sem]) rfl ⟨rfl, ?_⟩
    exact ((((Below.refl _ _).alloc (Nat.le_refl _) _).alloc (by simp) _).alloc (by simp; omega) _).drew)
set_option maxHeartbeats 4000000 in
theorem bare_c6 (x : Rec) (w : World) (hk : x.k = 6) :
    Calls Try.prog 99 #[x.opV] w fun e w' => e = .returned (bareR x).opV ∧ Below w.heap.size w w' := by
  obtain ⟨k, fid, dir, nm, tt, nm2, md, dt, sn⟩ := x
  simp only at hk
  subst hk
  unfold Rec.opV bareR
  simp only [show pFid 6 = _ from rfl, show pEnt 6 = _ from rfl, show pGoal 6 = _ from rfl, show pMode 6 = _ from rfl, show pData 6 = _ from rfl]
  go_enter Try.func99, Try.ntmps99
  go_wp2
  go_region
  all_goals go_wp2
  all_goals (
    refine bodyPost_ret (v := .agg #[.int .u8 6, .int .u32 0, .int .u32 dir, .string nm, .int .u32 0, .string ⟨#[]⟩, .int .u16 0, .string ⟨#[]⟩]) (by simp [results, Try.results99, go_sem]) rfl ⟨rfl, ?_⟩
    exact ((((Below.refl _ _).alloc (Nat.le_refl _) _).alloc (by simp) _).alloc (by simp; omega) _).drew)
set_option maxHeartbeats 4000000 in
theorem bare_c7 (x : Rec) (w : World) (hk : x.k = 7) :
    Calls Try.prog 99 #[x.opV] w fun e w' => e = .returned (bareR x).opV ∧ Below w.heap.size w w' := by
  obtain ⟨k, fid, dir, nm, tt, nm2, md, dt, sn⟩ := x
  simp only at hk
  subst hk
  unfold Rec.opV bareR
  simp only [show pFid 7 = _ from rfl, show pEnt 7 = _ from rfl, show pGoal 7 = _ from rfl, show pMode 7 = _ from rfl, show pData 7 = _ from rfl]
  go_enter Try.func99, Try.ntmps99
  go_wp2
  go_region
  all_goals go_wp2
  all_goals (
    refine bodyPost_ret (v := .agg #[.int .u8 7, .int .u32 0, .int .u32 dir, .string nm, .int .u32 tt, .string nm2, .int .u16 0, .string ⟨#[]⟩]) (by simp [results, Try.results99, go_sem]) rfl ⟨rfl, ?_⟩
    exact ((((Below.refl _ _).alloc (Nat.le_refl _) _).alloc (by simp) _).alloc (by simp; omega) _).drew)
set_option maxHeartbeats 4000000 in
theorem bare_c8 (x : Rec) (w : World) (hk : x.k = 8) :
    Calls Try.prog 99 #[x.opV] w fun e w' => e = .returned (bareR x).opV ∧ Below w.heap.size w w' := by
  obtain ⟨k, fid, dir, nm, tt, nm2, md, dt, sn⟩ := x
  simp only at hk
  subst hk
  unfold Rec.opV bareR
  simp only [show pFid 8 = _ from rfl, show pEnt 8 = _ from rfl, show pGoal 8 = _ from rfl, show pMode 8 = _ from rfl, show pData 8 = _ from rfl]
  go_enter Try.func99, Try.ntmps99
  go_wp2
  go_region
  all_goals go_wp2
  all_goals (
    refine bodyPost_ret (v := .agg #[.int .u8 8, .int .u32 fid, .int .u32 0, .string ⟨#[]⟩, .int .u32 0, .string ⟨#[]⟩, .int .u16 0, .string dt]) (by simp [results, Try.results99, go_sem]) rfl ⟨rfl, ?_⟩
    exact ((((Below.refl _ _).alloc (Nat.le_refl _) _).alloc (by simp) _).alloc (by simp; omega) _).drew)
set_option maxHeartbeats 4000000 in
theorem bare_c9 (x : Rec) (w : World) (hk : x.k = 9) :
    Calls Try.prog 99 #[x.opV] w fun e w' => e = .returned (bareR x).opV ∧ Below w.heap.size w w' := by
  obtain ⟨k, fid, dir, nm, tt, nm2, md, dt, sn⟩ := x
  simp only at hk
  subst hk
  unfold Rec.opV bareR
  simp only [show pFid 9 = _ from rfl, show pEnt 9 = _ from rfl, show pGoal 9 = _ from rfl, show pMode 9 = _ from rfl, show pData 9 = _ from rfl]
  go_enter Try.func99, Try.ntmps99
  go_wp2
  go_region
  all_goals go_wp2
  all_goals (
    refine bodyPost_ret (v := .agg #[.int .u8 9, .int .u32 fid, .int .u32 0, .string ⟨#[]⟩, .int .u32 0, .string ⟨#[]⟩, .int .u16 md, .string ⟨#[]⟩]) (by simp [results, Try.results99, go_sem]) rfl ⟨rfl, ?_⟩
    exact ((((Below.refl _ _).alloc (Nat.le_refl _) _).alloc (by simp) _).alloc (by simp; omega) _).drew)
theorem bare_c (x : Rec) (w : World) (hk : pOk x.k = true) :
    Calls Try.prog 99 #[x.opV] w fun e w' => e = .returned (bareR x).opV ∧ Below w.heap.size w w' := by
  unfold pOk at hk
  simp only [Bool.or_eq_true, beq_iff_eq] at hk
  rcases hk with (((((((hk | hk) | hk) | hk) | hk) | hk) | hk) | hk) | hk
  · exact bare_c1 x w hk
  · exact bare_c2 x w hk
  · exact bare_c3 x w hk
  · exact bare_c4 x w hk
  · exact bare_c5 x w hk
  · exact bare_c6 x w hk
  · exact bare_c7 x w hk
  · exact bare_c8 x w hk
  · exact bare_c9 x w hk
end Go.Proofs.Ytbgninmkglgfeaa
