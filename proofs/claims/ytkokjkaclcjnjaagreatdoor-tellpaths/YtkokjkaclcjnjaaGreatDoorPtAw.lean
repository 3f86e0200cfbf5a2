/-
  the document's Name, bare, RightOp. (Written by nodebase.py out of the record's texts.)
-/
import Derived.Test.YtkokjkaclcjnjaaGreatDoorPtAe
import Derived.ChangeArms
import Derived.ChangeOld
import Derived.Below
import Derived.Deep.CutRange
import Derived.Laws.AppendOwnNone
import Derived.Deep.RegionLaw
import Derived.Deep.LoopGhost
import Derived.Laws.BitsLemmas
import Derived.Shelf.Abstract
import Derived.Defers
import Derived.Recover
import Derived.Laws.Pointers
import Derived.Deep.QuietTactic
import Derived.Maps.OwnOps
import Derived.Maps.Views
import Derived.DeepKeys4
import Derived.RegionTactic
import Derived.ChangeAlike
import Derived.BigRegion
import Derived.BigQuiet
import Derived.Laws.IdiomStrings
namespace Go.Proofs.YtkokjkaclcjnjaaGreatDoor
open Go.RowKit Go.ChangeShapes Go.WideShapes Go.ChangeAt Go.Maps Go.Shelf
set_option linter.unusedVariables false
set_option linter.unusedSimpArgs false
set_option maxRecDepth 100000
set_option maxRecDepth 100000 in
set_option maxHeartbeats 2000000 in
theorem rname_c (s : ByteArray) (w : World) (hs : s.size ≤ maxLen) :
   Calls Tryz.prog 35 #[.string s] w fun e w' => e = .returned (.bool (Pa.nameB s.data.toList)) ∧ w' = w := by
 have HL : Hid (s.data.toList.length = s.size) := rfl
 unfold maxLen at hs
 go_enter Tryz.func35, Tryz.ntmps35
 go_wp2
 go_loop [3, 4] (fun i c => ∃ j : Nat, j ≤ s.size ∧ i = .int .i64 j ∧ Hid ((s.data.toList.take j).all Pa.okC = true)) (fun i _ => ((s.size : Int) - intOf i).toNat)
 case atStart => exact ⟨0, by omega, rfl, by simp [Hid]⟩
 case round =>
   obtain ⟨j, hj, rfl, HA⟩ := hrel
   by_cases hp : j < s.size
   · cases hc : Pa.okR ((s[j]'hp).toNat : Int) with
     | true =>
       have HB : Hid ((s.data.toList.take (j + 1)).all Pa.okC = true) := Pa.all_take_succ s.data.toList j (by have := HL.out; omega) HA.out (by unfold Pa.okC; exact hc)
       have hcs := Pa.okR_true hc
       clear hc
       rcases hcs with ⟨c1, c2⟩ | ⟨c1, c2⟩ | ⟨c1, c2⟩ | ⟨c1, c2⟩ | ⟨c1, c2⟩
       · have d97 : decide (97 ≤ ((s[j]'hp).toNat : Int)) = true := decide_eq_true (by omega)
         have d122 : decide (((s[j]'hp).toNat : Int) ≤ 122) = true := decide_eq_true (by omega)
         go_wp2
         go_round
         case rel => exact ⟨j + 1, by omega, by go_num, HB⟩
         case measure => simp [intOf]; omega
       · have d97 : decide (97 ≤ ((s[j]'hp).toNat : Int)) = false := decide_eq_false (by omega)
         have d48 : decide (48 ≤ ((s[j]'hp).toNat : Int)) = true := decide_eq_true (by omega)
         have d57 : decide (((s[j]'hp).toNat : Int) ≤ 57) = true := decide_eq_true (by omega)
         go_wp2
         go_round
         case rel => exact ⟨j + 1, by omega, by go_num, HB⟩
         case measure => simp [intOf]; omega
       · have q46 : (((s[j]'hp).toNat : Int) == 46) = true := beq_iff_eq.2 (by omega)
         have d97 : decide (97 ≤ ((s[j]'hp).toNat : Int)) = false := decide_eq_false (by omega)
         have d48 : decide (48 ≤ ((s[j]'hp).toNat : Int)) = false := decide_eq_false (by omega)
         go_wp2
         go_round
         case rel => exact ⟨j + 1, by omega, by go_num, HB⟩
         case measure => simp [intOf]; omega
       · have q46 : (((s[j]'hp).toNat : Int) == 46) = false := beq_eq_false_iff_ne.2 (by omega)
         have q45 : (((s[j]'hp).toNat : Int) == 45) = true := beq_iff_eq.2 (by omega)
         have d97 : decide (97 ≤ ((s[j]'hp).toNat : Int)) = false := decide_eq_false (by omega)
         have d48 : decide (48 ≤ ((s[j]'hp).toNat : Int)) = false := decide_eq_false (by omega)
         go_wp2
         go_round
         case rel => exact ⟨j + 1, by omega, by go_num, HB⟩
         case measure => simp [intOf]; omega
       · have q46 : (((s[j]'hp).toNat : Int) == 46) = false := beq_eq_false_iff_ne.2 (by omega)
         have q45 : (((s[j]'hp).toNat : Int) == 45) = false := beq_eq_false_iff_ne.2 (by omega)
         have q95 : (((s[j]'hp).toNat : Int) == 95) = true := beq_iff_eq.2 (by omega)
         have d97 : decide (97 ≤ ((s[j]'hp).toNat : Int)) = false := decide_eq_false (by omega)
         have d48 : decide (48 ≤ ((s[j]'hp).toNat : Int)) = true := decide_eq_true (by omega)
         have d57 : decide (((s[j]'hp).toNat : Int) ≤ 57) = false := decide_eq_false (by omega)
         go_wp2
         go_round
         case rel => exact ⟨j + 1, by omega, by go_num, HB⟩
         case measure => simp [intOf]; omega
     | false =>
       have HB : Hid (Pa.nameB s.data.toList = false) := Pa.nameB_bad _ (Pa.all_bad s.data.toList j (by have := HL.out; omega) (by unfold Pa.okC; exact hc))
       have hcs := Pa.okR_false hc
       clear hc
       rcases hcs with c1 | ⟨c1, c2⟩ | ⟨c1, c2⟩ | ⟨c1, c2⟩ | c1
       · have q46 : (((s[j]'hp).toNat : Int) == 46) = false := beq_eq_false_iff_ne.2 (by omega)
         have q45 : (((s[j]'hp).toNat : Int) == 45) = false := beq_eq_false_iff_ne.2 (by omega)
         have q95 : (((s[j]'hp).toNat : Int) == 95) = false := beq_eq_false_iff_ne.2 (by omega)
         have d97 : decide (97 ≤ ((s[j]'hp).toNat : Int)) = false := decide_eq_false (by omega)
         have d48 : decide (48 ≤ ((s[j]'hp).toNat : Int)) = false := decide_eq_false (by omega)
         go_wp2
         go_ret
         exact ⟨ret_bool' HB.out.symm, rfl⟩
       · have q46 : (((s[j]'hp).toNat : Int) == 46) = false := beq_eq_false_iff_ne.2 (by omega)
         have q45 : (((s[j]'hp).toNat : Int) == 45) = false := beq_eq_false_iff_ne.2 (by omega)
         have q95 : (((s[j]'hp).toNat : Int) == 95) = false := beq_eq_false_iff_ne.2 (by omega)
         have d97 : decide (97 ≤ ((s[j]'hp).toNat : Int)) = false := decide_eq_false (by omega)
         have d48 : decide (48 ≤ ((s[j]'hp).toNat : Int)) = false := decide_eq_false (by omega)
         go_wp2
         go_ret
         exact ⟨ret_bool' HB.out.symm, rfl⟩
       · have q46 : (((s[j]'hp).toNat : Int) == 46) = false := beq_eq_false_iff_ne.2 (by omega)
         have q45 : (((s[j]'hp).toNat : Int) == 45) = false := beq_eq_false_iff_ne.2 (by omega)
         have q95 : (((s[j]'hp).toNat : Int) == 95) = false := beq_eq_false_iff_ne.2 (by omega)
         have d97 : decide (97 ≤ ((s[j]'hp).toNat : Int)) = false := decide_eq_false (by omega)
         have d48 : decide (48 ≤ ((s[j]'hp).toNat : Int)) = true := decide_eq_true (by omega)
         have d57 : decide (((s[j]'hp).toNat : Int) ≤ 57) = false := decide_eq_false (by omega)
         go_wp2
         go_ret
         exact ⟨ret_bool' HB.out.symm, rfl⟩
       · have q46 : (((s[j]'hp).toNat : Int) == 46) = false := beq_eq_false_iff_ne.2 (by omega)
         have q45 : (((s[j]'hp).toNat : Int) == 45) = false := beq_eq_false_iff_ne.2 (by omega)
         have q95 : (((s[j]'hp).toNat : Int) == 95) = false := beq_eq_false_iff_ne.2 (by omega)
         have d97 : decide (97 ≤ ((s[j]'hp).toNat : Int)) = false := decide_eq_false (by omega)
         have d48 : decide (48 ≤ ((s[j]'hp).toNat : Int)) = true := decide_eq_true (by omega)
         have d57 : decide (((s[j]'hp).toNat : Int) ≤ 57) = false := decide_eq_false (by omega)
         go_wp2
         go_ret
         exact ⟨ret_bool' HB.out.symm, rfl⟩
       · have q46 : (((s[j]'hp).toNat : Int) == 46) = false := beq_eq_false_iff_ne.2 (by omega)
         have q45 : (((s[j]'hp).toNat : Int) == 45) = false := beq_eq_false_iff_ne.2 (by omega)
         have q95 : (((s[j]'hp).toNat : Int) == 95) = false := beq_eq_false_iff_ne.2 (by omega)
         have d97 : decide (97 ≤ ((s[j]'hp).toNat : Int)) = true := decide_eq_true (by omega)
         have d122 : decide (((s[j]'hp).toNat : Int) ≤ 122) = false := decide_eq_false (by omega)
         have d48 : decide (48 ≤ ((s[j]'hp).toNat : Int)) = true := decide_eq_true (by omega)
         have d57 : decide (((s[j]'hp).toNat : Int) ≤ 57) = false := decide_eq_false (by omega)
         go_wp2
         go_ret
         exact ⟨ret_bool' HB.out.symm, rfl⟩
   · have HAll : Hid (s.data.toList.all Pa.okC = true) := by
       have h1 := HA.out
       rw [List.take_of_length_le (by have := HL.out; omega)] at h1; exact h1
     by_cases h1 : s.size < 1
     · have N := hid' (Pa.nameB_short s.data.toList (by have := HL.out; omega))
       go_wp2
       go_ret
       exact ⟨ret_bool' N.out.symm, rfl⟩
     · by_cases h2 : 12 < s.size
       · have N := hid' (Pa.nameB_long s.data.toList (by have := HL.out; omega))
         go_wp2
         go_ret
         exact ⟨ret_bool' N.out.symm, rfl⟩
       · cases h3 : (s.toList == [46]) with
         | true =>
           have N : Hid (Pa.nameB s.data.toList = false) := by
             have : s.data.toList = [46] := by rw [← Lib.toList_data]; exact beq_iff_eq.1 h3
             show _ = _
             rw [this]; exact Pa.nameB_dot
           go_wp2
           go_ret
           exact ⟨ret_bool' N.out.symm, rfl⟩
         | false =>
           cases h4 : (s.toList == [46, 46]) with
           | true =>
             have N : Hid (Pa.nameB s.data.toList = false) := by
               have : s.data.toList = [46, 46] := by rw [← Lib.toList_data]; exact beq_iff_eq.1 h4
               show _ = _
               rw [this]; exact Pa.nameB_dots
             go_wp2
             go_ret
             exact ⟨ret_bool' N.out.symm, rfl⟩
           | false =>
             have N : Hid (Pa.nameB s.data.toList = true) := by
               show _ = _
               rw [Pa.nameB_mid _ (by have := HL.out; omega) (by have := HL.out; omega) (by rw [← Lib.toList_data]; exact h3) (by rw [← Lib.toList_data]; exact h4)]
               exact HAll.out
             go_wp2
             go_ret
             exact ⟨ret_bool' N.out.symm, rfl⟩
def bareR (x : Rec) : Rec := ⟨x.k, bif pFid x.k then x.fid else 0, bif pEnt x.k then x.dir else 0, bif pEnt x.k then x.nm else ⟨#[]⟩, bif pGoal x.k then x.to else 0, bif pGoal x.k then x.nm2 else ⟨#[]⟩, bif pMode x.k then x.md else 0, bif pData x.k then x.dt else ⟨#[]⟩, x.sn⟩
set_option maxHeartbeats 4000000 in
theorem bare_c1 (x : Rec) (w : World) (hk : x.k = 1) :
   Calls Tryz.prog 44 #[x.opV] w fun e w' => e = .returned (bareR x).opV ∧ Below w.heap.size w w' := by
 obtain ⟨k, fid, dir, nm, tt, nm2, md, dt, sn⟩ := x
 simp only at hk
 subst hk
 unfold Rec.opV bareR
 simp only [show pFid 1 = _ from rfl, show pEnt 1 = _ from rfl, show pGoal 1 = _ from rfl, show pMode 1 = _ from rfl, show pData 1 = _ from rfl]
 go_enter Tryz.func44, Tryz.ntmps44
 go_wp2
 go_region
 all_goals go_wp2
 all_goals (
   refine bodyPost_ret (v := .agg #[.int .u8 1, .int .u32 fid, .int .u32 dir, .string nm, .int .u32 0, .string ⟨#[]⟩, .int .u16 md, .string ⟨#[]⟩]) (by simp [results, Tryz.results44, go_sem]) rfl ⟨rfl, ?_⟩
   exact ((((Below.refl _ _).alloc (Nat.le_refl _) _).alloc (by simp) _).alloc (by simp; omega) _).drew)
set_option maxHeartbeats 4000000 in
theorem bare_c2 (x : Rec) (w : World) (hk : x.k = 2) :
   Calls Tryz.prog 44 #[x.opV] w fun e w' => e = .returned (bareR x).opV ∧ Below w.heap.size w w' := by
 obtain ⟨k, fid, dir, nm, tt, nm2, md, dt, sn⟩ := x
 simp only at hk
 subst hk
 unfold Rec.opV bareR
 simp only [show pFid 2 = _ from rfl, show pEnt 2 = _ from rfl, show pGoal 2 = _ from rfl, show pMode 2 = _ from rfl, show pData 2 = _ from rfl]
 go_enter Tryz.func44, Tryz.ntmps44
 go_wp2
 go_region
 all_goals go_wp2
 all_goals (
   refine bodyPost_ret (v := .agg #[.int .u8 2, .int .u32 fid, .int .u32 dir, .string nm, .int .u32 0, .string ⟨#[]⟩, .int .u16 md, .string ⟨#[]⟩]) (by simp [results, Tryz.results44, go_sem]) rfl ⟨rfl, ?_⟩
   exact ((((Below.refl _ _).alloc (Nat.le_refl _) _).alloc (by simp) _).alloc (by simp; omega) _).drew)
set_option maxHeartbeats 4000000 in
theorem bare_c3 (x : Rec) (w : World) (hk : x.k = 3) :
   Calls Tryz.prog 44 #[x.opV] w fun e w' => e = .returned (bareR x).opV ∧ Below w.heap.size w w' := by
 obtain ⟨k, fid, dir, nm, tt, nm2, md, dt, sn⟩ := x
 simp only at hk
 subst hk
 unfold Rec.opV bareR
 simp only [show pFid 3 = _ from rfl, show pEnt 3 = _ from rfl, show pGoal 3 = _ from rfl, show pMode 3 = _ from rfl, show pData 3 = _ from rfl]
 go_enter Tryz.func44, Tryz.ntmps44
 go_wp2
 go_region
 all_goals go_wp2
 all_goals (
   refine bodyPost_ret (v := .agg #[.int .u8 3, .int .u32 fid, .int .u32 dir, .string nm, .int .u32 0, .string ⟨#[]⟩, .int .u16 md, .string dt]) (by simp [results, Tryz.results44, go_sem]) rfl ⟨rfl, ?_⟩
   exact ((((Below.refl _ _).alloc (Nat.le_refl _) _).alloc (by simp) _).alloc (by simp; omega) _).drew)
set_option maxHeartbeats 4000000 in
theorem bare_c4 (x : Rec) (w : World) (hk : x.k = 4) :
   Calls Tryz.prog 44 #[x.opV] w fun e w' => e = .returned (bareR x).opV ∧ Below w.heap.size w w' := by
 obtain ⟨k, fid, dir, nm, tt, nm2, md, dt, sn⟩ := x
 simp only at hk
 subst hk
 unfold Rec.opV bareR
 simp only [show pFid 4 = _ from rfl, show pEnt 4 = _ from rfl, show pGoal 4 = _ from rfl, show pMode 4 = _ from rfl, show pData 4 = _ from rfl]
 go_enter Tryz.func44, Tryz.ntmps44
 go_wp2
 go_region
 all_goals go_wp2
 all_goals (
   refine bodyPost_ret (v := .agg #[.int .u8 4, .int .u32 fid, .int .u32 dir, .string nm, .int .u32 0, .string ⟨#[]⟩, .int .u16 0, .string ⟨#[]⟩]) (by simp [results, Tryz.results44, go_sem]) rfl ⟨rfl, ?_⟩
   exact ((((Below.refl _ _).alloc (Nat.le_refl _) _).alloc (by simp) _).alloc (by simp; omega) _).drew)
set_option maxHeartbeats 4000000 in
theorem bare_c5 (x : Rec) (w : World) (hk : x.k = 5) :
   Calls Tryz.prog 44 #[x.opV] w fun e w' => e = .returned (bareR x).opV ∧ Below w.heap.size w w' := by
 obtain ⟨k, fid, dir, nm, tt, nm2, md, dt, sn⟩ := x
 simp only at hk
 subst hk
 unfold Rec.opV bareR
 simp only [show pFid 5 = _ from rfl, show pEnt 5 = _ from rfl, show pGoal 5 = _ from rfl, show pMode 5 = _ from rfl, show pData 5 = _ from rfl]
 go_enter Tryz.func44, Tryz.ntmps44
 go_wp2
 go_region
 all_goals go_wp2
 all_goals (
   refine bodyPost_ret (v := .agg #[.int .u8 5, .int .u32 0, .int .u32 dir, .string nm, .int .u32 0, .string ⟨#[]⟩, .int .u16 0, .string ⟨#[]⟩]) (by simp [results, Tryz.results44, go_sem]) rfl ⟨rfl, ?_⟩
   exact ((((Below.refl _ _).alloc (Nat.le_refl _) _).alloc (by simp) _).alloc (by simp; omega) _).drew)
set_option maxHeartbeats 4000000 in
theorem bare_c6 (x : Rec) (w : World) (hk : x.k = 6) :
   Calls Tryz.prog 44 #[x.opV] w fun e w' => e = .returned (bareR x).opV ∧ Below w.heap.size w w' := by
 obtain ⟨k, fid, dir, nm, tt, nm2, md, dt, sn⟩ := x
 simp only at hk
 subst hk
 unfold Rec.opV bareR
 simp only [show pFid 6 = _ from rfl, show pEnt 6 = _ from rfl, show pGoal 6 = _ from rfl, show pMode 6 = _ from rfl, show pData 6 = _ from rfl]
 go_enter Tryz.func44, Tryz.ntmps44
 go_wp2
 go_region
 all_goals go_wp2
 all_goals (
   refine bodyPost_ret (v := .agg #[.int .u8 6, .int .u32 0, .int .u32 dir, .string nm, .int .u32 0, .string ⟨#[]⟩, .int .u16 0, .string ⟨#[]⟩]) (by simp [results, Tryz.results44, go_sem]) rfl ⟨rfl, ?_⟩
   exact ((((Below.refl _ _).alloc (Nat.le_refl _) _).alloc (by simp) _).alloc (by simp; omega) _).drew)
set_option maxHeartbeats 4000000 in
theorem bare_c7 (x : Rec) (w : World) (hk : x.k = 7) :
   Calls Tryz.prog 44 #[x.opV] w fun e w' => e = .returned (bareR x).opV ∧ Below w.heap.size w w' := by
 obtain ⟨k, fid, dir, nm, tt, nm2, md, dt, sn⟩ := x
 simp only at hk
 subst hk
 unfold Rec.opV bareR
 simp only [show pFid 7 = _ from rfl, show pEnt 7 = _ from rfl, show pGoal 7 = _ from rfl, show pMode 7 = _ from rfl, show pData 7 = _ from rfl]
 go_enter Tryz.func44, Tryz.ntmps44
 go_wp2
 go_region
 all_goals go_wp2
 all_goals (
   refine bodyPost_ret (v := .agg #[.int .u8 7, .int .u32 0, .int .u32 dir, .string nm, .int .u32 tt, .string nm2, .int .u16 0, .string ⟨#[]⟩]) (by simp [results, Tryz.results44, go_sem]) rfl ⟨rfl, ?_⟩
   exact ((((Below.refl _ _).alloc (Nat.le_refl _) _).alloc (by simp) _).alloc (by simp; omega) _).drew)
set_option maxHeartbeats 4000000 in
theorem bare_c8 (x : Rec) (w : World) (hk : x.k = 8) :
   Calls Tryz.prog 44 #[x.opV] w fun e w' => e = .returned (bareR x).opV ∧ Below w.heap.size w w' := by
 obtain ⟨k, fid, dir, nm, tt, nm2, md, dt, sn⟩ := x
 simp only at hk
 subst hk
 unfold Rec.opV bareR
 simp only [show pFid 8 = _ from rfl, show pEnt 8 = _ from rfl, show pGoal 8 = _ from rfl, show pMode 8 = _ from rfl, show pData 8 = _ from rfl]
 go_enter Tryz.func44, Tryz.ntmps44
 go_wp2
 go_region
 all_goals go_wp2
 all_goals (
   refine bodyPost_ret (v := .agg #[.int .u8 8, .int .u32 fid, .int .u32 0, .string ⟨#[]⟩, .int .u32 0, .string ⟨#[]⟩, .int .u16 0, .string dt]) (by simp [results, Tryz.results44, go_sem]) rfl ⟨rfl, ?_⟩
   exact ((((Below.refl _ _).alloc (Nat.le_refl _) _).alloc (by simp) _).alloc (by simp; omega) _).drew)
set_option maxHeartbeats 4000000 in
theorem bare_c9 (x : Rec) (w : World) (hk : x.k = 9) :
   Calls Tryz.prog 44 #[x.opV] w fun e w' => e = .returned (bareR x).opV ∧ Below w.heap.size w w' := by
 obtain ⟨k, fid, dir, nm, tt, nm2, md, dt, sn⟩ := x
 simp only at hk
 subst hk
 unfold Rec.opV bareR
 simp only [show pFid 9 = _ from rfl, show pEnt 9 = _ from rfl, show pGoal 9 = _ from rfl, show pMode 9 = _ from rfl, show pData 9 = _ from rfl]
 go_enter Tryz.func44, Tryz.ntmps44
 go_wp2
 go_region
 all_goals go_wp2
 all_goals (
   refine bodyPost_ret (v := .agg #[.int .u8 9, .int .u32 fid, .int .u32 0, .string ⟨#[]⟩, .int .u32 0, .string ⟨#[]⟩, .int .u16 md, .string ⟨#[]⟩]) (by simp [results, Tryz.results44, go_sem]) rfl ⟨rfl, ?_⟩
   exact ((((Below.refl _ _).alloc (Nat.le_refl _) _).alloc (by simp) _).alloc (by simp; omega) _).drew)
theorem bare_c (x : Rec) (w : World) (hk : pOk x.k = true) :
   Calls Tryz.prog 44 #[x.opV] w fun e w' => e = .returned (bareR x).opV ∧ Below w.heap.size w w' := by
 unfold pOk at hk
 simp only [Bool.or_eq_true, beq_iff_eq] at hk
 rcases hk with (((((((hk | hk) | hk) | hk) | hk) | hk) | hk) | hk) | hk
 · exact bare_c1 x w hk
 · exact bare_c2 x w hk
 · exact bare_c3 x w hk
 · exact bare_c4 x w hk
 · exact bare_c5 x w hk
 · exact bare_c6 x w hk
 · exact bare_c7 x w hk
 · exact bare_c8 x w hk
 · exact bare_c9 x w hk
theorem ba_nil (s : ByteArray) : (s.toList == []) = true ↔ s = ⟨#[]⟩ := by
 rw [Lib.toList_data]
 obtain ⟨⟨l⟩⟩ := s
 cases l <;> simp
def kindF (x : Rec) : Bool :=
 bif x.k == 1 || x.k == 2 || x.k == 3 then (x.fid != 0 && (x.dir != 0 && Pa.nameB x.nm.data.toList)) && x.fid != 1
 else bif x.k == 4 then x.fid != 0 && (x.dir != 0 && Pa.nameB x.nm.data.toList)
 else bif x.k == 5 || x.k == 6 then x.dir != 0 && Pa.nameB x.nm.data.toList
 else bif x.k == 7 then ((x.dir != 0 && Pa.nameB x.nm.data.toList) && x.to != 0) && Pa.nameB x.nm2.data.toList
 else x.fid != 0
theorem bare_wf {x : Rec} (h : x.Wf) : (bareR x).Wf := by
 obtain ⟨a, b, c, d, e, f⟩ := h
 obtain ⟨f1, f2, f3, f4⟩ := f
 refine ⟨a, ?_, ?_, ?_, ?_, f1, ?_, ?_, ?_⟩
 · unfold bareR; cases pFid x.k <;> simp <;> omega
 · unfold bareR; cases pEnt x.k <;> simp <;> omega
 · unfold bareR; cases pGoal x.k <;> simp <;> omega
 · unfold bareR; cases pMode x.k <;> simp <;> omega
 · unfold bareR; cases pEnt x.k <;> first | exact f2 | exact Nat.zero_le _
 · unfold bareR; cases pGoal x.k <;> first | exact f3 | exact Nat.zero_le _
 · unfold bareR; cases pData x.k <;> first | exact f4 | exact Nat.zero_le _
theorem right_bare1 (x : Rec) (hk : x.k = 1) (r : Bool) (hr : r = true ↔ x.opV = (bareR x).opV) : rightF x = (r && decide (x.dt.size ≤ 64) && kindF x) := by
 obtain ⟨k, fid, dir, nm, tt, nm2, md, dt, sn⟩ := x
 simp only at hk
 subst hk
 have en := ba_nil nm
 have e2 := ba_nil nm2
 have ed := ba_nil dt
 have zd : dt = ⟨#[]⟩ → dt.size ≤ 64 := fun h => by rw [h]; decide
 rw [Bool.eq_iff_iff]
 simp only [Bool.and_eq_true, hr]
 simp only [Rec.opV, bareR, rightF, kindF, pOk, pFid, pEnt, pGoal, pMode, pData, mkF, entF, datF]
 generalize Pa.nameB nm.data.toList = q1
 generalize Pa.nameB nm2.data.toList = q2
 simp [-List.isEmpty_iff] at *
 simp [en, e2, ed]
 constructor <;> (intro h; simp_all)
theorem right_bare2 (x : Rec) (hk : x.k = 2) (r : Bool) (hr : r = true ↔ x.opV = (bareR x).opV) : rightF x = (r && decide (x.dt.size ≤ 64) && kindF x) := by
 obtain ⟨k, fid, dir, nm, tt, nm2, md, dt, sn⟩ := x
 simp only at hk
 subst hk
 have en := ba_nil nm
 have e2 := ba_nil nm2
 have ed := ba_nil dt
 have zd : dt = ⟨#[]⟩ → dt.size ≤ 64 := fun h => by rw [h]; decide
 rw [Bool.eq_iff_iff]
 simp only [Bool.and_eq_true, hr]
 simp only [Rec.opV, bareR, rightF, kindF, pOk, pFid, pEnt, pGoal, pMode, pData, mkF, entF, datF]
 generalize Pa.nameB nm.data.toList = q1
 generalize Pa.nameB nm2.data.toList = q2
 simp [-List.isEmpty_iff] at *
 simp [en, e2, ed]
 constructor <;> (intro h; simp_all)
theorem right_bare3 (x : Rec) (hk : x.k = 3) (r : Bool) (hr : r = true ↔ x.opV = (bareR x).opV) : rightF x = (r && decide (x.dt.size ≤ 64) && kindF x) := by
 obtain ⟨k, fid, dir, nm, tt, nm2, md, dt, sn⟩ := x
 simp only at hk
 subst hk
 have en := ba_nil nm
 have e2 := ba_nil nm2
 have ed := ba_nil dt
 have zd : dt = ⟨#[]⟩ → dt.size ≤ 64 := fun h => by rw [h]; decide
 rw [Bool.eq_iff_iff]
 simp only [Bool.and_eq_true, hr]
 simp only [Rec.opV, bareR, rightF, kindF, pOk, pFid, pEnt, pGoal, pMode, pData, mkF, entF, datF]
 generalize Pa.nameB nm.data.toList = q1
 generalize Pa.nameB nm2.data.toList = q2
 simp [-List.isEmpty_iff] at *
 simp [en, e2, ed]
 constructor <;> (intro h; simp_all)
theorem right_bare4 (x : Rec) (hk : x.k = 4) (r : Bool) (hr : r = true ↔ x.opV = (bareR x).opV) : rightF x = (r && decide (x.dt.size ≤ 64) && kindF x) := by
 obtain ⟨k, fid, dir, nm, tt, nm2, md, dt, sn⟩ := x
 simp only at hk
 subst hk
 have en := ba_nil nm
 have e2 := ba_nil nm2
 have ed := ba_nil dt
 have zd : dt = ⟨#[]⟩ → dt.size ≤ 64 := fun h => by rw [h]; decide
 rw [Bool.eq_iff_iff]
 simp only [Bool.and_eq_true, hr]
 simp only [Rec.opV, bareR, rightF, kindF, pOk, pFid, pEnt, pGoal, pMode, pData, mkF, entF, datF]
 generalize Pa.nameB nm.data.toList = q1
 generalize Pa.nameB nm2.data.toList = q2
 simp [-List.isEmpty_iff] at *
 simp [en, e2, ed]
 constructor <;> (intro h; simp_all)
theorem right_bare5 (x : Rec) (hk : x.k = 5) (r : Bool) (hr : r = true ↔ x.opV = (bareR x).opV) : rightF x = (r && decide (x.dt.size ≤ 64) && kindF x) := by
 obtain ⟨k, fid, dir, nm, tt, nm2, md, dt, sn⟩ := x
 simp only at hk
 subst hk
 have en := ba_nil nm
 have e2 := ba_nil nm2
 have ed := ba_nil dt
 have zd : dt = ⟨#[]⟩ → dt.size ≤ 64 := fun h => by rw [h]; decide
 rw [Bool.eq_iff_iff]
 simp only [Bool.and_eq_true, hr]
 simp only [Rec.opV, bareR, rightF, kindF, pOk, pFid, pEnt, pGoal, pMode, pData, mkF, entF, datF]
 generalize Pa.nameB nm.data.toList = q1
 generalize Pa.nameB nm2.data.toList = q2
 simp [-List.isEmpty_iff] at *
 simp [en, e2, ed]
 constructor <;> (intro h; simp_all)
theorem right_bare6 (x : Rec) (hk : x.k = 6) (r : Bool) (hr : r = true ↔ x.opV = (bareR x).opV) : rightF x = (r && decide (x.dt.size ≤ 64) && kindF x) := by
 obtain ⟨k, fid, dir, nm, tt, nm2, md, dt, sn⟩ := x
 simp only at hk
 subst hk
 have en := ba_nil nm
 have e2 := ba_nil nm2
 have ed := ba_nil dt
 have zd : dt = ⟨#[]⟩ → dt.size ≤ 64 := fun h => by rw [h]; decide
 rw [Bool.eq_iff_iff]
 simp only [Bool.and_eq_true, hr]
 simp only [Rec.opV, bareR, rightF, kindF, pOk, pFid, pEnt, pGoal, pMode, pData, mkF, entF, datF]
 generalize Pa.nameB nm.data.toList = q1
 generalize Pa.nameB nm2.data.toList = q2
 simp [-List.isEmpty_iff] at *
 simp [en, e2, ed]
 constructor <;> (intro h; simp_all)
theorem right_bare7 (x : Rec) (hk : x.k = 7) (r : Bool) (hr : r = true ↔ x.opV = (bareR x).opV) : rightF x = (r && decide (x.dt.size ≤ 64) && kindF x) := by
 obtain ⟨k, fid, dir, nm, tt, nm2, md, dt, sn⟩ := x
 simp only at hk
 subst hk
 have en := ba_nil nm
 have e2 := ba_nil nm2
 have ed := ba_nil dt
 have zd : dt = ⟨#[]⟩ → dt.size ≤ 64 := fun h => by rw [h]; decide
 rw [Bool.eq_iff_iff]
 simp only [Bool.and_eq_true, hr]
 simp only [Rec.opV, bareR, rightF, kindF, pOk, pFid, pEnt, pGoal, pMode, pData, mkF, entF, datF]
 generalize Pa.nameB nm.data.toList = q1
 generalize Pa.nameB nm2.data.toList = q2
 simp [-List.isEmpty_iff] at *
 simp [en, e2, ed]
 constructor <;> (intro h; simp_all)
theorem right_bare8 (x : Rec) (hk : x.k = 8) (r : Bool) (hr : r = true ↔ x.opV = (bareR x).opV) : rightF x = (r && decide (x.dt.size ≤ 64) && kindF x) := by
 obtain ⟨k, fid, dir, nm, tt, nm2, md, dt, sn⟩ := x
 simp only at hk
 subst hk
 have en := ba_nil nm
 have e2 := ba_nil nm2
 have ed := ba_nil dt
 have zd : dt = ⟨#[]⟩ → dt.size ≤ 64 := fun h => by rw [h]; decide
 rw [Bool.eq_iff_iff]
 simp only [Bool.and_eq_true, hr]
 simp only [Rec.opV, bareR, rightF, kindF, pOk, pFid, pEnt, pGoal, pMode, pData, mkF, entF, datF]
 generalize Pa.nameB nm.data.toList = q1
 generalize Pa.nameB nm2.data.toList = q2
 simp [-List.isEmpty_iff] at *
 simp [en, e2, ed]
 constructor <;> (intro h; simp_all)
theorem right_bare9 (x : Rec) (hk : x.k = 9) (r : Bool) (hr : r = true ↔ x.opV = (bareR x).opV) : rightF x = (r && decide (x.dt.size ≤ 64) && kindF x) := by
 obtain ⟨k, fid, dir, nm, tt, nm2, md, dt, sn⟩ := x
 simp only at hk
 subst hk
 have en := ba_nil nm
 have e2 := ba_nil nm2
 have ed := ba_nil dt
 have zd : dt = ⟨#[]⟩ → dt.size ≤ 64 := fun h => by rw [h]; decide
 rw [Bool.eq_iff_iff]
 simp only [Bool.and_eq_true, hr]
 simp only [Rec.opV, bareR, rightF, kindF, pOk, pFid, pEnt, pGoal, pMode, pData, mkF, entF, datF]
 generalize Pa.nameB nm.data.toList = q1
 generalize Pa.nameB nm2.data.toList = q2
 simp [-List.isEmpty_iff] at *
 simp [en, e2, ed]
 constructor <;> (intro h; simp_all)
theorem right_bare (x : Rec) (hk : pOk x.k = true) (r : Bool) (hr : r = true ↔ x.opV = (bareR x).opV) : rightF x = (r && decide (x.dt.size ≤ 64) && kindF x) := by
 unfold pOk at hk
 simp only [Bool.or_eq_true, beq_iff_eq] at hk
 rcases hk with (((((((hk | hk) | hk) | hk) | hk) | hk) | hk) | hk) | hk
 · exact right_bare1 x hk r hr
 · exact right_bare2 x hk r hr
 · exact right_bare3 x hk r hr
 · exact right_bare4 x hk r hr
 · exact right_bare5 x hk r hr
 · exact right_bare6 x hk r hr
 · exact right_bare7 x hk r hr
 · exact right_bare8 x hk r hr
 · exact right_bare9 x hk r hr
theorem pOk_lo {k : Int} (h : pOk k = true) : 1 ≤ k ∧ k ≤ 9 := by
 unfold pOk at h
 simp only [Bool.or_eq_true, beq_iff_eq] at h
 omega
theorem pOk_no {k : Int} (h : pOk k = false) : k < 1 ∨ 9 < k := by
 unfold pOk at h
 simp only [Bool.or_eq_false_iff, beq_eq_false_iff_ne] at h
 omega
theorem right_no {x : Rec} (h : pOk x.k = false) : rightF x = false := by unfold rightF; simp [h]
set_option maxHeartbeats 4000000 in
theorem rright_no (x : Rec) (w : World) (hk : pOk x.k = false) :
   Calls Tryz.prog 23 #[x.opV] w fun e w' => e = .returned (.bool (rightF x)) ∧ Below w.heap.size w w' := by
 have hx : (w.alloc (.cells x.ops.toArray 51)).heap[w.heap.size]? = some (.cells x.ops.toArray 51 (0, 0)) := heap_alloc_new w _
 obtain ⟨y0, y1, y2, y3, y4, y5, y6, y7⟩ := op_all hx
 have B0 := hid (below_1 w (.cells x.ops.toArray 51))
 have HR := hid (right_no hk)
 have hc := pOk_no hk
 unfold Rec.opV
 clear hx hk
 rcases hc with hlt | hgt
 · go_enter Tryz.func23, Tryz.ntmps23
   go_wp2
   go_quiet (fail)
   go_wp2
   go_ret
   exact ⟨ret_bool' HR.out.symm, below_drewN B0.out _⟩
 · have hn : ¬ x.k < 1 := by omega
   go_enter Tryz.func23, Tryz.ntmps23
   go_wp2
   go_quiet (fail)
   go_wp2
   go_ret
   exact ⟨ret_bool' HR.out.symm, below_drewN B0.out _⟩
set_option maxHeartbeats 8000000 in
theorem rright_c (x : Rec) (w : World) (hw : x.Wf) :
   Calls Tryz.prog 23 #[x.opV] w fun e w' => e = .returned (.bool (rightF x)) ∧ Below w.heap.size w w' := by
 cases hk : pOk x.k with
 | false => exact rright_no x w hk
 | true =>
   obtain ⟨r, hr, hq⟩ := ops_equal hw (bare_wf hw)
   have HR := hid (right_bare x hk r hr)
   have hg := ops_guard
   obtain ⟨lo, hi⟩ := pOk_lo hk
   have nlo : ¬ x.k < 1 := by omega
   have nhi : ¬ 9 < x.k := by omega
   have BC := hid (fun W => bare_c x W hk)
   have N1 := hid (fun W => rname_c x.nm W hw.2.2.2.2.2.2.1)
   have N2 := hid (fun W => rname_c x.nm2 W hw.2.2.2.2.2.2.2.1)
   have hX : (w.alloc (.cells x.ops.toArray 51)).heap[w.heap.size]? = some (.cells x.ops.toArray 51 (0, 0)) := heap_alloc_new w _
   have hBV : Below w.heap.size w (w.alloc (.cells x.ops.toArray 51)) := below_1 _ _
   have hzV : (w.alloc (.cells x.ops.toArray 51)).heap.size = w.heap.size + 1 := by simp
   have KS : Hid (∀ W, Below (w.heap.size + 1) (w.alloc (.cells x.ops.toArray 51)) W → W.cell? ⟨w.heap.size, 0, none⟩ = some (.int .u8 x.k) ∧ W.cell? ⟨w.heap.size, 1, none⟩ = some (.int .u32 x.fid) ∧ W.cell? ⟨w.heap.size, 2, none⟩ = some (.int .u32 x.dir) ∧ W.cell? ⟨w.heap.size, 3, none⟩ = some (.string x.nm) ∧ W.cell? ⟨w.heap.size, 4, none⟩ = some (.int .u32 x.to) ∧ W.cell? ⟨w.heap.size, 5, none⟩ = some (.string x.nm2) ∧ W.cell? ⟨w.heap.size, 6, none⟩ = some (.int .u16 x.md) ∧ W.cell? ⟨w.heap.size, 7, none⟩ = some (.string x.dt)) := hid (fun W hb => op_all ((hb.block w.heap.size (by omega)).trans hX))
   have BV := hid hBV
   unfold Rec.opV at BC hq
   generalize (bareR x).k = qk at BC hq
   generalize (bareR x).fid = qfid at BC hq
   generalize (bareR x).dir = qdir at BC hq
   generalize (bareR x).nm = qnm at BC hq
   generalize (bareR x).to = qto at BC hq
   generalize (bareR x).nm2 = qnm2 at BC hq
   generalize (bareR x).md = qmd at BC hq
   generalize (bareR x).dt = qdt at BC hq
   have HK := hid hk
   clear hr hk hw hX hBV
   unfold Rec.opV
   unfold kindF at HR
   obtain ⟨b24, h24⟩ : ∃ b24, b24 = (!r || decide (64 < x.dt.size)) := ⟨_, rfl⟩
   have HB24 := hid h24
   clear h24
   go_enter Tryz.func23, Tryz.ntmps23
   go_upto_region 1 with fail
   change Code.wp _ _ _ _ (w.alloc (.cells x.ops.toArray 51))
   generalize w.alloc (.cells x.ops.toArray 51) = V at *
   obtain ⟨y0, y1, y2, y3, y4, y5, y6, y7⟩ := KS.out V (Below.refl _ _)
   have DV : Hid (Below (w.heap.size + 1) V V.drew) := hid (Below.refl _ V).drew
   have ZD : Hid (w.heap.size + 1 ≤ V.drew.heap.size) := hid (Nat.le_of_eq hzV.symm)
   go_cut [24] from 5 to 24 (fun s24 wx => s24 = .bool b24 ∧ Hid (Below (w.heap.size + 1) V wx))
   case first =>
     cases r with
     | false =>
       have EB : b24 = true := by rw [HB24.out]; simp
       have l0 : ∀ w', Below V.heap.size V w' → w'.cell? ⟨w.heap.size, 0, none⟩ = some (.int .u8 x.k) := fun w' h => cell_later h y0
       have l1 : ∀ w', Below V.heap.size V w' → w'.cell? ⟨w.heap.size, 1, none⟩ = some (.int .u32 x.fid) := fun w' h => cell_later h y1
       have l2 : ∀ w', Below V.heap.size V w' → w'.cell? ⟨w.heap.size, 2, none⟩ = some (.int .u32 x.dir) := fun w' h => cell_later h y2
       have l3 : ∀ w', Below V.heap.size V w' → w'.cell? ⟨w.heap.size, 3, none⟩ = some (.string x.nm) := fun w' h => cell_later h y3
       have l4 : ∀ w', Below V.heap.size V w' → w'.cell? ⟨w.heap.size, 4, none⟩ = some (.int .u32 x.to) := fun w' h => cell_later h y4
       have l5 : ∀ w', Below V.heap.size V w' → w'.cell? ⟨w.heap.size, 5, none⟩ = some (.string x.nm2) := fun w' h => cell_later h y5
       have l6 : ∀ w', Below V.heap.size V w' → w'.cell? ⟨w.heap.size, 6, none⟩ = some (.int .u16 x.md) := fun w' h => cell_later h y6
       have l7 : ∀ w', Below V.heap.size V w' → w'.cell? ⟨w.heap.size, 7, none⟩ = some (.string x.dt) := fun w' h => cell_later h y7
       have HZ := hid (Nat.le_of_eq hzV.symm)
       clear hzV
       refine wp_region_class (by kernel_rfl) (by kernel_rfl) ?_
       repeat (first
         | go_big_quiet_skip
         | (go_big_quiet_want
            apply quiet_by
            · intro w1 hw1
              go_simp
              first
                | rfl
                | (go_at_call 44; exact class_of hw1 (BC.out _))
            · go_simp; rfl
            go_big_quiet_on))
       refine wpQuiet_nil ?_
       intro w2 hw2
       go_wp2_with fail
       go_meet
       exact ⟨by rw [EB], hid (hw2.mono HZ.out)⟩
     | true =>
       by_cases hd : 64 < x.dt.size
       · have hdI : 64 < (x.dt.size : Int) := by omega
         first | go_region_held3 (fun w' => w'.cell? ⟨w.heap.size, 0, none⟩ = some (.int .u8 x.k) ∧ w'.cell? ⟨w.heap.size, 1, none⟩ = some (.int .u32 x.fid) ∧ w'.cell? ⟨w.heap.size, 2, none⟩ = some (.int .u32 x.dir) ∧ w'.cell? ⟨w.heap.size, 3, none⟩ = some (.string x.nm) ∧ w'.cell? ⟨w.heap.size, 4, none⟩ = some (.int .u32 x.to) ∧ w'.cell? ⟨w.heap.size, 5, none⟩ = some (.string x.nm2) ∧ w'.cell? ⟨w.heap.size, 6, none⟩ = some (.int .u16 x.md) ∧ w'.cell? ⟨w.heap.size, 7, none⟩ = some (.string x.dt)) (first | (with_reducible exact KS.out _ B2.out) | go_keep) (first | (go_at_call 44; with_reducible refine (BC.out _).mono ?_; rintro _ w2 ⟨rfl, hb2⟩; have B2 := hid (DV.out.trans (hb2.mono ZD.out)); clear hb2)) | fail
         all_goals (
           go_wp2_with fail
           go_meet
           exact ⟨by rw [HB24.out]; simp; omega, B2⟩)
       · have hdI : ¬ 64 < (x.dt.size : Int) := by omega
         first | go_region_held3 (fun w' => w'.cell? ⟨w.heap.size, 0, none⟩ = some (.int .u8 x.k) ∧ w'.cell? ⟨w.heap.size, 1, none⟩ = some (.int .u32 x.fid) ∧ w'.cell? ⟨w.heap.size, 2, none⟩ = some (.int .u32 x.dir) ∧ w'.cell? ⟨w.heap.size, 3, none⟩ = some (.string x.nm) ∧ w'.cell? ⟨w.heap.size, 4, none⟩ = some (.int .u32 x.to) ∧ w'.cell? ⟨w.heap.size, 5, none⟩ = some (.string x.nm2) ∧ w'.cell? ⟨w.heap.size, 6, none⟩ = some (.int .u16 x.md) ∧ w'.cell? ⟨w.heap.size, 7, none⟩ = some (.string x.dt)) (first | (with_reducible exact KS.out _ B2.out) | go_keep) (first | (go_at_call 44; with_reducible refine (BC.out _).mono ?_; rintro _ w2 ⟨rfl, hb2⟩; have B2 := hid (DV.out.trans (hb2.mono ZD.out)); clear hb2)) | fail
         all_goals (
           go_wp2_with fail
           go_meet
           exact ⟨by rw [HB24.out]; simp; omega, B2⟩)
   obtain ⟨rfl, HB⟩ := hcut
   clear y0 y1 y2 y3 y4 y5 y6 y7 DV ZD BC hq hg
   have R0 : Hid (b24 = true → rightF x = false) := hid (fun hb => by
     rw [HR.out]; rw [HB24.out] at hb
     cases r with
     | false => simp
     | true => have hb2 : ¬ x.dt.size ≤ 64 := by simpa using hb
               simp [hb2])
   have R1 : Hid (b24 = false → rightF x = kindF x) := hid (fun hb => by
     rw [HR.out]; rw [HB24.out] at hb
     cases r with
     | false => simp at hb
     | true => have hb2 : x.dt.size ≤ 64 := by simpa using hb
               unfold kindF; simp [hb2])
   unfold kindF at R1
   clear HR HB24
   cases b24 with
   | true =>
     have E0 := hid (R0.out rfl)
     go_wp2
     go_ret
     exact ⟨ret_bool' E0.out.symm, BV.out.trans (HB.out.mono (Nat.le_succ _))⟩
   | false =>
     have E1 := hid (R1.out rfl)
     clear R0 R1
     obtain ⟨y0, y1, y2, y3, y4, y5, y6, y7⟩ := KS.out wc HB.out
     have HD : Hid (Below (w.heap.size + 1) V wc.drew) := hid HB.out.drew
     obtain ⟨f0, hf0⟩ : ∃ f0, (x.fid != 0) = f0 := ⟨_, rfl⟩
     obtain ⟨d0, hd0⟩ : ∃ d0, (x.dir != 0) = d0 := ⟨_, rfl⟩
     obtain ⟨n0, hn0⟩ : ∃ n0, Pa.nameB x.nm.data.toList = n0 := ⟨_, rfl⟩
     rw [hf0, hd0, hn0] at E1
     rw [hn0] at N1
     have Hn0 := hid hn0
     clear hn0
     go_upto_region 3 with fail
     go_cut [3, 4] from 25 to 35 (fun s3 s4 wx => s3 = .bool f0 ∧ s4 = .bool (d0 && n0) ∧ Hid (Below (w.heap.size + 1) V wx))
     case first =>
       cases d0 with
       | false =>
         go_quiet (fail)
         go_wp2_with fail
         go_meet
         exact ⟨rfl, rfl, hid (below_drewN HB.out _)⟩
       | true =>
         first | go_region_held3 (fun w' => w'.cell? ⟨w.heap.size, 0, none⟩ = some (.int .u8 x.k) ∧ w'.cell? ⟨w.heap.size, 1, none⟩ = some (.int .u32 x.fid) ∧ w'.cell? ⟨w.heap.size, 2, none⟩ = some (.int .u32 x.dir) ∧ w'.cell? ⟨w.heap.size, 3, none⟩ = some (.string x.nm) ∧ w'.cell? ⟨w.heap.size, 4, none⟩ = some (.int .u32 x.to) ∧ w'.cell? ⟨w.heap.size, 5, none⟩ = some (.string x.nm2) ∧ w'.cell? ⟨w.heap.size, 6, none⟩ = some (.int .u16 x.md) ∧ w'.cell? ⟨w.heap.size, 7, none⟩ = some (.string x.dt)) (first | (with_reducible exact KS.out _ HD.out) | go_keep) (first | (go_at_call 35; with_reducible refine (N1.out _).mono ?_; rintro _ _ ⟨rfl, rfl⟩)) | fail
         all_goals (
           go_wp2_with fail
           go_meet
           exact ⟨rfl, by simp, HD⟩)
     obtain ⟨rfl, rfl, HC⟩ := hcut
     clear y0 y1 y2 y3 y4 y5 y6 y7 HD HB N1 Hn0
     obtain ⟨y0, y1, y2, y3, y4, y5, y6, y7⟩ := KS.out wc HC.out
     have BF := hid (BV.out.trans (HC.out.mono (Nat.le_succ _)))
     obtain ⟨f1, hf1⟩ : ∃ f1, (x.fid != 1) = f1 := ⟨_, rfl⟩
     obtain ⟨t0, ht0⟩ : ∃ t0, (x.to != 0) = t0 := ⟨_, rfl⟩
     obtain ⟨n2, hn2⟩ : ∃ n2, Pa.nameB x.nm2.data.toList = n2 := ⟨_, rfl⟩
     rw [hf1, ht0, hn2] at E1
     rw [hn2] at N2
     generalize (d0 && n0) = a0 at *
     clear hn2 hd0 hf0 hzV KS nlo nhi
     have hks : x.k = 1 ∨ x.k = 2 ∨ x.k = 3 ∨ x.k = 4 ∨ x.k = 5 ∨ x.k = 6 ∨ x.k = 7 ∨ x.k = 8 ∨ x.k = 9 := by omega
     clear lo hi
     rcases hks with h | h | h | h | h | h | h | h | h
     · rw [h] at y0 E1
       clear h
       cases f0 <;> cases a0
       all_goals (
         go_wp2_with fail
         go_ret
         exact ⟨ret_bool' (by rw [E1.out]; first | rfl | simp), BF.out⟩)
     · rw [h] at y0 E1
       clear h
       cases f0 <;> cases a0
       all_goals (
         go_wp2_with fail
         go_ret
         exact ⟨ret_bool' (by rw [E1.out]; first | rfl | simp), BF.out⟩)
     · rw [h] at y0 E1
       clear h
       cases f0 <;> cases a0
       all_goals (
         go_wp2_with fail
         go_ret
         exact ⟨ret_bool' (by rw [E1.out]; first | rfl | simp), BF.out⟩)
     · rw [h] at y0 E1
       clear h
       cases f0
       all_goals (
         go_wp2_with fail
         go_ret
         exact ⟨ret_bool' (by rw [E1.out]; first | rfl | simp), BF.out⟩)
     · rw [h] at y0 E1
       clear h
       all_goals (
         go_wp2_with fail
         go_ret
         exact ⟨ret_bool' (by rw [E1.out]; first | rfl | simp), BF.out⟩)
     · rw [h] at y0 E1
       clear h
       all_goals (
         go_wp2_with fail
         go_ret
         exact ⟨ret_bool' (by rw [E1.out]; first | rfl | simp), BF.out⟩)
     · rw [h] at y0 E1
       clear h
       cases a0 <;> cases t0
       all_goals (
         go_wp2_with (first | (go_at_call 35; with_reducible refine (N2.out _).mono ?_; rintro _ _ ⟨rfl, rfl⟩))
         go_ret
         exact ⟨ret_bool' (by rw [E1.out]; first | rfl | simp), BF.out⟩)
     · rw [h] at y0 E1
       clear h
       all_goals (
         go_wp2_with fail
         go_ret
         exact ⟨ret_bool' (by rw [E1.out]; first | rfl | simp), BF.out⟩)
     · rw [h] at y0 E1
       clear h
       all_goals (
         go_wp2_with fail
         go_ret
         exact ⟨ret_bool' (by rw [E1.out]; first | rfl | simp), BF.out⟩)
end Go.Proofs.YtkokjkaclcjnjaaGreatDoor
