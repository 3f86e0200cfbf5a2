/-
  the document's Name, bare, RightOp. (Written by nodebase.py out of the record's texts.)
-/
import Derived.Test.YtkokjkaclcjnjaaDoorRdAg
import Derived.ChangeArms
import Derived.ChangeOld
import Derived.Below
import Derived.Deep.CutRange
import Derived.Laws.AppendOwnNone
import Derived.Deep.RegionLaw
import Derived.Deep.LoopGhost
import Derived.Laws.BitsLemmas
import Derived.Shelf.Abstract
import Derived.Defers
import Derived.Recover
import Derived.Laws.Pointers
import Derived.Deep.QuietTactic
import Derived.Maps.OwnOps
import Derived.Maps.Views
import Derived.DeepKeys4
import Derived.RegionTactic
import Derived.ChangeAlike
import Derived.BigRegion
import Derived.BigQuiet
import Derived.Laws.IdiomStrings
namespace Go.Proofs.YtkokjkaclcjnjaaDoor
open Go.RowKit Go.ChangeShapes Go.WideShapes Go.ChangeAt Go.Maps Go.Shelf
set_option linter.unusedVariables false
set_option linter.unusedSimpArgs false
set_option maxRecDepth 100000
set_option maxRecDepth 100000 in
set_option maxHeartbeats 2000000 in
theorem rname_c (s : ByteArray) (w : World) (hs : s.size ≤ maxLen) :
   Calls Tryd.prog 57 #[.string s] w fun e w' => e = .returned (.bool (Pa.nameB s.data.toList)) ∧ w' = w := by
 have HL : Hid (s.data.toList.length = s.size) := rfl
 unfold maxLen at hs
 go_enter Tryd.func57, Tryd.ntmps57
 go_wp2
 go_loop [3, 4] (fun i c => ∃ j : Nat, j ≤ s.size ∧ i = .int .i64 j ∧ Hid ((s.data.toList.take j).all Pa.okC = true)) (fun i _ => ((s.size : Int) - intOf i).toNat)
 case atStart => exact ⟨0, by omega, rfl, by simp [Hid]⟩
 case round =>
   obtain ⟨j, hj, rfl, HA⟩ := hrel
   by_cases hp : j < s.size
   · cases hc : Pa.okR ((s[j]'hp).toNat : Int) with
     | true =>
       have HB : Hid ((s.data.toList.take (j + 1)).all Pa.okC = true) := Pa.all_take_succ s.data.toList j (by have := HL.out; omega) HA.out (by unfold Pa.okC; exact hc)
       have hcs := Pa.okR_true hc
       clear hc
       rcases hcs with ⟨c1, c2⟩ | ⟨c1, c2⟩ | ⟨c1, c2⟩ | ⟨c1, c2⟩ | ⟨c1, c2⟩
       · have d97 : decide (97 ≤ ((s[j]'hp).toNat : Int)) = true := decide_eq_true (by omega)
         have d122 : decide (((s[j]'hp).toNat : Int) ≤ 122) = true := decide_eq_true (by omega)
         go_wp2
         go_round
         case rel => exact ⟨j + 1, by omega, by go_num, HB⟩
         case measure => simp [intOf]; omega
       · have d97 : decide (97 ≤ ((s[j]'hp).toNat : Int)) = false := decide_eq_false (by omega)
         have d48 : decide (48 ≤ ((s[j]'hp).toNat : Int)) = true := decide_eq_true (by omega)
         have d57 : decide (((s[j]'hp).toNat : Int) ≤ 57) = true := decide_eq_true (by omega)
         go_wp2
         go_round
         case rel => exact ⟨j + 1, by omega, by go_num, HB⟩
         case measure => simp [intOf]; omega
       · have q46 : (((s[j]'hp).toNat : Int) == 46) = true := beq_iff_eq.2 (by omega)
         have d97 : decide (97 ≤ ((s[j]'hp).toNat : Int)) = false := decide_eq_false (by omega)
         have d48 : decide (48 ≤ ((s[j]'hp).toNat : Int)) = false := decide_eq_false (by omega)
         go_wp2
         go_round
         case rel => exact ⟨j + 1, by omega, by go_num, HB⟩
         case measure => simp [intOf]; omega
       · have q46 : (((s[j]'hp).toNat : Int) == 46) = false := beq_eq_false_iff_ne.2 (by omega)
         have q45 : (((s[j]'hp).toNat : Int) == 45) = true := beq_iff_eq.2 (by omega)
         have d97 : decide (97 ≤ ((s[j]'hp).toNat : Int)) = false := decide_eq_false (by omega)
         have d48 : decide (48 ≤ ((s[j]'hp).toNat : Int)) = false := decide_eq_false (by omega)
         go_wp2
         go_round
         case rel => exact ⟨j + 1, by omega, by go_num, HB⟩
         case measure => simp [intOf]; omega
       · have q46 : (((s[j]'hp).toNat : Int) == 46) = false := beq_eq_false_iff_ne.2 (by omega)
         have q45 : (((s[j]'hp).toNat : Int) == 45) = false := beq_eq_false_iff_ne.2 (by omega)
         have q95 : (((s[j]'hp).toNat : Int) == 95) = true := beq_iff_eq.2 (by omega)
         have d97 : decide (97 ≤ ((s[j]'hp).toNat : Int)) = false := decide_eq_false (by omega)
         have d48 : decide (48 ≤ ((s[j]'hp).toNat : Int)) = true := decide_eq_true (by omega)
         have d57 : decide (((s[j]'hp).toNat : Int) ≤ 57) = false := decide_eq_false (by omega)
         go_wp2
         go_round
         case rel => exact ⟨j + 1, by omega, by go_num, HB⟩
         case measure => simp [intOf]; omega
     | false =>
       have HB : Hid (Pa.nameB s.data.toList = false) := Pa.nameB_bad _ (Pa.all_bad s.data.toList j (by have := HL.out; omega) (by unfold Pa.okC; exact hc))
       have hcs := Pa.okR_false hc
       clear hc
       rcases hcs with c1 | ⟨c1, c2⟩ | ⟨c1, c2⟩ | ⟨c1, c2⟩ | c1
       · have q46 : (((s[j]'hp).toNat : Int) == 46) = false := beq_eq_false_iff_ne.2 (by omega)
         have q45 : (((s[j]'hp).toNat : Int) == 45) = false := beq_eq_false_iff_ne.2 (by omega)
         have q95 : (((s[j]'hp).toNat : Int) == 95) = false := beq_eq_false_iff_ne.2 (by omega)
         have d97 : decide (97 ≤ ((s[j]'hp).toNat : Int)) = false := decide_eq_false (by omega)
         have d48 : decide (48 ≤ ((s[j]'hp).toNat : Int)) = false := decide_eq_false (by omega)
         go_wp2
         go_ret
         exact ⟨ret_bool' HB.out.symm, rfl⟩
       · have q46 : (((s[j]'hp).toNat : Int) == 46) = false := beq_eq_false_iff_ne.2 (by omega)
         have q45 : (((s[j]'hp).toNat : Int) == 45) = false := beq_eq_false_iff_ne.2 (by omega)
         have q95 : (((s[j]'hp).toNat : Int) == 95) = false := beq_eq_false_iff_ne.2 (by omega)
         have d97 : decide (97 ≤ ((s[j]'hp).toNat : Int)) = false := decide_eq_false (by omega)
         have d48 : decide (48 ≤ ((s[j]'hp).toNat : Int)) = false := decide_eq_false (by omega)
         go_wp2
         go_ret
         exact ⟨ret_bool' HB.out.symm, rfl⟩
       · have q46 : (((s[j]'hp).toNat : Int) == 46) = false := beq_eq_false_iff_ne.2 (by omega)
         have q45 : (((s[j]'hp).toNat : Int) == 45) = false := beq_eq_false_iff_ne.2 (by omega)
         have q95 : (((s[j]'hp).toNat : Int) == 95) = false := beq_eq_false_iff_ne.2 (by omega)
         have d97 : decide (97 ≤ ((s[j]'hp).toNat : Int)) = false := decide_eq_false (by omega)
         have d48 : decide (48 ≤ ((s[j]'hp).toNat : Int)) = true := decide_eq_true (by omega)
         have d57 : decide (((s[j]'hp).toNat : Int) ≤ 57) = false := decide_eq_false (by omega)
         go_wp2
         go_ret
         exact ⟨ret_bool' HB.out.symm, rfl⟩
       · have q46 : (((s[j]'hp).toNat : Int) == 46) = false := beq_eq_false_iff_ne.2 (by omega)
         have q45 : (((s[j]'hp).toNat : Int) == 45) = false := beq_eq_false_iff_ne.2 (by omega)
         have q95 : (((s[j]'hp).toNat : Int) == 95) = false := beq_eq_false_iff_ne.2 (by omega)
         have d97 : decide (97 ≤ ((s[j]'hp).toNat : Int)) = false := decide_eq_false (by omega)
         have d48 : decide (48 ≤ ((s[j]'hp).toNat : Int)) = true := decide_eq_true (by omega)
         have d57 : decide (((s[j]'hp).toNat : Int) ≤ 57) = false := decide_eq_false (by omega)
         go_wp2
         go_ret
         exact ⟨ret_bool' HB.out.symm, rfl⟩
       · have q46 : (((s[j]'hp).toNat : Int) == 46) = false := beq_eq_false_iff_ne.2 (by omega)
         have q45 : (((s[j]'hp).toNat : Int) == 45) = false := beq_eq_false_iff_ne.2 (by omega)
         have q95 : (((s[j]'hp).toNat : Int) == 95) = false := beq_eq_false_iff_ne.2 (by omega)
         have d97 : decide (97 ≤ ((s[j]'hp).toNat : Int)) = true := decide_eq_true (by omega)
         have d122 : decide (((s[j]'hp).toNat : Int) ≤ 122) = false := decide_eq_false (by omega)
         have d48 : decide (48 ≤ ((s[j]'hp).toNat : Int)) = true := decide_eq_true (by omega)
         have d57 : decide (((s[j]'hp).toNat : Int) ≤ 57) = false := decide_eq_false (by omega)
         go_wp2
         go_ret
         exact ⟨ret_bool' HB.out.symm, rfl⟩
   · have HAll : Hid (s.data.toList.all Pa.okC = true) := by
       have h1 := HA.out
       rw [List.take_of_length_le (by have := HL.out; omega)] at h1; exact h1
     by_cases h1 : s.size < 1
     · have N := hid' (Pa.nameB_short s.data.toList (by have := HL.out; omega))
       go_wp2
       go_ret
       exact ⟨ret_bool' N.out.symm, rfl⟩
     · by_cases h2 : 12 < s.size
       · have N := hid' (Pa.nameB_long s.data.toList (by have := HL.out; omega))
         go_wp2
         go_ret
         exact ⟨ret_bool' N.out.symm, rfl⟩
       · cases h3 : (s.toList == [46]) with
         | true =>
           have N : Hid (Pa.nameB s.data.toList = false) := by
             have : s.data.toList = [46] := by rw [← Lib.toList_data]; exact beq_iff_eq.1 h3
             show _ = _
             rw [this]; exact Pa.nameB_dot
           go_wp2
           go_ret
           exact ⟨ret_bool' N.out.symm, rfl⟩
         | false =>
           cases h4 : (s.toList == [46, 46]) with
           | true =>
             have N : Hid (Pa.nameB s.data.toList = false) := by
               have : s.data.toList = [46, 46] := by rw [← Lib.toList_data]; exact beq_iff_eq.1 h4
               show _ = _
               rw [this]; exact Pa.nameB_dots
             go_wp2
             go_ret
             exact ⟨ret_bool' N.out.symm, rfl⟩
           | false =>
             have N : Hid (Pa.nameB s.data.toList = true) := by
               show _ = _
               rw [Pa.nameB_mid _ (by have := HL.out; omega) (by have := HL.out; omega) (by rw [← Lib.toList_data]; exact h3) (by rw [← Lib.toList_data]; exact h4)]
               exact HAll.out
             go_wp2
             go_ret
             exact ⟨ret_bool' N.out.symm, rfl⟩
end Go.Proofs.YtkokjkaclcjnjaaDoor
