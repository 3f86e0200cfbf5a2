/-
  Plain laws on lists of bytes for the package path: what names, Split and Join come to; no program is named here.
  path.Name, alone.
-/
import Derived.WalkKit
import Derived.ProofKit
import Derived.Test.YtkokjkaclcjnjaaDoorRows
import Derived.OpenShut
import Derived.ShutString
import Derived.WalkSpells
import Derived.WalkLawsBesides
import Derived.Deep.QuietTactic
import Derived.BigQuiet
import Derived.Lib.OthersKept
import Derived.Lib.BufferWrite
import Derived.Lib.UnsafeStr
import Derived.Laws.MakeOwn
import Derived.Deep.LoopGhost
import Derived.Lib.Strings
import Derived.Lib.IndexBytes
namespace Go.Proofs.YtkokjkaclcjnjaaDoor.Pa
set_option linter.unusedVariables false
set_option linter.unusedSimpArgs false
open Go.RowKit
def okR (r : Int) : Bool := decide (97 ≤ r ∧ r ≤ 122) || decide (48 ≤ r ∧ r ≤ 57) || decide (r = 46) || decide (r = 45) || decide (r = 95)
def okC (c : UInt8) : Bool := okR (c.toNat : Int)
theorem okR_high (r : Int) (h : 128 ≤ r) : okR r = false := by simp [okR]; omega
theorem okR_true {r : Int} (h : okR r = true) : (97 ≤ r ∧ r ≤ 122) ∨ (48 ≤ r ∧ r ≤ 57) ∨ (46 ≤ r ∧ r ≤ 46) ∨ (45 ≤ r ∧ r ≤ 45) ∨ (95 ≤ r ∧ r ≤ 95) := by
 simp [okR] at h; omega
theorem okR_false {r : Int} (h : okR r = false) : r < 45 ∨ (47 ≤ r ∧ r ≤ 47) ∨ (58 ≤ r ∧ r ≤ 94) ∨ (96 ≤ r ∧ r ≤ 96) ∨ 122 < r := by
 simp [okR] at h; omega
def nameB (l : List UInt8) : Bool := decide (1 ≤ l.length) && decide (l.length ≤ 12) && !(l == [46]) && !(l == [46, 46]) && l.all okC
theorem nameB_short (l : List UInt8) (h : l.length < 1) : nameB l = false := by simp [nameB]; omega
theorem nameB_long (l : List UInt8) (h : 12 < l.length) : nameB l = false := by simp [nameB]; omega
theorem nameB_dot : nameB [46] = false := by decide
theorem nameB_dots : nameB [46, 46] = false := by decide
theorem nameB_mid (l : List UInt8) (h1 : 1 ≤ l.length) (h2 : l.length ≤ 12) (h3 : (l == [46]) = false) (h4 : (l == [46, 46]) = false) : nameB l = l.all okC := by
 simp [nameB, h1, h2, h3, h4]
theorem nameB_bad (l : List UInt8) (h : l.all okC = false) : nameB l = false := by simp only [nameB, h, Bool.and_false]
theorem all_take_succ (l : List UInt8) (j : Nat) (h : j < l.length) (ha : (l.take j).all okC = true) (hc : okC l[j] = true) : (l.take (j + 1)).all okC = true := by
 rw [List.take_succ_eq_append_getElem h, List.all_append, ha, List.all_cons, List.all_nil, hc]; rfl
theorem all_bad (l : List UInt8) (j : Nat) (h : j < l.length) (hc : okC l[j] = false) : l.all okC = false := by
 rw [Bool.eq_false_iff]
 intro ha
 rw [List.all_eq_true] at ha
 have := ha l[j] (List.getElem_mem h)
 rw [hc] at this; exact Bool.noConfusion this
/-! ### What stands between the slashes -/
/-! ### Split -/
/-! ### Join -/
/-! ### What Split answers are names -/
/-! ### Below -/
/-! ### Join and Split, both ways -/
/-! ### Down and up -/
/-! ### A name with one more letter -/
end Go.Proofs.YtkokjkaclcjnjaaDoor.Pa
namespace Go.Proofs.YtkokjkaclcjnjaaDoor
open Go.RowKit Go.ChangeShapes Go.WideShapes Go.ChangeAt
set_option linter.unusedVariables false
set_option linter.unusedSimpArgs false
theorem ret_bool' {a b : Bool} (h : a = b) : Ending.returned (.bool a) = .returned (.bool b) := by rw [h]
theorem hid' {p : Prop} (h : p) : Hid p := h
set_option maxHeartbeats 1000000 in
theorem inName_c (r : Int) (w : World) :
   Calls Tryd.prog 123 #[.int .i32 r] w fun e w' => e = .returned (.bool (Pa.okR r)) ∧ w' = w := by
 go_enter Tryd.func123, Tryd.ntmps123
 go_wp2
 all_goals go_ret
 all_goals exact ⟨ret_bool' (by first | rfl | (rw [Bool.eq_iff_iff]; simp [Pa.okR]; done) | (rw [Bool.eq_iff_iff]; simp [Pa.okR]; omega)), rfl⟩
set_option maxHeartbeats 1000000 in
theorem name_c (s : ByteArray) (w : World) (hs : s.size ≤ maxLen) :
   Calls Tryd.prog 103 #[.string s] w fun e w' => e = .returned (.bool (Pa.nameB s.data.toList)) ∧ Below w.heap.size w w' := by
 have hlen : s.data.toList.length = s.size := rfl
 unfold maxLen at hs
 by_cases h1 : s.size < 1
 · have N := hid' (Pa.nameB_short s.data.toList (by omega))
   go_enter Tryd.func103, Tryd.ntmps103
   go_wp2
   go_ret
   exact ⟨ret_bool' N.out.symm, Below.refl _ _⟩
 · by_cases h2 : 12 < s.size
   · have N := hid' (Pa.nameB_long s.data.toList (by omega))
     go_enter Tryd.func103, Tryd.ntmps103
     go_wp2
     go_ret
     exact ⟨ret_bool' N.out.symm, Below.refl _ _⟩
   · cases h3 : (s.toList == [46]) with
     | true =>
       have N : Hid (Pa.nameB s.data.toList = false) := by
         have : s.data.toList = [46] := by rw [← Lib.toList_data]; exact beq_iff_eq.1 h3
         show _ = _
         rw [this]; exact Pa.nameB_dot
       go_enter Tryd.func103, Tryd.ntmps103
       go_wp2
       go_ret
       exact ⟨ret_bool' N.out.symm, Below.refl _ _⟩
     | false =>
       cases h4 : (s.toList == [46, 46]) with
       | true =>
         have N : Hid (Pa.nameB s.data.toList = false) := by
           have : s.data.toList = [46, 46] := by rw [← Lib.toList_data]; exact beq_iff_eq.1 h4
           show _ = _
           rw [this]; exact Pa.nameB_dots
         go_enter Tryd.func103, Tryd.ntmps103
         go_wp2
         go_ret
         exact ⟨ret_bool' N.out.symm, Below.refl _ _⟩
       | false =>
         have N : Hid (Pa.nameB s.data.toList = s.data.toList.all Pa.okC) := Pa.nameB_mid _ (by omega) (by omega) (by rw [← Lib.toList_data]; exact h3) (by rw [← Lib.toList_data]; exact h4)
         have g1 : decide ((s.size : Int) < 1) = false := by simp; omega
         have g2 : decide ((12 : Int) < (s.size : Int)) = false := by simp; omega
         have HL := hid' hlen
         clear hlen
         go_enter Tryd.func103, Tryd.ntmps103
         go_wp2
         go_loopw [4] (fun r wr => ∃ j : Nat, wr = w.iter s j ∧ j ≤ s.size ∧ Hid ((s.data.toList.take j).all Pa.okC = true)) (fun _ wr => s.size - wr.iterPos w.heap.size)
         case atStart => exact ⟨0, rfl, by omega, by simp [Hid]⟩
         case round =>
           obtain ⟨j, rfl, hj, HA⟩ := hrel
           have hpos := World.iterPos_iter w s j
           by_cases hp : j < s.size
           · by_cases ha : (s[j]'hp).toNat < 128
             · have hnx := fun ty => run_next_ascii (P := Tryd.prog) w s j ty hp ha
               cases hc : Pa.okR ((s[j]'hp).toNat : Int) with
               | true =>
                 have HB : Hid ((s.data.toList.take (j + 1)).all Pa.okC = true) := Pa.all_take_succ s.data.toList j (by have := HL.out; omega) HA.out (by unfold Pa.okC; exact hc)
                 go_wp2_with (go_at_call 123; refine (inName_c _ _).mono ?_; rintro e w' ⟨rfl, rfl⟩)
                 go_roundw
                 case rel => exact ⟨j + 1, rfl, by omega, HB⟩
                 case measure => rw [World.iterPos_iter, World.iterPos_iter]; omega
               | false =>
                 have HB : Hid (s.data.toList.all Pa.okC = false) := Pa.all_bad s.data.toList j (by have := HL.out; omega) (by unfold Pa.okC; exact hc)
                 go_wp2_with (go_at_call 123; refine (inName_c _ _).mono ?_; rintro e w' ⟨rfl, rfl⟩)
                 go_ret
                 exact ⟨ret_bool' (by rw [N.out, HB.out]), (Below.refl _ _).alloc (Nat.le_refl _) _⟩
             · have hnx := fun ty => run_next_any (P := Tryd.prog) w s j ty hp
               have hd := decode_high s j hp (by omega)
               have hc : Pa.okR ((Utf8.decode s j).1 : Int) = false := Pa.okR_high _ (by omega)
               have HB : Hid (s.data.toList.all Pa.okC = false) := Pa.all_bad s.data.toList j (by have := HL.out; omega) (by unfold Pa.okC; exact Pa.okR_high _ (by have h' : (s.data.toList[j]'(by have := HL.out; omega)) = s[j]'hp := rfl; rw [h']; omega))
               go_wp2_with (go_at_call 123; refine (inName_c _ _).mono ?_; rintro e w' ⟨rfl, rfl⟩)
               go_ret
               exact ⟨ret_bool' (by rw [N.out, HB.out]), (Below.refl _ _).alloc (Nat.le_refl _) _⟩
           · have hnx := fun ty => run_next_end (P := Tryd.prog) w s j ty hp
             go_wp2
             go_ret
             exact ⟨ret_bool' (by rw [N.out]; have := HA.out; rw [List.take_of_length_le (by have := HL.out; omega)] at this; exact this.symm), (Below.refl _ _).alloc (Nat.le_refl _) _⟩
end Go.Proofs.YtkokjkaclcjnjaaDoor
