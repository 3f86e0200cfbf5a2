/-
  What stands in quotes: plain facts; few of the statements of tell.
-/
import Derived.Test.YthoaiapfjbgfhaaDoorQuBc
namespace Go.Proofs.YthoaiapfjbgfhaaDoor
open Go.RowKit Go.ChangeShapes Go.WideShapes Go.ChangeAt
set_option linter.unusedVariables false
set_option linter.unusedSimpArgs false
set_option maxRecDepth 100000
def few15 (s : ByteArray) : ByteArray := if 9000 < s.size then s.extract 0 9000 else s
theorem few15_size (s : ByteArray) : (few15 s).size ≤ 9000 := by
 unfold few15
 split
 · simp; omega
 · omega
set_option maxHeartbeats 1000000 in
theorem few15_c (s : ByteArray) (w : World) : Calls Tryd.prog 8 #[.string s] w fun e w' => e = .returned (.string (few15 s)) ∧ w' = w := by
 obtain ⟨r, hr⟩ : ∃ r, Hid (r = few15 s) := ⟨_, hid rfl⟩
 rw [← hr.out]
 by_cases h : 9000 < s.size
 · have hI : (9000 : Int) < s.size := by omega
   have hI2 : (9000 : Int) ≤ s.size := by omega
   have RE : Hid (r = s.extract 0 9000) := hid (by rw [hr.out]; unfold few15; rw [if_pos h])
   clear hr
   go_enter Tryd.func8, Tryd.ntmps8
   go_wp2
   go_ret
   exact ⟨by rw [RE.out]; rfl, rfl⟩
 · have hI : ¬ (9000 : Int) < s.size := by omega
   have RE : Hid (r = s) := hid (by rw [hr.out]; unfold few15; rw [if_neg h])
   clear hr
   go_enter Tryd.func8, Tryd.ntmps8
   go_wp2
   go_ret
   exact ⟨by rw [RE.out]; rfl, rfl⟩
end Go.Proofs.YthoaiapfjbgfhaaDoor
