/-
  What the statements' own journal holds: three groups, by calculation.
-/
import Derived.Test.YtllohapbbmnipadJFork
namespace Go.Proofs.Ytllohapbbmnipad
open Go.RowKit Go.ChangeShapes Go.WideShapes Go.ChangeAt Go.Maps
set_option linter.unusedVariables false
set_option linter.unusedSimpArgs false
def lv0 : Int → Sec := fun _ => zsec
def lv1 : Int → Sec := added lv0 20 [[97]]
def lv2 : Int → Sec := added lv1 20 [[98], []]
def lv3 : Int → Sec := setTo lv2 20 [[99]]
theorem need1 : Jo.needF [[97]] = 3 := by decide +kernel
theorem need2 : Jo.needF [[98], []] = 3 := by decide +kernel
theorem need3 : Jo.needF [[99]] = 3 := by decide +kernel
theorem best0 : best lv0 2 = (0, 0) := by decide +kernel
theorem grps0 : grps lv0 20 = [] := by decide +kernel
theorem end0 : arEnd lv0 20 = 2 := by decide +kernel
theorem end1 : arEnd lv1 20 = 5 := by decide +kernel
theorem st1 : arSt lv1 20 = 2 := by decide +kernel
theorem grps2 : grps lv2 20 = [[[97]], [[98], []]] := by decide +kernel
theorem best2 : (best lv2 2).2 = 0 := by decide +kernel
theorem grps3 : grps lv3 20 = [[[99]]] := by decide +kernel
end Go.Proofs.Ytllohapbbmnipad
