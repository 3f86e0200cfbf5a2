/-
  Ten directories that client 1 makes, one behind the other, plainly: what Ship asks of each holds.
-/
import Derived.Test.YtpolbbdaippclaaGreatNnBx
namespace Go.Proofs.YtpolbbdaippclaaGreat
open Go.RowKit Go.ChangeShapes Go.WideShapes Go.ChangeAt Go.Maps Go.Shelf
set_option linter.unusedVariables false
set_option linter.unusedSimpArgs false
set_option maxRecDepth 100000
def opK (i : Nat) : Rec := ⟨2, 50 + (i : Int), 1, Fr.tx [97 + (i : Int)], 0, ⟨#[]⟩, 0, ⟨#[]⟩, 0⟩
def opR : Rec := ⟨6, 0, 1, ⟨#[97]⟩, 0, ⟨#[]⟩, 0, ⟨#[]⟩, 0⟩
def nxS (p : List Nd × List St) (i : Nat) : List Nd × List St := ((ApplyL p.1 (opK i)).2, stepS p.1 p.2 ((i : Int) + 1) (opK i))
def stS : Nat → List Nd × List St
 | 0 => (newL, firstSs)
 | i + 1 => nxS (stS i) i
def okS (i : Nat) : Bool := stepB (stS i).1 (stS i).2 ((i : Int) + 1) (i : Int) (opK i) 900 && rightF (opK i)
theorem ok0 : okS 0 = true := by decide +kernel
theorem ok1 : okS 1 = true := by decide +kernel
theorem ok2 : okS 2 = true := by decide +kernel
theorem ok3 : okS 3 = true := by decide +kernel
theorem ok4 : okS 4 = true := by decide +kernel
theorem ok5 : okS 5 = true := by decide +kernel
theorem ok6 : okS 6 = true := by decide +kernel
theorem ok7 : okS 7 = true := by decide +kernel
theorem ok8 : okS 8 = true := by decide +kernel
theorem ok9 : okS 9 = true := by decide +kernel
theorem okS_all (i : Nat) (h : i < 10) : okS i = true := by
 match i, h with
 | 0, _ => exact ok0
 | 1, _ => exact ok1
 | 2, _ => exact ok2
 | 3, _ => exact ok3
 | 4, _ => exact ok4
 | 5, _ => exact ok5
 | 6, _ => exact ok6
 | 7, _ => exact ok7
 | 8, _ => exact ok8
 | 9, _ => exact ok9
 | i + 10, h => omega
theorem opR_right : rightF opR = true := by decide +kernel
theorem opR_wf : opR.Wf := by
 refine ⟨?_, ?_, ?_, ?_, ?_, ?_, ?_, ?_, ?_⟩
 all_goals first | (show (_ : Int) ≤ _ ∧ _ < _; constructor <;> decide) | (show _ ≤ maxLen; decide)
theorem opK_wf (i : Nat) (h : i < 10) : (opK i).Wf := by
 refine ⟨⟨(by show (0 : Int) ≤ 2; omega), (by show (2 : Int) < 256; omega)⟩, ⟨(by show (0 : Int) ≤ 50 + (i : Int); omega), (by show 50 + (i : Int) < 4294967296; omega)⟩, ⟨(by show (0 : Int) ≤ 1; omega), (by show (1 : Int) < 4294967296; omega)⟩, ⟨(by show (0 : Int) ≤ 0; omega), (by show (0 : Int) < 4294967296; omega)⟩, ⟨(by show (0 : Int) ≤ 0; omega), (by show (0 : Int) < 65536; omega)⟩, ⟨(by show (0 : Int) ≤ 0; omega), (by show (0 : Int) < 18446744073709551616; omega)⟩, ?_, ?_, ?_⟩
 · show (Fr.tx [97 + (i : Int)]).size ≤ maxLen
   rw [Fr.tx_size, List.length_singleton]; unfold maxLen; decide
 · show (⟨#[]⟩ : ByteArray).size ≤ maxLen
   unfold maxLen; decide
 · show (⟨#[]⟩ : ByteArray).size ≤ maxLen
   unfold maxLen; decide
end Go.Proofs.YtpolbbdaippclaaGreat
