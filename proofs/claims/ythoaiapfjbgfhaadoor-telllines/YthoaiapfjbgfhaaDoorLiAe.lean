/-
  Plain laws on lists of bytes for the package path: what names, Split and Join come to; no program is named here.
-/
import Derived.WalkKit
import Derived.ProofKit
namespace Go.Proofs.YthoaiapfjbgfhaaDoor.Pa
set_option linter.unusedVariables false
set_option linter.unusedSimpArgs false
open Go.RowKit
def okR (r : Int) : Bool := decide (97 ≤ r ∧ r ≤ 122) || decide (48 ≤ r ∧ r ≤ 57) || decide (r = 46) || decide (r = 45) || decide (r = 95)
def okC (c : UInt8) : Bool := okR (c.toNat : Int)
theorem okR_high (r : Int) (h : 128 ≤ r) : okR r = false := by simp [okR]; omega
theorem okR_true {r : Int} (h : okR r = true) : (97 ≤ r ∧ r ≤ 122) ∨ (48 ≤ r ∧ r ≤ 57) ∨ (46 ≤ r ∧ r ≤ 46) ∨ (45 ≤ r ∧ r ≤ 45) ∨ (95 ≤ r ∧ r ≤ 95) := by
 simp [okR] at h; omega
theorem okR_false {r : Int} (h : okR r = false) : r < 45 ∨ (47 ≤ r ∧ r ≤ 47) ∨ (58 ≤ r ∧ r ≤ 94) ∨ (96 ≤ r ∧ r ≤ 96) ∨ 122 < r := by
 simp [okR] at h; omega
def nameB (l : List UInt8) : Bool := decide (1 ≤ l.length) && decide (l.length ≤ 12) && !(l == [46]) && !(l == [46, 46]) && l.all okC
theorem nameB_short (l : List UInt8) (h : l.length < 1) : nameB l = false := by simp [nameB]; omega
theorem nameB_long (l : List UInt8) (h : 12 < l.length) : nameB l = false := by simp [nameB]; omega
theorem nameB_dot : nameB [46] = false := by decide
theorem nameB_dots : nameB [46, 46] = false := by decide
theorem nameB_mid (l : List UInt8) (h1 : 1 ≤ l.length) (h2 : l.length ≤ 12) (h3 : (l == [46]) = false) (h4 : (l == [46, 46]) = false) : nameB l = l.all okC := by
 simp [nameB, h1, h2, h3, h4]
theorem nameB_bad (l : List UInt8) (h : l.all okC = false) : nameB l = false := by simp only [nameB, h, Bool.and_false]
theorem all_take_succ (l : List UInt8) (j : Nat) (h : j < l.length) (ha : (l.take j).all okC = true) (hc : okC l[j] = true) : (l.take (j + 1)).all okC = true := by
 rw [List.take_succ_eq_append_getElem h, List.all_append, ha, List.all_cons, List.all_nil, hc]; rfl
theorem all_bad (l : List UInt8) (j : Nat) (h : j < l.length) (hc : okC l[j] = false) : l.all okC = false := by
 rw [Bool.eq_false_iff]
 intro ha
 rw [List.all_eq_true] at ha
 have := ha l[j] (List.getElem_mem h)
 rw [hc] at this; exact Bool.noConfusion this
/-! ### What stands between the slashes -/
/-! ### Split -/
/-! ### Join -/
/-! ### What Split answers are names -/
/-! ### Below -/
/-! ### Join and Split, both ways -/
/-! ### Down and up -/
/-! ### A name with one more letter -/
end Go.Proofs.YthoaiapfjbgfhaaDoor.Pa
