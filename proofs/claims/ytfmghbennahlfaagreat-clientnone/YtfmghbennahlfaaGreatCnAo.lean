/-
  
-/
import Derived.Test.YtfmghbennahlfaaGreatCnAi
import Derived.Test.YtfmghbennahlfaaGreatCnAn
namespace Go.Proofs.YtfmghbennahlfaaGreat
open Go.RowKit Go.ChangeShapes Go.WideShapes Go.ChangeAt Go.Maps Go.Shelf
set_option linter.unusedVariables false
set_option linter.unusedSimpArgs false
set_option maxRecDepth 100000
def dKid (l : List Nd) (ks : List Kd) : Nat → Bool
 | 0 => true
 | m + 1 => dKid l ks m && (hasF l (ks.getD m Kd.no).fid && (ks.getD m Kd.no).fid != 1)
def dA (l : List Nd) (i : Nat) : Bool := nodeOk (l.getD i Nd.no) && decide (lastFd l i < (l.getD i Nd.no).fid)
def dOne (l : List Nd) (i : Nat) : Bool := dA l i && dKid l (l.getD i Nd.no).ks (l.getD i Nd.no).ks.length
def dTo (l : List Nd) : Nat → Bool
 | 0 => true
 | m + 1 => dTo l m && dOne l m
def rtB (x : Nd) : Bool := x.fid == 1 && (x.k == 2 && x.ln == 0)
def rtTo (l : List Nd) : Nat → Bool
 | 0 => false
 | m + 1 => rtTo l m || rtB (l.getD m Nd.no)
def lkA (c : Int) (x : Nd) : Bool := x.fid == 1 || !(decide (c < 1) || (c != x.ln || (x.k == 2 && c != 1)))
def lkU (l : List Nd) (x : Nd) : Bool := !(x.k == 2) || abN l 1 (l.length + 1) x.fid
def lkOne (l : List Nd) (x : Nd) : Bool := lkA ((kfs l).count x.fid : Int) x && lkU l x
def lkTo (l : List Nd) : Nat → Bool
 | 0 => true
 | m + 1 => lkTo l m && lkOne l (l.getD m Nd.no)
def rightD (l : List Nd) : Bool := decide (l.length ≤ 40) && (dTo l l.length && (rtTo l l.length && lkTo l l.length))
theorem dTo_at {l : List Nd} : ∀ {m : Nat}, dTo l m = true → ∀ i, i < m → dOne l i = true
 | 0, _, i, hi => by omega
 | m + 1, h, i, hi => by
   unfold dTo at h
   rw [Bool.and_eq_true] at h
   by_cases e : i = m
   · subst e; exact h.2
   · exact dTo_at h.1 i (by omega)
theorem dTo_ok {l : List Nd} (h : dTo l l.length = true) : ∀ x ∈ l, nodeOk x = true := fun x hx => by
 obtain ⟨i, hi, rfl⟩ := List.getElem_of_mem hx
 have := dTo_at h i hi
 unfold dOne dA at this
 rw [Bool.and_eq_true, Bool.and_eq_true, show l.getD i Nd.no = l[i] by simp [List.getD, hi]] at this
 exact this.1.1
theorem nodeOk_few {x : Nd} (h : nodeOk x = true) : x.ks.length ≤ 12 := by
 unfold nodeOk at h
 simp only [Bool.and_eq_true, Bool.not_eq_true', Bool.or_eq_false_iff, decide_eq_false_iff_not] at h
 omega
theorem nodeOk_pos {x : Nd} (h : nodeOk x = true) : x.fid ≠ 0 := by
 unfold nodeOk at h
 simp only [Bool.and_eq_true, Bool.not_eq_true', Bool.or_eq_false_iff, beq_eq_false_iff_ne] at h
 exact h.1.1.1
end Go.Proofs.YtfmghbennahlfaaGreat
