/-
  The document's tree: trees in memory; set and less on them; where nodes lie does not matter.
-/
import Derived.Test.YtkokjkaclcjnjaaDoorRdBc
namespace Go.Proofs.YtkokjkaclcjnjaaDoor
open Go.RowKit Go.ChangeShapes Go.WideShapes Go.ChangeAt Go.Maps Go.Shelf
set_option linter.unusedVariables false
set_option linter.unusedSimpArgs false
set_option maxRecDepth 100000
def NdP (w : World) (x : Nd) : Prop := x.Ok w ∧ x.Nil ∧ x.zs.length ≤ 1000 ∧ x.ks.length ≤ 1000
theorem NdP.later {w w' : World} {x : Nd} (h : NdP w x) (hb : Below w.heap.size w w') : NdP w' x := ⟨h.1.later hb, h.2⟩
def Tr (w : World) (a : Option Addr) (l : List Nd) : Prop := IsNs w a l ∧ ∀ x ∈ l, x.Nil ∧ x.zs.length ≤ 1000 ∧ x.ks.length ≤ 1000
theorem Tr.later {w w' : World} {a : Option Addr} {l : List Nd} (h : Tr w a l) (hb : Below w.heap.size w w') : Tr w' a l := ⟨h.1.later hb, h.2⟩
theorem Tr.nil (w : World) : Tr w none [] := ⟨⟨Nat.zero_le _, (fun x hx => by cases hx), fun hp => absurd hp (by simp)⟩, fun x hx => by cases hx⟩
theorem Tr.nd {w : World} {a : Option Addr} {l : List Nd} (h : Tr w a l) {x : Nd} (hx : x ∈ l) : NdP w x := ⟨h.1.2.1 x hx, h.2 x hx⟩
theorem Tr.of {w : World} {base : Nat} {v : Value} {L : List Nd} (h : OwN w base v L) (hk : ∀ x ∈ L, NdP w x) (hm : L.length ≤ 100000) : ∃ a cap, v = .slice a L.length cap ∧ Tr w a L := by
 obtain ⟨a, cap, e, hI⟩ := h.is (fun x hx => (hk x hx).1) hm
 exact ⟨a, cap, e, hI, fun x hx => (hk x hx).2⟩
def Nd.lnk (x : Nd) (n : Int) : Nd := ⟨x.fid, x.k, x.md, n, x.da, x.dc, x.zs, x.ka, x.kc, x.ks⟩
end Go.Proofs.YtkokjkaclcjnjaaDoor
