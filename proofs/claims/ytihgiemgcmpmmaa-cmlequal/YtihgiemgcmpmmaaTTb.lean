/-
  Tables of nodes by their fids: tableOf, haveKidsOf, rightLinks of the package tree.
-/
import Derived.Test.YtihgiemgcmpmmaaTBs
namespace Go.Proofs.Ytihgiemgcmpmmaa
open Go.RowKit Go.ChangeShapes Go.WideShapes Go.ChangeAt Go.Maps
set_option linter.unusedVariables false
set_option linter.unusedSimpArgs false
set_option maxRecDepth 100000
def ptR : Value → Option (DataW (Option Addr) × List MemPlace)
  | .pointer x => some (.held x, [])
  | _ => none
/-- Pointers. -/
def ptE : Enc (Option Addr) := ⟨fun x => .pointer x, ptR, fun _ => rfl, fun {v z} h => by
  unfold ptR at h
  split at h
  · cases h; exact ⟨_, rfl, rfl⟩
  · cases h⟩
/-- Which node of a list a fid is, as far as it is gone through. -/
def plTo (l : List Nd) : Nat → Int → Option Nat
  | 0, _ => none
  | m + 1, f => updF (plTo l m) (l.getD m Nd.no).fid (some m) f
def plN (l : List Nd) : Nat → Nat
  | 0 => 0
  | m + 1 => addN (plTo l m) (l.getD m Nd.no).fid (plN l m)
theorem plTo_lt (l : List Nd) : ∀ (m : Nat) {f : Int} {i : Nat}, plTo l m f = some i → i < m ∧ (l.getD i Nd.no).fid = f
  | 0, f, i, h => by cases h
  | m + 1, f, i, h => by
    unfold plTo updF at h
    split at h
    · rename_i e
      cases h
      exact ⟨by omega, e.symm⟩
    · obtain ⟨h1, h2⟩ := plTo_lt l m h
      exact ⟨by omega, h2⟩
theorem plN_le (l : List Nd) : ∀ m, plN l m ≤ m
  | 0 => Nat.le_refl _
  | m + 1 => by
    have := plN_le l m
    unfold plN addN
    split <;> omega
/-- The nodes of a table: where each lies, and what it is. -/
abbrev Tab := Int → Option (Addr × Nd)
def Tab.ptr (N : Tab) : Int → Option (Option Addr) := fun f => (N f).map fun p => some p.1
/-- A table in memory. -/
def IsTab (w : World) (tb m : Nat) (N : Tab) : Prop := IsFm ptE w tb m N.ptr ∧ ∀ f p x, N f = some (p, x) → p.spot = none ∧ NdC w p.block p.off x ∧ x.Ok w ∧ x.fid = f
theorem IsTab.later {w w' : World} {tb m : Nat} {N : Tab} (h : IsTab w tb m N) (hb : Below w.heap.size w w') : IsTab w' tb m N :=
  ⟨h.1.out (Ou.of (S := fun _ => False) hb) (fun e => e), fun f p x e => by obtain ⟨h1, h2, h3, h4⟩ := h.2 f p x e; exact ⟨h1, h2.later hb, h3.later hb, h4⟩⟩
def ndF (a : Option Addr) (l : List Nd) (m : Nat) : Tab := fun f => (plTo l m f).map fun i => (⟨(a.getD ⟨0, 0, none⟩).block, (a.getD ⟨0, 0, none⟩).off + i * 6, none⟩, l.getD i Nd.no)
theorem ndF_ptr (b off : Nat) (l : List Nd) (m : Nat) : (ndF (some ⟨b, off, none⟩) l (m + 1)).ptr = updF (ndF (some ⟨b, off, none⟩) l m).ptr (l.getD m Nd.no).fid (some (some ⟨b, off + m * 6, none⟩)) := by
  funext f
  have e : plTo l (m + 1) f = updF (plTo l m) (l.getD m Nd.no).fid (some m) f := rfl
  unfold Tab.ptr ndF
  rw [e]
  unfold updF
  split <;> simp
theorem addN_ptr (a : Option Addr) (l : List Nd) (m : Nat) (f : Int) (n : Nat) : addN (ndF a l m).ptr f n = addN (plTo l m) f n := by
  unfold addN Tab.ptr ndF
  cases plTo l m f <;> rfl
theorem ns_tab {w : World} {a : Option Addr} {l : List Nd} {tb : Nat} (h : IsNs w a l) (hf : IsFm ptE w tb (plN l l.length) (ndF a l l.length).ptr) : IsTab w tb (plN l l.length) (ndF a l l.length) := by
  refine ⟨hf, fun f p x e => ?_⟩
  unfold ndF at e
  cases hp : plTo l l.length f with
  | none => rw [hp] at e; cases e
  | some i =>
    rw [hp] at e
    simp only [Option.map_some, Option.some.injEq, Prod.mk.injEq] at e
    obtain ⟨rfl, rfl⟩ := e
    obtain ⟨h1, h2⟩ := plTo_lt l _ hp
    obtain ⟨b, off, rfl, hc⟩ := h.2.2 (by omega)
    exact ⟨rfl, hc i h1, h.ok h1, h2⟩
theorem Ou.drewW {S : Nat → Prop} (w : World) : Ou S w w.drew := Ou.of (Below.drew (Below.refl _ _))
/-- Do all entries lead to nodes of a table other than the root? -/
def haveTo (N : Tab) (l : List Kd) : Nat → Bool
  | 0 => true
  | m + 1 => haveTo N l m && ((l.getD m Kd.no).fid != 1 && (N (l.getD m Kd.no).fid).isSome)
def haveB (N : Tab) (l : List Kd) : Bool := haveTo N l l.length
theorem have_no (N : Tab) (l : List Kd) (m : Nat) (h : ((l.getD m Kd.no).fid != 1 && (N (l.getD m Kd.no).fid).isSome) = false) : ∀ d, haveTo N l (m + 1 + d) = false
  | 0 => by simp only [Nat.add_zero, haveTo, h, Bool.and_false]
  | d + 1 => by rw [← Nat.add_assoc]; simp only [haveTo, have_no N l m h d, Bool.false_and]
theorem haveB_no {N : Tab} {l : List Kd} {m : Nat} (hm : m < l.length) (h : ((l.getD m Kd.no).fid != 1 && (N (l.getD m Kd.no).fid).isSome) = false) : haveB N l = false := by
  unfold haveB
  obtain ⟨d, hd⟩ : ∃ d, l.length = m + 1 + d := ⟨l.length - (m + 1), by omega⟩
  rw [hd]; exact have_no N l m h d
theorem haveTo_all {N : Tab} {l : List Kd} : ∀ {m : Nat}, haveTo N l m = true → ∀ i, i < m → (l.getD i Kd.no).fid ≠ 1 ∧ (N (l.getD i Kd.no).fid).isSome = true
  | 0, _, i, hi => by omega
  | m + 1, h, i, hi => by
    unfold haveTo at h
    rw [Bool.and_eq_true] at h
    by_cases e : i = m
    · subst e
      have := h.2
      rw [Bool.and_eq_true] at this
      exact ⟨by simpa using this.1, this.2⟩
    · exact haveTo_all h.1 i (by omega)
end Go.Proofs.Ytihgiemgcmpmmaa
