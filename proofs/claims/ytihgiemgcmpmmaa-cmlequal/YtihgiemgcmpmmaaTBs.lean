/-
  Nodes in memory; fidsRise, namesRise, rightAlone of the package tree.
-/
import Derived.Test.YtihgiemgcmpmmaaNB
import Derived.Test.YtihgiemgcmpmmaaFMp
namespace Go.Proofs.Ytihgiemgcmpmmaa
open Go.RowKit Go.ChangeShapes Go.WideShapes Go.ChangeAt Go.Maps
set_option linter.unusedVariables false
set_option linter.unusedSimpArgs false
set_option maxRecDepth 100000
/-- A node's cells from a place on. -/
def NdC (w : World) (b o : Nat) (x : Nd) : Prop := ∀ j v, x.cells[j]? = some v → w.cell? ⟨b, o + j, none⟩ = some v
theorem NdC.later {w w' : World} {b o : Nat} {x : Nd} (h : NdC w b o x) (hb : Below w.heap.size w w') : NdC w' b o x := fun j v hv => cell_later hb (h j v hv)
theorem NdC.all {w : World} {b o : Nat} {x : Nd} (h : NdC w b o x) : w.cell? ⟨b, o, none⟩ = some (.int .u32 x.fid) ∧ w.cell? ⟨b, o + 1, none⟩ = some (.int .u8 x.k) ∧ w.cell? ⟨b, o + 2, none⟩ = some (.int .u16 x.md) ∧ w.cell? ⟨b, o + 3, none⟩ = some (.int .u16 x.ln) ∧ w.cell? ⟨b, o + 4, none⟩ = some (.slice x.da x.zs.length x.dc) ∧ w.cell? ⟨b, o + 5, none⟩ = some (.slice x.ka x.ks.length x.kc) :=
  ⟨h 0 _ rfl, h 1 _ rfl, h 2 _ rfl, h 3 _ rfl, h 4 _ rfl, h 5 _ rfl⟩
/-- Nodes that lie in memory. -/
def IsNs (w : World) (a : Option Addr) (l : List Nd) : Prop :=
  l.length ≤ maxLen ∧ (∀ x ∈ l, x.Ok w) ∧ (0 < l.length → ∃ b off, a = some ⟨b, off, none⟩ ∧ ∀ i, i < l.length → NdC w b (off + i * 6) (l.getD i Nd.no))
theorem IsNs.later {w w' : World} {a : Option Addr} {l : List Nd} (h : IsNs w a l) (hb : Below w.heap.size w w') : IsNs w' a l := by
  obtain ⟨h1, h2, h3⟩ := h
  refine ⟨h1, fun x hx => (h2 x hx).later hb, fun hp => ?_⟩
  obtain ⟨b, off, e, hc⟩ := h3 hp
  exact ⟨b, off, e, fun i hi => (hc i hi).later hb⟩
theorem IsNs.at {w : World} {b off : Nat} {l : List Nd} {i : Nat} (h : IsNs w (some ⟨b, off, none⟩) l) (hi : i < l.length) : NdC w b (off + i * 6) (l.getD i Nd.no) := by
  obtain ⟨b', off', e, hc⟩ := h.2.2 (by omega)
  cases e
  exact hc i hi
theorem getD_mem {α : Type} (l : List α) (d : α) {i : Nat} (hi : i < l.length) : l.getD i d ∈ l := by
  rw [List.getD, List.getElem?_eq_getElem hi]
  exact List.getElem_mem _
theorem IsNs.ok {w : World} {a : Option Addr} {l : List Nd} (h : IsNs w a l) {i : Nat} (hi : i < l.length) : (l.getD i Nd.no).Ok w := h.2.1 _ (getD_mem _ _ hi)
def lastFd (l : List Nd) (m : Nat) : Int := if m = 0 then 0 else (l.getD (m - 1) Nd.no).fid
theorem lastFd_next (l : List Nd) (m : Nat) : lastFd l (m + 1) = (l.getD m Nd.no).fid := by unfold lastFd; simp
def upTo (l : List Nd) : Nat → Bool
  | 0 => true
  | m + 1 => upTo l m && decide (lastFd l m < (l.getD m Nd.no).fid)
/-- Do the fids rise? -/
def fidsUp (l : List Nd) : Bool := upTo l l.length
theorem up_no (l : List Nd) (m : Nat) (h : decide (lastFd l m < (l.getD m Nd.no).fid) = false) : ∀ d, upTo l (m + 1 + d) = false
  | 0 => by simp only [Nat.add_zero, upTo, h, Bool.and_false]
  | d + 1 => by rw [← Nat.add_assoc]; simp only [upTo, up_no l m h d, Bool.false_and]
theorem fidsUp_no {l : List Nd} {m : Nat} (hm : m < l.length) (h : decide (lastFd l m < (l.getD m Nd.no).fid) = false) : fidsUp l = false := by
  unfold fidsUp
  obtain ⟨d, hd⟩ : ∃ d, l.length = m + 1 + d := ⟨l.length - (m + 1), by omega⟩
  rw [hd]; exact up_no l m h d
/-- Is an entry's name right, behind the one ahead of it? -/
def nmK (l : List Kd) (i : Nat) : Bool := Pa.nameB (l.getD i Kd.no).nm.data.toList && !leS (l.getD i Kd.no).nm (lastK l i)
def namesTo (l : List Kd) : Nat → Bool
  | 0 => true
  | m + 1 => namesTo l m && nmK l m
/-- Do the names rise? -/
def namesOk (l : List Kd) : Bool := namesTo l l.length
theorem names_no (l : List Kd) (m : Nat) (h : nmK l m = false) : ∀ d, namesTo l (m + 1 + d) = false
  | 0 => by simp [namesTo, h]
  | d + 1 => by rw [← Nat.add_assoc]; simp [namesTo, names_no l m h d]
theorem namesOk_no {l : List Kd} {m : Nat} (hm : m < l.length) (h : nmK l m = false) : namesOk l = false := by
  unfold namesOk
  obtain ⟨d, hd⟩ : ∃ d, l.length = m + 1 + d := ⟨l.length - (m + 1), by omega⟩
  rw [hd]; exact names_no l m h d
/-- Is a node right as far as it shows by itself? -/
def aloneB (x : Nd) : Bool := bif x.k == 1 || x.k == 3 then decide (x.zs.length ≤ 64) && decide (x.ks.length = 0) else bif x.k == 2 then decide (x.zs.length = 0) && (decide (x.ks.length ≤ 12) && namesOk x.ks) else false
end Go.Proofs.Ytihgiemgcmpmmaa
