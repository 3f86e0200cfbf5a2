/-
  Operations, entries and nodes in memory; the document's RightOp, Alone; the program's RightOp. (Written by nodebase.py out of the record's texts.)
-/
import Derived.Test.YthoaiapfjbgfhaaDoorQuAc
import Derived.Test.YthoaiapfjbgfhaaDoorQuAd
import Derived.Test.YthoaiapfjbgfhaaDoorQuAf
import Derived.Test.YthoaiapfjbgfhaaDoorQuAh
import Derived.Test.YthoaiapfjbgfhaaDoorQuAj
import Derived.ChangeArms
import Derived.ChangeOld
import Derived.Below
import Derived.Deep.CutRange
import Derived.Laws.AppendOwnNone
import Derived.Deep.RegionLaw
import Derived.Deep.LoopGhost
import Derived.Laws.BitsLemmas
import Derived.Shelf.Abstract
import Derived.Defers
import Derived.Recover
import Derived.Laws.Pointers
import Derived.Deep.QuietTactic
import Derived.Maps.OwnOps
import Derived.Maps.Views
import Derived.DeepKeys4
import Derived.RegionTactic
import Derived.ChangeAlike
import Derived.BigRegion
import Derived.BigQuiet
import Derived.Laws.IdiomStrings
namespace Go.Proofs.YthoaiapfjbgfhaaDoor
open Go.RowKit Go.ChangeShapes Go.WideShapes Go.ChangeAt Go.Maps Go.Shelf
set_option linter.unusedVariables false
set_option linter.unusedSimpArgs false
set_option maxRecDepth 100000
theorem lt_blkR {w : World} {b : Nat} {o : Obj} (h : w.heap[b]? = some o) : b < w.heap.size := (Array.getElem?_eq_some_iff.1 h).1
theorem own_latR {w w' : World} {base e size n : Nat} {v : Value} {xs : List Value} (h : w.ownsRow base e size v n xs) (hb : Below w.heap.size w w') : w'.ownsRow base e size v n xs := by
 refine ⟨h.1, ?_⟩
 rcases h.2 with h | ⟨g, cap, cur, e1, e2, e3, e4⟩
 · exact .inl h
 · exact .inr ⟨g, cap, cur, e1, e2, (hb.block g (lt_blkR e3)).trans e3, e4⟩
theorem below_1 (w : World) (o : Obj) : Below w.heap.size w (w.alloc o) := (Below.refl _ _).alloc (Nat.le_refl _) _
def Lies (w : World) (a : Option Addr) (c : Nat) : Prop := a = none ∧ c = 0 ∨ ∃ b off, a = some ⟨b, off, none⟩ ∧ b < w.heap.size
theorem isB_ownR {w : World} {base : Nat} {v : Value} {zs : List Int} (h : w.ownsRow base 5 1 v zs.length (zs.map u8V)) (hz : ∀ y ∈ zs, 0 ≤ y ∧ y ≤ 255) : ∃ a cap, v = .slice a zs.length cap ∧ IsB w a zs.length zs ∧ zs.length ≤ cap ∧ Lies w a cap := by
 have hz2 : ∀ i, 0 ≤ zs.getD i 0 ∧ zs.getD i 0 ≤ 255 := fun i => by
   by_cases hi : i < zs.length
   · rw [List.getD, List.getElem?_eq_getElem hi]; exact hz _ (List.getElem_mem _)
   · simp [List.getD, List.getElem?_eq_none (by omega : zs.length ≤ i)]
 rcases h.2 with ⟨rfl, hn⟩ | ⟨g, cap, cur, rfl, hb, hg, hn, hc, hs, ht⟩
 · exact ⟨none, 0, by rw [hn], ⟨rfl, by omega, fun hp => absurd hp (by omega), hz2⟩, by omega, .inl ⟨rfl, rfl⟩⟩
 · refine ⟨some ⟨g, 0, none⟩, cap, rfl, ⟨rfl, by omega, fun hp => ⟨g, 0, rfl, fun i hi => ?_⟩, hz2⟩, hn, .inr ⟨g, 0, rfl, lt_blkR hg⟩⟩
   rw [Nat.zero_add, cell_of_row w g i cur _ _ hg]
   have : (zs.map u8V)[i]? = some (.int .u8 (zs.getD i 0)) := by simp [List.getD, hi, u8V]
   rw [← ht, List.getElem?_take, if_pos (by omega)] at this
   simpa using this
structure Kd where
 nm : ByteArray
 fid : Int
def Kd.no : Kd := ⟨⟨#[]⟩, 0⟩
def Kd.cells (x : Kd) : List Value := [.string x.nm, .int .u32 x.fid]
def Kd.val (x : Kd) : Value := .agg #[.string x.nm, .int .u32 x.fid]
def Kd.Wf (x : Kd) : Prop := x.nm.size ≤ maxLen ∧ 0 ≤ x.fid ∧ x.fid < 4294967296
def KdAt (w : World) (b o : Nat) (x : Kd) : Prop := w.cell? ⟨b, o, none⟩ = some (.string x.nm) ∧ w.cell? ⟨b, o + 1, none⟩ = some (.int .u32 x.fid)
def IsKs (w : World) (a : Option Addr) (l : List Kd) : Prop :=
 l.length ≤ maxLen ∧ (∀ x ∈ l, x.Wf) ∧ (0 < l.length → ∃ b off, a = some ⟨b, off, none⟩ ∧ ∀ i, i < l.length → KdAt w b (off + i * 2) (l.getD i Kd.no))
theorem IsKs.later {w w' : World} {a : Option Addr} {l : List Kd} (h : IsKs w a l) (hb : Below w.heap.size w w') : IsKs w' a l := by
 obtain ⟨h1, h2, h3⟩ := h
 refine ⟨h1, h2, fun hp => ?_⟩
 obtain ⟨b, off, e, hc⟩ := h3 hp
 exact ⟨b, off, e, fun i hi => ⟨cell_later hb (hc i hi).1, cell_later hb (hc i hi).2⟩⟩
theorem IsKs.at {w : World} {b off : Nat} {l : List Kd} {i : Nat} (h : IsKs w (some ⟨b, off, none⟩) l) (hi : i < l.length) : KdAt w b (off + i * 2) (l.getD i Kd.no) := by
 obtain ⟨b', off', e, hc⟩ := h.2.2 (by omega)
 cases e
 exact hc i hi
theorem IsKs.wf {w : World} {a : Option Addr} {l : List Kd} (h : IsKs w a l) {i : Nat} (hi : i < l.length) : (l.getD i Kd.no).Wf := by
 rw [List.getD, List.getElem?_eq_getElem hi]
 exact h.2.1 _ (List.getElem_mem _)
structure Nd where
 fid : Int
 k : Int
 md : Int
 ln : Int
 da : Option Addr
 dc : Nat
 zs : List Int
 ka : Option Addr
 kc : Nat
 ks : List Kd
def Nd.cells (x : Nd) : List Value := [.int .u32 x.fid, .int .u8 x.k, .int .u16 x.md, .int .u16 x.ln, .slice x.da x.zs.length x.dc, .slice x.ka x.ks.length x.kc]
def Nd.val (x : Nd) : Value := .agg #[.int .u32 x.fid, .int .u8 x.k, .int .u16 x.md, .int .u16 x.ln, .slice x.da x.zs.length x.dc, .slice x.ka x.ks.length x.kc]
def Nd.Ok (w : World) (x : Nd) : Prop := (0 ≤ x.fid ∧ x.fid < 4294967296) ∧ (0 ≤ x.k ∧ x.k < 256) ∧ (0 ≤ x.md ∧ x.md < 65536) ∧ (0 ≤ x.ln ∧ x.ln < 65536) ∧ IsB w x.da x.zs.length x.zs ∧ IsKs w x.ka x.ks
theorem Nd.Ok.later {w w' : World} {x : Nd} (h : x.Ok w) (hb : Below w.heap.size w w') : x.Ok w' := by
 obtain ⟨a, b, c, d, e, f⟩ := h
 exact ⟨a, b, c, d, e.later hb, f.later hb⟩
theorem cell_of_row2 {w : World} {g j : Nat} {cs : Array Value} {t : TypeId} {fr : Nat × Nat} {v : Value} (h : w.heap[g]? = some (.cells cs t fr)) (_ : Nat := j) (hv : cs[j]? = some v) : w.cell? ⟨g, j, none⟩ = some v := by rw [cell_of_row w g _ _ t fr h]; exact hv
def leS (x y : ByteArray) : Bool := Op.bytesLess x.toList y.toList || x.toList == y.toList
def lastK (l : List Kd) (m : Nat) : ByteArray := if m = 0 then ⟨#[]⟩ else (l.getD (m - 1) Kd.no).nm
theorem lastK_next (l : List Kd) (m : Nat) : lastK l (m + 1) = (l.getD m Kd.no).nm := by unfold lastK; simp
theorem take_kid {l : List Kd} {m : Nat} (h : m < l.length) : l.take (m + 1) = l.take m ++ [l.getD m Kd.no] := by
 rw [List.take_add_one, List.getD, List.getElem?_eq_getElem h]; rfl
def InB (zs : List Int) : Prop := ∀ i, 0 ≤ zs.getD i 0 ∧ zs.getD i 0 ≤ 255
theorem InB.drop {zs : List Int} (h : InB zs) (k : Nat) : InB (zs.drop k) := fun i => by
 have := h (k + i)
 simpa [List.getD, List.getElem?_drop] using this
theorem InB.take {zs : List Int} (h : InB zs) (k : Nat) : InB (zs.take k) := fun i => by
 by_cases hi : i < k
 · have := h i
   simpa [List.getD, List.getElem?_take, hi] using this
 · simp [List.getD, List.getElem?_take, hi]
def Nd.lie (x : Nd) (da : Option Addr) (dc : Nat) (ka : Option Addr) (kc : Nat) : Nd := ⟨x.fid, x.k, x.md, x.ln, da, dc, x.zs, ka, kc, x.ks⟩
def Nd.no : Nd := ⟨0, 0, 0, 0, none, 0, [], none, 0, []⟩
def Nd.Wf (x : Nd) : Prop := (0 ≤ x.fid ∧ x.fid < 4294967296) ∧ (0 ≤ x.k ∧ x.k < 256) ∧ (0 ≤ x.md ∧ x.md < 65536) ∧ (0 ≤ x.ln ∧ x.ln < 65536) ∧ InB x.zs ∧ x.zs.length ≤ 255 ∧ (∀ q ∈ x.ks, q.Wf ∧ q.nm.size ≤ 255) ∧ x.ks.length ≤ 255
end Go.Proofs.YthoaiapfjbgfhaaDoor
