/-
  
-/
import Derived.Test.YtfmghbennahlfaaGreatCnAi
import Derived.Laws.IdiomStrings
import Derived.Deep.RegionHeld3
namespace Go.Proofs.YtfmghbennahlfaaGreat
open Go.RowKit Go.ChangeShapes Go.WideShapes Go.ChangeAt Go.Maps Go.Shelf
set_option linter.unusedVariables false
set_option linter.unusedSimpArgs false
set_option maxRecDepth 100000
def txB (s : ByteArray) : List Int := s.data.toList.map fun b => (b.toNat : Int)
theorem txB_len (s : ByteArray) : (txB s).length = s.size := by unfold txB; simp
theorem txB_in (s : ByteArray) : InB (txB s) := fun i => by
 by_cases h : i < (txB s).length
 · rw [List.getD, List.getElem?_eq_getElem h]
   obtain ⟨b, _, e⟩ := List.mem_map.1 (List.getElem_mem h)
   have := b.toNat_lt
   simp only [Option.getD_some]
   rw [← e]
   omega
 · rw [List.getD, List.getElem?_eq_none (by omega)]
   simp
theorem row_text {W : World} {s : ByteArray} {cap g base : Nat} {fr : Nat × Nat} (h : W.heap[g]? = some (.cells (bytesRow s cap) 5 fr)) (hb : base ≤ g) : RowAt W base 5 (some ⟨g, 0, none⟩) ((txB s).map u8V) := by
 refine .inr ⟨g, _, fr, rfl, hb, h, fun i u hu => ?_⟩
 have hi : i < s.data.size := by
   have := (List.getElem?_eq_some_iff.1 hu).1
   simpa [txB] using this
 rw [bytesRow_at s cap i hi, ← hu]
 simp only [txB, List.map_map, List.getElem?_map, Array.getElem?_toList, Array.getElem?_eq_getElem hi, Option.map_some]
 rfl
theorem dirE_ok {o : Option Nd} (h : dirE o = 0) : o = some (dirN o) ∧ (dirN o).k = 2 := by
 cases o with
 | none => cases h
 | some x =>
   unfold dirE at h
   simp only at h
   split at h
   · rename_i q; simp [dirN, q]
   · cases h
def newN (o : Rec) : Nd := ⟨o.fid, if o.k = 2 then 2 else if o.k = 3 then 3 else 1, o.md, 1, none, 0, if o.k = 3 then txB o.dt else [], none, 0, []⟩
def createL (l : List Nd) (o : Rec) : Int × List Nd :=
 if dirE (getF l o.dir) ≠ 0 then (dirE (getF l o.dir), [])
 else if kidI (dirN (getF l o.dir)).ks o.nm ≠ 0 ∨ (getF l o.fid).isSome = true then (6, [])
 else if 40 ≤ l.length ∨ 12 ≤ (dirN (getF l o.dir)).ks.length then (4, [])
 else (0, setL (setL l ((dirN (getF l o.dir)).kids none 0 (entL (dirN (getF l o.dir)).ks o.nm o.fid))) (newN o))
end Go.Proofs.YtfmghbennahlfaaGreat
