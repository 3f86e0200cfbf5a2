/-
  
-/
import Derived.Test.YtfmghbennahlfaaGreatCnAj
import Derived.Laws.IdiomStrings
import Derived.Deep.RegionHeld3
namespace Go.Proofs.YtfmghbennahlfaaGreat
open Go.RowKit Go.ChangeShapes Go.WideShapes Go.ChangeAt Go.Maps Go.Shelf
set_option linter.unusedVariables false
set_option linter.unusedSimpArgs false
set_option maxRecDepth 100000
def hardL (l : List Nd) (o : Rec) : Int × List Nd :=
 if (getF l o.fid).isSome = false then (5, [])
 else if ((getF l o.fid).getD Nd.no).k = 2 then (8, [])
 else if dirE (getF l o.dir) ≠ 0 then (dirE (getF l o.dir), [])
 else if kidI (dirN (getF l o.dir)).ks o.nm ≠ 0 then (6, [])
 else if 12 ≤ (dirN (getF l o.dir)).ks.length then (4, [])
 else (0, setL (setL l ((dirN (getF l o.dir)).kids none 0 (entL (dirN (getF l o.dir)).ks o.nm o.fid))) (((getF l o.fid).getD Nd.no).lnk (((getF l o.fid).getD Nd.no).ln + 1)))
def removeL (l : List Nd) (o : Rec) : Int × List Nd :=
 if lookE (getF l o.dir) o.nm ≠ 0 then (lookE (getF l o.dir) o.nm, [])
 else if o.k = 5 ∧ ((getF l (lookI (getF l o.dir) o.nm)).getD Nd.no).k = 2 then (8, [])
 else if o.k = 6 ∧ ((getF l (lookI (getF l o.dir) o.nm)).getD Nd.no).k ≠ 2 then (7, [])
 else if o.k = 6 ∧ 0 < ((getF l (lookI (getF l o.dir) o.nm)).getD Nd.no).ks.length then (9, [])
 else (0, lessL (setL l (((getF l o.dir).getD Nd.no).kids none 0 (entL ((getF l o.dir).getD Nd.no).ks o.nm 0))) ((getF l (lookI (getF l o.dir) o.nm)).getD Nd.no))
theorem lookE_ok {o : Option Nd} {s : ByteArray} (h : lookE o s = 0) : o = some (o.getD Nd.no) ∧ (o.getD Nd.no).k = 2 ∧ lookI o s = kidI (o.getD Nd.no).ks s ∧ lookI o s ≠ 0 := by
 cases o with
 | none => cases h
 | some x =>
   unfold lookE at h
   simp only at h
   split at h
   · rename_i q
     split at h
     · cases h
     · rename_i q2
       refine ⟨rfl, q, ?_, ?_⟩
       · simp [lookI, q]
       · simpa [lookI, q] using q2
   · cases h
end Go.Proofs.YtfmghbennahlfaaGreat
