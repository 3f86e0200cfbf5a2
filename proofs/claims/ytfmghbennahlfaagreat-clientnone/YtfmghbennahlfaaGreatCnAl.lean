/-
  
-/
import Derived.Test.YtfmghbennahlfaaGreatCnAk
import Derived.Laws.IdiomStrings
import Derived.Deep.RegionHeld3
namespace Go.Proofs.YtfmghbennahlfaaGreat
open Go.RowKit Go.ChangeShapes Go.WideShapes Go.ChangeAt Go.Maps Go.Shelf
set_option linter.unusedVariables false
set_option linter.unusedSimpArgs false
set_option maxRecDepth 100000
def freeL (l : List Nd) (o : Option Nd) : List Nd := match o with
 | some x => lessL l x
 | none => l
def movedL (l : List Nd) (o : Rec) (f : Int) (d : List Nd) : List Nd :=
 setL (setL d (((getF d o.dir).getD Nd.no).kids none 0 (entL ((getF d o.dir).getD Nd.no).ks o.nm 0)))
   (((getF (setL d (((getF d o.dir).getD Nd.no).kids none 0 (entL ((getF d o.dir).getD Nd.no).ks o.nm 0))) o.to).getD Nd.no).kids none 0 (entL ((getF (setL d (((getF d o.dir).getD Nd.no).kids none 0 (entL ((getF d o.dir).getD Nd.no).ks o.nm 0))) o.to).getD Nd.no).ks o.nm2 f))
def renameL (l : List Nd) (o : Rec) : Int × List Nd :=
 if lookE (getF l o.dir) o.nm ≠ 0 then (lookE (getF l o.dir) o.nm, [])
 else if dirE (getF l o.to) ≠ 0 then (dirE (getF l o.to), [])
 else if ((getF l (lookI (getF l o.dir) o.nm)).getD Nd.no).k = 2 ∧ abN l (lookI (getF l o.dir) o.nm) (l.length + 1) o.to = true then (10, [])
 else if kidI (dirN (getF l o.to)).ks o.nm2 = lookI (getF l o.dir) o.nm then (0, l)
 else if ((getF l (kidI (dirN (getF l o.to)).ks o.nm2)).isSome && ((getF l (kidI (dirN (getF l o.to)).ks o.nm2)).getD Nd.no).k == 2 && ((getF l (lookI (getF l o.dir) o.nm)).getD Nd.no).k != 2) = true then (8, [])
 else if ((getF l (kidI (dirN (getF l o.to)).ks o.nm2)).isSome && ((getF l (kidI (dirN (getF l o.to)).ks o.nm2)).getD Nd.no).k != 2 && ((getF l (lookI (getF l o.dir) o.nm)).getD Nd.no).k == 2) = true then (7, [])
 else if ((getF l (kidI (dirN (getF l o.to)).ks o.nm2)).isSome && decide (0 < ((getF l (kidI (dirN (getF l o.to)).ks o.nm2)).getD Nd.no).ks.length)) = true then (9, [])
 else if (!(getF l (kidI (dirN (getF l o.to)).ks o.nm2)).isSome && o.to != o.dir && decide (12 ≤ (dirN (getF l o.to)).ks.length)) = true then (4, [])
 else (0, movedL l o (lookI (getF l o.dir) o.nm) (freeL l (getF l (kidI (dirN (getF l o.to)).ks o.nm2))))
end Go.Proofs.YtfmghbennahlfaaGreat
