/-
  
-/
import Derived.Test.YtpolbbdaippclaaGreatNsAk
import Derived.Laws.IdiomStrings
import Derived.Deep.RegionHeld3
namespace Go.Proofs.YtpolbbdaippclaaGreat
open Go.RowKit Go.ChangeShapes Go.WideShapes Go.ChangeAt Go.Maps Go.Shelf
set_option linter.unusedVariables false
set_option linter.unusedSimpArgs false
set_option maxRecDepth 100000
def freeL (l : List Nd) (o : Option Nd) : List Nd := match o with
 | some x => lessL l x
 | none => l
def movedL (l : List Nd) (o : Rec) (f : Int) (d : List Nd) : List Nd :=
 setL (setL d (((getF d o.dir).getD Nd.no).kids none 0 (entL ((getF d o.dir).getD Nd.no).ks o.nm 0)))
   (((getF (setL d (((getF d o.dir).getD Nd.no).kids none 0 (entL ((getF d o.dir).getD Nd.no).ks o.nm 0))) o.to).getD Nd.no).kids none 0 (entL ((getF (setL d (((getF d o.dir).getD Nd.no).kids none 0 (entL ((getF d o.dir).getD Nd.no).ks o.nm 0))) o.to).getD Nd.no).ks o.nm2 f))
def renameL (l : List Nd) (o : Rec) : Int × List Nd :=
 if lookE (getF l o.dir) o.nm ≠ 0 then (lookE (getF l o.dir) o.nm, [])
 else if dirE (getF l o.to) ≠ 0 then (dirE (getF l o.to), [])
 else if ((getF l (lookI (getF l o.dir) o.nm)).getD Nd.no).k = 2 ∧ abN l (lookI (getF l o.dir) o.nm) (l.length + 1) o.to = true then (10, [])
 else if kidI (dirN (getF l o.to)).ks o.nm2 = lookI (getF l o.dir) o.nm then (0, l)
 else if ((getF l (kidI (dirN (getF l o.to)).ks o.nm2)).isSome && ((getF l (kidI (dirN (getF l o.to)).ks o.nm2)).getD Nd.no).k == 2 && ((getF l (lookI (getF l o.dir) o.nm)).getD Nd.no).k != 2) = true then (8, [])
 else if ((getF l (kidI (dirN (getF l o.to)).ks o.nm2)).isSome && ((getF l (kidI (dirN (getF l o.to)).ks o.nm2)).getD Nd.no).k != 2 && ((getF l (lookI (getF l o.dir) o.nm)).getD Nd.no).k == 2) = true then (7, [])
 else if ((getF l (kidI (dirN (getF l o.to)).ks o.nm2)).isSome && decide (0 < ((getF l (kidI (dirN (getF l o.to)).ks o.nm2)).getD Nd.no).ks.length)) = true then (9, [])
 else if (!(getF l (kidI (dirN (getF l o.to)).ks o.nm2)).isSome && o.to != o.dir && decide (12 ≤ (dirN (getF l o.to)).ks.length)) = true then (4, [])
 else (0, movedL l o (lookI (getF l o.dir) o.nm) (freeL l (getF l (kidI (dirN (getF l o.to)).ks o.nm2))))
def FarN (G : Nat) (x : Nd) : Prop := (∀ b o s, x.da = some ⟨b, o, s⟩ → 0 < x.zs.length → b ≠ G) ∧ (∀ b o s, x.ka = some ⟨b, o, s⟩ → 0 < x.ks.length → b ≠ G)
theorem cell_lt {w : World} {p : Addr} {v : Value} (h : w.cell? p = some v) : p.block < w.heap.size := by
 rcases Nat.lt_or_ge p.block w.heap.size with q | q
 · exact q
 · have : w.heap[p.block]? = none := by simp [q]
   simp [World.cell?, this] at h
theorem Nd.Ok.far {w : World} {x : Nd} (h : x.Ok w) {G : Nat} (hG : w.heap.size ≤ G) : FarN G x := by
 obtain ⟨_, _, _, _, hb, hk⟩ := h
 refine ⟨fun b o s e hp => ?_, fun b o s e hp => ?_⟩
 · obtain ⟨b', o', e', hc⟩ := hb.2.2.1 hp
   rw [e] at e'
   cases e'
   have := cell_lt (hc 0 hp)
   simp only at this
   omega
 · obtain ⟨b', o', e', hc⟩ := hk.2.2 hp
   rw [e] at e'
   cases e'
   have := cell_lt (hc 0 hp).1
   simp only at this
   omega
end Go.Proofs.YtpolbbdaippclaaGreat
