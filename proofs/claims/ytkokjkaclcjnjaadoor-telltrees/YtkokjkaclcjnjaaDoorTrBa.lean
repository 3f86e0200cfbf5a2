/-
  The document's tree: apply.
  The document's Same, of the same contents. (Written by nodebase.py out of SnapSame.)
  The document's tree: Apply, New.
  The document's tree: operations in memory; New, Fold.
-/
import Derived.Test.YtkokjkaclcjnjaaDoorTrAu
import Derived.Test.YtkokjkaclcjnjaaDoorTrAz
import Derived.Laws.IdiomStrings
import Derived.Deep.RegionHeld3
import Derived.BigQuiet
namespace Go.Proofs.YtkokjkaclcjnjaaDoor
open Go.RowKit Go.ChangeShapes Go.WideShapes Go.ChangeAt Go.Maps Go.Shelf
set_option linter.unusedVariables false
set_option linter.unusedSimpArgs false
set_option maxRecDepth 100000
structure TOK (l : List Nd) : Prop where
 few : l.length ≤ 40
 kids : ∀ x ∈ l, x.ks.length ≤ 12
 data : ∀ x ∈ l, x.zs.length ≤ 64
 links : ∀ x ∈ l, x.ln ≤ 60000
 made : ∀ x ∈ l, ∀ q ∈ x.ks, ∃ y, getF l q.fid = some y ∧ 1 ≤ y.ln
def writeL (l : List Nd) (o : Rec) : Int × List Nd :=
 if (getF l o.fid).isSome = false then (5, [])
 else if o.k = 9 then (0, setL l ⟨((getF l o.fid).getD Nd.no).fid, ((getF l o.fid).getD Nd.no).k, o.md, ((getF l o.fid).getD Nd.no).ln, none, 0, ((getF l o.fid).getD Nd.no).zs, none, 0, ((getF l o.fid).getD Nd.no).ks⟩)
 else if ((getF l o.fid).getD Nd.no).k = 2 then (8, [])
 else if ((getF l o.fid).getD Nd.no).k = 3 then (3, [])
 else (0, setL l ⟨((getF l o.fid).getD Nd.no).fid, ((getF l o.fid).getD Nd.no).k, ((getF l o.fid).getD Nd.no).md, ((getF l o.fid).getD Nd.no).ln, none, 0, txB o.dt, none, 0, ((getF l o.fid).getD Nd.no).ks⟩)
def applyL (l : List Nd) (o : Rec) : Int × List Nd :=
 if o.k = 1 ∨ o.k = 2 ∨ o.k = 3 then createL l o
 else if o.k = 4 then hardL l o
 else if o.k = 5 ∨ o.k = 6 then removeL l o
 else if o.k = 7 then renameL l o
 else writeL l o
theorem kidI_mem {l : List Kd} {s : ByteArray} (h : kidI l s ≠ 0) : ∃ q ∈ l, q.nm = s ∧ kidI l s = q.fid := by
 unfold kidI at h ⊢
 cases hf : l.find? (fun k => decide (k.nm = s)) with
 | none => rw [hf] at h; exact absurd rfl h
 | some k => exact ⟨k, List.mem_of_find?_eq_some hf, by simpa using List.find?_some hf, rfl⟩
theorem TOK.look {l : List Nd} (h : TOK l) {f : Int} {s : ByteArray} (e : lookE (getF l f) s = 0) : ∃ x, getF l (lookI (getF l f) s) = some x ∧ 1 ≤ x.ln := by
 obtain ⟨e1, e2, e3, e4⟩ := lookE_ok e
 rw [e3] at e4 ⊢
 obtain ⟨q, hq, _, e5⟩ := kidI_mem e4
 rw [e5]
 exact h.made _ (getF_mem e1).1 q hq
theorem count_kfs {l : List Nd} {f : Int} : ∀ (n : Nat), l.length ≤ n → (∀ x ∈ l, x.ks.length ≤ 12) → (kfs l).count f ≤ 12 * n := by
 intro n hn hk
 refine Nat.le_trans List.count_le_length ?_
 have : ∀ m : List Nd, (∀ x ∈ m, x.ks.length ≤ 12) → (kfs m).length ≤ 12 * m.length := by
   intro m
   induction m with
   | nil => intro _; simp [kfs]
   | cons x t ih =>
     intro h
     have h1 := ih (fun y hy => h y (List.mem_cons_of_mem _ hy))
     have h2 := h x List.mem_cons_self
     unfold kfs at h1 ⊢
     rw [List.flatMap_cons, List.length_append, List.length_map, List.length_cons]
     omega
 have h2 := this l hk
 omega
theorem kidsTo_all {l : List Kd} : ∀ {m : Nat}, kidsTo l m = true → ∀ i, i < m → kOk l i = true
 | 0, _, i, hi => by omega
 | m + 1, h, i, hi => by
   unfold kidsTo at h
   rw [Bool.and_eq_true] at h
   by_cases e : i = m
   · subst e; exact h.2
   · exact kidsTo_all h.1 i (by omega)
theorem nodeOk_kid {x : Nd} (h : nodeOk x = true) {j : Nat} (hj : j < x.ks.length) : (x.ks[j]).fid ≠ 0 := by
 unfold nodeOk at h
 rw [Bool.and_eq_true] at h
 have h2 := h.2
 cases q1 : (x.k == 1 || x.k == 3) with
 | true =>
   rw [q1] at h2
   simp only [cond_true, decide_eq_true_eq] at h2
   omega
 | false =>
   rw [q1] at h2
   cases q2 : (x.k == 2) with
   | false => rw [q2] at h2; cases h2
   | true =>
     rw [q2] at h2
     simp only [cond_false, cond_true, Bool.and_eq_true] at h2
     have := kidsTo_all h2.2 j hj
     unfold kOk at this
     rw [show x.ks.getD j Kd.no = x.ks[j] by simp [List.getD, hj]] at this
     simp only [Bool.and_eq_true, bne_iff_ne] at this
     exact this.2
theorem rightD_tok {l : List Nd} (h : rightD l = true) : TOK l ∧ ∀ x ∈ l, x.fid ≠ 0 := by
 unfold rightD at h
 simp only [Bool.and_eq_true, decide_eq_true_eq] at h
 obtain ⟨h40, hd, hr, hl⟩ := h
 have hok := dTo_ok hd
 have hk : ∀ x ∈ l, x.ks.length ≤ 12 := fun x hx => nodeOk_few (hok x hx)
 have hc : ∀ x ∈ l, lkA ((kfs l).count x.fid : Int) x = true := fun x hx => by
   obtain ⟨i, hi, rfl⟩ := List.getElem_of_mem hx
   have := lkTo_at hl i hi
   unfold lkOne at this
   rw [Bool.and_eq_true, show l.getD i Nd.no = l[i] by simp [List.getD, hi]] at this
   exact this.1
 have hcount : ∀ x ∈ l, x.fid ≠ 1 → 1 ≤ x.ln ∧ x.ln = ((kfs l).count x.fid : Int) := fun x hx hne => by
   have := hc x hx
   unfold lkA at this
   have e : (x.fid == 1) = false := beq_eq_false_iff_ne.2 hne
   rw [e] at this
   simp only [Bool.false_or, Bool.not_eq_true', Bool.or_eq_false_iff, decide_eq_false_iff_not, bne_eq_false_iff_eq] at this
   obtain ⟨h1, h2, _⟩ := this
   omega
 refine ⟨⟨h40, hk, fun x hx => ?_, fun x hx => ?_, fun x hx q hq => ?_⟩, fun x hx => nodeOk_pos (hok x hx)⟩
 · have := hok x hx
   unfold nodeOk at this
   simp only [Bool.and_eq_true, Bool.not_eq_true', Bool.or_eq_false_iff, decide_eq_false_iff_not] at this
   omega
 · by_cases e : x.fid = 1
   · obtain ⟨i, hi, hi2⟩ := rtTo_ex hr
     unfold rtB at hi2
     simp only [Bool.and_eq_true, beq_iff_eq] at hi2
     have hu : upTo l l.length = true := upTo_mk (fun j hj => by
       have := dTo_at hd j hj
       unfold dOne dA at this
       simp only [Bool.and_eq_true, decide_eq_true_eq] at this
       exact this.1.2)
     obtain ⟨j, hj, rfl⟩ := List.getElem_of_mem hx
     have : i = j := up_inj hu hi hj (by rw [hi2.1, show l.getD j Nd.no = l[j] by simp [List.getD, hj], e])
     subst this
     have e3 := hi2.2.2
     rw [show l.getD i Nd.no = l[i] by simp [List.getD, hj]] at e3
     omega
   · have h1 := (hcount x hx e).2
     have h2 := count_kfs (f := x.fid) 40 h40 hk
     omega
 · obtain ⟨i, hi, rfl⟩ := List.getElem_of_mem hx
   have h1 := dTo_at hd i hi
   unfold dOne at h1
   rw [Bool.and_eq_true, dKid_have] at h1
   have h2 := h1.2
   rw [show l.getD i Nd.no = l[i] by simp [List.getD, hi]] at h2
   obtain ⟨j, hj, rfl⟩ := List.getElem_of_mem hq
   have h3 := haveTo_all h2 j hj
   rw [show (l[i]).ks.getD j Kd.no = (l[i]).ks[j] by simp [List.getD, hj]] at h3
   rw [N0_has] at h3
   cases hg : getF l ((l[i]).ks[j]).fid with
   | none =>
     exfalso
     have := h3.2
     unfold getF at hg
     rw [List.find?_eq_none] at hg
     have hno : ∀ m, hasTo l ((l[i]).ks[j]).fid m = false := fun m => by
       induction m with
       | zero => rfl
       | succ m ih =>
         simp only [hasTo, ih, Bool.false_or]
         by_cases hm : m < l.length
         · have := hg _ (getD_mem l Nd.no hm)
           simpa using this
         · have : l.getD m Nd.no = Nd.no := by simp [List.getD, hm]
           rw [this]
           refine beq_eq_false_iff_ne.2 (fun e => ?_)
           have hp := nodeOk_kid (hok _ (List.getElem_mem hi)) hj
           exact hp e.symm
     unfold hasF at this
     rw [hno] at this
     cases this
   | some y =>
     refine ⟨y, rfl, (hcount y (getF_mem hg).1 (fun e => ?_)).1⟩
     have := (getF_mem hg).2
     rw [e] at this
     exact h3.1 this.symm
def ApplyL (l : List Nd) (o : Rec) : Int × List Nd := if (rightD l && rightF o) = true then applyL l o else (3, [])
theorem own_other {w w' : World} {base b e e' size size' n n' : Nat} {v u : Value} {xs ys : List Value} (h : w.ownsRow base e size v n xs) (k : w.ownsRow b e' size' u n' ys) (hne : e ≠ e') (hg : w.grownBy w' u.ownBlock) : w'.ownsRow base e size v n xs := by
 refine ⟨h.1, ?_⟩
 rcases h.2 with q | ⟨g, cap, cur, hv, hb, hh, hr⟩
 · exact .inl q
 · refine .inr ⟨g, cap, cur, hv, hb, (hg.block g (lt_blkR hh) (fun q => ?_)).trans hh, hr⟩
   rcases k.2 with ⟨rfl, _⟩ | ⟨g', cap', cur', rfl, _, hh', _⟩
   · cases q
   · cases q
     rw [hh'] at hh
     cases hh
     exact hne rfl
def foldS (p : List Nd × List Int) (o : Rec) : List Nd × List Int := (if (ApplyL p.1 o).1 = 0 then (ApplyL p.1 o).2 else p.1, p.2 ++ [(ApplyL p.1 o).1])
end Go.Proofs.YtkokjkaclcjnjaaDoor
