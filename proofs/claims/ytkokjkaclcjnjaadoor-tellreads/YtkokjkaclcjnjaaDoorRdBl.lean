/-
  What is right by itself, in both words. (Written by nodebase.py out of SnapMath.)
  The program's Right and the document's are the same, at last; RightSnapshot of the document.
  The document's tree: apply.
  The document's Same, of the same contents. (Written by nodebase.py out of SnapSame.)
  The document's tree: Apply, New.
-/
import Derived.Test.YtkokjkaclcjnjaaDoorRdBk
import Derived.Test.YtkokjkaclcjnjaaDoorRdBi
import Derived.Laws.IdiomStrings
import Derived.Deep.RegionHeld3
import Derived.BigQuiet
namespace Go.Proofs.YtkokjkaclcjnjaaDoor
open Go.RowKit Go.ChangeShapes Go.WideShapes Go.ChangeAt Go.Maps
set_option linter.unusedVariables false
set_option linter.unusedSimpArgs false
set_option maxRecDepth 100000
theorem right_ok {l : List Nd} (h : RightP l) : ∀ x ∈ l, nodeOk x = true := by
 obtain ⟨h1, h2, h3, h4, h5, h6⟩ := h
 intro x hx
 obtain ⟨i, hi, rfl⟩ := List.getElem_of_mem hx
 have hg : l.getD i Nd.no = l[i] := by simp [List.getD, hi]
 have hf := upTo_pos2 h2 i hi
 rw [hg] at hf
 obtain ⟨ha, hh⟩ := h4 _ hx
 have hp : ∀ f p, N0 l f = some p → f ≠ 0 := fun f p e => by
   unfold N0 ndF at e
   cases hq : plTo l l.length f with
   | none => rw [hq] at e; cases e
   | some j =>
     obtain ⟨q1, q2⟩ := plTo_lt l _ hq
     have := upTo_pos2 h2 j q1
     omega
 generalize l[i] = y at *
 unfold nodeOk
 have f0 : (y.fid == 0) = false := beq_eq_false_iff_ne.2 (by omega)
 rw [f0]
 have h12 := alone_few ha
 unfold aloneB at ha
 cases q : (y.k == 1 || y.k == 3) with
 | true =>
   rw [q] at ha
   simp only [cond_true, Bool.and_eq_true, decide_eq_true_eq] at ha ⊢
   simp [ha.2]
   omega
 | false =>
   rw [q] at ha
   cases q2 : (y.k == 2) with
   | true =>
     rw [q2] at ha
     simp only [cond_false, cond_true, Bool.and_eq_true, decide_eq_true_eq] at ha ⊢
     have := kidsTo_of hp ha.2.2 hh
     have hk : kidsOk y.ks = true := this
     rw [hk]
     simp [ha.1]
     omega
   | false => rw [q2] at ha; cases ha
end Go.Proofs.YtkokjkaclcjnjaaDoor
namespace Go.Proofs.YtkokjkaclcjnjaaDoor
open Go.RowKit Go.ChangeShapes Go.WideShapes Go.ChangeAt Go.Maps Go.Shelf
set_option linter.unusedVariables false
set_option linter.unusedSimpArgs false
set_option maxRecDepth 100000
theorem dKid_have (l : List Nd) (ks : List Kd) : ∀ m, dKid l ks m = haveTo (N0 l) ks m
 | 0 => rfl
 | m + 1 => by
   unfold dKid haveTo
   rw [dKid_have l ks m, N0_has, Bool.and_comm (hasF l _)]
theorem dTo_mk {l : List Nd} : ∀ {m : Nat}, (∀ i, i < m → dOne l i = true) → dTo l m = true
 | 0, _ => rfl
 | m + 1, h => by
   unfold dTo
   rw [dTo_mk (fun i hi => h i (by omega)), h m (by omega)]; rfl
theorem lkTo_mk {l : List Nd} : ∀ {m : Nat}, (∀ i, i < m → lkOne l (l.getD i Nd.no) = true) → lkTo l m = true
 | 0, _ => rfl
 | m + 1, h => by
   unfold lkTo
   rw [lkTo_mk (fun i hi => h i (by omega)), h m (by omega)]; rfl
theorem lkTo_at {l : List Nd} : ∀ {m : Nat}, lkTo l m = true → ∀ i, i < m → lkOne l (l.getD i Nd.no) = true
 | 0, _, i, hi => by omega
 | m + 1, h, i, hi => by
   unfold lkTo at h
   rw [Bool.and_eq_true] at h
   by_cases e : i = m
   · subst e; exact h.2
   · exact lkTo_at h.1 i (by omega)
theorem upTo_mk {l : List Nd} : ∀ {m : Nat}, (∀ i, i < m → lastFd l i < (l.getD i Nd.no).fid) → upTo l m = true
 | 0, _ => rfl
 | m + 1, h => by
   unfold upTo
   rw [upTo_mk (fun i hi => h i (by omega)), decide_eq_true (h m (by omega))]; rfl
theorem linksTo_mk {P : List Int} {l : List Nd} : ∀ {m : Nat}, (∀ i, i < m → linkB P (l.getD i Nd.no) = true) → linksTo P l m = true
 | 0, _ => rfl
 | m + 1, h => by
   unfold linksTo
   rw [linksTo_mk (fun i hi => h i (by omega)), h m (by omega)]; rfl
theorem rtTo_ex {l : List Nd} : ∀ {m : Nat}, rtTo l m = true → ∃ i, i < m ∧ rtB (l.getD i Nd.no) = true
 | 0, h => by cases h
 | m + 1, h => by
   unfold rtTo at h
   rw [Bool.or_eq_true] at h
   rcases h with h | h
   · obtain ⟨i, hi, e⟩ := rtTo_ex h
     exact ⟨i, by omega, e⟩
   · exact ⟨m, by omega, h⟩
theorem rtTo_mk {l : List Nd} : ∀ {m : Nat} {i : Nat}, i < m → rtB (l.getD i Nd.no) = true → rtTo l m = true
 | 0, i, hi, _ => by omega
 | m + 1, i, hi, h => by
   unfold rtTo
   by_cases e : i = m
   · subst e; rw [h, Bool.or_true]
   · rw [rtTo_mk (i := i) (by omega) h, Bool.true_or]
theorem namesTo_of {l : List Kd} : ∀ {m : Nat}, kidsTo l m = true → namesTo l m = true
 | 0, _ => rfl
 | m + 1, h => by
   unfold kidsTo kOk at h
   rw [Bool.and_eq_true, Bool.and_eq_true] at h
   unfold namesTo nmK
   rw [namesTo_of h.1, h.2.1]; rfl
theorem alone_of {x : Nd} (h : nodeOk x = true) : aloneB x = true := by
 unfold nodeOk at h
 rw [Bool.and_eq_true] at h
 obtain ⟨ha, hb⟩ := h
 simp only [Bool.not_eq_true', Bool.or_eq_false_iff, decide_eq_false_iff_not] at ha
 obtain ⟨⟨_, l1⟩, l2⟩ := ha
 unfold aloneB
 cases q1 : (x.k == 1 || x.k == 3) with
 | true =>
   rw [q1] at hb
   simp only [cond_true, decide_eq_true_eq, Bool.and_eq_true] at hb ⊢
   exact ⟨by omega, hb⟩
 | false =>
   rw [q1] at hb
   cases q2 : (x.k == 2) with
   | false => rw [q2] at hb; cases hb
   | true =>
     rw [q2] at hb
     simp only [cond_false, cond_true, Bool.and_eq_true, decide_eq_true_eq] at hb ⊢
     exact ⟨hb.1, by omega, namesTo_of hb.2⟩
theorem no_root {l : List Nd} (h : ∀ x ∈ l, haveB (N0 l) x.ks = true) : (kfs l).count 1 = 0 := by
 rw [List.count_eq_zero]
 intro hm
 unfold kfs at hm
 rw [List.mem_flatMap] at hm
 obtain ⟨x, hx, hg⟩ := hm
 rw [List.mem_map] at hg
 obtain ⟨kd, hkd, ek⟩ := hg
 obtain ⟨t, ht, rfl⟩ := List.getElem_of_mem hkd
 have := (haveTo_all (h x hx) t ht).1
 rw [show x.ks.getD t Kd.no = x.ks[t] by simp [List.getD, ht]] at this
 exact this ek
theorem rightD_iff (l : List Nd) : RightP l ↔ rightD l = true := by
 constructor
 · intro h
   obtain ⟨h1, h2, h3, h4, h5, h6⟩ := h
   have B : Base l := ⟨h1, h2, h3, h4, h5⟩
   have hU := (ring_ab B).1 h6
   have hz := no_root (fun x hx => (h4 x hx).2)
   have hd : dTo l l.length = true := dTo_mk (fun i hi => by
     unfold dOne dA
     rw [right_ok ⟨h1, h2, h3, h4, h5, h6⟩ _ (getD_mem l Nd.no hi), decide_eq_true (upTo_pos h2 i hi), dKid_have]
     exact (h4 _ (getD_mem l Nd.no hi)).2)
   have hr : rtTo l l.length = true := by
     have hd := h3
     unfold isDirT at hd
     cases hN : N0 l 1 with
     | none => rw [hN] at hd; cases hd
     | some r =>
       obtain ⟨p, x⟩ := r
       rw [hN] at hd
       obtain ⟨i, hi, rfl, e⟩ := N0_of hN
       refine rtTo_mk hi ?_
       have hb := linksTo_all h5 i hi
       unfold linkB at hb
       rw [e, hz, Bool.and_eq_true] at hb
       unfold rtB
       rw [e]
       have hd2 : ((l.getD i Nd.no).k == 2) = true := hd
       rw [hd2]
       exact hb.1
   have hl : lkTo l l.length = true := lkTo_mk (fun i hi => by
     have hb := linksTo_all h5 i hi
     have hu := hU i hi
     unfold lkOne
     rw [hu, Bool.and_true]
     generalize l.getD i Nd.no = x at *
     unfold linkB at hb
     unfold lkA
     generalize ((kfs l).count x.fid : Int) = c at *
     rw [Bool.and_eq_true] at hb
     obtain ⟨hb1, hb2⟩ := hb
     cases q : (x.fid == 1) with
     | true => rfl
     | false =>
       rw [q] at hb2
       have e : x.ln = c := by simpa using hb1
       simp only [Bool.false_or, Bool.not_eq_true', Bool.or_eq_false_iff, decide_eq_false_iff_not] at hb2 ⊢
       refine ⟨hb2.1, by rw [e]; simp, ?_⟩
       cases q2 : (x.k == 2) with
       | false => rfl
       | true =>
         have := hb2.2
         rw [q2] at this
         simp only [Bool.true_and, decide_eq_false_iff_not] at this ⊢
         have e1 : c = 1 := by have := hb2.1; omega
         rw [e1]; rfl)
   unfold rightD
   rw [decide_eq_true h1, hd, hr, hl]; rfl
 · intro h
   unfold rightD at h
   simp only [Bool.and_eq_true, decide_eq_true_eq] at h
   obtain ⟨h1, hd, hr, hl⟩ := h
   have hone := fun i hi => dTo_at hd i hi
   unfold dOne dA at hone
   simp only [Bool.and_eq_true, decide_eq_true_eq] at hone
   have h2 : fidsUp l = true := upTo_mk (fun i hi => (hone i hi).1.2)
   have h4 : ∀ x ∈ l, aloneB x = true ∧ haveB (N0 l) x.ks = true := fun x hx => by
     obtain ⟨i, hi, rfl⟩ := List.getElem_of_mem hx
     have e : l.getD i Nd.no = l[i] := by simp [List.getD, hi]
     have hq := hone i hi
     rw [e, dKid_have] at hq
     exact ⟨alone_of hq.1.1, hq.2⟩
   obtain ⟨r, hrl, hrb⟩ := rtTo_ex hr
   unfold rtB at hrb
   simp only [Bool.and_eq_true] at hrb
   have hrf : (l.getD r Nd.no).fid = 1 := by simpa using hrb.1
   have hz := no_root (fun x hx => (h4 x hx).2)
   have h3 : isDirT (N0 l) 1 = true := by
     obtain ⟨p, hp⟩ := N0_at h2 hrl
     rw [hrf] at hp
     unfold isDirT
     rw [hp]
     exact hrb.2.1
   have h5 : linksB l = true := linksTo_mk (fun i hi => by
     have hk := lkTo_at hl i hi
     unfold lkOne at hk
     rw [Bool.and_eq_true] at hk
     unfold linkB
     cases q : ((l.getD i Nd.no).fid == 1) with
     | true =>
       have e1 : (l.getD i Nd.no).fid = 1 := by simpa using q
       obtain rfl := up_inj h2 hi hrl (by rw [e1, hrf])
       rw [e1, hz]
       have := hrb.2.2
       simp only [Bool.true_or, Bool.and_true]
       simpa using this
     | false =>
       have hk1 := hk.1
       generalize l.getD i Nd.no = x at *
       unfold lkA at hk1
       generalize ((kfs l).count x.fid : Int) = c at *
       rw [q] at hk1
       simp only [Bool.false_or, Bool.not_eq_true', Bool.or_eq_false_iff, decide_eq_false_iff_not] at hk1
       obtain ⟨a1, a2, a3⟩ := hk1
       have e : c = x.ln := by simpa using a2
       rw [← e, decide_eq_false a1]
       simp only [beq_self_eq_true, Bool.true_and, Bool.false_or]
       cases q2 : (x.k == 2) with
       | false => rfl
       | true =>
         rw [q2] at a3
         have e1 : c = 1 := by simpa using a3
         rw [e1]; rfl)
   have B : Base l := ⟨h1, h2, h3, h4, h5⟩
   refine ⟨h1, h2, h3, h4, h5, (ring_ab B).2 (fun i hi => ?_)⟩
   have hk := lkTo_at hl i hi
   unfold lkOne at hk
   rw [Bool.and_eq_true] at hk
   exact hk.2
structure TOK (l : List Nd) : Prop where
 few : l.length ≤ 40
 kids : ∀ x ∈ l, x.ks.length ≤ 12
 data : ∀ x ∈ l, x.zs.length ≤ 64
 links : ∀ x ∈ l, x.ln ≤ 60000
 made : ∀ x ∈ l, ∀ q ∈ x.ks, ∃ y, getF l q.fid = some y ∧ 1 ≤ y.ln
def writeL (l : List Nd) (o : Rec) : Int × List Nd :=
 if (getF l o.fid).isSome = false then (5, [])
 else if o.k = 9 then (0, setL l ⟨((getF l o.fid).getD Nd.no).fid, ((getF l o.fid).getD Nd.no).k, o.md, ((getF l o.fid).getD Nd.no).ln, none, 0, ((getF l o.fid).getD Nd.no).zs, none, 0, ((getF l o.fid).getD Nd.no).ks⟩)
 else if ((getF l o.fid).getD Nd.no).k = 2 then (8, [])
 else if ((getF l o.fid).getD Nd.no).k = 3 then (3, [])
 else (0, setL l ⟨((getF l o.fid).getD Nd.no).fid, ((getF l o.fid).getD Nd.no).k, ((getF l o.fid).getD Nd.no).md, ((getF l o.fid).getD Nd.no).ln, none, 0, txB o.dt, none, 0, ((getF l o.fid).getD Nd.no).ks⟩)
def applyL (l : List Nd) (o : Rec) : Int × List Nd :=
 if o.k = 1 ∨ o.k = 2 ∨ o.k = 3 then createL l o
 else if o.k = 4 then hardL l o
 else if o.k = 5 ∨ o.k = 6 then removeL l o
 else if o.k = 7 then renameL l o
 else writeL l o
theorem kidI_mem {l : List Kd} {s : ByteArray} (h : kidI l s ≠ 0) : ∃ q ∈ l, q.nm = s ∧ kidI l s = q.fid := by
 unfold kidI at h ⊢
 cases hf : l.find? (fun k => decide (k.nm = s)) with
 | none => rw [hf] at h; exact absurd rfl h
 | some k => exact ⟨k, List.mem_of_find?_eq_some hf, by simpa using List.find?_some hf, rfl⟩
theorem TOK.look {l : List Nd} (h : TOK l) {f : Int} {s : ByteArray} (e : lookE (getF l f) s = 0) : ∃ x, getF l (lookI (getF l f) s) = some x ∧ 1 ≤ x.ln := by
 obtain ⟨e1, e2, e3, e4⟩ := lookE_ok e
 rw [e3] at e4 ⊢
 obtain ⟨q, hq, _, e5⟩ := kidI_mem e4
 rw [e5]
 exact h.made _ (getF_mem e1).1 q hq
theorem count_kfs {l : List Nd} {f : Int} : ∀ (n : Nat), l.length ≤ n → (∀ x ∈ l, x.ks.length ≤ 12) → (kfs l).count f ≤ 12 * n := by
 intro n hn hk
 refine Nat.le_trans List.count_le_length ?_
 have : ∀ m : List Nd, (∀ x ∈ m, x.ks.length ≤ 12) → (kfs m).length ≤ 12 * m.length := by
   intro m
   induction m with
   | nil => intro _; simp [kfs]
   | cons x t ih =>
     intro h
     have h1 := ih (fun y hy => h y (List.mem_cons_of_mem _ hy))
     have h2 := h x List.mem_cons_self
     unfold kfs at h1 ⊢
     rw [List.flatMap_cons, List.length_append, List.length_map, List.length_cons]
     omega
 have h2 := this l hk
 omega
theorem kidsTo_all {l : List Kd} : ∀ {m : Nat}, kidsTo l m = true → ∀ i, i < m → kOk l i = true
 | 0, _, i, hi => by omega
 | m + 1, h, i, hi => by
   unfold kidsTo at h
   rw [Bool.and_eq_true] at h
   by_cases e : i = m
   · subst e; exact h.2
   · exact kidsTo_all h.1 i (by omega)
theorem nodeOk_kid {x : Nd} (h : nodeOk x = true) {j : Nat} (hj : j < x.ks.length) : (x.ks[j]).fid ≠ 0 := by
 unfold nodeOk at h
 rw [Bool.and_eq_true] at h
 have h2 := h.2
 cases q1 : (x.k == 1 || x.k == 3) with
 | true =>
   rw [q1] at h2
   simp only [cond_true, decide_eq_true_eq] at h2
   omega
 | false =>
   rw [q1] at h2
   cases q2 : (x.k == 2) with
   | false => rw [q2] at h2; cases h2
   | true =>
     rw [q2] at h2
     simp only [cond_false, cond_true, Bool.and_eq_true] at h2
     have := kidsTo_all h2.2 j hj
     unfold kOk at this
     rw [show x.ks.getD j Kd.no = x.ks[j] by simp [List.getD, hj]] at this
     simp only [Bool.and_eq_true, bne_iff_ne] at this
     exact this.2
theorem rightD_tok {l : List Nd} (h : rightD l = true) : TOK l ∧ ∀ x ∈ l, x.fid ≠ 0 := by
 unfold rightD at h
 simp only [Bool.and_eq_true, decide_eq_true_eq] at h
 obtain ⟨h40, hd, hr, hl⟩ := h
 have hok := dTo_ok hd
 have hk : ∀ x ∈ l, x.ks.length ≤ 12 := fun x hx => nodeOk_few (hok x hx)
 have hc : ∀ x ∈ l, lkA ((kfs l).count x.fid : Int) x = true := fun x hx => by
   obtain ⟨i, hi, rfl⟩ := List.getElem_of_mem hx
   have := lkTo_at hl i hi
   unfold lkOne at this
   rw [Bool.and_eq_true, show l.getD i Nd.no = l[i] by simp [List.getD, hi]] at this
   exact this.1
 have hcount : ∀ x ∈ l, x.fid ≠ 1 → 1 ≤ x.ln ∧ x.ln = ((kfs l).count x.fid : Int) := fun x hx hne => by
   have := hc x hx
   unfold lkA at this
   have e : (x.fid == 1) = false := beq_eq_false_iff_ne.2 hne
   rw [e] at this
   simp only [Bool.false_or, Bool.not_eq_true', Bool.or_eq_false_iff, decide_eq_false_iff_not, bne_eq_false_iff_eq] at this
   obtain ⟨h1, h2, _⟩ := this
   omega
 refine ⟨⟨h40, hk, fun x hx => ?_, fun x hx => ?_, fun x hx q hq => ?_⟩, fun x hx => nodeOk_pos (hok x hx)⟩
 · have := hok x hx
   unfold nodeOk at this
   simp only [Bool.and_eq_true, Bool.not_eq_true', Bool.or_eq_false_iff, decide_eq_false_iff_not] at this
   omega
 · by_cases e : x.fid = 1
   · obtain ⟨i, hi, hi2⟩ := rtTo_ex hr
     unfold rtB at hi2
     simp only [Bool.and_eq_true, beq_iff_eq] at hi2
     have hu : upTo l l.length = true := upTo_mk (fun j hj => by
       have := dTo_at hd j hj
       unfold dOne dA at this
       simp only [Bool.and_eq_true, decide_eq_true_eq] at this
       exact this.1.2)
     obtain ⟨j, hj, rfl⟩ := List.getElem_of_mem hx
     have : i = j := up_inj hu hi hj (by rw [hi2.1, show l.getD j Nd.no = l[j] by simp [List.getD, hj], e])
     subst this
     have e3 := hi2.2.2
     rw [show l.getD i Nd.no = l[i] by simp [List.getD, hj]] at e3
     omega
   · have h1 := (hcount x hx e).2
     have h2 := count_kfs (f := x.fid) 40 h40 hk
     omega
 · obtain ⟨i, hi, rfl⟩ := List.getElem_of_mem hx
   have h1 := dTo_at hd i hi
   unfold dOne at h1
   rw [Bool.and_eq_true, dKid_have] at h1
   have h2 := h1.2
   rw [show l.getD i Nd.no = l[i] by simp [List.getD, hi]] at h2
   obtain ⟨j, hj, rfl⟩ := List.getElem_of_mem hq
   have h3 := haveTo_all h2 j hj
   rw [show (l[i]).ks.getD j Kd.no = (l[i]).ks[j] by simp [List.getD, hj]] at h3
   rw [N0_has] at h3
   cases hg : getF l ((l[i]).ks[j]).fid with
   | none =>
     exfalso
     have := h3.2
     unfold getF at hg
     rw [List.find?_eq_none] at hg
     have hno : ∀ m, hasTo l ((l[i]).ks[j]).fid m = false := fun m => by
       induction m with
       | zero => rfl
       | succ m ih =>
         simp only [hasTo, ih, Bool.false_or]
         by_cases hm : m < l.length
         · have := hg _ (getD_mem l Nd.no hm)
           simpa using this
         · have : l.getD m Nd.no = Nd.no := by simp [List.getD, hm]
           rw [this]
           refine beq_eq_false_iff_ne.2 (fun e => ?_)
           have hp := nodeOk_kid (hok _ (List.getElem_mem hi)) hj
           exact hp e.symm
     unfold hasF at this
     rw [hno] at this
     cases this
   | some y =>
     refine ⟨y, rfl, (hcount y (getF_mem hg).1 (fun e => ?_)).1⟩
     have := (getF_mem hg).2
     rw [e] at this
     exact h3.1 this.symm
theorem er_at {L M : List Nd} (h : L.map Nd.er = M.map Nd.er) (i : Nat) : (L.getD i Nd.no).er = (M.getD i Nd.no).er := by
 rw [← getD_er, h, getD_er]
set_option maxHeartbeats 2000000 in
theorem same6_c (a b : Option Addr) (ca cb : Nat) (L M : List Nd) (w : World) (ha : IsNs w a L) (hb : IsNs w b M) (he : L.map Nd.er = M.map Nd.er) (hm : L.length ≤ 100000) (hk : ∀ x ∈ L, x.ks.length ≤ 100000) :
   Calls Tryd.prog 24 #[.slice a L.length ca, .slice b M.length cb] w fun e w' => e = .returned (.bool true) ∧ Below w.heap.size w w' := by
 have hl : M.length = L.length := by have := congrArg List.length he; simpa using this.symm
 have HA := hid ha
 have HB := hid hb
 have HE := hid he
 have HK := hid hk
 have HL := hid hl
 rw [hl]
 obtain ⟨n, hn⟩ : ∃ n, n = L.length := ⟨_, rfl⟩
 have HN := hid hn
 rw [← hn] at hm ⊢
 clear ha hb he hk hl hn
 go_enter Tryd.func24, Tryd.ntmps24
 go_wp2
 go_loopg [5] n (fun gk i wr => ∃ m : Nat, m + gk = n ∧ i = .int .i64 m ∧ Hid (Below w.heap.size w wr))
 case atStart => exact ⟨0, by omega, rfl, hid (Below.refl _ _)⟩
 case round =>
   obtain ⟨m, hm2, rfl, HW⟩ := hrel
   by_cases hlt : m < n
   · have hltI : (m : Int) < n := by omega
     have h1 : m < L.length := by rw [← HN.out]; exact hlt
     have h2 : m < M.length := by rw [HL.out]; exact h1
     obtain ⟨b1, o1, rfl, _⟩ := HA.out.2.2 (by omega)
     obtain ⟨b2, o2, rfl, _⟩ := HB.out.2.2 (by omega)
     have hX := HA.out.later HW.out
     have hY := HB.out.later HW.out
     have oX := hX.ok h1
     have oY := hY.ok h2
     have cX := hX.at (i := m) h1
     have cY := hY.at (i := m) h2
     have ee := er_at HE.out m
     have kx := HK.out _ (getD_mem L Nd.no h1)
     clear h1 h2 hX hY
     generalize L.getD m Nd.no = x at *
     generalize M.getD m Nd.no = y at *
     obtain ⟨fid, k, md, ln, da, dc, zs, ka, kc, ks⟩ := x
     obtain ⟨fid', k', md', ln', db, dd, zs', kb, kd, ks'⟩ := y
     simp only [Nd.er, Nd.lie, Nd.mk.injEq] at ee
     obtain ⟨rfl, rfl, rfl, rfl, _, _, rfl, _, _, rfl⟩ := ee
     have SN := hid (fun w' (h : Below wr.heap.size wr w') => sameNode_c ⟨fid, k, md, ln, da, dc, zs, ka, kc, ks⟩ da dc ka kc db dd kb kd w' (oX.later h) (oY.later h) kx)
     simp only [Nd.lie, Nd.val] at SN
     have x0 : ∀ w', Below wr.heap.size wr w' → w'.cell? ⟨b1, o1 + m * 6, none⟩ = some (.int .u32 fid) := fun w' h => (cX.later h).all.1
     have x1 : ∀ w', Below wr.heap.size wr w' → w'.cell? ⟨b1, o1 + m * 6 + 1, none⟩ = some (.int .u8 k) := fun w' h => (cX.later h).all.2.1
     have x2 : ∀ w', Below wr.heap.size wr w' → w'.cell? ⟨b1, o1 + m * 6 + 2, none⟩ = some (.int .u16 md) := fun w' h => (cX.later h).all.2.2.1
     have x3 : ∀ w', Below wr.heap.size wr w' → w'.cell? ⟨b1, o1 + m * 6 + 3, none⟩ = some (.int .u16 ln) := fun w' h => (cX.later h).all.2.2.2.1
     have x4 : ∀ w', Below wr.heap.size wr w' → w'.cell? ⟨b1, o1 + m * 6 + 4, none⟩ = some (.slice da zs.length dc) := fun w' h => (cX.later h).all.2.2.2.2.1
     have x5 : ∀ w', Below wr.heap.size wr w' → w'.cell? ⟨b1, o1 + m * 6 + 5, none⟩ = some (.slice ka ks.length kc) := fun w' h => (cX.later h).all.2.2.2.2.2
     have y0 : ∀ w', Below wr.heap.size wr w' → w'.cell? ⟨b2, o2 + m * 6, none⟩ = some (.int .u32 fid) := fun w' h => (cY.later h).all.1
     have y1 : ∀ w', Below wr.heap.size wr w' → w'.cell? ⟨b2, o2 + m * 6 + 1, none⟩ = some (.int .u8 k) := fun w' h => (cY.later h).all.2.1
     have y2 : ∀ w', Below wr.heap.size wr w' → w'.cell? ⟨b2, o2 + m * 6 + 2, none⟩ = some (.int .u16 md) := fun w' h => (cY.later h).all.2.2.1
     have y3 : ∀ w', Below wr.heap.size wr w' → w'.cell? ⟨b2, o2 + m * 6 + 3, none⟩ = some (.int .u16 ln) := fun w' h => (cY.later h).all.2.2.2.1
     have y4 : ∀ w', Below wr.heap.size wr w' → w'.cell? ⟨b2, o2 + m * 6 + 4, none⟩ = some (.slice db zs.length dd) := fun w' h => (cY.later h).all.2.2.2.2.1
     have y5 : ∀ w', Below wr.heap.size wr w' → w'.cell? ⟨b2, o2 + m * 6 + 5, none⟩ = some (.slice kb ks.length kd) := fun w' h => (cY.later h).all.2.2.2.2.2
     clear cX cY oX oY kx
     go_wp2
     refine wp_region_class (by kernel_rfl) (by kernel_rfl) ?_
     repeat (first
       | go_big_quiet_skip
       | (go_big_quiet_want
          apply quiet_by
          · intro w1 hw1
            go_simp
            first
              | rfl
              | (go_at_call 47; exact class_of hw1 (SN.out _ hw1))
          · go_simp; rfl
          go_big_quiet_on))
     refine wpQuiet_nil ?_
     intro w9 hw9
     go_wp2
     go_roundg (gk - 1)
     case measure => omega
     case rel => exact ⟨m + 1, by omega, by go_num, hid (HW.out.trans (hw9.mono HW.out.size))⟩
   · have hge : ¬ (m : Int) < n := by omega
     go_wp2
     go_ret
     exact ⟨rfl, HW.out⟩
def ApplyL (l : List Nd) (o : Rec) : Int × List Nd := if (rightD l && rightF o) = true then applyL l o else (3, [])
theorem rightD_er (l : List Nd) : rightD (l.map Nd.er) = rightD l := by
 rw [Bool.eq_iff_iff, ← rightD_iff, ← rightD_iff]
 exact right_er l
end Go.Proofs.YtkokjkaclcjnjaaDoor
