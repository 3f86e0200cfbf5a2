/-
  What is right by itself, in both words. (Written by nodebase.py out of SnapMath.)
  The program's Right and the document's are the same, at last; RightSnapshot of the document.
-/
import Derived.Test.YtkokjkaclcjnjaaDoorTrAy
namespace Go.Proofs.YtkokjkaclcjnjaaDoor
open Go.RowKit Go.ChangeShapes Go.WideShapes Go.ChangeAt Go.Maps
set_option linter.unusedVariables false
set_option linter.unusedSimpArgs false
set_option maxRecDepth 100000
theorem right_ok {l : List Nd} (h : RightP l) : ∀ x ∈ l, nodeOk x = true := by
 obtain ⟨h1, h2, h3, h4, h5, h6⟩ := h
 intro x hx
 obtain ⟨i, hi, rfl⟩ := List.getElem_of_mem hx
 have hg : l.getD i Nd.no = l[i] := by simp [List.getD, hi]
 have hf := upTo_pos2 h2 i hi
 rw [hg] at hf
 obtain ⟨ha, hh⟩ := h4 _ hx
 have hp : ∀ f p, N0 l f = some p → f ≠ 0 := fun f p e => by
   unfold N0 ndF at e
   cases hq : plTo l l.length f with
   | none => rw [hq] at e; cases e
   | some j =>
     obtain ⟨q1, q2⟩ := plTo_lt l _ hq
     have := upTo_pos2 h2 j q1
     omega
 generalize l[i] = y at *
 unfold nodeOk
 have f0 : (y.fid == 0) = false := beq_eq_false_iff_ne.2 (by omega)
 rw [f0]
 have h12 := alone_few ha
 unfold aloneB at ha
 cases q : (y.k == 1 || y.k == 3) with
 | true =>
   rw [q] at ha
   simp only [cond_true, Bool.and_eq_true, decide_eq_true_eq] at ha ⊢
   simp [ha.2]
   omega
 | false =>
   rw [q] at ha
   cases q2 : (y.k == 2) with
   | true =>
     rw [q2] at ha
     simp only [cond_false, cond_true, Bool.and_eq_true, decide_eq_true_eq] at ha ⊢
     have := kidsTo_of hp ha.2.2 hh
     have hk : kidsOk y.ks = true := this
     rw [hk]
     simp [ha.1]
     omega
   | false => rw [q2] at ha; cases ha
end Go.Proofs.YtkokjkaclcjnjaaDoor
namespace Go.Proofs.YtkokjkaclcjnjaaDoor
open Go.RowKit Go.ChangeShapes Go.WideShapes Go.ChangeAt Go.Maps Go.Shelf
set_option linter.unusedVariables false
set_option linter.unusedSimpArgs false
set_option maxRecDepth 100000
theorem dKid_have (l : List Nd) (ks : List Kd) : ∀ m, dKid l ks m = haveTo (N0 l) ks m
 | 0 => rfl
 | m + 1 => by
   unfold dKid haveTo
   rw [dKid_have l ks m, N0_has, Bool.and_comm (hasF l _)]
theorem dTo_mk {l : List Nd} : ∀ {m : Nat}, (∀ i, i < m → dOne l i = true) → dTo l m = true
 | 0, _ => rfl
 | m + 1, h => by
   unfold dTo
   rw [dTo_mk (fun i hi => h i (by omega)), h m (by omega)]; rfl
theorem lkTo_mk {l : List Nd} : ∀ {m : Nat}, (∀ i, i < m → lkOne l (l.getD i Nd.no) = true) → lkTo l m = true
 | 0, _ => rfl
 | m + 1, h => by
   unfold lkTo
   rw [lkTo_mk (fun i hi => h i (by omega)), h m (by omega)]; rfl
theorem lkTo_at {l : List Nd} : ∀ {m : Nat}, lkTo l m = true → ∀ i, i < m → lkOne l (l.getD i Nd.no) = true
 | 0, _, i, hi => by omega
 | m + 1, h, i, hi => by
   unfold lkTo at h
   rw [Bool.and_eq_true] at h
   by_cases e : i = m
   · subst e; exact h.2
   · exact lkTo_at h.1 i (by omega)
theorem upTo_mk {l : List Nd} : ∀ {m : Nat}, (∀ i, i < m → lastFd l i < (l.getD i Nd.no).fid) → upTo l m = true
 | 0, _ => rfl
 | m + 1, h => by
   unfold upTo
   rw [upTo_mk (fun i hi => h i (by omega)), decide_eq_true (h m (by omega))]; rfl
theorem linksTo_mk {P : List Int} {l : List Nd} : ∀ {m : Nat}, (∀ i, i < m → linkB P (l.getD i Nd.no) = true) → linksTo P l m = true
 | 0, _ => rfl
 | m + 1, h => by
   unfold linksTo
   rw [linksTo_mk (fun i hi => h i (by omega)), h m (by omega)]; rfl
theorem rtTo_ex {l : List Nd} : ∀ {m : Nat}, rtTo l m = true → ∃ i, i < m ∧ rtB (l.getD i Nd.no) = true
 | 0, h => by cases h
 | m + 1, h => by
   unfold rtTo at h
   rw [Bool.or_eq_true] at h
   rcases h with h | h
   · obtain ⟨i, hi, e⟩ := rtTo_ex h
     exact ⟨i, by omega, e⟩
   · exact ⟨m, by omega, h⟩
theorem rtTo_mk {l : List Nd} : ∀ {m : Nat} {i : Nat}, i < m → rtB (l.getD i Nd.no) = true → rtTo l m = true
 | 0, i, hi, _ => by omega
 | m + 1, i, hi, h => by
   unfold rtTo
   by_cases e : i = m
   · subst e; rw [h, Bool.or_true]
   · rw [rtTo_mk (i := i) (by omega) h, Bool.true_or]
theorem namesTo_of {l : List Kd} : ∀ {m : Nat}, kidsTo l m = true → namesTo l m = true
 | 0, _ => rfl
 | m + 1, h => by
   unfold kidsTo kOk at h
   rw [Bool.and_eq_true, Bool.and_eq_true] at h
   unfold namesTo nmK
   rw [namesTo_of h.1, h.2.1]; rfl
theorem alone_of {x : Nd} (h : nodeOk x = true) : aloneB x = true := by
 unfold nodeOk at h
 rw [Bool.and_eq_true] at h
 obtain ⟨ha, hb⟩ := h
 simp only [Bool.not_eq_true', Bool.or_eq_false_iff, decide_eq_false_iff_not] at ha
 obtain ⟨⟨_, l1⟩, l2⟩ := ha
 unfold aloneB
 cases q1 : (x.k == 1 || x.k == 3) with
 | true =>
   rw [q1] at hb
   simp only [cond_true, decide_eq_true_eq, Bool.and_eq_true] at hb ⊢
   exact ⟨by omega, hb⟩
 | false =>
   rw [q1] at hb
   cases q2 : (x.k == 2) with
   | false => rw [q2] at hb; cases hb
   | true =>
     rw [q2] at hb
     simp only [cond_false, cond_true, Bool.and_eq_true, decide_eq_true_eq] at hb ⊢
     exact ⟨hb.1, by omega, namesTo_of hb.2⟩
theorem no_root {l : List Nd} (h : ∀ x ∈ l, haveB (N0 l) x.ks = true) : (kfs l).count 1 = 0 := by
 rw [List.count_eq_zero]
 intro hm
 unfold kfs at hm
 rw [List.mem_flatMap] at hm
 obtain ⟨x, hx, hg⟩ := hm
 rw [List.mem_map] at hg
 obtain ⟨kd, hkd, ek⟩ := hg
 obtain ⟨t, ht, rfl⟩ := List.getElem_of_mem hkd
 have := (haveTo_all (h x hx) t ht).1
 rw [show x.ks.getD t Kd.no = x.ks[t] by simp [List.getD, ht]] at this
 exact this ek
theorem rightD_iff (l : List Nd) : RightP l ↔ rightD l = true := by
 constructor
 · intro h
   obtain ⟨h1, h2, h3, h4, h5, h6⟩ := h
   have B : Base l := ⟨h1, h2, h3, h4, h5⟩
   have hU := (ring_ab B).1 h6
   have hz := no_root (fun x hx => (h4 x hx).2)
   have hd : dTo l l.length = true := dTo_mk (fun i hi => by
     unfold dOne dA
     rw [right_ok ⟨h1, h2, h3, h4, h5, h6⟩ _ (getD_mem l Nd.no hi), decide_eq_true (upTo_pos h2 i hi), dKid_have]
     exact (h4 _ (getD_mem l Nd.no hi)).2)
   have hr : rtTo l l.length = true := by
     have hd := h3
     unfold isDirT at hd
     cases hN : N0 l 1 with
     | none => rw [hN] at hd; cases hd
     | some r =>
       obtain ⟨p, x⟩ := r
       rw [hN] at hd
       obtain ⟨i, hi, rfl, e⟩ := N0_of hN
       refine rtTo_mk hi ?_
       have hb := linksTo_all h5 i hi
       unfold linkB at hb
       rw [e, hz, Bool.and_eq_true] at hb
       unfold rtB
       rw [e]
       have hd2 : ((l.getD i Nd.no).k == 2) = true := hd
       rw [hd2]
       exact hb.1
   have hl : lkTo l l.length = true := lkTo_mk (fun i hi => by
     have hb := linksTo_all h5 i hi
     have hu := hU i hi
     unfold lkOne
     rw [hu, Bool.and_true]
     generalize l.getD i Nd.no = x at *
     unfold linkB at hb
     unfold lkA
     generalize ((kfs l).count x.fid : Int) = c at *
     rw [Bool.and_eq_true] at hb
     obtain ⟨hb1, hb2⟩ := hb
     cases q : (x.fid == 1) with
     | true => rfl
     | false =>
       rw [q] at hb2
       have e : x.ln = c := by simpa using hb1
       simp only [Bool.false_or, Bool.not_eq_true', Bool.or_eq_false_iff, decide_eq_false_iff_not] at hb2 ⊢
       refine ⟨hb2.1, by rw [e]; simp, ?_⟩
       cases q2 : (x.k == 2) with
       | false => rfl
       | true =>
         have := hb2.2
         rw [q2] at this
         simp only [Bool.true_and, decide_eq_false_iff_not] at this ⊢
         have e1 : c = 1 := by have := hb2.1; omega
         rw [e1]; rfl)
   unfold rightD
   rw [decide_eq_true h1, hd, hr, hl]; rfl
 · intro h
   unfold rightD at h
   simp only [Bool.and_eq_true, decide_eq_true_eq] at h
   obtain ⟨h1, hd, hr, hl⟩ := h
   have hone := fun i hi => dTo_at hd i hi
   unfold dOne dA at hone
   simp only [Bool.and_eq_true, decide_eq_true_eq] at hone
   have h2 : fidsUp l = true := upTo_mk (fun i hi => (hone i hi).1.2)
   have h4 : ∀ x ∈ l, aloneB x = true ∧ haveB (N0 l) x.ks = true := fun x hx => by
     obtain ⟨i, hi, rfl⟩ := List.getElem_of_mem hx
     have e : l.getD i Nd.no = l[i] := by simp [List.getD, hi]
     have hq := hone i hi
     rw [e, dKid_have] at hq
     exact ⟨alone_of hq.1.1, hq.2⟩
   obtain ⟨r, hrl, hrb⟩ := rtTo_ex hr
   unfold rtB at hrb
   simp only [Bool.and_eq_true] at hrb
   have hrf : (l.getD r Nd.no).fid = 1 := by simpa using hrb.1
   have hz := no_root (fun x hx => (h4 x hx).2)
   have h3 : isDirT (N0 l) 1 = true := by
     obtain ⟨p, hp⟩ := N0_at h2 hrl
     rw [hrf] at hp
     unfold isDirT
     rw [hp]
     exact hrb.2.1
   have h5 : linksB l = true := linksTo_mk (fun i hi => by
     have hk := lkTo_at hl i hi
     unfold lkOne at hk
     rw [Bool.and_eq_true] at hk
     unfold linkB
     cases q : ((l.getD i Nd.no).fid == 1) with
     | true =>
       have e1 : (l.getD i Nd.no).fid = 1 := by simpa using q
       obtain rfl := up_inj h2 hi hrl (by rw [e1, hrf])
       rw [e1, hz]
       have := hrb.2.2
       simp only [Bool.true_or, Bool.and_true]
       simpa using this
     | false =>
       have hk1 := hk.1
       generalize l.getD i Nd.no = x at *
       unfold lkA at hk1
       generalize ((kfs l).count x.fid : Int) = c at *
       rw [q] at hk1
       simp only [Bool.false_or, Bool.not_eq_true', Bool.or_eq_false_iff, decide_eq_false_iff_not] at hk1
       obtain ⟨a1, a2, a3⟩ := hk1
       have e : c = x.ln := by simpa using a2
       rw [← e, decide_eq_false a1]
       simp only [beq_self_eq_true, Bool.true_and, Bool.false_or]
       cases q2 : (x.k == 2) with
       | false => rfl
       | true =>
         rw [q2] at a3
         have e1 : c = 1 := by simpa using a3
         rw [e1]; rfl)
   have B : Base l := ⟨h1, h2, h3, h4, h5⟩
   refine ⟨h1, h2, h3, h4, h5, (ring_ab B).2 (fun i hi => ?_)⟩
   have hk := lkTo_at hl i hi
   unfold lkOne at hk
   rw [Bool.and_eq_true] at hk
   exact hk.2
end Go.Proofs.YtkokjkaclcjnjaaDoor
