/-
  What is made and removed leaves all as it was; what is stored last is what is there.
-/
import Derived.Test.YtloojakcknnilaaGreatSmBn
namespace Go.Proofs.YtloojakcknnilaaGreat
set_option linter.unusedVariables false
set_option linter.unusedSimpArgs false
def bkO (o : Rec) (k : Int) : Rec := ⟨k, 0, o.dir, o.nm, 0, ⟨#[]⟩, 0, ⟨#[]⟩, 0⟩
theorem bk_right {o : Rec} {k : Int} (hr : rightF o = true) (hk : pEnt o.k = true) (h56 : k = 5 ∨ k = 6) : rightF (bkO o k) = true := by
 unfold rightF at hr
 rw [hk] at hr
 have h1 : entF true o.dir o.nm = true := by
   simp only [Bool.and_eq_true] at hr
   exact hr.2.1.1.1
 have e0 : (⟨#[]⟩ : ByteArray).toList = [] := by rw [Lib.toList_data]
 unfold rightF bkO
 rcases h56 with rfl | rfl
 · simp only [show pEnt 5 = true by decide, h1, show pOk 5 = true by decide, show pFid 5 = false by decide, show mkF 5 = false by decide, show pGoal 5 = false by decide, show pData 5 = false by decide]
   simp [entF, datF, e0]
 · simp only [show pEnt 6 = true by decide, h1, show pOk 6 = true by decide, show pFid 6 = false by decide, show mkF 6 = false by decide, show pGoal 6 = false by decide, show pData 6 = false by decide]
   simp [entF, datF, e0]
theorem bk_wf {o : Rec} {k : Int} (hw : o.Wf) (h56 : k = 5 ∨ k = 6) : (bkO o k).Wf := by
 obtain ⟨h1, h2, h3, h4, h5, h6, h7, h8, h9⟩ := hw
 refine ⟨⟨?_, ?_⟩, ⟨by show (0 : Int) ≤ 0; omega, by show (0 : Int) < _; omega⟩, h3, ⟨by show (0 : Int) ≤ 0; omega, by show (0 : Int) < _; omega⟩, ⟨by show (0 : Int) ≤ 0; omega, by show (0 : Int) < _; omega⟩, ⟨by show (0 : Int) ≤ 0; omega, by show (0 : Int) < _; omega⟩, h7, by show 0 ≤ _; exact Nat.zero_le _, by show 0 ≤ _; exact Nat.zero_le _⟩
 · show 0 ≤ k; omega
 · show k < 256; omega
theorem kids_back {d : Nd} (he : d.er = d) (hk : KSrt d.ks) {s : ByteArray} {f : Int} (hf : f ≠ 0) (hq : kq d.ks s = none) : (d.kids none 0 (entL d.ks s f)).kids none 0 (entL (d.kids none 0 (entL d.ks s f)).ks s 0) = d := by
 have e1 : entL (entL d.ks s f) s 0 = d.ks := ksrt_ext (ksrt_ent _ _ (ksrt_ent _ _ hk)) hk (fun t => by
   rw [kq_ent, kq_ent]
   by_cases e : t = s
   · rw [if_pos e, if_pos rfl, e, hq]
   · rw [if_neg e, if_neg e])
 show d.kids none 0 (entL (entL d.ks s f) s 0) = d
 rw [e1]
 obtain ⟨e2, e3⟩ := er_ka he
 obtain ⟨a1, a2, a3, a4, a5, a6, a7, a8, a9, a10⟩ := d
 simp only at e2 e3
 subst e2 e3
 rfl
theorem undo_create {l : List Nd} (R : Rt l) (E : Er l) {o : Rec} (hr : rightF o = true) (hk : o.k = 1 ∨ o.k = 2 ∨ o.k = 3) (h : (createL l o).1 = 0) : removeL (createL l o).2 (bkO o (if o.k = 2 then 6 else 5)) = (0, l) ∧ (createL l o).2 ≠ l := by
 obtain ⟨d, h1, h2, h3, h4, h5, h6, e⟩ := create_ok R h
 have hm : mkF o.k = true := by rcases hk with h | h | h <;> rw [h] <;> rfl
 obtain ⟨f0, f1⟩ := rightF_make hr hm
 have fd := (getF_mem h1).2
 have hne : o.dir ≠ o.fid := fun e2 => by rw [e2, h4] at h1; cases h1
 have hkd := (R.kok h1 h2).1
 rw [e]
 have G : ∀ g, getF (setL (setL l (d.kids none 0 (entL d.ks o.nm o.fid))) (newN o)) g = if g = o.fid then some (newN o) else if g = o.dir then some (d.kids none 0 (entL d.ks o.nm o.fid)) else getF l g := fun g => by
   rw [getF_set, getF_set]
   show (if g = o.fid then _ else if g = d.fid then _ else _) = _
   rw [fd]
 have S0 : Srt (setL (setL l (d.kids none 0 (entL d.ks o.nm o.fid))) (newN o)) := srt_set _ (srt_set _ R.srt)
 generalize setL (setL l (d.kids none 0 (entL d.ks o.nm o.fid))) (newN o) = x at *
 constructor
 · have hkk : (bkO o (if o.k = 2 then 6 else 5)).k = if o.k = 2 then 6 else 5 := rfl
   rw [remove_do (l := x) (o := bkO o (if o.k = 2 then 6 else 5)) (d := d.kids none 0 (entL d.ks o.nm o.fid)) (n := newN o) (by show getF x o.dir = _; rw [G, if_neg hne, if_pos rfl]) h2 (by show kq (entL d.ks o.nm o.fid) o.nm = _; rw [kq_ent, if_pos rfl, if_neg f0]; rfl) (by show getF x o.fid = _; rw [G, if_pos rfl]) f0 (by rw [hkk]; split <;> simp) (by
     rw [hkk]
     show _ ↔ (if o.k = 2 then (2 : Int) else if o.k = 3 then 3 else 1) = 2
     by_cases q : o.k = 2
     · simp [q]
     · rw [if_neg q, if_neg q]
       split <;> simp) rfl]
   refine congrArg (Prod.mk (0 : Int)) (srt_ext (srt_less _ (srt_set _ S0)) R.srt (fun g => ?_))
   rw [getF_less, getF_set, G]
   show (if g = o.fid then (if (1 : Int) = 1 then none else _) else if g = d.fid then some ((d.kids none 0 (entL d.ks o.nm o.fid)).kids none 0 (entL (d.kids none 0 (entL d.ks o.nm o.fid)).ks o.nm 0)) else _) = _
   by_cases q1 : g = o.fid
   · rw [if_pos q1, if_pos rfl, q1, h4]
   · rw [if_neg q1, if_neg q1]
     by_cases q2 : g = o.dir
     · rw [if_pos (by rw [fd]; exact q2), kids_back (E.get h1) hkd f0 h3, q2, h1]
     · rw [if_neg (by rw [fd]; exact q2), if_neg q2]
 · intro e2
   have := G o.fid
   rw [if_pos rfl, e2, h4] at this
   cases this
theorem undo_hard {l : List Nd} (R : Rt l) (E : Er l) {o : Rec} (hr : rightF o = true) (hk : o.k = 4) (h : (hardL l o).1 = 0) : removeL (hardL l o).2 (bkO o 5) = (0, l) ∧ (hardL l o).2 ≠ l := by
 obtain ⟨d, n, n1, n2, h1, h2, h3, h6, e⟩ := hard_ok R h
 have fd := (getF_mem h1).2
 have fn := (getF_mem n1).2
 have hne : o.dir ≠ o.fid := fun e2 => by rw [e2, n1] at h1; cases h1; exact n2 h2
 have hkd := (R.kok h1 h2).1
 obtain ⟨⟨f0, _, _, nk⟩, fp, _⟩ := R.at n1
 have n0 : o.fid ≠ 0 := by omega
 have nks : n.ks = [] := by
   rcases nk with ⟨_, b⟩ | ⟨b, _⟩
   · exact b
   · exact absurd b n2
 have n11 : o.fid ≠ 1 := fun e2 => by
   obtain ⟨r, r1, r2, _⟩ := R.root
   rw [e2, r1] at n1
   cases n1
   exact n2 r2
 have lk := R.links n1 n11
 have hl1 : n.ln + 1 ≠ 1 := by omega
 rw [e]
 have G : ∀ g, getF (setL (setL l (d.kids none 0 (entL d.ks o.nm o.fid))) (n.lnk (n.ln + 1))) g = if g = o.fid then some (n.lnk (n.ln + 1)) else if g = o.dir then some (d.kids none 0 (entL d.ks o.nm o.fid)) else getF l g := fun g => by
   rw [getF_set, getF_set]
   show (if g = n.fid then _ else if g = d.fid then _ else _) = _
   rw [fd, fn]
 have S0 : Srt (setL (setL l (d.kids none 0 (entL d.ks o.nm o.fid))) (n.lnk (n.ln + 1))) := srt_set _ (srt_set _ R.srt)
 generalize setL (setL l (d.kids none 0 (entL d.ks o.nm o.fid))) (n.lnk (n.ln + 1)) = x at *
 constructor
 · rw [remove_do (l := x) (o := bkO o 5) (d := d.kids none 0 (entL d.ks o.nm o.fid)) (n := n.lnk (n.ln + 1)) (by show getF x o.dir = _; rw [G, if_neg hne, if_pos rfl]) h2 (by show kq (entL d.ks o.nm o.fid) o.nm = some ⟨o.nm, n.fid⟩; rw [kq_ent, if_pos rfl, if_neg n0, fn]) (by show getF x n.fid = _; rw [G, if_pos fn]) (by show n.fid ≠ 0; rw [fn]; exact n0) (.inl rfl) (by show (5 : Int) = 6 ↔ n.k = 2; constructor; (intro q; cases q); (intro q; exact absurd q n2)) nks]
   refine congrArg (Prod.mk (0 : Int)) (srt_ext (srt_less _ (srt_set _ S0)) R.srt (fun g => ?_))
   rw [getF_less, getF_set, G]
   show (if g = n.fid then (if n.ln + 1 = 1 then none else some ((n.lnk (n.ln + 1)).lnk (n.ln + 1 - 1))) else if g = d.fid then some ((d.kids none 0 (entL d.ks o.nm o.fid)).kids none 0 (entL (d.kids none 0 (entL d.ks o.nm o.fid)).ks o.nm 0)) else _) = _
   by_cases q1 : g = o.fid
   · rw [if_pos (by rw [fn]; exact q1), if_neg hl1, q1, n1]
     show some (n.lnk (n.ln + 1 - 1)) = some n
     rw [Int.add_sub_cancel]
     rfl
   · rw [if_neg (by rw [fn]; exact q1), if_neg q1]
     by_cases q2 : g = o.dir
     · rw [if_pos (by rw [fd]; exact q2), kids_back (E.get h1) hkd n0 h3, q2, h1]
     · rw [if_neg (by rw [fd]; exact q2), if_neg q2]
 · intro e2
   have := G o.fid
   rw [if_pos rfl, e2, n1] at this
   have h9 : n.ln = n.ln + 1 := congrArg Nd.ln (Option.some.inj this)
   omega
theorem undo_all {l : List Nd} (R : Rt l) (E : Er l) {o : Rec} (hw : o.Wf) (hk : o.k = 1 ∨ o.k = 2 ∨ o.k = 3 ∨ o.k = 4) (h : (ApplyL l o).1 = 0) : ApplyL (ApplyL l o).2 (bkO o (if o.k = 2 then 6 else 5)) = (0, l) ∧ (ApplyL l o).2 ≠ l := by
 have RX := ApplyL_rt hw h
 obtain ⟨hr, e⟩ := applyL_of h
 have he : pEnt o.k = true := by rcases hk with h | h | h | h <;> rw [h] <;> rfl
 have hb : rightF (bkO o (if o.k = 2 then 6 else 5)) = true := bk_right hr he (by split <;> simp)
 rw [ApplyL_do RX hb]
 rw [e] at h ⊢
 have hbk : ∀ x, applyL x (bkO o (if o.k = 2 then 6 else 5)) = removeL x (bkO o (if o.k = 2 then 6 else 5)) := fun x => by
   unfold applyL
   have hkk : (bkO o (if o.k = 2 then 6 else 5)).k = if o.k = 2 then 6 else 5 := rfl
   by_cases q : o.k = 2
   · rw [hkk, if_pos q, if_neg (by omega), if_neg (by omega), if_pos (by omega)]
   · rw [hkk, if_neg q, if_neg (by omega), if_neg (by omega), if_pos (by omega)]
 rw [hbk]
 by_cases q : o.k = 4
 · have e4 : applyL l o = hardL l o := by unfold applyL; rw [if_neg (by omega), if_pos q]
   rw [e4] at h ⊢
   have := undo_hard R E hr q h
   rw [if_neg (by omega)]
   exact this
 · have e1 : applyL l o = createL l o := by unfold applyL; rw [if_pos (by omega)]
   rw [e1] at h ⊢
   exact undo_create R E hr (by omega) h
end Go.Proofs.YtloojakcknnilaaGreat
