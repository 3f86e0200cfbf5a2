/-
  
-/
import Derived.Test.YtfmghbennahlfaaGreatCnBh
namespace Go.Proofs.YtfmghbennahlfaaGreat
set_option linter.unusedVariables false
set_option linter.unusedSimpArgs false
theorem Rt.up {l : List Nd} (R : Rt l) {f g : Int} (h : Ed l f g) : upD l g = f := by
 have hR := (rightD_iff l).2 (rightD_rt.2 R)
 obtain ⟨h1, h2, h3, h4, h5, h6⟩ := hR
 have B : Base l := ⟨h1, h2, h3, h4, h5⟩
 exact B.upOf ((edge_ed h2 f g).2 h)
theorem Rt.reach {l : List Nd} (R : Rt l) {g : Int} {d : Nd} (h : getF l g = some d) (hk : d.k = 2) : abN l 1 (l.length + 1) g = true := by
 have hR := (rightD_iff l).2 (rightD_rt.2 R)
 obtain ⟨h1, h2, h3, h4, h5, h6⟩ := hR
 have B : Base l := ⟨h1, h2, h3, h4, h5⟩
 obtain ⟨i, hi, e⟩ := List.getElem_of_mem (getF_mem h).1
 have h7 := (ring_ab B).1 h6 i hi
 rw [getD_at hi, e] at h7
 unfold lkU at h7
 have e2 : (d.k == 2) = true := by rw [hk]; rfl
 rw [e2, (getF_mem h).2] at h7
 simpa using h7
theorem Rt.up1 {l : List Nd} (R : Rt l) : upD l 1 = 0 := by
 by_cases e : upD l 1 = 0
 · exact e
 · obtain ⟨i, hi, _, j, hj, ej⟩ := upK_ne l 1 l.length e
   rw [getD_at hi] at hj ej
   have hm := kgetD hj
   rw [hm] at ej
   exact absurd ej (R.kid _ (List.getElem_mem hi) _ (List.getElem_mem hj)).1
theorem ab_up {l : List Nd} (h1 : upD l 1 = 0) (f : Int) : ∀ (N k : Nat) (g : Int), abN l 1 N g = true → abN l f k g = true → abN l f N g = true
 | 0, _, _, h, _ => by cases h
 | N + 1, 0, _, _, h => by cases h
 | N + 1, k + 1, g, h, h2 => by
   unfold abN at h h2 ⊢
   cases q : (g == f) with
   | true => rfl
   | false =>
     rw [q] at h2
     simp only [cond_false] at h2 ⊢
     cases q2 : (upD l g == 0) with
     | true => rw [q2] at h2; cases h2
     | false =>
       rw [q2] at h h2
       simp only [cond_false] at h h2 ⊢
       cases q3 : (g == 1) with
       | true =>
         have := eq_of_beq q3
         rw [this, h1] at q2
         cases q2
       | false =>
         rw [q3] at h
         exact ab_up h1 f N k _ h h2
theorem Rt.below {l : List Nd} (R : Rt l) {n b : Int} {d : Nd} (hb : getF l b = some d) (hk : d.k = 2) (hno : abN l n (l.length + 1) b ≠ true) :
   ∃ S : Int → Prop, S n ∧ ¬ S b ∧ ∀ f g, Ed l f g → g ≠ n → (S f ↔ S g) := by
 refine ⟨fun g => ∃ k, abN l n k g = true, ⟨1, by simp [abN]⟩, fun ⟨k, h⟩ => hno (ab_up R.up1 n _ k b (R.reach hb hk) h), fun f g hE hne => ?_⟩
 have hu := R.up hE
 have hf0 : f ≠ 0 := by
   obtain ⟨x, d, hx, _⟩ := hE
   have := (R.at hx).2.1
   omega
 constructor
 · rintro ⟨k, h⟩
   refine ⟨k + 1, ?_⟩
   unfold abN
   rw [hu, beq_eq_false_iff_ne.2 hne, beq_eq_false_iff_ne.2 hf0]
   exact h
 · rintro ⟨k, h⟩
   cases k with
   | zero => cases h
   | succ k =>
     unfold abN at h
     rw [hu, beq_eq_false_iff_ne.2 hne, beq_eq_false_iff_ne.2 hf0] at h
     exact ⟨k, h⟩
def Nd.only (x : Nd) : Nd := ⟨x.fid, 0, 0, 0, none, 0, [], none, 0, []⟩
theorem len_same {l m : List Nd} (hl : Srt l) (hm : Srt m) (h : ∀ g, (getF l g).isSome = (getF m g).isSome) : l.length = m.length := by
 have hg : ∀ (l : List Nd) (g : Int), getF (l.map Nd.only) g = (getF l g).map Nd.only := fun l g => by
   unfold getF
   rw [List.find?_map]
   rfl
 have hs : ∀ {l : List Nd}, Srt l → Srt (l.map Nd.only) := fun {l} h => by
   unfold Srt Ris at h ⊢
   rw [List.pairwise_map]
   exact h
 have := srt_ext (hs hl) (hs hm) (fun g => by
   rw [hg, hg]
   have := h g
   cases e1 : getF l g with
   | none =>
     cases e2 : getF m g with
     | none => rfl
     | some y => rw [e1, e2] at this; cases this
   | some x =>
     cases e2 : getF m g with
     | none => rw [e1, e2] at this; cases this
     | some y =>
       have a1 := (getF_mem e1).2
       have a2 := (getF_mem e2).2
       simp only [Option.map_some, Nd.only, a1, a2])
 simpa using congrArg List.length this
theorem getF_less (l : List Nd) (x : Nd) (g : Int) : getF (lessL l x) g = if g = x.fid then (if x.ln = 1 then none else some (x.lnk (x.ln - 1))) else getF l g := by
 unfold lessL
 split
 · rw [getF_out]
 · rw [getF_set]; rfl
theorem srt_less {l : List Nd} (x : Nd) (h : Srt l) : Srt (lessL l x) := by
 unfold lessL
 split
 · exact srt_out _ h
 · exact srt_set _ h
theorem getF_moved (l : List Nd) (o : Rec) (f : Int) (d : List Nd) {a b : Nd} (ha : getF d o.dir = some a) (hb : getF d o.to = some b) (g : Int) :
   getF (movedL l o f d) g = if g = o.to then some (b.kids none 0 (entL (if o.to = o.dir then entL a.ks o.nm 0 else b.ks) o.nm2 f)) else if g = o.dir then some (a.kids none 0 (entL a.ks o.nm 0)) else getF d g := by
 have fa := (getF_mem ha).2
 have fb := (getF_mem hb).2
 unfold movedL
 rw [ha]
 simp only [Option.getD_some]
 have e1 : ∀ g, getF (setL d (a.kids none 0 (entL a.ks o.nm 0))) g = if g = o.dir then some (a.kids none 0 (entL a.ks o.nm 0)) else getF d g := fun g => by
   rw [getF_set]; show (if g = a.fid then _ else _) = _; rw [fa]
 by_cases e : o.to = o.dir
 · have hab : b = a := by rw [e, ha] at hb; exact (Option.some.inj hb).symm
   subst hab
   rw [e1 o.to, if_pos e]
   simp only [Option.getD_some]
   rw [getF_set, if_pos e]
   show (if g = b.fid then _ else _) = _
   rw [fa, e]
   by_cases e2 : g = o.dir
   · rw [if_pos e2, if_pos e2]; rfl
   · rw [if_neg e2, if_neg e2, e1, if_neg e2]
 · rw [e1 o.to, if_neg e, hb]
   simp only [Option.getD_some]
   rw [getF_set, if_neg e]
   show (if g = b.fid then _ else _) = _
   rw [fb]
   by_cases e2 : g = o.to
   · rw [if_pos e2, if_pos e2]
   · rw [if_neg e2, if_neg e2, e1]
theorem srt_moved {l : List Nd} {o : Rec} {f : Int} {d : List Nd} (h : Srt d) : Srt (movedL l o f d) := srt_set _ (srt_set _ h)
theorem rename_ok {l : List Nd} (R : Rt l) {o : Rec} (h : (renameL l o).1 = 0) : (renameL l o).2 = l ∨ ∃ a b n, getF l o.dir = some a ∧ getF l o.to = some b ∧ a.k = 2 ∧ b.k = 2 ∧ getF l n.fid = some n ∧ kq a.ks o.nm = some ⟨o.nm, n.fid⟩ ∧
   (n.k = 2 → abN l n.fid (l.length + 1) o.to ≠ true) ∧
   ((kq b.ks o.nm2 = none ∧ (o.to = o.dir ∨ b.ks.length < 12) ∧ (renameL l o).2 = movedL l o n.fid l) ∨
     ∃ y, kq b.ks o.nm2 = some ⟨o.nm2, y.fid⟩ ∧ getF l y.fid = some y ∧ y.fid ≠ n.fid ∧ y.ks = [] ∧ (renameL l o).2 = movedL l o n.fid (lessL l y)) := by
 unfold renameL at h ⊢
 by_cases c1 : lookE (getF l o.dir) o.nm ≠ 0
 · rw [if_pos c1] at h; exact absurd h c1
 rw [if_neg c1] at h ⊢
 by_cases c2 : dirE (getF l o.to) ≠ 0
 · rw [if_pos c2] at h; exact absurd h c2
 rw [if_neg c2] at h ⊢
 obtain ⟨a1, a2, a3, a4⟩ := lookE_ok (Decidable.not_not.1 c1)
 obtain ⟨b1, b2⟩ := dirE_ok (Decidable.not_not.1 c2)
 generalize (getF l o.dir).getD Nd.no = a at a1 a2 a3 a4
 generalize dirN (getF l o.to) = b at *
 rw [a3] at a4 h ⊢
 have hka := R.kok a1 a2
 have hkb := R.kok b1 b2
 obtain ⟨q, hq, hqs, hqf⟩ : ∃ q, q ∈ a.ks ∧ q.nm = o.nm ∧ kidI a.ks o.nm = q.fid := kidI_mem a4
 have hkq : kq a.ks o.nm = some q := by rw [← hqs]; exact ksrt_get hka.1 hq
 obtain ⟨_, n, hn⟩ := R.kids a1 hq
 have fn := (getF_mem hn).2
 have eq : q = ⟨o.nm, n.fid⟩ := by
   cases q; simp only at hqs fn; rw [hqs, fn]
 rw [hqf, ← fn] at h ⊢
 rw [← fn] at hn
 rw [hn] at h ⊢
 simp only [Option.getD_some] at h ⊢
 by_cases c3 : n.k = 2 ∧ abN l n.fid (l.length + 1) o.to = true
 · rw [if_pos c3] at h; cases h
 rw [if_neg c3] at h ⊢
 by_cases c4 : kidI b.ks o.nm2 = n.fid
 · rw [if_pos c4]; exact .inl rfl
 rw [if_neg c4] at h ⊢
 right
 have hno : n.k = 2 → abN l n.fid (l.length + 1) o.to ≠ true := fun e e2 => c3 ⟨e, e2⟩
 cases hk2 : kq b.ks o.nm2 with
 | none =>
   have e0 : kidI b.ks o.nm2 = 0 := by rw [kidI_kq, hk2]; rfl
   have g0 : getF l 0 = none := by
     cases e : getF l 0 with
     | none => rfl
     | some z => have := (R.at e).2.1; omega
   rw [e0, g0] at h ⊢
   simp only [Option.isSome_none, Bool.false_and, Bool.not_false, Bool.true_and, if_neg (show ¬ (false = true) by decide)] at h ⊢
   by_cases c5 : (o.to != o.dir && decide (12 ≤ b.ks.length)) = true
   · rw [if_pos c5] at h; cases h
   rw [if_neg c5]
   refine ⟨a, b, n, a1, b1, a2, b2, hn, by rw [hkq, eq], hno, .inl ⟨hk2, ?_, rfl⟩⟩
   by_cases e : o.to = o.dir
   · exact .inl e
   · right
     simp only [Bool.and_eq_true, bne_iff_ne, decide_eq_true_eq, not_and] at c5
     have := c5 e
     omega
 | some r =>
   obtain ⟨r1, r2⟩ := kq_some hk2
   obtain ⟨_, y, hy⟩ := R.kids b1 r1
   have fy := (getF_mem hy).2
   have e0 : kidI b.ks o.nm2 = y.fid := by rw [kidI_kq, hk2, fy]; rfl
   rw [← fy] at hy
   rw [e0] at c4
   rw [e0, hy] at h ⊢
   simp only [Option.isSome_some, Option.getD_some, Bool.true_and, Bool.not_true, Bool.false_and, if_neg (show ¬ (false = true) by decide)] at h ⊢
   by_cases c5 : (y.k == 2 && n.k != 2) = true
   · rw [if_pos c5] at h; cases h
   rw [if_neg c5] at h ⊢
   by_cases c6 : (y.k != 2 && n.k == 2) = true
   · rw [if_pos c6] at h; cases h
   rw [if_neg c6] at h ⊢
   by_cases c7 : decide (0 < y.ks.length) = true
   · rw [if_pos c7] at h; cases h
   rw [if_neg c7]
   refine ⟨a, b, n, a1, b1, a2, b2, hn, by rw [hkq, eq], hno, .inr ⟨y, ?_, hy, c4, ?_, rfl⟩⟩
   · rw [hk2]; cases r; simp only at r2 fy; rw [r2, fy]
   · have : ¬ 0 < y.ks.length := by simpa using c7
     exact List.length_eq_zero_iff.1 (by omega)
theorem Rt.rename {l : List Nd} (R : Rt l) {o : Rec} (hs2 : Pa.nameB o.nm2.data.toList = true) (h : (renameL l o).1 = 0) : Rt (renameL l o).2 := by
 rcases rename_ok R h with e | ⟨a, b, n, ha, hb, hak, hbk, hn, hq, hno, h2⟩
 · rw [e]; exact R
 have fa := (getF_mem ha).2
 have fb := (getF_mem hb).2
 have hS : n.k = 2 → ∃ S : Int → Prop, S n.fid ∧ ¬ S b.fid ∧ ∀ f g, Ed l f g → g ≠ n.fid → (S f ↔ S g) := fun e => by
   rw [fb]; exact R.below hb hbk (hno e)
 rcases h2 with ⟨hk2, hroom, e⟩ | ⟨y, hk2, hy, hyn, hyk, e⟩
 · rw [e]
   have hG := getF_moved l o n.fid l ha hb
   have hm := srt_moved (l := l) (o := o) (f := n.fid) R.srt
   rw [← fa, ← fb] at hG
   have hroom2 : b.fid = a.fid ∨ b.ks.length < 12 := by rw [fa, fb]; exact hroom
   rw [← fa] at ha
   rw [← fb] at hb
   refine R.move0 ha hq hn hb hbk hs2 hk2 hroom2 hS _ hm (len_same hm R.srt (fun g => ?_)) _ _ rfl rfl hG
   rw [hG]
   split
   · rename_i e; rw [e, hb]; rfl
   · split
     · rename_i e; rw [e, ha]; rfl
     · rfl
 · rw [e]
   have hb' := hb
   have ha' := ha
   rw [← fb] at hb'
   rw [← fa] at ha'
   have hR0 := R.unlink hb' hk2 hy hyk
   have hqm := (kq_some hq).1
   have hka := R.kok ha hak
   have hkb := R.kok hb hbk
   have hyb : y.fid ≠ b.fid := R.self hb' (kq_some hk2).1
   have hya : y.fid ≠ a.fid := fun e => by
     rw [e, ha'] at hy
     cases hy
     rw [hyk] at hqm
     cases hqm
   have hL0 : ∀ g, getF (lessL (setL l (b.kids none 0 (entL b.ks o.nm2 0))) y) g = if g = y.fid then (if y.ln = 1 then none else some (y.lnk (y.ln - 1))) else if g = b.fid then some (b.kids none 0 (entL b.ks o.nm2 0)) else getF l g := fun g => by
     rw [getF_less, getF_set]; rfl
   have hG := getF_moved l o n.fid (lessL l y) (a := a) (b := b) (by rw [getF_less, if_neg (by rw [← fa]; exact hya.symm)]; exact ha) (by rw [getF_less, if_neg (by rw [← fb]; exact hyb.symm)]; exact hb)
   have hm := srt_moved (l := l) (o := o) (f := n.fid) (srt_less y R.srt)
   rw [← fa, ← fb] at hG
   generalize movedL l o n.fid (lessL l y) = m at hG hm ⊢
   generalize lessL (setL l (b.kids none 0 (entL b.ks o.nm2 0))) y = l0 at hR0 hL0
   have hnm : b.fid = a.fid → o.nm ≠ o.nm2 := fun e1 e2 => by
     rw [e1, ha'] at hb'
     cases hb'
     rw [e2, hk2] at hq
     exact hyn (congrArg Kd.fid (Option.some.inj hq))
   have hnb : n.fid ≠ b.fid ∨ n.fid = b.fid := by omega
   have hnn : ∃ n', getF l0 n.fid = some n' ∧ n'.fid = n.fid ∧ n'.k = n.k := by
     rw [hL0, if_neg hyn.symm]
     by_cases e1 : n.fid = b.fid
     · rw [if_pos e1]
       refine ⟨_, rfl, e1.symm, ?_⟩
       rw [e1, hb'] at hn
       cases hn
       rfl
     · rw [if_neg e1]; exact ⟨n, hn, rfl, rfl⟩
   obtain ⟨n', hn', fn', kn'⟩ := hnn
   have hedge : ∀ f g, Ed l0 f g → Ed l f g := fun f g hE => ed_mono (fun f x hx q hqx => by
     rw [hL0] at hx
     by_cases e1 : f = y.fid
     · rw [if_pos e1] at hx
       exfalso
       split at hx
       · cases hx
       · cases hx
         rw [show (y.lnk (y.ln - 1)).ks = y.ks from rfl, hyk] at hqx
         cases hqx
     · rw [if_neg e1] at hx
       by_cases e2 : f = b.fid
       · rw [if_pos e2] at hx
         cases hx
         rw [show (b.kids none 0 (entL b.ks o.nm2 0)).ks = entL b.ks o.nm2 0 from rfl, entL_zero, List.mem_filter] at hqx
         exact ⟨b, by rw [e2]; exact hb', q, hqx.1, rfl⟩
       · rw [if_neg e2] at hx
         exact ⟨x, hx, q, hqx, rfl⟩) (fun g d hd hk => by
     rw [hL0] at hd
     by_cases e1 : g = y.fid
     · rw [if_pos e1] at hd
       split at hd
       · cases hd
       · cases hd
         exact ⟨y, by rw [e1]; exact hy, hk⟩
     · rw [if_neg e1] at hd
       by_cases e2 : g = b.fid
       · rw [if_pos e2] at hd
         cases hd
         exact ⟨b, by rw [e2]; exact hb', hbk⟩
       · rw [if_neg e2] at hd
         exact ⟨d, hd, hk⟩) hE
   have hS0 : n'.k = 2 → ∃ S : Int → Prop, S n'.fid ∧ ¬ S b.fid ∧ ∀ f g, Ed l0 f g → g ≠ n'.fid → (S f ↔ S g) := fun e => by
     obtain ⟨S, s1, s2, s3⟩ := hS (by rw [← kn']; exact e)
     rw [fn']
     exact ⟨S, s1, s2, fun f g hE => s3 f g (hedge f g hE)⟩
   have hb0 : getF l0 b.fid = some (b.kids none 0 (entL b.ks o.nm2 0)) := by rw [hL0, if_neg hyb.symm, if_pos rfl]
   have hlen : (entL b.ks o.nm2 0).length + 1 = b.ks.length := by
     have := klen_ent o.nm2 0 hkb.1
     rw [hk2] at this
     simpa [Option.elim] using this
   have h12 := (R.at hb).1.2.2.1
   have hsome : ∀ g, (getF m g).isSome = (getF l0 g).isSome := fun g => by
     rw [hG, hL0]
     by_cases e1 : g = b.fid
     · subst e1
       rw [if_pos rfl, if_neg hyb.symm, if_pos rfl]; rfl
     · rw [if_neg e1, if_neg e1]
       by_cases e2 : g = a.fid
       · rw [if_pos e2, if_neg (by rw [e2]; exact hya.symm), e2, ha']; rfl
       · rw [if_neg e2, getF_less]
   have hn0 : n.fid ≠ 0 := by have := (R.at hn).2.1; omega
   by_cases eab : b.fid = a.fid
   · have hab : a = b := by rw [eab, ha'] at hb'; exact Option.some.inj hb'
     subst hab
     have hq0 : kq (a.kids none 0 (entL a.ks o.nm2 0)).ks o.nm = some ⟨o.nm, n'.fid⟩ := by
       show kq (entL a.ks o.nm2 0) o.nm = _
       rw [kq_ent, if_neg (hnm rfl), hq, fn']
     refine hR0.move0 (a := a.kids none 0 (entL a.ks o.nm2 0)) (b := a.kids none 0 (entL a.ks o.nm2 0)) hb0 hq0 (by rw [fn']; exact hn') hb0 hak hs2 (by show kq (entL a.ks o.nm2 0) o.nm2 = none; rw [kq_ent, if_pos rfl, if_pos rfl]) (.inl rfl) hS0 m hm (len_same hm hR0.srt hsome) _ _ rfl rfl (fun g => ?_)
     rw [hG, fn']
     show _ = if g = a.fid then some (a.kids none 0 (entL (if a.fid = a.fid then entL (entL a.ks o.nm2 0) o.nm 0 else entL a.ks o.nm2 0) o.nm2 n.fid)) else if g = a.fid then _ else _
     rw [if_pos rfl, if_pos rfl]
     have : entL (entL a.ks o.nm 0) o.nm2 n.fid = entL (entL (entL a.ks o.nm2 0) o.nm 0) o.nm2 n.fid := ksrt_ext (ksrt_ent _ _ (ksrt_ent _ _ hka.1)) (ksrt_ent _ _ (ksrt_ent _ _ (ksrt_ent _ _ hka.1))) (fun s => by
       simp only [kq_ent]
       by_cases e1 : s = o.nm2
       · rw [if_pos e1, if_pos e1]
       · rw [if_neg e1, if_neg e1, if_neg e1])
     rw [this]
     by_cases e1 : g = a.fid
     · rw [if_pos e1, if_pos e1]
     · rw [if_neg e1, if_neg e1, if_neg e1, if_neg e1, getF_less, hL0, if_neg e1]
   · have ha0 : getF l0 a.fid = some a := by rw [hL0, if_neg hya.symm, if_neg (fun e => eab e.symm)]; exact ha'
     refine hR0.move0 (a := a) (b := b.kids none 0 (entL b.ks o.nm2 0)) ha0 (by rw [fn']; exact hq) (by rw [fn']; exact hn') hb0 hbk hs2 (by show kq (entL b.ks o.nm2 0) o.nm2 = none; rw [kq_ent, if_pos rfl, if_pos rfl]) (.inr (by show (entL b.ks o.nm2 0).length < 12; omega)) hS0 m hm (len_same hm hR0.srt hsome) _ _ rfl rfl (fun g => ?_)
     rw [hG, fn']
     show _ = if g = b.fid then some (b.kids none 0 (entL (if b.fid = a.fid then entL a.ks o.nm 0 else entL b.ks o.nm2 0) o.nm2 n.fid)) else if g = a.fid then _ else _
     rw [if_neg eab, if_neg eab]
     have : entL b.ks o.nm2 n.fid = entL (entL b.ks o.nm2 0) o.nm2 n.fid := ksrt_ext (ksrt_ent _ _ hkb.1) (ksrt_ent _ _ (ksrt_ent _ _ hkb.1)) (fun s => by
       simp only [kq_ent]
       by_cases e1 : s = o.nm2
       · rw [if_pos e1, if_pos e1]
       · rw [if_neg e1, if_neg e1, if_neg e1])
     rw [this]
     by_cases e1 : g = b.fid
     · rw [if_pos e1, if_pos e1]
     · rw [if_neg e1, if_neg e1]
       by_cases e2 : g = a.fid
       · rw [if_pos e2, if_pos e2]
       · rw [if_neg e2, if_neg e2, getF_less, hL0, if_neg e1]
theorem rightF_ent {o : Rec} (h : rightF o = true) (hk : pEnt o.k = true) : Pa.nameB o.nm.data.toList = true := by
 unfold rightF at h
 rw [hk] at h
 simp only [Bool.and_eq_true, entF, if_pos] at h
 exact h.2.1.1.1.2
theorem rightF_goal {o : Rec} (h : rightF o = true) (hk : pGoal o.k = true) : Pa.nameB o.nm2.data.toList = true := by
 unfold rightF at h
 rw [hk] at h
 simp only [Bool.and_eq_true, entF, if_pos] at h
 exact h.2.1.1.2.2
theorem rightF_make {o : Rec} (h : rightF o = true) (hk : mkF o.k = true) : o.fid ≠ 0 ∧ o.fid ≠ 1 := by
 unfold rightF at h
 have hp : pFid o.k = true := by
   simp only [mkF, pFid, Bool.or_eq_true] at hk ⊢
   rcases hk with (h | h) | h <;> simp [h]
 rw [hk, hp] at h
 simp only [Bool.and_eq_true, Bool.not_eq_true', Bool.or_eq_false_iff, Bool.true_and, beq_eq_false_iff_ne, bne_eq_false_iff_eq] at h
 obtain ⟨⟨⟨_, h1⟩, h2⟩, _⟩ := h
 refine ⟨?_, h2⟩
 have := h1.symm
 simpa using this
theorem create_ok {l : List Nd} (R : Rt l) {o : Rec} (h : (createL l o).1 = 0) : ∃ d, getF l o.dir = some d ∧ d.k = 2 ∧ kq d.ks o.nm = none ∧ getF l o.fid = none ∧ l.length < 40 ∧ d.ks.length < 12 ∧ (createL l o).2 = setL (setL l (d.kids none 0 (entL d.ks o.nm o.fid))) (newN o) := by
 unfold createL at h ⊢
 by_cases c1 : dirE (getF l o.dir) ≠ 0
 · rw [if_pos c1] at h; exact absurd h c1
 rw [if_neg c1] at h ⊢
 obtain ⟨b1, b2⟩ := dirE_ok (Decidable.not_not.1 c1)
 generalize dirN (getF l o.dir) = d at *
 by_cases c2 : kidI d.ks o.nm ≠ 0 ∨ (getF l o.fid).isSome = true
 · rw [if_pos c2] at h; cases h
 rw [if_neg c2] at h ⊢
 by_cases c3 : 40 ≤ l.length ∨ 12 ≤ d.ks.length
 · rw [if_pos c3] at h; cases h
 rw [if_neg c3]
 have hk := R.kok b1 b2
 refine ⟨d, b1, b2, (kq_none_iff (fun q hq => (hk.2 q hq).2) o.nm).1 (by simpa using fun e => c2 (.inl e)), ?_, by omega, by omega, rfl⟩
 cases e : getF l o.fid with
 | none => rfl
 | some x => exact absurd (.inr (by rw [e]; rfl)) c2
theorem Rt.create {l : List Nd} (R : Rt l) {o : Rec} (hr : rightF o = true) (hw : o.Wf) (hk : o.k = 1 ∨ o.k = 2 ∨ o.k = 3) (h : (createL l o).1 = 0) : Rt (createL l o).2 := by
 obtain ⟨d, h1, h2, h3, h4, h5, h6, e⟩ := create_ok R h
 rw [e]
 have hm : mkF o.k = true := by rcases hk with h | h | h <;> rw [h] <;> rfl
 have hp : pEnt o.k = true := by rcases hk with h | h | h <;> rw [h] <;> rfl
 obtain ⟨f0, f1⟩ := rightF_make hr hm
 have fd := (getF_mem h1).2
 rw [← fd] at h1
 have hpos : 0 < o.fid := by have := hw.2.1.1; omega
 have := R.make (n := newN o) (s := o.nm) h1 h2 h3 (rightF_ent hr hp) h6 h5 ?_ h4 f1 hpos rfl rfl
 · exact this
 · refine ⟨f0, ?_, Nat.zero_le _, ?_⟩
   · show (if o.k = 3 then txB o.dt else []).length ≤ 64
     split
     · rw [txB_len]; exact rightF_dt hr
     · exact Nat.zero_le _
   · show (((if o.k = 2 then (2 : Int) else if o.k = 3 then 3 else 1) = 1 ∨ (if o.k = 2 then (2 : Int) else if o.k = 3 then 3 else 1) = 3) ∧ ([] : List Kd) = []) ∨ ((if o.k = 2 then (2 : Int) else if o.k = 3 then 3 else 1) = 2 ∧ (if o.k = 3 then txB o.dt else []) = [] ∧ KOk [])
     rcases hk with h | h | h
     · left; rw [h]; exact ⟨.inl rfl, rfl⟩
     · right; rw [h]; exact ⟨rfl, rfl, List.Pairwise.nil, fun q hq => by cases hq⟩
     · left; rw [h]; exact ⟨.inr rfl, rfl⟩
theorem hard_ok {l : List Nd} (R : Rt l) {o : Rec} (h : (hardL l o).1 = 0) : ∃ d n, getF l o.fid = some n ∧ n.k ≠ 2 ∧ getF l o.dir = some d ∧ d.k = 2 ∧ kq d.ks o.nm = none ∧ d.ks.length < 12 ∧ (hardL l o).2 = setL (setL l (d.kids none 0 (entL d.ks o.nm o.fid))) (n.lnk (n.ln + 1)) := by
 unfold hardL at h ⊢
 cases hn : getF l o.fid with
 | none => rw [hn] at h; cases h
 | some n =>
   rw [hn] at h
   simp only [Option.isSome_some, Option.getD_some, if_neg (show ¬ (true = false) by decide)] at h ⊢
   by_cases c0 : n.k = 2
   · rw [if_pos c0] at h; cases h
   rw [if_neg c0] at h ⊢
   by_cases c1 : dirE (getF l o.dir) ≠ 0
   · rw [if_pos c1] at h; exact absurd h c1
   rw [if_neg c1] at h ⊢
   obtain ⟨b1, b2⟩ := dirE_ok (Decidable.not_not.1 c1)
   generalize dirN (getF l o.dir) = d at *
   by_cases c2 : kidI d.ks o.nm ≠ 0
   · rw [if_pos c2] at h; cases h
   rw [if_neg c2] at h ⊢
   by_cases c3 : 12 ≤ d.ks.length
   · rw [if_pos c3] at h; cases h
   rw [if_neg c3]
   have hk := R.kok b1 b2
   exact ⟨d, n, rfl, c0, b1, b2, (kq_none_iff (fun q hq => (hk.2 q hq).2) o.nm).1 (Decidable.not_not.1 c2), by omega, rfl⟩
theorem Rt.hard {l : List Nd} (R : Rt l) {o : Rec} (hr : rightF o = true) (hk : o.k = 4) (h : (hardL l o).1 = 0) : Rt (hardL l o).2 := by
 obtain ⟨d, n, h1, h2, h3, h4, h5, h6, e⟩ := hard_ok R h
 rw [e]
 have fd := (getF_mem h3).2
 have fn := (getF_mem h1).2
 rw [← fd] at h3
 rw [← fn] at h1 ⊢
 exact R.link h3 h4 h5 (rightF_ent hr (by rw [hk]; rfl)) h6 h1 h2
theorem remove_ok {l : List Nd} (R : Rt l) {o : Rec} (hk : o.k = 5 ∨ o.k = 6) (h : (removeL l o).1 = 0) : ∃ d n, getF l o.dir = some d ∧ d.k = 2 ∧ kq d.ks o.nm = some ⟨o.nm, n.fid⟩ ∧ getF l n.fid = some n ∧ (o.k = 6 ↔ n.k = 2) ∧ n.ks = [] ∧ (removeL l o).2 = lessL (setL l (d.kids none 0 (entL d.ks o.nm 0))) n := by
 unfold removeL at h ⊢
 by_cases c1 : lookE (getF l o.dir) o.nm ≠ 0
 · rw [if_pos c1] at h; exact absurd h c1
 rw [if_neg c1] at h ⊢
 obtain ⟨a1, a2, a3, a4⟩ := lookE_ok (Decidable.not_not.1 c1)
 generalize (getF l o.dir).getD Nd.no = a at a1 a2 a3 a4 h ⊢
 rw [a3] at a4 h ⊢
 have hka := R.kok a1 a2
 obtain ⟨q, hq, hqs, hqf⟩ : ∃ q, q ∈ a.ks ∧ q.nm = o.nm ∧ kidI a.ks o.nm = q.fid := kidI_mem a4
 have hkq : kq a.ks o.nm = some q := by rw [← hqs]; exact ksrt_get hka.1 hq
 obtain ⟨_, n, hn⟩ := R.kids a1 hq
 have fn := (getF_mem hn).2
 have eq : q = ⟨o.nm, n.fid⟩ := by
   cases q; simp only at hqs fn; rw [hqs, fn]
 rw [hqf, hn] at h ⊢
 simp only [Option.getD_some] at h ⊢
 by_cases c2 : o.k = 5 ∧ n.k = 2
 · rw [if_pos c2] at h; cases h
 rw [if_neg c2] at h ⊢
 by_cases c3 : o.k = 6 ∧ n.k ≠ 2
 · rw [if_pos c3] at h; cases h
 rw [if_neg c3] at h ⊢
 by_cases c4 : o.k = 6 ∧ 0 < n.ks.length
 · rw [if_pos c4] at h; cases h
 rw [if_neg c4]
 refine ⟨a, n, a1, a2, by rw [hkq, eq], by rw [fn]; exact hn, ?_, ?_, rfl⟩
 · constructor
   · intro e; exact Decidable.not_not.1 (fun e2 => c3 ⟨e, e2⟩)
   · intro e; rcases hk with h5 | h6
     · exact absurd ⟨h5, e⟩ c2
     · exact h6
 · rcases hk with h5 | h6
   · obtain ⟨⟨_, _, _, b⟩, _⟩ := R.at hn
     rcases b with b | b
     · exact b.2
     · exact absurd ⟨h5, b.1⟩ c2
   · exact List.length_eq_zero_iff.1 (by have : ¬ 0 < n.ks.length := fun e => c4 ⟨h6, e⟩
                                         omega)
theorem Rt.remove {l : List Nd} (R : Rt l) {o : Rec} (hk : o.k = 5 ∨ o.k = 6) (h : (removeL l o).1 = 0) : Rt (removeL l o).2 := by
 obtain ⟨d, n, h1, h2, h3, h4, _, h5, e⟩ := remove_ok R hk h
 rw [e]
 rw [← (getF_mem h1).2] at h1
 exact R.unlink h1 h3 h4 h5
def Nd.wr (n : Nd) (o : Rec) : Nd := if o.k = 9 then ⟨n.fid, n.k, o.md, n.ln, none, 0, n.zs, none, 0, n.ks⟩ else ⟨n.fid, n.k, n.md, n.ln, none, 0, txB o.dt, none, 0, n.ks⟩
theorem write_ok {l : List Nd} {o : Rec} (h : (writeL l o).1 = 0) : ∃ n, getF l o.fid = some n ∧ (o.k = 9 ∨ (n.k ≠ 2 ∧ n.k ≠ 3)) ∧ (writeL l o).2 = setL l (n.wr o) := by
 unfold writeL at h ⊢
 cases hn : getF l o.fid with
 | none => rw [hn] at h; cases h
 | some n =>
   rw [hn] at h
   simp only [Option.isSome_some, Option.getD_some, if_neg (show ¬ (true = false) by decide)] at h ⊢
   by_cases c0 : o.k = 9
   · rw [if_pos c0]; exact ⟨n, rfl, .inl c0, by unfold Nd.wr; rw [if_pos c0]⟩
   rw [if_neg c0] at h ⊢
   by_cases c1 : n.k = 2
   · rw [if_pos c1] at h; cases h
   rw [if_neg c1] at h ⊢
   by_cases c2 : n.k = 3
   · rw [if_pos c2] at h; cases h
   rw [if_neg c2]
   exact ⟨n, rfl, .inr ⟨c1, c2⟩, by unfold Nd.wr; rw [if_neg c0]⟩
theorem Rt.writes {l : List Nd} (R : Rt l) {o : Rec} (hr : rightF o = true) (h : (writeL l o).1 = 0) : Rt (writeL l o).2 := by
 obtain ⟨n, h1, h2, e⟩ := write_ok h
 rw [e]
 have fn := (getF_mem h1).2
 obtain ⟨⟨a1, a2, a3, a4⟩, _⟩ := R.at h1
 rw [← fn] at h1
 unfold Nd.wr
 split
 · exact R.write h1 rfl rfl rfl rfl ⟨a1, a2, a3, a4⟩
 · rename_i c0
   refine R.write h1 rfl rfl rfl rfl ⟨a1, by show (txB o.dt).length ≤ 64; rw [txB_len]; exact rightF_dt hr, a3, ?_⟩
   rcases a4 with a4 | a4
   · exact .inl a4
   · rcases h2 with h2 | h2
     · exact absurd h2 c0
     · exact absurd a4.1 h2.1
theorem Rt.apply {l : List Nd} (R : Rt l) {o : Rec} (hr : rightF o = true) (hw : o.Wf) (h : (applyL l o).1 = 0) : Rt (applyL l o).2 := by
 unfold applyL at h ⊢
 split
 · rename_i c; rw [if_pos c] at h; exact R.create hr hw c h
 · rename_i c; rw [if_neg c] at h
   split
   · rename_i c; rw [if_pos c] at h; exact R.hard hr c h
   · rename_i c; rw [if_neg c] at h
     split
     · rename_i c; rw [if_pos c] at h; exact R.remove c h
     · rename_i c; rw [if_neg c] at h
       split
       · rename_i c; rw [if_pos c] at h; exact R.rename (rightF_goal hr (by rw [c]; rfl)) h
       · rename_i c; rw [if_neg c] at h; exact R.writes hr h
theorem ApplyL_rt {l : List Nd} {o : Rec} (hw : o.Wf) (h : (ApplyL l o).1 = 0) : Rt (ApplyL l o).2 := by
 unfold ApplyL at h ⊢
 split
 · rename_i c
   rw [if_pos c] at h
   rw [Bool.and_eq_true] at c
   exact (rightD_rt.1 c.1).apply c.2 hw h
 · rename_i c; rw [if_neg c] at h; cases h
end Go.Proofs.YtfmghbennahlfaaGreat
namespace Go.Proofs.YtfmghbennahlfaaGreat
set_option linter.unusedVariables false
set_option linter.unusedSimpArgs false
structure Hl (f d : Int) (s : ByteArray) (k : Int) (l : List Nd) : Prop where
 nd : ∃ n, getF l f = some n ∧ n.k = k ∧ n.ks = [] ∧ n.ln = 1
 en : ∃ x, getF l d = some x ∧ kq x.ks s = some ⟨s, f⟩
section
variable {f d : Int} {s : ByteArray} {k : Int} {l : List Nd}
theorem Hl.out (h : Hl f d s k l) {g : Int} (h1 : g ≠ f) (h2 : g ≠ d) : Hl f d s k (outL l g) := by
 obtain ⟨x, h3, h4⟩ := h.en
 obtain ⟨m, h5, h6⟩ := h.nd
 exact ⟨⟨m, by rw [getF_out, if_neg h1.symm]; exact h5, h6⟩, ⟨x, by rw [getF_out, if_neg h2.symm]; exact h3, h4⟩⟩
end
theorem kidI_no {l : List Kd} {s : ByteArray} (h : kq l s = none) : kidI l s = 0 := by rw [kidI_kq, h]; rfl
theorem dir_of {o : Option Nd} {x : Nd} (h : o = some x) (hk : x.k = 2) : dirE o = 0 ∧ dirN o = x := by
 subst h
 simp [dirE, dirN, hk]
theorem create_do {l : List Nd} {o : Rec} {d : Nd} (h1 : getF l o.dir = some d) (h2 : d.k = 2) (h3 : kq d.ks o.nm = none) (h4 : getF l o.fid = none) (h5 : l.length < 40) (h6 : d.ks.length < 12) :
   createL l o = (0, setL (setL l (d.kids none 0 (entL d.ks o.nm o.fid))) (newN o)) := by
 obtain ⟨e1, e2⟩ := dir_of h1 h2
 unfold createL
 rw [e1, e2, kidI_no h3, h4]
 have c3 : ¬ (40 ≤ l.length ∨ 12 ≤ d.ks.length) := by omega
 simp [c3]
end Go.Proofs.YtfmghbennahlfaaGreat
namespace Go.Proofs.YtfmghbennahlfaaGreat
set_option linter.unusedVariables false
set_option linter.unusedSimpArgs false
section
variable {f d : Int} {s : ByteArray} {k : Int} {l : List Nd}
end
end Go.Proofs.YtfmghbennahlfaaGreat
namespace Go.Proofs.YtfmghbennahlfaaGreat
set_option linter.unusedVariables false
set_option linter.unusedSimpArgs false
section
variable {c f : Int} {l m : List Nd}
end
theorem ApplyL_of {l : List Nd} {o : Rec} (R : Rt l) (h : rightF o = true) : ApplyL l o = applyL l o := by
 unfold ApplyL
 rw [rightD_rt.2 R, h]
 rfl
end Go.Proofs.YtfmghbennahlfaaGreat
