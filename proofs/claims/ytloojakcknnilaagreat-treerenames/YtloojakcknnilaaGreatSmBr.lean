/-
  What is renamed and renamed back is as it was, if nothing stood there.
-/
import Derived.Test.YtloojakcknnilaaGreatSmBn
namespace Go.Proofs.YtloojakcknnilaaGreat
set_option linter.unusedVariables false
set_option linter.unusedSimpArgs false
def rnO (o : Rec) : Rec := ⟨7, 0, o.dir, o.nm, o.to, o.nm2, 0, ⟨#[]⟩, o.sn⟩
def rbO (o : Rec) : Rec := ⟨7, 0, o.to, o.nm2, o.dir, o.nm, 0, ⟨#[]⟩, 0⟩
theorem rb_right {o : Rec} (hk : o.k = 7) (hr : rightF o = true) : rightF (rbO o) = true := by
 unfold rightF at hr
 rw [hk] at hr
 simp only [show pEnt 7 = true by decide, show pGoal 7 = true by decide, Bool.and_eq_true] at hr
 have h1 := hr.2.1.1.1
 have h2 := hr.2.1.1.2
 have e0 : (⟨#[]⟩ : ByteArray).toList = [] := by rw [Lib.toList_data]
 unfold rightF rbO
 simp only [show pEnt 7 = true by decide, h1, h2, show pOk 7 = true by decide, show pFid 7 = false by decide, show mkF 7 = false by decide, show pGoal 7 = true by decide, show pData 7 = false by decide]
 simp [datF, e0]
theorem rn_wf {o : Rec} (hw : o.Wf) : (rnO o).Wf := by
 obtain ⟨h1, h2, h3, h4, h5, h6, h7, h8, h9⟩ := hw
 exact ⟨⟨by show (0 : Int) ≤ 7; omega, by show (7 : Int) < 256; omega⟩, ⟨by show (0 : Int) ≤ 0; omega, by show (0 : Int) < _; omega⟩, h3, h4, ⟨by show (0 : Int) ≤ 0; omega, by show (0 : Int) < _; omega⟩, h6, h7, h8, by show 0 ≤ _; exact Nat.zero_le _⟩
theorem rb_wf {o : Rec} (hw : o.Wf) : (rbO o).Wf := by
 obtain ⟨h1, h2, h3, h4, h5, h6, h7, h8, h9⟩ := hw
 exact ⟨⟨by show (0 : Int) ≤ 7; omega, by show (7 : Int) < 256; omega⟩, ⟨by show (0 : Int) ≤ 0; omega, by show (0 : Int) < _; omega⟩, h4, h3, ⟨by show (0 : Int) ≤ 0; omega, by show (0 : Int) < _; omega⟩, ⟨by show (0 : Int) ≤ 0; omega, by show (0 : Int) < _; omega⟩, h8, h7, by show 0 ≤ _; exact Nat.zero_le _⟩
theorem kids_self {d : Nd} (he : d.er = d) {K : List Kd} (hK : K = d.ks) : d.kids none 0 K = d := by
 obtain ⟨e2, e3⟩ := er_ka he
 obtain ⟨a1, a2, a3, a4, a5, a6, a7, a8, a9, a10⟩ := d
 simp only at e2 e3 hK
 subst e2 e3 hK
 rfl
theorem ent_mem {K : List Kd} (hk : KSrt K) {s : ByteArray} {f : Int} {q : Kd} (h : q ∈ entL K s f) (hf : q.fid ≠ f) : q ∈ K := by
 have h1 := (mem_kq (ksrt_ent s f hk)).1 h
 rw [kq_ent] at h1
 by_cases e : q.nm = s
 · rw [if_pos e] at h1
   split at h1
   · cases h1
   · exact absurd (congrArg Kd.fid (Option.some.inj h1)).symm hf
 · rw [if_neg e] at h1
   exact (kq_some h1).1
theorem ent_mem0 {K : List Kd} (hk : KSrt K) {s : ByteArray} {q : Kd} (h : q ∈ entL K s 0) : q ∈ K := by
 have h1 := (mem_kq (ksrt_ent s 0 hk)).1 h
 rw [kq_ent] at h1
 by_cases e : q.nm = s
 · rw [if_pos e, if_pos rfl] at h1
   cases h1
 · rw [if_neg e] at h1
   exact (kq_some h1).1
theorem rank_up {l X : List Nd} (RX : Rt X) {n : Int} {r : Int → Nat} (hE : ∀ f g, Ed X f g → g ≠ n → r f < r g) : ∀ (k : Nat) (g : Int), (∃ d, getF X g = some d ∧ d.k = 2) → abN X n k g = true → r n ≤ r g
 | 0, _, _, h => by cases h
 | k + 1, g, hd, h => by
   unfold abN at h
   cases q : (g == n) with
   | true => rw [eq_of_beq q]; exact Nat.le_refl _
   | false =>
     rw [q] at h
     simp only [cond_false] at h
     have hne : g ≠ 1 := fun e => by
       rw [e, RX.up1] at h
       cases h
     obtain ⟨d, hd1, hd2⟩ := hd
     have hc := (RX.links hd1 hne).1
     obtain ⟨x, hx, hx2⟩ := wsm_ex (ω := cN g) (l := X) (by show 0 < cT g X; omega)
     obtain ⟨p, hp, hp2⟩ := wsm_ex (ω := fun q : Kd => if q.fid = g then 1 else 0) (l := x.ks) hx2
     have e1 : p.fid = g := by
       by_cases e : p.fid = g
       · exact e
       · simp [e] at hp2
     have hgx := srt_get RX.srt hx
     have hed : Ed X x.fid g := ⟨x, d, hgx, ⟨p, hp, e1⟩, hd1, hd2⟩
     have hu := RX.up hed
     rw [hu] at h
     have hlt := hE _ _ hed (fun e => by rw [e] at q; simp at q)
     cases q2 : (x.fid == 0) with
     | true => rw [q2] at h; cases h
     | false =>
       rw [q2] at h
       simp only [cond_false] at h
       have := rank_up (l := l) RX hE k x.fid ⟨x, hgx, RX.isdir hgx hp⟩ h
       omega
theorem ren_back {l : List Nd} (R : Rt l) (E : Er l) {o : Rec} (hw : o.Wf) (hk : o.k = 7) (h : (ApplyL l o).1 = 0) (hno2 : plkE (getF l o.to) o.nm2 ≠ 0) : ApplyL (ApplyL l o).2 (rbO o) = (0, l) := by
 have RX := ApplyL_rt hw h
 obtain ⟨hr, e⟩ := applyL_of h
 rw [ApplyL_do RX (rb_right hk hr)]
 have ap : ∀ (x : List Nd) (p : Rec), p.k = 7 → applyL x p = renameL x p := fun x p hp => by
   unfold applyL
   rw [if_neg (by omega), if_neg (by omega), if_neg (by omega), if_pos hp]
 rw [e, ap l o hk] at h RX ⊢
 rw [ap _ (rbO o) rfl]
 obtain ⟨a, b, n, ha, hb, hak, hbk, hn, hq, hnl, hh⟩ := rename_how R h
 have hkn : kq b.ks o.nm2 = none := by
   rw [hb] at hno2
   unfold plkE at hno2
   simp only [if_pos hbk] at hno2
   cases q : kq b.ks o.nm2 with
   | none => rfl
   | some z => rw [q] at hno2; exact absurd rfl hno2
 rcases hh with ⟨_, room, e3⟩ | ⟨h2, _⟩ | ⟨y, h2, _⟩
 · rw [e3] at RX ⊢
   have fa := (getF_mem ha).2
   have fb := (getF_mem hb).2
   have ka := (R.kok ha hak).1
   have kb := (R.kok hb hbk).1
   have n0 : n.fid ≠ 0 := by have := (R.at hn).2.1; omega
   have nqa : ⟨o.nm, n.fid⟩ ∈ a.ks := (kq_some hq).1
   have nda : n.fid ≠ o.dir := by have := R.self (d := a) (by rw [fa]; exact ha) nqa; rw [fa] at this; exact this
   have ndb : n.fid ≠ o.to := fun e4 => by
     have hbn : b = n := by rw [e4, hb] at hn; exact Option.some.inj hn
     have h5 := hnl (by rw [← hbn]; exact hbk)
     rw [e4] at h5
     exact h5 (by unfold abN; simp)
   have G := getF_moved l o n.fid l ha hb
   have SX : Srt (movedL l o n.fid l) := RX.srt
   generalize movedL l o n.fid l = X at *
   by_cases td : o.to = o.dir
   · have hab : b = a := by rw [td, ha] at hb; exact (Option.some.inj hb).symm
     subst hab
     have nn : o.nm ≠ o.nm2 := fun e4 => by rw [← e4, hq] at hkn; cases hkn
     simp only [if_pos td] at G
     have gB : getF X o.to = some (b.kids none 0 (entL (entL b.ks o.nm 0) o.nm2 n.fid)) := by rw [G, if_pos rfl]
     have hE : ∀ r : Int → Nat, (∀ f g, Ed l f g → r f < r g) → ∀ f g, Ed X f g → g ≠ n.fid → r f < r g := fun r hr f g hed hgn => by
       obtain ⟨x, d, h1, ⟨q, h2, h3⟩, h4, h5⟩ := hed
       apply hr
       have hg : ∃ d, getF l g = some d ∧ d.k = 2 := by
         rw [G] at h4
         by_cases q1 : g = o.to
         · exact ⟨b, by rw [q1]; exact hb, hbk⟩
         · rw [if_neg q1, if_neg (by rw [← td]; exact q1)] at h4
           exact ⟨d, h4, h5⟩
       obtain ⟨d0, hd0, hd1⟩ := hg
       rw [G] at h1
       by_cases q1 : f = o.to
       · rw [if_pos q1] at h1
         cases h1
         have h6 : q ∈ entL b.ks o.nm 0 := ent_mem (ksrt_ent _ _ kb) h2 (by rw [h3]; exact hgn)
         exact ⟨b, d0, by rw [q1]; exact hb, ⟨q, ent_mem0 kb h6, h3⟩, hd0, hd1⟩
       · rw [if_neg q1, if_neg (by rw [← td]; exact q1)] at h1
         exact ⟨x, d0, h1, ⟨q, h2, h3⟩, hd0, hd1⟩
     rw [rename_new (l := X) (o := rbO o) (a := b.kids none 0 (entL (entL b.ks o.nm 0) o.nm2 n.fid)) (b := b.kids none 0 (entL (entL b.ks o.nm 0) o.nm2 n.fid)) (n := n) gB hbk (by show getF X o.dir = _; rw [← td]; exact gB) hbk (by show kq (entL (entL b.ks o.nm 0) o.nm2 n.fid) o.nm2 = _; rw [kq_ent, if_pos rfl, if_neg n0]; rfl) (by rw [G, if_neg ndb, if_neg nda]; exact hn) n0 (fun hn2 hab => by
         obtain ⟨r, hr⟩ := R.rank
         have h7 := rank_up (l := l) RX (hE r hr) _ _ ⟨b.kids none 0 (entL (entL b.ks o.nm 0) o.nm2 n.fid), by show getF X o.dir = _; rw [← td]; exact gB, hbk⟩ hab
         have h8 := hr o.dir n.fid ⟨b, n, ha, ⟨_, nqa, rfl⟩, hn, hn2⟩
         have h9 : r n.fid ≤ r o.dir := h7
         omega) (by show kq (entL (entL b.ks o.nm 0) o.nm2 n.fid) o.nm = none; rw [kq_ent, if_neg nn, kq_ent, if_pos rfl, if_pos rfl]) (by
         cases q : getF X 0 with
         | none => rfl
         | some y => have := (RX.at q).2.1; omega) (.inl td.symm)]
     refine congrArg (Prod.mk (0 : Int)) (srt_ext (srt_moved SX) R.srt (fun g => ?_))
     rw [getF_moved X (rbO o) n.fid X gB (by show getF X o.dir = _; rw [← td]; exact gB) g, G]
     show (if g = o.dir then some ((b.kids none 0 (entL (entL b.ks o.nm 0) o.nm2 n.fid)).kids none 0 (entL (if o.dir = o.to then entL (entL (entL b.ks o.nm 0) o.nm2 n.fid) o.nm2 0 else _) o.nm n.fid)) else if g = o.to then _ else _) = _
     by_cases q1 : g = o.dir
     · rw [if_pos q1, if_pos td.symm, q1, ha]
       show some (b.kids none 0 (entL (entL (entL (entL b.ks o.nm 0) o.nm2 n.fid) o.nm2 0) o.nm n.fid)) = some b
       rw [kids_self (E.get ha) (ksrt_ext (ksrt_ent _ _ (ksrt_ent _ _ (ksrt_ent _ _ (ksrt_ent _ _ kb)))) kb (fun t => by
         rw [kq_ent, kq_ent, kq_ent, kq_ent]
         by_cases t1 : t = o.nm
         · rw [if_pos t1, if_neg n0, t1, hq]
         · rw [if_neg t1]
           by_cases t2 : t = o.nm2
           · rw [if_pos t2, if_pos rfl, t2, hkn]
           · rw [if_neg t2, if_neg t2, if_neg t1]))]
     · have q2 : g ≠ o.to := by rw [td]; exact q1
       rw [if_neg q1, if_neg q2, if_neg q2, if_neg q1]
   · simp only [if_neg td] at G
     have td' : o.dir ≠ o.to := fun e4 => td e4.symm
     have gB : getF X o.to = some (b.kids none 0 (entL b.ks o.nm2 n.fid)) := by rw [G, if_pos rfl]
     have gA : getF X o.dir = some (a.kids none 0 (entL a.ks o.nm 0)) := by rw [G, if_neg td', if_pos rfl]
     have hE : ∀ r : Int → Nat, (∀ f g, Ed l f g → r f < r g) → ∀ f g, Ed X f g → g ≠ n.fid → r f < r g := fun r hr f g hed hgn => by
       obtain ⟨x, d, h1, ⟨q, h2, h3⟩, h4, h5⟩ := hed
       apply hr
       have hg : ∃ d, getF l g = some d ∧ d.k = 2 := by
         rw [G] at h4
         by_cases q1 : g = o.to
         · exact ⟨b, by rw [q1]; exact hb, hbk⟩
         · rw [if_neg q1] at h4
           by_cases q2 : g = o.dir
           · exact ⟨a, by rw [q2]; exact ha, hak⟩
           · rw [if_neg q2] at h4
             exact ⟨d, h4, h5⟩
       obtain ⟨d0, hd0, hd1⟩ := hg
       rw [G] at h1
       by_cases q1 : f = o.to
       · rw [if_pos q1] at h1
         cases h1
         exact ⟨b, d0, by rw [q1]; exact hb, ⟨q, ent_mem kb h2 (by rw [h3]; exact hgn), h3⟩, hd0, hd1⟩
       · rw [if_neg q1] at h1
         by_cases q2 : f = o.dir
         · rw [if_pos q2] at h1
           cases h1
           exact ⟨a, d0, by rw [q2]; exact ha, ⟨q, ent_mem0 ka h2, h3⟩, hd0, hd1⟩
         · rw [if_neg q2] at h1
           exact ⟨x, d0, h1, ⟨q, h2, h3⟩, hd0, hd1⟩
     rw [rename_new (l := X) (o := rbO o) (a := b.kids none 0 (entL b.ks o.nm2 n.fid)) (b := a.kids none 0 (entL a.ks o.nm 0)) (n := n) gB hbk gA hak (by show kq (entL b.ks o.nm2 n.fid) o.nm2 = _; rw [kq_ent, if_pos rfl, if_neg n0]; rfl) (by rw [G, if_neg ndb, if_neg nda]; exact hn) n0 (fun hn2 hab => by
         obtain ⟨r, hr⟩ := R.rank
         have h7 := rank_up (l := l) RX (hE r hr) _ _ ⟨a.kids none 0 (entL a.ks o.nm 0), gA, hak⟩ hab
         have h8 := hr o.dir n.fid ⟨a, n, ha, ⟨_, nqa, rfl⟩, hn, hn2⟩
         have h9 : r n.fid ≤ r o.dir := h7
         omega) (by show kq (entL a.ks o.nm 0) o.nm = none; rw [kq_ent, if_pos rfl, if_pos rfl]) (by
         cases q : getF X 0 with
         | none => rfl
         | some y => have := (RX.at q).2.1; omega) (.inr (by
         have h6 := klen_ent o.nm 0 ka
         rw [hq] at h6
         simp only [Option.elim, if_pos] at h6
         have h7 := (R.at ha).1.2.2.1
         show (entL a.ks o.nm 0).length < 12
         omega))]
     refine congrArg (Prod.mk (0 : Int)) (srt_ext (srt_moved SX) R.srt (fun g => ?_))
     rw [getF_moved X (rbO o) n.fid X gB gA g, G]
     show (if g = o.dir then some ((a.kids none 0 (entL a.ks o.nm 0)).kids none 0 (entL (if o.dir = o.to then _ else entL a.ks o.nm 0) o.nm n.fid)) else if g = o.to then some ((b.kids none 0 (entL b.ks o.nm2 n.fid)).kids none 0 (entL (entL b.ks o.nm2 n.fid) o.nm2 0)) else _) = _
     by_cases q1 : g = o.dir
     · rw [if_pos q1, if_neg td', q1, ha]
       show some (a.kids none 0 (entL (entL a.ks o.nm 0) o.nm n.fid)) = some a
       rw [kids_self (E.get ha) (ksrt_ext (ksrt_ent _ _ (ksrt_ent _ _ ka)) ka (fun t => by
         rw [kq_ent, kq_ent]
         by_cases t1 : t = o.nm
         · rw [if_pos t1, if_neg n0, t1, hq]
         · rw [if_neg t1, if_neg t1]))]
     · rw [if_neg q1]
       by_cases q2 : g = o.to
       · rw [if_pos q2, q2, hb]
         show some (b.kids none 0 (entL (entL b.ks o.nm2 n.fid) o.nm2 0)) = some b
         rw [kids_self (E.get hb) (ksrt_ext (ksrt_ent _ _ (ksrt_ent _ _ kb)) kb (fun t => by
           rw [kq_ent, kq_ent]
           by_cases t1 : t = o.nm2
           · rw [if_pos t1, if_pos rfl, t1, hkn]
           · rw [if_neg t1, if_neg t1]))]
       · rw [if_neg q2, if_neg q2, if_neg q1]
 · rw [h2] at hkn; cases hkn
 · rw [h2] at hkn; cases hkn
end Go.Proofs.YtloojakcknnilaaGreat
