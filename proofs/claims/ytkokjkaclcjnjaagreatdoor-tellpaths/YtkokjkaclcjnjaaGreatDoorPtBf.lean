/-
  Trees, plainly: what is right by itself, in plain words; a tree's words by what is found in it; who is above whom.
  Trees, plainly: a tree stays one where a node is written, made, gets one more entry, loses one.
-/
import Derived.Test.YtkokjkaclcjnjaaGreatDoorPtBe
import Derived.Test.YtkokjkaclcjnjaaGreatDoorPtAx
namespace Go.Proofs.YtkokjkaclcjnjaaGreatDoor
set_option linter.unusedVariables false
set_option linter.unusedSimpArgs false
def KOk (l : List Kd) : Prop := KSrt l ∧ ∀ q ∈ l, Pa.nameB q.nm.data.toList = true ∧ q.fid ≠ 0
theorem kidsTo_mk {l : List Kd} : ∀ {m : Nat}, (∀ i, i < m → kOk l i = true) → kidsTo l m = true
 | 0, _ => rfl
 | m + 1, h => by
   unfold kidsTo
   rw [Bool.and_eq_true]
   exact ⟨kidsTo_mk (fun i hi => h i (by omega)), h m (by omega)⟩
theorem kgetD {l : List Kd} {i : Nat} (hi : i < l.length) : l.getD i Kd.no = l[i] := by simp [List.getD, hi]
theorem kidsOk_iff (l : List Kd) : kidsOk l = true ↔ KOk l := by
 unfold kidsOk
 constructor
 · intro h
   have hk := fun i hi => kidsTo_all h i hi
   have hstep : ∀ i, (hi : i + 1 < l.length) → leS (l[i + 1]).nm (l[i]).nm = false := fun i hi => by
     have := hk (i + 1) hi
     unfold kOk at this
     rw [lastK_next, kgetD hi, kgetD (show i < l.length by omega)] at this
     simp only [Bool.and_eq_true, Bool.not_eq_true'] at this
     exact this.1.2
   have hlt : ∀ j i, (hij : i < j) → (hj : j < l.length) → leS (l[j]).nm (l[i]'(by omega)).nm = false := fun j => by
     induction j with
     | zero => intro i hij; omega
     | succ j ih =>
       intro i hij hj
       have h1 := hstep j hj
       by_cases e : i = j
       · subst e; exact h1
       · have h2 := ih i (by omega) (by omega)
         cases q : leS (l[j + 1]).nm (l[i]'(by omega)).nm with
         | false => rfl
         | true =>
           exfalso
           rcases leS_total (l[j]).nm (l[j + 1]).nm with t | t
           · have := leS_trans _ _ _ t q
             rw [h2] at this; cases this
           · rw [h1] at t; cases t
   refine ⟨?_, fun q hq => ?_⟩
   · unfold KSrt Ris
     rw [List.pairwise_iff_getElem]
     exact fun i j hi hj hij => hlt j i hij hj
   · obtain ⟨i, hi, rfl⟩ := List.getElem_of_mem hq
     have := hk i hi
     unfold kOk at this
     rw [kgetD hi] at this
     simp only [Bool.and_eq_true, bne_iff_ne] at this
     exact ⟨this.1.1, this.2⟩
 · rintro ⟨hs, hq⟩
   refine kidsTo_mk (fun i hi => ?_)
   unfold kOk
   rw [kgetD hi]
   obtain ⟨h1, h2⟩ := hq _ (List.getElem_mem hi)
   simp only [Bool.and_eq_true, Bool.not_eq_true', bne_iff_ne]
   refine ⟨⟨h1, ?_⟩, h2⟩
   unfold lastK
   split
   · exact le_nil h1
   · rw [kgetD (show i - 1 < l.length by omega)]
     exact List.pairwise_iff_getElem.1 hs (i - 1) i (by omega) hi (by omega)
def NOk (x : Nd) : Prop := x.fid ≠ 0 ∧ x.zs.length ≤ 64 ∧ x.ks.length ≤ 12 ∧ (((x.k = 1 ∨ x.k = 3) ∧ x.ks = []) ∨ (x.k = 2 ∧ x.zs = [] ∧ KOk x.ks))
theorem nodeOk_iff (x : Nd) : nodeOk x = true ↔ NOk x := by
 unfold nodeOk NOk
 rw [Bool.and_eq_true]
 have e1 : ((!(x.fid == 0 || decide (64 < x.zs.length) || decide (12 < x.ks.length))) = true) ↔ (x.fid ≠ 0 ∧ x.zs.length ≤ 64 ∧ x.ks.length ≤ 12) := by
   simp only [Bool.not_eq_true', Bool.or_eq_false_iff, beq_eq_false_iff_ne, decide_eq_false_iff_not, Nat.not_lt]
   constructor
   · rintro ⟨⟨a, b⟩, c⟩; exact ⟨a, b, c⟩
   · rintro ⟨a, b, c⟩; exact ⟨⟨a, b⟩, c⟩
 rw [e1]
 have e2 : ((bif x.k == 1 || x.k == 3 then decide (x.ks.length = 0) else bif x.k == 2 then decide (x.zs.length = 0) && kidsOk x.ks else false) = true) ↔ (((x.k = 1 ∨ x.k = 3) ∧ x.ks = []) ∨ (x.k = 2 ∧ x.zs = [] ∧ KOk x.ks)) := by
   by_cases h13 : x.k = 1 ∨ x.k = 3
   · have : (x.k == 1 || x.k == 3) = true := by simpa using h13
     rw [this]
     simp only [cond_true, decide_eq_true_eq, List.length_eq_zero_iff]
     constructor
     · intro h; exact .inl ⟨h13, h⟩
     · rintro (h | h)
       · exact h.2
       · omega
   · have : (x.k == 1 || x.k == 3) = false := by
       cases q : (x.k == 1 || x.k == 3) with
       | false => rfl
       | true => exact absurd (by simpa using q) h13
     rw [this]
     simp only [cond_false]
     by_cases h2 : x.k = 2
     · have : (x.k == 2) = true := by rw [h2]; rfl
       rw [this]
       simp only [cond_true, Bool.and_eq_true, decide_eq_true_eq, List.length_eq_zero_iff, kidsOk_iff]
       constructor
       · intro h; exact .inr ⟨h2, h⟩
       · rintro (h | h)
         · exact absurd h.1 h13
         · exact h.2
     · have : (x.k == 2) = false := beq_eq_false_iff_ne.2 h2
       rw [this]
       simp only [cond_false]
       constructor
       · intro h; cases h
       · rintro (h | h)
         · exact absurd h.1 h13
         · exact absurd h.1 h2
 rw [e2]
 constructor
 · rintro ⟨⟨a, b, c⟩, d⟩; exact ⟨a, b, c, d⟩
 · rintro ⟨a, b, c, d⟩; exact ⟨⟨a, b, c⟩, d⟩
section
variable {l : List Nd} (R : Rt l)
include R
theorem Rt.at {f : Int} {x : Nd} (h : getF l f = some x) : NOk x ∧ 0 < f ∧ x.fid = f := by
 obtain ⟨hm, e⟩ := getF_mem h
 obtain ⟨h1, h2⟩ := R.ok x hm
 exact ⟨(nodeOk_iff x).1 h1, by omega, e⟩
theorem Rt.kids {f : Int} {x : Nd} (h : getF l f = some x) {q : Kd} (hq : q ∈ x.ks) : q.fid ≠ 1 ∧ ∃ y, getF l q.fid = some y := by
 obtain ⟨h1, h2⟩ := R.kid x (getF_mem h).1 q hq
 exact ⟨h1, Option.isSome_iff_exists.1 h2⟩
theorem Rt.links {f : Int} {x : Nd} (h : getF l f = some x) (hne : f ≠ 1) : 1 ≤ cT f l ∧ x.ln = cT f l ∧ (x.k = 2 → cT f l = 1) := by
 obtain ⟨hm, e⟩ := getF_mem h
 have := R.lnk x hm (by rw [e]; exact hne)
 rw [e] at this
 exact this
theorem Rt.isdir {f : Int} {x : Nd} (h : getF l f = some x) {q : Kd} (hq : q ∈ x.ks) : x.k = 2 := by
 obtain ⟨⟨_, _, _, h1⟩, _⟩ := R.at h
 rcases h1 with h1 | h1
 · rw [h1.2] at hq; cases hq
 · exact h1.1
theorem Rt.kok {f : Int} {x : Nd} (h : getF l f = some x) (hk : x.k = 2) : KOk x.ks := by
 obtain ⟨⟨_, _, _, h1⟩, _⟩ := R.at h
 rcases h1 with h1 | h1
 · omega
 · exact h1.2.2
theorem Rt.noent {g : Int} (h : getF l g = none) : cT g l = 0 := by
 rcases Nat.eq_zero_or_pos (cT g l) with q | q
 · exact q
 · exfalso
   obtain ⟨x, hx, hp⟩ := wsm_ex q
   obtain ⟨k, hk, hp2⟩ := wsm_ex hp
   have e : k.fid = g := by
     by_cases e : k.fid = g
     · exact e
     · simp [e] at hp2
   have := (R.kid x hx k hk).2
   rw [e, h] at this
   cases this
end
theorem Rt.of {l : List Nd} (few : l.length ≤ 40) (srt : Srt l) (ok : ∀ f x, getF l f = some x → NOk x ∧ 0 < f)
   (kid : ∀ f x, getF l f = some x → ∀ q ∈ x.ks, q.fid ≠ 1 ∧ (getF l q.fid).isSome = true) (root : ∃ r, getF l 1 = some r ∧ r.k = 2 ∧ r.ln = 0)
   (lnk : ∀ f x, getF l f = some x → f ≠ 1 → 1 ≤ cT f l ∧ x.ln = cT f l ∧ (x.k = 2 → cT f l = 1)) (rank : ∃ r : Int → Nat, ∀ f g, Ed l f g → r f < r g) : Rt l :=
 ⟨few, srt, fun x hx => by have := ok _ _ (srt_get srt hx); exact ⟨(nodeOk_iff x).2 this.1, this.2⟩, fun x hx => kid _ _ (srt_get srt hx), root, fun x hx => lnk _ _ (srt_get srt hx), rank⟩
theorem cT_set (g : Int) (n : Nd) {l : List Nd} (h : Srt l) : cT g (setL l n) + (getF l n.fid).elim 0 (cN g) = cT g l + cN g n := wsm_set (cN g) n h
theorem cT_out (g f : Int) {l : List Nd} (h : Srt l) : cT g (outL l f) + (getF l f).elim 0 (cN g) = cT g l := wsm_out (cN g) f h
theorem len_set (n : Nd) {l : List Nd} (h : Srt l) : (setL l n).length + (getF l n.fid).elim 0 (fun _ => 1) = l.length + 1 := by
 have := wsm_set (fun _ => 1) n h
 rw [wsm_len, wsm_len] at this
 exact this
theorem cK_ent (g : Int) (s : ByteArray) (f : Int) {l : List Kd} (h : KSrt l) : cK g (entL l s f) + (kq l s).elim 0 (fun q => if q.fid = g then 1 else 0) = cK g l + (if f = 0 then 0 else if f = g then 1 else 0) := wsm_ent (fun q => if q.fid = g then 1 else 0) s f h
theorem klen_ent (s : ByteArray) (f : Int) {l : List Kd} (h : KSrt l) : (entL l s f).length + (kq l s).elim 0 (fun _ => 1) = l.length + (if f = 0 then 0 else 1) := by
 have := wsm_ent (fun _ => 1) s f h
 rw [wsm_len, wsm_len] at this
 exact this
theorem kok_ent {l : List Kd} (h : KOk l) (s : ByteArray) (f : Int) (hs : f ≠ 0 → Pa.nameB s.data.toList = true) : KOk (entL l s f) := by
 refine ⟨ksrt_ent s f h.1, fun q hq => ?_⟩
 by_cases hf : f = 0
 · subst hf
   rw [entL_zero] at hq
   exact h.2 q (List.mem_filter.1 hq).1
 · rcases entL_mem hq with e | e
   · rw [e]; exact ⟨hs hf, hf⟩
   · exact h.2 q e
theorem kq_none_iff {l : List Kd} (h : ∀ q ∈ l, q.fid ≠ 0) (s : ByteArray) : kidI l s = 0 ↔ kq l s = none := by
 rw [kidI_kq]
 cases hq : kq l s with
 | none => simp
 | some q =>
   have hm := fnd_mem Kd.nm hq
   constructor
   · intro e; exact absurd e (h q hm.1)
   · intro e; cases e
theorem kq_some {l : List Kd} {s : ByteArray} {q : Kd} (h : kq l s = some q) : q ∈ l ∧ q.nm = s := fnd_mem Kd.nm h
theorem ed_mono {l m : List Nd} (h : ∀ f x, getF m f = some x → ∀ q ∈ x.ks, ∃ y, getF l f = some y ∧ ∃ r ∈ y.ks, r.fid = q.fid) (hd : ∀ g d, getF m g = some d → d.k = 2 → ∃ e, getF l g = some e ∧ e.k = 2) {f g : Int} (hE : Ed m f g) : Ed l f g := by
 obtain ⟨x, d, h1, ⟨q, hq, e⟩, h3, h4⟩ := hE
 obtain ⟨y, h5, r, hr, e2⟩ := h f x h1 q hq
 obtain ⟨e3, h6, h7⟩ := hd g d h3 h4
 exact ⟨y, e3, h5, ⟨r, hr, by rw [e2, e]⟩, h6, h7⟩
theorem Rt.write {l : List Nd} (R : Rt l) {x y : Nd} (hx : getF l x.fid = some x) (hf : y.fid = x.fid) (hk : y.k = x.k) (hl : y.ln = x.ln) (hs : y.ks = x.ks) (hy : NOk y) : Rt (setL l y) := by
 have hN : ∀ g, getF (setL l y) g = if g = x.fid then some y else getF l g := fun g => by rw [getF_set, hf]
 have hc : ∀ g, cT g (setL l y) = cT g l := fun g => by
   have := cT_set g y R.srt
   rw [hf, hx] at this
   simp only [Option.elim, cN, hs] at this
   omega
 have hlen : (setL l y).length = l.length := by
   have := len_set y R.srt
   rw [hf, hx] at this
   simp only [Option.elim] at this
   omega
 have old : ∀ f z, getF (setL l y) f = some z → ∃ z0, getF l f = some z0 ∧ z.ks = z0.ks ∧ z.k = z0.k ∧ z.ln = z0.ln := fun f z hz => by
   rw [hN] at hz
   by_cases e : f = x.fid
   · rw [if_pos e] at hz; cases hz; exact ⟨x, by rw [e]; exact hx, hs, hk, hl⟩
   · rw [if_neg e] at hz; exact ⟨z, hz, rfl, rfl, rfl⟩
 have new : ∀ g, (getF (setL l y) g).isSome = (getF l g).isSome := fun g => by
   rw [hN]
   by_cases e : g = x.fid
   · rw [if_pos e, e, hx]; rfl
   · rw [if_neg e]
 refine Rt.of (by rw [hlen]; exact R.few) (srt_set y R.srt) (fun f z hz => ?_) (fun f z hz q hq => ?_) ?_ (fun f z hz hne => ?_) ?_
 · have hz' := hz
   rw [hN] at hz'
   by_cases e : f = x.fid
   · rw [if_pos e] at hz'; cases hz'
     exact ⟨hy, by rw [e]; exact (R.at hx).2.1⟩
   · rw [if_neg e] at hz'
     exact ⟨(R.at hz').1, (R.at hz').2.1⟩
 · obtain ⟨z0, h0, e1, _⟩ := old f z hz
   rw [e1] at hq
   obtain ⟨a, b, hb⟩ := R.kids h0 hq
   exact ⟨a, by rw [new, hb]; rfl⟩
 · obtain ⟨r, hr, h1, h2⟩ := R.root
   rw [hN]
   by_cases e : (1 : Int) = x.fid
   · rw [if_pos e]
     rw [← e, hr] at hx
     cases hx
     exact ⟨y, rfl, by rw [hk, h1], by rw [hl, h2]⟩
   · rw [if_neg e]; exact ⟨r, hr, h1, h2⟩
 · obtain ⟨z0, h0, _, e2, e3⟩ := old f z hz
   rw [hc, e2, e3]
   exact R.links h0 hne
 · obtain ⟨r, hr⟩ := R.rank
   refine ⟨r, fun f g hE => hr f g (ed_mono (fun f z hz q hq => ?_) (fun g d hg hd => ?_) hE)⟩
   · obtain ⟨z0, h0, e1, _⟩ := old f z hz
     exact ⟨z0, h0, q, by rw [← e1]; exact hq, rfl⟩
   · obtain ⟨z0, h0, _, e2, _⟩ := old g d hg
     exact ⟨z0, h0, by rw [← e2]; exact hd⟩
theorem Rt.make {l : List Nd} (R : Rt l) {d n : Nd} {s : ByteArray} (hd : getF l d.fid = some d) (hk : d.k = 2) (hq : kq d.ks s = none) (hs : Pa.nameB s.data.toList = true) (h12 : d.ks.length < 12) (h40 : l.length < 40)
   (hn : NOk n) (hn0 : getF l n.fid = none) (hn1 : n.fid ≠ 1) (hnp : 0 < n.fid) (hnk : n.ks = []) (hnl : n.ln = 1) : Rt (setL (setL l (d.kids none 0 (entL d.ks s n.fid))) n) := by
 have hne : n.fid ≠ d.fid := fun e => by rw [e, hd] at hn0; cases hn0
 have hn00 : n.fid ≠ 0 := by omega
 have s1 := srt_set (d.kids none 0 (entL d.ks s n.fid)) R.srt
 have hN : ∀ g, getF (setL (setL l (d.kids none 0 (entL d.ks s n.fid))) n) g = if g = n.fid then some n else if g = d.fid then some (d.kids none 0 (entL d.ks s n.fid)) else getF l g := fun g => by
   rw [getF_set, getF_set]; rfl
 have hK := R.kok hd hk
 have hkk := hK.1
 have hcd : ∀ g, cK g (entL d.ks s n.fid) = cK g d.ks + (if n.fid = g then 1 else 0) := fun g => by
   have := cK_ent g s n.fid hkk
   rw [hq, if_neg hn00] at this
   simpa [Option.elim] using this
 have hc : ∀ g, cT g (setL (setL l (d.kids none 0 (entL d.ks s n.fid))) n) = cT g l + (if n.fid = g then 1 else 0) := fun g => by
   have h1 := cT_set g n s1
   have h2 := cT_set g (d.kids none 0 (entL d.ks s n.fid)) R.srt
   rw [getF_set, if_neg (show n.fid ≠ (d.kids none 0 (entL d.ks s n.fid)).fid from hne), hn0] at h1
   rw [show (d.kids none 0 (entL d.ks s n.fid)).fid = d.fid from rfl, hd] at h2
   simp only [Option.elim] at h1 h2
   have e1 : cN g (d.kids none 0 (entL d.ks s n.fid)) = cK g d.ks + (if n.fid = g then 1 else 0) := hcd g
   have e2 : cN g d = cK g d.ks := rfl
   have e3 : cN g n = 0 := by unfold cN; rw [hnk]; rfl
   omega
 have hmem : ∀ q, q ∈ entL d.ks s n.fid → q ∈ d.ks ∨ q = ⟨s, n.fid⟩ := fun q h => (entL_mem h).symm
 have hlen : (setL (setL l (d.kids none 0 (entL d.ks s n.fid))) n).length = l.length + 1 := by
   have h1 := len_set n s1
   have h2 := len_set (d.kids none 0 (entL d.ks s n.fid)) R.srt
   rw [getF_set, if_neg (show n.fid ≠ (d.kids none 0 (entL d.ks s n.fid)).fid from hne), hn0] at h1
   rw [show (d.kids none 0 (entL d.ks s n.fid)).fid = d.fid from rfl, hd] at h2
   simp only [Option.elim] at h1 h2
   omega
 have new : ∀ g, (getF l g).isSome = true → (getF (setL (setL l (d.kids none 0 (entL d.ks s n.fid))) n) g).isSome = true := fun g h => by
   rw [hN]; split
   · rfl
   · split
     · rfl
     · exact h
 have kl : (entL d.ks s n.fid).length ≤ 12 := by have := entL_len d.ks s n.fid; omega
 refine Rt.of (by omega) (srt_set n s1) (fun f z hz => ?_) (fun f z hz q hqz => ?_) ?_ (fun f z hz hne1 => ?_) ?_
 · rw [hN] at hz
   by_cases e : f = n.fid
   · rw [if_pos e] at hz; cases hz; exact ⟨hn, by omega⟩
   · rw [if_neg e] at hz
     by_cases e2 : f = d.fid
     · rw [if_pos e2] at hz; cases hz
       obtain ⟨⟨a1, a2, a3, a4⟩, a5, _⟩ := R.at hd
       refine ⟨⟨a1, a2, kl, .inr ⟨hk, ?_, kok_ent hK s n.fid (fun _ => hs)⟩⟩, by omega⟩
       rcases a4 with a4 | a4
       · omega
       · exact a4.2.1
     · rw [if_neg e2] at hz; exact ⟨(R.at hz).1, (R.at hz).2.1⟩
 · have hz' := hz
   rw [hN] at hz'
   by_cases e : f = n.fid
   · rw [if_pos e] at hz'; cases hz'; rw [hnk] at hqz; cases hqz
   · rw [if_neg e] at hz'
     by_cases e2 : f = d.fid
     · rw [if_pos e2] at hz'; cases hz'
       rcases hmem q hqz with h | h
       · obtain ⟨a, b, hb⟩ := R.kids hd h
         exact ⟨a, new _ (by rw [hb]; rfl)⟩
       · rw [h]; exact ⟨hn1, by rw [hN, if_pos rfl]; rfl⟩
     · rw [if_neg e2] at hz'
       obtain ⟨a, b, hb⟩ := R.kids hz' hqz
       exact ⟨a, new _ (by rw [hb]; rfl)⟩
 · obtain ⟨r, hr, h1, h2⟩ := R.root
   rw [hN, if_neg (fun e => hn1 e.symm)]
   by_cases e : (1 : Int) = d.fid
   · rw [if_pos e]
     rw [← e, hr] at hd
     cases hd
     exact ⟨_, rfl, h1, h2⟩
   · rw [if_neg e]; exact ⟨r, hr, h1, h2⟩
 · rw [hc]
   rw [hN] at hz
   by_cases e : f = n.fid
   · rw [if_pos e] at hz; cases hz
     rw [e, R.noent hn0, hnl, if_pos rfl]
     exact ⟨by omega, rfl, fun _ => rfl⟩
   · rw [if_neg e] at hz
     rw [if_neg (fun h => e h.symm)]
     by_cases e2 : f = d.fid
     · rw [if_pos e2] at hz; cases hz
       have := R.links hd (by rw [← e2]; exact hne1)
       rw [e2]; exact this
     · rw [if_neg e2] at hz
       exact R.links hz hne1
 · obtain ⟨r, hr⟩ := R.rank
   refine ⟨fun x => if x = n.fid then r d.fid + 1 else r x, fun f g hE => ?_⟩
   obtain ⟨x, dd, h1, ⟨q, hqx, eq⟩, h3, h4⟩ := hE
   rw [hN] at h1
   by_cases e : f = n.fid
   · rw [if_pos e] at h1; cases h1; rw [hnk] at hqx; cases hqx
   · rw [if_neg e] at h1
     simp only [if_neg e]
     by_cases eg : g = n.fid
     · simp only [if_pos eg]
       by_cases e2 : f = d.fid
       · rw [e2]; omega
       · rw [if_neg e2] at h1
         obtain ⟨_, b, hb⟩ := R.kids h1 hqx
         rw [eq, eg, hn0] at hb; cases hb
     · simp only [if_neg eg]
       rw [hN, if_neg eg] at h3
       have h3' : ∃ e, getF l g = some e ∧ e.k = 2 := by
         by_cases e3 : g = d.fid
         · exact ⟨d, by rw [e3]; exact hd, hk⟩
         · rw [if_neg e3] at h3; exact ⟨dd, h3, h4⟩
       obtain ⟨e5, h5, h6⟩ := h3'
       by_cases e2 : f = d.fid
       · rw [if_pos e2] at h1; cases h1
         rcases hmem q hqx with h | h
         · exact hr f g ⟨d, e5, by rw [e2]; exact hd, ⟨q, h, eq⟩, h5, h6⟩
         · rw [h] at eq; exact absurd eq.symm eg
       · rw [if_neg e2] at h1
         exact hr f g ⟨x, e5, h1, ⟨q, hqx, eq⟩, h5, h6⟩
end Go.Proofs.YtkokjkaclcjnjaaGreatDoor
