/-
  
-/
import Derived.Test.YtfmghbennahlfaaGreatCnBg
namespace Go.Proofs.YtfmghbennahlfaaGreat
set_option linter.unusedVariables false
set_option linter.unusedSimpArgs false
theorem Rt.self {l : List Nd} (R : Rt l) {d : Nd} (hd : getF l d.fid = some d) {q : Kd} (hq : q ∈ d.ks) : q.fid ≠ d.fid := fun e => by
 obtain ⟨r, hr⟩ := R.rank
 have := hr d.fid d.fid ⟨d, d, hd, ⟨q, hq, e⟩, hd, R.isdir hd hq⟩
 omega
theorem cT_mem {l : List Nd} {f : Int} {x : Nd} (h : getF l f = some x) {q : Kd} (hq : q ∈ x.ks) : 0 < cT q.fid l := by
 refine wsm_pos (getF_mem h).1 ?_
 exact wsm_pos hq (by simp)
theorem Rt.link {l : List Nd} (R : Rt l) {d n : Nd} {s : ByteArray} (hd : getF l d.fid = some d) (hk : d.k = 2) (hq : kq d.ks s = none) (hs : Pa.nameB s.data.toList = true) (h12 : d.ks.length < 12)
   (hn0 : getF l n.fid = some n) (hnk : n.k ≠ 2) : Rt (setL (setL l (d.kids none 0 (entL d.ks s n.fid))) (n.lnk (n.ln + 1))) := by
 have hne : n.fid ≠ d.fid := fun e => by rw [e, hd] at hn0; cases hn0; exact hnk hk
 have hn1 : n.fid ≠ 1 := fun e => by
   obtain ⟨r, hr, h1, _⟩ := R.root
   rw [e, hr] at hn0
   cases hn0
   exact hnk h1
 have hn00 : n.fid ≠ 0 := by have := (R.at hn0).2.1; omega
 have s1 := srt_set (d.kids none 0 (entL d.ks s n.fid)) R.srt
 have hN : ∀ g, getF (setL (setL l (d.kids none 0 (entL d.ks s n.fid))) (n.lnk (n.ln + 1))) g = if g = n.fid then some (n.lnk (n.ln + 1)) else if g = d.fid then some (d.kids none 0 (entL d.ks s n.fid)) else getF l g := fun g => by
   rw [getF_set, getF_set]; rfl
 have hK := R.kok hd hk
 have hkk := hK.1
 have hcd : ∀ g, cK g (entL d.ks s n.fid) = cK g d.ks + (if n.fid = g then 1 else 0) := fun g => by
   have := cK_ent g s n.fid hkk
   rw [hq, if_neg hn00] at this
   simpa [Option.elim] using this
 have hc : ∀ g, cT g (setL (setL l (d.kids none 0 (entL d.ks s n.fid))) (n.lnk (n.ln + 1))) = cT g l + (if n.fid = g then 1 else 0) := fun g => by
   have h1 := cT_set g (n.lnk (n.ln + 1)) s1
   have h2 := cT_set g (d.kids none 0 (entL d.ks s n.fid)) R.srt
   rw [show (n.lnk (n.ln + 1)).fid = n.fid from rfl, getF_set, if_neg (show n.fid ≠ (d.kids none 0 (entL d.ks s n.fid)).fid from hne), hn0] at h1
   rw [show (d.kids none 0 (entL d.ks s n.fid)).fid = d.fid from rfl, hd] at h2
   simp only [Option.elim] at h1 h2
   have e1 : cN g (d.kids none 0 (entL d.ks s n.fid)) = cK g d.ks + (if n.fid = g then 1 else 0) := hcd g
   have e2 : cN g d = cK g d.ks := rfl
   have e3 : cN g (n.lnk (n.ln + 1)) = cN g n := rfl
   omega
 have hmem : ∀ q, q ∈ entL d.ks s n.fid → q ∈ d.ks ∨ q = ⟨s, n.fid⟩ := fun q h => (entL_mem h).symm
 have hlen : (setL (setL l (d.kids none 0 (entL d.ks s n.fid))) (n.lnk (n.ln + 1))).length = l.length := by
   have h1 := len_set (n.lnk (n.ln + 1)) s1
   have h2 := len_set (d.kids none 0 (entL d.ks s n.fid)) R.srt
   rw [show (n.lnk (n.ln + 1)).fid = n.fid from rfl, getF_set, if_neg (show n.fid ≠ (d.kids none 0 (entL d.ks s n.fid)).fid from hne), hn0] at h1
   rw [show (d.kids none 0 (entL d.ks s n.fid)).fid = d.fid from rfl, hd] at h2
   simp only [Option.elim] at h1 h2
   omega
 have new : ∀ g, (getF l g).isSome = true → (getF (setL (setL l (d.kids none 0 (entL d.ks s n.fid))) (n.lnk (n.ln + 1))) g).isSome = true := fun g h => by
   rw [hN]; split
   · rfl
   · split
     · rfl
     · exact h
 have kl : (entL d.ks s n.fid).length ≤ 12 := by have := entL_len d.ks s n.fid; omega
 refine Rt.of (by rw [hlen]; exact R.few) (srt_set _ s1) (fun f z hz => ?_) (fun f z hz q hqz => ?_) ?_ (fun f z hz hne1 => ?_) ?_
 · rw [hN] at hz
   by_cases e : f = n.fid
   · rw [if_pos e] at hz; cases hz
     obtain ⟨⟨a1, a2, a3, a4⟩, a5, _⟩ := R.at hn0
     exact ⟨⟨a1, a2, a3, a4⟩, by omega⟩
   · rw [if_neg e] at hz
     by_cases e2 : f = d.fid
     · rw [if_pos e2] at hz; cases hz
       obtain ⟨⟨a1, a2, a3, a4⟩, a5, _⟩ := R.at hd
       refine ⟨⟨a1, a2, kl, .inr ⟨hk, ?_, kok_ent hK s n.fid (fun _ => hs)⟩⟩, by omega⟩
       rcases a4 with a4 | a4
       · omega
       · exact a4.2.1
     · rw [if_neg e2] at hz; exact ⟨(R.at hz).1, (R.at hz).2.1⟩
 · have hz' := hz
   rw [hN] at hz'
   by_cases e : f = n.fid
   · rw [if_pos e] at hz'; cases hz'
     obtain ⟨a, b, hb⟩ := R.kids hn0 hqz
     exact ⟨a, new _ (by rw [hb]; rfl)⟩
   · rw [if_neg e] at hz'
     by_cases e2 : f = d.fid
     · rw [if_pos e2] at hz'; cases hz'
       rcases hmem q hqz with h | h
       · obtain ⟨a, b, hb⟩ := R.kids hd h
         exact ⟨a, new _ (by rw [hb]; rfl)⟩
       · rw [h]; exact ⟨hn1, new _ (by rw [hn0]; rfl)⟩
     · rw [if_neg e2] at hz'
       obtain ⟨a, b, hb⟩ := R.kids hz' hqz
       exact ⟨a, new _ (by rw [hb]; rfl)⟩
 · obtain ⟨r, hr, h1, h2⟩ := R.root
   rw [hN, if_neg (fun e => hn1 e.symm)]
   by_cases e : (1 : Int) = d.fid
   · rw [if_pos e]
     rw [← e, hr] at hd
     cases hd
     exact ⟨_, rfl, h1, h2⟩
   · rw [if_neg e]; exact ⟨r, hr, h1, h2⟩
 · rw [hc]
   rw [hN] at hz
   by_cases e : f = n.fid
   · rw [if_pos e] at hz; cases hz
     obtain ⟨b1, b2, _⟩ := R.links hn0 hn1
     rw [e, if_pos rfl]
     exact ⟨by omega, by show n.ln + 1 = _; rw [b2]; push_cast; omega, fun h => absurd h hnk⟩
   · rw [if_neg e] at hz
     rw [if_neg (fun h => e h.symm)]
     by_cases e2 : f = d.fid
     · rw [if_pos e2] at hz; cases hz
       have := R.links hd (by rw [← e2]; exact hne1)
       rw [e2]; exact this
     · rw [if_neg e2] at hz
       exact R.links hz hne1
 · obtain ⟨r, hr⟩ := R.rank
   refine ⟨r, fun f g hE => ?_⟩
   obtain ⟨x, dd, h1, ⟨q, hqx, eq⟩, h3, h4⟩ := hE
   have hgd : ∃ e, getF l g = some e ∧ e.k = 2 := by
     rw [hN] at h3
     by_cases e3 : g = n.fid
     · rw [if_pos e3] at h3; cases h3; exact absurd h4 hnk
     · rw [if_neg e3] at h3
       by_cases e4 : g = d.fid
       · exact ⟨d, by rw [e4]; exact hd, hk⟩
       · rw [if_neg e4] at h3; exact ⟨dd, h3, h4⟩
   obtain ⟨e5, h5, h6⟩ := hgd
   have hgn : g ≠ n.fid := fun e => by rw [e, hn0] at h5; cases h5; exact hnk h6
   rw [hN] at h1
   by_cases e : f = n.fid
   · rw [if_pos e] at h1; cases h1
     exact hr f g ⟨n, e5, by rw [e]; exact hn0, ⟨q, hqx, eq⟩, h5, h6⟩
   · rw [if_neg e] at h1
     by_cases e2 : f = d.fid
     · rw [if_pos e2] at h1; cases h1
       rcases hmem q hqx with h | h
       · exact hr f g ⟨d, e5, by rw [e2]; exact hd, ⟨q, h, eq⟩, h5, h6⟩
       · rw [h] at eq; exact absurd eq.symm hgn
     · rw [if_neg e2] at h1
       exact hr f g ⟨x, e5, h1, ⟨q, hqx, eq⟩, h5, h6⟩
theorem Rt.unlink {l : List Nd} (R : Rt l) {d n : Nd} {s : ByteArray} (hd : getF l d.fid = some d) (hq : kq d.ks s = some ⟨s, n.fid⟩) (hn0 : getF l n.fid = some n) (hnk : n.ks = []) :
   Rt (lessL (setL l (d.kids none 0 (entL d.ks s 0))) n) := by
 have hqm := (kq_some hq).1
 have hk := R.isdir hd hqm
 have hne : n.fid ≠ d.fid := R.self hd hqm
 have hn1 : n.fid ≠ 1 := (R.kids hd hqm).1
 have s1 := srt_set (d.kids none 0 (entL d.ks s 0)) R.srt
 have hN1 : ∀ g, getF (setL l (d.kids none 0 (entL d.ks s 0))) g = if g = d.fid then some (d.kids none 0 (entL d.ks s 0)) else getF l g := fun g => by rw [getF_set]; rfl
 have hK := R.kok hd hk
 have hkk := hK.1
 have hcd : ∀ g, cK g (entL d.ks s 0) + (if n.fid = g then 1 else 0) = cK g d.ks := fun g => by
   have := cK_ent g s 0 hkk
   rw [hq] at this
   simpa [Option.elim] using this
 have hc1 : ∀ g, cT g (setL l (d.kids none 0 (entL d.ks s 0))) + (if n.fid = g then 1 else 0) = cT g l := fun g => by
   have h2 := cT_set g (d.kids none 0 (entL d.ks s 0)) R.srt
   rw [show (d.kids none 0 (entL d.ks s 0)).fid = d.fid from rfl, hd] at h2
   simp only [Option.elim] at h2
   have e1 : cN g (d.kids none 0 (entL d.ks s 0)) + (if n.fid = g then 1 else 0) = cK g d.ks := hcd g
   have e2 : cN g d = cK g d.ks := rfl
   omega
 have hmem : ∀ q, q ∈ entL d.ks s 0 → q ∈ d.ks ∧ q.nm ≠ s := fun q h => by
   rw [entL_zero, List.mem_filter] at h
   exact ⟨h.1, by simpa using h.2⟩
 have hlen1 : (setL l (d.kids none 0 (entL d.ks s 0))).length = l.length := by
   have h2 := len_set (d.kids none 0 (entL d.ks s 0)) R.srt
   rw [show (d.kids none 0 (entL d.ks s 0)).fid = d.fid from rfl, hd] at h2
   simp only [Option.elim] at h2
   omega
 have kl : (entL d.ks s 0).length ≤ 12 := by
   rw [entL_zero]
   exact Nat.le_trans (List.length_filter_le _ _) (R.at hd).1.2.2.1
 obtain ⟨b1, b2, b3⟩ := R.links hn0 hn1
 have hcn : ∀ g, cN g n = 0 := fun g => by unfold cN; rw [hnk]; rfl
 have okd : NOk (d.kids none 0 (entL d.ks s 0)) := by
   obtain ⟨⟨a1, a2, a3, a4⟩, a5, _⟩ := R.at hd
   refine ⟨a1, a2, kl, .inr ⟨hk, ?_, kok_ent hK s 0 (fun h => absurd rfl h)⟩⟩
   rcases a4 with a4 | a4
   · omega
   · exact a4.2.1
 obtain ⟨r0, hr0, hr1, hr2⟩ := R.root
 obtain ⟨rk, hrk⟩ := R.rank
 have hN1n : getF (setL l (d.kids none 0 (entL d.ks s 0))) n.fid = some n := by rw [hN1, if_neg hne]; exact hn0
 unfold lessL
 by_cases hl : n.ln = 1
 · rw [if_pos hl]
   have hN : ∀ g, getF (outL (setL l (d.kids none 0 (entL d.ks s 0))) n.fid) g = if g = n.fid then none else if g = d.fid then some (d.kids none 0 (entL d.ks s 0)) else getF l g := fun g => by rw [getF_out, hN1]
   have hc : ∀ g, cT g (outL (setL l (d.kids none 0 (entL d.ks s 0))) n.fid) + (if n.fid = g then 1 else 0) = cT g l := fun g => by
     have h1 := cT_out g n.fid s1
     rw [hN1n] at h1
     simp only [Option.elim] at h1
     have := hcn g
     have := hc1 g
     omega
   have hz0 : cT n.fid (outL (setL l (d.kids none 0 (entL d.ks s 0))) n.fid) = 0 := by
     have := hc n.fid
     rw [if_pos rfl] at this
     omega
   have hlen : (outL (setL l (d.kids none 0 (entL d.ks s 0))) n.fid).length ≤ l.length := by rw [← hlen1]; exact outL_len2 _ _
   refine Rt.of (by have := R.few; omega) (srt_out _ s1) (fun f z hz => ?_) (fun f z hz q hqz => ?_) ?_ (fun f z hz hne1 => ?_) ?_
   · rw [hN] at hz
     by_cases e : f = n.fid
     · rw [if_pos e] at hz; cases hz
     · rw [if_neg e] at hz
       by_cases e2 : f = d.fid
       · rw [if_pos e2] at hz; cases hz; exact ⟨okd, by rw [e2]; exact (R.at hd).2.1⟩
       · rw [if_neg e2] at hz; exact ⟨(R.at hz).1, (R.at hz).2.1⟩
   · have hpos := cT_mem hz hqz
     have hqn : q.fid ≠ n.fid := fun e => by rw [e, hz0] at hpos; omega
     rw [hN] at hz
     by_cases e : f = n.fid
     · rw [if_pos e] at hz; cases hz
     · rw [if_neg e] at hz
       have key : q.fid ≠ 1 ∧ ∃ y, getF l q.fid = some y := by
         by_cases e2 : f = d.fid
         · rw [if_pos e2] at hz; cases hz; exact R.kids hd (hmem q hqz).1
         · rw [if_neg e2] at hz; exact R.kids hz hqz
       obtain ⟨a, b, hb⟩ := key
       refine ⟨a, ?_⟩
       rw [hN, if_neg hqn]
       split
       · rfl
       · rw [hb]; rfl
   · rw [hN, if_neg (fun e => hn1 e.symm)]
     by_cases e : (1 : Int) = d.fid
     · rw [if_pos e]
       rw [← e, hr0] at hd
       cases hd
       exact ⟨_, rfl, hr1, hr2⟩
     · rw [if_neg e]; exact ⟨r0, hr0, hr1, hr2⟩
   · have hcf := hc f
     rw [hN] at hz
     by_cases e : f = n.fid
     · rw [if_pos e] at hz; cases hz
     · rw [if_neg e] at hz
       rw [if_neg (fun h => e h.symm)] at hcf
       rw [show cT f (outL (setL l (d.kids none 0 (entL d.ks s 0))) n.fid) = cT f l by omega]
       by_cases e2 : f = d.fid
       · rw [if_pos e2] at hz; cases hz
         have := R.links hd (by rw [← e2]; exact hne1)
         rw [e2]; exact this
       · rw [if_neg e2] at hz
         exact R.links hz hne1
   · refine ⟨rk, fun f g hE => hrk f g (ed_mono (fun f z hz q hqz => ?_) (fun g dd hg hdk => ?_) hE)⟩
     · rw [hN] at hz
       by_cases e : f = n.fid
       · rw [if_pos e] at hz; cases hz
       · rw [if_neg e] at hz
         by_cases e2 : f = d.fid
         · rw [if_pos e2] at hz; cases hz; exact ⟨d, by rw [e2]; exact hd, q, (hmem q hqz).1, rfl⟩
         · rw [if_neg e2] at hz; exact ⟨z, hz, q, hqz, rfl⟩
     · rw [hN] at hg
       by_cases e : g = n.fid
       · rw [if_pos e] at hg; cases hg
       · rw [if_neg e] at hg
         by_cases e2 : g = d.fid
         · exact ⟨d, by rw [e2]; exact hd, hk⟩
         · rw [if_neg e2] at hg; exact ⟨dd, hg, hdk⟩
 · rw [if_neg hl]
   have hnd : n.k ≠ 2 := fun e => hl (by have := b3 e; omega)
   show Rt (setL (setL l (d.kids none 0 (entL d.ks s 0))) (n.lnk (n.ln - 1)))
   have hN : ∀ g, getF (setL (setL l (d.kids none 0 (entL d.ks s 0))) (n.lnk (n.ln - 1))) g = if g = n.fid then some (n.lnk (n.ln - 1)) else if g = d.fid then some (d.kids none 0 (entL d.ks s 0)) else getF l g := fun g => by rw [getF_set, hN1]; rfl
   have hc : ∀ g, cT g (setL (setL l (d.kids none 0 (entL d.ks s 0))) (n.lnk (n.ln - 1))) + (if n.fid = g then 1 else 0) = cT g l := fun g => by
     have h1 := cT_set g (n.lnk (n.ln - 1)) s1
     rw [show (n.lnk (n.ln - 1)).fid = n.fid from rfl, hN1n] at h1
     simp only [Option.elim] at h1
     have e3 : cN g (n.lnk (n.ln - 1)) = cN g n := rfl
     have := hc1 g
     omega
   have hlen : (setL (setL l (d.kids none 0 (entL d.ks s 0))) (n.lnk (n.ln - 1))).length = l.length := by
     have h1 := len_set (n.lnk (n.ln - 1)) s1
     rw [show (n.lnk (n.ln - 1)).fid = n.fid from rfl, hN1n] at h1
     simp only [Option.elim] at h1
     omega
   have new : ∀ g, (getF l g).isSome = true → (getF (setL (setL l (d.kids none 0 (entL d.ks s 0))) (n.lnk (n.ln - 1))) g).isSome = true := fun g h => by
     rw [hN]; split
     · rfl
     · split
       · rfl
       · exact h
   refine Rt.of (by rw [hlen]; exact R.few) (srt_set _ s1) (fun f z hz => ?_) (fun f z hz q hqz => ?_) ?_ (fun f z hz hne1 => ?_) ?_
   · rw [hN] at hz
     by_cases e : f = n.fid
     · rw [if_pos e] at hz; cases hz
       obtain ⟨⟨a1, a2, a3, a4⟩, a5, _⟩ := R.at hn0
       exact ⟨⟨a1, a2, a3, a4⟩, by omega⟩
     · rw [if_neg e] at hz
       by_cases e2 : f = d.fid
       · rw [if_pos e2] at hz; cases hz; exact ⟨okd, by rw [e2]; exact (R.at hd).2.1⟩
       · rw [if_neg e2] at hz; exact ⟨(R.at hz).1, (R.at hz).2.1⟩
   · rw [hN] at hz
     have key : q.fid ≠ 1 ∧ ∃ y, getF l q.fid = some y := by
       by_cases e : f = n.fid
       · rw [if_pos e] at hz; cases hz; exact R.kids hn0 hqz
       · rw [if_neg e] at hz
         by_cases e2 : f = d.fid
         · rw [if_pos e2] at hz; cases hz; exact R.kids hd (hmem q hqz).1
         · rw [if_neg e2] at hz; exact R.kids hz hqz
     obtain ⟨a, b, hb⟩ := key
     exact ⟨a, new _ (by rw [hb]; rfl)⟩
   · rw [hN, if_neg (fun e => hn1 e.symm)]
     by_cases e : (1 : Int) = d.fid
     · rw [if_pos e]
       rw [← e, hr0] at hd
       cases hd
       exact ⟨_, rfl, hr1, hr2⟩
     · rw [if_neg e]; exact ⟨r0, hr0, hr1, hr2⟩
   · have hcf := hc f
     rw [hN] at hz
     by_cases e : f = n.fid
     · rw [if_pos e] at hz; cases hz
       rw [e, if_pos rfl] at hcf
       rw [e]
       refine ⟨by omega, by show n.ln - 1 = _; omega, fun h => absurd h hnd⟩
     · rw [if_neg e] at hz
       rw [if_neg (fun h => e h.symm)] at hcf
       rw [show cT f (setL (setL l (d.kids none 0 (entL d.ks s 0))) (n.lnk (n.ln - 1))) = cT f l by omega]
       by_cases e2 : f = d.fid
       · rw [if_pos e2] at hz; cases hz
         have := R.links hd (by rw [← e2]; exact hne1)
         rw [e2]; exact this
       · rw [if_neg e2] at hz
         exact R.links hz hne1
   · refine ⟨rk, fun f g hE => hrk f g (ed_mono (fun f z hz q hqz => ?_) (fun g dd hg hdk => ?_) hE)⟩
     · rw [hN] at hz
       by_cases e : f = n.fid
       · rw [if_pos e] at hz; cases hz; exact ⟨n, by rw [e]; exact hn0, q, hqz, rfl⟩
       · rw [if_neg e] at hz
         by_cases e2 : f = d.fid
         · rw [if_pos e2] at hz; cases hz; exact ⟨d, by rw [e2]; exact hd, q, (hmem q hqz).1, rfl⟩
         · rw [if_neg e2] at hz; exact ⟨z, hz, q, hqz, rfl⟩
     · rw [hN] at hg
       by_cases e : g = n.fid
       · rw [if_pos e] at hg; cases hg; exact absurd hdk hnd
       · rw [if_neg e] at hg
         by_cases e2 : g = d.fid
         · exact ⟨d, by rw [e2]; exact hd, hk⟩
         · rw [if_neg e2] at hg; exact ⟨dd, hg, hdk⟩
theorem cT_two {m : List Nd} (hs : Srt m) {f b g : Int} {x y : Nd} (hf : getF m f = some x) (hb : getF m b = some y) (hne : f ≠ b) {q r : Kd} (hq : q ∈ x.ks) (hr : r ∈ y.ks) (eq : q.fid = g) (er : r.fid = g) : 2 ≤ cT g m := by
 have h1 := cT_out g b hs
 rw [hb] at h1
 simp only [Option.elim] at h1
 have h2 : 0 < cN g y := wsm_pos hr (by simp [er])
 have h3 : getF (outL m b) f = some x := by rw [getF_out, if_neg hne]; exact hf
 have h4 := cT_mem h3 hq
 rw [eq] at h4
 omega
theorem Rt.move0 {l : List Nd} (R : Rt l) {a b n : Nd} {s s2 : ByteArray} (ha : getF l a.fid = some a) (hq : kq a.ks s = some ⟨s, n.fid⟩) (hn : getF l n.fid = some n) (hb : getF l b.fid = some b) (hbk : b.k = 2)
   (hs2 : Pa.nameB s2.data.toList = true) (hfree : kq b.ks s2 = none) (hroom : b.fid = a.fid ∨ b.ks.length < 12)
   (hS : n.k = 2 → ∃ S : Int → Prop, S n.fid ∧ ¬ S b.fid ∧ ∀ f g, Ed l f g → g ≠ n.fid → (S f ↔ S g)) (m : List Nd) (hm : Srt m) (hml : m.length = l.length)
   (A B : List Kd) (hA : A = entL a.ks s 0) (hB : B = entL (if b.fid = a.fid then A else b.ks) s2 n.fid)
   (hN : ∀ g, getF m g = if g = b.fid then some (b.kids none 0 B) else if g = a.fid then some (a.kids none 0 A) else getF l g) : Rt m := by
 have hqm := (kq_some hq).1
 have hak := R.isdir ha hqm
 have hna : n.fid ≠ a.fid := R.self ha hqm
 have hn1 : n.fid ≠ 1 := (R.kids ha hqm).1
 have hn0 : n.fid ≠ 0 := by have := (R.at hn).2.1; omega
 have hKa := R.kok ha hak
 have hKb := R.kok hb hbk
 have hab : b.fid = a.fid → b = a := fun e => by rw [e, ha] at hb; exact (Option.some.inj hb).symm
 have hKA : KOk A := by rw [hA]; exact kok_ent hKa s 0 (fun h => absurd rfl h)
 have hK1 : KOk (if b.fid = a.fid then A else b.ks) := by split <;> assumption
 have hKB : KOk B := by rw [hB]; exact kok_ent hK1 s2 n.fid (fun _ => hs2)
 have hq1 : kq (if b.fid = a.fid then A else b.ks) s2 = none := by
   split
   · rename_i e
     rw [hA, kq_ent]
     split
     · rfl
     · rw [← hab e]; exact hfree
   · exact hfree
 have hcA : ∀ g, cK g A + (if n.fid = g then 1 else 0) = cK g a.ks := fun g => by
   have := cK_ent g s 0 hKa.1
   rw [hq, ← hA] at this
   simpa [Option.elim] using this
 have hcB : ∀ g, cK g B = cK g (if b.fid = a.fid then A else b.ks) + (if n.fid = g then 1 else 0) := fun g => by
   have := cK_ent g s2 n.fid hK1.1
   rw [hq1, if_neg hn0, ← hB] at this
   simpa [Option.elim] using this
 have hlA : A.length + 1 = a.ks.length := by
   have := klen_ent s 0 hKa.1
   rw [hq, ← hA] at this
   simpa [Option.elim] using this
 have hlB : B.length ≤ 12 := by
   have := klen_ent s2 n.fid hK1.1
   rw [hq1, if_neg hn0, ← hB] at this
   simp only [Option.elim] at this
   have h12 := (R.at ha).1.2.2.1
   split at this
   · omega
   · rename_i e
     rcases hroom with h | h
     · exact absurd h e
     · omega
 have memA : ∀ q ∈ A, q ∈ a.ks ∧ q.nm ≠ s := fun q h => by
   rw [hA, entL_zero, List.mem_filter] at h
   exact ⟨h.1, by simpa using h.2⟩
 have memB : ∀ q ∈ B, q ∈ b.ks ∨ q = ⟨s2, n.fid⟩ := fun q h => by
   rw [hB] at h
   rcases entL_mem h with e | e
   · exact .inr e
   · left
     split at e
     · rename_i e2; rw [hab e2]; exact (memA q e).1
     · exact e
 have inB : (⟨s2, n.fid⟩ : Kd) ∈ B := by
   have : kq B s2 = some ⟨s2, n.fid⟩ := by rw [hB, kq_ent, if_pos rfl, if_neg hn0]
   exact (kq_some this).1
 -- counts
 have hc : ∀ g, cT g m = cT g l := fun g => by
   by_cases e : b.fid = a.fid
   · have hmE : m = setL l (b.kids none 0 B) := srt_ext hm (srt_set _ R.srt) (fun g => by
       rw [hN, getF_set]
       show _ = if g = b.fid then some (b.kids none 0 B) else getF l g
       by_cases e1 : g = b.fid
       · rw [if_pos e1, if_pos e1]
       · rw [if_neg e1, if_neg e1, if_neg (by rw [← e]; exact e1)])
     have h1 := cT_set g (b.kids none 0 B) R.srt
     rw [← hmE, show (b.kids none 0 B).fid = b.fid from rfl, hb] at h1
     simp only [Option.elim] at h1
     have e2 : cN g (b.kids none 0 B) = cK g B := rfl
     have e3 : cN g b = cK g a.ks := by rw [hab e]; rfl
     have h2 := hcB g
     rw [if_pos e] at h2
     have h3 := hcA g
     omega
   · have hmE : m = setL (setL l (a.kids none 0 A)) (b.kids none 0 B) := srt_ext hm (srt_set _ (srt_set _ R.srt)) (fun g => by
       rw [hN, getF_set, getF_set]
       rfl)
     have h1 := cT_set g (b.kids none 0 B) (srt_set (a.kids none 0 A) R.srt)
     have h4 := cT_set g (a.kids none 0 A) R.srt
     rw [← hmE, show (b.kids none 0 B).fid = b.fid from rfl, getF_set, if_neg (show b.fid ≠ (a.kids none 0 A).fid from e), hb] at h1
     rw [show (a.kids none 0 A).fid = a.fid from rfl, ha] at h4
     simp only [Option.elim] at h1 h4
     have e2 : cN g (b.kids none 0 B) = cK g B := rfl
     have e3 : cN g b = cK g b.ks := rfl
     have e4 : cN g (a.kids none 0 A) = cK g A := rfl
     have e5 : cN g a = cK g a.ks := rfl
     have h2 := hcB g
     rw [if_neg e] at h2
     have h3 := hcA g
     omega
 have old : ∀ f z, getF m f = some z → ∃ z0, getF l f = some z0 ∧ z.k = z0.k ∧ z.ln = z0.ln := fun f z hz => by
   rw [hN] at hz
   by_cases e : f = b.fid
   · rw [if_pos e] at hz; cases hz; exact ⟨b, by rw [e]; exact hb, rfl, rfl⟩
   · rw [if_neg e] at hz
     by_cases e2 : f = a.fid
     · rw [if_pos e2] at hz; cases hz; exact ⟨a, by rw [e2]; exact ha, rfl, rfl⟩
     · rw [if_neg e2] at hz; exact ⟨z, hz, rfl, rfl⟩
 have new : ∀ g, (getF l g).isSome = true → (getF m g).isSome = true := fun g h => by
   rw [hN]; split
   · rfl
   · split
     · rfl
     · exact h
 have oldk : ∀ f z, getF m f = some z → ∀ q ∈ z.ks, (∃ z0, getF l f = some z0 ∧ q ∈ z0.ks) ∨ (f = b.fid ∧ q = ⟨s2, n.fid⟩) := fun f z hz q hqz => by
   rw [hN] at hz
   by_cases e : f = b.fid
   · rw [if_pos e] at hz; cases hz
     rcases memB q hqz with h | h
     · exact .inl ⟨b, by rw [e]; exact hb, h⟩
     · exact .inr ⟨e, h⟩
   · rw [if_neg e] at hz
     by_cases e2 : f = a.fid
     · rw [if_pos e2] at hz; cases hz; exact .inl ⟨a, by rw [e2]; exact ha, (memA q hqz).1⟩
     · rw [if_neg e2] at hz; exact .inl ⟨z, hz, hqz⟩
 have zsN : ∀ {d : Nd}, getF l d.fid = some d → d.k = 2 → d.zs = [] := fun {d} hd hk => by
   obtain ⟨⟨_, _, _, a4⟩, _⟩ := R.at hd
   rcases a4 with a4 | a4
   · omega
   · exact a4.2.1
 refine Rt.of (by rw [hml]; exact R.few) hm (fun f z hz => ?_) (fun f z hz q hqz => ?_) ?_ (fun f z hz hne1 => ?_) ?_
 · have hz' := hz
   rw [hN] at hz
   by_cases e : f = b.fid
   · rw [if_pos e] at hz; cases hz
     obtain ⟨⟨a1, a2, a3, a4⟩, a5, _⟩ := R.at hb
     exact ⟨⟨a1, a2, hlB, .inr ⟨hbk, (show b.zs = [] from zsN hb hbk), hKB⟩⟩, by omega⟩
   · rw [if_neg e] at hz
     by_cases e2 : f = a.fid
     · rw [if_pos e2] at hz; cases hz
       obtain ⟨⟨a1, a2, a3, a4⟩, a5, _⟩ := R.at ha
       exact ⟨⟨a1, a2, by show A.length ≤ 12; omega, .inr ⟨hak, (show a.zs = [] from zsN ha hak), hKA⟩⟩, by omega⟩
     · rw [if_neg e2] at hz; exact ⟨(R.at hz).1, (R.at hz).2.1⟩
 · rcases oldk f z hz q hqz with ⟨z0, h0, h1⟩ | ⟨_, h1⟩
   · obtain ⟨a1, y, hy⟩ := R.kids h0 h1
     exact ⟨a1, new _ (by rw [hy]; rfl)⟩
   · rw [h1]; exact ⟨hn1, new _ (by rw [hn]; rfl)⟩
 · obtain ⟨r, hr, h1, h2⟩ := R.root
   have := new 1 (by rw [hr]; rfl)
   obtain ⟨z, hz⟩ := Option.isSome_iff_exists.1 this
   obtain ⟨z0, h0, e1, e2⟩ := old 1 z hz
   rw [hr] at h0
   cases h0
   exact ⟨z, hz, by rw [e1, h1], by rw [e2, h2]⟩
 · obtain ⟨z0, h0, e1, e2⟩ := old f z hz
   rw [hc, e1, e2]
   exact R.links h0 hne1
 · obtain ⟨r, hr⟩ := R.rank
   have hbm : getF m b.fid = some (b.kids none 0 B) := by rw [hN, if_pos rfl]
   have edo : ∀ f g, Ed m f g → g ≠ n.fid ∨ n.k ≠ 2 → Ed l f g := fun f g hE hg => by
     obtain ⟨x, d, h1, ⟨q, hqx, eq⟩, h3, h4⟩ := hE
     obtain ⟨d0, h5, e1, _⟩ := old g d h3
     rcases oldk f x h1 q hqx with ⟨z0, h0, h2⟩ | ⟨_, h2⟩
     · exact ⟨z0, d0, h0, ⟨q, h2, eq⟩, h5, by rw [← e1]; exact h4⟩
     · exfalso
       rw [h2] at eq
       simp only at eq
       rcases hg with hg | hg
       · exact hg eq.symm
       · rw [← eq, hn] at h5
         cases h5
         exact hg (by rw [← e1]; exact h4)
   by_cases hnk : n.k = 2
   · obtain ⟨S, s1, s2', s3⟩ := hS hnk
     classical
     refine ⟨fun x => if S x then r x + (r b.fid + 1) else r x, fun f g hE => ?_⟩
     by_cases eg : g = n.fid
     · have efb : f = b.fid := by
         by_cases e : f = b.fid
         · exact e
         · exfalso
           obtain ⟨x, d, h1, ⟨q, hqx, eq⟩, h3, h4⟩ := hE
           have h2 := cT_two hm h1 hbm e hqx inB (eq.trans eg) rfl
           rw [hc] at h2
           have := (R.links hn hn1).2.2 hnk
           omega
       rw [efb, eg]
       simp only [if_neg s2', if_pos s1]
       omega
     · have h1 := edo f g hE (.inl eg)
       have h2 := hr f g h1
       have h3 := s3 f g h1 eg
       by_cases hf : S f
       · simp only [if_pos hf, if_pos (h3.1 hf)]; omega
       · simp only [if_neg hf, if_neg (fun h => hf (h3.2 h))]; omega
   · exact ⟨r, fun f g hE => hr f g (edo f g hE (.inr hnk))⟩
end Go.Proofs.YtfmghbennahlfaaGreat
