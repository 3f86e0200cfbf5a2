/-
  Trees, plainly: which nodes are a tree, in words that an operation can be held against.
  Trees, plainly: what is right by itself, in plain words; a tree's words by what is found in it; who is above whom.
  Trees, plainly: a tree stays one where a node is written, made, gets one more entry, loses one.
  Trees, plainly: a tree stays one where a node gets one more entry, loses one.
  Trees, plainly: a tree stays one where an entry is moved.
-/
import Derived.Test.YtihgiemgcmpmmaaGreatShAr
import Derived.Test.YtihgiemgcmpmmaaGreatShAp
namespace Go.Proofs.YtihgiemgcmpmmaaGreat
set_option linter.unusedVariables false
set_option linter.unusedSimpArgs false
def Ed (l : List Nd) (f g : Int) : Prop := ∃ x d, getF l f = some x ∧ (∃ q ∈ x.ks, q.fid = g) ∧ getF l g = some d ∧ d.k = 2
structure Rt (l : List Nd) : Prop where
 few : l.length ≤ 40
 srt : Srt l
 ok : ∀ x ∈ l, nodeOk x = true ∧ 0 < x.fid
 kid : ∀ x ∈ l, ∀ q ∈ x.ks, q.fid ≠ 1 ∧ (getF l q.fid).isSome = true
 root : ∃ r, getF l 1 = some r ∧ r.k = 2 ∧ r.ln = 0
 lnk : ∀ x ∈ l, x.fid ≠ 1 → 1 ≤ cT x.fid l ∧ x.ln = cT x.fid l ∧ (x.k = 2 → cT x.fid l = 1)
 rank : ∃ r : Int → Nat, ∀ f g, Ed l f g → r f < r g
theorem getD_at {l : List Nd} {i : Nat} (hi : i < l.length) : l.getD i Nd.no = l[i] := by simp [List.getD, hi]
theorem srt_up {l : List Nd} (h : upTo l l.length = true) : Srt l := by
 unfold Srt Ris
 rw [List.pairwise_iff_getElem]
 intro i j hi hj hij
 have := up_mono h j i hij hj
 rw [getD_at hi, getD_at hj] at this
 unfold leI
 simpa using this
theorem up_srt {l : List Nd} (h : Srt l) (hp : ∀ x ∈ l, 0 < x.fid) : upTo l l.length = true := upTo_mk (fun i hi => by
 unfold lastFd
 split
 · rw [getD_at hi]; exact hp _ (List.getElem_mem hi)
 · rename_i h0
   rw [getD_at hi, getD_at (show i - 1 < l.length by omega)]
   have := List.pairwise_iff_getElem.1 h (i - 1) i (by omega) hi (by omega)
   unfold leI at this
   simpa using this)
theorem N0_get {l : List Nd} (hu : upTo l l.length = true) (f : Int) : (N0 l f).map (·.2) = getF l f := by
 cases hq : N0 l f with
 | none =>
   simp only [Option.map_none]
   cases hg : getF l f with
   | none => rfl
   | some x =>
     exfalso
     obtain ⟨hx, rfl⟩ := getF_mem hg
     obtain ⟨i, hi, rfl⟩ := List.getElem_of_mem hx
     obtain ⟨p, hp⟩ := N0_at hu hi
     rw [getD_at hi, hq] at hp
     cases hp
 | some z =>
   obtain ⟨p, x⟩ := z
   obtain ⟨i, hi, e, hf⟩ := N0_of hq
   simp only [Option.map_some]
   rw [getD_at hi] at e
   subst e
   rw [← hf, srt_get (srt_up hu) (List.getElem_mem hi)]
theorem dir_get {l : List Nd} (hu : upTo l l.length = true) (g : Int) : isDirT (N0 l) g = true ↔ ∃ d, getF l g = some d ∧ d.k = 2 := by
 unfold isDirT
 have := N0_get hu g
 cases hq : N0 l g with
 | none =>
   rw [hq] at this
   simp only [Option.map_none] at this
   constructor
   · intro h; cases h
   · rintro ⟨d, hd, _⟩; rw [← this] at hd; cases hd
 | some z =>
   rw [hq] at this
   simp only [Option.map_some] at this
   simp only
   constructor
   · intro h; exact ⟨z.2, this.symm, by simpa using h⟩
   · rintro ⟨d, hd, hk⟩
     rw [← this] at hd
     cases hd
     simpa using hk
theorem edge_ed {l : List Nd} (hu : upTo l l.length = true) (f g : Int) : Edge (N0 l) f g ↔ Ed l f g := by
 constructor
 · rintro ⟨p, x, i, h1, h2, h3, h4⟩
   obtain ⟨d, hd, hk⟩ := (dir_get hu g).1 h4
   have := N0_get hu f
   rw [h1] at this
   simp only [Option.map_some] at this
   exact ⟨x, d, this.symm, ⟨_, getD_mem x.ks Kd.no h2, h3⟩, hd, hk⟩
 · rintro ⟨x, d, h1, ⟨q, hq, e⟩, hd, hk⟩
   have := N0_get hu f
   rw [h1] at this
   cases hn : N0 l f with
   | none => rw [hn] at this; cases this
   | some z =>
     rw [hn] at this
     simp only [Option.map_some, Option.some.injEq] at this
     obtain ⟨i, hi, rfl⟩ := List.getElem_of_mem hq
     obtain ⟨p, y⟩ := z
     simp only at this
     subst this
     exact ⟨p, y, i, hn, hi, by simpa [List.getD, hi] using e, (dir_get hu g).2 ⟨d, hd, hk⟩⟩
def stp (l : List Nd) : Nat → Int → Nat
 | 0, _ => 0
 | n + 1, f => bif f == 1 then 0 else 1 + stp l n (upD l f)
theorem stp_more (l : List Nd) : ∀ (n : Nat) (f : Int), abN l 1 n f = true → stp l (n + 1) f = stp l n f
 | 0, f, h => by cases h
 | n + 1, f, h => by
   unfold abN at h
   unfold stp
   cases q : (f == 1) with
   | true => rfl
   | false =>
     rw [q] at h
     cases q2 : (upD l f == 0) with
     | true => rw [q2] at h; cases h
     | false =>
       rw [q2] at h
       simp only [cond_false] at h ⊢
       rw [stp_more l n _ h]
theorem rightD_rt {l : List Nd} : rightD l = true ↔ Rt l := by
 constructor
 · intro h
   have hR := (rightD_iff l).2 h
   obtain ⟨htok, hz⟩ := rightD_tok h
   have hR' := hR
   obtain ⟨h1, h2, h3, h4, h5, h6⟩ := hR
   have hu : upTo l l.length = true := h2
   have B : Base l := ⟨h1, h2, h3, h4, h5⟩
   have hok := right_ok hR'
   have hs := srt_up hu
   have hpos : ∀ x ∈ l, 0 < x.fid := fun x hx => by
     obtain ⟨i, hi, rfl⟩ := List.getElem_of_mem hx
     have := B.pos i hi
     rwa [getD_at hi] at this
   have hlk : ∀ x ∈ l, linkB (kfs l) x = true := fun x hx => by
     obtain ⟨i, hi, rfl⟩ := List.getElem_of_mem hx
     have := linksTo_all h5 i hi
     rwa [getD_at hi] at this
   have hc1 : (kfs l).count 1 = 0 := no_root (fun x hx => (h4 x hx).2)
   refine ⟨h1, hs, fun x hx => ⟨hok x hx, hpos x hx⟩, fun x hx q hq => ?_, ?_, fun x hx hne => ?_, ?_⟩
   · obtain ⟨j, hj, rfl⟩ := List.getElem_of_mem hq
     have h7 := haveTo_all (h4 x hx).2 j hj
     rw [show x.ks.getD j Kd.no = x.ks[j] by simp [List.getD, hj]] at h7
     refine ⟨h7.1, ?_⟩
     have := N0_get hu (x.ks[j]).fid
     rw [← this, Option.isSome_map]
     exact h7.2
   · obtain ⟨r, hr, hk⟩ := (dir_get hu 1).1 h3
     have hm := getF_mem hr
     have := hlk r hm.1
     unfold linkB at this
     rw [Bool.and_eq_true, beq_iff_eq, hm.2, hc1] at this
     exact ⟨r, hr, hk, this.1⟩
   · have := hlk x hx
     unfold linkB at this
     have e : (x.fid == 1) = false := beq_eq_false_iff_ne.2 hne
     rw [e] at this
     simp only [Bool.and_eq_true, beq_iff_eq, Bool.false_or, Bool.not_eq_true', Bool.or_eq_false_iff, decide_eq_false_iff_not, Bool.and_eq_false_iff] at this
     rw [cT_count]
     refine ⟨by omega, this.1, fun hk => ?_⟩
     rcases this.2.2 with q | q
     · rw [hk] at q; cases q
     · omega
   · have hab := (ring_ab B).1 h6
     refine ⟨fun f => stp l (l.length + 1) f, fun f g hE => ?_⟩
     have hE2 := (edge_ed hu f g).2 hE
     have hup := B.upOf hE2
     have hne := B.ne1 hE2
     obtain ⟨x, d, hf, _, hd, hk⟩ := hE
     obtain ⟨i, hi, e⟩ := List.getElem_of_mem (getF_mem hd).1
     have h7 := hab i hi
     rw [getD_at hi, e] at h7
     unfold lkU at h7
     have e2 : (d.k == 2) = true := by rw [hk]; rfl
     rw [e2, (getF_mem hd).2] at h7
     simp only [Bool.not_true, Bool.false_or] at h7
     have e3 : (g == 1) = false := beq_eq_false_iff_ne.2 hne
     have h8 : abN l 1 l.length f = true := by
       unfold abN at h7
       rw [e3, hup] at h7
       simp only [cond_false] at h7
       cases q : (f == 0) with
       | true => rw [q] at h7; cases h7
       | false => rw [q] at h7; exact h7
     show stp l (l.length + 1) f < stp l (l.length + 1) g
     rw [stp_more l _ f h8]
     show _ < (bif g == 1 then 0 else 1 + stp l l.length (upD l g))
     rw [e3, hup]
     simp only [cond_false]
     omega
 · intro h
   obtain ⟨h1, hs, hok, hkid, ⟨r, hr, hrk, hrl⟩, hlnk, ⟨rk, hrank⟩⟩ := h
   rw [← rightD_iff]
   have hu : upTo l l.length = true := up_srt hs (fun x hx => (hok x hx).2)
   have h3 : isDirT (N0 l) 1 = true := (dir_get hu 1).2 ⟨r, hr, hrk⟩
   have h4 : ∀ x ∈ l, aloneB x = true ∧ haveB (N0 l) x.ks = true := fun x hx => by
     refine ⟨alone_of (hok x hx).1, ?_⟩
     unfold haveB
     have : ∀ m, m ≤ x.ks.length → haveTo (N0 l) x.ks m = true := fun m => by
       induction m with
       | zero => intro _; rfl
       | succ m ih =>
         intro hm
         simp only [haveTo, ih (by omega), Bool.true_and]
         rw [show x.ks.getD m Kd.no = x.ks[m] by simp [List.getD, show m < x.ks.length by omega]]
         obtain ⟨a1, a2⟩ := hkid x hx _ (List.getElem_mem (show m < x.ks.length by omega))
         rw [Bool.and_eq_true]
         refine ⟨by simpa using a1, ?_⟩
         have := N0_get hu (x.ks[m]).fid
         rw [← this, Option.isSome_map] at a2
         exact a2
     exact this _ (Nat.le_refl _)
   have hc1 : (kfs l).count 1 = 0 := no_root (fun x hx => (h4 x hx).2)
   have h5 : linksB l = true := by
     refine linksTo_mk (fun i hi => ?_)
     rw [getD_at hi]
     have hx := List.getElem_mem hi
     unfold linkB
     by_cases e : (l[i]).fid = 1
     · have : l[i] = r := by
         have := srt_get hs hx
         rw [e, hr] at this
         exact (Option.some.inj this).symm
       rw [this, (getF_mem hr).2, hc1, hrl]
       rfl
     · obtain ⟨b1, b2, b3⟩ := hlnk _ hx e
       rw [cT_count] at b1 b2 b3
       have e1 : ((l[i]).fid == 1) = false := beq_eq_false_iff_ne.2 e
       have e2 : decide (((kfs l).count (l[i]).fid : Int) < 1) = false := decide_eq_false (by omega)
       rw [e1, e2]
       simp only [Bool.and_eq_true, beq_iff_eq, Bool.false_or, Bool.not_eq_true', Bool.and_eq_false_iff, decide_eq_false_iff_not]
       refine ⟨b2, ?_⟩
       by_cases hk : (l[i]).k = 2
       · right; have := b3 hk; omega
       · left; simpa using hk
   refine ⟨h1, hu, h3, h4, h5, fun hring => ?_⟩
   obtain ⟨G, ks, f, p, _, _, hpar, hG, hlead⟩ := hring
   have hlt : ∀ f g, G g = some f → rk f < rk g := fun f g e => hrank f g ((edge_ed hu f g).1 ((hpar f g).1 e))
   have hup : ∀ (n : Nat) (top q : Int), upB G top n q = true → rk top < rk q := fun n => by
     induction n with
     | zero => intro top q e; cases e
     | succ n ih =>
       intro top q e
       unfold upB at e
       cases hq : G q with
       | none => rw [hq] at e; cases e
       | some a =>
         rw [hq] at e
         simp only [Bool.or_eq_true, beq_iff_eq] at e
         have h9 := hlt a q hq
         rcases e with e | e
         · rw [← e]; exact h9
         · have := ih top a e; omega
   have h9 := hlt p f hG
   unfold leadB at hlead
   simp only [Bool.or_eq_true, beq_iff_eq] at hlead
   rcases hlead with e | e
   · rw [e] at h9; omega
   · have := hup _ _ _ e; omega
end Go.Proofs.YtihgiemgcmpmmaaGreat
namespace Go.Proofs.YtihgiemgcmpmmaaGreat
set_option linter.unusedVariables false
set_option linter.unusedSimpArgs false
def KOk (l : List Kd) : Prop := KSrt l ∧ ∀ q ∈ l, Pa.nameB q.nm.data.toList = true ∧ q.fid ≠ 0
theorem kidsTo_mk {l : List Kd} : ∀ {m : Nat}, (∀ i, i < m → kOk l i = true) → kidsTo l m = true
 | 0, _ => rfl
 | m + 1, h => by
   unfold kidsTo
   rw [Bool.and_eq_true]
   exact ⟨kidsTo_mk (fun i hi => h i (by omega)), h m (by omega)⟩
theorem kgetD {l : List Kd} {i : Nat} (hi : i < l.length) : l.getD i Kd.no = l[i] := by simp [List.getD, hi]
theorem kidsOk_iff (l : List Kd) : kidsOk l = true ↔ KOk l := by
 unfold kidsOk
 constructor
 · intro h
   have hk := fun i hi => kidsTo_all h i hi
   have hstep : ∀ i, (hi : i + 1 < l.length) → leS (l[i + 1]).nm (l[i]).nm = false := fun i hi => by
     have := hk (i + 1) hi
     unfold kOk at this
     rw [lastK_next, kgetD hi, kgetD (show i < l.length by omega)] at this
     simp only [Bool.and_eq_true, Bool.not_eq_true'] at this
     exact this.1.2
   have hlt : ∀ j i, (hij : i < j) → (hj : j < l.length) → leS (l[j]).nm (l[i]'(by omega)).nm = false := fun j => by
     induction j with
     | zero => intro i hij; omega
     | succ j ih =>
       intro i hij hj
       have h1 := hstep j hj
       by_cases e : i = j
       · subst e; exact h1
       · have h2 := ih i (by omega) (by omega)
         cases q : leS (l[j + 1]).nm (l[i]'(by omega)).nm with
         | false => rfl
         | true =>
           exfalso
           rcases leS_total (l[j]).nm (l[j + 1]).nm with t | t
           · have := leS_trans _ _ _ t q
             rw [h2] at this; cases this
           · rw [h1] at t; cases t
   refine ⟨?_, fun q hq => ?_⟩
   · unfold KSrt Ris
     rw [List.pairwise_iff_getElem]
     exact fun i j hi hj hij => hlt j i hij hj
   · obtain ⟨i, hi, rfl⟩ := List.getElem_of_mem hq
     have := hk i hi
     unfold kOk at this
     rw [kgetD hi] at this
     simp only [Bool.and_eq_true, bne_iff_ne] at this
     exact ⟨this.1.1, this.2⟩
 · rintro ⟨hs, hq⟩
   refine kidsTo_mk (fun i hi => ?_)
   unfold kOk
   rw [kgetD hi]
   obtain ⟨h1, h2⟩ := hq _ (List.getElem_mem hi)
   simp only [Bool.and_eq_true, Bool.not_eq_true', bne_iff_ne]
   refine ⟨⟨h1, ?_⟩, h2⟩
   unfold lastK
   split
   · exact le_nil h1
   · rw [kgetD (show i - 1 < l.length by omega)]
     exact List.pairwise_iff_getElem.1 hs (i - 1) i (by omega) hi (by omega)
def NOk (x : Nd) : Prop := x.fid ≠ 0 ∧ x.zs.length ≤ 64 ∧ x.ks.length ≤ 12 ∧ (((x.k = 1 ∨ x.k = 3) ∧ x.ks = []) ∨ (x.k = 2 ∧ x.zs = [] ∧ KOk x.ks))
theorem nodeOk_iff (x : Nd) : nodeOk x = true ↔ NOk x := by
 unfold nodeOk NOk
 rw [Bool.and_eq_true]
 have e1 : ((!(x.fid == 0 || decide (64 < x.zs.length) || decide (12 < x.ks.length))) = true) ↔ (x.fid ≠ 0 ∧ x.zs.length ≤ 64 ∧ x.ks.length ≤ 12) := by
   simp only [Bool.not_eq_true', Bool.or_eq_false_iff, beq_eq_false_iff_ne, decide_eq_false_iff_not, Nat.not_lt]
   constructor
   · rintro ⟨⟨a, b⟩, c⟩; exact ⟨a, b, c⟩
   · rintro ⟨a, b, c⟩; exact ⟨⟨a, b⟩, c⟩
 rw [e1]
 have e2 : ((bif x.k == 1 || x.k == 3 then decide (x.ks.length = 0) else bif x.k == 2 then decide (x.zs.length = 0) && kidsOk x.ks else false) = true) ↔ (((x.k = 1 ∨ x.k = 3) ∧ x.ks = []) ∨ (x.k = 2 ∧ x.zs = [] ∧ KOk x.ks)) := by
   by_cases h13 : x.k = 1 ∨ x.k = 3
   · have : (x.k == 1 || x.k == 3) = true := by simpa using h13
     rw [this]
     simp only [cond_true, decide_eq_true_eq, List.length_eq_zero_iff]
     constructor
     · intro h; exact .inl ⟨h13, h⟩
     · rintro (h | h)
       · exact h.2
       · omega
   · have : (x.k == 1 || x.k == 3) = false := by
       cases q : (x.k == 1 || x.k == 3) with
       | false => rfl
       | true => exact absurd (by simpa using q) h13
     rw [this]
     simp only [cond_false]
     by_cases h2 : x.k = 2
     · have : (x.k == 2) = true := by rw [h2]; rfl
       rw [this]
       simp only [cond_true, Bool.and_eq_true, decide_eq_true_eq, List.length_eq_zero_iff, kidsOk_iff]
       constructor
       · intro h; exact .inr ⟨h2, h⟩
       · rintro (h | h)
         · exact absurd h.1 h13
         · exact h.2
     · have : (x.k == 2) = false := beq_eq_false_iff_ne.2 h2
       rw [this]
       simp only [cond_false]
       constructor
       · intro h; cases h
       · rintro (h | h)
         · exact absurd h.1 h13
         · exact absurd h.1 h2
 rw [e2]
 constructor
 · rintro ⟨⟨a, b, c⟩, d⟩; exact ⟨a, b, c, d⟩
 · rintro ⟨a, b, c, d⟩; exact ⟨⟨a, b, c⟩, d⟩
section
variable {l : List Nd} (R : Rt l)
include R
theorem Rt.at {f : Int} {x : Nd} (h : getF l f = some x) : NOk x ∧ 0 < f ∧ x.fid = f := by
 obtain ⟨hm, e⟩ := getF_mem h
 obtain ⟨h1, h2⟩ := R.ok x hm
 exact ⟨(nodeOk_iff x).1 h1, by omega, e⟩
theorem Rt.kids {f : Int} {x : Nd} (h : getF l f = some x) {q : Kd} (hq : q ∈ x.ks) : q.fid ≠ 1 ∧ ∃ y, getF l q.fid = some y := by
 obtain ⟨h1, h2⟩ := R.kid x (getF_mem h).1 q hq
 exact ⟨h1, Option.isSome_iff_exists.1 h2⟩
theorem Rt.links {f : Int} {x : Nd} (h : getF l f = some x) (hne : f ≠ 1) : 1 ≤ cT f l ∧ x.ln = cT f l ∧ (x.k = 2 → cT f l = 1) := by
 obtain ⟨hm, e⟩ := getF_mem h
 have := R.lnk x hm (by rw [e]; exact hne)
 rw [e] at this
 exact this
theorem Rt.isdir {f : Int} {x : Nd} (h : getF l f = some x) {q : Kd} (hq : q ∈ x.ks) : x.k = 2 := by
 obtain ⟨⟨_, _, _, h1⟩, _⟩ := R.at h
 rcases h1 with h1 | h1
 · rw [h1.2] at hq; cases hq
 · exact h1.1
theorem Rt.kok {f : Int} {x : Nd} (h : getF l f = some x) (hk : x.k = 2) : KOk x.ks := by
 obtain ⟨⟨_, _, _, h1⟩, _⟩ := R.at h
 rcases h1 with h1 | h1
 · omega
 · exact h1.2.2
theorem Rt.noent {g : Int} (h : getF l g = none) : cT g l = 0 := by
 rcases Nat.eq_zero_or_pos (cT g l) with q | q
 · exact q
 · exfalso
   obtain ⟨x, hx, hp⟩ := wsm_ex q
   obtain ⟨k, hk, hp2⟩ := wsm_ex hp
   have e : k.fid = g := by
     by_cases e : k.fid = g
     · exact e
     · simp [e] at hp2
   have := (R.kid x hx k hk).2
   rw [e, h] at this
   cases this
end
theorem Rt.of {l : List Nd} (few : l.length ≤ 40) (srt : Srt l) (ok : ∀ f x, getF l f = some x → NOk x ∧ 0 < f)
   (kid : ∀ f x, getF l f = some x → ∀ q ∈ x.ks, q.fid ≠ 1 ∧ (getF l q.fid).isSome = true) (root : ∃ r, getF l 1 = some r ∧ r.k = 2 ∧ r.ln = 0)
   (lnk : ∀ f x, getF l f = some x → f ≠ 1 → 1 ≤ cT f l ∧ x.ln = cT f l ∧ (x.k = 2 → cT f l = 1)) (rank : ∃ r : Int → Nat, ∀ f g, Ed l f g → r f < r g) : Rt l :=
 ⟨few, srt, fun x hx => by have := ok _ _ (srt_get srt hx); exact ⟨(nodeOk_iff x).2 this.1, this.2⟩, fun x hx => kid _ _ (srt_get srt hx), root, fun x hx => lnk _ _ (srt_get srt hx), rank⟩
theorem cT_set (g : Int) (n : Nd) {l : List Nd} (h : Srt l) : cT g (setL l n) + (getF l n.fid).elim 0 (cN g) = cT g l + cN g n := wsm_set (cN g) n h
theorem cT_out (g f : Int) {l : List Nd} (h : Srt l) : cT g (outL l f) + (getF l f).elim 0 (cN g) = cT g l := wsm_out (cN g) f h
theorem len_set (n : Nd) {l : List Nd} (h : Srt l) : (setL l n).length + (getF l n.fid).elim 0 (fun _ => 1) = l.length + 1 := by
 have := wsm_set (fun _ => 1) n h
 rw [wsm_len, wsm_len] at this
 exact this
theorem len_out (f : Int) {l : List Nd} (h : Srt l) : (outL l f).length + (getF l f).elim 0 (fun _ => 1) = l.length := by
 have := wsm_out (fun _ => 1) f h
 rw [wsm_len, wsm_len] at this
 exact this
theorem cK_ent (g : Int) (s : ByteArray) (f : Int) {l : List Kd} (h : KSrt l) : cK g (entL l s f) + (kq l s).elim 0 (fun q => if q.fid = g then 1 else 0) = cK g l + (if f = 0 then 0 else if f = g then 1 else 0) := wsm_ent (fun q => if q.fid = g then 1 else 0) s f h
theorem klen_ent (s : ByteArray) (f : Int) {l : List Kd} (h : KSrt l) : (entL l s f).length + (kq l s).elim 0 (fun _ => 1) = l.length + (if f = 0 then 0 else 1) := by
 have := wsm_ent (fun _ => 1) s f h
 rw [wsm_len, wsm_len] at this
 exact this
theorem kok_ent {l : List Kd} (h : KOk l) (s : ByteArray) (f : Int) (hs : f ≠ 0 → Pa.nameB s.data.toList = true) : KOk (entL l s f) := by
 refine ⟨ksrt_ent s f h.1, fun q hq => ?_⟩
 by_cases hf : f = 0
 · subst hf
   rw [entL_zero] at hq
   exact h.2 q (List.mem_filter.1 hq).1
 · rcases entL_mem hq with e | e
   · rw [e]; exact ⟨hs hf, hf⟩
   · exact h.2 q e
theorem kq_none_iff {l : List Kd} (h : ∀ q ∈ l, q.fid ≠ 0) (s : ByteArray) : kidI l s = 0 ↔ kq l s = none := by
 rw [kidI_kq]
 cases hq : kq l s with
 | none => simp
 | some q =>
   have hm := fnd_mem Kd.nm hq
   constructor
   · intro e; exact absurd e (h q hm.1)
   · intro e; cases e
theorem kq_some {l : List Kd} {s : ByteArray} {q : Kd} (h : kq l s = some q) : q ∈ l ∧ q.nm = s := fnd_mem Kd.nm h
theorem ed_mono {l m : List Nd} (h : ∀ f x, getF m f = some x → ∀ q ∈ x.ks, ∃ y, getF l f = some y ∧ ∃ r ∈ y.ks, r.fid = q.fid) (hd : ∀ g d, getF m g = some d → d.k = 2 → ∃ e, getF l g = some e ∧ e.k = 2) {f g : Int} (hE : Ed m f g) : Ed l f g := by
 obtain ⟨x, d, h1, ⟨q, hq, e⟩, h3, h4⟩ := hE
 obtain ⟨y, h5, r, hr, e2⟩ := h f x h1 q hq
 obtain ⟨e3, h6, h7⟩ := hd g d h3 h4
 exact ⟨y, e3, h5, ⟨r, hr, by rw [e2, e]⟩, h6, h7⟩
theorem Rt.write {l : List Nd} (R : Rt l) {x y : Nd} (hx : getF l x.fid = some x) (hf : y.fid = x.fid) (hk : y.k = x.k) (hl : y.ln = x.ln) (hs : y.ks = x.ks) (hy : NOk y) : Rt (setL l y) := by
 have hN : ∀ g, getF (setL l y) g = if g = x.fid then some y else getF l g := fun g => by rw [getF_set, hf]
 have hc : ∀ g, cT g (setL l y) = cT g l := fun g => by
   have := cT_set g y R.srt
   rw [hf, hx] at this
   simp only [Option.elim, cN, hs] at this
   omega
 have hlen : (setL l y).length = l.length := by
   have := len_set y R.srt
   rw [hf, hx] at this
   simp only [Option.elim] at this
   omega
 have old : ∀ f z, getF (setL l y) f = some z → ∃ z0, getF l f = some z0 ∧ z.ks = z0.ks ∧ z.k = z0.k ∧ z.ln = z0.ln := fun f z hz => by
   rw [hN] at hz
   by_cases e : f = x.fid
   · rw [if_pos e] at hz; cases hz; exact ⟨x, by rw [e]; exact hx, hs, hk, hl⟩
   · rw [if_neg e] at hz; exact ⟨z, hz, rfl, rfl, rfl⟩
 have new : ∀ g, (getF (setL l y) g).isSome = (getF l g).isSome := fun g => by
   rw [hN]
   by_cases e : g = x.fid
   · rw [if_pos e, e, hx]; rfl
   · rw [if_neg e]
 refine Rt.of (by rw [hlen]; exact R.few) (srt_set y R.srt) (fun f z hz => ?_) (fun f z hz q hq => ?_) ?_ (fun f z hz hne => ?_) ?_
 · have hz' := hz
   rw [hN] at hz'
   by_cases e : f = x.fid
   · rw [if_pos e] at hz'; cases hz'
     exact ⟨hy, by rw [e]; exact (R.at hx).2.1⟩
   · rw [if_neg e] at hz'
     exact ⟨(R.at hz').1, (R.at hz').2.1⟩
 · obtain ⟨z0, h0, e1, _⟩ := old f z hz
   rw [e1] at hq
   obtain ⟨a, b, hb⟩ := R.kids h0 hq
   exact ⟨a, by rw [new, hb]; rfl⟩
 · obtain ⟨r, hr, h1, h2⟩ := R.root
   rw [hN]
   by_cases e : (1 : Int) = x.fid
   · rw [if_pos e]
     rw [← e, hr] at hx
     cases hx
     exact ⟨y, rfl, by rw [hk, h1], by rw [hl, h2]⟩
   · rw [if_neg e]; exact ⟨r, hr, h1, h2⟩
 · obtain ⟨z0, h0, _, e2, e3⟩ := old f z hz
   rw [hc, e2, e3]
   exact R.links h0 hne
 · obtain ⟨r, hr⟩ := R.rank
   refine ⟨r, fun f g hE => hr f g (ed_mono (fun f z hz q hq => ?_) (fun g d hg hd => ?_) hE)⟩
   · obtain ⟨z0, h0, e1, _⟩ := old f z hz
     exact ⟨z0, h0, q, by rw [← e1]; exact hq, rfl⟩
   · obtain ⟨z0, h0, _, e2, _⟩ := old g d hg
     exact ⟨z0, h0, by rw [← e2]; exact hd⟩
theorem Rt.make {l : List Nd} (R : Rt l) {d n : Nd} {s : ByteArray} (hd : getF l d.fid = some d) (hk : d.k = 2) (hq : kq d.ks s = none) (hs : Pa.nameB s.data.toList = true) (h12 : d.ks.length < 12) (h40 : l.length < 40)
   (hn : NOk n) (hn0 : getF l n.fid = none) (hn1 : n.fid ≠ 1) (hnp : 0 < n.fid) (hnk : n.ks = []) (hnl : n.ln = 1) : Rt (setL (setL l (d.kids none 0 (entL d.ks s n.fid))) n) := by
 have hne : n.fid ≠ d.fid := fun e => by rw [e, hd] at hn0; cases hn0
 have hn00 : n.fid ≠ 0 := by omega
 have s1 := srt_set (d.kids none 0 (entL d.ks s n.fid)) R.srt
 have hN : ∀ g, getF (setL (setL l (d.kids none 0 (entL d.ks s n.fid))) n) g = if g = n.fid then some n else if g = d.fid then some (d.kids none 0 (entL d.ks s n.fid)) else getF l g := fun g => by
   rw [getF_set, getF_set]; rfl
 have hK := R.kok hd hk
 have hkk := hK.1
 have hcd : ∀ g, cK g (entL d.ks s n.fid) = cK g d.ks + (if n.fid = g then 1 else 0) := fun g => by
   have := cK_ent g s n.fid hkk
   rw [hq, if_neg hn00] at this
   simpa [Option.elim] using this
 have hc : ∀ g, cT g (setL (setL l (d.kids none 0 (entL d.ks s n.fid))) n) = cT g l + (if n.fid = g then 1 else 0) := fun g => by
   have h1 := cT_set g n s1
   have h2 := cT_set g (d.kids none 0 (entL d.ks s n.fid)) R.srt
   rw [getF_set, if_neg (show n.fid ≠ (d.kids none 0 (entL d.ks s n.fid)).fid from hne), hn0] at h1
   rw [show (d.kids none 0 (entL d.ks s n.fid)).fid = d.fid from rfl, hd] at h2
   simp only [Option.elim] at h1 h2
   have e1 : cN g (d.kids none 0 (entL d.ks s n.fid)) = cK g d.ks + (if n.fid = g then 1 else 0) := hcd g
   have e2 : cN g d = cK g d.ks := rfl
   have e3 : cN g n = 0 := by unfold cN; rw [hnk]; rfl
   omega
 have hmem : ∀ q, q ∈ entL d.ks s n.fid → q ∈ d.ks ∨ q = ⟨s, n.fid⟩ := fun q h => (entL_mem h).symm
 have hlen : (setL (setL l (d.kids none 0 (entL d.ks s n.fid))) n).length = l.length + 1 := by
   have h1 := len_set n s1
   have h2 := len_set (d.kids none 0 (entL d.ks s n.fid)) R.srt
   rw [getF_set, if_neg (show n.fid ≠ (d.kids none 0 (entL d.ks s n.fid)).fid from hne), hn0] at h1
   rw [show (d.kids none 0 (entL d.ks s n.fid)).fid = d.fid from rfl, hd] at h2
   simp only [Option.elim] at h1 h2
   omega
 have new : ∀ g, (getF l g).isSome = true → (getF (setL (setL l (d.kids none 0 (entL d.ks s n.fid))) n) g).isSome = true := fun g h => by
   rw [hN]; split
   · rfl
   · split
     · rfl
     · exact h
 have kl : (entL d.ks s n.fid).length ≤ 12 := by have := entL_len d.ks s n.fid; omega
 refine Rt.of (by omega) (srt_set n s1) (fun f z hz => ?_) (fun f z hz q hqz => ?_) ?_ (fun f z hz hne1 => ?_) ?_
 · rw [hN] at hz
   by_cases e : f = n.fid
   · rw [if_pos e] at hz; cases hz; exact ⟨hn, by omega⟩
   · rw [if_neg e] at hz
     by_cases e2 : f = d.fid
     · rw [if_pos e2] at hz; cases hz
       obtain ⟨⟨a1, a2, a3, a4⟩, a5, _⟩ := R.at hd
       refine ⟨⟨a1, a2, kl, .inr ⟨hk, ?_, kok_ent hK s n.fid (fun _ => hs)⟩⟩, by omega⟩
       rcases a4 with a4 | a4
       · omega
       · exact a4.2.1
     · rw [if_neg e2] at hz; exact ⟨(R.at hz).1, (R.at hz).2.1⟩
 · have hz' := hz
   rw [hN] at hz'
   by_cases e : f = n.fid
   · rw [if_pos e] at hz'; cases hz'; rw [hnk] at hqz; cases hqz
   · rw [if_neg e] at hz'
     by_cases e2 : f = d.fid
     · rw [if_pos e2] at hz'; cases hz'
       rcases hmem q hqz with h | h
       · obtain ⟨a, b, hb⟩ := R.kids hd h
         exact ⟨a, new _ (by rw [hb]; rfl)⟩
       · rw [h]; exact ⟨hn1, by rw [hN, if_pos rfl]; rfl⟩
     · rw [if_neg e2] at hz'
       obtain ⟨a, b, hb⟩ := R.kids hz' hqz
       exact ⟨a, new _ (by rw [hb]; rfl)⟩
 · obtain ⟨r, hr, h1, h2⟩ := R.root
   rw [hN, if_neg (fun e => hn1 e.symm)]
   by_cases e : (1 : Int) = d.fid
   · rw [if_pos e]
     rw [← e, hr] at hd
     cases hd
     exact ⟨_, rfl, h1, h2⟩
   · rw [if_neg e]; exact ⟨r, hr, h1, h2⟩
 · rw [hc]
   rw [hN] at hz
   by_cases e : f = n.fid
   · rw [if_pos e] at hz; cases hz
     rw [e, R.noent hn0, hnl, if_pos rfl]
     exact ⟨by omega, rfl, fun _ => rfl⟩
   · rw [if_neg e] at hz
     rw [if_neg (fun h => e h.symm)]
     by_cases e2 : f = d.fid
     · rw [if_pos e2] at hz; cases hz
       have := R.links hd (by rw [← e2]; exact hne1)
       rw [e2]; exact this
     · rw [if_neg e2] at hz
       exact R.links hz hne1
 · obtain ⟨r, hr⟩ := R.rank
   refine ⟨fun x => if x = n.fid then r d.fid + 1 else r x, fun f g hE => ?_⟩
   obtain ⟨x, dd, h1, ⟨q, hqx, eq⟩, h3, h4⟩ := hE
   rw [hN] at h1
   by_cases e : f = n.fid
   · rw [if_pos e] at h1; cases h1; rw [hnk] at hqx; cases hqx
   · rw [if_neg e] at h1
     simp only [if_neg e]
     by_cases eg : g = n.fid
     · simp only [if_pos eg]
       by_cases e2 : f = d.fid
       · rw [e2]; omega
       · rw [if_neg e2] at h1
         obtain ⟨_, b, hb⟩ := R.kids h1 hqx
         rw [eq, eg, hn0] at hb; cases hb
     · simp only [if_neg eg]
       rw [hN, if_neg eg] at h3
       have h3' : ∃ e, getF l g = some e ∧ e.k = 2 := by
         by_cases e3 : g = d.fid
         · exact ⟨d, by rw [e3]; exact hd, hk⟩
         · rw [if_neg e3] at h3; exact ⟨dd, h3, h4⟩
       obtain ⟨e5, h5, h6⟩ := h3'
       by_cases e2 : f = d.fid
       · rw [if_pos e2] at h1; cases h1
         rcases hmem q hqx with h | h
         · exact hr f g ⟨d, e5, by rw [e2]; exact hd, ⟨q, h, eq⟩, h5, h6⟩
         · rw [h] at eq; exact absurd eq.symm eg
       · rw [if_neg e2] at h1
         exact hr f g ⟨x, e5, h1, ⟨q, hqx, eq⟩, h5, h6⟩
theorem Rt.self {l : List Nd} (R : Rt l) {d : Nd} (hd : getF l d.fid = some d) {q : Kd} (hq : q ∈ d.ks) : q.fid ≠ d.fid := fun e => by
 obtain ⟨r, hr⟩ := R.rank
 have := hr d.fid d.fid ⟨d, d, hd, ⟨q, hq, e⟩, hd, R.isdir hd hq⟩
 omega
theorem cT_mem {l : List Nd} {f : Int} {x : Nd} (h : getF l f = some x) {q : Kd} (hq : q ∈ x.ks) : 0 < cT q.fid l := by
 refine wsm_pos (getF_mem h).1 ?_
 exact wsm_pos hq (by simp)
theorem Rt.link {l : List Nd} (R : Rt l) {d n : Nd} {s : ByteArray} (hd : getF l d.fid = some d) (hk : d.k = 2) (hq : kq d.ks s = none) (hs : Pa.nameB s.data.toList = true) (h12 : d.ks.length < 12)
   (hn0 : getF l n.fid = some n) (hnk : n.k ≠ 2) : Rt (setL (setL l (d.kids none 0 (entL d.ks s n.fid))) (n.lnk (n.ln + 1))) := by
 have hne : n.fid ≠ d.fid := fun e => by rw [e, hd] at hn0; cases hn0; exact hnk hk
 have hn1 : n.fid ≠ 1 := fun e => by
   obtain ⟨r, hr, h1, _⟩ := R.root
   rw [e, hr] at hn0
   cases hn0
   exact hnk h1
 have hn00 : n.fid ≠ 0 := by have := (R.at hn0).2.1; omega
 have s1 := srt_set (d.kids none 0 (entL d.ks s n.fid)) R.srt
 have hN : ∀ g, getF (setL (setL l (d.kids none 0 (entL d.ks s n.fid))) (n.lnk (n.ln + 1))) g = if g = n.fid then some (n.lnk (n.ln + 1)) else if g = d.fid then some (d.kids none 0 (entL d.ks s n.fid)) else getF l g := fun g => by
   rw [getF_set, getF_set]; rfl
 have hK := R.kok hd hk
 have hkk := hK.1
 have hcd : ∀ g, cK g (entL d.ks s n.fid) = cK g d.ks + (if n.fid = g then 1 else 0) := fun g => by
   have := cK_ent g s n.fid hkk
   rw [hq, if_neg hn00] at this
   simpa [Option.elim] using this
 have hc : ∀ g, cT g (setL (setL l (d.kids none 0 (entL d.ks s n.fid))) (n.lnk (n.ln + 1))) = cT g l + (if n.fid = g then 1 else 0) := fun g => by
   have h1 := cT_set g (n.lnk (n.ln + 1)) s1
   have h2 := cT_set g (d.kids none 0 (entL d.ks s n.fid)) R.srt
   rw [show (n.lnk (n.ln + 1)).fid = n.fid from rfl, getF_set, if_neg (show n.fid ≠ (d.kids none 0 (entL d.ks s n.fid)).fid from hne), hn0] at h1
   rw [show (d.kids none 0 (entL d.ks s n.fid)).fid = d.fid from rfl, hd] at h2
   simp only [Option.elim] at h1 h2
   have e1 : cN g (d.kids none 0 (entL d.ks s n.fid)) = cK g d.ks + (if n.fid = g then 1 else 0) := hcd g
   have e2 : cN g d = cK g d.ks := rfl
   have e3 : cN g (n.lnk (n.ln + 1)) = cN g n := rfl
   omega
 have hmem : ∀ q, q ∈ entL d.ks s n.fid → q ∈ d.ks ∨ q = ⟨s, n.fid⟩ := fun q h => (entL_mem h).symm
 have hlen : (setL (setL l (d.kids none 0 (entL d.ks s n.fid))) (n.lnk (n.ln + 1))).length = l.length := by
   have h1 := len_set (n.lnk (n.ln + 1)) s1
   have h2 := len_set (d.kids none 0 (entL d.ks s n.fid)) R.srt
   rw [show (n.lnk (n.ln + 1)).fid = n.fid from rfl, getF_set, if_neg (show n.fid ≠ (d.kids none 0 (entL d.ks s n.fid)).fid from hne), hn0] at h1
   rw [show (d.kids none 0 (entL d.ks s n.fid)).fid = d.fid from rfl, hd] at h2
   simp only [Option.elim] at h1 h2
   omega
 have new : ∀ g, (getF l g).isSome = true → (getF (setL (setL l (d.kids none 0 (entL d.ks s n.fid))) (n.lnk (n.ln + 1))) g).isSome = true := fun g h => by
   rw [hN]; split
   · rfl
   · split
     · rfl
     · exact h
 have kl : (entL d.ks s n.fid).length ≤ 12 := by have := entL_len d.ks s n.fid; omega
 refine Rt.of (by rw [hlen]; exact R.few) (srt_set _ s1) (fun f z hz => ?_) (fun f z hz q hqz => ?_) ?_ (fun f z hz hne1 => ?_) ?_
 · rw [hN] at hz
   by_cases e : f = n.fid
   · rw [if_pos e] at hz; cases hz
     obtain ⟨⟨a1, a2, a3, a4⟩, a5, _⟩ := R.at hn0
     exact ⟨⟨a1, a2, a3, a4⟩, by omega⟩
   · rw [if_neg e] at hz
     by_cases e2 : f = d.fid
     · rw [if_pos e2] at hz; cases hz
       obtain ⟨⟨a1, a2, a3, a4⟩, a5, _⟩ := R.at hd
       refine ⟨⟨a1, a2, kl, .inr ⟨hk, ?_, kok_ent hK s n.fid (fun _ => hs)⟩⟩, by omega⟩
       rcases a4 with a4 | a4
       · omega
       · exact a4.2.1
     · rw [if_neg e2] at hz; exact ⟨(R.at hz).1, (R.at hz).2.1⟩
 · have hz' := hz
   rw [hN] at hz'
   by_cases e : f = n.fid
   · rw [if_pos e] at hz'; cases hz'
     obtain ⟨a, b, hb⟩ := R.kids hn0 hqz
     exact ⟨a, new _ (by rw [hb]; rfl)⟩
   · rw [if_neg e] at hz'
     by_cases e2 : f = d.fid
     · rw [if_pos e2] at hz'; cases hz'
       rcases hmem q hqz with h | h
       · obtain ⟨a, b, hb⟩ := R.kids hd h
         exact ⟨a, new _ (by rw [hb]; rfl)⟩
       · rw [h]; exact ⟨hn1, new _ (by rw [hn0]; rfl)⟩
     · rw [if_neg e2] at hz'
       obtain ⟨a, b, hb⟩ := R.kids hz' hqz
       exact ⟨a, new _ (by rw [hb]; rfl)⟩
 · obtain ⟨r, hr, h1, h2⟩ := R.root
   rw [hN, if_neg (fun e => hn1 e.symm)]
   by_cases e : (1 : Int) = d.fid
   · rw [if_pos e]
     rw [← e, hr] at hd
     cases hd
     exact ⟨_, rfl, h1, h2⟩
   · rw [if_neg e]; exact ⟨r, hr, h1, h2⟩
 · rw [hc]
   rw [hN] at hz
   by_cases e : f = n.fid
   · rw [if_pos e] at hz; cases hz
     obtain ⟨b1, b2, _⟩ := R.links hn0 hn1
     rw [e, if_pos rfl]
     exact ⟨by omega, by show n.ln + 1 = _; rw [b2]; push_cast; omega, fun h => absurd h hnk⟩
   · rw [if_neg e] at hz
     rw [if_neg (fun h => e h.symm)]
     by_cases e2 : f = d.fid
     · rw [if_pos e2] at hz; cases hz
       have := R.links hd (by rw [← e2]; exact hne1)
       rw [e2]; exact this
     · rw [if_neg e2] at hz
       exact R.links hz hne1
 · obtain ⟨r, hr⟩ := R.rank
   refine ⟨r, fun f g hE => ?_⟩
   obtain ⟨x, dd, h1, ⟨q, hqx, eq⟩, h3, h4⟩ := hE
   have hgd : ∃ e, getF l g = some e ∧ e.k = 2 := by
     rw [hN] at h3
     by_cases e3 : g = n.fid
     · rw [if_pos e3] at h3; cases h3; exact absurd h4 hnk
     · rw [if_neg e3] at h3
       by_cases e4 : g = d.fid
       · exact ⟨d, by rw [e4]; exact hd, hk⟩
       · rw [if_neg e4] at h3; exact ⟨dd, h3, h4⟩
   obtain ⟨e5, h5, h6⟩ := hgd
   have hgn : g ≠ n.fid := fun e => by rw [e, hn0] at h5; cases h5; exact hnk h6
   rw [hN] at h1
   by_cases e : f = n.fid
   · rw [if_pos e] at h1; cases h1
     exact hr f g ⟨n, e5, by rw [e]; exact hn0, ⟨q, hqx, eq⟩, h5, h6⟩
   · rw [if_neg e] at h1
     by_cases e2 : f = d.fid
     · rw [if_pos e2] at h1; cases h1
       rcases hmem q hqx with h | h
       · exact hr f g ⟨d, e5, by rw [e2]; exact hd, ⟨q, h, eq⟩, h5, h6⟩
       · rw [h] at eq; exact absurd eq.symm hgn
     · rw [if_neg e2] at h1
       exact hr f g ⟨x, e5, h1, ⟨q, hqx, eq⟩, h5, h6⟩
theorem Rt.unlink {l : List Nd} (R : Rt l) {d n : Nd} {s : ByteArray} (hd : getF l d.fid = some d) (hq : kq d.ks s = some ⟨s, n.fid⟩) (hn0 : getF l n.fid = some n) (hnk : n.ks = []) :
   Rt (lessL (setL l (d.kids none 0 (entL d.ks s 0))) n) := by
 have hqm := (kq_some hq).1
 have hk := R.isdir hd hqm
 have hne : n.fid ≠ d.fid := R.self hd hqm
 have hn1 : n.fid ≠ 1 := (R.kids hd hqm).1
 have s1 := srt_set (d.kids none 0 (entL d.ks s 0)) R.srt
 have hN1 : ∀ g, getF (setL l (d.kids none 0 (entL d.ks s 0))) g = if g = d.fid then some (d.kids none 0 (entL d.ks s 0)) else getF l g := fun g => by rw [getF_set]; rfl
 have hK := R.kok hd hk
 have hkk := hK.1
 have hcd : ∀ g, cK g (entL d.ks s 0) + (if n.fid = g then 1 else 0) = cK g d.ks := fun g => by
   have := cK_ent g s 0 hkk
   rw [hq] at this
   simpa [Option.elim] using this
 have hc1 : ∀ g, cT g (setL l (d.kids none 0 (entL d.ks s 0))) + (if n.fid = g then 1 else 0) = cT g l := fun g => by
   have h2 := cT_set g (d.kids none 0 (entL d.ks s 0)) R.srt
   rw [show (d.kids none 0 (entL d.ks s 0)).fid = d.fid from rfl, hd] at h2
   simp only [Option.elim] at h2
   have e1 : cN g (d.kids none 0 (entL d.ks s 0)) + (if n.fid = g then 1 else 0) = cK g d.ks := hcd g
   have e2 : cN g d = cK g d.ks := rfl
   omega
 have hmem : ∀ q, q ∈ entL d.ks s 0 → q ∈ d.ks ∧ q.nm ≠ s := fun q h => by
   rw [entL_zero, List.mem_filter] at h
   exact ⟨h.1, by simpa using h.2⟩
 have hlen1 : (setL l (d.kids none 0 (entL d.ks s 0))).length = l.length := by
   have h2 := len_set (d.kids none 0 (entL d.ks s 0)) R.srt
   rw [show (d.kids none 0 (entL d.ks s 0)).fid = d.fid from rfl, hd] at h2
   simp only [Option.elim] at h2
   omega
 have kl : (entL d.ks s 0).length ≤ 12 := by
   rw [entL_zero]
   exact Nat.le_trans (List.length_filter_le _ _) (R.at hd).1.2.2.1
 obtain ⟨b1, b2, b3⟩ := R.links hn0 hn1
 have hcn : ∀ g, cN g n = 0 := fun g => by unfold cN; rw [hnk]; rfl
 have okd : NOk (d.kids none 0 (entL d.ks s 0)) := by
   obtain ⟨⟨a1, a2, a3, a4⟩, a5, _⟩ := R.at hd
   refine ⟨a1, a2, kl, .inr ⟨hk, ?_, kok_ent hK s 0 (fun h => absurd rfl h)⟩⟩
   rcases a4 with a4 | a4
   · omega
   · exact a4.2.1
 obtain ⟨r0, hr0, hr1, hr2⟩ := R.root
 obtain ⟨rk, hrk⟩ := R.rank
 have hN1n : getF (setL l (d.kids none 0 (entL d.ks s 0))) n.fid = some n := by rw [hN1, if_neg hne]; exact hn0
 unfold lessL
 by_cases hl : n.ln = 1
 · rw [if_pos hl]
   have hN : ∀ g, getF (outL (setL l (d.kids none 0 (entL d.ks s 0))) n.fid) g = if g = n.fid then none else if g = d.fid then some (d.kids none 0 (entL d.ks s 0)) else getF l g := fun g => by rw [getF_out, hN1]
   have hc : ∀ g, cT g (outL (setL l (d.kids none 0 (entL d.ks s 0))) n.fid) + (if n.fid = g then 1 else 0) = cT g l := fun g => by
     have h1 := cT_out g n.fid s1
     rw [hN1n] at h1
     simp only [Option.elim] at h1
     have := hcn g
     have := hc1 g
     omega
   have hz0 : cT n.fid (outL (setL l (d.kids none 0 (entL d.ks s 0))) n.fid) = 0 := by
     have := hc n.fid
     rw [if_pos rfl] at this
     omega
   have hlen : (outL (setL l (d.kids none 0 (entL d.ks s 0))) n.fid).length ≤ l.length := by rw [← hlen1]; exact outL_len2 _ _
   refine Rt.of (by have := R.few; omega) (srt_out _ s1) (fun f z hz => ?_) (fun f z hz q hqz => ?_) ?_ (fun f z hz hne1 => ?_) ?_
   · rw [hN] at hz
     by_cases e : f = n.fid
     · rw [if_pos e] at hz; cases hz
     · rw [if_neg e] at hz
       by_cases e2 : f = d.fid
       · rw [if_pos e2] at hz; cases hz; exact ⟨okd, by rw [e2]; exact (R.at hd).2.1⟩
       · rw [if_neg e2] at hz; exact ⟨(R.at hz).1, (R.at hz).2.1⟩
   · have hpos := cT_mem hz hqz
     have hqn : q.fid ≠ n.fid := fun e => by rw [e, hz0] at hpos; omega
     rw [hN] at hz
     by_cases e : f = n.fid
     · rw [if_pos e] at hz; cases hz
     · rw [if_neg e] at hz
       have key : q.fid ≠ 1 ∧ ∃ y, getF l q.fid = some y := by
         by_cases e2 : f = d.fid
         · rw [if_pos e2] at hz; cases hz; exact R.kids hd (hmem q hqz).1
         · rw [if_neg e2] at hz; exact R.kids hz hqz
       obtain ⟨a, b, hb⟩ := key
       refine ⟨a, ?_⟩
       rw [hN, if_neg hqn]
       split
       · rfl
       · rw [hb]; rfl
   · rw [hN, if_neg (fun e => hn1 e.symm)]
     by_cases e : (1 : Int) = d.fid
     · rw [if_pos e]
       rw [← e, hr0] at hd
       cases hd
       exact ⟨_, rfl, hr1, hr2⟩
     · rw [if_neg e]; exact ⟨r0, hr0, hr1, hr2⟩
   · have hcf := hc f
     rw [hN] at hz
     by_cases e : f = n.fid
     · rw [if_pos e] at hz; cases hz
     · rw [if_neg e] at hz
       rw [if_neg (fun h => e h.symm)] at hcf
       rw [show cT f (outL (setL l (d.kids none 0 (entL d.ks s 0))) n.fid) = cT f l by omega]
       by_cases e2 : f = d.fid
       · rw [if_pos e2] at hz; cases hz
         have := R.links hd (by rw [← e2]; exact hne1)
         rw [e2]; exact this
       · rw [if_neg e2] at hz
         exact R.links hz hne1
   · refine ⟨rk, fun f g hE => hrk f g (ed_mono (fun f z hz q hqz => ?_) (fun g dd hg hdk => ?_) hE)⟩
     · rw [hN] at hz
       by_cases e : f = n.fid
       · rw [if_pos e] at hz; cases hz
       · rw [if_neg e] at hz
         by_cases e2 : f = d.fid
         · rw [if_pos e2] at hz; cases hz; exact ⟨d, by rw [e2]; exact hd, q, (hmem q hqz).1, rfl⟩
         · rw [if_neg e2] at hz; exact ⟨z, hz, q, hqz, rfl⟩
     · rw [hN] at hg
       by_cases e : g = n.fid
       · rw [if_pos e] at hg; cases hg
       · rw [if_neg e] at hg
         by_cases e2 : g = d.fid
         · exact ⟨d, by rw [e2]; exact hd, hk⟩
         · rw [if_neg e2] at hg; exact ⟨dd, hg, hdk⟩
 · rw [if_neg hl]
   have hnd : n.k ≠ 2 := fun e => hl (by have := b3 e; omega)
   show Rt (setL (setL l (d.kids none 0 (entL d.ks s 0))) (n.lnk (n.ln - 1)))
   have hN : ∀ g, getF (setL (setL l (d.kids none 0 (entL d.ks s 0))) (n.lnk (n.ln - 1))) g = if g = n.fid then some (n.lnk (n.ln - 1)) else if g = d.fid then some (d.kids none 0 (entL d.ks s 0)) else getF l g := fun g => by rw [getF_set, hN1]; rfl
   have hc : ∀ g, cT g (setL (setL l (d.kids none 0 (entL d.ks s 0))) (n.lnk (n.ln - 1))) + (if n.fid = g then 1 else 0) = cT g l := fun g => by
     have h1 := cT_set g (n.lnk (n.ln - 1)) s1
     rw [show (n.lnk (n.ln - 1)).fid = n.fid from rfl, hN1n] at h1
     simp only [Option.elim] at h1
     have e3 : cN g (n.lnk (n.ln - 1)) = cN g n := rfl
     have := hc1 g
     omega
   have hlen : (setL (setL l (d.kids none 0 (entL d.ks s 0))) (n.lnk (n.ln - 1))).length = l.length := by
     have h1 := len_set (n.lnk (n.ln - 1)) s1
     rw [show (n.lnk (n.ln - 1)).fid = n.fid from rfl, hN1n] at h1
     simp only [Option.elim] at h1
     omega
   have new : ∀ g, (getF l g).isSome = true → (getF (setL (setL l (d.kids none 0 (entL d.ks s 0))) (n.lnk (n.ln - 1))) g).isSome = true := fun g h => by
     rw [hN]; split
     · rfl
     · split
       · rfl
       · exact h
   refine Rt.of (by rw [hlen]; exact R.few) (srt_set _ s1) (fun f z hz => ?_) (fun f z hz q hqz => ?_) ?_ (fun f z hz hne1 => ?_) ?_
   · rw [hN] at hz
     by_cases e : f = n.fid
     · rw [if_pos e] at hz; cases hz
       obtain ⟨⟨a1, a2, a3, a4⟩, a5, _⟩ := R.at hn0
       exact ⟨⟨a1, a2, a3, a4⟩, by omega⟩
     · rw [if_neg e] at hz
       by_cases e2 : f = d.fid
       · rw [if_pos e2] at hz; cases hz; exact ⟨okd, by rw [e2]; exact (R.at hd).2.1⟩
       · rw [if_neg e2] at hz; exact ⟨(R.at hz).1, (R.at hz).2.1⟩
   · rw [hN] at hz
     have key : q.fid ≠ 1 ∧ ∃ y, getF l q.fid = some y := by
       by_cases e : f = n.fid
       · rw [if_pos e] at hz; cases hz; exact R.kids hn0 hqz
       · rw [if_neg e] at hz
         by_cases e2 : f = d.fid
         · rw [if_pos e2] at hz; cases hz; exact R.kids hd (hmem q hqz).1
         · rw [if_neg e2] at hz; exact R.kids hz hqz
     obtain ⟨a, b, hb⟩ := key
     exact ⟨a, new _ (by rw [hb]; rfl)⟩
   · rw [hN, if_neg (fun e => hn1 e.symm)]
     by_cases e : (1 : Int) = d.fid
     · rw [if_pos e]
       rw [← e, hr0] at hd
       cases hd
       exact ⟨_, rfl, hr1, hr2⟩
     · rw [if_neg e]; exact ⟨r0, hr0, hr1, hr2⟩
   · have hcf := hc f
     rw [hN] at hz
     by_cases e : f = n.fid
     · rw [if_pos e] at hz; cases hz
       rw [e, if_pos rfl] at hcf
       rw [e]
       refine ⟨by omega, by show n.ln - 1 = _; omega, fun h => absurd h hnd⟩
     · rw [if_neg e] at hz
       rw [if_neg (fun h => e h.symm)] at hcf
       rw [show cT f (setL (setL l (d.kids none 0 (entL d.ks s 0))) (n.lnk (n.ln - 1))) = cT f l by omega]
       by_cases e2 : f = d.fid
       · rw [if_pos e2] at hz; cases hz
         have := R.links hd (by rw [← e2]; exact hne1)
         rw [e2]; exact this
       · rw [if_neg e2] at hz
         exact R.links hz hne1
   · refine ⟨rk, fun f g hE => hrk f g (ed_mono (fun f z hz q hqz => ?_) (fun g dd hg hdk => ?_) hE)⟩
     · rw [hN] at hz
       by_cases e : f = n.fid
       · rw [if_pos e] at hz; cases hz; exact ⟨n, by rw [e]; exact hn0, q, hqz, rfl⟩
       · rw [if_neg e] at hz
         by_cases e2 : f = d.fid
         · rw [if_pos e2] at hz; cases hz; exact ⟨d, by rw [e2]; exact hd, q, (hmem q hqz).1, rfl⟩
         · rw [if_neg e2] at hz; exact ⟨z, hz, q, hqz, rfl⟩
     · rw [hN] at hg
       by_cases e : g = n.fid
       · rw [if_pos e] at hg; cases hg; exact absurd hdk hnd
       · rw [if_neg e] at hg
         by_cases e2 : g = d.fid
         · exact ⟨d, by rw [e2]; exact hd, hk⟩
         · rw [if_neg e2] at hg; exact ⟨dd, hg, hdk⟩
theorem cT_two {m : List Nd} (hs : Srt m) {f b g : Int} {x y : Nd} (hf : getF m f = some x) (hb : getF m b = some y) (hne : f ≠ b) {q r : Kd} (hq : q ∈ x.ks) (hr : r ∈ y.ks) (eq : q.fid = g) (er : r.fid = g) : 2 ≤ cT g m := by
 have h1 := cT_out g b hs
 rw [hb] at h1
 simp only [Option.elim] at h1
 have h2 : 0 < cN g y := wsm_pos hr (by simp [er])
 have h3 : getF (outL m b) f = some x := by rw [getF_out, if_neg hne]; exact hf
 have h4 := cT_mem h3 hq
 rw [eq] at h4
 omega
theorem Rt.move0 {l : List Nd} (R : Rt l) {a b n : Nd} {s s2 : ByteArray} (ha : getF l a.fid = some a) (hq : kq a.ks s = some ⟨s, n.fid⟩) (hn : getF l n.fid = some n) (hb : getF l b.fid = some b) (hbk : b.k = 2)
   (hs2 : Pa.nameB s2.data.toList = true) (hfree : kq b.ks s2 = none) (hroom : b.fid = a.fid ∨ b.ks.length < 12)
   (hS : n.k = 2 → ∃ S : Int → Prop, S n.fid ∧ ¬ S b.fid ∧ ∀ f g, Ed l f g → g ≠ n.fid → (S f ↔ S g)) (m : List Nd) (hm : Srt m) (hml : m.length = l.length)
   (A B : List Kd) (hA : A = entL a.ks s 0) (hB : B = entL (if b.fid = a.fid then A else b.ks) s2 n.fid)
   (hN : ∀ g, getF m g = if g = b.fid then some (b.kids none 0 B) else if g = a.fid then some (a.kids none 0 A) else getF l g) : Rt m := by
 have hqm := (kq_some hq).1
 have hak := R.isdir ha hqm
 have hna : n.fid ≠ a.fid := R.self ha hqm
 have hn1 : n.fid ≠ 1 := (R.kids ha hqm).1
 have hn0 : n.fid ≠ 0 := by have := (R.at hn).2.1; omega
 have hKa := R.kok ha hak
 have hKb := R.kok hb hbk
 have hab : b.fid = a.fid → b = a := fun e => by rw [e, ha] at hb; exact (Option.some.inj hb).symm
 have hKA : KOk A := by rw [hA]; exact kok_ent hKa s 0 (fun h => absurd rfl h)
 have hK1 : KOk (if b.fid = a.fid then A else b.ks) := by split <;> assumption
 have hKB : KOk B := by rw [hB]; exact kok_ent hK1 s2 n.fid (fun _ => hs2)
 have hq1 : kq (if b.fid = a.fid then A else b.ks) s2 = none := by
   split
   · rename_i e
     rw [hA, kq_ent]
     split
     · rfl
     · rw [← hab e]; exact hfree
   · exact hfree
 have hcA : ∀ g, cK g A + (if n.fid = g then 1 else 0) = cK g a.ks := fun g => by
   have := cK_ent g s 0 hKa.1
   rw [hq, ← hA] at this
   simpa [Option.elim] using this
 have hcB : ∀ g, cK g B = cK g (if b.fid = a.fid then A else b.ks) + (if n.fid = g then 1 else 0) := fun g => by
   have := cK_ent g s2 n.fid hK1.1
   rw [hq1, if_neg hn0, ← hB] at this
   simpa [Option.elim] using this
 have hlA : A.length + 1 = a.ks.length := by
   have := klen_ent s 0 hKa.1
   rw [hq, ← hA] at this
   simpa [Option.elim] using this
 have hlB : B.length ≤ 12 := by
   have := klen_ent s2 n.fid hK1.1
   rw [hq1, if_neg hn0, ← hB] at this
   simp only [Option.elim] at this
   have h12 := (R.at ha).1.2.2.1
   split at this
   · omega
   · rename_i e
     rcases hroom with h | h
     · exact absurd h e
     · omega
 have memA : ∀ q ∈ A, q ∈ a.ks ∧ q.nm ≠ s := fun q h => by
   rw [hA, entL_zero, List.mem_filter] at h
   exact ⟨h.1, by simpa using h.2⟩
 have memB : ∀ q ∈ B, q ∈ b.ks ∨ q = ⟨s2, n.fid⟩ := fun q h => by
   rw [hB] at h
   rcases entL_mem h with e | e
   · exact .inr e
   · left
     split at e
     · rename_i e2; rw [hab e2]; exact (memA q e).1
     · exact e
 have inB : (⟨s2, n.fid⟩ : Kd) ∈ B := by
   have : kq B s2 = some ⟨s2, n.fid⟩ := by rw [hB, kq_ent, if_pos rfl, if_neg hn0]
   exact (kq_some this).1
 -- counts
 have hc : ∀ g, cT g m = cT g l := fun g => by
   by_cases e : b.fid = a.fid
   · have hmE : m = setL l (b.kids none 0 B) := srt_ext hm (srt_set _ R.srt) (fun g => by
       rw [hN, getF_set]
       show _ = if g = b.fid then some (b.kids none 0 B) else getF l g
       by_cases e1 : g = b.fid
       · rw [if_pos e1, if_pos e1]
       · rw [if_neg e1, if_neg e1, if_neg (by rw [← e]; exact e1)])
     have h1 := cT_set g (b.kids none 0 B) R.srt
     rw [← hmE, show (b.kids none 0 B).fid = b.fid from rfl, hb] at h1
     simp only [Option.elim] at h1
     have e2 : cN g (b.kids none 0 B) = cK g B := rfl
     have e3 : cN g b = cK g a.ks := by rw [hab e]; rfl
     have h2 := hcB g
     rw [if_pos e] at h2
     have h3 := hcA g
     omega
   · have hmE : m = setL (setL l (a.kids none 0 A)) (b.kids none 0 B) := srt_ext hm (srt_set _ (srt_set _ R.srt)) (fun g => by
       rw [hN, getF_set, getF_set]
       rfl)
     have h1 := cT_set g (b.kids none 0 B) (srt_set (a.kids none 0 A) R.srt)
     have h4 := cT_set g (a.kids none 0 A) R.srt
     rw [← hmE, show (b.kids none 0 B).fid = b.fid from rfl, getF_set, if_neg (show b.fid ≠ (a.kids none 0 A).fid from e), hb] at h1
     rw [show (a.kids none 0 A).fid = a.fid from rfl, ha] at h4
     simp only [Option.elim] at h1 h4
     have e2 : cN g (b.kids none 0 B) = cK g B := rfl
     have e3 : cN g b = cK g b.ks := rfl
     have e4 : cN g (a.kids none 0 A) = cK g A := rfl
     have e5 : cN g a = cK g a.ks := rfl
     have h2 := hcB g
     rw [if_neg e] at h2
     have h3 := hcA g
     omega
 have old : ∀ f z, getF m f = some z → ∃ z0, getF l f = some z0 ∧ z.k = z0.k ∧ z.ln = z0.ln := fun f z hz => by
   rw [hN] at hz
   by_cases e : f = b.fid
   · rw [if_pos e] at hz; cases hz; exact ⟨b, by rw [e]; exact hb, rfl, rfl⟩
   · rw [if_neg e] at hz
     by_cases e2 : f = a.fid
     · rw [if_pos e2] at hz; cases hz; exact ⟨a, by rw [e2]; exact ha, rfl, rfl⟩
     · rw [if_neg e2] at hz; exact ⟨z, hz, rfl, rfl⟩
 have new : ∀ g, (getF l g).isSome = true → (getF m g).isSome = true := fun g h => by
   rw [hN]; split
   · rfl
   · split
     · rfl
     · exact h
 have oldk : ∀ f z, getF m f = some z → ∀ q ∈ z.ks, (∃ z0, getF l f = some z0 ∧ q ∈ z0.ks) ∨ (f = b.fid ∧ q = ⟨s2, n.fid⟩) := fun f z hz q hqz => by
   rw [hN] at hz
   by_cases e : f = b.fid
   · rw [if_pos e] at hz; cases hz
     rcases memB q hqz with h | h
     · exact .inl ⟨b, by rw [e]; exact hb, h⟩
     · exact .inr ⟨e, h⟩
   · rw [if_neg e] at hz
     by_cases e2 : f = a.fid
     · rw [if_pos e2] at hz; cases hz; exact .inl ⟨a, by rw [e2]; exact ha, (memA q hqz).1⟩
     · rw [if_neg e2] at hz; exact .inl ⟨z, hz, hqz⟩
 have zsN : ∀ {d : Nd}, getF l d.fid = some d → d.k = 2 → d.zs = [] := fun {d} hd hk => by
   obtain ⟨⟨_, _, _, a4⟩, _⟩ := R.at hd
   rcases a4 with a4 | a4
   · omega
   · exact a4.2.1
 refine Rt.of (by rw [hml]; exact R.few) hm (fun f z hz => ?_) (fun f z hz q hqz => ?_) ?_ (fun f z hz hne1 => ?_) ?_
 · have hz' := hz
   rw [hN] at hz
   by_cases e : f = b.fid
   · rw [if_pos e] at hz; cases hz
     obtain ⟨⟨a1, a2, a3, a4⟩, a5, _⟩ := R.at hb
     exact ⟨⟨a1, a2, hlB, .inr ⟨hbk, (show b.zs = [] from zsN hb hbk), hKB⟩⟩, by omega⟩
   · rw [if_neg e] at hz
     by_cases e2 : f = a.fid
     · rw [if_pos e2] at hz; cases hz
       obtain ⟨⟨a1, a2, a3, a4⟩, a5, _⟩ := R.at ha
       exact ⟨⟨a1, a2, by show A.length ≤ 12; omega, .inr ⟨hak, (show a.zs = [] from zsN ha hak), hKA⟩⟩, by omega⟩
     · rw [if_neg e2] at hz; exact ⟨(R.at hz).1, (R.at hz).2.1⟩
 · rcases oldk f z hz q hqz with ⟨z0, h0, h1⟩ | ⟨_, h1⟩
   · obtain ⟨a1, y, hy⟩ := R.kids h0 h1
     exact ⟨a1, new _ (by rw [hy]; rfl)⟩
   · rw [h1]; exact ⟨hn1, new _ (by rw [hn]; rfl)⟩
 · obtain ⟨r, hr, h1, h2⟩ := R.root
   have := new 1 (by rw [hr]; rfl)
   obtain ⟨z, hz⟩ := Option.isSome_iff_exists.1 this
   obtain ⟨z0, h0, e1, e2⟩ := old 1 z hz
   rw [hr] at h0
   cases h0
   exact ⟨z, hz, by rw [e1, h1], by rw [e2, h2]⟩
 · obtain ⟨z0, h0, e1, e2⟩ := old f z hz
   rw [hc, e1, e2]
   exact R.links h0 hne1
 · obtain ⟨r, hr⟩ := R.rank
   have hbm : getF m b.fid = some (b.kids none 0 B) := by rw [hN, if_pos rfl]
   have edo : ∀ f g, Ed m f g → g ≠ n.fid ∨ n.k ≠ 2 → Ed l f g := fun f g hE hg => by
     obtain ⟨x, d, h1, ⟨q, hqx, eq⟩, h3, h4⟩ := hE
     obtain ⟨d0, h5, e1, _⟩ := old g d h3
     rcases oldk f x h1 q hqx with ⟨z0, h0, h2⟩ | ⟨_, h2⟩
     · exact ⟨z0, d0, h0, ⟨q, h2, eq⟩, h5, by rw [← e1]; exact h4⟩
     · exfalso
       rw [h2] at eq
       simp only at eq
       rcases hg with hg | hg
       · exact hg eq.symm
       · rw [← eq, hn] at h5
         cases h5
         exact hg (by rw [← e1]; exact h4)
   by_cases hnk : n.k = 2
   · obtain ⟨S, s1, s2', s3⟩ := hS hnk
     classical
     refine ⟨fun x => if S x then r x + (r b.fid + 1) else r x, fun f g hE => ?_⟩
     by_cases eg : g = n.fid
     · have efb : f = b.fid := by
         by_cases e : f = b.fid
         · exact e
         · exfalso
           obtain ⟨x, d, h1, ⟨q, hqx, eq⟩, h3, h4⟩ := hE
           have h2 := cT_two hm h1 hbm e hqx inB (eq.trans eg) rfl
           rw [hc] at h2
           have := (R.links hn hn1).2.2 hnk
           omega
       rw [efb, eg]
       simp only [if_neg s2', if_pos s1]
       omega
     · have h1 := edo f g hE (.inl eg)
       have h2 := hr f g h1
       have h3 := s3 f g h1 eg
       by_cases hf : S f
       · simp only [if_pos hf, if_pos (h3.1 hf)]; omega
       · simp only [if_neg hf, if_neg (fun h => hf (h3.2 h))]; omega
   · exact ⟨r, fun f g hE => hr f g (edo f g hE (.inr hnk))⟩
end Go.Proofs.YtihgiemgcmpmmaaGreat
