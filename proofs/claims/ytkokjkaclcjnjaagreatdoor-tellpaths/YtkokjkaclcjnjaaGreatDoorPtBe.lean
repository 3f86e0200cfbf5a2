/-
  Trees, plainly: which nodes are a tree, in words that an operation can be held against.
-/
import Derived.Test.YtkokjkaclcjnjaaGreatDoorPtBd
namespace Go.Proofs.YtkokjkaclcjnjaaGreatDoor
set_option linter.unusedVariables false
set_option linter.unusedSimpArgs false
def Ed (l : List Nd) (f g : Int) : Prop := ∃ x d, getF l f = some x ∧ (∃ q ∈ x.ks, q.fid = g) ∧ getF l g = some d ∧ d.k = 2
structure Rt (l : List Nd) : Prop where
 few : l.length ≤ 40
 srt : Srt l
 ok : ∀ x ∈ l, nodeOk x = true ∧ 0 < x.fid
 kid : ∀ x ∈ l, ∀ q ∈ x.ks, q.fid ≠ 1 ∧ (getF l q.fid).isSome = true
 root : ∃ r, getF l 1 = some r ∧ r.k = 2 ∧ r.ln = 0
 lnk : ∀ x ∈ l, x.fid ≠ 1 → 1 ≤ cT x.fid l ∧ x.ln = cT x.fid l ∧ (x.k = 2 → cT x.fid l = 1)
 rank : ∃ r : Int → Nat, ∀ f g, Ed l f g → r f < r g
theorem getD_at {l : List Nd} {i : Nat} (hi : i < l.length) : l.getD i Nd.no = l[i] := by simp [List.getD, hi]
theorem srt_up {l : List Nd} (h : upTo l l.length = true) : Srt l := by
 unfold Srt Ris
 rw [List.pairwise_iff_getElem]
 intro i j hi hj hij
 have := up_mono h j i hij hj
 rw [getD_at hi, getD_at hj] at this
 unfold leI
 simpa using this
theorem up_srt {l : List Nd} (h : Srt l) (hp : ∀ x ∈ l, 0 < x.fid) : upTo l l.length = true := upTo_mk (fun i hi => by
 unfold lastFd
 split
 · rw [getD_at hi]; exact hp _ (List.getElem_mem hi)
 · rename_i h0
   rw [getD_at hi, getD_at (show i - 1 < l.length by omega)]
   have := List.pairwise_iff_getElem.1 h (i - 1) i (by omega) hi (by omega)
   unfold leI at this
   simpa using this)
theorem N0_get {l : List Nd} (hu : upTo l l.length = true) (f : Int) : (N0 l f).map (·.2) = getF l f := by
 cases hq : N0 l f with
 | none =>
   simp only [Option.map_none]
   cases hg : getF l f with
   | none => rfl
   | some x =>
     exfalso
     obtain ⟨hx, rfl⟩ := getF_mem hg
     obtain ⟨i, hi, rfl⟩ := List.getElem_of_mem hx
     obtain ⟨p, hp⟩ := N0_at hu hi
     rw [getD_at hi, hq] at hp
     cases hp
 | some z =>
   obtain ⟨p, x⟩ := z
   obtain ⟨i, hi, e, hf⟩ := N0_of hq
   simp only [Option.map_some]
   rw [getD_at hi] at e
   subst e
   rw [← hf, srt_get (srt_up hu) (List.getElem_mem hi)]
theorem dir_get {l : List Nd} (hu : upTo l l.length = true) (g : Int) : isDirT (N0 l) g = true ↔ ∃ d, getF l g = some d ∧ d.k = 2 := by
 unfold isDirT
 have := N0_get hu g
 cases hq : N0 l g with
 | none =>
   rw [hq] at this
   simp only [Option.map_none] at this
   constructor
   · intro h; cases h
   · rintro ⟨d, hd, _⟩; rw [← this] at hd; cases hd
 | some z =>
   rw [hq] at this
   simp only [Option.map_some] at this
   simp only
   constructor
   · intro h; exact ⟨z.2, this.symm, by simpa using h⟩
   · rintro ⟨d, hd, hk⟩
     rw [← this] at hd
     cases hd
     simpa using hk
theorem edge_ed {l : List Nd} (hu : upTo l l.length = true) (f g : Int) : Edge (N0 l) f g ↔ Ed l f g := by
 constructor
 · rintro ⟨p, x, i, h1, h2, h3, h4⟩
   obtain ⟨d, hd, hk⟩ := (dir_get hu g).1 h4
   have := N0_get hu f
   rw [h1] at this
   simp only [Option.map_some] at this
   exact ⟨x, d, this.symm, ⟨_, getD_mem x.ks Kd.no h2, h3⟩, hd, hk⟩
 · rintro ⟨x, d, h1, ⟨q, hq, e⟩, hd, hk⟩
   have := N0_get hu f
   rw [h1] at this
   cases hn : N0 l f with
   | none => rw [hn] at this; cases this
   | some z =>
     rw [hn] at this
     simp only [Option.map_some, Option.some.injEq] at this
     obtain ⟨i, hi, rfl⟩ := List.getElem_of_mem hq
     obtain ⟨p, y⟩ := z
     simp only at this
     subst this
     exact ⟨p, y, i, hn, hi, by simpa [List.getD, hi] using e, (dir_get hu g).2 ⟨d, hd, hk⟩⟩
def stp (l : List Nd) : Nat → Int → Nat
 | 0, _ => 0
 | n + 1, f => bif f == 1 then 0 else 1 + stp l n (upD l f)
theorem stp_more (l : List Nd) : ∀ (n : Nat) (f : Int), abN l 1 n f = true → stp l (n + 1) f = stp l n f
 | 0, f, h => by cases h
 | n + 1, f, h => by
   unfold abN at h
   unfold stp
   cases q : (f == 1) with
   | true => rfl
   | false =>
     rw [q] at h
     cases q2 : (upD l f == 0) with
     | true => rw [q2] at h; cases h
     | false =>
       rw [q2] at h
       simp only [cond_false] at h ⊢
       rw [stp_more l n _ h]
theorem rightD_rt {l : List Nd} : rightD l = true ↔ Rt l := by
 constructor
 · intro h
   have hR := (rightD_iff l).2 h
   obtain ⟨htok, hz⟩ := rightD_tok h
   have hR' := hR
   obtain ⟨h1, h2, h3, h4, h5, h6⟩ := hR
   have hu : upTo l l.length = true := h2
   have B : Base l := ⟨h1, h2, h3, h4, h5⟩
   have hok := right_ok hR'
   have hs := srt_up hu
   have hpos : ∀ x ∈ l, 0 < x.fid := fun x hx => by
     obtain ⟨i, hi, rfl⟩ := List.getElem_of_mem hx
     have := B.pos i hi
     rwa [getD_at hi] at this
   have hlk : ∀ x ∈ l, linkB (kfs l) x = true := fun x hx => by
     obtain ⟨i, hi, rfl⟩ := List.getElem_of_mem hx
     have := linksTo_all h5 i hi
     rwa [getD_at hi] at this
   have hc1 : (kfs l).count 1 = 0 := no_root (fun x hx => (h4 x hx).2)
   refine ⟨h1, hs, fun x hx => ⟨hok x hx, hpos x hx⟩, fun x hx q hq => ?_, ?_, fun x hx hne => ?_, ?_⟩
   · obtain ⟨j, hj, rfl⟩ := List.getElem_of_mem hq
     have h7 := haveTo_all (h4 x hx).2 j hj
     rw [show x.ks.getD j Kd.no = x.ks[j] by simp [List.getD, hj]] at h7
     refine ⟨h7.1, ?_⟩
     have := N0_get hu (x.ks[j]).fid
     rw [← this, Option.isSome_map]
     exact h7.2
   · obtain ⟨r, hr, hk⟩ := (dir_get hu 1).1 h3
     have hm := getF_mem hr
     have := hlk r hm.1
     unfold linkB at this
     rw [Bool.and_eq_true, beq_iff_eq, hm.2, hc1] at this
     exact ⟨r, hr, hk, this.1⟩
   · have := hlk x hx
     unfold linkB at this
     have e : (x.fid == 1) = false := beq_eq_false_iff_ne.2 hne
     rw [e] at this
     simp only [Bool.and_eq_true, beq_iff_eq, Bool.false_or, Bool.not_eq_true', Bool.or_eq_false_iff, decide_eq_false_iff_not, Bool.and_eq_false_iff] at this
     rw [cT_count]
     refine ⟨by omega, this.1, fun hk => ?_⟩
     rcases this.2.2 with q | q
     · rw [hk] at q; cases q
     · omega
   · have hab := (ring_ab B).1 h6
     refine ⟨fun f => stp l (l.length + 1) f, fun f g hE => ?_⟩
     have hE2 := (edge_ed hu f g).2 hE
     have hup := B.upOf hE2
     have hne := B.ne1 hE2
     obtain ⟨x, d, hf, _, hd, hk⟩ := hE
     obtain ⟨i, hi, e⟩ := List.getElem_of_mem (getF_mem hd).1
     have h7 := hab i hi
     rw [getD_at hi, e] at h7
     unfold lkU at h7
     have e2 : (d.k == 2) = true := by rw [hk]; rfl
     rw [e2, (getF_mem hd).2] at h7
     simp only [Bool.not_true, Bool.false_or] at h7
     have e3 : (g == 1) = false := beq_eq_false_iff_ne.2 hne
     have h8 : abN l 1 l.length f = true := by
       unfold abN at h7
       rw [e3, hup] at h7
       simp only [cond_false] at h7
       cases q : (f == 0) with
       | true => rw [q] at h7; cases h7
       | false => rw [q] at h7; exact h7
     show stp l (l.length + 1) f < stp l (l.length + 1) g
     rw [stp_more l _ f h8]
     show _ < (bif g == 1 then 0 else 1 + stp l l.length (upD l g))
     rw [e3, hup]
     simp only [cond_false]
     omega
 · intro h
   obtain ⟨h1, hs, hok, hkid, ⟨r, hr, hrk, hrl⟩, hlnk, ⟨rk, hrank⟩⟩ := h
   rw [← rightD_iff]
   have hu : upTo l l.length = true := up_srt hs (fun x hx => (hok x hx).2)
   have h3 : isDirT (N0 l) 1 = true := (dir_get hu 1).2 ⟨r, hr, hrk⟩
   have h4 : ∀ x ∈ l, aloneB x = true ∧ haveB (N0 l) x.ks = true := fun x hx => by
     refine ⟨alone_of (hok x hx).1, ?_⟩
     unfold haveB
     have : ∀ m, m ≤ x.ks.length → haveTo (N0 l) x.ks m = true := fun m => by
       induction m with
       | zero => intro _; rfl
       | succ m ih =>
         intro hm
         simp only [haveTo, ih (by omega), Bool.true_and]
         rw [show x.ks.getD m Kd.no = x.ks[m] by simp [List.getD, show m < x.ks.length by omega]]
         obtain ⟨a1, a2⟩ := hkid x hx _ (List.getElem_mem (show m < x.ks.length by omega))
         rw [Bool.and_eq_true]
         refine ⟨by simpa using a1, ?_⟩
         have := N0_get hu (x.ks[m]).fid
         rw [← this, Option.isSome_map] at a2
         exact a2
     exact this _ (Nat.le_refl _)
   have hc1 : (kfs l).count 1 = 0 := no_root (fun x hx => (h4 x hx).2)
   have h5 : linksB l = true := by
     refine linksTo_mk (fun i hi => ?_)
     rw [getD_at hi]
     have hx := List.getElem_mem hi
     unfold linkB
     by_cases e : (l[i]).fid = 1
     · have : l[i] = r := by
         have := srt_get hs hx
         rw [e, hr] at this
         exact (Option.some.inj this).symm
       rw [this, (getF_mem hr).2, hc1, hrl]
       rfl
     · obtain ⟨b1, b2, b3⟩ := hlnk _ hx e
       rw [cT_count] at b1 b2 b3
       have e1 : ((l[i]).fid == 1) = false := beq_eq_false_iff_ne.2 e
       have e2 : decide (((kfs l).count (l[i]).fid : Int) < 1) = false := decide_eq_false (by omega)
       rw [e1, e2]
       simp only [Bool.and_eq_true, beq_iff_eq, Bool.false_or, Bool.not_eq_true', Bool.and_eq_false_iff, decide_eq_false_iff_not]
       refine ⟨b2, ?_⟩
       by_cases hk : (l[i]).k = 2
       · right; have := b3 hk; omega
       · left; simpa using hk
   refine ⟨h1, hu, h3, h4, h5, fun hring => ?_⟩
   obtain ⟨G, ks, f, p, _, _, hpar, hG, hlead⟩ := hring
   have hlt : ∀ f g, G g = some f → rk f < rk g := fun f g e => hrank f g ((edge_ed hu f g).1 ((hpar f g).1 e))
   have hup : ∀ (n : Nat) (top q : Int), upB G top n q = true → rk top < rk q := fun n => by
     induction n with
     | zero => intro top q e; cases e
     | succ n ih =>
       intro top q e
       unfold upB at e
       cases hq : G q with
       | none => rw [hq] at e; cases e
       | some a =>
         rw [hq] at e
         simp only [Bool.or_eq_true, beq_iff_eq] at e
         have h9 := hlt a q hq
         rcases e with e | e
         · rw [← e]; exact h9
         · have := ih top a e; omega
   have h9 := hlt p f hG
   unfold leadB at hlead
   simp only [Bool.or_eq_true, beq_iff_eq] at hlead
   rcases hlead with e | e
   · rw [e] at h9; omega
   · have := hup _ _ _ e; omega
end Go.Proofs.YtkokjkaclcjnjaaGreatDoor
