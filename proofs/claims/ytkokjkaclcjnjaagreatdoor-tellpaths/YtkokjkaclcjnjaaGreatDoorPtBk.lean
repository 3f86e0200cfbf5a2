/-
  The paths of a tree, plainly: how deep it goes, how many there are.
-/
import Derived.Test.YtkokjkaclcjnjaaGreatDoorPtBe
namespace Go.Proofs.YtkokjkaclcjnjaaGreatDoor
open Go.RowKit Go.ChangeShapes Go.WideShapes Go.ChangeAt
set_option linter.unusedVariables false
set_option linter.unusedSimpArgs false
set_option maxRecDepth 100000
def kidsF (l : List Nd) (f : Int) : List Kd := ((getF l f).getD Nd.no).ks
def ownB (p : ByteArray) (x : Kd) : ByteArray := p ++ ⟨#[47]⟩ ++ x.nm
def belF (l : List Nd) : Nat → Int → ByteArray → List ByteArray
 | 0, _, _ => []
 | k + 1, f, p => (kidsF l f).flatMap fun x => ownB p x :: belF l k x.fid (ownB p x)
def LowF (l : List Nd) : Nat → Int → Prop
 | 0, f => kidsF l f = []
 | k + 1, f => ∀ x ∈ kidsF l f, LowF l k x.fid
theorem kidsF_some {l : List Nd} {f : Int} {x : Nd} (h : getF l f = some x) : kidsF l f = x.ks := by unfold kidsF; rw [h]; rfl
theorem kidsF_in {l : List Nd} {f : Int} (h : kidsF l f ≠ []) : ∃ x, getF l f = some x ∧ kidsF l f = x.ks := by
 unfold kidsF at h ⊢
 cases e : getF l f with
 | none => rw [e] at h; exact absurd rfl h
 | some x => exact ⟨x, rfl, rfl⟩
theorem low_nil {l : List Nd} : ∀ (k : Nat) {f : Int}, kidsF l f = [] → LowF l k f
 | 0, _, h => h
 | k + 1, f, h => fun x hx => by rw [h] at hx; cases hx
theorem ok_dir {x : Nd} (h : nodeOk x = true) (hk : x.ks ≠ []) : x.k = 2 := by
 unfold nodeOk at h
 simp only [Bool.and_eq_true] at h
 have h3 := h.2
 by_cases q2 : x.k = 2
 · exact q2
 by_cases q1 : x.k = 1
 · simp [q1] at h3; exact absurd h3 hk
 by_cases q3 : x.k = 3
 · simp [q3] at h3; exact absurd h3 hk
 · simp [q1, q2, q3] at h3
theorem ok_few {x : Nd} (h : nodeOk x = true) : x.zs.length ≤ 64 ∧ x.ks.length ≤ 12 := by
 unfold nodeOk at h
 simp only [Bool.and_eq_true, Bool.not_eq_true', Bool.or_eq_false_iff, decide_eq_false_iff_not] at h
 omega
theorem nodup_le : ∀ (m c : List Int), c.Nodup → (∀ g ∈ c, g ∈ m) → c.length ≤ m.length
 | [], c, _, h => by
   cases c with
   | nil => simp
   | cons a t => exact absurd (h a (List.mem_cons_self ..)) (by simp)
 | a :: m, c, hn, h => by
   have h1 := nodup_le m (c.filter (fun g => decide (g ≠ a))) (hn.filter _) (fun g hg => by
     rw [List.mem_filter] at hg
     rcases List.mem_cons.1 (h g hg.1) with e | e
     · simp [e] at hg
     · exact e)
   have h2 : c.length ≤ (c.filter (fun g => decide (g ≠ a))).length + 1 := by
     clear h1 h
     induction c with
     | nil => simp
     | cons b t ih =>
       rw [List.nodup_cons] at hn
       rw [List.filter_cons]
       by_cases e : b = a
       · subst e
         have : t.filter (fun g => decide (g ≠ b)) = t := List.filter_eq_self.2 (fun y hy => by
           have : y ≠ b := fun e => hn.1 (e ▸ hy)
           simpa using this)
         simp only [ne_eq, not_true_eq_false, decide_false, Bool.false_eq_true, if_false]
         have q : t.filter (fun g => !decide (g = b)) = t.filter (fun g => decide (g ≠ b)) := by congr 1; funext y; simp
         rw [List.length_cons]
         first
           | (rw [this]; omega)
           | (rw [q, this]; omega)
           | (simp only [ne_eq, decide_not] at this ⊢; rw [this]; omega)
       · rw [if_pos (by simpa using e), List.length_cons, List.length_cons]
         have := ih hn.2
         omega
   rw [List.length_cons]
   omega
theorem get_fid {l : List Nd} {f : Int} {x : Nd} (h : getF l f = some x) : f ∈ l.map (·.fid) := by
 obtain ⟨h1, h2⟩ := getF_mem h
 exact List.mem_map.2 ⟨x, h1, h2⟩
theorem low_gen {l : List Nd} (R : Rt l) (r : Int → Nat) (hr : ∀ f g, Ed l f g → r f < r g) :
   ∀ (k : Nat) (c : List Int) (f : Int), c.Nodup → (∀ g ∈ c, g ∈ l.map (·.fid)) → (∀ g ∈ c, r g < r f) → l.length ≤ c.length + k → LowF l k f
 | 0, c, f, hn, hm, hr', hl => by
   show kidsF l f = []
   apply Classical.byContradiction
   intro hk
   obtain ⟨x, hx, e⟩ := kidsF_in hk
   have h1 := nodup_le (l.map (·.fid)) (f :: c) (List.nodup_cons.2 ⟨fun hf => by have := hr' f hf; omega, hn⟩) (fun g hg => by
     rcases List.mem_cons.1 hg with e | e
     · rw [e]; exact get_fid hx
     · exact hm g e)
   rw [List.length_map, List.length_cons] at h1
   omega
 | k + 1, c, f, hn, hm, hr', hl => fun q hq => by
   have hk : kidsF l f ≠ [] := fun e => by rw [e] at hq; cases hq
   obtain ⟨x, hx, e⟩ := kidsF_in hk
   by_cases hq0 : kidsF l q.fid = []
   · exact low_nil k hq0
   · obtain ⟨y, hy, ey⟩ := kidsF_in hq0
     have hyd : y.k = 2 := ok_dir (R.ok y (getF_mem hy).1).1 (by rw [← ey]; exact hq0)
     have he : r f < r q.fid := hr f q.fid ⟨x, y, hx, ⟨q, by rw [← e]; exact hq, rfl⟩, hy, hyd⟩
     refine low_gen R r hr k (f :: c) q.fid (List.nodup_cons.2 ⟨fun hf => by have := hr' f hf; omega, hn⟩) (fun g hg => ?_) (fun g hg => ?_) (by rw [List.length_cons]; omega)
     · rcases List.mem_cons.1 hg with e | e
       · rw [e]; exact get_fid hx
       · exact hm g e
     · rcases List.mem_cons.1 hg with e | e
       · rw [e]; exact he
       · have := hr' g e; omega
theorem low_root {l : List Nd} (R : Rt l) : LowF l (l.length + 1) 1 := by
 obtain ⟨r, hr⟩ := R.rank
 exact low_gen R r hr (l.length + 1) [] 1 List.nodup_nil (fun g hg => by cases hg) (fun g hg => by cases hg) (by simp)
def cnF (l : List Nd) : Nat → Int → Nat
 | 0, _ => 0
 | k + 1, f => wsm (fun x => 1 + cnF l k x.fid) (kidsF l f)
theorem bel_len (l : List Nd) : ∀ (k : Nat) (f : Int) (p : ByteArray), (belF l k f p).length = cnF l k f
 | 0, _, _ => rfl
 | k + 1, f, p => by
   show ((kidsF l f).flatMap _).length = wsm _ _
   induction kidsF l f with
   | nil => rfl
   | cons x t ih =>
     rw [List.flatMap_cons, List.length_append, ih, wsm_cons, List.length_cons, bel_len l k]
     omega
theorem wsm_congr {α : Type} {ω ν : α → Nat} : ∀ {l : List α}, (∀ x ∈ l, ω x = ν x) → wsm ω l = wsm ν l
 | [], _ => rfl
 | x :: t, h => by rw [wsm_cons, wsm_cons, h x (List.mem_cons_self ..), wsm_congr (fun y hy => h y (List.mem_cons_of_mem _ hy))]
theorem wsm_add {α : Type} (ω ν : α → Nat) : ∀ (l : List α), wsm (fun x => ω x + ν x) l = wsm ω l + wsm ν l
 | [] => rfl
 | x :: t => by rw [wsm_cons, wsm_cons, wsm_cons, wsm_add ω ν t]; omega
theorem wsm_mul {α : Type} (c : Nat) (ω : α → Nat) : ∀ (l : List α), wsm (fun x => c * ω x) l = c * wsm ω l
 | [] => rfl
 | x :: t => by rw [wsm_cons, wsm_cons, wsm_mul c ω t, Nat.mul_add]
theorem wsm_nought {α : Type} : ∀ (l : List α), wsm (fun _ : α => 0) l = 0
 | [] => rfl
 | x :: t => by rw [wsm_cons, wsm_nought t]
theorem wsm_swap {α β : Type} (h : α → β → Nat) (l : List α) : ∀ (m : List β), wsm (fun x => wsm (h x) m) l = wsm (fun y => wsm (fun x => h x y) l) m
 | [] => by
   show wsm (fun x => wsm (h x) []) l = 0
   rw [← wsm_nought l]; rfl
 | y :: m => by
   rw [wsm_cons, ← wsm_swap h l m, ← wsm_add]
   rfl
theorem wsm_le {α : Type} {ω ν : α → Nat} : ∀ {l : List α}, (∀ x ∈ l, ω x ≤ ν x) → wsm ω l ≤ wsm ν l
 | [], _ => Nat.le_refl _
 | x :: t, h => by
   rw [wsm_cons, wsm_cons]
   have h1 := h x (List.mem_cons_self ..)
   have h2 := wsm_le (fun y hy => h y (List.mem_cons_of_mem _ hy)) (l := t)
   omega
theorem wsm_const {α : Type} (c : Nat) : ∀ (l : List α), wsm (fun _ => c) l = c * l.length
 | [] => rfl
 | x :: t => by rw [wsm_cons, wsm_const c t, List.length_cons, Nat.mul_add]; omega
theorem wsm_one {l : List Nd} (hs : Srt l) {x : Nd} (hx : x ∈ l) (h : Nd → Nat) : wsm (fun y => (if x.fid = y.fid then 1 else 0) * h y) l = h x := by
 have key : ∀ (m : List Nd), (∀ y ∈ m, y.fid ≠ x.fid) → wsm (fun y => (if x.fid = y.fid then 1 else 0) * h y) m = 0 := fun m hm => by
   exact (wsm_congr (fun y hy => by rw [if_neg (fun e => hm y hy e.symm), Nat.zero_mul])).trans (wsm_nought m)
 obtain ⟨a, b, rfl⟩ := List.append_of_mem hx
 have hp : ∀ y ∈ a, y.fid ≠ x.fid := fun y hy e => by
   have := srt_get hs (x := y) (List.mem_append_left _ hy)
   have h2 := srt_get hs (x := x) hx
   rw [e, h2] at this
   injection this with this
   subst this
   unfold Srt Ris at hs
   rw [List.pairwise_append] at hs
   have := hs.2.2 x hy x (List.mem_cons_self ..)
   simp [leI] at this
 have hq : ∀ y ∈ b, y.fid ≠ x.fid := fun y hy e => by
   unfold Srt Ris at hs
   rw [List.pairwise_append] at hs
   have := (List.pairwise_cons.1 hs.2.1).1 y hy
   simp [leI, e] at this
 have sp : ∀ (ω : Nd → Nat) (u v : List Nd), wsm ω (u ++ v) = wsm ω u + wsm ω v := fun ω u v => by simp [wsm]
 rw [sp, wsm_cons, key a hp, key b hq, if_pos rfl]
 omega
theorem wsm_kids {l : List Nd} (R : Rt l) (h : Int → Nat) : ∀ (ks : List Kd), (∀ q ∈ ks, (getF l q.fid).isSome = true) → wsm (fun q => h q.fid) ks = wsm (fun y => cK y.fid ks * h y.fid) l
 | [], _ => by
   show 0 = _
   rw [← wsm_nought l]
   exact wsm_congr (fun y _ => by show 0 = cK y.fid [] * _; unfold cK; show 0 = 0 * _; rw [Nat.zero_mul])
 | q :: t, hq => by
   rw [wsm_cons, wsm_kids R h t (fun y hy => hq y (List.mem_cons_of_mem _ hy))]
   obtain ⟨x, hx⟩ := Option.isSome_iff_exists.1 (hq q (List.mem_cons_self ..))
   obtain ⟨hm, hf⟩ := getF_mem hx
   have h1 := wsm_one R.srt hm (fun y => h y.fid)
   rw [hf] at h1
   rw [← h1, ← wsm_add]
   exact wsm_congr (fun y _ => by
     unfold cK
     rw [wsm_cons]
     by_cases e : q.fid = y.fid
     · rw [if_pos e]; simp only [Nat.add_mul, Nat.one_mul]
     · rw [if_neg e]; simp)
def ocF (l : List Nd) : Nat → Int → Nat
 | 0, g => if g = 1 then 1 else 0
 | k + 1, g => wsm (fun x => ocF l k x.fid * cN g x) l
theorem cn_step {l : List Nd} (R : Rt l) (K : Nat) (V : Int → Nat) : wsm (fun x => V x.fid * cnF l (K + 1) x.fid) l = wsm (fun x => V x.fid * x.ks.length) l + wsm (fun y => wsm (fun x => V x.fid * cN y.fid x) l * cnF l K y.fid) l := by
 have e1 : wsm (fun x => V x.fid * cnF l (K + 1) x.fid) l = wsm (fun x => V x.fid * x.ks.length + wsm (fun y => V x.fid * cN y.fid x * cnF l K y.fid) l) l := wsm_congr (fun x hx => by
   have hg := srt_get R.srt hx
   show V x.fid * wsm _ (kidsF l x.fid) = _
   rw [kidsF_some hg, wsm_add (fun _ : Kd => 1) (fun q : Kd => cnF l K q.fid), wsm_const, Nat.one_mul, wsm_kids R (cnF l K) x.ks (fun q hq => (R.kid x hx q hq).2), Nat.mul_add, ← wsm_mul]
   congr 1
   exact wsm_congr (fun y _ => by unfold cN; rw [Nat.mul_assoc]))
 rw [e1, wsm_add (fun x : Nd => V x.fid * x.ks.length)]
 congr 1
 rw [wsm_swap]
 exact wsm_congr (fun y _ => by
   have : (fun x : Nd => V x.fid * cN y.fid x * cnF l K y.fid) = fun x => cnF l K y.fid * (V x.fid * cN y.fid x) := by funext x; rw [Nat.mul_comm]
   rw [this, wsm_mul, Nat.mul_comm])
def smF (l : List Nd) : Nat → Nat → Int → Nat
 | 0, _, _ => 0
 | K + 1, k, g => ocF l k g + smF l K (k + 1) g
theorem cn_all {l : List Nd} (R : Rt l) : ∀ (K k : Nat), wsm (fun x => ocF l k x.fid * cnF l K x.fid) l = wsm (fun x => smF l K k x.fid * x.ks.length) l
 | 0, k => wsm_congr (fun x _ => by show _ * 0 = 0 * _; simp)
 | K + 1, k => by
   rw [cn_step R K (ocF l k)]
   have h := cn_all R K (k + 1)
   have e : wsm (fun y => wsm (fun x => ocF l k x.fid * cN y.fid x) l * cnF l K y.fid) l = wsm (fun x => ocF l (k + 1) x.fid * cnF l K x.fid) l := wsm_congr (fun y _ => rfl)
   rw [e, h, ← wsm_add]
   exact wsm_congr (fun x _ => by show _ = (ocF l k x.fid + smF l K (k + 1) x.fid) * _; rw [Nat.add_mul])
theorem cn_root {l : List Nd} (R : Rt l) (K : Nat) : cnF l K 1 = wsm (fun x => smF l K 0 x.fid * x.ks.length) l := by
 rw [← cn_all R K 0]
 obtain ⟨r, hr, _⟩ := R.root
 obtain ⟨hm, hf⟩ := getF_mem hr
 have h1 := wsm_one R.srt hm (fun y => cnF l K y.fid)
 rw [hf] at h1
 rw [← h1]
 exact wsm_congr (fun y _ => by
   show _ = (if y.fid = 1 then 1 else 0) * _
   by_cases e : y.fid = 1
   · rw [if_pos e, if_pos e.symm]
   · rw [if_neg e, if_neg (fun q => e q.symm)])
theorem one_par {l : List Nd} : ∀ {m : List Nd} {g : Int}, cT g m = 1 → ∃ p ∈ m, cN g p = 1 ∧ ∀ V : Nd → Nat, wsm (fun x => V x * cN g x) m = V p
 | [], g, h => by cases h
 | x :: t, g, h => by
   unfold cT at h
   rw [wsm_cons] at h
   by_cases e : cN g x = 0
   · rw [e, Nat.zero_add] at h
     obtain ⟨p, h1, h2, h3⟩ := one_par (l := l) (m := t) h
     refine ⟨p, List.mem_cons_of_mem _ h1, h2, fun V => ?_⟩
     rw [wsm_cons, e, h3, Nat.mul_zero, Nat.zero_add]
   · have h1 : cN g x = 1 := by omega
     have h2 : wsm (cN g) t = 0 := by omega
     refine ⟨x, List.mem_cons_self .., h1, fun V => ?_⟩
     rw [wsm_cons, h1, Nat.mul_one]
     have : ∀ (m : List Nd), wsm (cN g) m = 0 → wsm (fun x => V x * cN g x) m = 0 := fun m => by
       induction m with
       | nil => intro _; rfl
       | cons y s ih =>
         intro hs
         rw [wsm_cons] at hs ⊢
         have hy : cN g y = 0 := by omega
         rw [hy, ih (by omega)]
         simp
     rw [this t h2]
     omega
theorem cN_kid {g : Int} {x : Nd} (h : cN g x ≠ 0) : ∃ q ∈ x.ks, q.fid = g := by
 unfold cN at h
 rw [cK_count] at h
 have := List.count_pos_iff.1 (Nat.pos_of_ne_zero h)
 obtain ⟨q, hq, e⟩ := List.mem_map.1 this
 exact ⟨q, hq, e⟩
theorem oc_par {l : List Nd} (R : Rt l) {d : Nd} (hd : d ∈ l) (hk : d.k = 2) (h1 : d.fid ≠ 1) : ∃ p ∈ l, p.k = 2 ∧ (∀ k, ocF l (k + 1) d.fid = ocF l k p.fid) ∧ Ed l p.fid d.fid := by
 obtain ⟨p, hp, hc, hV⟩ := one_par (l := l) ((R.lnk d hd h1).2.2 hk)
 obtain ⟨q, hq, e⟩ := cN_kid (x := p) (g := d.fid) (by omega)
 refine ⟨p, hp, ok_dir (R.ok p hp).1 (fun e => by rw [e] at hq; cases hq), fun k => ?_, ⟨p, d, srt_get R.srt hp, ⟨q, hq, e⟩, srt_get R.srt hd, hk⟩⟩
 exact hV (fun x => ocF l k x.fid)
theorem oc_root {l : List Nd} (R : Rt l) (k : Nat) : ocF l (k + 1) 1 = 0 := by
 show wsm (fun x => ocF l k x.fid * cN 1 x) l = 0
 rw [← wsm_nought l]
 exact wsm_congr (fun x hx => by
   by_cases e : cN 1 x = 0
   · rw [e, Nat.mul_zero]
   · obtain ⟨q, hq, e'⟩ := cN_kid e
     exact absurd e' (R.kid x hx q hq).1)
theorem sm_up {l : List Nd} {f g : Int} (h : ∀ k, ocF l (k + 1) g = ocF l k f) : ∀ (K k : Nat), smF l K (k + 1) g = smF l K k f
 | 0, _ => rfl
 | K + 1, k => by show _ + _ = _ + _; rw [h, sm_up h K (k + 1)]
theorem sm_none {l : List Nd} {g : Int} (h : ∀ k, ocF l (k + 1) g = 0) : ∀ (K k : Nat), smF l K (k + 1) g = 0
 | 0, _ => rfl
 | K + 1, k => by show _ + _ = _; rw [h, sm_none h K (k + 1)]
theorem sm_le {l : List Nd} (R : Rt l) : ∀ (K : Nat) (d : Nd), d ∈ l → d.k = 2 → smF l K 0 d.fid ≤ 1
 | 0, _, _, _ => Nat.zero_le _
 | K + 1, d, hd, hk => by
   show (if d.fid = 1 then 1 else 0) + smF l K 1 d.fid ≤ 1
   by_cases h1 : d.fid = 1
   · rw [if_pos h1, h1, sm_none (oc_root R) K 0]
     exact Nat.le_refl _
   · rw [if_neg h1, Nat.zero_add]
     obtain ⟨p, hp, hpk, ho, _⟩ := oc_par R hd hk h1
     rw [sm_up ho K 0]
     exact sm_le R K p hp hpk
theorem cn_few {l : List Nd} (R : Rt l) (K : Nat) : cnF l K 1 ≤ 480 := by
 rw [cn_root R K]
 have h1 : wsm (fun x => smF l K 0 x.fid * x.ks.length) l ≤ wsm (fun _ => 12) l := wsm_le (fun x hx => by
   by_cases e : x.ks = []
   · rw [e]; simp
   · have h2 := sm_le R K x hx (ok_dir (R.ok x hx).1 e)
     have h3 := (ok_few (R.ok x hx).1).2
     have := Nat.mul_le_mul h2 h3
     omega)
 rw [wsm_const] at h1
 have := R.few
 omega
end Go.Proofs.YtkokjkaclcjnjaaGreatDoor
