/-
  The package tree: who stands above whom, as the document says; refuseInPlaceOf.
  The package tree: rename.
  A drawn region walked by hand: the class of worlds may be drawn narrower on the way.
-/
import Derived.Test.YtgbdplammniidaaGreatDoorFiAy
import Derived.Deep.RegionWith
import Derived.Deep.CutRange
import Derived.LaidEql
import Derived.Test.YtgbdplammniidaaGreatDoorFiAa
import Derived.Deep.RegionHeld3
namespace Go.Proofs.YtgbdplammniidaaGreatDoor
open Go.RowKit Go.ChangeShapes Go.WideShapes Go.ChangeAt Go.Maps Go.Shelf
set_option linter.unusedVariables false
set_option linter.unusedSimpArgs false
set_option maxRecDepth 100000
theorem dir_rel {N : Tab} {l : List Nd} (hR : Rel N l) (g : Int) : isDirT N g = true ↔ ∃ d, getF l g = some d ∧ d.k = 2 := by
 unfold isDirT
 cases hN : N g with
 | none =>
   simp only
   constructor
   · intro e; cases e
   · rintro ⟨d, h1, _⟩; rw [hR.no hN] at h1; cases h1
 | some z =>
   obtain ⟨p, x⟩ := z
   simp only [beq_iff_eq]
   constructor
   · intro e; exact ⟨x.er, hR.got hN, e⟩
   · rintro ⟨d, h1, h2⟩
     rw [hR.got hN] at h1
     cases h1
     exact h2
theorem edge_rel {N : Tab} {l : List Nd} (hR : Rel N l) (f g : Int) : Edge N f g ↔ Ed l f g := by
 constructor
 · rintro ⟨p, x, i, h1, h2, h3, h4⟩
   obtain ⟨d, h5, h6⟩ := (dir_rel hR g).1 h4
   exact ⟨x.er, d, hR.got h1, ⟨x.ks.getD i Kd.no, getD_mem x.ks Kd.no h2, h3⟩, h5, h6⟩
 · rintro ⟨x, d, h1, ⟨q, h2, h3⟩, h4, h5⟩
   obtain ⟨p, x', h6, h7⟩ := hR.back h1
   have h2 : q ∈ x'.ks := by rw [← h7] at h2; exact h2
   obtain ⟨i, hi, e⟩ := List.getElem_of_mem h2
   refine ⟨p, x', i, h6, hi, ?_, (dir_rel hR g).2 ⟨d, h4, h5⟩⟩
   have : x'.ks.getD i Kd.no = q := by
     rw [List.getD, List.getElem?_eq_getElem hi]
     exact e
   rw [this]
   exact h3
theorem whole_rel {N : Tab} {l : List Nd} (hR : Rel N l) (R : Rt l) : Whole6 N := fun f p x h => by
 have hl := hR.got h
 refine ⟨(R.at hl).1.2.2.1, fun i hi => ?_⟩
 obtain ⟨_, y, hy⟩ := R.kids hl (q := x.ks.getD i Kd.no) (getD_mem x.ks Kd.no hi)
 obtain ⟨p2, z, hz, _⟩ := hR.back hy
 rw [hz]
 rfl
theorem oneup_rel {N : Tab} {l : List Nd} (hR : Rel N l) (R : Rt l) : OneUp N := fun f f' g h h' => by
 rw [← R.up ((edge_rel hR f g).1 h), ← R.up ((edge_rel hR f' g).1 h')]
theorem rt_base {l : List Nd} (R : Rt l) : Base l := by
 have h := (rightD_iff l).2 (rightD_rt.2 R)
 exact ⟨h.1, h.2.1, h.2.2.1, h.2.2.2.1, h.2.2.2.2.1⟩
theorem ed_up {l : List Nd} (R : Rt l) {t : Int} {d : Nd} (ht : getF l t = some d) (hd : d.k = 2) (h1 : t ≠ 1) : Ed l (upD l t) t := by
 have B := rt_base R
 exact (edge_ed B.2.1 _ _).1 (B.hasUp ((dir_get B.2.1 t).2 ⟨d, ht, hd⟩) h1)
theorem ed_dir {l : List Nd} (R : Rt l) {f g : Int} (h : Ed l f g) : ∃ x, getF l f = some x ∧ x.k = 2 ∧ 0 < f ∧ g ≠ 1 := by
 obtain ⟨x, d, h1, ⟨q, h2, h3⟩, _, _⟩ := h
 exact ⟨x, h1, R.isdir h1 h2, (R.at h1).2.1, by rw [← h3]; exact (R.kids h1 h2).1⟩
theorem lead_step {N : Tab} {l : List Nd} (hR : Rel N l) (R : Rt l) {G : Int → Option Int} (hP : IsPar N G) (top : Int) : ∀ (n : Nat) {t : Int} {d : Nd}, getF l t = some d → d.k = 2 → leadB G n top t = abN l top (n + 1) t
 | 0, t, d, _, _ => by
   unfold leadB abN
   cases (t == top) with
   | true => rfl
   | false => cases (upD l t == 0) <;> rfl
 | n + 1, t, d, ht, hd => by
   unfold leadB abN
   cases q : (t == top) with
   | true => rfl
   | false =>
     by_cases h1 : t = 1
     · have hG : G t = none := by
         cases hg : G t with
         | none => rfl
         | some f =>
           obtain ⟨_, _, _, _, h2⟩ := ed_dir R ((edge_rel hR f t).1 ((hP f t).1 hg))
           exact absurd h1 h2
       have hu : upD l t = 0 := by rw [h1]; exact R.up1
       unfold upB
       rw [hG, hu]
       rfl
     · have hE := ed_up R ht hd h1
       have hG := (hP _ t).2 ((edge_rel hR _ t).2 hE)
       obtain ⟨x, h2, h3, h4, _⟩ := ed_dir R hE
       have hu : (upD l t == 0) = false := beq_eq_false_iff_ne.2 (by omega)
       have ih := lead_step hR R hP top n h2 h3
       unfold upB
       rw [hG, hu]
       unfold leadB at ih
       simp only [Bool.false_or, cond_false]
       exact ih
theorem chain_dir {l : List Nd} (R : Rt l) {t : Int} {d : Nd} (ht : getF l t = some d) (hd : d.k = 2) {k : Nat} (ha : abN l 1 k t = false) : ∀ i, i < k → (∃ y, getF l (chain l t i) = some y ∧ y.k = 2) ∧ chain l t i ≠ 1 := fun i hi => by
 have B := rt_base R
 obtain ⟨h1, h2⟩ := ab_chain B k t ((dir_get B.2.1 t).2 ⟨d, ht, hd⟩) ha i hi
 exact ⟨(dir_get B.2.1 _).1 h1, h2⟩
theorem lead_reach {N : Tab} {l : List Nd} (hR : Rel N l) (R : Rt l) {G : Int → Option Int} (hP : IsPar N G) {ks : List Int} (hk : ∀ i, i ∈ ks ↔ (G i).isSome = true) {t : Int} {d : Nd} (ht : getF l t = some d) (hd : d.k = 2) : abN l 1 (ks.length + 1) t = true := by
 cases ha : abN l 1 (ks.length + 1) t with
 | true => rfl
 | false =>
   exfalso
   have hc := chain_dir R ht hd ha
   have hE : ∀ i, i < ks.length + 1 → Ed l (chain l t (i + 1)) (chain l t i) := fun i hi => by
     obtain ⟨⟨y, h1, h2⟩, h3⟩ := hc i hi
     exact ed_up R h1 h2 h3
   obtain ⟨i, j, hij, hj, e⟩ := pigeon (chain l t) ks (fun i hi => (hk _).2 (by
     rw [(hP _ _).2 ((edge_rel hR _ _).2 (hE i (by omega)))]
     rfl))
   obtain ⟨r, hr⟩ := R.rank
   have hlt : ∀ m, i + m + 1 ≤ ks.length + 1 → r (chain l t (i + m + 1)) < r (chain l t i) := fun m => by
     induction m with
     | zero => intro h; exact hr _ _ (hE i (by omega))
     | succ m ih =>
       intro h
       have h1 := ih (by omega)
       have h2 := hr _ _ (hE (i + m + 1) (by omega))
       have e2 : i + (m + 1) + 1 = i + m + 1 + 1 := by omega
       rw [e2]
       omega
   have h3 := hlt (j - i - 1) (by omega)
   have e3 : i + (j - i - 1) + 1 = j := by omega
   rw [e3, ← e] at h3
   omega
theorem lead_ab {N : Tab} {l : List Nd} (hR : Rel N l) (R : Rt l) {G : Int → Option Int} {c : Nat} (hP : IsPar N G) (hK : ∃ ks : List Int, ks.Pairwise (· ≠ ·) ∧ (∀ i, i ∈ ks ↔ (G i).isSome = true) ∧ ks.length = c) {top t : Int} {d : Nd} (ht : getF l t = some d) (hd : d.k = 2) : leadB G c top t = abN l top (l.length + 1) t := by
 obtain ⟨ks, _, h2, h3⟩ := hK
 rw [lead_step hR R hP top c ht hd]
 have r1 := lead_reach hR R hP h2 ht hd
 rw [h3] at r1
 have r2 := R.reach ht hd
 rw [Bool.eq_iff_iff]
 exact ⟨fun h => ab_up R.up1 top _ _ t r2 h, fun h => ab_up R.up1 top _ _ t r1 h⟩
theorem ab_dir {l : List Nd} (R : Rt l) (top : Int) : ∀ (n : Nat) {t : Int} {d : Nd}, getF l t = some d → d.k = 2 → abN l top n t = true → ∃ y, getF l top = some y ∧ y.k = 2
 | 0, _, _, _, _, h => by cases h
 | n + 1, t, d, ht, hd, h => by
   unfold abN at h
   by_cases q : t = top
   · exact ⟨d, by rw [← q]; exact ht, hd⟩
   · rw [beq_eq_false_iff_ne.2 q, cond_false] at h
     by_cases h1 : t = 1
     · have hu : upD l t = 0 := by rw [h1]; exact R.up1
       rw [hu] at h
       cases h
     · obtain ⟨x, h2, h3, h4, _⟩ := ed_dir R (ed_up R ht hd h1)
       rw [show (upD l t == 0) = false from beq_eq_false_iff_ne.2 (by omega), cond_false] at h
       exact ab_dir R top n h2 h3 h
def plE (z y : Nd) : Int := if z.k = 2 ∧ y.k ≠ 2 then 8 else if z.k ≠ 2 ∧ y.k = 2 then 7 else if 0 < z.ks.length then 9 else 0
def PlP (z y : Nd) (w : World) (e : Ending) (w' : World) : Prop := w' = w ∧ ((plE z y = 0 ∧ e = .returned (.tuple #[])) ∨ (plE z y ≠ 0 ∧ e = PT (plE z y)))
set_option maxHeartbeats 1000000 in
theorem tplace_c (zb zo yb yo : Nat) (z y : Nd) (w : World) (hz : NdC w zb zo z) (hy : NdC w yb yo y) :
   Calls Tryz.prog 104 #[.pointer (some ⟨zb, zo, none⟩), .pointer (some ⟨yb, yo, none⟩)] w (PlP z y w) := by
 obtain ⟨_, z1, _, _, _, z5⟩ := hz.all
 obtain ⟨_, y1, _, _, _, _⟩ := hy.all
 have F8 : Hid (z.k = 2 → y.k ≠ 2 → PlP z y w (PT 8) w) := hid (fun a b => by
   have e : plE z y = 8 := by unfold plE; rw [if_pos ⟨a, b⟩]
   exact ⟨rfl, .inr ⟨by rw [e]; decide, by rw [e]⟩⟩)
 have F7 : Hid (z.k ≠ 2 → y.k = 2 → PlP z y w (PT 7) w) := hid (fun a b => by
   have e : plE z y = 7 := by unfold plE; rw [if_neg (fun h => a h.1), if_pos ⟨a, b⟩]
   exact ⟨rfl, .inr ⟨by rw [e]; decide, by rw [e]⟩⟩)
 have F9 : Hid ((z.k = 2 ↔ y.k = 2) → 0 < z.ks.length → PlP z y w (PT 9) w) := hid (fun a b => by
   have e : plE z y = 9 := by unfold plE; rw [if_neg (fun h => h.2 (a.1 h.1)), if_neg (fun h => h.1 (a.2 h.2)), if_pos b]
   exact ⟨rfl, .inr ⟨by rw [e]; decide, by rw [e]⟩⟩)
 have F0 : Hid ((z.k = 2 ↔ y.k = 2) → ¬ 0 < z.ks.length → PlP z y w (.returned (.tuple #[])) w) := hid (fun a b => by
   have e : plE z y = 0 := by unfold plE; rw [if_neg (fun h => h.2 (a.1 h.1)), if_neg (fun h => h.1 (a.2 h.2)), if_neg b]
   exact ⟨rfl, .inl ⟨e, rfl⟩⟩)
 clear hz hy
 by_cases a : z.k = 2
 · have aB : (z.k == 2) = true := by rw [a]; rfl
   have aN : (z.k != 2) = false := by rw [a]; rfl
   by_cases b : y.k = 2
   · have bN : (y.k != 2) = false := by rw [b]; rfl
     by_cases c : 0 < z.ks.length
     · have cD : decide ((0 : Int) < (z.ks.length : Int)) = true := decide_eq_true (by omega)
       have cE : decide (0 < z.ks.length) = true := decide_eq_true c
       have F := hid (F9.out ⟨fun _ => b, fun _ => a⟩ c)
       generalize z.k = zk at *
       generalize y.k = yk at *
       generalize PlP z y w = PP at *
       clear F8 F7 F9 F0 a b c
       go_enter Tryz.func104, Tryz.ntmps104
       go_wp2_with (first
         | (go_at_call 72; have K3 := K2.out; refine (trefuse_t _ _).mono ?_; rintro _ wz ⟨rfl, hwz⟩; have hwz2 := hwz.symm; clear hwz; subst hwz2)
         | (go_at_call 72; have K3 := K1.out; refine (trefuse_f _ _).mono ?_; rintro _ wz ⟨rfl, hwz⟩; have hwz2 := hwz.symm; clear hwz; subst hwz2; have K2 := hid True.intro)
         | (go_at_call 72; refine (trefuse_f _ _).mono ?_; rintro _ wz ⟨rfl, hwz⟩; have hwz2 := hwz.symm; clear hwz; subst hwz2; have K1 := hid True.intro))
       exact ⟨rfl, F.out⟩
     · have cD : decide ((0 : Int) < (z.ks.length : Int)) = false := decide_eq_false (by omega)
       have cE : decide (0 < z.ks.length) = false := decide_eq_false c
       have F := hid (F0.out ⟨fun _ => b, fun _ => a⟩ c)
       generalize z.k = zk at *
       generalize y.k = yk at *
       generalize PlP z y w = PP at *
       clear F8 F7 F9 F0 a b c
       go_enter Tryz.func104, Tryz.ntmps104
       go_wp2_with (go_at_call 72; refine (trefuse_f _ _).mono ?_; rintro _ wz ⟨rfl, hwz⟩; have hwz2 := hwz.symm; clear hwz; subst hwz2)
       exact body_end (by kernel_rfl) rfl F.out
   · have bN : (y.k != 2) = true := by unfold bne; rw [beq_eq_false_iff_ne.2 b]; rfl
     have F := hid (F8.out a b)
     generalize z.k = zk at *
     generalize y.k = yk at *
     generalize PlP z y w = PP at *
     clear F8 F7 F9 F0 a b
     go_enter Tryz.func104, Tryz.ntmps104
     go_wp2_with (go_at_call 72; refine (trefuse_t _ _).mono ?_; rintro _ wz ⟨rfl, hwz⟩; have hwz2 := hwz.symm; clear hwz; subst hwz2)
     exact ⟨rfl, F.out⟩
 · have aB : (z.k == 2) = false := beq_eq_false_iff_ne.2 a
   have aN : (z.k != 2) = true := by unfold bne; rw [aB]; rfl
   by_cases b : y.k = 2
   · have bB : (y.k == 2) = true := by rw [b]; rfl
     have F := hid (F7.out a b)
     generalize z.k = zk at *
     generalize y.k = yk at *
     generalize PlP z y w = PP at *
     clear F8 F7 F9 F0 a b
     go_enter Tryz.func104, Tryz.ntmps104
     go_wp2_with (first
       | (go_at_call 72; have K3 := K1.out; refine (trefuse_t _ _).mono ?_; rintro _ wz ⟨rfl, hwz⟩; have hwz2 := hwz.symm; clear hwz; subst hwz2)
       | (go_at_call 72; refine (trefuse_f _ _).mono ?_; rintro _ wz ⟨rfl, hwz⟩; have hwz2 := hwz.symm; clear hwz; subst hwz2; have K1 := hid True.intro))
     exact ⟨rfl, F.out⟩
   · have bB : (y.k == 2) = false := beq_eq_false_iff_ne.2 b
     by_cases c : 0 < z.ks.length
     · have cD : decide ((0 : Int) < (z.ks.length : Int)) = true := decide_eq_true (by omega)
       have cE : decide (0 < z.ks.length) = true := decide_eq_true c
       have F := hid (F9.out ⟨fun h => absurd h a, fun h => absurd h b⟩ c)
       generalize z.k = zk at *
       generalize y.k = yk at *
       generalize PlP z y w = PP at *
       clear F8 F7 F9 F0 a b c
       go_enter Tryz.func104, Tryz.ntmps104
       go_wp2_with (first
         | (go_at_call 72; have K3 := K2.out; refine (trefuse_t _ _).mono ?_; rintro _ wz ⟨rfl, hwz⟩; have hwz2 := hwz.symm; clear hwz; subst hwz2)
         | (go_at_call 72; have K3 := K1.out; refine (trefuse_f _ _).mono ?_; rintro _ wz ⟨rfl, hwz⟩; have hwz2 := hwz.symm; clear hwz; subst hwz2; have K2 := hid True.intro)
         | (go_at_call 72; refine (trefuse_f _ _).mono ?_; rintro _ wz ⟨rfl, hwz⟩; have hwz2 := hwz.symm; clear hwz; subst hwz2; have K1 := hid True.intro))
       exact ⟨rfl, F.out⟩
     · have cD : decide ((0 : Int) < (z.ks.length : Int)) = false := decide_eq_false (by omega)
       have cE : decide (0 < z.ks.length) = false := decide_eq_false c
       have F := hid (F0.out ⟨fun h => absurd h a, fun h => absurd h b⟩ c)
       generalize z.k = zk at *
       generalize y.k = yk at *
       generalize PlP z y w = PP at *
       clear F8 F7 F9 F0 a b c
       go_enter Tryz.func104, Tryz.ntmps104
       go_wp2_with (go_at_call 72; refine (trefuse_f _ _).mono ?_; rintro _ wz ⟨rfl, hwz⟩; have hwz2 := hwz.symm; clear hwz; subst hwz2)
       exact body_end (by kernel_rfl) rfl F.out
theorem rename_e {l : List Nd} {o : Rec} {c : Int} (h : lookE (getF l o.dir) o.nm = c) (hc : c ≠ 0) : renameL l o = (c, []) := by
 unfold renameL
 rw [h, if_pos hc]
theorem rename_t {l : List Nd} {o : Rec} {d : Nd} {g c : Int} (h1 : getF l o.dir = some d) (h2 : d.k = 2) (h3 : kq d.ks o.nm = some ⟨o.nm, g⟩) (h0 : g ≠ 0) (h : dirE (getF l o.to) = c) (hc : c ≠ 0) : renameL l o = (c, []) := by
 obtain ⟨e1, e2⟩ := look_of h1 h2 h3 h0
 unfold renameL
 rw [e1, h, if_neg (by simp), if_pos hc]
theorem rename_w {l : List Nd} {o : Rec} {d n b : Nd} {g : Int} (h1 : getF l o.dir = some d) (h2 : d.k = 2) (h3 : kq d.ks o.nm = some ⟨o.nm, g⟩) (h0 : g ≠ 0) (h4 : getF l g = some n) (hb : getF l o.to = some b) (hbk : b.k = 2) :
   (n.k = 2 → abN l g (l.length + 1) o.to = true → renameL l o = (10, [])) ∧
   (¬ (n.k = 2 ∧ abN l g (l.length + 1) o.to = true) → ∀ z f2, kidI b.ks o.nm2 = f2 → f2 ≠ g → getF l f2 = some z → plE z n ≠ 0 → renameL l o = (plE z n, [])) ∧
   (¬ (n.k = 2 ∧ abN l g (l.length + 1) o.to = true) → kidI b.ks o.nm2 = 0 → getF l 0 = none → o.to ≠ o.dir → 12 ≤ b.ks.length → renameL l o = (4, [])) := by
 obtain ⟨e1, e2⟩ := look_of h1 h2 h3 h0
 obtain ⟨e3, e4⟩ := dir_of hb hbk
 unfold renameL
 rw [e1, e2, e3, e4, h4]
 simp only [Option.getD_some]
 refine ⟨fun a b => ?_, fun hn z f2 a b c e => ?_, fun hn a b c d => ?_⟩
 · rw [if_neg (by simp), if_neg (by simp), if_pos ⟨a, b⟩]
 · rw [a, c]
   simp only [Option.isSome_some, Option.getD_some, Bool.true_and]
   rw [if_neg (by simp), if_neg (by simp), if_neg hn, if_neg b]
   unfold plE at e ⊢
   by_cases q1 : z.k = 2 ∧ n.k ≠ 2
   · rw [if_pos q1, if_pos (by simp [q1.1, q1.2])]
   · rw [if_neg q1] at e ⊢
     rw [if_neg (by simp only [Bool.and_eq_true, beq_iff_eq, bne_iff_ne]; exact q1)]
     by_cases q2 : z.k ≠ 2 ∧ n.k = 2
     · rw [if_pos q2, if_pos (by simp [q2.1, q2.2])]
     · rw [if_neg q2] at e ⊢
       rw [if_neg (by simp only [Bool.and_eq_true, beq_iff_eq, bne_iff_ne]; exact q2)]
       by_cases q3 : 0 < z.ks.length
       · rw [if_pos q3, if_pos (by simpa using q3)]
       · rw [if_neg q3] at e
         exact absurd rfl e
 · rw [a, b]
   simp only [Option.isSome_none, Bool.false_and, Bool.not_false, Bool.true_and, if_neg (show ¬ (false = true) by decide)]
   rw [if_neg (by simp), if_neg (by simp), if_neg hn, if_neg (fun e => h0 e.symm), if_pos (by simp [c, d])]
theorem moved_len {l : List Nd} {o : Rec} {f : Int} {d : List Nd} {a b : Nd} (hs : Srt d) (ha : getF d o.dir = some a) (hb : getF d o.to = some b) : (movedL l o f d).length = d.length := by
 refine len_same (srt_moved hs) hs (fun g => ?_)
 rw [getF_moved l o f d ha hb]
 by_cases e : g = o.to
 · rw [if_pos e, e, hb]; rfl
 · rw [if_neg e]
   by_cases e2 : g = o.dir
   · rw [if_pos e2, e2, ha]; rfl
   · rw [if_neg e2]
theorem ent_again {K : List Kd} (hK : KSrt K) (s : ByteArray) {f : Int} : entL (entL K s 0) s f = entL K s f :=
 ksrt_ext (ksrt_ent _ _ (ksrt_ent _ _ hK)) (ksrt_ent _ _ hK) (fun t => by
   rw [kq_ent, kq_ent, kq_ent]
   by_cases e : t = s
   · rw [if_pos e, if_pos e]
   · rw [if_neg e, if_neg e, if_neg e])
theorem par_bd {w : World} {base tb m : Nat} {N : Tab} (h : MT w base tb m N) {G : Int → Option Int} (hP : IsPar N G) : ∀ g p, G g = some p → 0 ≤ p ∧ p < 4294967296 := fun g p hg => by
 obtain ⟨q, x, _, h1, _⟩ := (hP p g).1 hg
 obtain ⟨_, _, h3, h4⟩ := h.nd p q x h1
 rw [← h4]
 exact h3.1.1
def goalN (same : Bool) (x b : Nd) (a : Option Addr) (c : Nat) (L : List Kd) : Nd := bif same then x.kids a c L else b
theorem eql_none (W : World) (p : Addr) : (binOp .eql 51 (.pointer none) (.pointer (some p))).run Tryz.prog W = .ok (.bool false) W := by
 have h : ∀ d : Nat, (Op.equalIn (d + 1) 51 (.pointer none) (.pointer (some p))).run Tryz.prog W = .ok false W := fun d => by simp [Op.equalIn, run_underlying Tryz.underlying51]
 simp only [binOp]
 simp [Op.equal, Op.maxDepth, h 9999]
theorem eql_same (W : World) (p : Addr) : (binOp .eql 51 (.pointer (some p)) (.pointer (some p))).run Tryz.prog W = .ok (.bool true) W := by
 have h : ∀ d : Nat, (Op.equalIn (d + 1) 51 (.pointer (some p)) (.pointer (some p))).run Tryz.prog W = .ok true W := fun d => by simp [Op.equalIn, run_underlying Tryz.underlying51, Tryz.sizeOf39, run_sameAddr_same]
 simp only [binOp]
 simp [Op.equal, Op.maxDepth, h 9999]
theorem eql_other {W : World} {p q : Addr} {x y : Nd} (hp : Lie W p x) (hq : Lie W q y) (hne : p ≠ q) : (binOp .eql 51 (.pointer (some p)) (.pointer (some q))).run Tryz.prog W = .ok (.bool false) W := by
 obtain ⟨_, ca, ha, _⟩ := hp
 obtain ⟨_, cb, hb, _⟩ := hq
 have h : ∀ d : Nat, (Op.equalIn (d + 1) 51 (.pointer (some p)) (.pointer (some q))).run Tryz.prog W = .ok false W := fun d => by simp [Op.equalIn, run_underlying Tryz.underlying51, Tryz.sizeOf39, run_sameAddr_other W hne ha hb]
 simp only [binOp]
 simp [Op.equal, Op.maxDepth, h 9999]
structure RenH (w : World) (base tb : Nat) (N : Tab) (l : List Nd) (o : Rec) (p : Addr) (x : Nd) (q : Kd) (p2 : Addr) (y : Nd) (p4 : Addr) (b : Nd) : Prop where
 mt : MT w base tb l.length N
 rel : Rel N l
 rt : Rt l
 wf : o.Wf
 n1 : N o.dir = some (p, x)
 k1 : x.k = 2
 q1 : kq x.ks o.nm = some q
 n2 : N q.fid = some (p2, y)
 n4 : N o.to = some (p4, b)
 k4 : b.k = 2
theorem par_lead {w W : World} {base tb : Nat} {N : Tab} {l : List Nd} (h : MT w base tb l.length N) (hR : Rel N l) (R : Rt l) (hW : Below w.heap.size w W) {t : Int} {d : Nd} (ht : getF l t = some d) (hd : d.k = 2) (h0 : 0 ≤ t) (h1 : t < 4294967296) (top : Int) :
   Calls Tryz.prog 55 #[.map (some tb)] W fun e w' => e = .returned (.map (some W.heap.size)) ∧ (∀ W', Below w'.heap.size w' W' → Calls Tryz.prog 56 #[.map (some W.heap.size), .int .u32 top, .int .u32 t] W' fun e w'' => e = .returned (.bool (abN l top (l.length + 1) t)) ∧ Below W'.heap.size W' w'') ∧ Below W.heap.size W w' := by
 refine (parents_c tb l.length N W (h.later hW).tab (by have := R.few; omega) (whole_rel hR R) (oneup_rel hR R)).mono ?_
 rintro e w' ⟨rfl, ⟨c, G, hF, hc, hP⟩, hb⟩
 refine ⟨rfl, fun W' hW' => ?_, hb⟩
 have := leadUpTo_c W.heap.size c G W' (hF.keep (hW'.block _ hF.lt)) (by omega) (par_bd h hP) top t h0 h1
 rw [lead_ab hR R hP hF.list ht hd] at this
 exact this
end Go.Proofs.YtgbdplammniidaaGreatDoor
namespace Go.Proofs.YtgbdplammniidaaGreatDoor
open Go.RowKit Go.ChangeShapes Go.WideShapes Go.ChangeAt
set_option linter.unusedVariables false
set_option maxRecDepth 100000
theorem at_drop {l r : List Oper} {i : Nat} {o : Oper} (h : l.drop i = o :: r) : l.toArray[i]? = some o := by
 have := congrArg (fun x : List Oper => x[0]?) h
 simpa using this
theorem take_l {P : Program} {md : Region.Mode} {l r : List Oper} {Q : Exit → Act → World → Prop} {S : World → Prop} (i : Nat) {oi : Oper} {v : Value} {fuel : Nat} {listed : Array Bool} {a : Act} {w : World} (hi : l.drop i = oi :: r)
   (hs : Region.noSelect l.toArray = true) (hf : Region.free md l.toArray listed i = true) (hr : (Region.ready md l.toArray listed).contains i = true)
   (hQ : ∀ c a w, Q (.panic c) (a.put oi.dst v) w → Q (.panic c) a w) (hy : YieldsIf P l.toArray S oi v a) (hS : S w)
   (h : wpAnyH P md l.toArray Q S fuel (listed.setIfInBounds i true) (a.put oi.dst v) w) : wpAnyH P md l.toArray Q S (fuel + 1) listed a w :=
 wpAnyH_take (at_drop hi) hs hf hr hQ hy hS h
theorem cons_l {P : Program} {md : Region.Mode} {l r : List Oper} {Q : Exit → Act → World → Prop} {S : World → Prop} (i : Nat) {fuel : Nat} {listed : Array Bool} {a : Act} {w : World} {o : Oper} (ho : l.drop i = o :: r)
   (hr : Region.ready md l.toArray listed = [i])
   (h : ∀ K' : Act → World → Prop, Shut (∀ a w, S w → (S w → wpAnyH P md l.toArray Q S fuel (listed.setIfInBounds i true) a w) → K' a w) → if Region.wanted o (yielded l.toArray a.tmps) = true then Oper.wp P o a w K' Q else K' (a.put o.dst undef) w) :
   wpAnyH P md l.toArray Q S (fuel + 1) listed a w :=
 wpAnyH_ready hr (by simp) (AllReadyH.cons (at_drop ho) h AllReadyH.nil)
end Go.Proofs.YtgbdplammniidaaGreatDoor
