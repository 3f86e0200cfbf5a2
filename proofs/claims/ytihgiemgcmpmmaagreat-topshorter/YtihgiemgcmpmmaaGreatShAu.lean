/-
  Trees, plainly: what can be done beside an object that is made and removed can be done without it.
  Trees, plainly: what can be done beside an object that is made and removed can be done without it, and makes the same but for that.
  Trees, plainly: a setting that is set anew does not matter; nodes stay without places; operations one behind the other.
  A log that was made shorter makes the same tree: plainly.
  The records of a log whose operations can be done, on a tree of some operations.
  Operations of an input, in memory.
  A log of what can be done: plain facts; operations in a row that a call made.
-/
import Derived.Test.YtihgiemgcmpmmaaGreatShAt
import Derived.Test.YtihgiemgcmpmmaaGreatShAr
namespace Go.Proofs.YtihgiemgcmpmmaaGreat
set_option linter.unusedVariables false
set_option linter.unusedSimpArgs false
theorem kidI_of {l : List Kd} {s : ByteArray} {g : Int} (h : kq l s = some ⟨s, g⟩) : kidI l s = g := by rw [kidI_kq, h]; rfl
theorem kidI_no {l : List Kd} {s : ByteArray} (h : kq l s = none) : kidI l s = 0 := by rw [kidI_kq, h]; rfl
theorem dir_of {o : Option Nd} {x : Nd} (h : o = some x) (hk : x.k = 2) : dirE o = 0 ∧ dirN o = x := by
 subst h
 simp [dirE, dirN, hk]
theorem look_of {o : Option Nd} {x : Nd} {s : ByteArray} {g : Int} (h : o = some x) (hk : x.k = 2) (hq : kq x.ks s = some ⟨s, g⟩) (hg : g ≠ 0) : lookE o s = 0 ∧ lookI o s = g := by
 subst h
 simp [lookE, lookI, hk, kidI_of hq, hg]
theorem create_do {l : List Nd} {o : Rec} {d : Nd} (h1 : getF l o.dir = some d) (h2 : d.k = 2) (h3 : kq d.ks o.nm = none) (h4 : getF l o.fid = none) (h5 : l.length < 40) (h6 : d.ks.length < 12) :
   createL l o = (0, setL (setL l (d.kids none 0 (entL d.ks o.nm o.fid))) (newN o)) := by
 obtain ⟨e1, e2⟩ := dir_of h1 h2
 unfold createL
 rw [e1, e2, kidI_no h3, h4]
 have c3 : ¬ (40 ≤ l.length ∨ 12 ≤ d.ks.length) := by omega
 simp [c3]
theorem hard_do {l : List Nd} {o : Rec} {d n : Nd} (h0 : getF l o.fid = some n) (hn : n.k ≠ 2) (h1 : getF l o.dir = some d) (h2 : d.k = 2) (h3 : kq d.ks o.nm = none) (h6 : d.ks.length < 12) :
   hardL l o = (0, setL (setL l (d.kids none 0 (entL d.ks o.nm o.fid))) (n.lnk (n.ln + 1))) := by
 obtain ⟨e1, e2⟩ := dir_of h1 h2
 unfold hardL
 rw [e1, e2, kidI_no h3, h0]
 have c3 : ¬ 12 ≤ d.ks.length := by omega
 simp [c3, hn]
theorem remove_do {l : List Nd} {o : Rec} {d n : Nd} (h1 : getF l o.dir = some d) (h2 : d.k = 2) (h3 : kq d.ks o.nm = some ⟨o.nm, n.fid⟩) (h4 : getF l n.fid = some n) (h0 : n.fid ≠ 0) (hk : o.k = 5 ∨ o.k = 6) (h5 : o.k = 6 ↔ n.k = 2) (h6 : n.ks = []) :
   removeL l o = (0, lessL (setL l (d.kids none 0 (entL d.ks o.nm 0))) n) := by
 obtain ⟨e1, e2⟩ := look_of h1 h2 h3 h0
 unfold removeL
 rw [e1, e2, h4, h1]
 simp only [Option.getD_some]
 rw [if_neg (by simp), if_neg (fun h => by have := h5.2 h.2; omega), if_neg (fun h => h.2 (h5.1 h.1)), if_neg (by rw [h6]; simp)]
theorem write_do {l : List Nd} {o : Rec} {n : Nd} (h1 : getF l o.fid = some n) (h2 : o.k = 9 ∨ (n.k ≠ 2 ∧ n.k ≠ 3)) : writeL l o = (0, setL l (n.wr o)) := by
 unfold writeL Nd.wr
 rw [h1]
 simp only [Option.isSome_some, Option.getD_some, if_neg (show ¬ (true = false) by decide)]
 by_cases c : o.k = 9
 · rw [if_pos c, if_pos c]
 · rw [if_neg c, if_neg c]
   rcases h2 with h | h
   · exact absurd h c
   · rw [if_neg h.1, if_neg h.2]
theorem rename_same {l : List Nd} {o : Rec} {a b : Nd} {g : Int} {n : Nd} (ha : getF l o.dir = some a) (hak : a.k = 2) (hb : getF l o.to = some b) (hbk : b.k = 2) (hq : kq a.ks o.nm = some ⟨o.nm, n.fid⟩) (hn : getF l n.fid = some n) (h0 : n.fid ≠ 0)
   (hno : n.k = 2 → abN l n.fid (l.length + 1) o.to ≠ true) (h2 : kidI b.ks o.nm2 = n.fid) : renameL l o = (0, l) := by
 obtain ⟨e1, e2⟩ := look_of ha hak hq h0
 obtain ⟨e3, e4⟩ := dir_of hb hbk
 unfold renameL
 rw [e1, e2, e3, e4, hn]
 simp only [Option.getD_some]
 rw [if_neg (by simp), if_neg (by simp), if_neg (fun h => hno h.1 h.2), if_pos h2]
theorem rename_new {l : List Nd} {o : Rec} {a b n : Nd} (ha : getF l o.dir = some a) (hak : a.k = 2) (hb : getF l o.to = some b) (hbk : b.k = 2) (hq : kq a.ks o.nm = some ⟨o.nm, n.fid⟩) (hn : getF l n.fid = some n) (h0 : n.fid ≠ 0)
   (hno : n.k = 2 → abN l n.fid (l.length + 1) o.to ≠ true) (h2 : kq b.ks o.nm2 = none) (hz : getF l 0 = none) (hroom : o.to = o.dir ∨ b.ks.length < 12) : renameL l o = (0, movedL l o n.fid l) := by
 obtain ⟨e1, e2⟩ := look_of ha hak hq h0
 obtain ⟨e3, e4⟩ := dir_of hb hbk
 unfold renameL
 rw [e1, e2, e3, e4, hn, kidI_no h2, hz]
 simp only [Option.getD_some, Option.isSome_none, Bool.false_and, Bool.not_false, Bool.true_and, if_neg (show ¬ (false = true) by decide)]
 rw [if_neg (by simp), if_neg (by simp), if_neg (fun h => hno h.1 h.2), if_neg (fun e => h0 e.symm), if_neg]
 · rfl
 · rintro h
   simp only [Bool.and_eq_true, bne_iff_ne, decide_eq_true_eq] at h
   rcases hroom with e | e
   · exact h.1 e
   · omega
theorem rename_old {l : List Nd} {o : Rec} {a b n y : Nd} (ha : getF l o.dir = some a) (hak : a.k = 2) (hb : getF l o.to = some b) (hbk : b.k = 2) (hq : kq a.ks o.nm = some ⟨o.nm, n.fid⟩) (hn : getF l n.fid = some n) (h0 : n.fid ≠ 0)
   (hno : n.k = 2 → abN l n.fid (l.length + 1) o.to ≠ true) (h2 : kq b.ks o.nm2 = some ⟨o.nm2, y.fid⟩) (hy : getF l y.fid = some y) (hyn : y.fid ≠ n.fid) (hyk : y.ks = []) (hkk : n.k = 2 ↔ y.k = 2) : renameL l o = (0, movedL l o n.fid (lessL l y)) := by
 obtain ⟨e1, e2⟩ := look_of ha hak hq h0
 obtain ⟨e3, e4⟩ := dir_of hb hbk
 unfold renameL
 rw [e1, e2, e3, e4, hn, kidI_of h2, hy]
 simp only [Option.getD_some, Option.isSome_some, Bool.true_and, Bool.not_true, Bool.false_and, if_neg (show ¬ (false = true) by decide)]
 rw [if_neg (by simp), if_neg (by simp), if_neg (fun h => hno h.1 h.2), if_neg hyn, if_neg, if_neg, if_neg]
 · rfl
 · simp [hyk]
 · simp only [Bool.and_eq_true, bne_iff_ne, beq_iff_eq]; intro h; exact h.1 (hkk.1 h.2)
 · simp only [Bool.and_eq_true, bne_iff_ne, beq_iff_eq]; intro h; exact h.2 (hkk.2 h.1)
theorem rename_how {l : List Nd} (R : Rt l) {o : Rec} (h : (renameL l o).1 = 0) : ∃ a b n, getF l o.dir = some a ∧ getF l o.to = some b ∧ a.k = 2 ∧ b.k = 2 ∧ getF l n.fid = some n ∧ kq a.ks o.nm = some ⟨o.nm, n.fid⟩ ∧
   (n.k = 2 → abN l n.fid (l.length + 1) o.to ≠ true) ∧
   ((kq b.ks o.nm2 = none ∧ (o.to = o.dir ∨ b.ks.length < 12) ∧ (renameL l o).2 = movedL l o n.fid l) ∨
     (kq b.ks o.nm2 = some ⟨o.nm2, n.fid⟩ ∧ (renameL l o).2 = l) ∨
     ∃ y, kq b.ks o.nm2 = some ⟨o.nm2, y.fid⟩ ∧ getF l y.fid = some y ∧ y.fid ≠ n.fid ∧ y.ks = [] ∧ (n.k = 2 ↔ y.k = 2) ∧ (renameL l o).2 = movedL l o n.fid (lessL l y)) := by
 unfold renameL at h ⊢
 by_cases c1 : lookE (getF l o.dir) o.nm ≠ 0
 · rw [if_pos c1] at h; exact absurd h c1
 rw [if_neg c1] at h ⊢
 by_cases c2 : dirE (getF l o.to) ≠ 0
 · rw [if_pos c2] at h; exact absurd h c2
 rw [if_neg c2] at h ⊢
 obtain ⟨a1, a2, a3, a4⟩ := lookE_ok (Decidable.not_not.1 c1)
 obtain ⟨b1, b2⟩ := dirE_ok (Decidable.not_not.1 c2)
 generalize (getF l o.dir).getD Nd.no = a at a1 a2 a3 a4
 generalize dirN (getF l o.to) = b at *
 rw [a3] at a4 h ⊢
 have hka := R.kok a1 a2
 have hkb := R.kok b1 b2
 obtain ⟨q, hq, hqs, hqf⟩ : ∃ q, q ∈ a.ks ∧ q.nm = o.nm ∧ kidI a.ks o.nm = q.fid := kidI_mem a4
 have hkq : kq a.ks o.nm = some q := by rw [← hqs]; exact ksrt_get hka.1 hq
 obtain ⟨_, n, hn⟩ := R.kids a1 hq
 have fn := (getF_mem hn).2
 have eq : q = ⟨o.nm, n.fid⟩ := by
   cases q; simp only at hqs fn; rw [hqs, fn]
 rw [hqf, ← fn] at h ⊢
 rw [← fn] at hn
 rw [hn] at h ⊢
 simp only [Option.getD_some] at h ⊢
 by_cases c3 : n.k = 2 ∧ abN l n.fid (l.length + 1) o.to = true
 · rw [if_pos c3] at h; cases h
 rw [if_neg c3] at h ⊢
 have hno : n.k = 2 → abN l n.fid (l.length + 1) o.to ≠ true := fun e e2 => c3 ⟨e, e2⟩
 refine ⟨a, b, n, a1, b1, a2, b2, hn, by rw [hkq, eq], hno, ?_⟩
 cases hk2 : kq b.ks o.nm2 with
 | none =>
   have e0 : kidI b.ks o.nm2 = 0 := by rw [kidI_kq, hk2]; rfl
   have g0 : getF l 0 = none := by
     cases e : getF l 0 with
     | none => rfl
     | some z => have := (R.at e).2.1; omega
   have hn0 : n.fid ≠ 0 := by have := (R.at hn).2.1; omega
   rw [e0, g0, if_neg (fun e => hn0 e.symm)] at h ⊢
   simp only [Option.isSome_none, Bool.false_and, Bool.not_false, Bool.true_and, if_neg (show ¬ (false = true) by decide)] at h ⊢
   by_cases c5 : (o.to != o.dir && decide (12 ≤ b.ks.length)) = true
   · rw [if_pos c5] at h; cases h
   rw [if_neg c5]
   refine .inl ⟨by first | rfl | trivial, ?_, rfl⟩
   by_cases e : o.to = o.dir
   · exact .inl e
   · right
     simp only [Bool.and_eq_true, bne_iff_ne, decide_eq_true_eq, not_and] at c5
     have := c5 e
     omega
 | some r =>
   obtain ⟨r1, r2⟩ := kq_some hk2
   obtain ⟨_, y, hy⟩ := R.kids b1 r1
   have fy := (getF_mem hy).2
   have e0 : kidI b.ks o.nm2 = y.fid := by rw [kidI_kq, hk2, fy]; rfl
   have er : r = ⟨o.nm2, y.fid⟩ := by cases r; simp only at r2 fy; rw [r2, fy]
   rw [← fy] at hy
   right
   by_cases c4 : y.fid = n.fid
   · rw [e0, if_pos c4]
     exact .inl ⟨by rw [er, c4], rfl⟩
   right
   rw [e0, if_neg c4, hy] at h ⊢
   simp only [Option.isSome_some, Option.getD_some, Bool.true_and, Bool.not_true, Bool.false_and, if_neg (show ¬ (false = true) by decide)] at h ⊢
   by_cases c5 : (y.k == 2 && n.k != 2) = true
   · rw [if_pos c5] at h; cases h
   rw [if_neg c5] at h ⊢
   by_cases c6 : (y.k != 2 && n.k == 2) = true
   · rw [if_pos c6] at h; cases h
   rw [if_neg c6] at h ⊢
   by_cases c7 : decide (0 < y.ks.length) = true
   · rw [if_pos c7] at h; cases h
   rw [if_neg c7]
   refine ⟨y, by rw [er], hy, c4, ?_, ?_, rfl⟩
   · have : ¬ 0 < y.ks.length := by simpa using c7
     exact List.length_eq_zero_iff.1 (by omega)
   · simp only [Bool.and_eq_true, bne_iff_ne, beq_iff_eq, not_and, Decidable.not_not] at c5 c6
     exact ⟨fun e => Decidable.not_not.1 (fun e2 => (c6 e2) e), fun e => c5 e⟩
theorem ab_part {l m : List Nd} (R : Rt l) (M : Rt m) (hE : ∀ f g, Ed m f g → Ed l f g) (n : Int) : ∀ (k : Nat) (g : Int), (∃ d, getF m g = some d ∧ d.k = 2) → abN m n k g = true → abN l n k g = true
 | 0, _, _, h => by cases h
 | k + 1, g, hd, h => by
   unfold abN at h ⊢
   cases q : (g == n) with
   | true => rfl
   | false =>
     rw [q] at h
     simp only [cond_false] at h ⊢
     have hne : g ≠ 1 := fun e => by
       rw [e, M.up1] at h
       cases h
     obtain ⟨d, hd1, hd2⟩ := hd
     have hc := (M.links hd1 hne).1
     have : ∃ p x, getF m p = some x ∧ ∃ q ∈ x.ks, q.fid = g := by
       obtain ⟨x, hx, hx2⟩ := wsm_ex (ω := cN g) (l := m) (by show 0 < cT g m; omega)
       obtain ⟨q, hq, hq2⟩ := wsm_ex (ω := fun q : Kd => if q.fid = g then 1 else 0) (l := x.ks) hx2
       refine ⟨x.fid, x, srt_get M.srt hx, q, hq, ?_⟩
       by_cases e : q.fid = g
       · exact e
       · simp [e] at hq2
     obtain ⟨p, x, hp, q', hq1, hq2⟩ := this
     have hEd : Ed m p g := ⟨x, d, hp, ⟨q', hq1, hq2⟩, hd1, hd2⟩
     rw [M.up hEd] at h
     rw [R.up (hE p g hEd)]
     cases q2 : (p == 0) with
     | true => rw [q2] at h; cases h
     | false =>
       rw [q2] at h
       simp only [cond_false] at h ⊢
       exact ab_part R M hE n k p ⟨x, hp, M.isdir hp hq1⟩ h
end Go.Proofs.YtihgiemgcmpmmaaGreat
namespace Go.Proofs.YtihgiemgcmpmmaaGreat
set_option linter.unusedVariables false
set_option linter.unusedSimpArgs false
section
variable {f d : Int} {s : ByteArray} {k : Int} {l : List Nd}
theorem Hl.ed (h : Hl f d s k l) (f' g : Int) (hE : Ed (strip f d s l) f' g) : Ed l f' g := ed_mono (fun f' x hx q hq => by
   rw [getF_strip] at hx
   split at hx
   · cases hx
   · cases e : getF l f' with
     | none => rw [e] at hx; cases hx
     | some y =>
       rw [e] at hx
       cases hx
       refine ⟨y, rfl, q, ?_, rfl⟩
       rw [stripN_ks] at hq
       split at hq
       · rw [entL_zero, List.mem_filter] at hq; exact hq.1
       · exact hq) (fun g z hz hk => by
   rw [getF_strip] at hz
   split at hz
   · cases hz
   · cases e : getF l g with
     | none => rw [e] at hz; cases hz
     | some y =>
       rw [e] at hz
       cases hz
       exact ⟨y, rfl, by rw [stripN_k] at hk; exact hk⟩) hE
theorem getF_strip_some {g : Int} {x : Nd} (hg : g ≠ f) (hx : getF l g = some x) : getF (strip f d s l) g = some (stripN d s x) := by
 rw [getF_strip, if_neg hg, hx]; rfl
theorem getF_strip_none {g : Int} (hx : getF l g = none) : getF (strip f d s l) g = none := by
 rw [getF_strip, hx]; split <;> rfl
theorem strip_moved {o : Rec} {g : Int} {D : List Nd} {a b : Nd} (hs : Srt D) (ha : getF D o.dir = some a) (hb : getF D o.to = some b) (hka : KSrt a.ks) (hkb : KSrt b.ks) (hd : o.dir ≠ f) (ht : o.to ≠ f)
   (h1 : ¬ (o.dir = d ∧ o.nm = s)) (h2 : ¬ (o.to = d ∧ o.nm2 = s)) (L L' : List Nd) : strip f d s (movedL L o g D) = movedL L' o g (strip f d s D) := by
 have fa := (getF_mem ha).2
 have fb := (getF_mem hb).2
 refine srt_ext (srt_strip (srt_moved hs)) (srt_moved (srt_strip hs)) (fun t => ?_)
 rw [getF_strip, getF_moved L o g D ha hb, getF_moved L' o g _ (getF_strip_some hd ha) (getF_strip_some ht hb), getF_strip]
 have ea : stripN d s (a.kids none 0 (entL a.ks o.nm 0)) = (stripN d s a).kids none 0 (entL (stripN d s a).ks o.nm 0) := stripN_kids 0 (by rw [fa]; exact h1) hka
 have eb : stripN d s (b.kids none 0 (entL (if o.to = o.dir then entL a.ks o.nm 0 else b.ks) o.nm2 g)) = (stripN d s b).kids none 0 (entL (if o.to = o.dir then entL (stripN d s a).ks o.nm 0 else (stripN d s b).ks) o.nm2 g) := by
   by_cases e : o.to = o.dir
   · rw [if_pos e, if_pos e]
     have hab : b = a := by rw [e, ha] at hb; exact (Option.some.inj hb).symm
     subst hab
     have := stripN_kids (d := d) (s := s) (t := o.nm2) (x := b.kids none 0 (entL b.ks o.nm 0)) g (by show ¬ (b.fid = d ∧ _); rw [fb]; exact h2) (ksrt_ent _ _ hka)
     rw [ea] at this
     exact this
   · rw [if_neg e, if_neg e]
     exact stripN_kids g (by rw [fb]; exact h2) hkb
 by_cases e1 : t = o.to
 · rw [if_neg (by rw [e1]; exact ht), if_pos e1, if_pos e1, Option.map_some, eb]
 · rw [if_neg e1, if_neg e1]
   by_cases e2 : t = o.dir
   · rw [if_neg (by rw [e2]; exact hd), if_pos e2, if_pos e2, Option.map_some, ea]
   · rw [if_neg e2, if_neg e2]
theorem Hl.moved {o : Rec} {g : Int} {D : List Nd} {a b : Nd} (H : Hl f d s k D) (ha : getF D o.dir = some a) (hb : getF D o.to = some b) (hd : o.dir ≠ f) (ht : o.to ≠ f)
   (h1 : ¬ (o.dir = d ∧ o.nm = s)) (h2 : ¬ (o.to = d ∧ o.nm2 = s)) (L : List Nd) : Hl f d s k (movedL L o g D) := by
 have hG := getF_moved L o g D ha hb
 obtain ⟨x, h3, h4⟩ := H.en
 obtain ⟨m, h5, h6⟩ := H.nd
 refine ⟨⟨m, by rw [hG, if_neg ht.symm, if_neg hd.symm]; exact h5, h6⟩, ?_⟩
 by_cases e1 : d = o.to
 · refine ⟨_, by rw [hG, if_pos e1], ?_⟩
   show kq (entL (if o.to = o.dir then entL a.ks o.nm 0 else b.ks) o.nm2 g) s = _
   rw [kq_ent, if_neg (fun e => h2 ⟨e1.symm, e.symm⟩)]
   by_cases e : o.to = o.dir
   · rw [if_pos e, kq_ent, if_neg (fun e2 => h1 ⟨by rw [← e, e1], e2.symm⟩)]
     rw [e1, e, ha] at h3
     cases h3
     exact h4
   · rw [if_neg e]
     rw [e1, hb] at h3
     cases h3
     exact h4
 · by_cases e2 : d = o.dir
   · refine ⟨_, by rw [hG, if_neg e1, if_pos e2], ?_⟩
     show kq (entL a.ks o.nm 0) s = _
     rw [kq_ent, if_neg (fun e => h1 ⟨e2.symm, e.symm⟩)]
     rw [e2, ha] at h3
     cases h3
     exact h4
   · exact ⟨x, by rw [hG, if_neg e1, if_neg e2]; exact h3, h4⟩
structure Far (f d : Int) (s : ByteArray) (o : Rec) : Prop where
 fid : o.fid ≠ f
 dir : o.dir ≠ f
 to' : o.to ≠ f
 en : ¬ (o.dir = d ∧ o.nm = s)
 go : ¬ (o.to = d ∧ o.nm2 = s)
theorem far_create (H : Hl f d s k l) (R : Rt l) {o : Rec} (F : Far f d s o) (h : (createL l o).1 = 0) :
   createL (strip f d s l) o = (0, strip f d s (createL l o).2) ∧ Hl f d s k (createL l o).2 := by
 obtain ⟨a, h1, h2, h3, h4, h5, h6, e⟩ := create_ok R h
 have fa := (getF_mem h1).2
 have hka := R.kok h1 h2
 have hlen := H.len R
 have hsl := stripN_len d s a
 obtain ⟨x, hx, hxq⟩ := H.en
 have hnd : o.fid ≠ d := fun e => by rw [e, hx] at h4; cases h4
 have hen : ¬ (a.fid = d ∧ o.nm = s) := by rw [fa]; exact F.en
 rw [create_do (getF_strip_some F.dir h1) (by rw [stripN_k]; exact h2) (by rw [stripN_kq hen]; exact h3) (getF_strip_none h4) (by omega) (by omega), e]
 constructor
 · rw [strip_set (srt_set _ R.srt) (show (newN o).fid ≠ f from F.fid), strip_set R.srt (show (a.kids none 0 _).fid ≠ f by show a.fid ≠ f; rw [fa]; exact F.dir), stripN_kids _ hen hka.1, stripN_ne (show (newN o).fid ≠ d from hnd)]
 · refine (H.set (by show a.fid ≠ f; rw [fa]; exact F.dir) (fun e => ?_)).set (show (newN o).fid ≠ f from F.fid) (fun e => absurd e hnd)
   show kq (entL a.ks o.nm o.fid) s = _
   have e' : a.fid = d := e
   rw [kq_ent, if_neg (fun e2 => hen ⟨e', e2.symm⟩)]
   rw [← e', fa, h1] at hx
   cases hx
   exact hxq
theorem far_hard (H : Hl f d s k l) (R : Rt l) {o : Rec} (F : Far f d s o) (h : (hardL l o).1 = 0) :
   hardL (strip f d s l) o = (0, strip f d s (hardL l o).2) ∧ Hl f d s k (hardL l o).2 := by
 obtain ⟨a, n, h0, hn, h1, h2, h3, h6, e⟩ := hard_ok R h
 have fa := (getF_mem h1).2
 have fn := (getF_mem h0).2
 have hka := R.kok h1 h2
 have hsl := stripN_len d s a
 obtain ⟨x, hx, hxq⟩ := H.en
 have hnd : n.fid ≠ d := fun e => by
   rw [← fn, e, hx] at h0
   cases h0
   exact hn (R.isdir hx (kq_some hxq).1)
 have hen : ¬ (a.fid = d ∧ o.nm = s) := by rw [fa]; exact F.en
 rw [hard_do (n := stripN d s n) (getF_strip_some F.fid h0) (by rw [stripN_k]; exact hn) (getF_strip_some F.dir h1) (by rw [stripN_k]; exact h2) (by rw [stripN_kq hen]; exact h3) (by omega), e]
 constructor
 · rw [strip_set (srt_set _ R.srt) (show (n.lnk (n.ln + 1)).fid ≠ f by show n.fid ≠ f; rw [fn]; exact F.fid), strip_set R.srt (show (a.kids none 0 _).fid ≠ f by show a.fid ≠ f; rw [fa]; exact F.dir), stripN_kids _ hen hka.1, stripN_lnk d s n _ hnd, stripN_ln]
 · refine (H.set (by show a.fid ≠ f; rw [fa]; exact F.dir) (fun e => ?_)).set (show (n.lnk (n.ln + 1)).fid ≠ f by show n.fid ≠ f; rw [fn]; exact F.fid) (fun e => absurd e hnd)
   show kq (entL a.ks o.nm o.fid) s = _
   have e' : a.fid = d := e
   rw [kq_ent, if_neg (fun e2 => hen ⟨e', e2.symm⟩)]
   rw [← e', fa, h1] at hx
   cases hx
   exact hxq
theorem far_remove (H : Hl f d s k l) (R : Rt l) {o : Rec} (hk : o.k = 5 ∨ o.k = 6) (F : Far f d s o) (h : (removeL l o).1 = 0) :
   removeL (strip f d s l) o = (0, strip f d s (removeL l o).2) ∧ Hl f d s k (removeL l o).2 := by
 obtain ⟨a, n, h1, h2, h3, h4, h5, h6, e⟩ := remove_ok R hk h
 have fa := (getF_mem h1).2
 have hka := R.kok h1 h2
 obtain ⟨x, hx, hxq⟩ := H.en
 have hen : ¬ (a.fid = d ∧ o.nm = s) := by rw [fa]; exact F.en
 have hnf : n.fid ≠ f := fun e => by
   have := H.only R h1 (kq_some h3).1 e
   exact F.en this
 have hnd : n.fid ≠ d := fun e => by
   rw [e, hx] at h4
   cases h4
   rw [h6] at hxq
   cases hxq
 have hn0 : n.fid ≠ 0 := by have := (R.at h4).2.1; omega
 have h4' : getF (strip f d s l) n.fid = some n := by rw [getF_strip_some hnf h4, stripN_ne hnd]
 rw [remove_do (getF_strip_some F.dir h1) (by rw [stripN_k]; exact h2) (by rw [stripN_kq hen]; exact h3) h4' hn0 hk h5 h6, e]
 constructor
 · rw [strip_less (srt_set _ R.srt) hnf hnd, strip_set R.srt (show (a.kids none 0 _).fid ≠ f by show a.fid ≠ f; rw [fa]; exact F.dir), stripN_kids _ hen hka.1]
 · refine (H.set (by show a.fid ≠ f; rw [fa]; exact F.dir) (fun e => ?_)).less hnf hnd
   show kq (entL a.ks o.nm 0) s = _
   have e' : a.fid = d := e
   rw [kq_ent, if_neg (fun e2 => hen ⟨e', e2.symm⟩)]
   rw [← e', fa, h1] at hx
   cases hx
   exact hxq
theorem stripN_wr (n : Nd) (o : Rec) (h : n.fid = d → n.k = 2) (h2 : o.k = 9 ∨ (n.k ≠ 2 ∧ n.k ≠ 3)) : stripN d s (n.wr o) = (stripN d s n).wr o := by
 by_cases e : n.fid = d
 · have hk := h e
   have e9 : o.k = 9 := by rcases h2 with h2 | h2; exact h2; exact absurd hk h2.1
   unfold Nd.wr
   rw [if_pos e9, if_pos e9]
   unfold stripN
   rw [if_pos e, if_pos (show (⟨n.fid, n.k, o.md, n.ln, none, 0, n.zs, none, 0, n.ks⟩ : Nd).fid = d from e)]
   rfl
 · have : (n.wr o).fid ≠ d := by unfold Nd.wr; split <;> exact e
   rw [stripN_ne e, stripN_ne this]
theorem wr_fid (n : Nd) (o : Rec) : (n.wr o).fid = n.fid := by unfold Nd.wr; split <;> rfl
theorem wr_ks (n : Nd) (o : Rec) : (n.wr o).ks = n.ks := by unfold Nd.wr; split <;> rfl
theorem wr_k (n : Nd) (o : Rec) : (n.wr o).k = n.k := by unfold Nd.wr; split <;> rfl
theorem wr_ln (n : Nd) (o : Rec) : (n.wr o).ln = n.ln := by unfold Nd.wr; split <;> rfl
theorem far_write (H : Hl f d s k l) (R : Rt l) {o : Rec} (F : Far f d s o) (h : (writeL l o).1 = 0) :
   writeL (strip f d s l) o = (0, strip f d s (writeL l o).2) ∧ Hl f d s k (writeL l o).2 := by
 obtain ⟨n, h1, h2, e⟩ := write_ok h
 have fn := (getF_mem h1).2
 obtain ⟨x, hx, hxq⟩ := H.en
 have hd2 : n.fid = d → n.k = 2 := fun e => by
   rw [← fn, e, hx] at h1
   cases h1
   exact R.isdir hx (kq_some hxq).1
 rw [write_do (getF_strip_some F.fid h1) (by rw [stripN_k]; exact h2), e]
 constructor
 · rw [strip_set R.srt (by rw [wr_fid, fn]; exact F.fid), stripN_wr n o hd2 h2]
 · refine H.set (by rw [wr_fid, fn]; exact F.fid) (fun e => ?_)
   rw [wr_fid] at e
   rw [← fn, e, hx] at h1
   cases h1
   rw [wr_ks]
   exact hxq
theorem own_write (H : Hl f d s k l) (R : Rt l) {o : Rec} (F : o.fid = f) (h : (writeL l o).1 = 0) :
   strip f d s (writeL l o).2 = strip f d s l ∧ Hl f d s k (writeL l o).2 := by
 obtain ⟨n, h1, h2, e⟩ := write_ok h
 have fn := (getF_mem h1).2
 obtain ⟨x, hx, hxq⟩ := H.en
 obtain ⟨m, h5, h6, h7, h8⟩ := H.nd
 rw [F, h5] at h1
 cases h1
 rw [e]
 refine ⟨strip_own R.srt (by rw [wr_fid, fn]; exact F), ⟨⟨_, by rw [getF_set, if_pos (by rw [wr_fid, fn, F])], by rw [wr_k]; exact h6, by rw [wr_ks]; exact h7, by rw [wr_ln]; exact h8⟩, ⟨x, ?_, hxq⟩⟩⟩
 rw [getF_set, if_neg (by rw [wr_fid, fn, F]; exact H.ne.symm)]
 exact hx
theorem far_rename (H : Hl f d s k l) (R : Rt l) {o : Rec} (F : Far f d s o) (h : (renameL l o).1 = 0) :
   renameL (strip f d s l) o = (0, strip f d s (renameL l o).2) ∧ Hl f d s k (renameL l o).2 := by
 obtain ⟨a, b, n, ha, hb, hak, hbk, hn, hq, hno, h2⟩ := rename_how R h
 have fa := (getF_mem ha).2
 have fb := (getF_mem hb).2
 have hka := R.kok ha hak
 have hkb := R.kok hb hbk
 obtain ⟨x, hx, hxq⟩ := H.en
 have hen : ¬ (a.fid = d ∧ o.nm = s) := by rw [fa]; exact F.en
 have hgo : ¬ (b.fid = d ∧ o.nm2 = s) := by rw [fb]; exact F.go
 have hnf : n.fid ≠ f := fun e => F.en (H.only R ha (kq_some hq).1 e)
 have hn0 : n.fid ≠ 0 := by have := (R.at hn).2.1; omega
 have M := H.rt R
 have hlen := H.len R
 have ha' := getF_strip_some (d := d) (s := s) F.dir ha
 have hb' := getF_strip_some (d := d) (s := s) F.to' hb
 have hn' := getF_strip_some (d := d) (s := s) hnf hn
 have hq' : kq (stripN d s a).ks o.nm = some ⟨o.nm, (stripN d s n).fid⟩ := by rw [stripN_kq hen, stripN_fid]; exact hq
 have hn'' : getF (strip f d s l) (stripN d s n).fid = some (stripN d s n) := by rw [stripN_fid]; exact hn'
 have hno' : (stripN d s n).k = 2 → abN (strip f d s l) (stripN d s n).fid ((strip f d s l).length + 1) o.to ≠ true := fun e e2 => by
   rw [stripN_k] at e
   rw [stripN_fid] at e2
   have h3 := ab_part R M H.ed n.fid _ o.to ⟨_, hb', by rw [stripN_k]; exact hbk⟩ e2
   exact hno e (ab_up R.up1 n.fid _ _ o.to (R.reach hb hbk) h3)
 have k2a : (stripN d s a).k = 2 := by rw [stripN_k]; exact hak
 have k2b : (stripN d s b).k = 2 := by rw [stripN_k]; exact hbk
 have hn0' : (stripN d s n).fid ≠ 0 := by rw [stripN_fid]; exact hn0
 rcases h2 with ⟨h3, h4, e⟩ | ⟨h3, e⟩ | ⟨y, h3, hy, hyn, hyk, hkk, e⟩
 · rw [e]
   have hz : getF (strip f d s l) 0 = none := getF_strip_none (by
     cases e : getF l 0 with
     | none => rfl
     | some z => have := (R.at e).2.1; omega)
   have hsl := stripN_len d s b
   rw [rename_new ha' k2a hb' k2b hq' hn'' hn0' hno' (by rw [stripN_kq hgo]; exact h3) hz (by rcases h4 with h4 | h4; exact .inl h4; exact .inr (by omega)), stripN_fid]
   exact ⟨by rw [strip_moved R.srt ha hb hka.1 hkb.1 F.dir F.to' F.en F.go], H.moved ha hb F.dir F.to' F.en F.go _⟩
 · rw [e]
   rw [rename_same (g := 0) ha' k2a hb' k2b hq' hn'' hn0' hno' (by rw [kidI_kq, stripN_kq hgo, h3, stripN_fid]; rfl)]
   exact ⟨rfl, H⟩
 · rw [e]
   have hyf : y.fid ≠ f := fun e => F.go (H.only R hb (kq_some h3).1 e)
   have hyd : y.fid ≠ d := fun e => by
     rw [e, hx] at hy
     cases hy
     rw [hyk] at hxq
     cases hxq
   have hyb : y.fid ≠ o.to := fun e => by
     have := R.self (d := b) (by rw [fb]; exact hb) (kq_some h3).1
     rw [fb] at this
     exact this e
   have hya : y.fid ≠ o.dir := fun e => by
     rw [e, ha] at hy
     cases hy
     have := (kq_some hq).1
     rw [hyk] at this
     cases this
   have hy' : getF (strip f d s l) y.fid = some y := by rw [getF_strip_some hyf hy, stripN_ne hyd]
   rw [rename_old ha' k2a hb' k2b hq' hn'' hn0' hno' (by rw [stripN_kq hgo]; exact h3) hy' (by rw [stripN_fid]; exact hyn) hyk (by rw [stripN_k]; exact hkk), stripN_fid]
   have la : getF (lessL l y) o.dir = some a := by rw [getF_less, if_neg (fun e => hya e.symm)]; exact ha
   have lb : getF (lessL l y) o.to = some b := by rw [getF_less, if_neg (fun e => hyb e.symm)]; exact hb
   refine ⟨by rw [← strip_less R.srt hyf hyd, strip_moved (srt_less _ R.srt) la lb hka.1 hkb.1 F.dir F.to' F.en F.go], (H.less hyf hyd).moved la lb F.dir F.to' F.en F.go _⟩
theorem far_apply (H : Hl f d s k l) (R : Rt l) {o : Rec} (F : Far f d s o) (h : (applyL l o).1 = 0) :
   applyL (strip f d s l) o = (0, strip f d s (applyL l o).2) ∧ Hl f d s k (applyL l o).2 := by
 unfold applyL at h ⊢
 by_cases c1 : o.k = 1 ∨ o.k = 2 ∨ o.k = 3
 · rw [if_pos c1] at h; rw [if_pos c1, if_pos c1]; exact far_create H R F h
 rw [if_neg c1] at h; rw [if_neg c1, if_neg c1]
 by_cases c2 : o.k = 4
 · rw [if_pos c2] at h; rw [if_pos c2, if_pos c2]; exact far_hard H R F h
 rw [if_neg c2] at h; rw [if_neg c2, if_neg c2]
 by_cases c3 : o.k = 5 ∨ o.k = 6
 · rw [if_pos c3] at h; rw [if_pos c3, if_pos c3]; exact far_remove H R c3 F h
 rw [if_neg c3] at h; rw [if_neg c3, if_neg c3]
 by_cases c4 : o.k = 7
 · rw [if_pos c4] at h; rw [if_pos c4, if_pos c4]; exact far_rename H R F h
 rw [if_neg c4] at h; rw [if_neg c4, if_neg c4]
 exact far_write H R F h
end
end Go.Proofs.YtihgiemgcmpmmaaGreat
namespace Go.Proofs.YtihgiemgcmpmmaaGreat
set_option linter.unusedVariables false
set_option linter.unusedSimpArgs false
theorem Er.getd {l : List Nd} (h : Er l) (g : Int) : ((getF l g).getD Nd.no).er = (getF l g).getD Nd.no := by
 cases e : getF l g with
 | none => rfl
 | some x => exact h.get e
theorem Er.moved {l : List Nd} (h : Er l) (L : List Nd) (o : Rec) (f : Int) : Er (movedL L o f l) := by
 unfold movedL
 have h1 : Er (setL l (((getF l o.dir).getD Nd.no).kids none 0 (entL ((getF l o.dir).getD Nd.no).ks o.nm 0))) := h.set (er_kids _ _ (h.getd _))
 exact h1.set (er_kids _ _ (h1.getd _))
theorem Er.apply {l : List Nd} (h : Er l) (R : Rt l) {o : Rec} (hok : (applyL l o).1 = 0) : Er (applyL l o).2 := by
 unfold applyL at hok ⊢
 by_cases c1 : o.k = 1 ∨ o.k = 2 ∨ o.k = 3
 · rw [if_pos c1] at hok ⊢
   obtain ⟨d, h1, h2, h3, h4, h5, h6, e⟩ := create_ok R hok
   rw [e]
   exact (h.set (er_kids _ _ (h.get h1))).set (er_new o)
 rw [if_neg c1] at hok ⊢
 by_cases c2 : o.k = 4
 · rw [if_pos c2] at hok ⊢
   obtain ⟨d, n, h1, h2, h3, h4, h5, h6, e⟩ := hard_ok R hok
   rw [e]
   exact (h.set (er_kids _ _ (h.get h3))).set (er_lnk _ _ (h.get h1))
 rw [if_neg c2] at hok ⊢
 by_cases c3 : o.k = 5 ∨ o.k = 6
 · rw [if_pos c3] at hok ⊢
   obtain ⟨d, n, h1, h2, h3, h4, h5, h6, e⟩ := remove_ok R c3 hok
   rw [e]
   exact (h.set (er_kids _ _ (h.get h1))).less (h.get h4)
 rw [if_neg c3] at hok ⊢
 by_cases c4 : o.k = 7
 · rw [if_pos c4] at hok ⊢
   obtain ⟨a, b, n, ha, hb, hak, hbk, hn, hq, hno, h2⟩ := rename_how R hok
   rcases h2 with ⟨_, _, e⟩ | ⟨_, e⟩ | ⟨y, _, hy, _, _, _, e⟩
   · rw [e]; exact h.moved _ _ _
   · rw [e]; exact h
   · rw [e]; exact (h.less (h.get hy)).moved _ _ _
 rw [if_neg c4] at hok ⊢
 obtain ⟨n, h1, h2, e⟩ := write_ok hok
 rw [e]
 exact h.set (er_wr n o)
def blank (c f : Int) (x : Nd) : Nd := if x.fid = f then (if c = 9 then ⟨x.fid, x.k, 0, x.ln, none, 0, x.zs, none, 0, x.ks⟩ else ⟨x.fid, x.k, x.md, x.ln, none, 0, [], none, 0, x.ks⟩) else x
def blankL (c f : Int) (l : List Nd) : List Nd := l.map (blank c f)
theorem blank_fid (c f : Int) (x : Nd) : (blank c f x).fid = x.fid := by unfold blank; split <;> (try split) <;> rfl
theorem blank_k (c f : Int) (x : Nd) : (blank c f x).k = x.k := by unfold blank; split <;> (try split) <;> rfl
theorem blank_ln (c f : Int) (x : Nd) : (blank c f x).ln = x.ln := by unfold blank; split <;> (try split) <;> rfl
theorem blank_ks (c f : Int) (x : Nd) : (blank c f x).ks = x.ks := by unfold blank; split <;> (try split) <;> rfl
theorem blank_kids (c f : Int) (x : Nd) (K : List Kd) : blank c f (x.kids none 0 K) = (blank c f x).kids none 0 K := by
 by_cases e : x.fid = f
 · unfold blank
   rw [if_pos e, if_pos (show (x.kids none 0 K).fid = f from e)]
   by_cases e2 : c = 9
   · rw [if_pos e2, if_pos e2]; rfl
   · rw [if_neg e2, if_neg e2]; rfl
 · unfold blank
   rw [if_neg e, if_neg (show (x.kids none 0 K).fid ≠ f from e)]
theorem blank_lnk (c f : Int) (x : Nd) (n : Int) : blank c f (x.lnk n) = (blank c f x).lnk n := by
 by_cases e : x.fid = f
 · unfold blank
   rw [if_pos e, if_pos (show (x.lnk n).fid = f from e)]
   by_cases e2 : c = 9
   · rw [if_pos e2, if_pos e2]; rfl
   · rw [if_neg e2, if_neg e2]; rfl
 · unfold blank
   rw [if_neg e, if_neg (show (x.lnk n).fid ≠ f from e)]
theorem getF_blank (c f : Int) (l : List Nd) (g : Int) : getF (blankL c f l) g = (getF l g).map (blank c f) := by
 unfold blankL getF
 rw [List.find?_map]
 congr 2
 funext x
 show ((blank c f x).fid == g) = _
 rw [blank_fid]
theorem srt_blank {c f : Int} {l : List Nd} (h : Srt l) : Srt (blankL c f l) := by
 unfold blankL Srt Ris at *
 rw [List.pairwise_map]
 refine h.imp (fun {a b} h => ?_)
 rw [blank_fid, blank_fid]
 exact h
theorem blank_set {c f : Int} {l : List Nd} (n : Nd) (h : Srt l) : blankL c f (setL l n) = setL (blankL c f l) (blank c f n) :=
 srt_ext (srt_blank (srt_set _ h)) (srt_set _ (srt_blank h)) (fun g => by
   rw [getF_blank, getF_set, getF_set, getF_blank, blank_fid]
   split <;> rfl)
theorem blank_out {c f : Int} {l : List Nd} (g0 : Int) (h : Srt l) : blankL c f (outL l g0) = outL (blankL c f l) g0 :=
 srt_ext (srt_blank (srt_out _ h)) (srt_out _ (srt_blank h)) (fun g => by
   rw [getF_blank, getF_out, getF_out, getF_blank]
   split <;> rfl)
theorem blank_less {c f : Int} {l : List Nd} (n : Nd) (h : Srt l) : blankL c f (lessL l n) = lessL (blankL c f l) (blank c f n) := by
 unfold lessL
 rw [blank_ln, blank_fid]
 split
 · exact blank_out _ h
 · exact (blank_set (n.lnk (n.ln - 1)) h).trans (by rw [blank_lnk]; rw [show (blank c f n).lnk (n.ln - 1) = ⟨n.fid, (blank c f n).k, (blank c f n).md, n.ln - 1, (blank c f n).da, (blank c f n).dc, (blank c f n).zs, (blank c f n).ka, (blank c f n).kc, (blank c f n).ks⟩ by unfold Nd.lnk; rw [blank_fid]])
theorem getD_map {l : List Nd} {ψ : Nd → Nd} {α : Type} (P : Nd → α) (h : ∀ x, P (ψ x) = P x) (i : Nat) : P ((l.map ψ).getD i Nd.no) = P (l.getD i Nd.no) := by
 by_cases hi : i < l.length
 · simp [List.getD, hi, h]
 · simp [List.getD, hi]
theorem upM_map {x y : Nd} (hf : x.fid = y.fid) (hs : x.ks = y.ks) (f acc : Int) : ∀ m, upM x f acc m = upM y f acc m
 | 0 => rfl
 | m + 1 => by unfold upM; rw [hf, hs, upM_map hf hs f acc m]
theorem upK_map {l : List Nd} {ψ : Nd → Nd} (hf : ∀ x, (ψ x).fid = x.fid) (hs : ∀ x, (ψ x).ks = x.ks) (f : Int) : ∀ k, upK (l.map ψ) f k = upK l f k
 | 0 => rfl
 | k + 1 => by
   unfold upK
   rw [upK_map hf hs f k, getD_map (fun x => x.ks) hs k]
   exact upM_map (getD_map (fun x => x.fid) hf k) (getD_map (fun x => x.ks) hs k) f _ _
theorem abN_map {l : List Nd} {ψ : Nd → Nd} (hf : ∀ x, (ψ x).fid = x.fid) (hs : ∀ x, (ψ x).ks = x.ks) (f : Int) : ∀ (n : Nat) (t : Int), abN (l.map ψ) f n t = abN l f n t
 | 0, _ => rfl
 | n + 1, t => by
   have e : ∀ v, upD (l.map ψ) v = upD l v := fun v => by unfold upD; rw [List.length_map]; exact upK_map hf hs v _
   unfold abN
   rw [e, abN_map hf hs f n]
section
variable {c f : Int} {l m : List Nd}
theorem bl_get (h : blankL c f l = blankL c f m) {g : Int} {x : Nd} (hx : getF l g = some x) : ∃ y, getF m g = some y ∧ blank c f x = blank c f y ∧ y.fid = x.fid ∧ y.k = x.k ∧ y.ln = x.ln ∧ y.ks = x.ks := by
 have h1 := getF_blank c f l g
 rw [h, getF_blank, hx] at h1
 cases hy : getF m g with
 | none => rw [hy] at h1; cases h1
 | some y =>
   rw [hy] at h1
   have e : blank c f y = blank c f x := Option.some.inj h1
   refine ⟨y, rfl, e.symm, ?_, ?_, ?_, ?_⟩
   · rw [← blank_fid c f y, e, blank_fid]
   · rw [← blank_k c f y, e, blank_k]
   · rw [← blank_ln c f y, e, blank_ln]
   · rw [← blank_ks c f y, e, blank_ks]
theorem bl_none (h : blankL c f l = blankL c f m) {g : Int} (hx : getF l g = none) : getF m g = none := by
 cases hy : getF m g with
 | none => rfl
 | some y => obtain ⟨x, h1, _⟩ := bl_get h.symm hy; rw [hx] at h1; cases h1
theorem bl_len (h : blankL c f l = blankL c f m) : l.length = m.length := by simpa [blankL] using congrArg List.length h
theorem bl_ab (h : blankL c f l = blankL c f m) (n : Int) (k : Nat) (t : Int) : abN m n k t = abN l n k t := by
 rw [← abN_map (l := l) (blank_fid c f) (blank_ks c f), ← abN_map (l := m) (blank_fid c f) (blank_ks c f)]
 show abN (blankL c f m) n k t = abN (blankL c f l) n k t
 rw [h]
theorem bl_create (h : blankL c f l = blankL c f m) (R : Rt l) (M : Rt m) {o : Rec} (hok : (createL l o).1 = 0) : (createL m o).1 = 0 ∧ blankL c f (createL l o).2 = blankL c f (createL m o).2 := by
 obtain ⟨d, h1, h2, h3, h4, h5, h6, e⟩ := create_ok R hok
 obtain ⟨d', q1, q2, q3, q4, q5, q6⟩ := bl_get h h1
 have hl := bl_len h
 rw [create_do q1 (by rw [q4]; exact h2) (by rw [q6]; exact h3) (bl_none h h4) (by omega) (by rw [q6]; exact h6), e]
 refine ⟨rfl, ?_⟩
 show blankL c f _ = blankL c f _
 rw [blank_set _ (srt_set _ R.srt), blank_set _ R.srt, blank_set _ (srt_set _ M.srt), blank_set _ M.srt, blank_kids, blank_kids, q2, q6, h]
theorem bl_hard (h : blankL c f l = blankL c f m) (R : Rt l) (M : Rt m) {o : Rec} (hok : (hardL l o).1 = 0) : (hardL m o).1 = 0 ∧ blankL c f (hardL l o).2 = blankL c f (hardL m o).2 := by
 obtain ⟨d, n, h0, hn, h1, h2, h3, h6, e⟩ := hard_ok R hok
 obtain ⟨d', q1, q2, q3, q4, q5, q6⟩ := bl_get h h1
 obtain ⟨n', p1, p2, p3, p4, p5, p6⟩ := bl_get h h0
 rw [hard_do p1 (by rw [p4]; exact hn) q1 (by rw [q4]; exact h2) (by rw [q6]; exact h3) (by rw [q6]; exact h6), e]
 refine ⟨rfl, ?_⟩
 show blankL c f _ = blankL c f _
 rw [blank_set _ (srt_set _ R.srt), blank_set _ R.srt, blank_set _ (srt_set _ M.srt), blank_set _ M.srt, blank_kids, blank_kids, blank_lnk, blank_lnk, q2, q6, p2, p5, h]
theorem bl_remove (h : blankL c f l = blankL c f m) (R : Rt l) (M : Rt m) {o : Rec} (hk : o.k = 5 ∨ o.k = 6) (hok : (removeL l o).1 = 0) : (removeL m o).1 = 0 ∧ blankL c f (removeL l o).2 = blankL c f (removeL m o).2 := by
 obtain ⟨d, n, h1, h2, h3, h4, h5, h6, e⟩ := remove_ok R hk hok
 obtain ⟨d', q1, q2, q3, q4, q5, q6⟩ := bl_get h h1
 obtain ⟨n', p1, p2, p3, p4, p5, p6⟩ := bl_get h h4
 have hn0 : n'.fid ≠ 0 := by have := (R.at h4).2.1; omega
 rw [remove_do q1 (by rw [q4]; exact h2) (by rw [q6, p3]; exact h3) (by rw [p3]; exact p1) hn0 hk (by rw [p4]; exact h5) (by rw [p6]; exact h6), e]
 refine ⟨rfl, ?_⟩
 show blankL c f _ = blankL c f _
 rw [blank_less _ (srt_set _ R.srt), blank_set _ R.srt, blank_less _ (srt_set _ M.srt), blank_set _ M.srt, blank_kids, blank_kids, q2, q6, p2, h]
theorem blank_moved {o : Rec} {g : Int} {D : List Nd} {a b : Nd} (hs : Srt D) (ha : getF D o.dir = some a) (hb : getF D o.to = some b) (L L' : List Nd) : blankL c f (movedL L o g D) = movedL L' o g (blankL c f D) := by
 refine srt_ext (srt_blank (srt_moved hs)) (srt_moved (srt_blank hs)) (fun t => ?_)
 have a' : getF (blankL c f D) o.dir = some (blank c f a) := by rw [getF_blank, ha]; rfl
 have b' : getF (blankL c f D) o.to = some (blank c f b) := by rw [getF_blank, hb]; rfl
 rw [getF_blank, getF_moved L o g D ha hb, getF_moved L' o g _ a' b', getF_blank, blank_ks, blank_ks]
 split
 · rw [Option.map_some, blank_kids]
 · split
   · rw [Option.map_some, blank_kids]
   · rfl
theorem bl_rename (h : blankL c f l = blankL c f m) (R : Rt l) (M : Rt m) {o : Rec} (hok : (renameL l o).1 = 0) : (renameL m o).1 = 0 ∧ blankL c f (renameL l o).2 = blankL c f (renameL m o).2 := by
 obtain ⟨a, b, n, ha, hb, hak, hbk, hn, hq, hno, h2⟩ := rename_how R hok
 obtain ⟨a', q1, q2, q3, q4, q5, q6⟩ := bl_get h ha
 obtain ⟨b', r1, r2, r3, r4, r5, r6⟩ := bl_get h hb
 obtain ⟨n', p1, p2, p3, p4, p5, p6⟩ := bl_get h hn
 have hn0 : n'.fid ≠ 0 := by have := (R.at hn).2.1; omega
 have hq' : kq a'.ks o.nm = some ⟨o.nm, n'.fid⟩ := by rw [q6, p3]; exact hq
 have hn' : getF m n'.fid = some n' := by rw [p3]; exact p1
 have hno' : n'.k = 2 → abN m n'.fid (m.length + 1) o.to ≠ true := fun e => by
   rw [p3, bl_ab h, ← bl_len h]
   exact hno (by rw [← p4]; exact e)
 have ka : a'.k = 2 := by rw [q4]; exact hak
 have kb : b'.k = 2 := by rw [r4]; exact hbk
 rcases h2 with ⟨h3, h4, e⟩ | ⟨h3, e⟩ | ⟨y, h3, hy, hyn, hyk, hkk, e⟩
 · have hz : getF m 0 = none := by
     cases e : getF m 0 with
     | none => rfl
     | some z => have := (M.at e).2.1; omega
   rw [e, rename_new q1 ka r1 kb hq' hn' hn0 hno' (by rw [r6]; exact h3) hz (by rw [r6]; exact h4)]
   refine ⟨rfl, ?_⟩
   show blankL c f _ = blankL c f _
   rw [blank_moved R.srt ha hb l l, blank_moved M.srt q1 r1 m l, h, p3]
 · rw [e, rename_same (g := 0) q1 ka r1 kb hq' hn' hn0 hno' (by rw [kidI_kq, r6, h3, p3]; rfl)]
   exact ⟨rfl, h⟩
 · obtain ⟨y', s1, s2, s3, s4, s5, s6⟩ := bl_get h hy
   rw [e, rename_old q1 ka r1 kb hq' hn' hn0 hno' (by rw [r6, s3]; exact h3) (by rw [s3]; exact s1) (by rw [s3, p3]; exact hyn) (by rw [s6]; exact hyk) (by rw [s4, p4]; exact hkk)]
   refine ⟨rfl, ?_⟩
   show blankL c f _ = blankL c f _
   have fb := (getF_mem hb).2
   have hyb : y.fid ≠ o.to := fun e => by
     have := R.self (d := b) (by rw [fb]; exact hb) (kq_some h3).1
     rw [fb] at this
     exact this e
   have hya : y.fid ≠ o.dir := fun e => by
     rw [e, ha] at hy
     cases hy
     have := (kq_some hq).1
     rw [hyk] at this
     cases this
   have la : getF (lessL l y) o.dir = some a := by rw [getF_less, if_neg (fun e => hya e.symm)]; exact ha
   have lb : getF (lessL l y) o.to = some b := by rw [getF_less, if_neg (fun e => hyb e.symm)]; exact hb
   have la' : getF (lessL m y') o.dir = some a' := by rw [getF_less, if_neg (by rw [s3]; exact fun e => hya e.symm)]; exact q1
   have lb' : getF (lessL m y') o.to = some b' := by rw [getF_less, if_neg (by rw [s3]; exact fun e => hyb e.symm)]; exact r1
   rw [blank_moved (srt_less _ R.srt) la lb l l, blank_moved (srt_less _ M.srt) la' lb' m l, blank_less _ R.srt, blank_less _ M.srt, h, s2, p3]
theorem blank_wr {x y : Nd} (h : blank c f x = blank c f y) (o : Rec) : blank c f (x.wr o) = blank c f (y.wr o) := by
 have hf : x.fid = y.fid := by rw [← blank_fid c f x, h, blank_fid]
 by_cases e : x.fid = f
 · have e' : y.fid = f := by rw [← hf]; exact e
   have ex : (x.wr o).fid = f := by rw [wr_fid]; exact e
   have ey : (y.wr o).fid = f := by rw [wr_fid]; exact e'
   unfold blank at h ⊢
   rw [if_pos e, if_pos e'] at h
   rw [if_pos ex, if_pos ey]
   unfold Nd.wr
   by_cases c9 : c = 9
   · rw [if_pos c9, if_pos c9] at h
     rw [if_pos c9, if_pos c9]
     injection h with a1 a2 a3 a4 a5 a6 a7 a8 a9 a10
     by_cases k9 : o.k = 9
     · simp only [if_pos k9, a1, a2, a4, a7, a10]
     · simp only [if_neg k9, a1, a2, a4, a7, a10]
   · rw [if_neg c9, if_neg c9] at h
     rw [if_neg c9, if_neg c9]
     injection h with a1 a2 a3 a4 a5 a6 a7 a8 a9 a10
     by_cases k9 : o.k = 9
     · simp only [if_pos k9, a1, a2, a3, a4, a10]
     · simp only [if_neg k9, a1, a2, a3, a4, a10]
 · have e' : y.fid ≠ f := by rw [← hf]; exact e
   have : x = y := by unfold blank at h; rwa [if_neg e, if_neg e'] at h
   rw [this]
theorem wr_same {x y : Nd} (h : blank c f x = blank c f y) {o : Rec} (hf : x.fid = f) (hc : o.k = c) (h89 : c = 8 ∨ c = 9) : x.wr o = y.wr o := by
 have hf2 : x.fid = y.fid := by rw [← blank_fid c f x, h, blank_fid]
 have e' : y.fid = f := by rw [← hf2]; exact hf
 unfold blank at h
 rw [if_pos hf, if_pos e'] at h
 unfold Nd.wr
 by_cases c9 : c = 9
 · rw [if_pos c9, if_pos c9] at h
   injection h with a1 a2 a3 a4 a5 a6 a7 a8 a9 a10
   simp only [if_pos (hc.trans c9), a1, a2, a4, a7, a10]
 · rw [if_neg c9, if_neg c9] at h
   injection h with a1 a2 a3 a4 a5 a6 a7 a8 a9 a10
   simp only [if_neg (fun e => c9 (hc.symm.trans e)), a1, a2, a3, a4, a10]
theorem bl_write (h : blankL c f l = blankL c f m) (R : Rt l) (M : Rt m) {o : Rec} (hok : (writeL l o).1 = 0) : (writeL m o).1 = 0 ∧ blankL c f (writeL l o).2 = blankL c f (writeL m o).2 ∧
   (o.fid = f → o.k = c → (c = 8 ∨ c = 9) → (writeL l o).2 = (writeL m o).2) := by
 obtain ⟨n, h1, h2, e⟩ := write_ok hok
 obtain ⟨n', p1, p2, p3, p4, p5, p6⟩ := bl_get h h1
 rw [write_do p1 (by rw [p4]; exact h2), e]
 refine ⟨rfl, ?_, fun ef ec e89 => ?_⟩
 · show blankL c f _ = blankL c f _
   rw [blank_set _ R.srt, blank_set _ M.srt, h, blank_wr p2]
 · have fn := (getF_mem h1).2
   have ew := wr_same p2 (o := o) (by rw [fn]; exact ef) ec e89
   refine srt_ext (srt_set _ R.srt) (srt_set _ M.srt) (fun g => ?_)
   show _ = getF (setL m (n'.wr o)) g
   rw [getF_set, getF_set, ew]
   split
   · rfl
   · rename_i hg
     rw [wr_fid, p3, fn, ef] at hg
     have h3 := getF_blank c f l g
     rw [h, getF_blank] at h3
     cases e1 : getF l g with
     | none => exact (bl_none h e1).symm
     | some x =>
       obtain ⟨y, y1, y2, y3, _⟩ := bl_get h e1
       have fx : x.fid ≠ f := by rw [(getF_mem e1).2]; exact hg
       unfold blank at y2
       rw [if_neg fx, if_neg (by rw [y3]; exact fx)] at y2
       rw [y1, y2]
theorem bl_apply (h : blankL c f l = blankL c f m) (R : Rt l) (M : Rt m) {o : Rec} (hk : 1 ≤ o.k ∧ o.k ≤ 9) (hok : (applyL l o).1 = 0) : (applyL m o).1 = 0 ∧ blankL c f (applyL l o).2 = blankL c f (applyL m o).2 ∧
   (o.fid = f → o.k = c → (c = 8 ∨ c = 9) → (applyL l o).2 = (applyL m o).2) := by
 unfold applyL at hok ⊢
 by_cases c1 : o.k = 1 ∨ o.k = 2 ∨ o.k = 3
 · simp only [if_pos c1] at hok ⊢
   exact ⟨(bl_create h R M hok).1, (bl_create h R M hok).2, fun _ e1 e2 => by omega⟩
 simp only [if_neg c1] at hok ⊢
 by_cases c2 : o.k = 4
 · simp only [if_pos c2] at hok ⊢
   exact ⟨(bl_hard h R M hok).1, (bl_hard h R M hok).2, fun _ e1 e2 => by omega⟩
 simp only [if_neg c2] at hok ⊢
 by_cases c3 : o.k = 5 ∨ o.k = 6
 · simp only [if_pos c3] at hok ⊢
   exact ⟨(bl_remove h R M c3 hok).1, (bl_remove h R M c3 hok).2, fun _ e1 e2 => by omega⟩
 simp only [if_neg c3] at hok ⊢
 by_cases c4 : o.k = 7
 · simp only [if_pos c4] at hok ⊢
   exact ⟨(bl_rename h R M hok).1, (bl_rename h R M hok).2, fun _ e1 e2 => by omega⟩
 simp only [if_neg c4] at hok ⊢
 exact bl_write h R M hok
end
def runL : List Nd → List Rec → Option (List Nd)
 | l, [] => some l
 | l, o :: t => if (ApplyL l o).1 = 0 then runL (ApplyL l o).2 t else none
theorem ApplyL_ok {l : List Nd} {o : Rec} (h : (ApplyL l o).1 = 0) : Rt l ∧ rightF o = true ∧ ApplyL l o = applyL l o := by
 unfold ApplyL at h ⊢
 split
 · rename_i c
   rw [Bool.and_eq_true] at c
   exact ⟨rightD_rt.1 c.1, c.2, rfl⟩
 · rename_i c; rw [if_neg c] at h; cases h
theorem ApplyL_of {l : List Nd} {o : Rec} (R : Rt l) (h : rightF o = true) : ApplyL l o = applyL l o := by
 unfold ApplyL
 rw [rightD_rt.2 R, h]
 rfl
theorem run_anew {c f : Int} (h89 : c = 8 ∨ c = 9) : ∀ (t : List Rec) (l m : List Nd) (r : List Nd), blankL c f l = blankL c f m → Rt l → Rt m → (∀ o ∈ t, o.Wf) → runL l t = some r → (∃ o ∈ t, o.k = c ∧ o.fid = f) → runL m t = some r
 | [], _, _, _, _, _, _, _, _, h => by obtain ⟨o, ho, _⟩ := h; cases ho
 | o :: t, l, m, r, h, R, M, hw, hr, hex => by
   unfold runL at hr ⊢
   by_cases c0 : (ApplyL l o).1 = 0
   · rw [if_pos c0] at hr
     obtain ⟨_, hF, e⟩ := ApplyL_ok c0
     rw [e] at c0 hr
     obtain ⟨b1, b2, b3⟩ := bl_apply h R M (rightF_k hF) c0
     rw [ApplyL_of M hF, if_pos b1]
     have wo := hw o (List.mem_cons_self ..)
     have hw' : ∀ o ∈ t, o.Wf := fun o ho => hw o (List.mem_cons_of_mem _ ho)
     by_cases q : o.k = c ∧ o.fid = f
     · rw [← b3 q.2 q.1 h89]; exact hr
     · refine run_anew h89 t _ _ r b2 (R.apply hF wo c0) (M.apply hF wo b1) hw' hr ?_
       obtain ⟨o', ho', h'⟩ := hex
       rcases List.mem_cons.1 ho' with e1 | e1
       · rw [e1] at h'; exact absurd h' q
       · exact ⟨o', e1, h'⟩
   · rw [if_neg c0] at hr; cases hr
theorem set_blank {l : List Nd} (R : Rt l) {o : Rec} (hk : o.k = 8 ∨ o.k = 9) (hok : (applyL l o).1 = 0) : blankL o.k o.fid (applyL l o).2 = blankL o.k o.fid l := by
 have e : applyL l o = writeL l o := by
   unfold applyL
   rw [if_neg (by omega), if_neg (by omega), if_neg (by omega), if_neg (by omega)]
 rw [e] at hok ⊢
 obtain ⟨n, h1, h2, e⟩ := write_ok hok
 have fn := (getF_mem h1).2
 rw [e]
 refine srt_ext (srt_blank (srt_set _ R.srt)) (srt_blank R.srt) (fun g => ?_)
 rw [getF_blank, getF_blank, getF_set, wr_fid, fn]
 split
 · rename_i e2
   rw [e2, h1, Option.map_some, Option.map_some]
   congr 1
   unfold blank Nd.wr
   rw [if_pos fn]
   by_cases k9 : o.k = 9
   · simp only [if_pos k9, if_pos fn]
   · simp only [if_neg k9, if_pos fn]
 · rfl
theorem run_less {l : List Nd} {x : Rec} {t : List Rec} {r : List Nd} (hw : ∀ o ∈ x :: t, o.Wf) (h : runL l (x :: t) = some r) (hk : x.k = 8 ∨ x.k = 9) (hex : ∃ o ∈ t, o.k = x.k ∧ o.fid = x.fid) : runL l t = some r := by
 unfold runL at h
 by_cases c0 : (ApplyL l x).1 = 0
 · rw [if_pos c0] at h
   obtain ⟨R, hF, e⟩ := ApplyL_ok c0
   rw [e] at c0 h
   have wx := hw x (List.mem_cons_self ..)
   exact run_anew hk t _ l r (set_blank R hk c0) (R.apply hF wx c0) R (fun o ho => hw o (List.mem_cons_of_mem _ ho)) h hex
 · rw [if_neg c0] at h; cases h
theorem run_end {m : Rec} {k : Int} (hk2 : k = 2 ↔ m.k = 2) : ∀ (t : List Rec) (L r : List Nd) (t' : List Rec), Hl m.fid m.dir m.nm k L → Rt L → (∀ o ∈ t, o.Wf) → runL L t = some r → endL m t = some t' → runL (strip m.fid m.dir m.nm L) t' = some r
 | [], _, _, _, _, _, _, _, he => by cases he
 | y :: t, L, r, t', H, R, hw, hr, he => by
   unfold runL at hr
   by_cases c0 : (ApplyL L y).1 = 0
   · rw [if_pos c0] at hr
     obtain ⟨_, hF, e⟩ := ApplyL_ok c0
     rw [e] at c0 hr
     have wy := hw y (List.mem_cons_self ..)
     have hw' : ∀ o ∈ t, o.Wf := fun o ho => hw o (List.mem_cons_of_mem _ ho)
     have hf0 : m.fid ≠ 0 := by have := H.fpos R; omega
     unfold endL at he
     by_cases u : unmakesF y m = true
     · rw [if_pos u] at he
       cases he
       unfold unmakesF at u
       rw [Bool.and_eq_true, Bool.and_eq_true, beq_iff_eq, beq_iff_eq, ba_eq, decide_eq_true_eq] at u
       obtain ⟨⟨u1, u2⟩, u3⟩ := u
       have hk56 : y.k = 5 ∨ y.k = 6 := by rw [u1]; split <;> simp
       have ea : applyL L y = removeL L y := by
         unfold applyL
         rw [if_neg (by omega), if_neg (by omega), if_pos hk56]
       rw [ea] at c0 hr
       obtain ⟨d, n, h1, h2, h3, h4, h5, h6, e6⟩ := remove_ok R hk56 c0
       obtain ⟨x, hx, hxq⟩ := H.en
       rw [u2, hx] at h1
       cases h1
       rw [u3, hxq] at h3
       have en : m.fid = n.fid := congrArg Kd.fid (Option.some.inj h3)
       rw [← en] at h4
       rw [e6, u3, H.less_eq R h4 hx] at hr
       exact hr
     · rw [if_neg u] at he
       by_cases v : wayF y m = true
       · rw [if_pos v] at he; cases he
       rw [if_neg v] at he
       cases hE : endL m t with
       | none => rw [hE] at he; cases he
       | some r0 =>
         rw [hE] at he
         have he : (if touchF y m.fid = true then r0 else y :: r0) = t' := Option.some.inj he
         by_cases q : touchF y m.fid = true
         · rw [if_pos q] at he
           subst he
           have hs : setsF y.k = true ∧ y.fid = m.fid := by
             unfold wayF at v
             rw [q] at v
             simpa using v
           have hk89 : y.k = 8 ∨ y.k = 9 := by
             have := hs.1
             unfold setsF at this
             simpa using this
           have ea : applyL L y = writeL L y := by
             unfold applyL
             rw [if_neg (by omega), if_neg (by omega), if_neg (by omega), if_neg (by omega)]
           have R' := R.apply hF wy c0
           rw [ea] at c0 hr R'
           obtain ⟨o1, o2⟩ := own_write H R hs.2 c0
           rw [← o1]
           exact run_end hk2 t _ r _ o2 R' hw' hr hE
         · rw [if_neg q] at he
           subst he
           have q' : y.fid ≠ m.fid ∧ y.dir ≠ m.fid ∧ y.to ≠ m.fid := by
             unfold touchF at q
             have : (m.fid != 0) = true := by simpa using hf0
             rw [this] at q
             simp only [Bool.true_and, Bool.or_eq_true, beq_iff_eq, not_or] at q
             exact ⟨q.1.1, q.1.2, q.2⟩
           have nm : namesF y m.dir m.nm = false := by
             unfold wayF at v
             have e1 : (y.fid == m.fid) = false := beq_eq_false_iff_ne.2 q'.1
             have e2 : touchF y m.fid = false := by simpa using q
             rw [e1, e2] at v
             simpa using v
           unfold namesF at nm
           rw [ba_eq, ba_eq] at nm
           simp only [Bool.or_eq_false_iff, Bool.and_eq_false_iff, beq_eq_false_iff_ne, decide_eq_false_iff_not] at nm
           have F : Far m.fid m.dir m.nm y := ⟨q'.1, q'.2.1, q'.2.2, fun h => by rcases nm.1 with h1 | h1; exact h1 h.1; exact h1 h.2, fun h => by rcases nm.2 with h1 | h1; exact h1 h.1; exact h1 h.2⟩
           obtain ⟨f1, f2⟩ := far_apply H R F c0
           unfold runL
           rw [ApplyL_of (H.rt R) hF, f1, if_pos rfl]
           exact run_end hk2 t _ r r0 f2 (R.apply hF wy c0) hw' hr hE
   · rw [if_neg c0] at hr; cases hr
theorem run_make {x : Rec} {t t' : List Rec} {l r : List Nd} (E : Er l) (hw : ∀ o ∈ x :: t, o.Wf) (h : runL l (x :: t) = some r) (hm : makesF x.k = true) (he : endL x t = some t') : runL l t' = some r := by
 unfold runL at h
 by_cases c0 : (ApplyL l x).1 = 0
 · rw [if_pos c0] at h
   obtain ⟨R, hF, e⟩ := ApplyL_ok c0
   rw [e] at c0 h
   have wx := hw x (List.mem_cons_self ..)
   have hk : x.k = 1 ∨ x.k = 2 ∨ x.k = 3 := by
     unfold makesF at hm
     simp only [Bool.or_eq_true, beq_iff_eq] at hm
     omega
   have R1 := R.apply hF wx c0
   have ea : applyL l x = createL l x := by unfold applyL; rw [if_pos hk]
   rw [ea] at c0 h R1
   obtain ⟨f0, f1⟩ := rightF_make hF (by rcases hk with h | h | h <;> rw [h] <;> rfl)
   obtain ⟨a, h1, h2, h3, h4, h5, h6, e1⟩ := create_ok R c0
   rw [e1] at h R1
   have fa := (getF_mem h1).2
   have hne : x.dir ≠ x.fid := fun e => by rw [e, h4] at h1; cases h1
   have hG : ∀ g, getF (setL (setL l (a.kids none 0 (entL a.ks x.nm x.fid))) (newN x)) g = if g = x.fid then some (newN x) else if g = x.dir then some (a.kids none 0 (entL a.ks x.nm x.fid)) else getF l g := fun g => by
     rw [getF_set, getF_set]
     show (if g = x.fid then _ else if g = a.fid then _ else _) = _
     rw [fa]
   have H : Hl x.fid x.dir x.nm (newN x).k (setL (setL l (a.kids none 0 (entL a.ks x.nm x.fid))) (newN x)) := by
     refine ⟨⟨newN x, by rw [hG, if_pos rfl], rfl, rfl, rfl⟩, ⟨_, by rw [hG, if_neg hne, if_pos rfl], ?_⟩⟩
     show kq (entL a.ks x.nm x.fid) x.nm = _
     rw [kq_ent, if_pos rfl, if_neg f0]
   have hS : strip x.fid x.dir x.nm (setL (setL l (a.kids none 0 (entL a.ks x.nm x.fid))) (newN x)) = l := by
     refine srt_ext (srt_strip R1.srt) R.srt (fun g => ?_)
     rw [getF_strip, hG]
     by_cases e2 : g = x.fid
     · rw [if_pos e2, e2, h4]
     · rw [if_neg e2, if_neg e2]
       by_cases e3 : g = x.dir
       · rw [if_pos e3, e3, h1, Option.map_some]
         congr 1
         unfold stripN
         rw [if_pos (show (a.kids none 0 (entL a.ks x.nm x.fid)).fid = x.dir from fa)]
         have hk3 := (R.kok h1 h2).1
         have : entL (entL a.ks x.nm x.fid) x.nm 0 = a.ks := ksrt_ext (ksrt_ent _ _ (ksrt_ent _ _ hk3)) hk3 (fun u => by
           rw [kq_ent, kq_ent]
           by_cases e4 : u = x.nm
           · rw [if_pos e4, if_pos rfl, e4, h3]
           · rw [if_neg e4, if_neg e4])
         show a.kids none 0 (entL (entL a.ks x.nm x.fid) x.nm 0) = a
         rw [this]
         obtain ⟨q1, q2⟩ := er_ka (E.get h1)
         obtain ⟨_, _, _, _, _, _, _, ka, kc, _⟩ := a
         simp only at q1 q2
         rw [q1, q2]
         rfl
       · rw [if_neg e3]
         cases e4 : getF l g with
         | none => rfl
         | some z => rw [Option.map_some, stripN_ne (by rw [(getF_mem e4).2]; exact e3)]
   have := run_end (m := x) (k := (newN x).k) (by
     show (if x.k = 2 then (2 : Int) else if x.k = 3 then 3 else 1) = 2 ↔ _
     rcases hk with h | h | h <;> rw [h] <;> simp) t _ r t' H R1 (fun o ho => hw o (List.mem_cons_of_mem _ ho)) h he
   rw [hS] at this
   exact this
 · rw [if_neg c0] at h; cases h
theorem run_once : ∀ (L : List Rec) (l r : List Nd) (L' : List Rec), Er l → (∀ o ∈ L, o.Wf) → runL l L = some r → onceL L = some L' → runL l L' = some r
 | [], _, _, _, _, _, _, h => by cases h
 | x :: t, l, r, L', E, hw, hr, h => by
   unfold onceL at h
   cases hq : (if makesF x.k = true then endL x t else none) with
   | some t' =>
     rw [hq] at h
     simp only [Option.some.injEq] at h
     subst h
     split at hq
     · rename_i hm
       exact run_make E hw hr hm hq
     · cases hq
   | none =>
     rw [hq] at h
     simp only at h
     cases ho : onceL t with
     | none => rw [ho] at h; cases h
     | some t' =>
       rw [ho] at h
       have h : x :: t' = L' := Option.some.inj h
       subst h
       unfold runL at hr ⊢
       by_cases c0 : (ApplyL l x).1 = 0
       · rw [if_pos c0] at hr ⊢
         obtain ⟨R, hF, e⟩ := ApplyL_ok c0
         have E' : Er (ApplyL l x).2 := by rw [e] at c0 ⊢; exact E.apply R c0
         exact run_once t _ r t' E' (fun o ho => hw o (List.mem_cons_of_mem _ ho)) hr ho
       · rw [if_neg c0] at hr; cases hr
theorem run_it : ∀ (n : Nat) (L : List Rec) (l r : List Nd), Er l → (∀ o ∈ L, o.Wf) → runL l L = some r → runL l (itL n L) = some r
 | 0, _, _, _, _, _, h => h
 | n + 1, L, l, r, E, hw, h => by
   unfold itL
   cases ho : onceL L with
   | none => exact h
   | some L' => exact run_it n L' l r E (fun o h' => hw o ((once_sub L L' ho).subset h')) (run_once L l r L' E hw h ho)
theorem run_need : ∀ (L : List Rec) (l r : List Nd), (∀ o ∈ L, o.Wf) → runL l L = some r → runL l (needL L) = some r
 | [], _, _, _, h => h
 | x :: t, l, r, hw, h => by
   have hw' : ∀ o ∈ t, o.Wf := fun o ho => hw o (List.mem_cons_of_mem _ ho)
   unfold needL
   by_cases q : anewF x t = true
   · rw [if_pos q]
     unfold anewF at q
     rw [Bool.and_eq_true, List.any_eq_true] at q
     obtain ⟨q1, o, ho, q2⟩ := q
     rw [Bool.and_eq_true, beq_iff_eq, beq_iff_eq] at q2
     exact run_need t l r hw' (run_less hw h (by unfold setsF at q1; simpa using q1) ⟨o, ho, q2⟩)
   · rw [if_neg q]
     unfold runL at h ⊢
     by_cases c0 : (ApplyL l x).1 = 0
     · rw [if_pos c0] at h ⊢
       exact run_need t _ r hw' h
     · rw [if_neg c0] at h; cases h
theorem need_sub : ∀ (L : List Rec), ∀ o ∈ needL L, o ∈ L
 | [], o, h => h
 | x :: t, o, h => by
   unfold needL at h
   split at h
   · exact List.mem_cons_of_mem _ (need_sub t o h)
   · rcases List.mem_cons.1 h with e | e
     · rw [e]; exact List.mem_cons_self ..
     · exact List.mem_cons_of_mem _ (need_sub t o e)
theorem run_opt {L : List Rec} {l r : List Nd} (E : Er l) (hw : ∀ o ∈ L, o.Wf) (h : runL l L = some r) : runL l (optF L) = some r := by
 rw [opt_it, needed_L]
 exact run_it _ _ l r E (fun o ho => hw o (need_sub L o ho)) (run_need L l r hw h)
theorem runL_cons (l : List Nd) (x : Rec) (t : List Rec) : runL l (x :: t) = if (ApplyL l x).1 = 0 then runL (ApplyL l x).2 t else none := rfl
theorem run_app : ∀ (A B : List Rec) (l : List Nd), runL l (A ++ B) = (runL l A).bind (fun s => runL s B)
 | [], _, _ => rfl
 | x :: t, B, l => by
   show runL l (x :: (t ++ B)) = _
   rw [runL_cons, runL_cons]
   split
   · exact run_app t B _
   · rfl
theorem run_fold : ∀ (L : List Rec) (l r : List Nd) (es : List Int), runL l L = some r → L.foldl foldS (l, es) = (r, es ++ List.replicate L.length 0)
 | [], l, r, es, h => by
   cases h
   simp
 | x :: t, l, r, es, h => by
   unfold runL at h
   by_cases c0 : (ApplyL l x).1 = 0
   · rw [if_pos c0] at h
     rw [List.foldl_cons]
     have : foldS (l, es) x = ((ApplyL l x).2, es ++ [0]) := by
       unfold foldS
       simp [c0]
     rw [this, run_fold t _ r _ h, List.length_cons, List.replicate_succ, List.append_assoc]
     rfl
   · rw [if_neg c0] at h; cases h
theorem run_Fold {L : List Rec} {l r : List Nd} (R : Rt l) (h : runL l L = some r) : FoldL l L = (r, List.replicate L.length 0) := by
 unfold FoldL
 rw [if_pos (rightD_rt.2 R), run_fold L l r [] h]
 rfl
def doneS (p : List Nd × List Rec) (o : Rec) : List Nd × List Rec := if (ApplyL p.1 o).1 = 0 then ((ApplyL p.1 o).2, p.2 ++ [o]) else p
theorem done_run {t : List Nd} {p : List Nd × List Rec} {o : Rec} (h : runL t p.2 = some p.1) : runL t (doneS p o).2 = some (doneS p o).1 := by
 unfold doneS
 split
 · rename_i c0
   simp only
   rw [run_app, h]
   show runL p.1 [o] = _
   unfold runL
   rw [if_pos c0]
   rfl
 · exact h
end Go.Proofs.YtihgiemgcmpmmaaGreat
namespace Go.Proofs.YtihgiemgcmpmmaaGreat
open Go.RowKit Go.ChangeShapes Go.WideShapes Go.ChangeAt Go.Maps Go.Shelf
set_option linter.unusedVariables false
set_option linter.unusedSimpArgs false
set_option maxRecDepth 100000
theorem NsO.grownR {w w' : World} {base b n : Nat} {v u : Value} {l : List Nd} {xs : List Value} (h : NsO w base v l) (k : w.ownsRow b 37 9 u n xs) (hg : w.grownBy w' u.ownBlock) : NsO w' base v l :=
 ⟨own_other h.1 k (by decide) hg, fun x hx => ⟨(h.2 x hx).1, (h.2 x hx).2.1, (h.2 x hx).2.2.1.grown k (by decide) hg, (h.2 x hx).2.2.2.grown k (by decide) hg⟩⟩
end Go.Proofs.YtihgiemgcmpmmaaGreat
namespace Go.Proofs.YtihgiemgcmpmmaaGreat
open Go.RowKit Go.ChangeShapes Go.WideShapes Go.ChangeAt Go.Maps Go.Shelf
set_option linter.unusedVariables false
set_option linter.unusedSimpArgs false
theorem isOs_of {H : Type} {enc : TypeId × Value → H} {W : World} {t : TypeId} {a : Option Addr} {len cap : Nat} {d : DataW H} {p : List MemPlace} (ht : Tryz.prog.underlying t = some (.slice 34))
   (h : DataW.Trod enc Tryz.prog W 0 (fun _ => true) true t (.slice a len cap) d p) : ∃ l : List Rec, l.length = len ∧ IsOs W a l ∧ len ≤ cap := by
 obtain ⟨fuel, hf⟩ := h
 have hct : Tryz.prog.cellsOf 34 = 8 := by kernel_rfl
 rcases DataW.trod_slice ht hf with ⟨hcs, _⟩ | ⟨x, l, c, elems, rest, n, _, hcs, _, hb, hl, hm, hlen, hel, _⟩
 · simp [Value.cells] at hcs
   obtain ⟨rfl, rfl, rfl⟩ := hcs
   exact ⟨[], rfl, ⟨Nat.zero_le _, (fun x hx => by cases hx), (fun h => absurd h (by simp))⟩, by omega⟩
 · simp [Value.cells] at hcs
   obtain ⟨rfl, rfl, rfl⟩ := hcs
   rw [hct] at hel
   have each : ∀ i, i < len → ∃ q : Rec, (∀ j, j < 8 → W.cell? ((x.add (i * 8)).add j) = (q.ops)[j]?) ∧ q.Wf := by
     intro i hi
     have h1 := hel i hi
     have h2 : elems[i]? = some elems[i] := List.getElem?_eq_getElem (by omega)
     rw [h2, Option.bind_eq_some_iff] at h1
     obtain ⟨cs, hc, hy⟩ := h1
     obtain ⟨q, hq, hw, _⟩ := trod_op hy
     obtain ⟨_, hl6, hg⟩ := World.cells?_some hc
     refine ⟨q, fun j hj => ?_, hw⟩
     rw [hg j hj, hq]
   obtain ⟨f, hf'⟩ : ∃ f : Nat → Rec, ∀ i, i < len → (∀ j, j < 8 → W.cell? ((x.add (i * 8)).add j) = ((f i).ops)[j]?) ∧ (f i).Wf := by
     classical
     refine ⟨fun i => if h : i < len then (each i h).choose else Rec.no, fun i hi => ?_⟩
     simp only [hi, dif_pos]
     exact (each i hi).choose_spec
   refine ⟨(List.range len).map f, by simp, ⟨by simp; omega, fun q hq => ?_, fun hp => ?_⟩, by omega⟩
   · obtain ⟨i, hi, rfl⟩ := List.mem_map.1 hq
     exact (hf' i (List.mem_range.1 hi)).2
   · rw [List.length_map, List.length_range] at hp
     obtain ⟨b, off, spot⟩ := x
     have hc0 := (hf' 0 hp).1 0 (by omega)
     have hspot : spot = none := by
       have e0 : ((f 0).ops)[0]? = some (.int .u8 (f 0).k) := rfl
       rw [e0] at hc0
       simpa [Addr.add] using World.cell?_spot hc0
     subst hspot
     refine ⟨b, off, rfl, fun i hi j v hv => ?_⟩
     rw [List.length_map, List.length_range] at hi
     have hadd : ∀ j, ((⟨b, off, none⟩ : Addr).add (i * 8)).add j = ⟨b, off + i * 8 + j, none⟩ := fun j => by unfold Addr.add; split <;> split <;> simp_all <;> omega
     have key := (hf' i hi).1
     have g : ((List.range len).map f).getD i Rec.no = f i := by simp [List.getD, hi]
     rw [g] at hv
     have hj : j < 8 := (List.getElem?_eq_some_iff.1 hv).1
     have := key j hj
     rw [hadd] at this
     rw [this]; exact hv
theorem ocells_get (l : List Rec) (i : Nat) (h : i < l.length) (j : Nat) (hj : j < 8) : (ocells l)[i * 8 + j]? = ((l.getD i Rec.no).ops)[j]? := by
 unfold ocells
 induction l generalizing i with
 | nil => simp at h
 | cons p ps ih =>
   rw [List.flatMap_cons]
   rcases i with _ | i
   · rw [Nat.zero_mul, Nat.zero_add, List.getElem?_append_left (by simpa [Rec.ops] using hj)]; rfl
   · rw [List.getElem?_append_right (by simp [Rec.ops]; omega)]
     have : (i + 1) * 8 + j - (p.ops).length = i * 8 + j := by simp [Rec.ops]; omega
     rw [this, ih i (by simpa using h)]; simp [List.getD]
theorem isOs_own {w : World} {base : Nat} {v : Value} {l : List Rec} (h : w.ownsRow base 34 8 v l.length (ocells l)) (hw : ∀ x ∈ l, x.Wf) : ∃ a cap, v = .slice a l.length cap ∧ IsOs w a l := by
 rcases h.2 with ⟨rfl, hn⟩ | ⟨g, cap, cur, rfl, hb, hg, hn, hc, hs, ht⟩
 · exact ⟨none, 0, by rw [hn], ⟨by omega, hw, fun hp => absurd hp (by omega)⟩⟩
 · refine ⟨some ⟨g, 0, none⟩, cap, rfl, ⟨by omega, hw, fun hp => ⟨g, 0, rfl, fun i hi j v hv => ?_⟩⟩⟩
   have hj : j < 8 := (List.getElem?_eq_some_iff.1 hv).1
   rw [Nat.zero_add, cell_of_row w g (i * 8 + j) cur _ _ hg]
   rw [← ocells_get l i hi j hj, ← ht, List.getElem?_take, if_pos (by omega)] at hv
   rw [← Array.getElem?_toList]; exact hv
theorem new_rt : Rt newL := rightD_rt.1 (by decide)
theorem new_er : Er newL := fun x hx => by
 rw [newL, List.mem_singleton] at hx
 subst hx
 rfl
end Go.Proofs.YtihgiemgcmpmmaaGreat
