/-
  Trees, plainly: a tree stays one behind every operation, and so do folds.
  Trees, plainly: an object that is made and removed, and what stands between.
  Trees, plainly: what can be done beside an object that is made and removed can be done without it.
  Trees, plainly: what can be done beside an object that is made and removed can be done without it, and makes the same but for that.
  Trees, plainly: a setting that is set anew does not matter; nodes stay without places; operations one behind the other.
-/
import Derived.Test.YtloojakcknnilaaGreatSyAo
namespace Go.Proofs.YtloojakcknnilaaGreat
set_option linter.unusedVariables false
set_option linter.unusedSimpArgs false
theorem rightF_ent {o : Rec} (h : rightF o = true) (hk : pEnt o.k = true) : Pa.nameB o.nm.data.toList = true := by
  unfold rightF at h
  rw [hk] at h
  simp only [Bool.and_eq_true, entF, if_pos] at h
  exact h.2.1.1.1.2
theorem rightF_goal {o : Rec} (h : rightF o = true) (hk : pGoal o.k = true) : Pa.nameB o.nm2.data.toList = true := by
  unfold rightF at h
  rw [hk] at h
  simp only [Bool.and_eq_true, entF, if_pos] at h
  exact h.2.1.1.2.2
theorem rightF_make {o : Rec} (h : rightF o = true) (hk : mkF o.k = true) : o.fid ≠ 0 ∧ o.fid ≠ 1 := by
  unfold rightF at h
  have hp : pFid o.k = true := by
    simp only [mkF, pFid, Bool.or_eq_true] at hk ⊢
    rcases hk with (h | h) | h <;> simp [h]
  rw [hk, hp] at h
  simp only [Bool.and_eq_true, Bool.not_eq_true', Bool.or_eq_false_iff, Bool.true_and, beq_eq_false_iff_ne, bne_eq_false_iff_eq] at h
  obtain ⟨⟨⟨_, h1⟩, h2⟩, _⟩ := h
  refine ⟨?_, h2⟩
  have := h1.symm
  simpa using this
/-- What createL does where it can. -/
theorem create_ok {l : List Nd} (R : Rt l) {o : Rec} (h : (createL l o).1 = 0) : ∃ d, getF l o.dir = some d ∧ d.k = 2 ∧ kq d.ks o.nm = none ∧ getF l o.fid = none ∧ l.length < 40 ∧ d.ks.length < 12 ∧ (createL l o).2 = setL (setL l (d.kids none 0 (entL d.ks o.nm o.fid))) (newN o) := by
  unfold createL at h ⊢
  by_cases c1 : dirE (getF l o.dir) ≠ 0
  · rw [if_pos c1] at h; exact absurd h c1
  rw [if_neg c1] at h ⊢
  obtain ⟨b1, b2⟩ := dirE_ok (Decidable.not_not.1 c1)
  generalize dirN (getF l o.dir) = d at *
  by_cases c2 : kidI d.ks o.nm ≠ 0 ∨ (getF l o.fid).isSome = true
  · rw [if_pos c2] at h; cases h
  rw [if_neg c2] at h ⊢
  by_cases c3 : 40 ≤ l.length ∨ 12 ≤ d.ks.length
  · rw [if_pos c3] at h; cases h
  rw [if_neg c3]
  have hk := R.kok b1 b2
  refine ⟨d, b1, b2, (kq_none_iff (fun q hq => (hk.2 q hq).2) o.nm).1 (by simpa using fun e => c2 (.inl e)), ?_, by omega, by omega, rfl⟩
  cases e : getF l o.fid with
  | none => rfl
  | some x => exact absurd (.inr (by rw [e]; rfl)) c2
theorem Rt.create {l : List Nd} (R : Rt l) {o : Rec} (hr : rightF o = true) (hw : o.Wf) (hk : o.k = 1 ∨ o.k = 2 ∨ o.k = 3) (h : (createL l o).1 = 0) : Rt (createL l o).2 := by
  obtain ⟨d, h1, h2, h3, h4, h5, h6, e⟩ := create_ok R h
  rw [e]
  have hm : mkF o.k = true := by rcases hk with h | h | h <;> rw [h] <;> rfl
  have hp : pEnt o.k = true := by rcases hk with h | h | h <;> rw [h] <;> rfl
  obtain ⟨f0, f1⟩ := rightF_make hr hm
  have fd := (getF_mem h1).2
  rw [← fd] at h1
  have hpos : 0 < o.fid := by have := hw.2.1.1; omega
  have := R.make (n := newN o) (s := o.nm) h1 h2 h3 (rightF_ent hr hp) h6 h5 ?_ h4 f1 hpos rfl rfl
  · exact this
  · refine ⟨f0, ?_, Nat.zero_le _, ?_⟩
    · show (if o.k = 3 then txB o.dt else []).length ≤ 64
      split
      · rw [txB_len]; exact rightF_dt hr
      · exact Nat.zero_le _
    · show (((if o.k = 2 then (2 : Int) else if o.k = 3 then 3 else 1) = 1 ∨ (if o.k = 2 then (2 : Int) else if o.k = 3 then 3 else 1) = 3) ∧ ([] : List Kd) = []) ∨ ((if o.k = 2 then (2 : Int) else if o.k = 3 then 3 else 1) = 2 ∧ (if o.k = 3 then txB o.dt else []) = [] ∧ KOk [])
      rcases hk with h | h | h
      · left; rw [h]; exact ⟨.inl rfl, rfl⟩
      · right; rw [h]; exact ⟨rfl, rfl, List.Pairwise.nil, fun q hq => by cases hq⟩
      · left; rw [h]; exact ⟨.inr rfl, rfl⟩
theorem hard_ok {l : List Nd} (R : Rt l) {o : Rec} (h : (hardL l o).1 = 0) : ∃ d n, getF l o.fid = some n ∧ n.k ≠ 2 ∧ getF l o.dir = some d ∧ d.k = 2 ∧ kq d.ks o.nm = none ∧ d.ks.length < 12 ∧ (hardL l o).2 = setL (setL l (d.kids none 0 (entL d.ks o.nm o.fid))) (n.lnk (n.ln + 1)) := by
  unfold hardL at h ⊢
  cases hn : getF l o.fid with
  | none => rw [hn] at h; cases h
  | some n =>
    rw [hn] at h
    simp only [Option.isSome_some, Option.getD_some, if_neg (show ¬ (true = false) by decide)] at h ⊢
    by_cases c0 : n.k = 2
    · rw [if_pos c0] at h; cases h
    rw [if_neg c0] at h ⊢
    by_cases c1 : dirE (getF l o.dir) ≠ 0
    · rw [if_pos c1] at h; exact absurd h c1
    rw [if_neg c1] at h ⊢
    obtain ⟨b1, b2⟩ := dirE_ok (Decidable.not_not.1 c1)
    generalize dirN (getF l o.dir) = d at *
    by_cases c2 : kidI d.ks o.nm ≠ 0
    · rw [if_pos c2] at h; cases h
    rw [if_neg c2] at h ⊢
    by_cases c3 : 12 ≤ d.ks.length
    · rw [if_pos c3] at h; cases h
    rw [if_neg c3]
    have hk := R.kok b1 b2
    exact ⟨d, n, rfl, c0, b1, b2, (kq_none_iff (fun q hq => (hk.2 q hq).2) o.nm).1 (Decidable.not_not.1 c2), by omega, rfl⟩
theorem Rt.hard {l : List Nd} (R : Rt l) {o : Rec} (hr : rightF o = true) (hk : o.k = 4) (h : (hardL l o).1 = 0) : Rt (hardL l o).2 := by
  obtain ⟨d, n, h1, h2, h3, h4, h5, h6, e⟩ := hard_ok R h
  rw [e]
  have fd := (getF_mem h3).2
  have fn := (getF_mem h1).2
  rw [← fd] at h3
  rw [← fn] at h1 ⊢
  exact R.link h3 h4 h5 (rightF_ent hr (by rw [hk]; rfl)) h6 h1 h2
theorem remove_ok {l : List Nd} (R : Rt l) {o : Rec} (hk : o.k = 5 ∨ o.k = 6) (h : (removeL l o).1 = 0) : ∃ d n, getF l o.dir = some d ∧ d.k = 2 ∧ kq d.ks o.nm = some ⟨o.nm, n.fid⟩ ∧ getF l n.fid = some n ∧ (o.k = 6 ↔ n.k = 2) ∧ n.ks = [] ∧ (removeL l o).2 = lessL (setL l (d.kids none 0 (entL d.ks o.nm 0))) n := by
  unfold removeL at h ⊢
  by_cases c1 : lookE (getF l o.dir) o.nm ≠ 0
  · rw [if_pos c1] at h; exact absurd h c1
  rw [if_neg c1] at h ⊢
  obtain ⟨a1, a2, a3, a4⟩ := lookE_ok (Decidable.not_not.1 c1)
  generalize (getF l o.dir).getD Nd.no = a at a1 a2 a3 a4 h ⊢
  rw [a3] at a4 h ⊢
  have hka := R.kok a1 a2
  obtain ⟨q, hq, hqs, hqf⟩ : ∃ q, q ∈ a.ks ∧ q.nm = o.nm ∧ kidI a.ks o.nm = q.fid := kidI_mem a4
  have hkq : kq a.ks o.nm = some q := by rw [← hqs]; exact ksrt_get hka.1 hq
  obtain ⟨_, n, hn⟩ := R.kids a1 hq
  have fn := (getF_mem hn).2
  have eq : q = ⟨o.nm, n.fid⟩ := by
    cases q; simp only at hqs fn; rw [hqs, fn]
  rw [hqf, hn] at h ⊢
  simp only [Option.getD_some] at h ⊢
  by_cases c2 : o.k = 5 ∧ n.k = 2
  · rw [if_pos c2] at h; cases h
  rw [if_neg c2] at h ⊢
  by_cases c3 : o.k = 6 ∧ n.k ≠ 2
  · rw [if_pos c3] at h; cases h
  rw [if_neg c3] at h ⊢
  by_cases c4 : o.k = 6 ∧ 0 < n.ks.length
  · rw [if_pos c4] at h; cases h
  rw [if_neg c4]
  refine ⟨a, n, a1, a2, by rw [hkq, eq], by rw [fn]; exact hn, ?_, ?_, rfl⟩
  · constructor
    · intro e; exact Decidable.not_not.1 (fun e2 => c3 ⟨e, e2⟩)
    · intro e; rcases hk with h5 | h6
      · exact absurd ⟨h5, e⟩ c2
      · exact h6
  · rcases hk with h5 | h6
    · obtain ⟨⟨_, _, _, b⟩, _⟩ := R.at hn
      rcases b with b | b
      · exact b.2
      · exact absurd ⟨h5, b.1⟩ c2
    · exact List.length_eq_zero_iff.1 (by have : ¬ 0 < n.ks.length := fun e => c4 ⟨h6, e⟩
                                          omega)
theorem Rt.remove {l : List Nd} (R : Rt l) {o : Rec} (hk : o.k = 5 ∨ o.k = 6) (h : (removeL l o).1 = 0) : Rt (removeL l o).2 := by
  obtain ⟨d, n, h1, h2, h3, h4, _, h5, e⟩ := remove_ok R hk h
  rw [e]
  rw [← (getF_mem h1).2] at h1
  exact R.unlink h1 h3 h4 h5
/-- A node's mode, or its data, written. -/
def Nd.wr (n : Nd) (o : Rec) : Nd := if o.k = 9 then ⟨n.fid, n.k, o.md, n.ln, none, 0, n.zs, none, 0, n.ks⟩ else ⟨n.fid, n.k, n.md, n.ln, none, 0, txB o.dt, none, 0, n.ks⟩
theorem write_ok {l : List Nd} {o : Rec} (h : (writeL l o).1 = 0) : ∃ n, getF l o.fid = some n ∧ (o.k = 9 ∨ (n.k ≠ 2 ∧ n.k ≠ 3)) ∧ (writeL l o).2 = setL l (n.wr o) := by
  unfold writeL at h ⊢
  cases hn : getF l o.fid with
  | none => rw [hn] at h; cases h
  | some n =>
    rw [hn] at h
    simp only [Option.isSome_some, Option.getD_some, if_neg (show ¬ (true = false) by decide)] at h ⊢
    by_cases c0 : o.k = 9
    · rw [if_pos c0]; exact ⟨n, rfl, .inl c0, by unfold Nd.wr; rw [if_pos c0]⟩
    rw [if_neg c0] at h ⊢
    by_cases c1 : n.k = 2
    · rw [if_pos c1] at h; cases h
    rw [if_neg c1] at h ⊢
    by_cases c2 : n.k = 3
    · rw [if_pos c2] at h; cases h
    rw [if_neg c2]
    exact ⟨n, rfl, .inr ⟨c1, c2⟩, by unfold Nd.wr; rw [if_neg c0]⟩
theorem Rt.writes {l : List Nd} (R : Rt l) {o : Rec} (hr : rightF o = true) (h : (writeL l o).1 = 0) : Rt (writeL l o).2 := by
  obtain ⟨n, h1, h2, e⟩ := write_ok h
  rw [e]
  have fn := (getF_mem h1).2
  obtain ⟨⟨a1, a2, a3, a4⟩, _⟩ := R.at h1
  rw [← fn] at h1
  unfold Nd.wr
  split
  · exact R.write h1 rfl rfl rfl rfl ⟨a1, a2, a3, a4⟩
  · rename_i c0
    refine R.write h1 rfl rfl rfl rfl ⟨a1, by show (txB o.dt).length ≤ 64; rw [txB_len]; exact rightF_dt hr, a3, ?_⟩
    rcases a4 with a4 | a4
    · exact .inl a4
    · rcases h2 with h2 | h2
      · exact absurd h2 c0
      · exact absurd a4.1 h2.1
/-- A tree stays one. -/
theorem Rt.apply {l : List Nd} (R : Rt l) {o : Rec} (hr : rightF o = true) (hw : o.Wf) (h : (applyL l o).1 = 0) : Rt (applyL l o).2 := by
  unfold applyL at h ⊢
  split
  · rename_i c; rw [if_pos c] at h; exact R.create hr hw c h
  · rename_i c; rw [if_neg c] at h
    split
    · rename_i c; rw [if_pos c] at h; exact R.hard hr c h
    · rename_i c; rw [if_neg c] at h
      split
      · rename_i c; rw [if_pos c] at h; exact R.remove c h
      · rename_i c; rw [if_neg c] at h
        split
        · rename_i c; rw [if_pos c] at h; exact R.rename (rightF_goal hr (by rw [c]; rfl)) h
        · rename_i c; rw [if_neg c] at h; exact R.writes hr h
theorem ApplyL_rt {l : List Nd} {o : Rec} (hw : o.Wf) (h : (ApplyL l o).1 = 0) : Rt (ApplyL l o).2 := by
  unfold ApplyL at h ⊢
  split
  · rename_i c
    rw [if_pos c] at h
    rw [Bool.and_eq_true] at c
    exact (rightD_rt.1 c.1).apply c.2 hw h
  · rename_i c; rw [if_neg c] at h; cases h
end Go.Proofs.YtloojakcknnilaaGreat
namespace Go.Proofs.YtloojakcknnilaaGreat
set_option linter.unusedVariables false
set_option linter.unusedSimpArgs false
/-- Nodes that say nothing of where they lie. -/
def Er (l : List Nd) : Prop := ∀ x ∈ l, x.er = x
theorem er_kids (x : Nd) (K : List Kd) (h : x.er = x) : (x.kids none 0 K).er = x.kids none 0 K := by
  have a : none = x.da := congrArg Nd.da h
  have b : 0 = x.dc := congrArg Nd.dc h
  obtain ⟨_, _, _, _, da, dc, _, _, _, _⟩ := x
  simp only at a b
  subst a b
  rfl
theorem er_lnk (x : Nd) (n : Int) (h : x.er = x) : (x.lnk n).er = x.lnk n := by
  have a : none = x.da := congrArg Nd.da h
  have b : 0 = x.dc := congrArg Nd.dc h
  have c : none = x.ka := congrArg Nd.ka h
  have d : 0 = x.kc := congrArg Nd.kc h
  obtain ⟨_, _, _, _, da, dc, _, ka, kc, _⟩ := x
  simp only at a b c d
  subst a b c d
  rfl
theorem er_wr (x : Nd) (o : Rec) : (x.wr o).er = x.wr o := by unfold Nd.wr; split <;> rfl
theorem er_new (o : Rec) : (newN o).er = newN o := rfl
theorem Er.get {l : List Nd} (h : Er l) {g : Int} {x : Nd} (hx : getF l g = some x) : x.er = x := h x (getF_mem hx).1
theorem Er.set {l : List Nd} (h : Er l) {n : Nd} (hn : n.er = n) : Er (setL l n) := fun x hx => by
  rw [setL_insR] at hx
  rcases insR_mem Nd.fid leI hx with e | e
  · rw [e]; exact hn
  · exact h x e
theorem Er.out {l : List Nd} (h : Er l) (g : Int) : Er (outL l g) := fun x hx => h x (List.mem_filter.1 hx).1
theorem Er.less {l : List Nd} (h : Er l) {n : Nd} (hn : n.er = n) : Er (lessL l n) := by
  unfold lessL
  split
  · exact h.out _
  · exact h.set (er_lnk n (n.ln - 1) hn)
/-- A node without an entry of a name. -/
def stripN (d : Int) (s : ByteArray) (x : Nd) : Nd := if x.fid = d then x.kids none 0 (entL x.ks s 0) else x
/-- Nodes without a node, and without its entry. -/
def strip (f d : Int) (s : ByteArray) (l : List Nd) : List Nd := (outL l f).map (stripN d s)
theorem stripN_fid (d : Int) (s : ByteArray) (x : Nd) : (stripN d s x).fid = x.fid := by unfold stripN; split <;> rfl
theorem stripN_k (d : Int) (s : ByteArray) (x : Nd) : (stripN d s x).k = x.k := by unfold stripN; split <;> rfl
theorem stripN_ne {d : Int} {s : ByteArray} {x : Nd} (h : x.fid ≠ d) : stripN d s x = x := by unfold stripN; rw [if_neg h]
theorem stripN_ks (d : Int) (s : ByteArray) (x : Nd) : (stripN d s x).ks = if x.fid = d then entL x.ks s 0 else x.ks := by unfold stripN; split <;> rfl
theorem getF_strip (f d : Int) (s : ByteArray) (l : List Nd) (g : Int) : getF (strip f d s l) g = if g = f then none else (getF l g).map (stripN d s) := by
  have : getF (strip f d s l) g = (getF (outL l f) g).map (stripN d s) := by
    unfold strip getF
    rw [List.find?_map]
    congr 2
    funext x
    show ((stripN d s x).fid == g) = _
    rw [stripN_fid]
  rw [this, getF_out]
  split <;> rfl
theorem srt_strip {f d : Int} {s : ByteArray} {l : List Nd} (h : Srt l) : Srt (strip f d s l) := by
  have := srt_out f h
  unfold strip Srt Ris at *
  rw [List.pairwise_map]
  refine this.imp (fun {a b} h => ?_)
  rw [stripN_fid, stripN_fid]
  exact h
/-- A node that has one entry, and its entry. -/
structure Hl (f d : Int) (s : ByteArray) (k : Int) (l : List Nd) : Prop where
  nd : ∃ n, getF l f = some n ∧ n.k = k ∧ n.ks = [] ∧ n.ln = 1
  en : ∃ x, getF l d = some x ∧ kq x.ks s = some ⟨s, f⟩
section
variable {f d : Int} {s : ByteArray} {k : Int} {l : List Nd}
theorem Hl.set (h : Hl f d s k l) {n : Nd} (hn : n.fid ≠ f) (hk : n.fid = d → kq n.ks s = some ⟨s, f⟩) : Hl f d s k (setL l n) := by
  obtain ⟨x, h3, h4⟩ := h.en
  obtain ⟨m, h1, h2⟩ := h.nd
  refine ⟨⟨m, by rw [getF_set, if_neg hn.symm]; exact h1, h2⟩, ?_⟩
  by_cases e : n.fid = d
  · exact ⟨n, by rw [getF_set, if_pos e.symm], hk e⟩
  · exact ⟨x, by rw [getF_set, if_neg (fun e2 => e e2.symm)]; exact h3, h4⟩
theorem Hl.out (h : Hl f d s k l) {g : Int} (h1 : g ≠ f) (h2 : g ≠ d) : Hl f d s k (outL l g) := by
  obtain ⟨x, h3, h4⟩ := h.en
  obtain ⟨m, h5, h6⟩ := h.nd
  exact ⟨⟨m, by rw [getF_out, if_neg h1.symm]; exact h5, h6⟩, ⟨x, by rw [getF_out, if_neg h2.symm]; exact h3, h4⟩⟩
theorem Hl.less (h : Hl f d s k l) {n : Nd} (h1 : n.fid ≠ f) (h2 : n.fid ≠ d) : Hl f d s k (lessL l n) := by
  unfold lessL
  split
  · exact h.out h1 h2
  · exact h.set h1 (fun e => absurd e h2)
theorem cN_le {l : List Nd} (hs : Srt l) {g f : Int} {x : Nd} (hx : getF l f = some x) : cK g x.ks ≤ cT g l := by
  have h1 := cT_out g f hs
  rw [hx] at h1
  simp only [Option.elim] at h1
  have : cN g x = cK g x.ks := rfl
  omega
theorem Hl.only (h : Hl f d s k l) (R : Rt l) {g : Int} {x : Nd} {q : Kd} (hx : getF l g = some x) (hq : q ∈ x.ks) (e : q.fid = f) : g = d ∧ q.nm = s := by
  obtain ⟨y, h3, h4⟩ := h.en
  obtain ⟨m, h5, _, h6, h7⟩ := h.nd
  have h41 := (kq_some h4).1
  have hf1 : f ≠ 1 := (R.kids h3 h41).1
  have hc : cT f l = 1 := by have := (R.links h5 hf1).2.1; omega
  have hgd : g = d := by
    by_cases e1 : g = d
    · exact e1
    · have := cT_two R.srt hx h3 e1 hq h41 e rfl
      omega
  refine ⟨hgd, ?_⟩
  subst hgd
  rw [hx] at h3
  cases h3
  by_cases e1 : q.nm = s
  · exact e1
  · exfalso
    have hK := R.kok hx (R.isdir hx hq)
    have h8 := cK_ent f s 0 hK.1
    rw [h4] at h8
    simp only [Option.elim, if_pos] at h8
    have h9 : 0 < cK f (entL x.ks s 0) := wsm_pos (x := q) (by rw [entL_zero, List.mem_filter]; exact ⟨hq, by simpa using e1⟩) (by simp [e])
    have h10 := cN_le (g := f) R.srt hx
    omega
theorem Hl.less_eq (h : Hl f d s k l) (R : Rt l) {n y : Nd} (hn : getF l f = some n) (hy : getF l d = some y) : lessL (setL l (y.kids none 0 (entL y.ks s 0))) n = strip f d s l := by
  obtain ⟨m, h5, _, h6, h7⟩ := h.nd
  rw [hn] at h5
  cases h5
  have fn := (getF_mem hn).2
  have fy := (getF_mem hy).2
  refine srt_ext (srt_less _ (srt_set _ R.srt)) (srt_strip R.srt) (fun g => ?_)
  rw [getF_less, getF_set, getF_strip, h7]
  show (if g = n.fid then _ else if g = y.fid then _ else _) = _
  rw [fn, fy]
  by_cases e : g = f
  · rw [if_pos e, if_pos e]; rfl
  · rw [if_neg e, if_neg e]
    by_cases e2 : g = d
    · rw [if_pos e2, e2, hy]
      simp only [Option.map_some]
      unfold stripN
      rw [if_pos fy]
    · rw [if_neg e2]
      cases e3 : getF l g with
      | none => rfl
      | some z => rw [Option.map_some, stripN_ne (by rw [(getF_mem e3).2]; exact e2)]
theorem Hl.rt (h : Hl f d s k l) (R : Rt l) : Rt (strip f d s l) := by
  obtain ⟨y, h3, h4⟩ := h.en
  obtain ⟨m, h5, _, h6, h7⟩ := h.nd
  rw [← h.less_eq R h5 h3]
  have fn := (getF_mem h5).2
  have fy := (getF_mem h3).2
  exact R.unlink (by rw [fy]; exact h3) (by rw [fn]; exact h4) (by rw [fn]; exact h5) h6
theorem Hl.len (h : Hl f d s k l) (R : Rt l) : (strip f d s l).length + 1 = l.length := by
  obtain ⟨m, h5, _, h6, h7⟩ := h.nd
  have := len_out f R.srt
  rw [h5] at this
  unfold strip
  rw [List.length_map]
  simpa using this
end
end Go.Proofs.YtloojakcknnilaaGreat
namespace Go.Proofs.YtloojakcknnilaaGreat
set_option linter.unusedVariables false
set_option linter.unusedSimpArgs false
theorem kidI_of {l : List Kd} {s : ByteArray} {g : Int} (h : kq l s = some ⟨s, g⟩) : kidI l s = g := by rw [kidI_kq, h]; rfl
theorem kidI_no {l : List Kd} {s : ByteArray} (h : kq l s = none) : kidI l s = 0 := by rw [kidI_kq, h]; rfl
theorem dir_of {o : Option Nd} {x : Nd} (h : o = some x) (hk : x.k = 2) : dirE o = 0 ∧ dirN o = x := by
  subst h
  simp [dirE, dirN, hk]
theorem look_of {o : Option Nd} {x : Nd} {s : ByteArray} {g : Int} (h : o = some x) (hk : x.k = 2) (hq : kq x.ks s = some ⟨s, g⟩) (hg : g ≠ 0) : lookE o s = 0 ∧ lookI o s = g := by
  subst h
  simp [lookE, lookI, hk, kidI_of hq, hg]
theorem create_do {l : List Nd} {o : Rec} {d : Nd} (h1 : getF l o.dir = some d) (h2 : d.k = 2) (h3 : kq d.ks o.nm = none) (h4 : getF l o.fid = none) (h5 : l.length < 40) (h6 : d.ks.length < 12) :
    createL l o = (0, setL (setL l (d.kids none 0 (entL d.ks o.nm o.fid))) (newN o)) := by
  obtain ⟨e1, e2⟩ := dir_of h1 h2
  unfold createL
  rw [e1, e2, kidI_no h3, h4]
  have c3 : ¬ (40 ≤ l.length ∨ 12 ≤ d.ks.length) := by omega
  simp [c3]
theorem hard_do {l : List Nd} {o : Rec} {d n : Nd} (h0 : getF l o.fid = some n) (hn : n.k ≠ 2) (h1 : getF l o.dir = some d) (h2 : d.k = 2) (h3 : kq d.ks o.nm = none) (h6 : d.ks.length < 12) :
    hardL l o = (0, setL (setL l (d.kids none 0 (entL d.ks o.nm o.fid))) (n.lnk (n.ln + 1))) := by
  obtain ⟨e1, e2⟩ := dir_of h1 h2
  unfold hardL
  rw [e1, e2, kidI_no h3, h0]
  have c3 : ¬ 12 ≤ d.ks.length := by omega
  simp [c3, hn]
theorem remove_do {l : List Nd} {o : Rec} {d n : Nd} (h1 : getF l o.dir = some d) (h2 : d.k = 2) (h3 : kq d.ks o.nm = some ⟨o.nm, n.fid⟩) (h4 : getF l n.fid = some n) (h0 : n.fid ≠ 0) (hk : o.k = 5 ∨ o.k = 6) (h5 : o.k = 6 ↔ n.k = 2) (h6 : n.ks = []) :
    removeL l o = (0, lessL (setL l (d.kids none 0 (entL d.ks o.nm 0))) n) := by
  obtain ⟨e1, e2⟩ := look_of h1 h2 h3 h0
  unfold removeL
  rw [e1, e2, h4, h1]
  simp only [Option.getD_some]
  rw [if_neg (by simp), if_neg (fun h => by have := h5.2 h.2; omega), if_neg (fun h => h.2 (h5.1 h.1)), if_neg (by rw [h6]; simp)]
theorem write_do {l : List Nd} {o : Rec} {n : Nd} (h1 : getF l o.fid = some n) (h2 : o.k = 9 ∨ (n.k ≠ 2 ∧ n.k ≠ 3)) : writeL l o = (0, setL l (n.wr o)) := by
  unfold writeL Nd.wr
  rw [h1]
  simp only [Option.isSome_some, Option.getD_some, if_neg (show ¬ (true = false) by decide)]
  by_cases c : o.k = 9
  · rw [if_pos c, if_pos c]
  · rw [if_neg c, if_neg c]
    rcases h2 with h | h
    · exact absurd h c
    · rw [if_neg h.1, if_neg h.2]
/-- A Rename onto the same object. -/
theorem rename_same {l : List Nd} {o : Rec} {a b : Nd} {g : Int} {n : Nd} (ha : getF l o.dir = some a) (hak : a.k = 2) (hb : getF l o.to = some b) (hbk : b.k = 2) (hq : kq a.ks o.nm = some ⟨o.nm, n.fid⟩) (hn : getF l n.fid = some n) (h0 : n.fid ≠ 0)
    (hno : n.k = 2 → abN l n.fid (l.length + 1) o.to ≠ true) (h2 : kidI b.ks o.nm2 = n.fid) : renameL l o = (0, l) := by
  obtain ⟨e1, e2⟩ := look_of ha hak hq h0
  obtain ⟨e3, e4⟩ := dir_of hb hbk
  unfold renameL
  rw [e1, e2, e3, e4, hn]
  simp only [Option.getD_some]
  rw [if_neg (by simp), if_neg (by simp), if_neg (fun h => hno h.1 h.2), if_pos h2]
theorem rename_new {l : List Nd} {o : Rec} {a b n : Nd} (ha : getF l o.dir = some a) (hak : a.k = 2) (hb : getF l o.to = some b) (hbk : b.k = 2) (hq : kq a.ks o.nm = some ⟨o.nm, n.fid⟩) (hn : getF l n.fid = some n) (h0 : n.fid ≠ 0)
    (hno : n.k = 2 → abN l n.fid (l.length + 1) o.to ≠ true) (h2 : kq b.ks o.nm2 = none) (hz : getF l 0 = none) (hroom : o.to = o.dir ∨ b.ks.length < 12) : renameL l o = (0, movedL l o n.fid l) := by
  obtain ⟨e1, e2⟩ := look_of ha hak hq h0
  obtain ⟨e3, e4⟩ := dir_of hb hbk
  unfold renameL
  rw [e1, e2, e3, e4, hn, kidI_no h2, hz]
  simp only [Option.getD_some, Option.isSome_none, Bool.false_and, Bool.not_false, Bool.true_and, if_neg (show ¬ (false = true) by decide)]
  rw [if_neg (by simp), if_neg (by simp), if_neg (fun h => hno h.1 h.2), if_neg (fun e => h0 e.symm), if_neg]
  · rfl
  · rintro h
    simp only [Bool.and_eq_true, bne_iff_ne, decide_eq_true_eq] at h
    rcases hroom with e | e
    · exact h.1 e
    · omega
theorem rename_old {l : List Nd} {o : Rec} {a b n y : Nd} (ha : getF l o.dir = some a) (hak : a.k = 2) (hb : getF l o.to = some b) (hbk : b.k = 2) (hq : kq a.ks o.nm = some ⟨o.nm, n.fid⟩) (hn : getF l n.fid = some n) (h0 : n.fid ≠ 0)
    (hno : n.k = 2 → abN l n.fid (l.length + 1) o.to ≠ true) (h2 : kq b.ks o.nm2 = some ⟨o.nm2, y.fid⟩) (hy : getF l y.fid = some y) (hyn : y.fid ≠ n.fid) (hyk : y.ks = []) (hkk : n.k = 2 ↔ y.k = 2) : renameL l o = (0, movedL l o n.fid (lessL l y)) := by
  obtain ⟨e1, e2⟩ := look_of ha hak hq h0
  obtain ⟨e3, e4⟩ := dir_of hb hbk
  unfold renameL
  rw [e1, e2, e3, e4, hn, kidI_of h2, hy]
  simp only [Option.getD_some, Option.isSome_some, Bool.true_and, Bool.not_true, Bool.false_and, if_neg (show ¬ (false = true) by decide)]
  rw [if_neg (by simp), if_neg (by simp), if_neg (fun h => hno h.1 h.2), if_neg hyn, if_neg, if_neg, if_neg]
  · rfl
  · simp [hyk]
  · simp only [Bool.and_eq_true, bne_iff_ne, beq_iff_eq]; intro h; exact h.1 (hkk.1 h.2)
  · simp only [Bool.and_eq_true, bne_iff_ne, beq_iff_eq]; intro h; exact h.2 (hkk.2 h.1)
/-- A Rename that can be done, whole. -/
theorem rename_how {l : List Nd} (R : Rt l) {o : Rec} (h : (renameL l o).1 = 0) : ∃ a b n, getF l o.dir = some a ∧ getF l o.to = some b ∧ a.k = 2 ∧ b.k = 2 ∧ getF l n.fid = some n ∧ kq a.ks o.nm = some ⟨o.nm, n.fid⟩ ∧
    (n.k = 2 → abN l n.fid (l.length + 1) o.to ≠ true) ∧
    ((kq b.ks o.nm2 = none ∧ (o.to = o.dir ∨ b.ks.length < 12) ∧ (renameL l o).2 = movedL l o n.fid l) ∨
      (kq b.ks o.nm2 = some ⟨o.nm2, n.fid⟩ ∧ (renameL l o).2 = l) ∨
      ∃ y, kq b.ks o.nm2 = some ⟨o.nm2, y.fid⟩ ∧ getF l y.fid = some y ∧ y.fid ≠ n.fid ∧ y.ks = [] ∧ (n.k = 2 ↔ y.k = 2) ∧ (renameL l o).2 = movedL l o n.fid (lessL l y)) := by
  unfold renameL at h ⊢
  by_cases c1 : lookE (getF l o.dir) o.nm ≠ 0
  · rw [if_pos c1] at h; exact absurd h c1
  rw [if_neg c1] at h ⊢
  by_cases c2 : dirE (getF l o.to) ≠ 0
  · rw [if_pos c2] at h; exact absurd h c2
  rw [if_neg c2] at h ⊢
  obtain ⟨a1, a2, a3, a4⟩ := lookE_ok (Decidable.not_not.1 c1)
  obtain ⟨b1, b2⟩ := dirE_ok (Decidable.not_not.1 c2)
  generalize (getF l o.dir).getD Nd.no = a at a1 a2 a3 a4
  generalize dirN (getF l o.to) = b at *
  rw [a3] at a4 h ⊢
  have hka := R.kok a1 a2
  have hkb := R.kok b1 b2
  obtain ⟨q, hq, hqs, hqf⟩ : ∃ q, q ∈ a.ks ∧ q.nm = o.nm ∧ kidI a.ks o.nm = q.fid := kidI_mem a4
  have hkq : kq a.ks o.nm = some q := by rw [← hqs]; exact ksrt_get hka.1 hq
  obtain ⟨_, n, hn⟩ := R.kids a1 hq
  have fn := (getF_mem hn).2
  have eq : q = ⟨o.nm, n.fid⟩ := by
    cases q; simp only at hqs fn; rw [hqs, fn]
  rw [hqf, ← fn] at h ⊢
  rw [← fn] at hn
  rw [hn] at h ⊢
  simp only [Option.getD_some] at h ⊢
  by_cases c3 : n.k = 2 ∧ abN l n.fid (l.length + 1) o.to = true
  · rw [if_pos c3] at h; cases h
  rw [if_neg c3] at h ⊢
  have hno : n.k = 2 → abN l n.fid (l.length + 1) o.to ≠ true := fun e e2 => c3 ⟨e, e2⟩
  refine ⟨a, b, n, a1, b1, a2, b2, hn, by rw [hkq, eq], hno, ?_⟩
  cases hk2 : kq b.ks o.nm2 with
  | none =>
    have e0 : kidI b.ks o.nm2 = 0 := by rw [kidI_kq, hk2]; rfl
    have g0 : getF l 0 = none := by
      cases e : getF l 0 with
      | none => rfl
      | some z => have := (R.at e).2.1; omega
    have hn0 : n.fid ≠ 0 := by have := (R.at hn).2.1; omega
    rw [e0, g0, if_neg (fun e => hn0 e.symm)] at h ⊢
    simp only [Option.isSome_none, Bool.false_and, Bool.not_false, Bool.true_and, if_neg (show ¬ (false = true) by decide)] at h ⊢
    by_cases c5 : (o.to != o.dir && decide (12 ≤ b.ks.length)) = true
    · rw [if_pos c5] at h; cases h
    rw [if_neg c5]
    refine .inl ⟨by first | rfl | trivial, ?_, rfl⟩
    by_cases e : o.to = o.dir
    · exact .inl e
    · right
      simp only [Bool.and_eq_true, bne_iff_ne, decide_eq_true_eq, not_and] at c5
      have := c5 e
      omega
  | some r =>
    obtain ⟨r1, r2⟩ := kq_some hk2
    obtain ⟨_, y, hy⟩ := R.kids b1 r1
    have fy := (getF_mem hy).2
    have e0 : kidI b.ks o.nm2 = y.fid := by rw [kidI_kq, hk2, fy]; rfl
    have er : r = ⟨o.nm2, y.fid⟩ := by cases r; simp only at r2 fy; rw [r2, fy]
    rw [← fy] at hy
    right
    by_cases c4 : y.fid = n.fid
    · rw [e0, if_pos c4]
      exact .inl ⟨by rw [er, c4], rfl⟩
    right
    rw [e0, if_neg c4, hy] at h ⊢
    simp only [Option.isSome_some, Option.getD_some, Bool.true_and, Bool.not_true, Bool.false_and, if_neg (show ¬ (false = true) by decide)] at h ⊢
    by_cases c5 : (y.k == 2 && n.k != 2) = true
    · rw [if_pos c5] at h; cases h
    rw [if_neg c5] at h ⊢
    by_cases c6 : (y.k != 2 && n.k == 2) = true
    · rw [if_pos c6] at h; cases h
    rw [if_neg c6] at h ⊢
    by_cases c7 : decide (0 < y.ks.length) = true
    · rw [if_pos c7] at h; cases h
    rw [if_neg c7]
    refine ⟨y, by rw [er], hy, c4, ?_, ?_, rfl⟩
    · have : ¬ 0 < y.ks.length := by simpa using c7
      exact List.length_eq_zero_iff.1 (by omega)
    · simp only [Bool.and_eq_true, bne_iff_ne, beq_iff_eq, not_and, Decidable.not_not] at c5 c6
      exact ⟨fun e => Decidable.not_not.1 (fun e2 => (c6 e2) e), fun e => c5 e⟩
end Go.Proofs.YtloojakcknnilaaGreat
namespace Go.Proofs.YtloojakcknnilaaGreat
set_option linter.unusedVariables false
set_option linter.unusedSimpArgs false
section
variable {f d : Int} {s : ByteArray} {k : Int} {l : List Nd}
theorem Hl.ed (h : Hl f d s k l) (f' g : Int) (hE : Ed (strip f d s l) f' g) : Ed l f' g := ed_mono (fun f' x hx q hq => by
    rw [getF_strip] at hx
    split at hx
    · cases hx
    · cases e : getF l f' with
      | none => rw [e] at hx; cases hx
      | some y =>
        rw [e] at hx
        cases hx
        refine ⟨y, rfl, q, ?_, rfl⟩
        rw [stripN_ks] at hq
        split at hq
        · rw [entL_zero, List.mem_filter] at hq; exact hq.1
        · exact hq) (fun g z hz hk => by
    rw [getF_strip] at hz
    split at hz
    · cases hz
    · cases e : getF l g with
      | none => rw [e] at hz; cases hz
      | some y =>
        rw [e] at hz
        cases hz
        exact ⟨y, rfl, by rw [stripN_k] at hk; exact hk⟩) hE
theorem Hl.moved {o : Rec} {g : Int} {D : List Nd} {a b : Nd} (H : Hl f d s k D) (ha : getF D o.dir = some a) (hb : getF D o.to = some b) (hd : o.dir ≠ f) (ht : o.to ≠ f)
    (h1 : ¬ (o.dir = d ∧ o.nm = s)) (h2 : ¬ (o.to = d ∧ o.nm2 = s)) (L : List Nd) : Hl f d s k (movedL L o g D) := by
  have hG := getF_moved L o g D ha hb
  obtain ⟨x, h3, h4⟩ := H.en
  obtain ⟨m, h5, h6⟩ := H.nd
  refine ⟨⟨m, by rw [hG, if_neg ht.symm, if_neg hd.symm]; exact h5, h6⟩, ?_⟩
  by_cases e1 : d = o.to
  · refine ⟨_, by rw [hG, if_pos e1], ?_⟩
    show kq (entL (if o.to = o.dir then entL a.ks o.nm 0 else b.ks) o.nm2 g) s = _
    rw [kq_ent, if_neg (fun e => h2 ⟨e1.symm, e.symm⟩)]
    by_cases e : o.to = o.dir
    · rw [if_pos e, kq_ent, if_neg (fun e2 => h1 ⟨by rw [← e, e1], e2.symm⟩)]
      rw [e1, e, ha] at h3
      cases h3
      exact h4
    · rw [if_neg e]
      rw [e1, hb] at h3
      cases h3
      exact h4
  · by_cases e2 : d = o.dir
    · refine ⟨_, by rw [hG, if_neg e1, if_pos e2], ?_⟩
      show kq (entL a.ks o.nm 0) s = _
      rw [kq_ent, if_neg (fun e => h1 ⟨e2.symm, e.symm⟩)]
      rw [e2, ha] at h3
      cases h3
      exact h4
    · exact ⟨x, by rw [hG, if_neg e1, if_neg e2]; exact h3, h4⟩
theorem wr_fid (n : Nd) (o : Rec) : (n.wr o).fid = n.fid := by unfold Nd.wr; split <;> rfl
end
end Go.Proofs.YtloojakcknnilaaGreat
namespace Go.Proofs.YtloojakcknnilaaGreat
set_option linter.unusedVariables false
set_option linter.unusedSimpArgs false
theorem Er.getd {l : List Nd} (h : Er l) (g : Int) : ((getF l g).getD Nd.no).er = (getF l g).getD Nd.no := by
  cases e : getF l g with
  | none => rfl
  | some x => exact h.get e
theorem Er.moved {l : List Nd} (h : Er l) (L : List Nd) (o : Rec) (f : Int) : Er (movedL L o f l) := by
  unfold movedL
  have h1 : Er (setL l (((getF l o.dir).getD Nd.no).kids none 0 (entL ((getF l o.dir).getD Nd.no).ks o.nm 0))) := h.set (er_kids _ _ (h.getd _))
  exact h1.set (er_kids _ _ (h1.getd _))
theorem Er.apply {l : List Nd} (h : Er l) (R : Rt l) {o : Rec} (hok : (applyL l o).1 = 0) : Er (applyL l o).2 := by
  unfold applyL at hok ⊢
  by_cases c1 : o.k = 1 ∨ o.k = 2 ∨ o.k = 3
  · rw [if_pos c1] at hok ⊢
    obtain ⟨d, h1, h2, h3, h4, h5, h6, e⟩ := create_ok R hok
    rw [e]
    exact (h.set (er_kids _ _ (h.get h1))).set (er_new o)
  rw [if_neg c1] at hok ⊢
  by_cases c2 : o.k = 4
  · rw [if_pos c2] at hok ⊢
    obtain ⟨d, n, h1, h2, h3, h4, h5, h6, e⟩ := hard_ok R hok
    rw [e]
    exact (h.set (er_kids _ _ (h.get h3))).set (er_lnk _ _ (h.get h1))
  rw [if_neg c2] at hok ⊢
  by_cases c3 : o.k = 5 ∨ o.k = 6
  · rw [if_pos c3] at hok ⊢
    obtain ⟨d, n, h1, h2, h3, h4, h5, h6, e⟩ := remove_ok R c3 hok
    rw [e]
    exact (h.set (er_kids _ _ (h.get h1))).less (h.get h4)
  rw [if_neg c3] at hok ⊢
  by_cases c4 : o.k = 7
  · rw [if_pos c4] at hok ⊢
    obtain ⟨a, b, n, ha, hb, hak, hbk, hn, hq, hno, h2⟩ := rename_how R hok
    rcases h2 with ⟨_, _, e⟩ | ⟨_, e⟩ | ⟨y, _, hy, _, _, _, e⟩
    · rw [e]; exact h.moved _ _ _
    · rw [e]; exact h
    · rw [e]; exact (h.less (h.get hy)).moved _ _ _
  rw [if_neg c4] at hok ⊢
  obtain ⟨n, h1, h2, e⟩ := write_ok hok
  rw [e]
  exact h.set (er_wr n o)
section
variable {c f : Int} {l m : List Nd}
end
theorem ApplyL_of {l : List Nd} {o : Rec} (R : Rt l) (h : rightF o = true) : ApplyL l o = applyL l o := by
  unfold ApplyL
  rw [rightD_rt.2 R, h]
  rfl
end Go.Proofs.YtloojakcknnilaaGreat
