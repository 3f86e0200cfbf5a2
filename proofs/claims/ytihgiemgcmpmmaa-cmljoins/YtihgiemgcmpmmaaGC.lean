/-
  A log that was made shorter makes the same tree: plainly.
  The records of a log whose operations can be done, on a tree of some operations.
  Operations of an input, in memory.
  A log of what can be done: plain facts; operations in a row that a call made.
-/
import Derived.Test.YtihgiemgcmpmmaaGM
import Derived.Test.YtihgiemgcmpmmaaGE
namespace Go.Proofs.Ytihgiemgcmpmmaa
set_option linter.unusedVariables false
set_option linter.unusedSimpArgs false
theorem run_end {m : Rec} {k : Int} (hk2 : k = 2 ↔ m.k = 2) : ∀ (t : List Rec) (L r : List Nd) (t' : List Rec), Hl m.fid m.dir m.nm k L → Rt L → (∀ o ∈ t, o.Wf) → runL L t = some r → endL m t = some t' → runL (strip m.fid m.dir m.nm L) t' = some r
  | [], _, _, _, _, _, _, _, he => by cases he
  | y :: t, L, r, t', H, R, hw, hr, he => by
    unfold runL at hr
    by_cases c0 : (ApplyL L y).1 = 0
    · rw [if_pos c0] at hr
      obtain ⟨_, hF, e⟩ := ApplyL_ok c0
      rw [e] at c0 hr
      have wy := hw y (List.mem_cons_self ..)
      have hw' : ∀ o ∈ t, o.Wf := fun o ho => hw o (List.mem_cons_of_mem _ ho)
      have hf0 : m.fid ≠ 0 := by have := H.fpos R; omega
      unfold endL at he
      by_cases u : unmakesF y m = true
      · rw [if_pos u] at he
        cases he
        unfold unmakesF at u
        rw [Bool.and_eq_true, Bool.and_eq_true, beq_iff_eq, beq_iff_eq, ba_eq, decide_eq_true_eq] at u
        obtain ⟨⟨u1, u2⟩, u3⟩ := u
        have hk56 : y.k = 5 ∨ y.k = 6 := by rw [u1]; split <;> simp
        have ea : applyL L y = removeL L y := by
          unfold applyL
          rw [if_neg (by omega), if_neg (by omega), if_pos hk56]
        rw [ea] at c0 hr
        obtain ⟨d, n, h1, h2, h3, h4, h5, h6, e6⟩ := remove_ok R hk56 c0
        obtain ⟨x, hx, hxq⟩ := H.en
        rw [u2, hx] at h1
        cases h1
        rw [u3, hxq] at h3
        have en : m.fid = n.fid := congrArg Kd.fid (Option.some.inj h3)
        rw [← en] at h4
        rw [e6, u3, H.less_eq R h4 hx] at hr
        exact hr
      · rw [if_neg u] at he
        by_cases v : wayF y m = true
        · rw [if_pos v] at he; cases he
        rw [if_neg v] at he
        cases hE : endL m t with
        | none => rw [hE] at he; cases he
        | some r0 =>
          rw [hE] at he
          have he : (if touchF y m.fid = true then r0 else y :: r0) = t' := Option.some.inj he
          by_cases q : touchF y m.fid = true
          · rw [if_pos q] at he
            subst he
            have hs : setsF y.k = true ∧ y.fid = m.fid := by
              unfold wayF at v
              rw [q] at v
              simpa using v
            have hk89 : y.k = 8 ∨ y.k = 9 := by
              have := hs.1
              unfold setsF at this
              simpa using this
            have ea : applyL L y = writeL L y := by
              unfold applyL
              rw [if_neg (by omega), if_neg (by omega), if_neg (by omega), if_neg (by omega)]
            have R' := R.apply hF wy c0
            rw [ea] at c0 hr R'
            obtain ⟨o1, o2⟩ := own_write H R hs.2 c0
            rw [← o1]
            exact run_end hk2 t _ r _ o2 R' hw' hr hE
          · rw [if_neg q] at he
            subst he
            have q' : y.fid ≠ m.fid ∧ y.dir ≠ m.fid ∧ y.to ≠ m.fid := by
              unfold touchF at q
              have : (m.fid != 0) = true := by simpa using hf0
              rw [this] at q
              simp only [Bool.true_and, Bool.or_eq_true, beq_iff_eq, not_or] at q
              exact ⟨q.1.1, q.1.2, q.2⟩
            have nm : namesF y m.dir m.nm = false := by
              unfold wayF at v
              have e1 : (y.fid == m.fid) = false := beq_eq_false_iff_ne.2 q'.1
              have e2 : touchF y m.fid = false := by simpa using q
              rw [e1, e2] at v
              simpa using v
            unfold namesF at nm
            rw [ba_eq, ba_eq] at nm
            simp only [Bool.or_eq_false_iff, Bool.and_eq_false_iff, beq_eq_false_iff_ne, decide_eq_false_iff_not] at nm
            have F : Far m.fid m.dir m.nm y := ⟨q'.1, q'.2.1, q'.2.2, fun h => by rcases nm.1 with h1 | h1; exact h1 h.1; exact h1 h.2, fun h => by rcases nm.2 with h1 | h1; exact h1 h.1; exact h1 h.2⟩
            obtain ⟨f1, f2⟩ := far_apply H R F c0
            unfold runL
            rw [ApplyL_of (H.rt R) hF, f1, if_pos rfl]
            exact run_end hk2 t _ r r0 f2 (R.apply hF wy c0) hw' hr hE
    · rw [if_neg c0] at hr; cases hr
theorem run_make {x : Rec} {t t' : List Rec} {l r : List Nd} (E : Er l) (hw : ∀ o ∈ x :: t, o.Wf) (h : runL l (x :: t) = some r) (hm : makesF x.k = true) (he : endL x t = some t') : runL l t' = some r := by
  unfold runL at h
  by_cases c0 : (ApplyL l x).1 = 0
  · rw [if_pos c0] at h
    obtain ⟨R, hF, e⟩ := ApplyL_ok c0
    rw [e] at c0 h
    have wx := hw x (List.mem_cons_self ..)
    have hk : x.k = 1 ∨ x.k = 2 ∨ x.k = 3 := by
      unfold makesF at hm
      simp only [Bool.or_eq_true, beq_iff_eq] at hm
      omega
    have R1 := R.apply hF wx c0
    have ea : applyL l x = createL l x := by unfold applyL; rw [if_pos hk]
    rw [ea] at c0 h R1
    obtain ⟨f0, f1⟩ := rightF_make hF (by rcases hk with h | h | h <;> rw [h] <;> rfl)
    obtain ⟨a, h1, h2, h3, h4, h5, h6, e1⟩ := create_ok R c0
    rw [e1] at h R1
    have fa := (getF_mem h1).2
    have hne : x.dir ≠ x.fid := fun e => by rw [e, h4] at h1; cases h1
    have hG : ∀ g, getF (setL (setL l (a.kids none 0 (entL a.ks x.nm x.fid))) (newN x)) g = if g = x.fid then some (newN x) else if g = x.dir then some (a.kids none 0 (entL a.ks x.nm x.fid)) else getF l g := fun g => by
      rw [getF_set, getF_set]
      show (if g = x.fid then _ else if g = a.fid then _ else _) = _
      rw [fa]
    have H : Hl x.fid x.dir x.nm (newN x).k (setL (setL l (a.kids none 0 (entL a.ks x.nm x.fid))) (newN x)) := by
      refine ⟨⟨newN x, by rw [hG, if_pos rfl], rfl, rfl, rfl⟩, ⟨_, by rw [hG, if_neg hne, if_pos rfl], ?_⟩⟩
      show kq (entL a.ks x.nm x.fid) x.nm = _
      rw [kq_ent, if_pos rfl, if_neg f0]
    have hS : strip x.fid x.dir x.nm (setL (setL l (a.kids none 0 (entL a.ks x.nm x.fid))) (newN x)) = l := by
      refine srt_ext (srt_strip R1.srt) R.srt (fun g => ?_)
      rw [getF_strip, hG]
      by_cases e2 : g = x.fid
      · rw [if_pos e2, e2, h4]
      · rw [if_neg e2, if_neg e2]
        by_cases e3 : g = x.dir
        · rw [if_pos e3, e3, h1, Option.map_some]
          congr 1
          unfold stripN
          rw [if_pos (show (a.kids none 0 (entL a.ks x.nm x.fid)).fid = x.dir from fa)]
          have hk3 := (R.kok h1 h2).1
          have : entL (entL a.ks x.nm x.fid) x.nm 0 = a.ks := ksrt_ext (ksrt_ent _ _ (ksrt_ent _ _ hk3)) hk3 (fun u => by
            rw [kq_ent, kq_ent]
            by_cases e4 : u = x.nm
            · rw [if_pos e4, if_pos rfl, e4, h3]
            · rw [if_neg e4, if_neg e4])
          show a.kids none 0 (entL (entL a.ks x.nm x.fid) x.nm 0) = a
          rw [this]
          obtain ⟨q1, q2⟩ := er_ka (E.get h1)
          obtain ⟨_, _, _, _, _, _, _, ka, kc, _⟩ := a
          simp only at q1 q2
          rw [q1, q2]
          rfl
        · rw [if_neg e3]
          cases e4 : getF l g with
          | none => rfl
          | some z => rw [Option.map_some, stripN_ne (by rw [(getF_mem e4).2]; exact e3)]
    have := run_end (m := x) (k := (newN x).k) (by
      show (if x.k = 2 then (2 : Int) else if x.k = 3 then 3 else 1) = 2 ↔ _
      rcases hk with h | h | h <;> rw [h] <;> simp) t _ r t' H R1 (fun o ho => hw o (List.mem_cons_of_mem _ ho)) h he
    rw [hS] at this
    exact this
  · rw [if_neg c0] at h; cases h
theorem run_once : ∀ (L : List Rec) (l r : List Nd) (L' : List Rec), Er l → (∀ o ∈ L, o.Wf) → runL l L = some r → onceL L = some L' → runL l L' = some r
  | [], _, _, _, _, _, _, h => by cases h
  | x :: t, l, r, L', E, hw, hr, h => by
    unfold onceL at h
    cases hq : (if makesF x.k = true then endL x t else none) with
    | some t' =>
      rw [hq] at h
      simp only [Option.some.injEq] at h
      subst h
      split at hq
      · rename_i hm
        exact run_make E hw hr hm hq
      · cases hq
    | none =>
      rw [hq] at h
      simp only at h
      cases ho : onceL t with
      | none => rw [ho] at h; cases h
      | some t' =>
        rw [ho] at h
        have h : x :: t' = L' := Option.some.inj h
        subst h
        unfold runL at hr ⊢
        by_cases c0 : (ApplyL l x).1 = 0
        · rw [if_pos c0] at hr ⊢
          obtain ⟨R, hF, e⟩ := ApplyL_ok c0
          have E' : Er (ApplyL l x).2 := by rw [e] at c0 ⊢; exact E.apply R c0
          exact run_once t _ r t' E' (fun o ho => hw o (List.mem_cons_of_mem _ ho)) hr ho
        · rw [if_neg c0] at hr; cases hr
theorem run_it : ∀ (n : Nat) (L : List Rec) (l r : List Nd), Er l → (∀ o ∈ L, o.Wf) → runL l L = some r → runL l (itL n L) = some r
  | 0, _, _, _, _, _, h => h
  | n + 1, L, l, r, E, hw, h => by
    unfold itL
    cases ho : onceL L with
    | none => exact h
    | some L' => exact run_it n L' l r E (fun o h' => hw o ((once_sub L L' ho).subset h')) (run_once L l r L' E hw h ho)
theorem run_need : ∀ (L : List Rec) (l r : List Nd), (∀ o ∈ L, o.Wf) → runL l L = some r → runL l (needL L) = some r
  | [], _, _, _, h => h
  | x :: t, l, r, hw, h => by
    have hw' : ∀ o ∈ t, o.Wf := fun o ho => hw o (List.mem_cons_of_mem _ ho)
    unfold needL
    by_cases q : anewF x t = true
    · rw [if_pos q]
      unfold anewF at q
      rw [Bool.and_eq_true, List.any_eq_true] at q
      obtain ⟨q1, o, ho, q2⟩ := q
      rw [Bool.and_eq_true, beq_iff_eq, beq_iff_eq] at q2
      exact run_need t l r hw' (run_less hw h (by unfold setsF at q1; simpa using q1) ⟨o, ho, q2⟩)
    · rw [if_neg q]
      unfold runL at h ⊢
      by_cases c0 : (ApplyL l x).1 = 0
      · rw [if_pos c0] at h ⊢
        exact run_need t _ r hw' h
      · rw [if_neg c0] at h; cases h
theorem need_sub : ∀ (L : List Rec), ∀ o ∈ needL L, o ∈ L
  | [], o, h => h
  | x :: t, o, h => by
    unfold needL at h
    split at h
    · exact List.mem_cons_of_mem _ (need_sub t o h)
    · rcases List.mem_cons.1 h with e | e
      · rw [e]; exact List.mem_cons_self ..
      · exact List.mem_cons_of_mem _ (need_sub t o e)
/-- What Optimise leaves can be done, and makes the same. -/
theorem run_opt {L : List Rec} {l r : List Nd} (E : Er l) (hw : ∀ o ∈ L, o.Wf) (h : runL l L = some r) : runL l (optF L) = some r := by
  rw [opt_it, needed_L]
  exact run_it _ _ l r E (fun o ho => hw o (need_sub L o ho)) (run_need L l r hw h)
theorem runL_cons (l : List Nd) (x : Rec) (t : List Rec) : runL l (x :: t) = if (ApplyL l x).1 = 0 then runL (ApplyL l x).2 t else none := rfl
theorem run_app : ∀ (A B : List Rec) (l : List Nd), runL l (A ++ B) = (runL l A).bind (fun s => runL s B)
  | [], _, _ => rfl
  | x :: t, B, l => by
    show runL l (x :: (t ++ B)) = _
    rw [runL_cons, runL_cons]
    split
    · exact run_app t B _
    · rfl
theorem run_fold : ∀ (L : List Rec) (l r : List Nd) (es : List Int), runL l L = some r → L.foldl foldS (l, es) = (r, es ++ List.replicate L.length 0)
  | [], l, r, es, h => by
    cases h
    simp
  | x :: t, l, r, es, h => by
    unfold runL at h
    by_cases c0 : (ApplyL l x).1 = 0
    · rw [if_pos c0] at h
      rw [List.foldl_cons]
      have : foldS (l, es) x = ((ApplyL l x).2, es ++ [0]) := by
        unfold foldS
        simp [c0]
      rw [this, run_fold t _ r _ h, List.length_cons, List.replicate_succ, List.append_assoc]
      rfl
    · rw [if_neg c0] at h; cases h
theorem run_Fold {L : List Rec} {l r : List Nd} (R : Rt l) (h : runL l L = some r) : FoldL l L = (r, List.replicate L.length 0) := by
  unfold FoldL
  rw [if_pos (rightD_rt.2 R), run_fold L l r [] h]
  rfl
/-- A log of what can be done, one record more. -/
def doneS (p : List Nd × List Rec) (o : Rec) : List Nd × List Rec := if (ApplyL p.1 o).1 = 0 then ((ApplyL p.1 o).2, p.2 ++ [o]) else p
theorem done_run {t : List Nd} {p : List Nd × List Rec} {o : Rec} (h : runL t p.2 = some p.1) : runL t (doneS p o).2 = some (doneS p o).1 := by
  unfold doneS
  split
  · rename_i c0
    simp only
    rw [run_app, h]
    show runL p.1 [o] = _
    unfold runL
    rw [if_pos c0]
    rfl
  · exact h
end Go.Proofs.Ytihgiemgcmpmmaa
namespace Go.Proofs.Ytihgiemgcmpmmaa
open Go.RowKit Go.ChangeShapes Go.WideShapes Go.ChangeAt Go.Maps Go.Shelf
set_option linter.unusedVariables false
set_option linter.unusedSimpArgs false
set_option maxRecDepth 100000
theorem NsO.grownR {w w' : World} {base b n : Nat} {v u : Value} {l : List Nd} {xs : List Value} (h : NsO w base v l) (k : w.ownsRow b 49 9 u n xs) (hg : w.grownBy w' u.ownBlock) : NsO w' base v l :=
  ⟨own_other h.1 k (by decide) hg, fun x hx => ⟨(h.2 x hx).1, (h.2 x hx).2.1, (h.2 x hx).2.2.1.grown k (by decide) hg, (h.2 x hx).2.2.2.grown k (by decide) hg⟩⟩
theorem FoldL_few {l : List Nd} (hl : l.length ≤ 43) (ops : List Rec) : (FoldL l ops).1.length ≤ 43 := by
  unfold FoldL
  split
  · have := foldS_few l hl ops ops.length
    rwa [List.take_length] at this
  · exact Nat.zero_le _
/-- The tree of some operations. -/
def T0L (ops : List Rec) : List Nd := (FoldL newL (ops.take 30)).1
theorem done_len (t : List Nd) (l : List Rec) : ∀ m, ((l.take m).foldl doneS (t, [])).2.length ≤ m := fun m => by
  induction m with
  | zero => simp
  | succ m ih =>
    by_cases h : m < l.length
    · rw [fold_take _ _ _ Rec.no h]
      generalize (l.take m).foldl doneS (t, []) = p at *
      unfold doneS
      split
      · simp; omega
      · omega
    · rw [List.take_of_length_le (by omega)] at ih
      rw [List.take_of_length_le (by omega)]
      omega
theorem done_few {t : List Nd} (ht : t.length ≤ 43) (l : List Rec) : ∀ m, ((l.take m).foldl doneS (t, [])).1.length ≤ 43 := fun m => by
  induction m with
  | zero => simpa using ht
  | succ m ih =>
    by_cases h : m < l.length
    · rw [fold_take _ _ _ Rec.no h]
      generalize (l.take m).foldl doneS (t, []) = p at *
      unfold doneS
      split
      · exact (ApplyL_gd _ _).2
      · exact ih
    · rw [List.take_of_length_le (by omega)] at ih
      rw [List.take_of_length_le (by omega)]
      exact ih
/-- What done answers. -/
def DonV (w : World) (t0 : List Nd) (L : List Rec) (e : Ending) (w' : World) : Prop := ∃ a c T v, e = .returned (.tuple #[.slice a T.length c, v]) ∧ Tr w' a T ∧ T.map Nd.er = t0 ∧ w'.ownsRow w.heap.size 49 9 v L.length (rcells L) ∧ Below w.heap.size w w'
set_option maxHeartbeats 8000000 in
theorem done_c (b a : Option Addr) (cb cap : Nat) (ops l : List Rec) (w : World) (ho : IsOs w b ops) (hcb : ops.length ≤ cb) (hl : IsL w a l) (hn : l.length ≤ 1000) :
    Calls Try.prog 5 #[.slice b ops.length cb, .slice a l.length cap] w (DonV w (T0L ops) (l.foldl doneS (T0L ops, [])).2) := by
  obtain ⟨i0, hi, hz0, hz1, hz2⟩ := info_rec
  have hm63 := ho.1
  unfold maxLen at hm63
  have HNL := hid hl.1
  have HOS := hid (ho.take 30)
  have HL := hid hl
  have NC := hid (rNew_c w)
  obtain ⟨t0, ht0⟩ : ∃ t0, t0 = T0L ops := ⟨_, rfl⟩
  have HT0 : Hid (t0 = (FoldL newL (ops.take 30)).1) := hid ht0
  have HT43 : Hid (t0.length ≤ 43) := hid (by rw [HT0.out]; exact FoldL_few (by decide) _)
  rw [← ht0]
  obtain ⟨n, hnn⟩ : ∃ n, n = l.length := ⟨_, rfl⟩
  have HN := hid hnn
  obtain ⟨P, hP⟩ : ∃ P : Nat → List Nd × List Rec, P = fun m => (l.take m).foldl doneS (t0, []) := ⟨_, rfl⟩
  have P0 : Hid (P 0 = (t0, [])) := hid (by rw [hP]; rfl)
  have PS : Hid (∀ m, m < n → P (m + 1) = doneS (P m) (l.getD m Rec.no)) := hid (fun m hm => by rw [hP]; exact fold_take _ _ _ Rec.no (by rw [← HN.out]; exact hm))
  have PL : Hid (∀ m, (P m).2.length ≤ m) := hid (fun m => by rw [hP]; exact done_len t0 l m)
  have PF : Hid (∀ m, (P m).1.length ≤ 43) := hid (fun m => by rw [hP]; exact done_few HT43.out l m)
  have PE : Hid ((l.foldl doneS (t0, [])).2 = (P n).2) := hid (by rw [hP, HN.out]; simp only; rw [List.take_length])
  rw [PE.out]
  clear PE hP
  rw [← hnn] at hn ⊢
  clear hnn ht0 hl
  have FC : Hid (∀ (a0 : Option Addr) (c0 : Nat) (W : World), Tr W a0 newL → Below w.heap.size w W → Calls Try.prog 7 #[.slice a0 1 c0, .slice b (ops.take 30).length cb] W (FoP W (FoldL newL (ops.take 30)))) := hid (fun a0 c0 W hT hW => rFold_c a0 b c0 cb newL (ops.take 30) W hT (HOS.out.later hW) (by decide) (by rw [List.length_take]; omega))
  clear HOS
  by_cases q30 : 30 < ops.length
  · obtain ⟨bb, boff, rfl, _⟩ := ho.2.2 (by omega)
    have eK : (ops.take 30).length = 30 := by rw [List.length_take]; omega
    rw [eK] at FC
    have qI : (30 : Int) < ops.length := by omega
    have cI : (30 : Int) ≤ cb := by omega
    have cN : 30 ≤ cb := by omega
    clear ho eK
    generalize FoldL newL (ops.take 30) = FR at *
    go_enter Try.func5, Try.ntmps5
    go_upto_region 4 with (first
      | (go_at_call 7; refine FV.out.mono ?_; intro e2 w2 h2; obtain ⟨a1, c1, t, b1, d1, rfl, ht2, het2, _, hb2⟩ := h2; have T2 := hid ht2; have E2 := hid het2; have B2 := hid (B1.out.trans (hb2.mono B1.out.size)); clear ht2 het2 hb2 FV)
      | (go_at_call 14; refine NC.out.mono ?_; intro e1 w1 h1; obtain ⟨a0, c0, rfl, ht1, hb1⟩ := h1; have B1 := hid hb1; have FV := hid (FC.out a0 c0 w1 ht1 hb1); clear ht1 hb1 FC))
    clear NC
    have E3 : Hid (t.map Nd.er = t0) := hid (by rw [HT0.out]; exact E2.out)
    clear E2 HT0
    have HL2 := hid (HL.out.later B2.out)
    go_wp2
    go_loopg [8, 9, 10] n (fun gk v8 v9 v10 wr => ∃ (m : Nat) (ar : Option Addr) (cr : Nat) (L : List Nd), m + gk = n ∧ v10 = .int .i64 m ∧ v8 = .slice ar L.length cr ∧ Hid ((ar = a1 ∧ cr = c1 ∧ L = t) ∨ NsO wr w2.heap.size (.slice ar L.length cr) L) ∧ Hid (L.map Nd.er = (P m).1) ∧ Hid (wr.ownsRow w2.heap.size 49 9 v9 (P m).2.length (rcells (P m).2)) ∧ Hid (Below w2.heap.size w2 wr))
    case atStart => exact ⟨0, a1, c1, t, by omega, rfl, rfl, hid (.inl ⟨rfl, rfl, rfl⟩), hid (by rw [P0.out]; exact E3.out), hid (by rw [P0.out]; exact World.ownsRow_nil _ _ 49 9), hid (Below.refl _ _)⟩
    case round =>
      obtain ⟨m, ar, cr, L, hm2, rfl, rfl, TR, ER, OE, HB⟩ := hrel
      obtain ⟨va, vc, rfl⟩ := own_shapeR OE.out
      by_cases hlt : m < n
      · have hltI : (m : Int) < n := by omega
        have hln : m < l.length := by rw [← HN.out]; exact hlt
        obtain ⟨b', off, rfl, hc0⟩ := HL2.out.2.2 (by omega)
        have hc := (hc0 m hln).later HB.out
        clear hc0
        have hw := HL2.out.wf (i := m) hln
        have hps := PS.out m hlt
        have hpl := PL.out m
        have hpf := PF.out m
        have hLl : L.length ≤ 43 := by have := congrArg List.length ER.out; rw [List.length_map] at this; omega
        have TRT : Tr wr ar L := by
          rcases TR.out with ⟨e1, e2, e3⟩ | hN
          · rw [e1, e3]; exact T2.out.later HB.out
          · obtain ⟨a7, c7, e7, t7⟩ := hN.tr (by omega)
            simp only [Value.slice.injEq] at e7
            rw [e7.1]; exact t7
        have AC := hid (rApply_c ar cr L (l.getD m Rec.no) wr TRT (by omega) hw)
        clear TRT
        rw [ER.out] at AC
        have HPS := hid hps
        clear hw hps hpf hln
        generalize l.getD m Rec.no = x at *
        have k0 : wr.cell? ⟨b', off + m * 9, none⟩ = some (.int .u8 x.k) := hc 0 _ rfl
        have k1 : wr.cell? ⟨b', off + m * 9 + 1, none⟩ = some (.int .u32 x.fid) := hc 1 _ rfl
        have k2 : wr.cell? ⟨b', off + m * 9 + 2, none⟩ = some (.int .u32 x.dir) := hc 2 _ rfl
        have k3 : wr.cell? ⟨b', off + m * 9 + 3, none⟩ = some (.string x.nm) := hc 3 _ rfl
        have k4 : wr.cell? ⟨b', off + m * 9 + 4, none⟩ = some (.int .u32 x.to) := hc 4 _ rfl
        have k5 : wr.cell? ⟨b', off + m * 9 + 5, none⟩ = some (.string x.nm2) := hc 5 _ rfl
        have k6 : wr.cell? ⟨b', off + m * 9 + 6, none⟩ = some (.int .u16 x.md) := hc 6 _ rfl
        have k7 : wr.cell? ⟨b', off + m * 9 + 7, none⟩ = some (.string x.dt) := hc 7 _ rfl
        have HC := hid hc
        clear hc
        unfold doneS at HPS
        generalize ApplyL (P m).1 x = r at *
        obtain ⟨re, rl⟩ := r
        simp only [Rec.opV] at AC HPS
        go_upto_region 10 with (go_at_call 15; refine AC.out.mono ?_; intro e3 w3 h3; obtain ⟨v3, l3, rfl, ht3, he3, hb3⟩ := h3; (obtain ⟨a3, c3, hv3⟩ := ht3.1.shape); subst hv3; have T3 := hid (ht3.low HB.out.size); have E3' := hid he3; have B3 := hid (HB.out.trans (hb3.mono HB.out.size)); have O3 := hid (own_latR OE.out hb3); have K3 := hid hb3; clear ht3 he3 hb3)
        clear AC k0 k1 k2 k3 k4 k5 k6 k7
        by_cases q : re = 0
        · have qB : (re == 0) = true := by rw [q]; rfl
          have EP : Hid (P (m + 1) = (rl, (P m).2 ++ [x])) := hid (by rw [HPS.out, if_pos q])
          clear HPS q
          have hc := HC.out.later K3.out
          have k0 : w3.cell? ⟨b', off + m * 9, none⟩ = some (.int .u8 x.k) := hc 0 _ rfl
          have k1 : w3.cell? ⟨b', off + m * 9 + 1, none⟩ = some (.int .u32 x.fid) := hc 1 _ rfl
          have k2 : w3.cell? ⟨b', off + m * 9 + 2, none⟩ = some (.int .u32 x.dir) := hc 2 _ rfl
          have k3 : w3.cell? ⟨b', off + m * 9 + 3, none⟩ = some (.string x.nm) := hc 3 _ rfl
          have k4 : w3.cell? ⟨b', off + m * 9 + 4, none⟩ = some (.int .u32 x.to) := hc 4 _ rfl
          have k5 : w3.cell? ⟨b', off + m * 9 + 5, none⟩ = some (.string x.nm2) := hc 5 _ rfl
          have k6 : w3.cell? ⟨b', off + m * 9 + 6, none⟩ = some (.int .u16 x.md) := hc 6 _ rfl
          have k7 : w3.cell? ⟨b', off + m * 9 + 7, none⟩ = some (.string x.dt) := hc 7 _ rfl
          have k8 : w3.cell? ⟨b', off + m * 9 + 8, none⟩ = some (.int .u64 x.sn) := hc 8 _ rfl
          clear hc
          have b4 : Below w3.heap.size w3 (w3.alloc (.cells x.cells.toArray 49)) := (Below.refl _ _).alloc (Nat.le_refl _) _
          have O4 := hid (own_latR O3.out b4)
          have C4 := hid (B3.out.trans (b4.mono B3.out.size))
          have N4 := hid (heap_alloc_new w3 (.cells x.cells.toArray 49))
          have T4 := hid (T3.out.later b4)
          clear b4
          go_wp2_with (at_builtin; refine wpList_append_own _ rfl _ _ 23 rfl w2.heap.size 49 i0 Rec.no.val 9 88 Try.underlying23 hi hz0 hz1 hz2 (by rfl) (by decide) _ _ _ rfl O4.out ⟨w3.heap.size, 0, none⟩ 1 1 x.cells rfl rfl (rec_news N4.out) (rec_one x) (by unfold maxLen; omega) (by omega) C4.out.size ?_; intro v9 w9 hown9 hgrow9 hnil9)
          have HB9 := hid (below_grownR C4.out O4.out (Nat.le_refl _) C4.out.size hgrow9)
          have HT9 : Hid (NsO w9 w2.heap.size (.slice a3 l3.length c3) l3) := hid (T4.out.grownR O4.out hgrow9)
          have HO9 : Hid (w9.ownsRow w2.heap.size 49 9 v9 (P (m + 1)).2.length (rcells (P (m + 1)).2)) := hid (by
            rw [EP.out]
            simp only [List.length_append, List.length_cons, List.length_nil, rcells_snoc]
            exact hown9)
          obtain ⟨a9, c9, rfl⟩ := own_shapeR hown9
          clear hown9 hgrow9 hnil9
          go_roundg (gk - 1)
          case measure => omega
          case rel => exact ⟨m + 1, a3, c3, l3, by omega, by go_num, rfl, hid (.inr HT9.out), hid (by rw [EP.out]; exact E3'.out), HO9, HB9⟩
        · have qB : (re == 0) = false := beq_eq_false_iff_ne.2 q
          have EP : Hid (P (m + 1) = P m) := hid (by rw [HPS.out, if_neg q])
          clear HPS q
          have TR3 : Hid ((ar = a1 ∧ cr = c1 ∧ L = t) ∨ NsO w3 w2.heap.size (.slice ar L.length cr) L) := hid (TR.out.imp id (fun h => h.later K3.out))
          go_wp2
          go_roundg (gk - 1)
          case measure => omega
          case rel => exact ⟨m + 1, ar, cr, L, by omega, by go_num, rfl, TR3, hid (by rw [EP.out]; exact ER.out), hid (by rw [EP.out]; exact O3.out), B3⟩
      · have em : m = n := by omega
        subst em
        have hge : ¬ (m : Int) < m := by omega
        go_wp2
        refine bodyPost_ret (v := .tuple #[.slice a1 t.length c1, .slice va (P m).2.length vc]) (by simp [results, Try.results5, go_sem]) rfl ⟨a1, c1, t, _, rfl, T2.out.later HB.out, E3.out, own_baseR OE.out B2.out.size, B2.out.trans (HB.out.mono B2.out.size)⟩
  · have eK : (ops.take 30).length = ops.length := by rw [List.length_take]; omega
    rw [eK] at FC
    have qI : ¬ (30 : Int) < ops.length := by omega
    clear ho eK
    generalize FoldL newL (ops.take 30) = FR at *
    go_enter Try.func5, Try.ntmps5
    go_upto_region 4 with (first
      | (go_at_call 7; refine FV.out.mono ?_; intro e2 w2 h2; obtain ⟨a1, c1, t, b1, d1, rfl, ht2, het2, _, hb2⟩ := h2; have T2 := hid ht2; have E2 := hid het2; have B2 := hid (B1.out.trans (hb2.mono B1.out.size)); clear ht2 het2 hb2 FV)
      | (go_at_call 14; refine NC.out.mono ?_; intro e1 w1 h1; obtain ⟨a0, c0, rfl, ht1, hb1⟩ := h1; have B1 := hid hb1; have FV := hid (FC.out a0 c0 w1 ht1 hb1); clear ht1 hb1 FC))
    clear NC
    have E3 : Hid (t.map Nd.er = t0) := hid (by rw [HT0.out]; exact E2.out)
    clear E2 HT0
    have HL2 := hid (HL.out.later B2.out)
    go_wp2
    go_loopg [8, 9, 10] n (fun gk v8 v9 v10 wr => ∃ (m : Nat) (ar : Option Addr) (cr : Nat) (L : List Nd), m + gk = n ∧ v10 = .int .i64 m ∧ v8 = .slice ar L.length cr ∧ Hid ((ar = a1 ∧ cr = c1 ∧ L = t) ∨ NsO wr w2.heap.size (.slice ar L.length cr) L) ∧ Hid (L.map Nd.er = (P m).1) ∧ Hid (wr.ownsRow w2.heap.size 49 9 v9 (P m).2.length (rcells (P m).2)) ∧ Hid (Below w2.heap.size w2 wr))
    case atStart => exact ⟨0, a1, c1, t, by omega, rfl, rfl, hid (.inl ⟨rfl, rfl, rfl⟩), hid (by rw [P0.out]; exact E3.out), hid (by rw [P0.out]; exact World.ownsRow_nil _ _ 49 9), hid (Below.refl _ _)⟩
    case round =>
      obtain ⟨m, ar, cr, L, hm2, rfl, rfl, TR, ER, OE, HB⟩ := hrel
      obtain ⟨va, vc, rfl⟩ := own_shapeR OE.out
      by_cases hlt : m < n
      · have hltI : (m : Int) < n := by omega
        have hln : m < l.length := by rw [← HN.out]; exact hlt
        obtain ⟨b', off, rfl, hc0⟩ := HL2.out.2.2 (by omega)
        have hc := (hc0 m hln).later HB.out
        clear hc0
        have hw := HL2.out.wf (i := m) hln
        have hps := PS.out m hlt
        have hpl := PL.out m
        have hpf := PF.out m
        have hLl : L.length ≤ 43 := by have := congrArg List.length ER.out; rw [List.length_map] at this; omega
        have TRT : Tr wr ar L := by
          rcases TR.out with ⟨e1, e2, e3⟩ | hN
          · rw [e1, e3]; exact T2.out.later HB.out
          · obtain ⟨a7, c7, e7, t7⟩ := hN.tr (by omega)
            simp only [Value.slice.injEq] at e7
            rw [e7.1]; exact t7
        have AC := hid (rApply_c ar cr L (l.getD m Rec.no) wr TRT (by omega) hw)
        clear TRT
        rw [ER.out] at AC
        have HPS := hid hps
        clear hw hps hpf hln
        generalize l.getD m Rec.no = x at *
        have k0 : wr.cell? ⟨b', off + m * 9, none⟩ = some (.int .u8 x.k) := hc 0 _ rfl
        have k1 : wr.cell? ⟨b', off + m * 9 + 1, none⟩ = some (.int .u32 x.fid) := hc 1 _ rfl
        have k2 : wr.cell? ⟨b', off + m * 9 + 2, none⟩ = some (.int .u32 x.dir) := hc 2 _ rfl
        have k3 : wr.cell? ⟨b', off + m * 9 + 3, none⟩ = some (.string x.nm) := hc 3 _ rfl
        have k4 : wr.cell? ⟨b', off + m * 9 + 4, none⟩ = some (.int .u32 x.to) := hc 4 _ rfl
        have k5 : wr.cell? ⟨b', off + m * 9 + 5, none⟩ = some (.string x.nm2) := hc 5 _ rfl
        have k6 : wr.cell? ⟨b', off + m * 9 + 6, none⟩ = some (.int .u16 x.md) := hc 6 _ rfl
        have k7 : wr.cell? ⟨b', off + m * 9 + 7, none⟩ = some (.string x.dt) := hc 7 _ rfl
        have HC := hid hc
        clear hc
        unfold doneS at HPS
        generalize ApplyL (P m).1 x = r at *
        obtain ⟨re, rl⟩ := r
        simp only [Rec.opV] at AC HPS
        go_upto_region 10 with (go_at_call 15; refine AC.out.mono ?_; intro e3 w3 h3; obtain ⟨v3, l3, rfl, ht3, he3, hb3⟩ := h3; (obtain ⟨a3, c3, hv3⟩ := ht3.1.shape); subst hv3; have T3 := hid (ht3.low HB.out.size); have E3' := hid he3; have B3 := hid (HB.out.trans (hb3.mono HB.out.size)); have O3 := hid (own_latR OE.out hb3); have K3 := hid hb3; clear ht3 he3 hb3)
        clear AC k0 k1 k2 k3 k4 k5 k6 k7
        by_cases q : re = 0
        · have qB : (re == 0) = true := by rw [q]; rfl
          have EP : Hid (P (m + 1) = (rl, (P m).2 ++ [x])) := hid (by rw [HPS.out, if_pos q])
          clear HPS q
          have hc := HC.out.later K3.out
          have k0 : w3.cell? ⟨b', off + m * 9, none⟩ = some (.int .u8 x.k) := hc 0 _ rfl
          have k1 : w3.cell? ⟨b', off + m * 9 + 1, none⟩ = some (.int .u32 x.fid) := hc 1 _ rfl
          have k2 : w3.cell? ⟨b', off + m * 9 + 2, none⟩ = some (.int .u32 x.dir) := hc 2 _ rfl
          have k3 : w3.cell? ⟨b', off + m * 9 + 3, none⟩ = some (.string x.nm) := hc 3 _ rfl
          have k4 : w3.cell? ⟨b', off + m * 9 + 4, none⟩ = some (.int .u32 x.to) := hc 4 _ rfl
          have k5 : w3.cell? ⟨b', off + m * 9 + 5, none⟩ = some (.string x.nm2) := hc 5 _ rfl
          have k6 : w3.cell? ⟨b', off + m * 9 + 6, none⟩ = some (.int .u16 x.md) := hc 6 _ rfl
          have k7 : w3.cell? ⟨b', off + m * 9 + 7, none⟩ = some (.string x.dt) := hc 7 _ rfl
          have k8 : w3.cell? ⟨b', off + m * 9 + 8, none⟩ = some (.int .u64 x.sn) := hc 8 _ rfl
          clear hc
          have b4 : Below w3.heap.size w3 (w3.alloc (.cells x.cells.toArray 49)) := (Below.refl _ _).alloc (Nat.le_refl _) _
          have O4 := hid (own_latR O3.out b4)
          have C4 := hid (B3.out.trans (b4.mono B3.out.size))
          have N4 := hid (heap_alloc_new w3 (.cells x.cells.toArray 49))
          have T4 := hid (T3.out.later b4)
          clear b4
          go_wp2_with (at_builtin; refine wpList_append_own _ rfl _ _ 23 rfl w2.heap.size 49 i0 Rec.no.val 9 88 Try.underlying23 hi hz0 hz1 hz2 (by rfl) (by decide) _ _ _ rfl O4.out ⟨w3.heap.size, 0, none⟩ 1 1 x.cells rfl rfl (rec_news N4.out) (rec_one x) (by unfold maxLen; omega) (by omega) C4.out.size ?_; intro v9 w9 hown9 hgrow9 hnil9)
          have HB9 := hid (below_grownR C4.out O4.out (Nat.le_refl _) C4.out.size hgrow9)
          have HT9 : Hid (NsO w9 w2.heap.size (.slice a3 l3.length c3) l3) := hid (T4.out.grownR O4.out hgrow9)
          have HO9 : Hid (w9.ownsRow w2.heap.size 49 9 v9 (P (m + 1)).2.length (rcells (P (m + 1)).2)) := hid (by
            rw [EP.out]
            simp only [List.length_append, List.length_cons, List.length_nil, rcells_snoc]
            exact hown9)
          obtain ⟨a9, c9, rfl⟩ := own_shapeR hown9
          clear hown9 hgrow9 hnil9
          go_roundg (gk - 1)
          case measure => omega
          case rel => exact ⟨m + 1, a3, c3, l3, by omega, by go_num, rfl, hid (.inr HT9.out), hid (by rw [EP.out]; exact E3'.out), HO9, HB9⟩
        · have qB : (re == 0) = false := beq_eq_false_iff_ne.2 q
          have EP : Hid (P (m + 1) = P m) := hid (by rw [HPS.out, if_neg q])
          clear HPS q
          have TR3 : Hid ((ar = a1 ∧ cr = c1 ∧ L = t) ∨ NsO w3 w2.heap.size (.slice ar L.length cr) L) := hid (TR.out.imp id (fun h => h.later K3.out))
          go_wp2
          go_roundg (gk - 1)
          case measure => omega
          case rel => exact ⟨m + 1, ar, cr, L, by omega, by go_num, rfl, TR3, hid (by rw [EP.out]; exact ER.out), hid (by rw [EP.out]; exact O3.out), B3⟩
      · have em : m = n := by omega
        subst em
        have hge : ¬ (m : Int) < m := by omega
        go_wp2
        refine bodyPost_ret (v := .tuple #[.slice a1 t.length c1, .slice va (P m).2.length vc]) (by simp [results, Try.results5, go_sem]) rfl ⟨a1, c1, t, _, rfl, T2.out.later HB.out, E3.out, own_baseR OE.out B2.out.size, B2.out.trans (HB.out.mono B2.out.size)⟩
end Go.Proofs.Ytihgiemgcmpmmaa
namespace Go.Proofs.Ytihgiemgcmpmmaa
open Go.RowKit Go.ChangeShapes Go.WideShapes Go.ChangeAt Go.Maps Go.Shelf
set_option linter.unusedVariables false
set_option linter.unusedSimpArgs false
theorem isOs_of {H : Type} {enc : TypeId × Value → H} {W : World} {t : TypeId} {a : Option Addr} {len cap : Nat} {d : DataW H} {p : List MemPlace} (ht : Try.prog.underlying t = some (.slice 46))
    (h : DataW.Trod enc Try.prog W 0 (fun _ => true) true t (.slice a len cap) d p) : ∃ l : List Rec, l.length = len ∧ IsOs W a l ∧ len ≤ cap := by
  obtain ⟨fuel, hf⟩ := h
  have hct : Try.prog.cellsOf 46 = 8 := by kernel_rfl
  rcases DataW.trod_slice ht hf with ⟨hcs, _⟩ | ⟨x, l, c, elems, rest, n, _, hcs, _, hb, hl, hm, hlen, hel, _⟩
  · simp [Value.cells] at hcs
    obtain ⟨rfl, rfl, rfl⟩ := hcs
    exact ⟨[], rfl, ⟨Nat.zero_le _, (fun x hx => by cases hx), (fun h => absurd h (by simp))⟩, by omega⟩
  · simp [Value.cells] at hcs
    obtain ⟨rfl, rfl, rfl⟩ := hcs
    rw [hct] at hel
    have each : ∀ i, i < len → ∃ q : Rec, (∀ j, j < 8 → W.cell? ((x.add (i * 8)).add j) = (q.ops)[j]?) ∧ q.Wf := by
      intro i hi
      have h1 := hel i hi
      have h2 : elems[i]? = some elems[i] := List.getElem?_eq_getElem (by omega)
      rw [h2, Option.bind_eq_some_iff] at h1
      obtain ⟨cs, hc, hy⟩ := h1
      obtain ⟨q, hq, hw, _⟩ := trod_op hy
      obtain ⟨_, hl6, hg⟩ := World.cells?_some hc
      refine ⟨q, fun j hj => ?_, hw⟩
      rw [hg j hj, hq]
    obtain ⟨f, hf'⟩ : ∃ f : Nat → Rec, ∀ i, i < len → (∀ j, j < 8 → W.cell? ((x.add (i * 8)).add j) = ((f i).ops)[j]?) ∧ (f i).Wf := by
      classical
      refine ⟨fun i => if h : i < len then (each i h).choose else Rec.no, fun i hi => ?_⟩
      simp only [hi, dif_pos]
      exact (each i hi).choose_spec
    refine ⟨(List.range len).map f, by simp, ⟨by simp; omega, fun q hq => ?_, fun hp => ?_⟩, by omega⟩
    · obtain ⟨i, hi, rfl⟩ := List.mem_map.1 hq
      exact (hf' i (List.mem_range.1 hi)).2
    · rw [List.length_map, List.length_range] at hp
      obtain ⟨b, off, spot⟩ := x
      have hc0 := (hf' 0 hp).1 0 (by omega)
      have hspot : spot = none := by
        have e0 : ((f 0).ops)[0]? = some (.int .u8 (f 0).k) := rfl
        rw [e0] at hc0
        simpa [Addr.add] using World.cell?_spot hc0
      subst hspot
      refine ⟨b, off, rfl, fun i hi j v hv => ?_⟩
      rw [List.length_map, List.length_range] at hi
      have hadd : ∀ j, ((⟨b, off, none⟩ : Addr).add (i * 8)).add j = ⟨b, off + i * 8 + j, none⟩ := fun j => by unfold Addr.add; split <;> split <;> simp_all <;> omega
      have key := (hf' i hi).1
      have g : ((List.range len).map f).getD i Rec.no = f i := by simp [List.getD, hi]
      rw [g] at hv
      have hj : j < 8 := (List.getElem?_eq_some_iff.1 hv).1
      have := key j hj
      rw [hadd] at this
      rw [this]; exact hv
end Go.Proofs.Ytihgiemgcmpmmaa
namespace Go.Proofs.Ytihgiemgcmpmmaa
open Go.RowKit Go.ChangeShapes Go.WideShapes Go.ChangeAt Go.Maps Go.Shelf
set_option linter.unusedVariables false
set_option linter.unusedSimpArgs false
theorem ocells_len (l : List Rec) : (ocells l).length = l.length * 8 := by
  unfold ocells
  induction l with
  | nil => rfl
  | cons p ps ih => rw [List.flatMap_cons, List.length_append, ih, List.length_cons]; simp [Rec.ops]; omega
theorem ocells_get (l : List Rec) (i : Nat) (h : i < l.length) (j : Nat) (hj : j < 8) : (ocells l)[i * 8 + j]? = ((l.getD i Rec.no).ops)[j]? := by
  unfold ocells
  induction l generalizing i with
  | nil => simp at h
  | cons p ps ih =>
    rw [List.flatMap_cons]
    rcases i with _ | i
    · rw [Nat.zero_mul, Nat.zero_add, List.getElem?_append_left (by simpa [Rec.ops] using hj)]; rfl
    · rw [List.getElem?_append_right (by simp [Rec.ops]; omega)]
      have : (i + 1) * 8 + j - (p.ops).length = i * 8 + j := by simp [Rec.ops]; omega
      rw [this, ih i (by simpa using h)]; simp [List.getD]
theorem isOs_own {w : World} {base : Nat} {v : Value} {l : List Rec} (h : w.ownsRow base 46 8 v l.length (ocells l)) (hw : ∀ x ∈ l, x.Wf) : ∃ a cap, v = .slice a l.length cap ∧ IsOs w a l := by
  rcases h.2 with ⟨rfl, hn⟩ | ⟨g, cap, cur, rfl, hb, hg, hn, hc, hs, ht⟩
  · exact ⟨none, 0, by rw [hn], ⟨by omega, hw, fun hp => absurd hp (by omega)⟩⟩
  · refine ⟨some ⟨g, 0, none⟩, cap, rfl, ⟨by omega, hw, fun hp => ⟨g, 0, rfl, fun i hi j v hv => ?_⟩⟩⟩
    have hj : j < 8 := (List.getElem?_eq_some_iff.1 hv).1
    rw [Nat.zero_add, cell_of_row w g (i * 8 + j) cur _ _ hg]
    rw [← ocells_get l i hi j hj, ← ht, List.getElem?_take, if_pos (by omega)] at hv
    rw [← Array.getElem?_toList]; exact hv
theorem new_rt : Rt newL := rightD_rt.1 (by decide)
theorem new_er : Er newL := fun x hx => by
  rw [newL, List.mem_singleton] at hx
  subst hx
  rfl
theorem foldS_er {p : List Nd × List Int} {o : Rec} (E : Er p.1) : Er (foldS p o).1 := by
  unfold foldS
  split
  · rename_i c0
    obtain ⟨R, _, e⟩ := ApplyL_ok c0
    rw [e] at c0 ⊢
    exact E.apply R c0
  · exact E
theorem fold_er : ∀ (ops : List Rec) (p : List Nd × List Int), Er p.1 → Er (ops.foldl foldS p).1
  | [], p, h => h
  | o :: t, p, h => fold_er t _ (foldS_er h)
theorem T0_rt {ops : List Rec} (hw : ∀ o ∈ ops, o.Wf) : Rt (T0L ops) := by
  unfold T0L FoldL
  rw [if_pos (rightD_rt.2 new_rt)]
  exact fold_rt _ _ new_rt (fun o ho => hw o (List.mem_of_mem_take ho))
theorem T0_er (ops : List Rec) : Er (T0L ops) := by
  unfold T0L FoldL
  rw [if_pos (rightD_rt.2 new_rt)]
  exact fold_er _ _ new_er
theorem done_all (t : List Nd) : ∀ (l : List Rec) (p : List Nd × List Rec), runL t p.2 = some p.1 → runL t (l.foldl doneS p).2 = some (l.foldl doneS p).1
  | [], p, h => h
  | o :: l, p, h => done_all t l _ (done_run h)
theorem done_sub : ∀ (l : List Rec) (p : List Nd × List Rec), ∀ o ∈ (l.foldl doneS p).2, o ∈ p.2 ∨ o ∈ l
  | [], p, o, h => .inl h
  | x :: l, p, o, h => by
    rcases done_sub l _ o h with h1 | h1
    · unfold doneS at h1
      split at h1
      · rcases List.mem_append.1 h1 with h2 | h2
        · exact .inl h2
        · rw [List.mem_singleton] at h2
          rw [h2]
          exact .inr (List.mem_cons_self ..)
      · exact .inl h1
    · exact .inr (List.mem_cons_of_mem _ h1)
theorem done_le (t : List Nd) (l : List Rec) : (l.foldl doneS (t, [])).2.length ≤ l.length := by
  have := done_len t l l.length
  rwa [List.take_length] at this
/-- What is to be known of a log of what can be done. -/
theorem log_all {ops l : List Rec} (ho : ∀ o ∈ ops, o.Wf) (hl : ∀ o ∈ l, o.Wf) : ∃ (L : List Rec) (r : List Nd), L = (l.foldl doneS (T0L ops, [])).2 ∧ runL (T0L ops) L = some r ∧ Rt (T0L ops) ∧ Er (T0L ops) ∧ (∀ o ∈ L, o.Wf) ∧ L.length ≤ l.length := by
  refine ⟨_, _, rfl, done_all (T0L ops) l (T0L ops, []) rfl, T0_rt ho, T0_er ops, fun o h => ?_, done_le _ l⟩
  rcases done_sub l _ o h with h1 | h1
  · cases h1
  · exact hl o h1
end Go.Proofs.Ytihgiemgcmpmmaa
