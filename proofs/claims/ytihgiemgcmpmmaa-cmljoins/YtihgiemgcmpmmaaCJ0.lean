/-
  One log behind another; a log's first part made shorter: what is left can be done, and makes the same.
-/
import Derived.Test.YtihgiemgcmpmmaaGC
import Derived.Laws.AppendOwnNone
namespace Go.Proofs.Ytihgiemgcmpmmaa
open Go.RowKit Go.ChangeShapes Go.WideShapes Go.ChangeAt Go.Maps Go.Shelf
set_option linter.unusedVariables false
set_option linter.unusedSimpArgs false
set_option maxRecDepth 100000
theorem wpList_wantedR {P : Program} {ops : Array Oper} {rest : List Oper} {o : Oper} {a : Act} {w : World} {Q : Exit → Act → World → Prop} (hw : Region.wanted o (yielded ops a.tmps) = true)
    (h : ∀ K : Act → World → Prop, (∀ a w, wpList P ops Q rest a w → K a w) → o.wp P a w K Q) : wpList P ops Q (o :: rest) a w :=
  wpList_step fun K hK => by rw [if_pos hw]; exact h K hK
theorem grown_reflR (w : World) (row : Option Nat) : w.grownBy w row := ⟨rfl, rfl, rfl, Nat.le_refl _, fun _ _ _ => rfl⟩
theorem isL_newsO {w : World} {ad : Addr} {l : List Rec} (h : IsL w (some ad) l) : ∀ j u, (rcells l)[j]? = some u → w.cell? (ad.add j) = some u := fun j u hu => by
  have hj : j < l.length * 9 := by rw [← rcells_len]; exact (List.getElem?_eq_some_iff.1 hu).1
  obtain ⟨b, off, e, _⟩ := h.2.2 (by omega)
  cases e
  exact isL_news h j u hu
/-- 'append(v, u...)' of logs, u nil or not, behind a test or not. -/
theorem wpList_appendL (w : World) {ops : Array Oper} {rest : List Oper} {o : Oper} {a : Act} {Q : Exit → Act → World → Prop} (hw : Region.wanted o (yielded ops a.tmps) = true) (s x : Operand)
    (ho : o.op = .call { callee := .builtin .append, args := #[s, x], argTypes := #[23, 23] }) (base : Nat) (v : Value) (n : Nat) (l : List Rec) (hs : a.eval s = v) (hown : w.ownsRow base 49 9 v n (rcells l))
    (ua : Option Addr) (m uc : Nat) (k : List Rec) (hx : a.eval x = .slice ua m uc) (hm : m = k.length) (hu : IsL w ua k) (hun : ua = none → uc = 0) (h63 : n + m ≤ 100000) (hbase : base ≤ w.heap.size)
    (h : ∀ v' w', w'.ownsRow base 49 9 v' (n + m) (rcells (l ++ k)) → w.grownBy w' v.ownBlock → wpList Try.prog ops Q rest (a.put o.dst v') w') : wpList Try.prog ops Q (o :: rest) a w := by
  obtain ⟨i0, hi, hz0, hz1, hz2⟩ := info_rec
  have hrc : rcells (l ++ k) = rcells l ++ rcells k := by unfold rcells; rw [List.flatMap_append]
  refine wpList_wantedR hw fun K hK => ?_
  cases ua with
  | none =>
    obtain rfl := hun rfl
    have hk0 : k = [] := by
      cases k with
      | nil => rfl
      | cons y ys => obtain ⟨b, off, e, _⟩ := hu.2.2 (by simp); cases e
    subst hk0
    simp only [List.length_nil] at hm
    subst hm
    have hrun := run_append_owned_none (P := Try.prog) (w := w) base 23 o.type 49 i0 9 Try.underlying23 hi v n (rcells l) hown
    unfold Oper.wp
    simp [execOp, ho, resolve, invoke, builtin, hs, hx, hrun, Result.andThen]
    exact hK _ _ (h v w (by simpa using hown) (grown_reflR _ _))
  | some ad =>
    refine wp_append_own w s x 23 ho base 49 i0 Rec.no.val 9 88 Try.underlying23 hi hz0 hz1 hz2 (by rfl) (by decide) v n (rcells l) hs hown ad m uc (rcells k) hx (by rw [rcells_len, hm]) (isL_newsO hu) (rcells_one _) (by unfold maxLen; omega) (by omega) hbase ?_
    intro v' w' h2 h3 _
    exact hK _ _ (h v' w' (by rw [hrc]; exact h2) h3)
theorem cut_drop (n : Int) (l : List Rec) : cutF n l ++ dropF n l = l := by
  have h1 : cutF n l = cutF (n.toNat : Int) l := by
    unfold cutF
    congr 1
    funext i
    by_cases q : n ≤ (i : Int)
    · rw [decide_eq_true q, decide_eq_true (by omega)]
    · rw [decide_eq_false q, decide_eq_false (by omega)]
  have h2 : dropF n l = dropF (n.toNat : Int) l := by
    unfold dropF
    congr 1
    funext i
    by_cases q : (i : Int) < n
    · rw [decide_eq_true q, decide_eq_true (by omega)]
    · rw [decide_eq_false q, decide_eq_false (by omega)]
  rw [h1, h2, cutF_eq, dropF_eq, List.take_append_drop]
theorem cut_wf {l : List Rec} (h : ∀ x ∈ l, x.Wf) (n : Int) : (∀ x ∈ cutF n l, x.Wf) ∧ ∀ x ∈ dropF n l, x.Wf :=
  ⟨keep_wf h l.length (Nat.le_refl _), keep_wf h l.length (Nat.le_refl _)⟩
theorem below_oneJ (w : World) (o : Obj) : Below w.heap.size w (w.alloc o) := (Below.refl _ _).alloc (Nat.le_refl _) _
/-- A log whose first part was made shorter can be done, and makes the same; made shorter once more, too. -/
theorem run_join {L : List Rec} {l r : List Nd} (R : Rt l) (E : Er l) (hw : ∀ o ∈ L, o.Wf) (h : runL l L = some r) (n : Int) : runL l (optF (optF (cutF n L) ++ dropF n L)) = some r := by
  obtain ⟨hc, hd⟩ := cut_wf hw n
  refine run_opt E (fun o ho => ?_) ?_
  · rcases List.mem_append.1 ho with h1 | h1
    · exact opt_wf hc o h1
    · exact hd o h1
  · rw [← cut_drop n L, run_app] at h
    rw [run_app]
    cases hA : runL l (cutF n L) with
    | none => rw [hA] at h; cases h
    | some s =>
      rw [hA] at h
      rw [run_opt E hc hA]
      exact h
end Go.Proofs.Ytihgiemgcmpmmaa
