/-
  A log of the operations that can be done, told by their places: plain facts.
-/
import Derived.Test.YtihgiemgcmpmmaaGreatShAu
import Derived.Test.YtihgiemgcmpmmaaGreatShAv
import Derived.Test.YtihgiemgcmpmmaaGreatShBw
import Derived.Test.YtihgiemgcmpmmaaGreatShBx
namespace Go.Proofs.YtihgiemgcmpmmaaGreat
open Go.RowKit Go.ChangeShapes Go.WideShapes Go.ChangeAt Go.Maps Go.Shelf
set_option linter.unusedVariables false
set_option linter.unusedSimpArgs false
def snR (o : Rec) (i : Nat) : Rec := ⟨o.k, o.fid, o.dir, o.nm, o.to, o.nm2, o.md, o.dt, (i : Int)⟩
def shP (ops : List Rec) : Nat → List Nd × List Rec
 | 0 => (newL, [])
 | m + 1 => doneS (shP ops m) (snR (ops.getD m Rec.no) m)
theorem snR_wf {o : Rec} (h : o.Wf) {i : Nat} (hi : i ≤ 1000) : (snR o i).Wf := by
 obtain ⟨h1, h2, h3, h4, h5, h6, h7, h8, h9⟩ := h
 exact ⟨h1, h2, h3, h4, h5, by show (0 : Int) ≤ (i : Int) ∧ (i : Int) < 18446744073709551616; omega, h7, h8, h9⟩
theorem shP_run (ops : List Rec) : ∀ m, runL newL (shP ops m).2 = some (shP ops m).1
 | 0 => rfl
 | m + 1 => done_run (shP_run ops m)
theorem shP_wf {ops : List Rec} (hw : ∀ x ∈ ops, x.Wf) : ∀ m, m ≤ ops.length → m ≤ 1000 → ∀ x ∈ (shP ops m).2, x.Wf
 | 0, _, _ => fun x hx => by cases hx
 | m + 1, h1, h2 => fun x hx => by
   have ih := shP_wf hw m (by omega) (by omega)
   unfold shP doneS at hx
   split at hx
   · rcases List.mem_append.1 hx with h | h
     · exact ih x h
     · rw [List.mem_singleton] at h
       rw [h]
       exact snR_wf (hw _ (getD_mem _ _ (by omega))) (by omega)
   · exact ih x hx
theorem run_right : ∀ (L : List Rec) (l r : List Nd), runL l L = some r → ∀ x ∈ L, rightF x = true
 | [], l, r, h => fun x hx => by cases hx
 | y :: t, l, r, h => fun x hx => by
   unfold runL at h
   split at h
   · rename_i c0
     rcases List.mem_cons.1 hx with e | e
     · rw [e]; exact (ApplyL_ok c0).2.1
     · exact run_right t _ r h x e
   · cases h
theorem recsOk_of {l : List Rec} (h1 : l.length ≤ 24) (h2 : ∀ x ∈ l, rightF x = true) : recsOk l = true := by
 unfold recsOk
 simp only [Bool.and_eq_true, decide_eq_true_eq, Bool.not_eq_true', List.any_eq_false]
 refine ⟨h1, fun x hx => ?_⟩
 unfold wrongF
 simp [h2 x hx]
theorem sh_all {ops : List Rec} (hw : ∀ x ∈ ops, x.Wf) (m : Nat) (h1 : m ≤ ops.length) (h2 : m ≤ 1000) : ∃ r L, shP ops m = (r, L) ∧ (∀ x ∈ L, x.Wf) ∧ (∀ x ∈ optF L, x.Wf) ∧ r.length ≤ 40 ∧ (optF L).length ≤ L.length ∧ FoldL newL (optF L) = (r, List.replicate (optF L).length 0) ∧ (L.length ≤ 24 → recsOk (optF L) = true) := by
 have hr := shP_run ops m
 have hL := shP_wf hw m h1 h2
 generalize shP ops m = p at *
 obtain ⟨r, L⟩ := p
 simp only at hr hL
 have hS := run_opt new_er hL hr
 refine ⟨r, L, rfl, hL, opt_wf hL, ?_, opt_len L, run_Fold new_rt hS, fun q => recsOk_of (by have := opt_len L; omega) (run_right _ _ _ hS)⟩
 have := fold_rt L (newL, []) new_rt hL
 rw [run_fold L _ r [] hr] at this
 exact this.few
end Go.Proofs.YtihgiemgcmpmmaaGreat
