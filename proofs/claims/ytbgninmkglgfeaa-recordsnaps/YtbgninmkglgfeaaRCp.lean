/-
  Bytes that are cut, or with more behind: plain laws of operations' and records' bytes.
-/
import Derived.Test.YtbgninmkglgfeaaRDr
namespace Go.Proofs.Ytbgninmkglgfeaa
open Go.RowKit Go.ChangeShapes Go.WideShapes Go.ChangeAt Go.Maps Go.Shelf
set_option linter.unusedVariables false
set_option linter.unusedSimpArgs false
theorem numP_more {s : Nat} {z t u : List Int} {m : Int} (h : numP s z = some (m, t)) : numP s (z ++ u) = some (m, t ++ u) := by
  unfold numP at h ⊢
  by_cases q : s ≤ z.length
  · rw [if_pos q] at h
    simp only [Option.some.injEq, Prod.mk.injEq] at h
    rw [if_pos (by rw [List.length_append]; omega), List.take_append_of_le_length q, List.drop_append_of_le_length q, h.1, h.2]
  · rw [if_neg q] at h; cases h
theorem shortP_more {z t u ys : List Int} (h : shortP z = some (ys, t)) : shortP (z ++ u) = some (ys, t ++ u) := by
  unfold shortP at h ⊢
  rcases hn : numP 1 z with _ | ⟨m, v⟩
  · rw [hn] at h; cases h
  rw [hn] at h
  rw [numP_more hn]
  simp only at h ⊢
  by_cases q : m.toNat ≤ v.length
  · rw [if_pos q] at h
    simp only [Option.some.injEq, Prod.mk.injEq] at h
    rw [if_pos (by rw [List.length_append]; omega), List.take_append_of_le_length q, List.drop_append_of_le_length q, h.1, h.2]
  · rw [if_neg q] at h; cases h
theorem opP_more {z t u : List Int} {x : Rec} (hp : opP z = some (x, t)) : opP (z ++ u) = some (x, t ++ u) := by
  unfold opP at hp ⊢
  rcases h0 : numP 1 z with _ | ⟨k, z1⟩
  · rw [h0] at hp; cases hp
  rw [h0] at hp; rw [numP_more h0]; simp only at hp ⊢
  rcases h1 : numP 4 z1 with _ | ⟨fid, z2⟩
  · rw [h1] at hp; cases hp
  rw [h1] at hp; rw [numP_more h1]; simp only at hp ⊢
  rcases h2 : numP 4 z2 with _ | ⟨dir, z3⟩
  · rw [h2] at hp; cases hp
  rw [h2] at hp; rw [numP_more h2]; simp only at hp ⊢
  rcases h3 : shortP z3 with _ | ⟨nm, z4⟩
  · rw [h3] at hp; cases hp
  rw [h3] at hp; rw [shortP_more h3]; simp only at hp ⊢
  rcases h4 : numP 4 z4 with _ | ⟨tt, z5⟩
  · rw [h4] at hp; cases hp
  rw [h4] at hp; rw [numP_more h4]; simp only at hp ⊢
  rcases h5 : shortP z5 with _ | ⟨nm2, z6⟩
  · rw [h5] at hp; cases hp
  rw [h5] at hp; rw [shortP_more h5]; simp only at hp ⊢
  rcases h6 : numP 2 z6 with _ | ⟨md, z7⟩
  · rw [h6] at hp; cases hp
  rw [h6] at hp; rw [numP_more h6]; simp only at hp ⊢
  rcases h7 : shortP z7 with _ | ⟨dt, z8⟩
  · rw [h7] at hp; cases hp
  rw [h7] at hp; rw [shortP_more h7]; simp only at hp ⊢
  cases hr : rightF ⟨k, fid, dir, Fr.tx nm, tt, Fr.tx nm2, md, Fr.tx dt, 0⟩ with
  | true =>
    rw [hr, if_pos rfl] at hp
    simp only [Option.some.injEq, Prod.mk.injEq] at hp
    rw [if_pos rfl, hp.1, hp.2]
  | false => rw [hr] at hp; simp at hp
theorem recP_more {z t u : List Int} {x : Rec} (hp : recP z = some (x, t)) : recP (z ++ u) = some (x, t ++ u) := by
  unfold recP at hp ⊢
  rcases h0 : numP 8 z with _ | ⟨sn, z1⟩
  · rw [h0] at hp; cases hp
  rw [h0] at hp; rw [numP_more h0]; simp only at hp ⊢
  rcases h1 : opP z1 with _ | ⟨y, z2⟩
  · rw [h1] at hp; cases hp
  rw [h1] at hp; rw [opP_more h1]; simp only [Option.some.injEq, Prod.mk.injEq] at hp ⊢
  exact ⟨hp.1, by rw [hp.2]⟩
theorem recsN_more : ∀ (n : Nat) {z t u : List Int} {l : List Rec}, recsN n z = some (l, t) → recsN n (z ++ u) = some (l, t ++ u)
  | 0, z, t, u, l, hp => by
    simp only [recsN, Option.some.injEq, Prod.mk.injEq] at hp ⊢
    exact ⟨hp.1, by rw [hp.2]⟩
  | n + 1, z, t, u, l, hp => by
    rw [recsN_step] at hp ⊢
    rcases h0 : recP z with _ | ⟨x, z1⟩
    · rw [h0] at hp; cases hp
    rw [h0] at hp; rw [recP_more h0]; simp only at hp ⊢
    rcases h1 : recsN n z1 with _ | ⟨l', v⟩
    · rw [h1] at hp; cases hp
    rw [h1] at hp; rw [recsN_more n h1]; simp only [Option.some.injEq, Prod.mk.injEq] at hp ⊢
    exact ⟨hp.1, by rw [hp.2]⟩
theorem recsP_more {z t u : List Int} {l : List Rec} (hp : recsP z = some (l, t)) : recsP (z ++ u) = some (l, t ++ u) := by
  unfold recsP at hp ⊢
  rcases h0 : numP 1 z with _ | ⟨m, z1⟩
  · rw [h0] at hp; cases hp
  rw [h0] at hp; rw [numP_more h0]; simp only at hp ⊢
  by_cases q : m ≤ 24
  · rw [if_pos q] at hp ⊢
    exact recsN_more _ hp
  · rw [if_neg q] at hp; cases hp
theorem recP_recB (x : Rec) (rest : List Int) (hw : x.Wf) (hr : rightF x = true) : recP (recB x ++ rest) = some (x, rest) := by
  unfold recP recB
  have h6 := hw.2.2.2.2.2.1
  rw [List.append_assoc, numP_be x.sn 8 _ h6.1 (by simpa using h6.2)]
  simp only
  rw [opP_opB x rest hw hr]
theorem recsN_recsB : ∀ (l : List Rec) (rest : List Int), (∀ x ∈ l, x.Wf) → (∀ x ∈ l, rightF x = true) → recsN l.length (recsB l ++ rest) = some (l, rest)
  | [], rest, _, _ => rfl
  | x :: l, rest, hw, hr => by
    have e : recsB (x :: l) ++ rest = recB x ++ (recsB l ++ rest) := by unfold recsB; rw [List.flatMap_cons, List.append_assoc]
    rw [List.length_cons, recsN_step, e, recP_recB x _ (hw x List.mem_cons_self) (hr x List.mem_cons_self)]
    simp only
    rw [recsN_recsB l rest (fun y hy => hw y (List.mem_cons_of_mem _ hy)) (fun y hy => hr y (List.mem_cons_of_mem _ hy))]
theorem recsOk_right {l : List Rec} (h : recsOk l = true) : l.length ≤ 24 ∧ ∀ x ∈ l, rightF x = true := by
  unfold recsOk at h
  simp only [Bool.and_eq_true, decide_eq_true_eq, Bool.not_eq_true', List.any_eq_false] at h
  refine ⟨h.1, fun x hx => ?_⟩
  have := h.2 x hx
  unfold wrongF at this
  simpa using this
theorem recsP_recsA (l : List Rec) (rest : List Int) (hw : ∀ x ∈ l, x.Wf) (hok : recsOk l = true) : recsP (recsA l ++ rest) = some (l, rest) := by
  obtain ⟨h24, hr⟩ := recsOk_right hok
  unfold recsP recsA
  rw [List.append_assoc, numP_be (l.length : Int) 1 _ (by omega) (by simp; omega)]
  simp only [Int.toNat_natCast]
  rw [if_pos (by omega)]
  exact recsN_recsB l rest hw hr
theorem opAll_more (x : Rec) (hw : x.Wf) (hr : rightF x = true) : opAll (opB x ++ [0]) = none := by
  unfold opAll
  rw [opP_opB x [0] hw hr]
theorem recsAll_more (l : List Rec) (hw : ∀ x ∈ l, x.Wf) (hok : recsOk l = true) : recsAll (recsA l ++ [0]) = none := by
  unfold recsAll
  rw [recsP_recsA l [0] hw hok]
theorem opAll_cut (x : Rec) (k : Nat) (hw : x.Wf) (hr : rightF x = true) (hk : k < (opB x).length) : opAll ((opB x).take k) = none := by
  unfold opAll
  rcases h : opP ((opB x).take k) with _ | ⟨y, t⟩
  · rfl
  rcases t with _ | ⟨q, qs⟩
  · exfalso
    have h1 := opP_more (u := (opB x).drop k) h
    rw [List.take_append_drop] at h1
    have h2 := opP_opB x [] hw hr
    rw [List.append_nil, h1] at h2
    simp only [Option.some.injEq, Prod.mk.injEq, List.nil_append] at h2
    have := congrArg List.length h2.2
    rw [List.length_drop, List.length_nil] at this
    omega
  · rfl
theorem recsAll_cut (l : List Rec) (k : Nat) (hw : ∀ x ∈ l, x.Wf) (hok : recsOk l = true) (hk : k < (recsA l).length) : recsAll ((recsA l).take k) = none := by
  unfold recsAll
  rcases h : recsP ((recsA l).take k) with _ | ⟨y, t⟩
  · rfl
  rcases t with _ | ⟨q, qs⟩
  · exfalso
    have h1 := recsP_more (u := (recsA l).drop k) h
    rw [List.take_append_drop] at h1
    have h2 := recsP_recsA l [] hw hok
    rw [List.append_nil, h1] at h2
    simp only [Option.some.injEq, Prod.mk.injEq, List.nil_append] at h2
    have := congrArg List.length h2.2
    rw [List.length_drop, List.length_nil] at this
    omega
  · rfl
theorem recsAll_recsA (l : List Rec) (hw : ∀ x ∈ l, x.Wf) (hok : recsOk l = true) : recsAll (recsA l) = some l := by
  have h2 := recsP_recsA l [] hw hok
  rw [List.append_nil] at h2
  unfold recsAll
  rw [h2]
theorem recsA_pos (l : List Rec) : 0 < (recsA l).length := by unfold recsA; rw [List.length_append, beF_len]; omega
theorem opB_pos (x : Rec) : 0 < (opB x).length := by rw [opB_len]; omega
end Go.Proofs.Ytbgninmkglgfeaa
