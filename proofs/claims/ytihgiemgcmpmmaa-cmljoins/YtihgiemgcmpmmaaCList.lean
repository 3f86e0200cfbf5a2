/-
  What Optimise leaves, as plain lists: the PAIRs are taken out one by one, the first one first.
-/
import Derived.Test.YtihgiemgcmpmmaaCTake
namespace Go.Proofs.Ytihgiemgcmpmmaa
open Go.RowKit Go.ChangeShapes Go.WideShapes Go.ChangeAt Go.Maps Go.Shelf
set_option linter.unusedVariables false
set_option linter.unusedSimpArgs false
/-- What is left of a log from a place on. -/
def kF (l : List Rec) (g : Nat → Bool) : Nat → Nat → List Rec
  | 0, _ => []
  | f + 1, i => if g i then kF l g f (i + 1) else l.getD i Rec.no :: kF l g f (i + 1)
def kG (l : List Rec) (g : Nat → Bool) (i : Nat) : List Rec := kF l g (l.length - i) i
theorem kG_lt {l : List Rec} {g : Nat → Bool} {i : Nat} (h : i < l.length) : kG l g i = if g i then kG l g (i + 1) else l.getD i Rec.no :: kG l g (i + 1) := by
  unfold kG
  rw [show l.length - i = (l.length - (i + 1)) + 1 by omega]
  rfl
theorem kG_ge {l : List Rec} {g : Nat → Bool} {i : Nat} (h : ¬ i < l.length) : kG l g i = [] := by
  unfold kG
  rw [show l.length - i = 0 by omega]
  rfl
theorem kG_congr {l : List Rec} {g g' : Nat → Bool} : ∀ (d i : Nat), l.length - i = d → (∀ k, i ≤ k → k < l.length → g k = g' k) → kG l g i = kG l g' i
  | 0, i, hd, _ => by rw [kG_ge (by omega), kG_ge (by omega)]
  | d + 1, i, hd, h => by
    have ih := kG_congr d (i + 1) (by omega) (fun k hk hk2 => h k (by omega) hk2)
    rw [kG_lt (i := i) (by omega), kG_lt (g := g') (i := i) (by omega), ih, h i (Nat.le_refl _) (by omega)]
theorem keep_kG (l : List Rec) (g : Nat → Bool) : ∀ (d m : Nat), m + d = l.length → keepF g l l.length = keepF g l m ++ kG l g m
  | 0, m, h => by rw [kG_ge (by omega), List.append_nil, show m = l.length by omega]
  | d + 1, m, h => by
    have ih := keep_kG l g d (m + 1) (by omega)
    rw [ih, kG_lt (i := m) (by omega)]
    have e : keepF g l (m + 1) = if g m then keepF g l m else keepF g l m ++ [l.getD m Rec.no] := rfl
    rw [e]
    cases g m <;> simp only [Bool.false_eq_true, if_false, if_true, List.append_assoc, List.singleton_append]
theorem keep_all (l : List Rec) (g : Nat → Bool) : keepF g l l.length = kG l g 0 := by
  have := keep_kG l g l.length 0 (by omega)
  simpa [keepF] using this
theorem kG_none (l : List Rec) : ∀ (d i : Nat), l.length - i = d → kG l (fun _ => false) i = l.drop i
  | 0, i, hd => by rw [kG_ge (by omega), List.drop_eq_nil_of_le (by omega)]
  | d + 1, i, hd => by
    have ih := kG_none l d (i + 1) (by omega)
    rw [kG_lt (i := i) (by omega), ih, List.drop_eq_getElem_cons (i := i) (by omega)]
    simp [List.getD, show i < l.length by omega]
/-- What is left behind a maker when its end is found; none: it is not. -/
def endL (m : Rec) : List Rec → Option (List Rec)
  | [] => none
  | y :: t => if unmakesF y m then some t else if wayF y m then none else (endL m t).map (fun r => if touchF y m.fid then r else y :: r)
/-- A log without its first PAIR; none: it has none. -/
def onceL : List Rec → Option (List Rec)
  | [] => none
  | x :: t => match (if makesF x.k then endL x t else none) with
    | some r => some r
    | none => (onceL t).map (fun r => x :: r)
def itL : Nat → List Rec → List Rec
  | 0, L => L
  | f + 1, L => match onceL L with
    | none => L
    | some L' => itL f L'
theorem scan_end {l : List Rec} {g : Nat → Bool} {m : Rec} : ∀ (d j : Nat), l.length - j = d →
    ((scanG l g m j).2 = false → endL m (kG l g j) = none) ∧
    ((scanG l g m j).2 = true → ∀ g' : Nat → Bool, (∀ k, j ≤ k → k < l.length → g' k = (g k || k == (scanG l g m j).1 || (decide (k < (scanG l g m j).1) && touchF (l.getD k Rec.no) m.fid))) → endL m (kG l g j) = some (kG l g' j))
  | 0, j, hd => by
    rw [scanG_ge (by omega), kG_ge (by omega)]
    exact ⟨fun _ => rfl, fun h => by cases h⟩
  | d + 1, j, hd => by
    have ih := scan_end (l := l) (g := g) (m := m) d (j + 1) (by omega)
    have hj : j < l.length := by omega
    rw [scanG_lt hj, kG_lt hj]
    cases hg : g j with
    | true =>
      simp only [if_true]
      refine ⟨ih.1, fun h g' hg' => ?_⟩
      have e := hg' j (Nat.le_refl _) hj
      rw [hg] at e
      rw [ih.2 h g' (fun k hk hk2 => hg' k (by omega) hk2), kG_lt hj, e]
      simp
    | false =>
      simp only [Bool.false_eq_true, if_false]
      cases hu : unmakesF (l.getD j Rec.no) m with
      | true =>
        simp only [if_true]
        refine ⟨fun h => absurd h (by simp), fun _ g' hg' => ?_⟩
        have e := hg' j (Nat.le_refl _) hj
        rw [kG_lt hj, e]
        simp only [endL, hu, if_true, Bool.or_true, beq_self_eq_true, Bool.true_or]
        congr 1
        refine kG_congr _ _ rfl (fun k hk hk2 => ?_)
        have e2 := hg' k (by omega) hk2
        rw [e2]
        have h1 : (k == j) = false := by simp; omega
        have h2 : decide (k < j) = false := by simp; omega
        simp [h1, h2]
      | false =>
        simp only [Bool.false_eq_true, if_false]
        cases hv : wayF (l.getD j Rec.no) m with
        | true =>
          simp only [if_true]
          exact ⟨fun _ => by simp only [endL, hu, hv, Bool.false_eq_true, if_false, if_true], fun h => absurd h (by simp)⟩
        | false =>
          simp only [Bool.false_eq_true, if_false]
          refine ⟨fun h => by simp only [endL, hu, hv, ih.1 h, Bool.false_eq_true, if_false, Option.map_none], fun h g' hg' => ?_⟩
          have hs := (scanG_bd (l := l) (g := g) (m := m) (j := j + 1)).1
          have e := hg' j (Nat.le_refl _) hj
          have h1 : (j == (scanG l g m (j + 1)).1) = false := by simp; omega
          have h2 : decide (j < (scanG l g m (j + 1)).1) = true := by simp; omega
          rw [hg, h1, h2] at e
          simp only [Bool.or_false, Bool.true_and, Bool.false_or] at e
          simp only [endL, hu, hv, Bool.false_eq_true, if_false]
          rw [ih.2 h g' (fun k hk hk2 => hg' k (by omega) hk2), kG_lt hj, e]
          rfl
/-- What a search has passed is neither an end nor in the way. -/
theorem scan_pass {l : List Rec} {g : Nat → Bool} {m : Rec} : ∀ (d j : Nat), l.length - j = d → ∀ k, j ≤ k → k < (scanG l g m j).1 → k < l.length → g k = false → unmakesF (l.getD k Rec.no) m = false ∧ wayF (l.getD k Rec.no) m = false
  | 0, j, hd, k, h1, h2, h3, h4 => by omega
  | d + 1, j, hd, k, h1, h2, h3, h4 => by
    have ih := scan_pass (l := l) (g := g) (m := m) d (j + 1) (by omega) k
    have hj : j < l.length := by omega
    rw [scanG_lt hj] at h2
    by_cases q : k = j
    · subst q
      rw [h4] at h2
      simp only [Bool.false_eq_true, if_false] at h2
      cases hu : unmakesF (l.getD k Rec.no) m with
      | true => rw [hu] at h2; simp at h2
      | false =>
        rw [hu] at h2
        simp only [Bool.false_eq_true, if_false] at h2
        cases hv : wayF (l.getD k Rec.no) m with
        | true => rw [hv] at h2; simp at h2
        | false => exact ⟨rfl, rfl⟩
    · cases hg : g j with
      | true => rw [hg] at h2; simp only [if_true] at h2; exact ih (by omega) h2 h3 h4
      | false =>
        rw [hg] at h2
        simp only [Bool.false_eq_true, if_false] at h2
        cases hu : unmakesF (l.getD j Rec.no) m with
        | true => rw [hu] at h2; simp at h2; omega
        | false =>
          rw [hu] at h2
          simp only [Bool.false_eq_true, if_false] at h2
          cases hv : wayF (l.getD j Rec.no) m with
          | true => rw [hv] at h2; simp at h2; omega
          | false => rw [hv] at h2; simp only [Bool.false_eq_true, if_false] at h2; exact ih (by omega) h2 h3 h4
/-- What is passed need not be looked at. -/
theorem scan_skip {l : List Rec} {g : Nat → Bool} {m : Rec} : ∀ (d j : Nat) (j' : Nat), j' - j = d → j ≤ j' → j' ≤ l.length → (∀ k, j ≤ k → k < j' → g k = false → unmakesF (l.getD k Rec.no) m = false ∧ wayF (l.getD k Rec.no) m = false) → scanG l g m j = scanG l g m j'
  | 0, j, j', hd, h1, _, _ => by rw [show j = j' by omega]
  | d + 1, j, j', hd, h1, h2, h => by
    have ih := scan_skip (l := l) (g := g) (m := m) d (j + 1) j' (by omega) (by omega) h2 (fun k hk hk2 => h k (by omega) hk2)
    rw [scanG_lt (by omega), ih]
    cases hg : g j with
    | true => simp
    | false =>
      obtain ⟨hu, hv⟩ := h j (Nat.le_refl _) (by omega) hg
      simp only [hu, hv, Bool.false_eq_true, if_false]
theorem scan_le {l : List Rec} {g : Nat → Bool} {m : Rec} : ∀ (d j : Nat), l.length - j = d → j ≤ l.length → (scanG l g m j).1 ≤ l.length
  | 0, j, hd, h => by rw [scanG_ge (by omega)]; exact h
  | d + 1, j, hd, h => by
    have ih := scan_le (l := l) (g := g) (m := m) d (j + 1) (by omega) (by omega)
    rw [scanG_lt (by omega)]
    split
    · exact ih
    · split
      · exact h
      · split
        · exact h
        · exact ih
/-- Where the makers look on: nothing between is their end, or in their way. -/
def NxInv (l : List Rec) (g : Nat → Bool) (nx : Nat → Nat) : Prop :=
  ∀ i, i < l.length → i < nx i ∧ nx i ≤ l.length ∧ ∀ k, i < k → k < nx i → g k = false → unmakesF (l.getD k Rec.no) (l.getD i Rec.no) = false ∧ wayF (l.getD k Rec.no) (l.getD i Rec.no) = false
theorem NxInv.mono {l : List Rec} {g g' : Nat → Bool} {nx : Nat → Nat} (h : NxInv l g nx) (hg : ∀ k, g k = true → g' k = true) : NxInv l g' nx := fun i hi => by
  obtain ⟨h1, h2, h3⟩ := h i hi
  refine ⟨h1, h2, fun k hk hk2 hk3 => h3 k hk hk2 ?_⟩
  cases e : g k with
  | false => rfl
  | true => rw [hg k e] at hk3; cases hk3
theorem NxInv.set {l : List Rec} {g : Nat → Bool} {nx : Nat → Nat} (h : NxInv l g nx) (i : Nat) (hi : i < l.length) : NxInv l g (setN nx i (scanG l g (l.getD i Rec.no) (nx i)).1) := fun j hj => by
  obtain ⟨h1, h2, h3⟩ := h j hj
  unfold setN
  by_cases q : j = i
  · subst q
    have hs := (scanG_bd (l := l) (g := g) (m := l.getD j Rec.no) (j := nx j)).1
    simp only [if_true]
    refine ⟨by omega, scan_le _ _ rfl h2, fun k hk hk2 hk3 => ?_⟩
    by_cases p : k < nx j
    · exact h3 k hk p hk3
    · have := scan_le (l := l) (g := g) (m := l.getD j Rec.no) _ _ rfl h2
      exact scan_pass _ _ rfl k (by omega) hk2 (by omega) hk3
  · simp only [q, if_false]
    exact ⟨h1, h2, h3⟩
theorem pairF_once {l : List Rec} {g : Nat → Bool} : ∀ (f i : Nat) (nx : Nat → Nat), i + f = l.length → NxInv l g nx →
    NxInv l g (pairF l g f i nx).2 ∧ ((pairF l g f i nx).1 = none → onceL (kG l g i) = none) ∧
    ∀ a b, (pairF l g f i nx).1 = some (a, b) → i ≤ a ∧ a < b ∧ onceL (kG l g i) = some (kG l (outF l g a b b (l.getD a Rec.no).fid) i)
  | 0, i, nx, hi, hn => by
    rw [kG_ge (by omega)]
    exact ⟨hn, fun _ => rfl, fun a b e => by cases e⟩
  | f + 1, i, nx, hi, hn => by
    have hil : i < l.length := by omega
    rw [kG_lt hil]
    unfold pairF
    cases hg : g i with
    | true =>
      simp only [Bool.true_or, if_true]
      obtain ⟨q1, q2, q3⟩ := pairF_once f (i + 1) nx (by omega) hn
      refine ⟨q1, q2, fun a b e => ?_⟩
      obtain ⟨r1, r0, r2⟩ := q3 a b e
      refine ⟨by omega, r0, ?_⟩
      rw [r2, kG_lt hil]
      have : outF l g a b b (l.getD a Rec.no).fid i = true := by unfold outF; rw [hg]; rfl
      rw [this, if_pos rfl]
    | false =>
      simp only [Bool.false_or, Bool.false_eq_true, if_false]
      have hout : ∀ a b, i < a → a < b → outF l g a b b (l.getD a Rec.no).fid i = false := fun a b h0 h3 => by
        unfold outF
        rw [hg]
        have h1 : (i == a) = false := by simp; omega
        have h2 : decide (a < i) = false := by simp; omega
        have h4 : (i == b) = false := by simp; omega
        simp [h1, h2, h4]
      cases hm : makesF (l.getD i Rec.no).k with
      | false =>
        simp only [Bool.not_false, if_true]
        obtain ⟨q1, q2, q3⟩ := pairF_once f (i + 1) nx (by omega) hn
        refine ⟨q1, fun e => by simp only [onceL, hm, q2 e, Bool.false_eq_true, if_false, Option.map_none], fun a b e => ?_⟩
        obtain ⟨r1, r0, r2⟩ := q3 a b e
        refine ⟨by omega, r0, ?_⟩
        simp only [onceL, hm, Bool.false_eq_true, if_false, r2, Option.map_some]
        rw [kG_lt hil, hout a b (by omega) r0]; simp
      | true =>
        simp only [Bool.not_true, Bool.false_eq_true, if_false]
        obtain ⟨n1, n2, n3⟩ := hn i hil
        have hsk := scan_skip (l := l) (g := g) (m := l.getD i Rec.no) _ (i + 1) (nx i) rfl (by omega) n2 (fun k hk hk2 hk3 => n3 k (by omega) hk2 hk3)
        have hse := scan_end (l := l) (g := g) (m := l.getD i Rec.no) _ (i + 1) rfl
        rw [hsk] at hse
        have hst := hn.set i hil
        have hbd := scanG_bd (l := l) (g := g) (m := l.getD i Rec.no) (j := nx i)
        generalize hsc : scanG l g (l.getD i Rec.no) (nx i) = sc at *
        obtain ⟨j, fnd⟩ := sc
        cases fnd with
        | true =>
          simp only [if_true]
          refine ⟨hst, fun e => absurd e (by simp), fun a b e => ?_⟩
          simp only [Option.some.injEq, Prod.mk.injEq] at e
          obtain ⟨rfl, rfl⟩ := e
          have hlt : i < j := by have := hbd.1; simp only at this; omega
          refine ⟨Nat.le_refl _, hlt, ?_⟩
          have he := hse.2 rfl (outF l g i j j (l.getD i Rec.no).fid) (fun k hk hk2 => by
            have h1 : (k == i) = false := by simp; omega
            have h2 : decide (i < k) = true := by simp; omega
            unfold outF
            simp only [h1, h2, Bool.or_false, Bool.true_and])
          simp only [onceL, hm, if_true, he]
          rw [kG_lt hil]
          have : outF l g i j j (l.getD i Rec.no).fid i = true := by unfold outF; simp
          rw [this, if_pos rfl]
        | false =>
          simp only [Bool.false_eq_true, if_false]
          have he := hse.1 rfl
          obtain ⟨q1, q2, q3⟩ := pairF_once f (i + 1) (setN nx i j) (by omega) hst
          refine ⟨q1, fun e => by simp only [onceL, hm, he, if_true, q2 e, Option.map_none], fun a b e => ?_⟩
          obtain ⟨r1, r0, r2⟩ := q3 a b e
          refine ⟨by omega, r0, ?_⟩
          simp only [onceL, hm, if_true, he, r2, Option.map_some]
          rw [kG_lt hil, hout a b (by omega) r0]; simp
theorem paired_it {l : List Rec} : ∀ (f : Nat) (g : Nat → Bool) (nx : Nat → Nat), NxInv l g nx → kG l (pairedF l f g nx) 0 = itL f (kG l g 0)
  | 0, g, nx, _ => rfl
  | f + 1, g, nx, h => by
    obtain ⟨q1, q2, q3⟩ := pairF_once (l := l) (g := g) (l.length - 0) 0 nx (by omega) h
    unfold pairedF itL pairG
    rcases hp : pairF l g (l.length - 0) 0 nx with ⟨_ | ⟨i, j⟩, nx'⟩
    · rw [hp] at q2
      rw [q2 rfl]
    · rw [hp] at q1 q3
      obtain ⟨_, _, r2⟩ := q3 i j rfl
      rw [r2]
      exact paired_it f _ nx' (q1.mono (fun k hk => by unfold outF; rw [hk]; rfl))
theorem opt_it (l : List Rec) : optF l = itL ((neededF l).length + 1) (neededF l) := by
  unfold optF
  rw [keep_all]
  unfold pairedG
  rw [paired_it _ _ _ (fun i hi => ⟨by omega, by omega, fun k hk hk2 => by omega⟩), kG_none _ _ 0 rfl]
  rfl
theorem endL_len {m : Rec} : ∀ (t r : List Rec), endL m t = some r → r.length < t.length
  | [], r, h => by cases h
  | y :: t, r, h => by
    unfold endL at h
    split at h
    · cases h; simp
    · split at h
      · cases h
      · cases he : endL m t with
        | none => rw [he] at h; cases h
        | some r' =>
          have ih := endL_len t r' he
          rw [he] at h
          simp only [Option.map_some, Option.some.injEq] at h
          subst h
          split
          · simp; omega
          · simp; omega
theorem once_len : ∀ (L r : List Rec), onceL L = some r → r.length < L.length
  | [], r, h => by cases h
  | x :: t, r, h => by
    unfold onceL at h
    split at h
    · rename_i r' he
      simp only [Option.some.injEq] at h
      subst h
      split at he
      · have := endL_len t _ he; simp; omega
      · cases he
    · cases he : onceL t with
      | none => rw [he] at h; cases h
      | some r' =>
        have ih := once_len t r' he
        rw [he] at h
        simp only [Option.map_some, Option.some.injEq] at h
        subst h
        simp; omega
theorem it_none : ∀ (f : Nat) (L : List Rec), L.length < f → onceL (itL f L) = none
  | 0, L, h => by omega
  | f + 1, L, h => by
    unfold itL
    cases he : onceL L with
    | none => exact he
    | some L' => exact it_none f L' (by have := once_len L L' he; omega)
theorem it_stop : ∀ (f : Nat) (L : List Rec), onceL L = none → itL f L = L
  | 0, L, _ => rfl
  | f + 1, L, h => by unfold itL; rw [h]
theorem endL_sub {m : Rec} : ∀ (t r : List Rec), endL m t = some r → r.Sublist t
  | [], r, h => by cases h
  | y :: t, r, h => by
    unfold endL at h
    split at h
    · cases h; exact List.sublist_cons_self _ _
    · split at h
      · cases h
      · cases he : endL m t with
        | none => rw [he] at h; cases h
        | some r' =>
          have ih := endL_sub t r' he
          rw [he] at h
          simp only [Option.map_some, Option.some.injEq] at h
          subst h
          split
          · exact ih.trans (List.sublist_cons_self _ _)
          · exact ih.cons_cons _
theorem once_sub : ∀ (L r : List Rec), onceL L = some r → r.Sublist L
  | [], r, h => by cases h
  | x :: t, r, h => by
    unfold onceL at h
    split at h
    · rename_i r' he
      simp only [Option.some.injEq] at h
      subst h
      split at he
      · exact (endL_sub t _ he).trans (List.sublist_cons_self _ _)
      · cases he
    · cases he : onceL t with
      | none => rw [he] at h; cases h
      | some r' =>
        have ih := once_sub t r' he
        rw [he] at h
        simp only [Option.map_some, Option.some.injEq] at h
        subst h
        exact ih.cons_cons _
theorem it_sub : ∀ (f : Nat) (L : List Rec), (itL f L).Sublist L
  | 0, L => List.Sublist.refl _
  | f + 1, L => by
    unfold itL
    cases he : onceL L with
    | none => exact List.Sublist.refl _
    | some L' => exact (it_sub f L').trans (once_sub L L' he)
/-- Whether a setting is set anew in what follows. -/
def anewF (x : Rec) (t : List Rec) : Bool := setsF x.k && t.any (fun y => y.k == x.k && y.fid == x.fid)
def needL : List Rec → List Rec
  | [] => []
  | x :: t => if anewF x t then needL t else x :: needL t
theorem lastF_gt (l : List Rec) (k f : Int) (i : Nat) : ∀ m, (i < lastF l k f m) = ∃ j, i < j ∧ j < m ∧ (l.getD j Rec.no).k = k ∧ (l.getD j Rec.no).fid = f
  | 0 => by simp [lastF]
  | m + 1 => by
    have ih := lastF_gt l k f i m
    unfold lastF
    apply propext
    by_cases q : (l.getD m Rec.no).k = k ∧ (l.getD m Rec.no).fid = f
    · rw [if_pos q]
      constructor
      · intro h; exact ⟨m, h, by omega, q⟩
      · rintro ⟨j, h1, h2, _⟩; omega
    · rw [if_neg q, ih]
      constructor
      · rintro ⟨j, h1, h2, h3⟩; exact ⟨j, h1, by omega, h3⟩
      · rintro ⟨j, h1, h2, h3⟩
        refine ⟨j, h1, ?_, h3⟩
        by_cases e : j = m
        · subst e; exact absurd h3 q
        · omega
theorem need_anew (l : List Rec) (i : Nat) (hi : i < l.length) : needF l i = anewF (l.getD i Rec.no) (l.drop (i + 1)) := by
  unfold needF anewF
  congr 1
  rw [Bool.eq_iff_iff]
  simp only [decide_eq_true_eq, lastF_gt, List.any_eq_true, Bool.and_eq_true, beq_iff_eq]
  constructor
  · rintro ⟨j, h1, h2, h3, h4⟩
    refine ⟨l.getD j Rec.no, ?_, h3, h4⟩
    have e : l.getD j Rec.no = l[j] := by simp [List.getD, h2]
    rw [e]
    have : l[j] = (l.drop (i + 1))[j - (i + 1)]'(by rw [List.length_drop]; omega) := by
      rw [List.getElem_drop]; congr 1; omega
    rw [this]; exact List.getElem_mem _
  · rintro ⟨y, hy, h3, h4⟩
    obtain ⟨j, hj, rfl⟩ := List.getElem_of_mem hy
    rw [List.length_drop] at hj
    have e : l.getD (i + 1 + j) Rec.no = (l.drop (i + 1))[j]'(by rw [List.length_drop]; omega) := by
      rw [List.getElem_drop]; simp [List.getD, show i + 1 + j < l.length by omega]
    exact ⟨i + 1 + j, by omega, by omega, by rw [e]; exact h3, by rw [e]; exact h4⟩
theorem kG_need (l : List Rec) : ∀ (d i : Nat), l.length - i = d → kG l (needF l) i = needL (l.drop i)
  | 0, i, hd => by rw [kG_ge (by omega), List.drop_eq_nil_of_le (by omega)]; rfl
  | d + 1, i, hd => by
    have ih := kG_need l d (i + 1) (by omega)
    have hi : i < l.length := by omega
    have e : l.drop i = l.getD i Rec.no :: l.drop (i + 1) := by rw [List.drop_eq_getElem_cons hi]; simp [List.getD, hi]
    rw [kG_lt hi, ih, need_anew l i hi, e]
    rfl
theorem needed_L (l : List Rec) : neededF l = needL l := by
  unfold neededF
  rw [keep_all, kG_need l _ 0 rfl]; rfl
def Lone (x y : Rec) : Prop := ¬ (setsF x.k = true ∧ y.k = x.k ∧ y.fid = x.fid)
theorem any_sub {x : Rec} {t t' : List Rec} (h : t'.Sublist t) (ha : anewF x t = false) : anewF x t' = false := by
  unfold anewF at ha ⊢
  cases hs : setsF x.k with
  | false => rfl
  | true =>
    rw [hs] at ha
    simp only [Bool.true_and, List.any_eq_false] at ha ⊢
    exact fun y hy => ha y (h.subset hy)
theorem needL_sub : ∀ l, (needL l).Sublist l
  | [] => List.Sublist.refl _
  | x :: t => by
    have ih := needL_sub t
    unfold needL
    split
    · exact ih.trans (List.sublist_cons_self _ _)
    · exact ih.cons_cons _
/-- No setting is set anew. -/
def Pure : List Rec → Prop
  | [] => True
  | x :: t => anewF x t = false ∧ Pure t
theorem need_pure : ∀ l, Pure (needL l)
  | [] => trivial
  | x :: t => by
    have ih := need_pure t
    unfold needL
    split
    · exact ih
    · rename_i h
      exact ⟨any_sub (needL_sub t) (by simpa using h), ih⟩
theorem pure_sub {t l : List Rec} (h : t.Sublist l) (hl : Pure l) : Pure t := by
  induction h with
  | slnil => trivial
  | cons x h ih => exact ih hl.2
  | cons_cons x h ih => exact ⟨any_sub h hl.1, ih hl.2⟩
theorem pure_need : ∀ l, Pure l → needL l = l
  | [], _ => rfl
  | x :: t, h => by
    unfold needL
    rw [h.1, pure_need t h.2]; simp
/-- OPTIMISE OF OPTIMISE IS THE SAME. -/
theorem opt_twice (l : List Rec) : optF (optF l) = optF l := by
  have hp : Pure (optF l) := by
    rw [opt_it, needed_L]
    exact pure_sub (it_sub _ _) (need_pure l)
  have hn : neededF (optF l) = optF l := by rw [needed_L, pure_need _ hp]
  rw [opt_it (optF l), hn]
  refine it_stop _ _ ?_
  rw [opt_it]
  exact it_none _ _ (by omega)
end Go.Proofs.Ytihgiemgcmpmmaa
