/-
  Which nodes are a tree: Right of the package tree.
-/
import Derived.Test.YtihgiemgcmpmmaaTRt
namespace Go.Proofs.Ytihgiemgcmpmmaa
open Go.RowKit Go.ChangeShapes Go.WideShapes Go.ChangeAt Go.Maps
set_option linter.unusedVariables false
set_option linter.unusedSimpArgs false
set_option maxRecDepth 100000
/-- The nodes of a list by their fids, wherever they lie. -/
def N0 (l : List Nd) : Tab := ndF none l l.length
/-- Are nodes a tree? -/
def RightP (l : List Nd) : Prop := l.length ≤ 40 ∧ fidsUp l = true ∧ isDirT (N0 l) 1 = true ∧ (∀ x ∈ l, aloneB x = true ∧ haveB (N0 l) x.ks = true) ∧ linksB l = true ∧ ¬ RingN (N0 l)
theorem nd_some (a : Option Addr) (l : List Nd) (m : Nat) (f : Int) : (ndF a l m f).map (·.2) = (ndF none l m f).map (·.2) := by
  unfold ndF
  cases plTo l m f <;> rfl
theorem nd_isSome (a : Option Addr) (l : List Nd) (m : Nat) (f : Int) : (ndF a l m f).isSome = (ndF none l m f).isSome := by
  unfold ndF
  cases plTo l m f <;> rfl
theorem dir_any (a : Option Addr) (l : List Nd) (m : Nat) (g : Int) : isDirT (ndF a l m) g = isDirT (ndF none l m) g := by
  unfold isDirT ndF
  cases plTo l m g <;> rfl
theorem edge_any (a : Option Addr) (l : List Nd) (m : Nat) (f g : Int) : Edge (ndF a l m) f g ↔ Edge (ndF none l m) f g := by
  have key : ∀ a b : Option Addr, Edge (ndF a l m) f g → Edge (ndF b l m) f g := fun a b h => by
    obtain ⟨p, x, i, h1, h2, h3, h4⟩ := h
    rw [dir_any] at h4
    unfold ndF at h1
    cases hp : plTo l m f with
    | none => rw [hp] at h1; cases h1
    | some j =>
      rw [hp] at h1
      cases h1
      refine ⟨⟨(b.getD ⟨0, 0, none⟩).block, (b.getD ⟨0, 0, none⟩).off + j * 6, none⟩, l.getD j Nd.no, i, ?_, h2, h3, by rw [dir_any]; exact h4⟩
      unfold ndF
      rw [hp]; rfl
  exact ⟨key _ _, key _ _⟩
theorem ring_any (a : Option Addr) (l : List Nd) (m : Nat) : RingN (ndF a l m) ↔ RingN (ndF none l m) := by
  have e : ∀ G, IsPar (ndF a l m) G ↔ IsPar (ndF none l m) G := fun G => by
    unfold IsPar
    constructor
    · intro h f g; rw [h f g, edge_any]
    · intro h f g; rw [h f g, edge_any a]
  unfold RingN
  simp only [e]
theorem haveTo_any (a : Option Addr) (l : List Nd) (m : Nat) (ks : List Kd) : ∀ n, haveTo (ndF a l m) ks n = haveTo (ndF none l m) ks n
  | 0 => rfl
  | n + 1 => by simp only [haveTo, haveTo_any a l m ks n, nd_isSome a]
theorem haveB_any (a : Option Addr) (l : List Nd) (m : Nat) (ks : List Kd) : haveB (ndF a l m) ks = haveB (ndF none l m) ks := haveTo_any a l m ks _
theorem alone_few {x : Nd} (h : aloneB x = true) : x.ks.length ≤ 12 := by
  unfold aloneB at h
  cases q : (x.k == 1 || x.k == 3) with
  | true =>
    rw [q] at h
    simp only [cond_true, Bool.and_eq_true, decide_eq_true_eq] at h
    omega
  | false =>
    rw [q] at h
    cases q2 : (x.k == 2) with
    | true =>
      rw [q2] at h
      simp only [cond_false, cond_true, Bool.and_eq_true, decide_eq_true_eq] at h
      exact h.2.1
    | false => rw [q2] at h; cases h
theorem linksTo_all {P : List Int} {l : List Nd} : ∀ {m : Nat}, linksTo P l m = true → ∀ i, i < m → linkB P (l.getD i Nd.no) = true
  | 0, _, i, hi => by omega
  | m + 1, h, i, hi => by
    unfold linksTo at h
    rw [Bool.and_eq_true] at h
    by_cases e : i = m
    · subst e; exact h.2
    · exact linksTo_all h.1 i (by omega)
theorem kfs_mem {l : List Nd} {i j : Nat} {g : Int} (hi : i < l.length) (hj : j < (l.getD i Nd.no).ks.length) (hg : ((l.getD i Nd.no).ks.getD j Kd.no).fid = g) : g ∈ kfs l := by
  unfold kfs
  rw [List.mem_flatMap]
  refine ⟨_, getD_mem l Nd.no hi, ?_⟩
  rw [List.mem_map]
  exact ⟨_, getD_mem _ Kd.no hj, hg⟩
theorem kfs_two {l : List Nd} {i i' j j' : Nat} {g : Int} (hlt : i < i') (hi' : i' < l.length) (hj : j < (l.getD i Nd.no).ks.length) (hg : ((l.getD i Nd.no).ks.getD j Kd.no).fid = g) (hj' : j' < (l.getD i' Nd.no).ks.length) (hg' : ((l.getD i' Nd.no).ks.getD j' Kd.no).fid = g) : 2 ≤ (kfs l).count g := by
  have e0 : l = l.take (i' + 1) ++ l.drop (i' + 1) := (List.take_append_drop _ _).symm
  have e1 : kfs l = kfs (l.take (i' + 1)) ++ kfs (l.drop (i' + 1)) := by
    unfold kfs
    rw [← List.flatMap_append, ← e0]
  rw [e1, kfs_take hi', List.count_append, List.count_append]
  have h1 : 0 < (kfs (l.take i')).count g := by
    rw [List.count_pos_iff]
    have et : (l.take i').getD i Nd.no = l.getD i Nd.no := by simp [List.getD, List.getElem?_take, hlt]
    refine kfs_mem (l := l.take i') (i := i) (j := j) (by rw [List.length_take]; omega) (by rw [et]; exact hj) (by rw [et]; exact hg)
  have h2 : 0 < ((l.getD i' Nd.no).ks.map (·.fid)).count g := by
    rw [List.count_pos_iff, List.mem_map]
    exact ⟨_, getD_mem _ Kd.no hj', hg'⟩
  omega
/-- Where entries are counted right, each directory stands in one alone. -/
theorem one_up {a : Option Addr} {l : List Nd} (hL : linksB l = true) (hH : ∀ x ∈ l, haveB (ndF a l l.length) x.ks = true) : OneUp (ndF a l l.length) := by
  intro f f' g h h'
  obtain ⟨p, x, j, h1, h2, h3, h4⟩ := h
  obtain ⟨p', x', j', h1', h2', h3', _⟩ := h'
  unfold ndF at h1 h1'
  cases hp : plTo l l.length f with
  | none => rw [hp] at h1; cases h1
  | some i =>
    cases hp' : plTo l l.length f' with
    | none => rw [hp'] at h1'; cases h1'
    | some i' =>
      rw [hp] at h1
      rw [hp'] at h1'
      cases h1
      cases h1'
      obtain ⟨li, ei⟩ := plTo_lt l _ hp
      obtain ⟨li', ei'⟩ := plTo_lt l _ hp'
      have hc : (kfs l).count g ≤ 1 := by
        unfold isDirT ndF at h4
        cases hg : plTo l l.length g with
        | none => rw [hg] at h4; cases h4
        | some k =>
          rw [hg] at h4
          simp only [Option.map_some] at h4
          obtain ⟨lk, ek⟩ := plTo_lt l _ hg
          have hb := linksTo_all hL k lk
          have hne : g ≠ 1 := by
            have := (haveTo_all (hH _ (getD_mem l Nd.no li)) j h2).1
            rw [h3] at this
            exact this
          unfold linkB at hb
          rw [ek, h4] at hb
          have hne2 : (g == 1) = false := beq_eq_false_iff_ne.2 hne
          rw [hne2] at hb
          simp only [Bool.false_or, Bool.true_and, Bool.and_eq_true, Bool.not_eq_true', Bool.or_eq_false_iff, decide_eq_false_iff_not] at hb
          omega
      rcases Nat.lt_trichotomy i i' with q | q | q
      · have := kfs_two q li' h2 h3 h2' h3'; omega
      · subst q; rw [← ei, ← ei']
      · have := kfs_two q li h2' h3' h2 h3; omega
theorem whole_6 {a : Option Addr} {l : List Nd} (hA : ∀ x ∈ l, aloneB x = true) (hH : ∀ x ∈ l, haveB (ndF a l l.length) x.ks = true) : Whole6 (ndF a l l.length) := by
  intro f p x h
  unfold ndF at h
  cases hp : plTo l l.length f with
  | none => rw [hp] at h; cases h
  | some i =>
    rw [hp] at h
    cases h
    obtain ⟨li, _⟩ := plTo_lt l _ hp
    have hm := getD_mem l Nd.no li
    exact ⟨alone_few (hA _ hm), fun j hj => (haveTo_all (hH _ hm) j hj).2⟩
/-- What Right answers. -/
def RtP (l : List Nd) (w : World) (e : Ending) (w' : World) : Prop := ∃ b, e = .returned (.bool b) ∧ (b = true ↔ RightP l) ∧ Below w.heap.size w w'
theorem RtP.no {l : List Nd} {w w' : World} (h : ¬ RightP l) (hb : Below w.heap.size w w') : RtP l w (.returned (.bool false)) w' := ⟨false, rfl, ⟨(fun e => by cases e), fun e => absurd e h⟩, hb⟩
end Go.Proofs.Ytihgiemgcmpmmaa
