/-
  Which nodes are a tree: holdRing, Right of the package tree.
-/
import Derived.Test.YtihgiemgcmpmmaaTL2
namespace Go.Proofs.Ytihgiemgcmpmmaa
open Go.RowKit Go.ChangeShapes Go.WideShapes Go.ChangeAt Go.Maps
set_option linter.unusedVariables false
set_option linter.unusedSimpArgs false
set_option maxRecDepth 100000
def litI : Lit → Int
  | .int _ i => i
  | _ => 0
/-- The fids that a map holds, each once. -/
theorem IsFm.list {α : Type} {E : Enc α} {w : World} {b m : Nat} {f : Int → Option α} (h : IsFm E w b m f) : ∃ ks : List Int, ks.Pairwise (· ≠ ·) ∧ (∀ i, i ∈ ks ↔ (f i).isSome = true) ∧ ks.length = m := by
  obtain ⟨D, ho, hs, hf⟩ := h
  obtain ⟨es, e, hp, hsh⟩ := entriesF E ho
  subst e
  refine ⟨es.map fun p => litI p.1, ?_, fun i => ?_, ?_⟩
  · rw [List.pairwise_map]
    refine hp.imp_of_mem (fun {p q} hp1 hq1 hne e => hne ?_)
    obtain ⟨i, s, rfl, _⟩ := hsh p hp1
    obtain ⟨j, t, rfl, _⟩ := hsh q hq1
    simp only [litI, kyF] at e ⊢
    rw [e]
  · rw [hf i, ← Maps.has_eq_look_of (E := E) ho i, Maps.has_eq, List.any_eq_true, List.mem_map]
    constructor
    · rintro ⟨p, hp1, rfl⟩
      refine ⟨p, hp1, ?_⟩
      obtain ⟨j, s, rfl, _⟩ := hsh p hp1
      simp [litI, kyF, Lit.sameKey]
    · rintro ⟨p, hp1, hp2⟩
      refine ⟨p, hp1, ?_⟩
      obtain ⟨j, s, rfl, _⟩ := hsh p hp1
      rw [same_kyF] at hp2
      simpa [litI, kyF] using hp2
  · rw [List.length_map, ← hs]; rfl
theorem nodup_len : ∀ {a b : List Int}, a.Pairwise (· ≠ ·) → (∀ i, i ∈ a → i ∈ b) → a.length ≤ b.length
  | [], b, _, _ => Nat.zero_le _
  | x :: a, b, hp, h => by
    rw [List.pairwise_cons] at hp
    have hx := h x (by simp)
    have hl : (b.erase x).length + 1 = b.length := by
      have := List.length_erase_of_mem hx
      have h2 : 0 < b.length := List.length_pos_of_mem hx
      omega
    have := nodup_len (a := a) (b := b.erase x) hp.2 (fun i hi => (List.mem_erase_of_ne (fun e => hp.1 i hi e.symm)).2 (h i (by simp [hi])))
    rw [List.length_cons]
    omega
theorem nodup_same {a b : List Int} (ha : a.Pairwise (· ≠ ·)) (hb : b.Pairwise (· ≠ ·)) (h : ∀ i, i ∈ a ↔ i ∈ b) : a.length = b.length :=
  Nat.le_antisymm (nodup_len ha (fun i hi => (h i).1 hi)) (nodup_len hb (fun i hi => (h i).2 hi))
/-- A directory is below itself. -/
def RingN (N : Tab) : Prop := ∃ (G : Int → Option Int) (ks : List Int) (f p : Int), ks.Pairwise (· ≠ ·) ∧ (∀ i, i ∈ ks ↔ (G i).isSome = true) ∧ IsPar N G ∧ G f = some p ∧ leadB G ks.length f p = true
theorem ring_of {N : Tab} {G : Int → Option Int} {n : Nat} {ks : List Int} (h1 : ks.Pairwise (· ≠ ·)) (h2 : ∀ i, i ∈ ks ↔ (G i).isSome = true) (h3 : ks.length = n) (hP : IsPar N G) : RingN N ↔ ∃ f p, G f = some p ∧ leadB G n f p = true := by
  constructor
  · rintro ⟨G', ks', f, p, q1, q2, q3, q4, q5⟩
    have e : G' = G := by
      funext g
      cases hg : G g with
      | none =>
        cases hg' : G' g with
        | none => rfl
        | some x => have := (hP x g).2 ((q3 x g).1 hg'); rw [hg] at this; cases this
      | some x => exact (q3 x g).2 ((hP x g).1 hg)
    subst e
    rw [nodup_same q1 h1 (fun i => (q2 i).trans (h2 i).symm), h3] at q5
    exact ⟨f, p, q4, q5⟩
  · rintro ⟨f, p, q4, q5⟩
    exact ⟨G, ks, f, p, h1, h2, hP, q4, by rw [h3]; exact q5⟩
theorem below_grown0 {w w' : World} (h : Below w.heap.size w w') : w.grownBy w' none := ⟨h.os, h.tape, h.output, h.size, fun i hi _ => h.block i hi⟩
end Go.Proofs.Ytihgiemgcmpmmaa
