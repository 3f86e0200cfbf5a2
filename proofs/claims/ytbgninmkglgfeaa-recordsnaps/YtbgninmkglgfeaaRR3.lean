/-
  The document's Reader.Op held against the plain parser; the document's ReadOp.
-/
import Derived.Test.YtbgninmkglgfeaaRR2
import Derived.Test.YtbgninmkglgfeaaRRs
namespace Go.Proofs.Ytbgninmkglgfeaa
open Go.RowKit Go.ChangeShapes Go.WideShapes Go.ChangeAt
set_option linter.unusedVariables false
set_option linter.unusedSimpArgs false
set_option maxRecDepth 100000
theorem nr_num {zs z : List Int} {k : Nat} {n : Int} {b : Bool} (e : Nr false zs k = (n, b, z)) : numP k zs = bif b then none else some (n, z) := by
  unfold Nr at e
  unfold numP
  by_cases q : k ≤ zs.length
  · rw [if_pos ⟨rfl, q⟩] at e
    rw [if_pos q]
    cases e
    rfl
  · rw [if_neg (fun h => q h.2)] at e
    rw [if_neg q]
    cases e
    rfl
theorem nr_bad {zs z : List Int} {k : Nat} {n : Int} {b : Bool} (e : Nr true zs k = (n, b, z)) : b = true := by
  unfold Nr at e
  rw [if_neg (fun h => by cases h.1)] at e
  cases e; rfl
theorem tr_short {zs z : List Int} {s : ByteArray} {b : Bool} (e : Tr false zs = (s, b, z)) : (b = true ∧ shortP zs = none) ∨ (b = false ∧ ∃ ys, shortP zs = some (ys, z) ∧ s = Fr.tx ys) := by
  unfold Tr at e
  unfold shortP
  rcases hn : Nr false zs 1 with ⟨n, b1, z1⟩
  rw [hn] at e
  have hp := nr_num hn
  simp only at e
  rw [hp]
  cases b1 with
  | true =>
    rw [if_neg (fun h => by cases h.1)] at e
    cases e
    exact .inl ⟨rfl, rfl⟩
  | false =>
    by_cases q : n.toNat ≤ z1.length
    · rw [if_pos ⟨rfl, q⟩] at e
      cases e
      refine .inr ⟨rfl, z1.take n.toNat, ?_, rfl⟩
      simp only [cond_false]
      rw [if_pos q]
    · rw [if_neg (fun h => q h.2)] at e
      cases e
      refine .inl ⟨rfl, ?_⟩
      simp only [cond_false]
      rw [if_neg q]
theorem tr_bad {zs z : List Int} {s : ByteArray} {b : Bool} (e : Tr true zs = (s, b, z)) : b = true := by
  unfold Tr at e
  rcases hn : Nr true zs 1 with ⟨n, b1, z1⟩
  rw [hn] at e
  have := nr_bad hn
  subst this
  simp only at e
  rw [if_neg (fun h => by cases h.1)] at e
  cases e; rfl
theorem rdOp_e {w : World} {r : Nat} {bd : Bool} {zs : List Int} (h : RdR w r bd zs) :
    Calls Try.prog 25 #[.pointer (some ⟨r, 0, none⟩)] w fun e w' => ∃ x b z, e = .returned (Rec.opV x) ∧ Kf r w w' ∧ RdR w' r b z ∧ (bd = false → opP zs = bif b then none else some (x, z)) ∧ (bd = true → b = true) := by
  rcases e0 : Nr bd zs 1 with ⟨n0, b0, z0⟩
  rcases e1 : Nr b0 z0 4 with ⟨n1, b1, z1⟩
  rcases e2 : Nr b1 z1 4 with ⟨n2, b2, z2⟩
  rcases e3 : Tr b2 z2 with ⟨s3, b3, z3⟩
  rcases e4 : Nr b3 z3 4 with ⟨n4, b4, z4⟩
  rcases e5 : Tr b4 z4 with ⟨s5, b5, z5⟩
  rcases e6 : Nr b5 z5 2 with ⟨n6, b6, z6⟩
  rcases e7 : Tr b6 z6 with ⟨s7, b7, z7⟩
  refine (rdOp_c h e0 e1 e2 e3 e4 e5 e6 e7 _ rfl).mono ?_
  rintro e w' ⟨he, hk, hr⟩
  refine ⟨_, _, _, he, hk, hr, ?_, ?_⟩
  · intro hb
    subst hb
    unfold opP
    rw [nr_num e0]
    have bad : ∀ {b : Bool}, b = true → (bif rightF ⟨n0, n1, n2, s3, n4, s5, n6, s7, 0⟩ then b else true) = true := fun h => by subst h; cases rightF ⟨n0, n1, n2, s3, n4, s5, n6, s7, 0⟩ <;> rfl
    cases b0 with
    | true =>
      cases nr_bad e1; cases nr_bad e2; cases tr_bad e3; cases nr_bad e4; cases tr_bad e5; cases nr_bad e6; cases tr_bad e7
      rw [bad rfl]; rfl
    | false =>
    simp only [cond_false]
    rw [nr_num e1]
    cases b1 with
    | true =>
      cases nr_bad e2; cases tr_bad e3; cases nr_bad e4; cases tr_bad e5; cases nr_bad e6; cases tr_bad e7
      rw [bad rfl]; rfl
    | false =>
    simp only [cond_false]
    rw [nr_num e2]
    cases b2 with
    | true =>
      cases tr_bad e3; cases nr_bad e4; cases tr_bad e5; cases nr_bad e6; cases tr_bad e7
      rw [bad rfl]; rfl
    | false =>
    simp only [cond_false]
    rcases tr_short e3 with ⟨rfl, q3⟩ | ⟨rfl, y3, q3, rfl⟩
    · cases nr_bad e4; cases tr_bad e5; cases nr_bad e6; cases tr_bad e7
      rw [q3, bad rfl]; rfl
    rw [q3]
    simp only
    rw [nr_num e4]
    cases b4 with
    | true =>
      cases tr_bad e5; cases nr_bad e6; cases tr_bad e7
      rw [bad rfl]; rfl
    | false =>
    simp only [cond_false]
    rcases tr_short e5 with ⟨rfl, q5⟩ | ⟨rfl, y5, q5, rfl⟩
    · cases nr_bad e6; cases tr_bad e7
      rw [q5, bad rfl]; rfl
    rw [q5]
    simp only
    rw [nr_num e6]
    cases b6 with
    | true =>
      cases tr_bad e7
      rw [bad rfl]; rfl
    | false =>
    simp only [cond_false]
    rcases tr_short e7 with ⟨rfl, q7⟩ | ⟨rfl, y7, q7, rfl⟩
    · rw [q7, bad rfl]; rfl
    rw [q7]
    simp only
    cases rightF ⟨n0, n1, n2, Fr.tx y3, n4, Fr.tx y5, n6, Fr.tx y7, 0⟩ <;> rfl
  · intro hb
    subst hb
    cases nr_bad e0; cases nr_bad e1; cases nr_bad e2; cases tr_bad e3; cases nr_bad e4; cases tr_bad e5; cases nr_bad e6; cases tr_bad e7
    cases rightF ⟨n0, n1, n2, s3, n4, s5, n6, s7, 0⟩ <;> rfl
end Go.Proofs.Ytbgninmkglgfeaa
