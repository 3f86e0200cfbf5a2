/-
  Rows of fids that the call made, wherever they begin.
-/
import Derived.Test.YtilcbkejmpfnfabCLi
import Derived.ArgAppend
namespace Go.Proofs.Ytilcbkejmpfnfab
open Go.RowKit Go.ChangeShapes Go.WideShapes Go.ChangeAt Go.Maps Go.Shelf
set_option linter.unusedVariables false
set_option linter.unusedSimpArgs false
set_option maxRecDepth 100000
/-- A slice of the fids us, in a block from base on. -/
def RowF (w : World) (base : Nat) (v : Value) (us : List Int) : Prop :=
  ∃ a cap, v = .slice a us.length cap ∧ us.length ≤ cap ∧ (a = none → us.length = 0 ∧ cap = 0) ∧
    (0 < cap → ∃ g off cur, a = some ⟨g, off, none⟩ ∧ base ≤ g ∧ w.heap[g]? = some (.cells cur 28 (0, 0)) ∧ off + cap ≤ cur.size ∧ ∀ j, j < us.length → cur[off + j]? = some (.int .u32 (us.getD j 0)))
theorem RowF.nil (w : World) (base : Nat) : RowF w base (.slice none 0 0) [] := ⟨none, 0, rfl, Nat.le_refl _, fun _ => ⟨rfl, rfl⟩, fun h => by omega⟩
theorem RowF.out {S : Nat → Prop} {w w' : World} {base : Nat} {v : Value} {us : List Int} (h : RowF w base v us) (ho : Ou S w w') (hS : ∀ k, S k → k < base) : RowF w' base v us := by
  obtain ⟨a, cap, e, h1, h2, h3⟩ := h
  refine ⟨a, cap, e, h1, h2, fun hp => ?_⟩
  obtain ⟨g, off, cur, e1, e2, e3, e4⟩ := h3 hp
  exact ⟨g, off, cur, e1, e2, by rw [ho.block g (lt_blkC e3) (fun q => by have := hS g q; omega)]; exact e3, e4⟩
theorem RowF.later {w w' : World} {base : Nat} {v : Value} {us : List Int} (h : RowF w base v us) (hb : Below w.heap.size w w') : RowF w' base v us := h.out (S := fun _ => False) (Ou.of hb) (fun k e => e.elim)
theorem RowF.at {w : World} {base : Nat} {a : Option Addr} {n cap : Nat} {us : List Int} (h : RowF w base (.slice a n cap) us) : n = us.length ∧ n ≤ cap ∧ (0 < n → ∃ g off, a = some ⟨g, off, none⟩ ∧ base ≤ g ∧ ∀ j, j < n → w.cell? ⟨g, off + j, none⟩ = some (.int .u32 (us.getD j 0))) := by
  obtain ⟨a', cap', e, h1, h2, h3⟩ := h
  cases e
  refine ⟨rfl, h1, fun hp => ?_⟩
  obtain ⟨g, off, cur, e1, e2, e3, e4, e5⟩ := h3 (by omega)
  exact ⟨g, off, e1, e2, fun j hj => by simp [World.cell?, e3, e5 j hj]⟩
theorem getD_snoc (us : List Int) (y : Int) (j : Nat) : (us ++ [y]).getD j 0 = if j < us.length then us.getD j 0 else if j = us.length then y else 0 := by
  simp only [List.getD]
  by_cases h : j < us.length
  · rw [if_pos h, List.getElem?_append_left h]
  · rw [if_neg h, List.getElem?_append_right (by omega)]
    by_cases h2 : j = us.length
    · rw [if_pos h2, h2]; simp
    · rw [if_neg h2, List.getElem?_eq_none (by simp; omega)]; rfl
theorem RowF.of_own {w : World} {base : Nat} {v : Value} {us : List Int} {n : Nat} (h : w.ownsRow base 28 1 v n (us.map encF)) (hn : n = us.length) : RowF w base v us := by
  obtain ⟨a, m, cap, rfl⟩ := own_sliceF h
  subst hn
  rcases h.2 with ⟨e, e0⟩ | ⟨g, cap', cur, e, hb, hg, h1, h2, h3, h4⟩
  · cases e
    exact ⟨none, 0, by rw [e0], by omega, fun _ => ⟨e0, rfl⟩, fun h => by omega⟩
  · cases e
    refine ⟨_, _, rfl, h1, (fun e => by cases e), fun _ => ⟨g, 0, cur, rfl, hb, hg, by omega, fun j hj => ?_⟩⟩
    have hx : (cur.toList.take (us.length * 1))[j]? = (us.map encF)[j]? := by rw [h4]
    rw [List.getElem?_take_of_lt (by omega), List.getElem?_map] at hx
    rw [Nat.zero_add, ← Array.getElem?_toList, hx, List.getElem?_eq_getElem (by omega)]
    simp [encF, List.getD, List.getElem?_eq_getElem hj]
/-- The same without its first fid. -/
theorem RowF.tail {w : World} {base : Nat} {g off n cap : Nat} {y : Int} {t : List Int} (h : RowF w base (.slice (some ⟨g, off, none⟩) n cap) (y :: t)) (a : Option Addr) (ha : 1 < cap → a = some ⟨g, off + 1, none⟩) (ha2 : a ≠ none) : RowF w base (.slice a (n - 1) (cap - 1)) t := by
  obtain ⟨a', cap', e, h1, h2, h3⟩ := h
  cases e
  simp only [List.length_cons] at h1 h3 ⊢
  refine ⟨a, cap - 1, by simp, by omega, fun q => absurd q ha2, fun hp => ?_⟩
  obtain ⟨g', off', cur, e1, e2, e3, e4, e5⟩ := h3 (by omega)
  cases e1
  refine ⟨g, off + 1, cur, ha (by omega), e2, e3, by omega, fun j hj => ?_⟩
  have := e5 (j + 1) (by omega)
  rw [show off + 1 + j = off + (j + 1) from by omega, this]
  rfl
/-- One fid more. -/
theorem wpList_appendF (w : World) {ops : Array Oper} {rest : List Oper} {o : Oper} {a : Act} {Q : Exit → Act → World → Prop} (hgd : o.guard = none) (s x : Operand)
    (hop : o.op = .call { callee := .builtin .append, args := #[s, x], argTypes := #[29, 29] }) (base : Nat) (v : Value) (us : List Int) (hs : a.eval s = v) (hR : RowF w base v us) (hb : base ≤ w.heap.size) (hlen : us.length < 1000)
    (gN : Nat) (y : Int) (hx : a.eval x = .slice (some ⟨gN, 0, none⟩) 1 1) (hn : w.cell? ⟨gN, 0, none⟩ = some (.int .u32 y))
    (hK : ∀ v' w', RowF w' base v' (us ++ [y]) → Ou (fun k => base ≤ k) w w' → wpList Try.prog ops Q rest (a.put o.dst v') w') : wpList Try.prog ops Q (o :: rest) a w := by
  obtain ⟨i0, hi, hz0, hz1, hz2⟩ := info_fid
  obtain ⟨ad, cap, rfl, h1, h2, h3⟩ := hR
  have hnews : ∀ (j : Nat) (u : Value), [Value.int .u32 y][j]? = some u → w.cell? ((⟨gN, 0, none⟩ : Addr).add j) = some u := by
    intro j u hj
    have hj0 : j = 0 := by
      have := (List.getElem?_eq_some_iff.1 hj).1
      simp at this; exact this
    subst hj0
    simp at hj
    rw [← hj]
    simpa [Addr.add] using hn
  have grow : ∀ v' w', w'.ownsRow w.heap.size 28 1 v' (us.length + 1) (us.map encF ++ [.int .u32 y]) → w.grownBy w' none → wpList Try.prog ops Q rest (a.put o.dst v') w' := by
    intro v' w' ho hg
    refine hK v' w' (RowF.of_own (n := us.length + 1) (own_baseF (base' := base) ?_ hb) (by simp)) (Ou.grew hg (fun k e => by cases e))
    simpa [encF] using ho
  by_cases hc : cap = 0
  · refine wpList_append_grows w hgd s x 29 hop 28 i0 (.int .u32 0) 1 4 Try.underlying29 hi hz0 hz1 hz2 rfl (by decide) ad us.length cap (us.map encF) hs h2 (by simp) (fun b eb j u hj => ?_) ⟨gN, 0, none⟩ 1 1 [.int .u32 y] hx rfl hnews (by simp [Value.oneCell']) (by omega) (by unfold maxLen; omega) (by omega) grow
    have := (List.getElem?_eq_some_iff.1 hj).1
    simp at this; omega
  · obtain ⟨g, off, cur, rfl, e2, e3, e4, e5⟩ := h3 (by omega)
    refine wpList_append_arg w hgd s x 29 hop 28 i0 (.int .u32 0) 1 4 Try.underlying29 hi hz0 hz1 hz2 rfl (by decide) g off us.length cap (us.map encF) hs (by simp) (fun j u hj => ?_) ⟨gN, 0, none⟩ 1 1 [.int .u32 y] hx rfl hnews (by simp [Value.oneCell']) (fun hr j hj => ?_) (by unfold maxLen; omega) (by omega) (fun hr => ?_) (fun _ => grow)
    · have hj' := (List.getElem?_eq_some_iff.1 hj).1
      simp at hj'
      rw [List.getElem?_map, List.getElem?_eq_getElem hj'] at hj
      simp at hj
      rw [← hj]
      simp [World.cell?, e3, e5 j hj', encF, List.getD, List.getElem?_eq_getElem hj']
    · simp at hj
      subst hj
      refine ⟨?_, by simp [World.frozen?, e3]⟩
      simp [World.cell?, e3]
      omega
    · refine hK _ _ ⟨some ⟨g, off, none⟩, cap, by simp, by simpa using hr, (fun e => by cases e), fun _ => ⟨g, off, cur.setIfInBounds (off + us.length) (.int .u32 y), rfl, e2, ?_, by simpa using e4, fun j hj => ?_⟩⟩ ?_
      · simp only [World.setCells, Nat.mul_one, World.setCell]
        rw [Array.getElem?_modify, if_pos rfl, e3]
        rfl
      · simp only [List.length_append, List.length_cons, List.length_nil] at hj
        rw [getD_snoc]
        by_cases h : j < us.length
        · rw [if_pos h, Array.getElem?_setIfInBounds_ne (by omega)]; exact e5 j h
        · obtain rfl : j = us.length := by omega
          rw [if_neg h, if_pos rfl]
          first
            | exact Array.getElem?_setIfInBounds_self_of_lt (by omega)
            | (rw [Array.getElem?_setIfInBounds, if_pos rfl, if_pos (by omega)])
      · simp only [World.setCells, Nat.mul_one]
        exact (Ou.refl _ _).set e2
end Go.Proofs.Ytilcbkejmpfnfab
