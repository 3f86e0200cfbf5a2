/-
  What the statements on caches ask of the program's cache behind a play.
-/
import Derived.Test.YtilcbkejmpfnfaaCPy
import Derived.Test.YtilcbkejmpfnfaaCLi
namespace Go.Proofs.Ytilcbkejmpfnfaa
open Go.RowKit Go.ChangeShapes Go.WideShapes Go.ChangeAt Go.Maps Go.Shelf
set_option linter.unusedVariables false
set_option linter.unusedSimpArgs false
set_option maxRecDepth 100000
theorem mod_ten {n : Int} (h0 : 0 ≤ n) (h1 : n < 256) : ∃ M0 : Nat, M0 < 10 ∧ n.tmod 10 = (M0 : Int) := ⟨n.toNat % 10, by omega, by rw [Int.tmod_eq_emod_of_nonneg h0]; omega⟩
theorem Rc.ss_len (r : Rc) : r.ss.length = r.L.length := by unfold Rc.ss; rw [sort_len, List.length_map]
theorem Dc.onR_most (x : Dc) (r : Rc) : (x.onR r).most = r.most := by
  unfold Dc.onR Rc.putS Rc.touchS Rc.dropS Rc.markS Rc.dearS Rc.hoardS
  (repeat' split) <;> rfl
theorem stP_most (n : Int) (z : Nat → Dc) : ∀ k, (stP n z k).2.most = n
  | 0 => rfl
  | k + 1 => by
    show ((z k).onR (stP n z k).2).most = n
    rw [Dc.onR_most]; exact stP_most n z k
theorem play_facts {M0 : Nat} (hM : M0 < 10) {w : World} {a : Option Addr} {len : Nat} {z : Nat → Dc} (hz : IsDc w a len z) : (stP ((M0 : Int) + 1) z (min len 80)).1.most = (M0 : Int) + 1 ∧ (stP ((M0 : Int) + 1) z (min len 80)).1.uses ≤ 80 := by
  obtain ⟨h1, h2⟩ := stP_rl (n := (M0 : Int) + 1) (f := z) (by omega) (by omega) (min len 80) (fun j hj => by obtain ⟨_, _, _, _, q⟩ := hz.2 j (by omega); exact q)
  exact ⟨by rw [← h1.most]; exact stP_most _ _ _, by omega⟩
/-- How many are at hand. -/
theorem few_list {w : World} {p b1 b2 : Nat} {c : Ca} {r : Rc} (h : IsCa w p b1 b2 c) (hl : Rl c r) : Calls Try.prog 12 #[pA p] w fun e w' => (∃ a cap, e = .returned (.slice a r.L.length cap)) ∧ Below w.heap.size w w' :=
  (list_c h (by have := hl.lens; omega) hl.rise).mono fun e w' ⟨v, e1, o1, b1⟩ => by
    obtain ⟨a, cap, e2, _⟩ := own_shapeC o1
    rw [r.ss_len] at e2
    exact ⟨⟨a, cap, by rw [e1, e2]⟩, b1⟩
theorem put_has (c : Ca) {f nx : Int} (hf : f ≠ 0) (h : (c.putR f nx).2 = 0) : (c.putS f nx).has f = true := by
  unfold Ca.putR at h
  rw [if_neg hf] at h
  unfold Ca.putS
  rw [if_neg hf, if_pos h, use_has, if_pos rfl]
theorem put_not (c : Ca) {f nx : Int} (h : (c.putR f nx).2 ≠ 0) : c.putS f nx = c := by
  unfold Ca.putR at h
  unfold Ca.putS
  split
  · rfl
  · rename_i q
    rw [if_neg q] at h
    rw [if_neg h]
/-- What Put answers. -/
theorem Rl.put_cases {c : Ca} {r : Rc} (h : Rl c r) {f : Int} (f1 : f < 4294967296) (f0 : 0 ≤ f) {ss : List Int} (hs : RiseF c.f ss) (hf : f ≠ 0) :
    (c.has f = false ∧ (r.L.length : Int) = c.most ∧ c.nextOf ss = 0 ∧ c.putR f (c.nextOf ss) = (0, 4)) ∨
    ((c.putR f (c.nextOf ss)).2 = 0 ∧ (c.has f = true ∨ (r.L.length : Int) < c.most ∨ c.nextOf ss ≠ 0) ∧ ((c.putR f (c.nextOf ss)).1 = 0 ∨ (c.putR f (c.nextOf ss)).1 = c.nextOf ss ∧ c.nextOf ss ≠ 0 ∧ c.has f = false)) := by
  have hfew := h.few
  have hlen := h.len
  unfold Ca.putR
  rw [if_neg hf]
  unfold Ca.roomR
  cases hh : c.has f with
  | true =>
    have hr : c.room f = true := by unfold Ca.room; rw [hh]; rfl
    rw [if_pos hr]; exact .inr ⟨rfl, .inl rfl, .inl rfl⟩
  | false =>
    by_cases hl : (c.m : Int) < c.most
    · have hr : c.room f = true := by unfold Ca.room; rw [hh, decide_eq_true hl]; rfl
      rw [if_pos hr]; exact .inr ⟨rfl, .inr (.inl (by omega)), .inl rfl⟩
    · have hr : ¬ c.room f = true := by unfold Ca.room; rw [hh, decide_eq_false hl]; simp
      rw [if_neg hr]
      by_cases hn : c.nextOf ss = 0
      · rw [if_pos hn]; exact .inl ⟨rfl, by omega, hn, rfl⟩
      · rw [if_neg hn]; exact .inr ⟨rfl, .inr (.inr hn), .inr ⟨rfl, hn, rfl⟩⟩
end Go.Proofs.Ytilcbkejmpfnfaa
