/-
  What is dear stays at hand, as long as there is room: plainly.
-/
import Derived.Test.YtilcbkejmpfnfabCSm
namespace Go.Proofs.Ytilcbkejmpfnfab
open Go.RowKit Go.ChangeShapes Go.WideShapes Go.ChangeAt Go.Maps Go.Shelf
set_option linter.unusedVariables false
set_option linter.unusedSimpArgs false
set_option maxRecDepth 100000
/-- Nothing is dirty, M are dear, those of us are at hand. -/
structure TD (c : Ca) (M : Nat) (us : List Int) : Prop where
  most : c.most = 10
  nd : us.Pairwise (fun a b => a ≠ b)
  rng : ∀ x, x ∈ us → 1 ≤ x ∧ x < 4294967296
  mem : ∀ x, x ∈ us ↔ c.has x = true
  len : c.m = us.length
  few : us.length ≤ 10
  clean : ∀ x, c.dirtyB x = false
  dear : ∀ x, c.d x = if 100 ≤ x ∧ x < 100 + (M : Int) then some 50 else none
  k : c.k = M
  hM : M ≤ 8
  ulo : 0 ≤ c.uses
theorem TD.new : TD ⟨10, 0, 0, fun _ => none, 0, fun _ => none⟩ 0 [] where
  most := rfl
  nd := List.Pairwise.nil
  rng := fun x h => by simp at h
  mem := fun x => ⟨fun h => by simp at h, fun h => by cases h⟩
  len := rfl
  few := Nat.zero_le _
  clean := fun x => rfl
  dear := fun x => by rw [if_neg (by omega)]
  k := rfl
  hM := Nat.zero_le _
  ulo := Int.le_refl _
theorem TD.rise {c : Ca} {M : Nat} {us : List Int} (h : TD c M us) : RiseF c.f (sortF us) := by
  obtain ⟨a, b⟩ := sort_all us h.nd
  exact ⟨a, fun x => (b x).trans (h.mem x)⟩
theorem TD.dearN {c : Ca} {M : Nat} {us : List Int} (h : TD c M us) (x : Int) : c.dearN x = if 100 ≤ x ∧ x < 100 + (M : Int) then 50 else 0 := by
  unfold Ca.dearN
  rw [h.dear x]
  split <;> rfl
theorem TD.hoard {c : Ca} {M : Nat} {us : List Int} (h : TD c M us) (hM : M < 8) : c.hoardE (100 + (M : Int)) 50 = 0 ∧ TD (c.hoardS (100 + (M : Int)) 50) (M + 1) us := by
  have e : c.hoardE (100 + (M : Int)) 50 = 0 := by
    unfold Ca.hoardE
    rw [if_neg (by omega), if_neg (by decide), if_neg (fun q => by have := h.k; omega)]
  have es : c.hoardS (100 + (M : Int)) 50 = c.dearS (100 + (M : Int)) 50 := by unfold Ca.hoardS; rw [if_pos e, if_neg (by decide)]
  refine ⟨e, ?_⟩
  rw [es]
  exact ⟨h.most, h.nd, h.rng, h.mem, h.len, h.few, h.clean, fun x => by
    show updF c.d (100 + (M : Int)) (some 50) x = _
    unfold updF
    by_cases q : x = 100 + (M : Int)
    · rw [if_pos q, if_pos (by omega)]
    · rw [if_neg q, h.dear x]
      by_cases p : 100 ≤ x ∧ x < 100 + (M : Int)
      · rw [if_pos p, if_pos (by omega)]
      · rw [if_neg p, if_neg (by omega)], by
    show addN c.d (100 + (M : Int)) c.k = _
    have e0 : c.d (100 + (M : Int)) = none := by rw [h.dear, if_neg (by omega)]
    unfold addN
    rw [e0]
    show c.k + 1 = _
    rw [h.k], by omega, h.ulo⟩
def rmF (x : Int) (us : List Int) : List Int := us.filter (fun y => decide (y ≠ x))
theorem mem_rmF {x y : Int} {us : List Int} : y ∈ rmF x us ↔ y ∈ us ∧ y ≠ x := by unfold rmF; rw [List.mem_filter]; simp
theorem rmF_out {x : Int} {us : List Int} (h : x ∉ us) : rmF x us = us := by
  unfold rmF
  rw [List.filter_eq_self]
  intro y hy
  simp
  exact fun e => h (e ▸ hy)
theorem rmF_len {x : Int} : ∀ {us : List Int}, us.Pairwise (fun a b => a ≠ b) → x ∈ us → (rmF x us).length + 1 = us.length
  | [], _, h => by cases h
  | y :: us, hp, h => by
    rw [List.pairwise_cons] at hp
    by_cases e : y = x
    · have : rmF x (y :: us) = us := by
        unfold rmF
        rw [List.filter_cons_of_neg (by simp [e])]
        exact rmF_out (fun q => hp.1 x q e)
      rw [this]; rfl
    · have h1 : rmF x (y :: us) = y :: rmF x us := by unfold rmF; rw [List.filter_cons_of_pos (by simp [e])]
      rw [h1, List.length_cons, List.length_cons, rmF_len hp.2 ((List.mem_cons.1 h).resolve_left (fun q => e q.symm))]
/-- At most so many lie between. -/
theorem few_between : ∀ (n : Nat) (us : List Int), us.Pairwise (fun a b => a ≠ b) → (∀ x, x ∈ us → 100 ≤ x ∧ x < 100 + (n : Int)) → us.length ≤ n
  | 0, us, _, h => by
    cases us with
    | nil => exact Nat.le_refl _
    | cons x us => have := h x (by simp); omega
  | n + 1, us, hp, h => by
    by_cases hx : (100 + (n : Int)) ∈ us
    · have h1 := rmF_len hp hx
      have h2 := few_between n (rmF (100 + (n : Int)) us) (List.Pairwise.filter _ hp) (fun x q => by
        obtain ⟨q1, q2⟩ := mem_rmF.1 q
        have := h x q1
        omega)
      omega
    · have := few_between n us hp (fun x q => by
        have h1 := h x q
        have : x ≠ 100 + (n : Int) := fun e => hx (e ▸ q)
        omega)
      omega
theorem TD.use {c : Ca} {M : Nat} {us : List Int} (h : TD c M us) {f : Int} (f0 : 1 ≤ f) (f1 : f < 4294967296) (hr : f ∈ us ∨ us.length < 10) : TD (c.useS f) M (rmF f us ++ [f]) := by
  have hl : (rmF f us).length + 1 = addN c.f f c.m ∧ (rmF f us).length + 1 ≤ 10 := by
    have hm := h.len
    have hf := h.few
    unfold addN
    by_cases q : f ∈ us
    · have := rmF_len h.nd q
      rw [if_pos (show (c.f f).isSome = true from (h.mem f).1 q)]; omega
    · rw [rmF_out q]
      have : ¬ (c.f f).isSome = true := fun e => q ((h.mem f).2 e)
      rw [if_neg this]
      rcases hr with e | e
      · exact absurd e q
      · omega
  refine ⟨h.most, ?_, ?_, ?_, ?_, ?_, ?_, h.dear, h.k, h.hM, ?_⟩
  · rw [List.pairwise_append]
    refine ⟨List.Pairwise.filter _ h.nd, by simp, fun a ha b hb => ?_⟩
    simp at hb
    rw [hb]; exact (mem_rmF.1 ha).2
  · intro x hx
    rcases List.mem_append.1 hx with q | q
    · exact h.rng x (mem_rmF.1 q).1
    · simp at q; rw [q]; exact ⟨f0, f1⟩
  · intro x
    rw [use_has, List.mem_append, mem_rmF]
    by_cases e : x = f
    · simp [e]
    · simp [e, h.mem]
  · show addN c.f f c.m = _; rw [← hl.1]; simp
  · simpa using hl.2
  · intro x; rw [use_dirty]; exact h.clean x
  · show 0 ≤ c.uses + 1; have := h.ulo; omega
theorem TD.drop {c : Ca} {M : Nat} {us : List Int} (h : TD c M us) {x : Int} (hx : x ∈ us) : TD (c.dropS x) M (rmF x us) := by
  have hl := rmF_len h.nd hx
  refine ⟨h.most, List.Pairwise.filter _ h.nd, fun y hy => h.rng y (mem_rmF.1 hy).1, ?_, ?_, ?_, ?_, h.dear, h.k, h.hM, h.ulo⟩
  · intro y
    rw [drop_has, mem_rmF]
    by_cases e : y = x
    · simp [e]
    · rw [if_neg e, h.mem]; simp [e]
  · show delN c.f x c.m = _
    unfold delN
    rw [if_pos (show (c.f x).isSome = true from (h.mem x).1 hx)]
    have := h.len
    omega
  · have := h.few; omega
  · intro y
    by_cases e : y = x
    · have : (c.dropS x).has y = false := by rw [drop_has, if_pos e]
      unfold Ca.has at this
      unfold Ca.dirtyB
      cases hf : (c.dropS x).f y with
      | none => rfl
      | some o => rw [hf] at this; cases this
    · rw [(drop_at c x y e).2]; exact h.clean y
/-- One is put: there is room; what is dear and at hand stays. -/
theorem TD.put {c : Ca} {M : Nat} {us : List Int} (h : TD c M us) {f : Int} (f0 : 1 ≤ f) (f1 : f < 4294967296) :
    (c.putR f (c.nextOf (sortF us))).2 = 0 ∧ ∃ us', TD (c.putS f (c.nextOf (sortF us))) M us' ∧ f ∈ us' ∧ ∀ x, x ∈ us → (100 ≤ x ∧ x < 100 + (M : Int)) → x ∈ us' := by
  have hf : f ≠ 0 := by omega
  have hlen := h.len
  have hmo := h.most
  unfold Ca.putR Ca.putS
  rw [if_neg hf, if_neg hf]
  by_cases hr : c.room f = true
  · have e1 : c.roomR f (c.nextOf (sortF us)) = (0, 0) := by unfold Ca.roomR; rw [if_pos hr]
    have e2 : c.roomS f (c.nextOf (sortF us)) = c := by unfold Ca.roomS; rw [if_pos hr]
    rw [e1, e2, if_pos rfl]
    refine ⟨rfl, _, h.use f0 f1 ?_, by simp, fun x hx _ => ?_⟩
    · unfold Ca.room at hr
      rw [Bool.or_eq_true] at hr
      rcases hr with q | q
      · exact .inl ((h.mem f).2 q)
      · have := of_decide_eq_true q
        exact .inr (by omega)
    · by_cases e : x = f
      · rw [e]; simp
      · exact List.mem_append.2 (.inl (mem_rmF.2 ⟨hx, e⟩))
  · have hnr : f ∉ us ∧ us.length = 10 := by
      unfold Ca.room at hr
      simp at hr
      have := h.few
      refine ⟨fun q => ?_, by omega⟩
      have := (h.mem f).1 q
      rw [hr.1] at this; cases this
    have hall := (sort_all us h.nd).2
    have hex : ∃ y, y ∈ us ∧ ¬ (100 ≤ y ∧ y < 100 + (M : Int)) := by
      apply Classical.byContradiction
      intro q
      have := few_between M us h.nd (fun x hx => Classical.byContradiction fun p => q ⟨x, hx, p⟩)
      have := h.hM
      omega
    obtain ⟨y, hy, hyd⟩ := hex
    rcases fold_nil (c := c) (sortF us) (fun x hx => (h.rng x ((hall x).1 hx)).1) with ⟨_, b⟩ | ⟨a, _, b⟩
    · have := b y ((hall y).2 hy)
      rw [h.clean y] at this; cases this
    · have hle := b y ((hall y).2 hy) (h.clean y)
      have a' : c.nextOf (sortF us) ∈ us := (hall _).1 a
      have hle' : c.le (c.nextOf (sortF us)) y := hle
      generalize c.nextOf (sortF us) = nx at *
      have n0 : nx ≠ 0 := by have := (h.rng nx a').1; omega
      have hnd : ¬ (100 ≤ nx ∧ nx < 100 + (M : Int)) := fun q => by
        unfold Ca.le at hle'
        rw [h.dearN, h.dearN, if_pos q, if_neg hyd] at hle'
        omega
      have e1 : c.roomR f nx = (nx, 0) := by unfold Ca.roomR; rw [if_neg hr, if_neg n0]
      have e2 : c.roomS f nx = c.dropS nx := by unfold Ca.roomS; rw [if_neg hr, if_neg n0]
      rw [e1, e2, if_pos rfl]
      have hl := rmF_len h.nd a'
      refine ⟨rfl, _, (h.drop a').use f0 f1 (.inr (by omega)), by simp, fun x hx hxd => ?_⟩
      have hxn : x ≠ nx := fun e => hnd (e ▸ hxd)
      have hxf : x ≠ f := fun e => hnr.1 (e ▸ hx)
      exact List.mem_append.2 (.inl (mem_rmF.2 ⟨mem_rmF.2 ⟨hx, hxn⟩, hxf⟩))
theorem TD.uses_put {c : Ca} (f nx : Int) : (c.putS f nx).uses ≤ c.uses + 1 := by
  unfold Ca.putS
  split
  · omega
  split
  · show (c.roomS f nx).uses + 1 ≤ _
    rw [(roomS_few c f nx).2]; omega
  · omega
end Go.Proofs.Ytilcbkejmpfnfab
