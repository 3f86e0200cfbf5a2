/-
  Without anything dear or dirty the one that was used longest ago goes: plain.
-/
import Derived.Test.YtciaenlampncmaaCPu
namespace Go.Proofs.Ytciaenlampncmaa
set_option linter.unusedVariables false
set_option linter.unusedSimpArgs false
/-- A cache of at most M with nothing dear and nothing dirty; us are at hand, the one that was used longest ago first. -/
structure TI (c : Ca) (M : Nat) (us : List Int) : Prop where
  most : c.most = M
  nd : us.Nodup
  rng : ∀ x, x ∈ us → 1 ≤ x ∧ x ≤ 16
  len : us.length ≤ M
  m : c.m = us.length
  dear : ∀ x, c.d x = none
  mem : ∀ x, x ∈ us ↔ (c.f x).isSome = true
  clean : ∀ x, c.dirtyB x = false
  ord : us.Pairwise (fun a b => c.usedAt a < c.usedAt b)
  low : ∀ x, x ∈ us → c.usedAt x ≤ c.uses
def ssOf (us : List Int) : List Int := ((List.range 17).map Int.ofNat).filter (fun x => decide (x ∈ us))
theorem mem_ssOf {us : List Int} (h : ∀ x, x ∈ us → 1 ≤ x ∧ x ≤ 16) (x : Int) : x ∈ ssOf us ↔ x ∈ us := by
  unfold ssOf
  rw [List.mem_filter, List.mem_map]
  constructor
  · rintro ⟨_, h2⟩; exact of_decide_eq_true h2
  · intro hx
    have := h x hx
    exact ⟨⟨x.toNat, List.mem_range.2 (by omega), by simp; omega⟩, decide_eq_true hx⟩
theorem srt_ssOf (us : List Int) : (ssOf us).Pairwise (fun a b => a < b) := by
  unfold ssOf
  refine List.Pairwise.filter _ ?_
  rw [List.pairwise_map]
  exact List.Pairwise.imp (fun h => by simp; omega) List.pairwise_lt_range
theorem TI.rise {c : Ca} {M : Nat} {us : List Int} (h : TI c M us) : RiseF c.f (ssOf us) := ⟨srt_ssOf us, fun x => (mem_ssOf h.rng x).trans (h.mem x)⟩
theorem TI.dearN {c : Ca} {M : Nat} {us : List Int} (h : TI c M us) (x : Int) : c.dearN x = 0 := by unfold Ca.dearN; rw [h.dear x]; rfl
theorem TI.first {c : Ca} {M : Nat} {us : List Int} (h : TI c M us) (x y : Int) : c.first x y = decide (c.usedAt x < c.usedAt y) := by unfold Ca.first; rw [h.dearN, h.dearN, if_pos rfl]
theorem fold_min {c : Ca} {M : Nat} {us : List Int} (h : TI c M us) : ∀ (l : List Int) (nx : Int), (∀ x, x ∈ l → 1 ≤ x) → nx ≠ 0 → (l.foldl c.step nx = nx ∨ l.foldl c.step nx ∈ l) ∧ c.usedAt (l.foldl c.step nx) ≤ c.usedAt nx ∧ ∀ x, x ∈ l → c.usedAt (l.foldl c.step nx) ≤ c.usedAt x := by
  intro l
  induction l with
  | nil => intro nx _ _; exact ⟨.inl rfl, Int.le_refl _, fun x hx => by simp at hx⟩
  | cons y l ih =>
    intro nx hl hn
    have hy := hl y (by simp)
    rw [List.foldl_cons]
    by_cases hlt : c.usedAt y < c.usedAt nx
    · rw [step_first (h.clean y) (by rw [h.first]; exact decide_eq_true hlt)]
      obtain ⟨a, b, d⟩ := ih y (fun x hx => hl x (List.mem_cons_of_mem _ hx)) (by omega)
      refine ⟨.inr ?_, by omega, fun x hx => ?_⟩
      · rcases a with a | a
        · rw [a]; simp
        · exact List.mem_cons_of_mem _ a
      · rw [List.mem_cons] at hx
        rcases hx with rfl | hx
        · exact b
        · exact d x hx
    · rw [step_last hn (by rw [h.first]; exact decide_eq_false hlt)]
      obtain ⟨a, b, d⟩ := ih nx (fun x hx => hl x (List.mem_cons_of_mem _ hx)) hn
      refine ⟨?_, b, fun x hx => ?_⟩
      · rcases a with a | a
        · exact .inl a
        · exact .inr (List.mem_cons_of_mem _ a)
      · rw [List.mem_cons] at hx
        rcases hx with rfl | hx
        · omega
        · exact d x hx
theorem TI.next {c : Ca} {M : Nat} {y : Int} {t : List Int} (h : TI c M (y :: t)) : c.nextOf (ssOf (y :: t)) = y := by
  have hm := mem_ssOf h.rng
  have hpos : ∀ x, x ∈ ssOf (y :: t) → 1 ≤ x := fun x hx => (h.rng x ((hm x).1 hx)).1
  have key : ∀ l, l = ssOf (y :: t) → c.nextOf l = y := by
    intro l hl
    cases l with
    | nil =>
      have := (hm y).2 (by simp)
      rw [← hl] at this
      simp at this
    | cons a l =>
      rw [← hl] at hm hpos
      unfold Ca.nextOf
      rw [List.foldl_cons, step_none (h.clean a) rfl]
      obtain ⟨q1, q2, q3⟩ := fold_min h l a (fun x hx => hpos x (List.mem_cons_of_mem _ hx)) (by have := hpos a (by simp); omega)
      have hin : l.foldl c.step a ∈ y :: t := by
        rw [← hm]
        rcases q1 with e | e
        · rw [e]; simp
        · exact List.mem_cons_of_mem _ e
      have hle : c.usedAt (l.foldl c.step a) ≤ c.usedAt y := by
        have : y ∈ a :: l := (hm y).2 (by simp)
        rw [List.mem_cons] at this
        rcases this with rfl | e
        · exact q2
        · exact q3 y e
      rw [List.mem_cons] at hin
      rcases hin with e | e
      · exact e
      · have := (List.pairwise_cons.1 h.ord).1 _ e
        omega
  exact key _ rfl
theorem useS_at (c : Ca) (f x : Int) : (c.useS f).usedAt x = if x = f then c.uses + 1 else c.usedAt x := by
  show ((updF c.f f (some (c.uses + 1, c.dirtyB f)) x).getD zOb).1 = _
  unfold updF
  by_cases h : x = f
  · simp [h]
  · simp [h]; rfl
theorem useS_dirty (c : Ca) (f x : Int) : (c.useS f).dirtyB x = c.dirtyB x := by
  show ((updF c.f f (some (c.uses + 1, c.dirtyB f)) x).getD zOb).2 = _
  unfold updF
  by_cases h : x = f
  · simp [h]
  · simp [h]; rfl
theorem useS_some (c : Ca) (f x : Int) : ((c.useS f).f x).isSome = true ↔ x = f ∨ (c.f x).isSome = true := by
  show (updF c.f f (some (c.uses + 1, c.dirtyB f)) x).isSome = true ↔ _
  unfold updF
  by_cases h : x = f
  · simp [h]
  · simp [h]
theorem TI.use {c : Ca} {M : Nat} {us r : List Int} (h : TI c M us) {f : Int} (hf : 1 ≤ f ∧ f ≤ 16) (hfr : f ∉ r) (hs : r.Sublist us) (hall : ∀ x, x ∈ us → x = f ∨ x ∈ r) (hl : r.length + 1 ≤ M) (hm : addN c.f f c.m = r.length + 1) : TI (c.useS f) M (r ++ [f]) where
  most := h.most
  nd := by
    rw [List.nodup_append]
    exact ⟨List.Nodup.sublist hs h.nd, by simp, fun a ha b hb => by simp at hb; subst hb; exact fun e => hfr (e ▸ ha)⟩
  rng := fun x hx => by
    rw [List.mem_append] at hx
    rcases hx with hx | hx
    · exact h.rng x (hs.subset hx)
    · simp at hx; rw [hx]; exact hf
  len := by simp; exact hl
  m := by simp; exact hm
  dear := h.dear
  mem := fun x => by
    rw [useS_some, ← h.mem x, List.mem_append]
    constructor
    · rintro (hx | hx)
      · exact .inr (hs.subset hx)
      · simp at hx; exact .inl hx
    · rintro (hx | hx)
      · exact .inr (by simp [hx])
      · rcases hall x hx with e | e
        · exact .inr (by simp [e])
        · exact .inl e
  clean := fun x => by rw [useS_dirty]; exact h.clean x
  ord := by
    rw [List.pairwise_append]
    refine ⟨?_, by simp, fun a ha b hb => ?_⟩
    · refine List.Pairwise.imp_of_mem ?_ (List.Pairwise.sublist hs h.ord)
      intro a b ha hb hab
      rw [useS_at, useS_at, if_neg (fun e => hfr (by rw [← e]; exact ha)), if_neg (fun e => hfr (by rw [← e]; exact hb))]
      exact hab
    · simp at hb
      subst hb
      rw [useS_at, useS_at, if_pos rfl, if_neg (fun e => hfr (by rw [← e]; exact ha))]
      have := h.low a (hs.subset ha)
      omega
  low := fun x hx => by
    rw [useS_at]
    show _ ≤ c.uses + 1
    rw [List.mem_append] at hx
    split
    · exact Int.le_refl _
    · rcases hx with hx | hx
      · have := h.low x (hs.subset hx); omega
      · simp at hx; contradiction
theorem TI.drop {c : Ca} {M : Nat} {y : Int} {t : List Int} (h : TI c M (y :: t)) : TI (c.dropS y) M t := by
  have hy : y ∉ t := (List.nodup_cons.1 h.nd).1
  have hat : ∀ x, x ≠ y → (c.dropS y).f x = c.f x := fun x hx => by show updF c.f y none x = _; unfold updF; rw [if_neg hx]
  have hay : (c.dropS y).f y = none := by show updF c.f y none y = _; unfold updF; rw [if_pos rfl]
  have hu : ∀ x, x ≠ y → (c.dropS y).usedAt x = c.usedAt x := fun x hx => by unfold Ca.usedAt; rw [hat x hx]
  have hne : ∀ x, x ∈ t → x ≠ y := fun x hx e => hy (e ▸ hx)
  exact
  { most := h.most
    nd := (List.nodup_cons.1 h.nd).2
    rng := fun x hx => h.rng x (List.mem_cons_of_mem _ hx)
    len := by have := h.len; simp at this; omega
    m := by
      show delN c.f y c.m = _
      unfold delN
      rw [if_pos ((h.mem y).1 (by simp)), h.m]
      simp
    dear := h.dear
    mem := fun x => by
      by_cases e : x = y
      · subst e; rw [hay]; simp [hy]
      · rw [hat x e, ← h.mem x, List.mem_cons]
        exact ⟨.inr, fun q => q.elim (fun q => absurd q e) id⟩
    clean := fun x => by
      by_cases e : x = y
      · subst e; unfold Ca.dirtyB; rw [hay]; rfl
      · unfold Ca.dirtyB; rw [hat x e]; exact h.clean x
    ord := List.Pairwise.imp_of_mem (fun {a b} ha hb hab => by rw [hu a (hne a ha), hu b (hne b hb)]; exact hab) (List.pairwise_cons.1 h.ord).2
    low := fun x hx => by rw [hu x (hne x hx)]; exact h.low x (List.mem_cons_of_mem _ hx) }
/-- Those that were used, behind one more; the one that goes. -/
def turnR (f : Int) (us : List Int) : List Int := us.filter (fun x => decide (x ≠ f))
def turnW (M : Nat) (f : Int) (us : List Int) : Int := if (turnR f us).length = us.length ∧ M ≤ (turnR f us).length then (turnR f us).headD 0 else 0
def turnU (M : Nat) (f : Int) (us : List Int) : List Int := (if (turnR f us).length = us.length ∧ M ≤ (turnR f us).length then (turnR f us).tail else turnR f us) ++ [f]
theorem turnR_notin {f : Int} {us : List Int} : f ∉ turnR f us := by unfold turnR; simp
theorem turnR_out {f : Int} {us : List Int} (h : f ∉ us) : turnR f us = us := by
  unfold turnR
  rw [List.filter_eq_self]
  intro x hx
  exact decide_eq_true (fun e => h (e ▸ hx))
theorem turnR_len {f : Int} : ∀ {us : List Int}, us.Nodup → f ∈ us → (turnR f us).length + 1 = us.length
  | [], _, h => by simp at h
  | y :: us, hn, h => by
    rw [List.nodup_cons] at hn
    rw [List.mem_cons] at h
    by_cases e : y = f
    · subst e
      have : turnR y (y :: us) = turnR y us := by unfold turnR; simp
      rw [this, turnR_out hn.1]; rfl
    · have h' : f ∈ us := h.elim (fun q => absurd q.symm e) id
      have : turnR f (y :: us) = y :: turnR f us := by unfold turnR; simp [e]
      rw [this]
      have := turnR_len hn.2 h'
      simp; omega
theorem TI.put {c : Ca} {M : Nat} {us : List Int} (h : TI c M us) (hM : 1 ≤ M) {f : Int} (hf : 1 ≤ f ∧ f ≤ 16) :
    c.putR f (c.nextOf (ssOf us)) = (turnW M f us, 0) ∧ TI (c.putS f (c.nextOf (ssOf us))) M (turnU M f us) ∧ (c.putS f (c.nextOf (ssOf us))).uses = c.uses + 1 := by
  have f0 : f ≠ 0 := by omega
  unfold Ca.putR Ca.putS
  rw [if_neg f0, if_neg f0]
  by_cases hin : f ∈ us
  · have hl := turnR_len h.nd hin
    have hno : ¬ ((turnR f us).length = us.length ∧ M ≤ (turnR f us).length) := by omega
    have hroom : c.room f = true := by unfold Ca.room Ca.has; rw [(h.mem f).1 hin]; rfl
    have hR : c.roomR f (c.nextOf (ssOf us)) = (0, 0) := by unfold Ca.roomR; rw [if_pos hroom]
    have hS : c.roomS f (c.nextOf (ssOf us)) = c := by unfold Ca.roomS; rw [if_pos hroom]
    rw [hR, hS, if_pos rfl]
    unfold turnW turnU
    rw [if_neg hno, if_neg hno]
    refine ⟨rfl, h.use hf turnR_notin (List.filter_sublist) (fun x hx => ?_) (by have := h.len; omega) ?_, rfl⟩
    · by_cases e : x = f
      · exact .inl e
      · exact .inr (List.mem_filter.2 ⟨hx, decide_eq_true e⟩)
    · unfold addN
      rw [if_pos ((h.mem f).1 hin), h.m]; omega
  · have hr := turnR_out hin
    have hnh : (c.f f).isSome = false := by
      cases hq : (c.f f).isSome with
      | false => rfl
      | true => exact absurd ((h.mem f).2 hq) hin
    unfold turnW turnU
    rw [hr]
    by_cases hlt : us.length < M
    · have hno : ¬ (us.length = us.length ∧ M ≤ us.length) := by omega
      have hroom : c.room f = true := by
        unfold Ca.room
        rw [h.m, h.most, decide_eq_true (by omega)]; simp
      have hR : c.roomR f (c.nextOf (ssOf us)) = (0, 0) := by unfold Ca.roomR; rw [if_pos hroom]
      have hS : c.roomS f (c.nextOf (ssOf us)) = c := by unfold Ca.roomS; rw [if_pos hroom]
      rw [hR, hS, if_pos rfl, if_neg hno, if_neg hno]
      refine ⟨rfl, h.use hf hin (List.Sublist.refl _) (fun x hx => .inr hx) (by omega) ?_, rfl⟩
      unfold addN
      rw [hnh, h.m]; rfl
    · have hyes : us.length = us.length ∧ M ≤ us.length := ⟨rfl, by omega⟩
      have hroom : c.room f = false := by
        unfold Ca.room Ca.has
        rw [h.m, h.most, hnh, decide_eq_false (by omega)]; rfl
      cases us with
      | nil => simp at hlt; omega
      | cons y t =>
        have hy := h.rng y (by simp)
        have hnx := h.next
        rw [hnx, if_pos hyes, if_pos hyes]
        have hR : c.roomR f y = (y, 0) := by unfold Ca.roomR; rw [hroom, if_neg (by simp), if_neg (by omega)]
        have hS : c.roomS f y = c.dropS y := by unfold Ca.roomS; rw [hroom, if_neg (by simp), if_neg (by omega)]
        rw [hR, hS, if_pos rfl]
        have hd := h.drop
        have hnf : ((c.dropS y).f f).isSome = false := by
          cases hq : ((c.dropS y).f f).isSome with
          | false => rfl
          | true => exact absurd (List.mem_cons_of_mem y ((hd.mem f).2 hq)) hin
        refine ⟨rfl, hd.use hf (fun e => hin (List.mem_cons_of_mem y e)) (List.Sublist.refl _) (fun x hx => .inr hx) (by have := h.len; simpa using this) ?_, rfl⟩
        unfold addN
        rw [hnf, hd.m]; rfl
end Go.Proofs.Ytciaenlampncmaa
