/-
  What is dirty, what is dear; which of two goes first.
-/
import Derived.Test.YtilcbkejmpfnfabCMo
namespace Go.Proofs.Ytilcbkejmpfnfab
open Go.RowKit Go.ChangeShapes Go.WideShapes Go.ChangeAt Go.Maps
set_option linter.unusedVariables false
set_option linter.unusedSimpArgs false
set_option maxRecDepth 100000
/-- What Hoard answers and leaves. -/
def Ca.hoardE (c : Ca) (i n : Int) : Int := if i = 0 ∨ n < 0 ∨ 100 < n then 2 else if n = 0 then 0 else if c.dearN i = 0 ∧ 8 ≤ c.k then 4 else 0
def Ca.hoardS (c : Ca) (i n : Int) : Ca := if c.hoardE i n = 0 then (if n = 0 then c.coldS i else c.dearS i n) else c
set_option maxHeartbeats 2000000 in
theorem hoard_c {w : World} {g b1 b2 : Nat} {c : Ca} (h : IsCa w g b1 b2 c) (hm : c.k < 1000) {i n : Int} (h0 : 0 ≤ i) (h1 : i < 4294967296) :
    Calls Try.prog 5 #[pA g, .int .u32 i, .int .i64 n] w fun e w' => e = .returned (.int .i64 (c.hoardE i n)) ∧ IsCa w' g b1 b2 (c.hoardS i n) ∧ Ou (Tri g b1 b2) w w' := by
  have H := hid h
  have DC := hid (dear_c h h0 h1)
  have LN : ∀ ty, (Builtin.len_ #[36] ty #[.map (some b2)]).run Try.prog w = .ok (.int .i64 (c.k : Int)) w := fun ty => h.2.2.1.len ht2 ty
  obtain ⟨c0, c1, c2, c3, cf, l0, l1, l2, n1, n2, n3⟩ := h.cells
  by_cases e0 : i = 0
  · have b0 : (i == 0) = true := by rw [e0]; rfl
    have E : Hid (c.hoardE i n = 2) := hid (by unfold Ca.hoardE; rw [if_pos (.inl e0)])
    clear h LN
    go_enter Try.func5, Try.ntmps5
    go_wp2
    go_ret
    exact ⟨ret_int E.out.symm, by unfold Ca.hoardS; rw [E.out]; exact H.out, Ou.refl _ _⟩
  have b0 : (i == 0) = false := by rw [beq_eq_false_iff_ne]; exact e0
  by_cases e1 : n < 0
  · have d1 : decide (n < 0) = true := decide_eq_true e1
    have E : Hid (c.hoardE i n = 2) := hid (by unfold Ca.hoardE; rw [if_pos (.inr (.inl e1))])
    clear h LN
    go_enter Try.func5, Try.ntmps5
    go_wp2
    go_ret
    exact ⟨ret_int E.out.symm, by unfold Ca.hoardS; rw [E.out]; exact H.out, Ou.refl _ _⟩
  have d1 : decide (n < 0) = false := decide_eq_false e1
  by_cases e2 : 100 < n
  · have d2 : decide (100 < n) = true := decide_eq_true e2
    have E : Hid (c.hoardE i n = 2) := hid (by unfold Ca.hoardE; rw [if_pos (.inr (.inr e2))])
    clear h LN
    go_enter Try.func5, Try.ntmps5
    go_wp2
    go_ret
    exact ⟨ret_int E.out.symm, by unfold Ca.hoardS; rw [E.out]; exact H.out, Ou.refl _ _⟩
  have d2 : decide (100 < n) = false := decide_eq_false e2
  have hno : ¬ (i = 0 ∨ n < 0 ∨ 100 < n) := by rintro (q | q | q) <;> contradiction
  by_cases e3 : n = 0
  · have b3 : (n == 0) = true := by rw [e3]; rfl
    have E : Hid (c.hoardE i n = 0) := hid (by unfold Ca.hoardE; rw [if_neg hno, if_pos e3])
    have E3 := hid e3
    obtain ⟨w3, DR, IM, MT⟩ := h.2.2.1.drop ht2 h0 h1 0
    have R3 : Hid (IsCa w3 g b1 b2 (c.coldS i)) := hid (h.turn2 IM MT)
    have O3 := hid (Ou.turned (S := Tri g b1 b2) MT (.inr (.inr rfl)))
    clear h LN IM MT e3
    go_enter Try.func5, Try.ntmps5
    go_wp2
    go_ret
    exact ⟨ret_int E.out.symm, by unfold Ca.hoardS; rw [E.out, if_pos rfl, if_pos E3.out]; exact R3.out, O3.out⟩
  have b3 : (n == 0) = false := by rw [beq_eq_false_iff_ne]; exact e3
  by_cases e4 : c.dearN i = 0 ∧ 8 ≤ c.k
  · have E : Hid (c.hoardE i n = 4) := hid (by unfold Ca.hoardE; rw [if_neg hno, if_neg e3, if_pos e4])
    have b4 : (c.dearN i == 0) = true := by rw [e4.1]; rfl
    have d5 : (8 : Int) ≤ (c.k : Int) := by omega
    have d5' : decide ((8 : Int) ≤ (c.k : Int)) = true := decide_eq_true d5
    have LK := LN
    generalize c.dearN i = dn at *
    clear h e4
    go_enter Try.func5, Try.ntmps5
    go_wp2_with (go_at_call 10; refine DC.out.mono ?_; rintro _ w1 ⟨rfl, h2⟩; rw [h2])
    go_ret
    exact ⟨ret_int E.out.symm, by unfold Ca.hoardS; rw [E.out]; exact H.out, Ou.refl _ _⟩
  · have E : Hid (c.hoardE i n = 0) := hid (by unfold Ca.hoardE; rw [if_neg hno, if_neg e3, if_neg e4])
    have E3 := hid e3
    obtain ⟨w3, SR, IM, MT⟩ := h.2.2.1.store hm ht2 h0 h1 n
    rw [show numE.enc n = .int .i64 n from rfl] at SR
    have R3 : Hid (IsCa w3 g b1 b2 (c.dearS i n)) := hid (h.turn2 IM MT)
    have O3 := hid (Ou.turned (S := Tri g b1 b2) MT (.inr (.inr rfl)))
    by_cases e5 : c.dearN i = 0
    · have b4 : (c.dearN i == 0) = true := by rw [e5]; rfl
      have d5 : ¬ (8 : Int) ≤ (c.k : Int) := by omega
      have d5' : decide ((8 : Int) ≤ (c.k : Int)) = false := decide_eq_false d5
      generalize c.dearN i = dn at *
      clear h e4 IM MT e3 e5
      go_enter Try.func5, Try.ntmps5
      go_wp2_with (go_at_call 10; refine DC.out.mono ?_; rintro _ w1 ⟨rfl, h2⟩; rw [h2])
      go_ret
      exact ⟨ret_int E.out.symm, by unfold Ca.hoardS; rw [E.out, if_pos rfl, if_neg E3.out]; exact R3.out, O3.out⟩
    · have b4 : (c.dearN i == 0) = false := by rw [beq_eq_false_iff_ne]; exact e5
      generalize c.dearN i = dn at *
      clear h e4 IM MT e3 e5
      go_enter Try.func5, Try.ntmps5
      go_wp2_with (go_at_call 10; refine DC.out.mono ?_; rintro _ w1 ⟨rfl, h2⟩; rw [h2])
      go_ret
      exact ⟨ret_int E.out.symm, by unfold Ca.hoardS; rw [E.out, if_pos rfl, if_neg E3.out]; exact R3.out, O3.out⟩
set_option maxHeartbeats 400000 in
theorem hoard_nil (i n : Int) (w : World) : Calls Try.prog 5 #[.pointer none, .int .u32 i, .int .i64 n] w fun e w' => e = .returned (.int .i64 1) ∧ w' = w := by
  go_enter Try.func5, Try.ntmps5
  go_wp2
  go_ret
  exact ⟨rfl, rfl⟩
/-- Does a fid go ahead of another one? -/
def Ca.first (c : Ca) (i j : Int) : Bool := if c.dearN i = c.dearN j then decide (c.usedAt i < c.usedAt j) else decide (c.dearN i < c.dearN j)
set_option maxHeartbeats 2000000 in
theorem goesFirst_c {w : World} {g b1 b2 : Nat} {c : Ca} (h : IsCa w g b1 b2 c) {i j : Int} (h0 : 0 ≤ i) (h1 : i < 4294967296) (j0 : 0 ≤ j) (j1 : j < 4294967296) :
    Calls Try.prog 37 #[pA g, .int .u32 i, .int .u32 j] w fun e w' => e = .returned (.bool (c.first i j)) ∧ Below w.heap.size w w' := by
  have a1 := IsFm.look (w := w.drew) h.2.2.1 ht2 zeroNu h0 h1
  have a2 := IsFm.look (w := w.drew) h.2.2.1 ht2 zeroNu j0 j1
  have e1 := IsFm.look (w := w.drew.drew) h.2.2.1 ht2 zeroNu h0 h1
  have e2 := IsFm.look (w := w.drew.drew) h.2.2.1 ht2 zeroNu j0 j1
  have e3 := IsFm.look (w := w.drew.drew) h.2.1 ht1 zeroOb h0 h1
  have e4 := IsFm.look (w := w.drew.drew) h.2.1 ht1 zeroOb j0 j1
  rw [numE_at] at a1 a2 e1 e2
  rw [obE_at] at e3 e4
  obtain ⟨c0, c1, c2, c3, cf, _⟩ := h.cells
  have RV : Hid (c.first i j = if c.dearN i = c.dearN j then decide (c.usedAt i < c.usedAt j) else decide (c.dearN i < c.dearN j)) := hid rfl
  have B : Hid (Below w.heap.size w w.drew.drew) := hid ⟨rfl, rfl, rfl, Nat.le_refl _, fun _ _ => rfl⟩
  generalize c.first i j = fb at *
  generalize c.dearN i = di at *
  generalize c.dearN j = dj at *
  generalize c.usedAt i = ui at *
  generalize c.usedAt j = uj at *
  generalize c.dirtyB i = yi at *
  generalize c.dirtyB j = yj at *
  have F1 := fieldU ui yi w.drew.drew
  have F2 := fieldU uj yj w.drew.drew
  clear h cf
  by_cases hd : di = dj
  · have hb : (di != dj) = false := by rw [hd]; simp
    have HD := hid hd
    clear hd e1 e2
    go_enter Try.func37, Try.ntmps37
    go_wp2_with fail
    go_region
    go_wp2_with fail
    go_region
    go_wp2
    go_ret
    exact ⟨ret_bool (by rw [RV.out, if_pos HD.out]), B.out⟩
  · have hb : (di != dj) = true := by rw [bne_iff_ne]; exact hd
    have HD := hid hd
    clear hd e3 e4
    go_enter Try.func37, Try.ntmps37
    go_wp2_with fail
    go_region
    go_wp2_with fail
    go_region
    go_wp2
    go_ret
    exact ⟨ret_bool (by rw [RV.out, if_neg HD.out]), B.out⟩
end Go.Proofs.Ytilcbkejmpfnfab
