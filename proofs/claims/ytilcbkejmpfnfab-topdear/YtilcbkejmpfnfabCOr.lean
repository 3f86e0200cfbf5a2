/-
  What is at hand, gone through by rising fids.
-/
import Derived.Test.YtilcbkejmpfnfabFCl
import Derived.Test.YtilcbkejmpfnfabCMk
namespace Go.Proofs.Ytilcbkejmpfnfab
open Go.RowKit Go.ChangeShapes Go.WideShapes Go.ChangeAt Go.Maps Go.Shelf
attribute [local go_sem] Oper.semAt_some
set_option linter.unusedVariables false
set_option linter.unusedSimpArgs false
set_option maxRecDepth 100000
/-- All fids, rising. -/
def RiseF {α : Type} (f : Int → Option α) (ss : List Int) : Prop := ss.Pairwise (fun a b => a < b) ∧ ∀ x, x ∈ ss ↔ (f x).isSome = true
theorem rise_of {α : Type} {f : Int → Option α} {n : Nat} {v : Nat → Int} (h : UpF n v) (hi : ∀ i j, i < n → j < n → v i = v j → i = j) (hm : ∀ x, (∃ k, k < n ∧ v k = x) ↔ (f x).isSome = true) : RiseF f ((List.range n).map v) := by
  refine ⟨?_, fun x => ?_⟩
  · rw [List.pairwise_map]
    refine List.Pairwise.imp_of_mem ?_ List.pairwise_lt_range
    intro a b ha hb hab
    rw [List.mem_range] at ha hb
    have h1 := h a b hab hb
    have h2 := hi a b ha hb
    omega
  · rw [← hm x, List.mem_map]
    constructor
    · rintro ⟨k, hk, e⟩; exact ⟨k, List.mem_range.1 hk, e⟩
    · rintro ⟨k, hk, e⟩; exact ⟨k, List.mem_range.2 hk, e⟩
set_option maxHeartbeats 400000 in
theorem keysOb_c (b : Nat) (w : World) : Calls Try.prog 26 #[.map (some b)] w fun e w' => e = .returned (.func (.func 40) #[] #[.pointer (some ⟨w.heap.size, 0, none⟩)]) ∧ w' = w.alloc (.cells #[.map (some b)] 35) := by
  go_enter Try.func26, Try.ntmps26
  go_wp2
  go_ret
  exact ⟨rfl, rfl⟩
theorem inOrder_c (g : Nat) (w : World) : Calls Try.prog 18 #[pA g] w fun e w' => e = .returned (.func (.func 24) #[] #[.pointer (some ⟨w.heap.size, 0, none⟩)]) ∧ w' = w.alloc (.cells #[pA g] 23) := by
  go_enter Try.func18, Try.ntmps18
  go_wp2
  go_ret
  exact ⟨rfl, rfl⟩
/-- The blocks that rounds may turn. -/
abbrev Rnd (S : Nat → Prop) (A0 : World) (k : Nat) : Prop := S k ∨ A0.heap.size ≤ k
set_option maxHeartbeats 2000000 in
theorem inOrder1_in (W : World) (Bc g b1 b2 : Nat) (c : Ca) (hB : W.heap[Bc]? = some (.cells #[pA g] 23 (0, 0))) (h : IsCa W g b1 b2 c) (hm : c.m ≤ 12) (l : Nat) (S : Nat → Prop) (hS : ∀ k, S k → k < W.heap.size ∧ k ≠ Bc ∧ k ≠ g ∧ k ≠ b1 ∧ k ≠ b2) (R : List Int → World → Prop)
    (hY : ∀ A0, Below W.heap.size W A0 → ∃ J : List Int → World → Prop, J [] A0 ∧
      (∀ pre x A, J pre A → Ou (Rnd S A0) A0 A → IsCa A g b1 b2 c → (c.f x).isSome = true → pre.length < 12 → YieldAt Fence.wide 1 Try.prog l #[.int .u32 x, .agg #[.int .u64 (c.usedAt x), .bool (c.dirtyB x)]] A fun e B => e = .returned (.bool true) ∧ J (pre ++ [x]) B ∧ Ou (Rnd S A0) A B) ∧
      (∀ ss A, RiseF c.f ss → J ss A → Ou (Rnd S A0) A0 A → R ss A)) :
    CallsIn Fence.wide 2 Try.prog 24 #[.func (.yield l) #[] #[], .pointer (some ⟨Bc, 0, none⟩)] W fun e W' => (∃ v, e = .returned v) ∧ ∃ ss, RiseF c.f ss ∧ R ss W' := by
  obtain ⟨cB, fB⟩ := cell_of_box_a hB
  obtain ⟨c0, c1, c2, c3, cf, hg, hb1, hb2, n1, n2, n3⟩ := h.cells
  have HY := hid hY
  have H := hid h
  have HS := hid hS
  clear hY h hS cf c0 c1 c3
  refine callsIn_of_wp Try.func24 rfl trivial ?_ rfl
  simp only [Try.ntmps24, List.size_toArray, List.length_cons, List.length_nil, Nat.reduceAdd, Nat.reduceSub, Array.replicate_succ, Array.replicate_zero, List.push_toArray, List.append_toArray, List.nil_append, List.cons_append]
  gi_wp2_with fail
  refine ⟨trivial, (callsIn_wide.2 (keysOb_c b1 W)).mono ?_⟩
  rintro _ w1 ⟨rfl, e1⟩
  have hb01 : Below W.heap.size W w1 := by rw [e1]; exact (Below.refl _ _).alloc (Nat.le_refl _) _
  have hx1 : w1.heap[W.heap.size]? = some (.cells #[.map (some b1)] 35 (0, 0)) := by rw [e1]; exact heap_alloc_new W _
  have hs1 : W.heap.size < w1.heap.size := lt_blkC hx1
  clear e1
  gi_wp2_with fail
  refine ⟨trivial, (callsIn_wide.2 (sortedF_in 40 _ (enters_of Try.func40 (by kernel_rfl) rfl) _ c.m (by omega) w1 (keysOb_gives 2 (by omega) W.heap.size b1 c.m c.f w1 hs1 (cell_of_box_a hx1).1 (H.out.later hb01).2.1) (fun ss hss => ⟨hss.1.1, by have := hss.2; omega⟩))).mono ?_⟩
  rintro _ A0 ⟨a, n, cap, f, rfl, hcap, hat, hb12, hup, hinj, ss, hss, hlen, hmem⟩
  have hn12 : n ≤ 12 := by have := hss.2; omega
  have hbA : Below W.heap.size W A0 := hb01.trans (hb12.mono (by omega))
  have hrise : Hid (RiseF c.f ((List.range n).map f)) := hid (rise_of hup hinj (fun x => (hmem x).symm.trans (hss.1.2 x)))
  have hsome : Hid (∀ k, k < n → (c.f (f k)).isSome = true) := hid (fun k hk => (hss.1.2 _).1 ((hmem _).2 ⟨k, hk, rfl⟩))
  obtain ⟨J, hJ0, hJY, hJR⟩ := HY.out A0 hbA
  have HA0 := hid (H.out.later hbA)
  have hBA : A0.heap[Bc]? = some (.cells #[pA g] 23 (0, 0)) := by rw [hbA.block _ (lt_blkC hB)]; exact hB
  have hSg : Hid (¬ Rnd S A0 Bc ∧ ¬ Rnd S A0 g ∧ ¬ Rnd S A0 b1 ∧ ¬ Rnd S A0 b2) := hid (by
    have hz := hbA.size
    have hBl := lt_blkC hB
    refine ⟨fun e => ?_, fun e => ?_, fun e => ?_, fun e => ?_⟩ <;> rcases e with e | e
    · exact (HS.out _ e).2.1 rfl
    · omega
    · exact (HS.out _ e).2.2.1 rfl
    · omega
    · exact (HS.out _ e).2.2.2.1 rfl
    · omega
    · exact (HS.out _ e).2.2.2.2 rfl
    · omega)
  have hSr : Hid (∀ gg, w1.heap.size ≤ gg → gg < A0.heap.size → ¬ Rnd S A0 gg) := hid (fun gg h1 h2 e => by
    rcases e with e | e
    · have := (HS.out _ e).1; have := hb01.size; omega
    · omega)
  have HJY := hid hJY
  have HJR := hid hJR
  have HAT := hid hat
  clear hJY hJR hat hup hinj hss hlen hmem cB fB c2
  gi_wp2_with fail
  gi_loopw [12] (fun s wr => ∃ i : Nat, s = .int .i64 i ∧ i ≤ n ∧ J ((List.range i).map f) wr ∧ Ou (Rnd S A0) A0 wr) (fun s _ => n - (intOf s).toNat)
  case atStart => exact ⟨0, rfl, by omega, by simpa using hJ0, Ou.refl _ _⟩
  case round =>
    obtain ⟨i, rfl, hi, hJi, ho⟩ := hrel
    by_cases hin : i < n
    · obtain ⟨gg, ea, hgg, hF⟩ := HAT.out (by omega)
      subst ea
      have hFr := hF.out ho (hSr.out gg hgg hF.lt)
      obtain ⟨r1, r2⟩ := hFr.cell hin
      have hCr := HA0.out.out ho hSg.out.2.1 hSg.out.2.2.1 hSg.out.2.2.2
      have hBr : wr.heap[Bc]? = some (.cells #[pA g] 23 (0, 0)) := by rw [ho.block _ (lt_blkC hBA) hSg.out.1]; exact hBA
      obtain ⟨q1, q2⟩ := cell_of_box_a hBr
      have hso := hsome.out i hin
      obtain ⟨ob, eob⟩ := Option.isSome_iff_exists.1 hso
      obtain ⟨k0, k1⟩ := hCr.2.1.keys eob
      have LK := hCr.2.1.look ht1 zeroOb k0 k1
      rw [obE_at] at LK
      obtain ⟨d0, d1, d2, d3, df, _⟩ := hCr.cells
      obtain ⟨fn, tmps, assign, body, hy, hR⟩ := HJY.out _ (f i) wr hJi ho hCr hso (by simp; omega)
      have HR := hid hR
      have i1 : (i : Int) < n := by omega
      have i2 : (0 : Int) ≤ i := by omega
      clear hR df d0 d1 d3 eob
      gi_wp2_with fail
      refine HR.out.mono ?_
      rintro _ W3 ⟨rfl, hJ3, ho3⟩
      gi_wp2_with fail
      go_roundw
      case rel => exact ⟨i + 1, by norm_cast, by omega, by rw [List.range_succ, List.map_append]; exact hJ3, ho.trans ho3⟩
      case measure => simp [intOf]; omega
    · have hi' : i = n := by omega
      subst hi'
      have hc := HJR.out _ wr hrise.out hJi ho
      have i1 : ¬ ((i : Int) < i) := by omega
      gi_wp2_with fail
      exact body_endF (by kernel_rfl) rfl ⟨⟨_, rfl⟩, _, hrise.out, hc⟩
end Go.Proofs.Ytilcbkejmpfnfab
