/-
  A map's fids, as they come one by one.
-/
import Derived.Test.YtilcbkejmpfnfabFMp
import Derived.RangeFuncSeq
import Derived.RangeFuncGives
import Derived.Sort.MapsRangeIn
import Derived.Shelf.AbstractIn
import Derived.Shelf.Abstract
import Derived.Shelf.RegionOpen
import Derived.OwnWalkIn
import Derived.TacticsInMore
import Derived.RegionIn
import Derived.LoopNIn
import Derived.LoopIn
import Derived.Maps.AppendAt
namespace Go.Proofs.Ytilcbkejmpfnfab
open Go.RowKit Go.ChangeShapes Go.WideShapes Go.ChangeAt Go.Maps Go.Shelf
set_option linter.unusedVariables false
set_option linter.unusedSimpArgs false
set_option maxRecDepth 100000
def encF (x : Int) : Value := .int .u32 x
theorem keyF_inv {key : Value} {kl : Lit} (h : keyOf Try.prog 28 key = some kl) : ∃ x, key = encF x ∧ kl = kyF x := by
  obtain ⟨i, e1, e2, _⟩ := Maps.keyOf_int_inv Try.underlying28 h
  exact ⟨i, e1, e2⟩
section
variable {α : Type}
/-- The fids of a map that have come so far: each once. -/
def Col (D : DataW α) (left : Lit → Bool) (ss : List Int) : Prop :=
  ss.Nodup ∧ (∀ i, i ∈ ss → Maps.has D (kyF i) = true ∧ left (kyF i) = false) ∧ ∀ i, Maps.has D (kyF i) = true → left (kyF i) = false → i ∈ ss
theorem Col.start (D : DataW α) : Col D (Maps.has D) [] := ⟨List.nodup_nil, fun i h => by simp at h, fun i h1 h2 => by rw [h1] at h2; cases h2⟩
theorem Col.step {D : DataW α} {left : Lit → Bool} {ss : List Int} (h : Col D left ss) {x : Int} (hl : left (kyF x) = true) (hh : Maps.has D (kyF x) = true) : Col D (fun z => left z && !z.sameKey (kyF x)) (ss ++ [x]) := by
  obtain ⟨h1, h2, h3⟩ := h
  have hx : x ∉ ss := fun e => by have := (h2 x e).2; rw [hl] at this; cases this
  refine ⟨?_, fun i hi => ?_, fun i a b => ?_⟩
  · rw [List.nodup_append]
    exact ⟨h1, by simp, fun a ha b hb => by simp at hb; subst hb; exact fun e => hx (e ▸ ha)⟩
  · rw [List.mem_append] at hi
    rcases hi with hi | hi
    · exact ⟨(h2 i hi).1, by simp [(h2 i hi).2]⟩
    · simp at hi
      subst hi
      exact ⟨hh, by simp [same_kyF]⟩
  · rw [List.mem_append]
    cases hli : left (kyF i) with
    | false => exact .inl (h3 i a hli)
    | true =>
      simp [hli, same_kyF] at b
      subst b
      exact .inr (by simp)
theorem Col.all {D : DataW α} {left : Lit → Bool} {ss : List Int} (h : Col D left ss) (hl : ∀ kl, left kl = false) : ss.Nodup ∧ ∀ i, i ∈ ss ↔ Maps.has D (kyF i) = true :=
  ⟨h.1, fun i => ⟨fun hi => (h.2.1 i hi).1, fun hi => h.2.2 i hi (hl _)⟩⟩
end
/-- All fids of a map, each once. -/
def AllF {α : Type} (f : Int → Option α) (ss : List Int) : Prop := ss.Nodup ∧ ∀ i, i ∈ ss ↔ (f i).isSome = true
set_option maxHeartbeats 1000000 in
theorem keysOb_gives (n : Nat) (hn : 1 ≤ n) (Bm b m : Nat) (f : Int → Option Ob) (w : World) (hBm : Bm < w.heap.size) (hm : w.cell? ⟨Bm, 0, none⟩ = some (.map (some b))) (hf : IsFm obE w b m f) :
    SeqGives Fence.wide n Try.prog 40 #[.pointer (some ⟨Bm, 0, none⟩)] encF (fun ss => AllF f ss ∧ ss.length ≤ m) m w := by
  intro l J W hW hJ hY h0
  have hfW : IsFm obE W b m f := hf.out (S := fun _ => False) (Ou.of hW) id
  have hmW : W.cell? ⟨Bm, 0, none⟩ = some (.map (some b)) := (hW.cell (p := ⟨Bm, 0, none⟩) hBm).trans hm
  obtain ⟨D, hown, hs, hfD⟩ := hfW
  have HF : Hid (∀ ss, (ss.Nodup ∧ ∀ i, i ∈ ss ↔ Maps.has D (kyF i) = true) → AllF f ss) := hid (fun ss h => ⟨h.1, fun i => by rw [h.2, Maps.has_eq_look_of (E := obE) hown i, hfD i]⟩)
  have HS := hid hs
  clear hf hm hfD hW hBm hs
  refine callsIn_of_wp Try.func40 rfl trivial ?_ rfl
  simp only [Try.ntmps40, List.size_toArray, List.length_cons, List.length_nil, Nat.reduceAdd, Nat.reduceSub, Array.replicate_succ, Array.replicate_zero, List.push_toArray, List.append_toArray, List.nil_append, List.cons_append]
  gi_wp2_with (first
    | (gi_at_range; refine wpListIn_range_own _ rfl _ 35 rfl 28 47 lawF Try.underlying35 _ b m _ rfl hown ?_; intro w0 hrg0 hg0 hs0)
    | gi_in)
  go_frame
  gi_loopw [3] (fun _ wr => ∃ (left : Lit → Bool) (cnt : Nat) (ss : List Int), wr.ranges Try.prog 28 obE.rd b W.heap.size m D left cnt ∧ ss.length + cnt ≤ m ∧ Col D left ss ∧ J ss wr) (fun _ wr => wr.rangeLeft b W.heap.size)
  case atStart => exact ⟨_, _, [], hrg0, by simp [HS.out], Col.start D, hJ [] W w0 none h0 hg0 (fun r e => by cases e)⟩
  case round =>
    obtain ⟨left, cnt, ss, hrg, hcs, hC, hJs⟩ := hrel
    gi_wp2_with (first
      | (gi_at_next; refine wpListIn_next_ranges _ rfl _ rfl 28 lawF obE.rd encF id (fun key kl hk => by obtain ⟨x, hx, _⟩ := keyF_inv hk; exact ⟨x, hx⟩) (fun v _ _ => ⟨v, rfl⟩) b W.heap.size m _ _ _ rfl hrg ?_ ?_)
      | gi_in)
    · intro hc0 hl0
      gi_wp2
      exact body_endF (by kernel_rfl) rfl ⟨⟨_, rfl⟩, ss, ⟨HF.out ss (hC.all hl0), by omega⟩, hJs⟩
    · intro x c kl yd yp w2 cnt2 hkey hlk hv hat hrg2 hlt hg2 hs2 hen
      obtain ⟨x', ex, rfl⟩ := keyF_inv hkey
      obtain rfl : x = x' := by unfold encF at ex; cases ex; rfl
      have hJ2 : J ss w2 := hJ ss wr w2 (some W.heap.size) hJs hg2 (fun r e => by cases e; exact ⟨Nat.le_refl _, hrg.iter_walk⟩)
      obtain ⟨fn, tmps, assign, body, hy, hR⟩ := hY ss x w2 hJ2 (by omega)
      have hh : Maps.has D (kyF x) = true := Maps.has_true_of_atKey hat
      clear hs2
      gi_wp2
      refine hR.mono ?_
      rintro e W3 ⟨rfl, hJ3, hk3⟩
      gi_wp2
      have hrg3 := hrg2.of_walks hk3
      go_roundw
      case rel => exact ⟨_, cnt2, ss ++ [x], hrg3, by simp; omega, hC.step hlk hh, hJ3⟩
      case measure => rw [hrg3.left_eq, hrg.left_eq]; exact hlt
end Go.Proofs.Ytilcbkejmpfnfab
