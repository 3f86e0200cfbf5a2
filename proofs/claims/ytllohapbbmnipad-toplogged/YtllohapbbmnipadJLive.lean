/-
  What live of the statements on journals returns.
-/
import Derived.Test.YtllohapbbmnipadJRun
import Derived.Deep.OwnRows
namespace Go.Proofs.Ytllohapbbmnipad
open Go.RowKit Go.ChangeShapes Go.WideShapes Go.ChangeAt Go.Maps
set_option linter.unusedVariables false
set_option linter.unusedSimpArgs false
theorem isB_one (W : World) (x : Int) (h0 : 0 ≤ x) (h1 : x ≤ 255) : IsB (W.alloc (.cells #[.int .u8 x] 5 (1, 2))) (some ⟨W.heap.size, 0, none⟩) 1 [x] := by
  refine ⟨rfl, by unfold maxLen; omega, fun _ => ⟨W.heap.size, 0, rfl, fun i hi => ?_⟩, fun i => ?_⟩
  · obtain rfl : i = 0 := by omega
    rw [cell_of_row _ _ _ _ _ _ (heap_alloc_new W _)]
    simp
  · rcases i with _ | i
    · simpa using ⟨h0, h1⟩
    · simp
theorem isB_nil (W : World) : IsB W none 0 [] := ⟨rfl, Nat.zero_le _, fun h => absurd h (by omega), fun i => by simp⟩
theorem isG_one (W : World) (x : Int) (h0 : 0 ≤ x) (h1 : x ≤ 255) : IsG0 ((W.alloc (.cells #[.int .u8 x] 5 (1, 2))).alloc (.cells #[.slice (some ⟨W.heap.size, 0, none⟩) 1 1] 23)) (some ⟨W.heap.size + 1, 0, none⟩) 1 [[x]] := by
  have hn := heap_alloc_new (W.alloc (.cells #[.int .u8 x] 5 (1, 2))) (.cells #[.slice (some ⟨W.heap.size, 0, none⟩) 1 1] 23)
  have hs : (W.alloc (.cells #[.int .u8 x] 5 (1, 2))).heap.size = W.heap.size + 1 := by simp
  rw [hs] at hn
  refine ⟨rfl, by unfold maxLen; omega, fun _ => ⟨W.heap.size + 1, 0, rfl, fun i hi => ?_⟩⟩
  obtain rfl : i = 0 := by omega
  refine ⟨some ⟨W.heap.size, 0, none⟩, 1, ?_, (isB_one W x h0 h1).later ((Below.refl _ _).alloc (Nat.le_refl _) _), Nat.le_refl _, fun e => by cases e⟩
  rw [cell_of_row _ _ _ _ _ _ hn]
  simp
theorem isG_two (W : World) (x : Int) (h0 : 0 ≤ x) (h1 : x ≤ 255) : IsG0 ((W.alloc (.cells #[.int .u8 x] 5 (1, 2))).alloc (.cells #[.slice (some ⟨W.heap.size, 0, none⟩) 1 1, .slice none 0 0] 23)) (some ⟨W.heap.size + 1, 0, none⟩) 2 [[x], []] := by
  have hn := heap_alloc_new (W.alloc (.cells #[.int .u8 x] 5 (1, 2))) (.cells #[.slice (some ⟨W.heap.size, 0, none⟩) 1 1, .slice none 0 0] 23)
  have hs : (W.alloc (.cells #[.int .u8 x] 5 (1, 2))).heap.size = W.heap.size + 1 := by simp
  rw [hs] at hn
  refine ⟨rfl, by unfold maxLen; omega, fun _ => ⟨W.heap.size + 1, 0, rfl, fun i hi => ?_⟩⟩
  rcases i with _ | i
  · refine ⟨some ⟨W.heap.size, 0, none⟩, 1, ?_, (isB_one W x h0 h1).later ((Below.refl _ _).alloc (Nat.le_refl _) _), Nat.le_refl _, fun e => by cases e⟩
    rw [cell_of_row _ _ _ _ _ _ hn]
    simp
  · obtain rfl : i = 0 := by omega
    refine ⟨none, 0, ?_, isB_nil _, Nat.le_refl _, fun _ => rfl⟩
    rw [cell_of_row _ _ _ _ _ _ hn]
    simp
theorem below_two {B : Nat} {a W : World} (h : Below B a W) (hB : B ≤ W.heap.size) (o o' : Obj) : Below B a ((W.alloc o).alloc o') := (h.alloc hB o).alloc (by simp; omega) o'
theorem isB_conv {w : World} {b off len cap : Nat} {zs : List Int} (h : IsB w (some ⟨b, off, none⟩) len zs) (hp : 0 < len) : (convert 23 9 (.slice (some ⟨b, off, none⟩) len cap)).run Try.prog w = .ok (.string (Fr.tx zs)) w := by
  obtain ⟨h1, h2, h3, h4⟩ := h
  refine run_convert_bytes_arg w 23 5 Try.underlying23 Try.underlying5 b off len cap zs h1 (fun i hi => ?_) 9 Try.underlying9
  obtain ⟨b', off', e, hc⟩ := h3 (by omega)
  cases e
  exact hc i hi
/-- A slice of groups. -/
def IsGs (w : World) (a : Option Addr) (n : Nat) (L : List Jo.Gr) : Prop :=
  L.length = n ∧ n ≤ maxLen ∧ (0 < n → ∃ b off, a = some ⟨b, off, none⟩ ∧ ∀ i, i < n → ∃ ga gc, w.cell? ⟨b, off + i, none⟩ = some (.slice ga (L.getD i []).length gc) ∧ IsG0 w ga (L.getD i []).length (L.getD i []))
theorem IsGs.later {w w' : World} {a : Option Addr} {n : Nat} {L : List Jo.Gr} (h : IsGs w a n L) (hb : Below w.heap.size w w') : IsGs w' a n L := by
  obtain ⟨h1, h2, h3⟩ := h
  refine ⟨h1, h2, fun hp => ?_⟩
  obtain ⟨b, off, e, hc⟩ := h3 hp
  refine ⟨b, off, e, fun i hi => ?_⟩
  obtain ⟨ga, gc, c1, c2⟩ := hc i hi
  exact ⟨ga, gc, cell_later hb c1, c2.later hb⟩
theorem PGs.isGs {B : Nat} {w : World} {v : Value} {L : List Jo.Gr} (h : PGs B w v L) (hm : L.length ≤ 100000) (hs : ∀ g ∈ L, g.length ≤ 100000) : ∃ a cap, v = .slice a L.length cap ∧ IsGs w a L.length L ∧ L.length ≤ cap := by
  obtain ⟨vals, h1, h2⟩ := h
  rcases h1.2 with ⟨rfl, hn⟩ | ⟨g, cap, cur, rfl, hg, hbk, hnc, hcm, hcs, ht⟩
  · exact ⟨none, 0, by rw [hn], ⟨rfl, by unfold maxLen; omega, fun hp => by omega⟩, by omega⟩
  · refine ⟨some ⟨g, 0, none⟩, cap, rfl, ⟨rfl, by unfold maxLen; omega, fun hp => ⟨g, 0, rfl, fun i hi => ?_⟩⟩, hnc⟩
    obtain ⟨u, e1, e2⟩ := h2 i hi
    have hmem : L.getD i [] ∈ L := by rw [List.getD, List.getElem?_eq_getElem hi]; exact List.getElem_mem hi
    obtain ⟨ga, gc, rfl, k1⟩ := e2.isG0 (hs _ hmem)
    refine ⟨ga, gc, ?_, k1⟩
    rw [cell_of_row w g _ cur 28 (0, 0) hbk]
    have e4 : (cur.toList.take (L.length * 1))[i]? = vals[i]? := by rw [ht]
    rw [List.getElem?_take, if_pos (by omega)] at e4
    rw [Nat.zero_add, ← Array.getElem?_toList, e4, e1]
theorem isG_zeros (W : World) (n : Nat) (hn : n ≤ 1000) : IsG ((W.alloc (.cells (Array.replicate n (.int .u8 0)) 5)).alloc (.cells #[.slice (some ⟨W.heap.size, 0, none⟩) n n] 23)) (some ⟨W.heap.size + 1, 0, none⟩) 1 [List.replicate n 0] := by
  have hn2 := heap_alloc_new (W.alloc (.cells (Array.replicate n (.int .u8 0)) 5)) (.cells #[.slice (some ⟨W.heap.size, 0, none⟩) n n] 23)
  have hs : (W.alloc (.cells (Array.replicate n (.int .u8 0)) 5)).heap.size = W.heap.size + 1 := by simp
  rw [hs] at hn2
  have hb : IsB (W.alloc (.cells (Array.replicate n (.int .u8 0)) 5)) (some ⟨W.heap.size, 0, none⟩) n (List.replicate n 0) := by
    refine ⟨by simp, by unfold maxLen; omega, fun _ => ⟨W.heap.size, 0, rfl, fun i hi => ?_⟩, fun i => ?_⟩
    · rw [cell_of_row _ _ _ _ _ _ (heap_alloc_new W _)]
      simp [hi, List.getD]
    · by_cases hi : i < n <;> simp [List.getD, hi]
  refine ⟨rfl, by unfold maxLen; omega, fun _ => ⟨W.heap.size + 1, 0, rfl, fun i hi => ?_⟩⟩
  obtain rfl : i = 0 := by omega
  refine ⟨some ⟨W.heap.size, 0, none⟩, n, ?_, by simpa using hb.later ((Below.refl _ _).alloc (Nat.le_refl _) _), by simp⟩
  rw [cell_of_row _ _ _ _ _ _ hn2]
  simp
theorem infoB : (Try.prog.info? 5).map (fun i => (i.zero, i.size, i.bytes)) = some (some (.int .u8 0), 1, 1) := by kernel_rfl
theorem made_rep (n : Nat) (z : Value) : madeCells #[z] n = Array.replicate n z := by
  apply Array.ext
  · simp [size_madeCells]
  · intro i h1 h2
    simp [madeCells, Nat.mod_one]
theorem make_bytes (n : Nat) (hn : n ≤ 100000) (W : World) : (Instr.makeSlice 23 (.int .i64 (n : Int)) (.int .i64 (n : Int))).run Try.prog W = .ok (.slice (some ⟨W.heap.size, 0, none⟩) n n) (W.alloc (.cells (Array.replicate n (.int .u8 0)) 5)) := by
  have := run_make_row' (P := Try.prog) 23 5 (.int .u8 0) 1 Try.underlying23 infoB rfl .i64 .i64 n (by omega) (by omega) W
  rw [made_rep] at this
  exact this
theorem need27 : Jo.needF [List.replicate 27 0] = 3 := by decide +kernel
end Go.Proofs.Ytllohapbbmnipad
