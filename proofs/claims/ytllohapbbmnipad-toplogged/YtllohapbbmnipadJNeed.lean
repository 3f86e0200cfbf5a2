/-
  What readHead, sectorsOf and Need of the package journal return, and Need of the document: one contract a function.
-/
import Derived.Test.YtllohapbbmnipadJSec
namespace Go.Proofs.Ytllohapbbmnipad
open Go.RowKit Go.ChangeShapes Go.WideShapes Go.ChangeAt Go.Maps
set_option linter.unusedVariables false
set_option linter.unusedSimpArgs false
/-- A slice of slices of bytes: the parts of a group. -/
def IsG (w : World) (a : Option Addr) (len : Nat) (g : Jo.Gr) : Prop :=
  g.length = len ∧ len ≤ maxLen ∧ (0 < len → ∃ b off, a = some ⟨b, off, none⟩ ∧ ∀ i, i < len → ∃ pa cap, w.cell? ⟨b, off + i, none⟩ = some (.slice pa (g.getD i []).length cap) ∧ IsB w pa (g.getD i []).length (g.getD i []) ∧ (g.getD i []).length ≤ cap)
theorem IsG.later {w w' : World} {a : Option Addr} {len : Nat} {g : Jo.Gr} (h : IsG w a len g) (hb : Below w.heap.size w w') : IsG w' a len g := by
  obtain ⟨h1, h2, h3⟩ := h
  refine ⟨h1, h2, fun hp => ?_⟩
  obtain ⟨b, off, e, hc⟩ := h3 hp
  refine ⟨b, off, e, fun i hi => ?_⟩
  obtain ⟨pa, cap, c1, c2, c3⟩ := hc i hi
  exact ⟨pa, cap, cell_later hb c1, c2.later hb, c3⟩
theorem IsG.bytes {w : World} {a : Option Addr} {len : Nat} {g : Jo.Gr} (h : IsG w a len g) : ∀ p ∈ g, Jo.Bytes p := by
  intro p hp x hx
  obtain ⟨i, hi, rfl⟩ := List.getElem_of_mem hp
  obtain ⟨h1, h2, h3⟩ := h
  obtain ⟨b, off, e, hc⟩ := h3 (by omega)
  obtain ⟨pa, cap, c1, c2, c3⟩ := hc i (by omega)
  obtain ⟨j, hj, rfl⟩ := List.getElem_of_mem hx
  have := c2.2.2.2 j
  simp [List.getD, hi, hj] at this
  omega
theorem need_len {g : Jo.Gr} (h : g.length < 1 ∨ 8 < g.length) : Jo.needF g = 0 := by
  unfold Jo.needF; rw [if_neg (fun e => by have := Jo.ok_iff.1 e; omega)]
theorem need_big {g : Jo.Gr} (k : Nat) (hk : k < g.length) (h : 16384 < (g.getD k []).length) : Jo.needF g = 0 := by
  unfold Jo.needF
  rw [if_neg fun e => ?_]
  have := (Jo.ok_iff.1 e).2.2 g[k] (List.getElem_mem hk)
  simp [List.getD, hk] at h
  omega
theorem need_all {g : Jo.Gr} (h1 : 1 ≤ g.length) (h2 : g.length ≤ 8) (h : ∀ k, k < g.length → (g.getD k []).length ≤ 16384) : Jo.needF g = Jo.secsOf (Jo.loadF g).length := by
  refine Jo.need_ok (Jo.ok_iff.2 ⟨h1, h2, fun p hp => ?_⟩)
  obtain ⟨i, hi, rfl⟩ := List.getElem_of_mem hp
  have := h i hi
  simpa [List.getD, hi] using this
theorem load_len_take {g : Jo.Gr} {k : Nat} (h : k < g.length) : (Jo.loadF (g.take (k + 1))).length = (Jo.loadF (g.take k)).length + (4 + (g.getD k []).length) := by
  rw [Jo.load_take h]; simp [Jo.le4_len]
theorem load_take_le {g : Jo.Gr} {k : Nat} (hk : k ≤ g.length) (h8 : g.length ≤ 8) (h : ∀ j, j < k → (g.getD j []).length ≤ 16384) : (Jo.loadF (g.take k)).length ≤ 131104 := by
  have h1 := Jo.load_le (g := g.take k) (m := 16384) fun p hp => by
    obtain ⟨i, hi, rfl⟩ := List.getElem_of_mem hp
    have h2 := h i (by simp at hi; omega)
    have hi2 : i < g.length := by simp at hi; omega
    simpa [List.getD, hi2] using h2
  have h3 : (g.take k).length * (4 + 16384) ≤ 8 * (4 + 16384) := Nat.mul_le_mul_right _ (by simp; omega)
  omega
set_option maxHeartbeats 400000 in
theorem sectorsOf_c (n : Nat) (w : World) (h : n ≤ 1000000) : Calls Try.prog 65 #[.int .i64 n] w fun e w' => e = .returned (.int .i64 (Jo.secsOf n : Nat)) ∧ w' = w := by
  have E : Hid (((Jo.secsOf n : Nat) : Int) = 2 + ((n : Int) + 31 - 1) / 31) := by unfold Jo.secsOf Jo.many; show _ = _; omega
  go_enter Try.func65, Try.ntmps65
  go_wp2
  go_ret
  exact ⟨ret_int E.out.symm, rfl⟩
set_option maxHeartbeats 1000000 in
theorem needs_c (a : Option Addr) (len cap : Nat) (g : Jo.Gr) (w : World) (h : IsG w a len g) :
    Calls Try.prog 39 #[.slice a len cap] w fun e w' => e = .returned (.int .i64 (Jo.needF g : Nat)) ∧ w' = w := by
  obtain ⟨h1, h2, h3⟩ := h
  unfold maxLen at h2
  by_cases hs : len < 1
  · have E := hid (need_len (g := g) (by omega))
    go_enter Try.func39, Try.ntmps39
    go_wp2
    go_ret
    exact ⟨ret_int (by rw [E.out]; rfl), rfl⟩
  by_cases hg : 8 < len
  · have E := hid (need_len (g := g) (by omega))
    have hg' : (8 : Int) < len := by omega
    clear h3
    go_enter Try.func39, Try.ntmps39
    go_wp2
    go_ret
    exact ⟨ret_int (by rw [E.out]; rfl), rfl⟩
  obtain ⟨b, off, rfl, hc⟩ := h3 (by omega)
  have hs' : ¬ (len : Int) < 1 := by omega
  have hg' : ¬ (8 : Int) < len := by omega
  have HC := hid hc
  have HL := hid h1
  clear hc h3 h1
  go_enter Try.func39, Try.ntmps39
  go_wp2
  go_loop [3, 16] (fun n i => ∃ k : Nat, k ≤ len ∧ i = .int .i64 k ∧ n = .int .i64 ((Jo.loadF (g.take k)).length : Nat) ∧ ∀ j, j < k → (g.getD j []).length ≤ 16384) (fun _ i => len - (intOf i).toNat)
  case atStart => exact ⟨0, Nat.zero_le _, rfl, by simp [Jo.loadF], fun j hj => by omega⟩
  case round =>
    obtain ⟨k, hk, rfl, rfl, hall⟩ := hrel
    have hle := load_take_le (g := g) (k := k) (by rw [HL.out]; exact hk) (by rw [HL.out]; omega) hall
    by_cases hlt : k < len
    · obtain ⟨pa, pc, c1, c2, c3⟩ := HC.out k hlt
      have hpl := c2.2.1
      unfold maxLen at hpl
      have HT := hid (load_len_take (g := g) (k := k) (by rw [HL.out]; exact hlt))
      by_cases hbig : 16384 < (g.getD k []).length
      · have E := hid (need_big (g := g) k (by rw [HL.out]; exact hlt) hbig)
        generalize (g.getD k []).length = pl at *
        go_wp2
        go_ret
        exact ⟨ret_int (by rw [E.out]; rfl), rfl⟩
      · have HA := hid hall
        have HB := hid hbig
        clear hall
        generalize (Jo.loadF (g.take k)).length = q at *
        have hbig' : ¬ (16384 : Int) < ((g.getD k []).length : Nat) := by omega
        go_wp2
        go_round
        case rel => exact ⟨k + 1, by omega, by go_num, by rw [HT.out]; go_num, fun j hj => by
          by_cases e : j = k
          · subst e; exact Nat.le_of_not_lt HB.out
          · exact HA.out j (by omega)⟩
        case measure => simp [intOf]; omega
    · have ek : k = len := by omega
      subst ek
      have hne := need_all (g := g) (by rw [HL.out]; omega) (by rw [HL.out]; omega) (fun j hj => hall j (by rw [HL.out] at hj; exact hj))
      have ht : g.take k = g := List.take_of_length_le (by rw [HL.out]; exact Nat.le_refl _)
      rw [ht] at hle ⊢
      have E := hid hne
      clear hne ht hall
      go_wp2_with ((go_at_call 65; refine (sectorsOf_c _ _ (by omega)).mono ?_; rintro e w' ⟨rfl, rfl⟩))
      go_ret
      exact ⟨ret_int (by rw [E.out]), rfl⟩
end Go.Proofs.Ytllohapbbmnipad
