/-
  Bytes in sectors: plain laws.
-/
import Derived.Test.YteimegacnmakaacDEnds
import Derived.Test.YteimegacnmakaacFCut
namespace Go.Proofs.Yteimegacnmakaac
open Go.RowKit Go.ChangeShapes Go.WideShapes Go.ChangeAt Go.Maps
set_option linter.unusedVariables false
set_option linter.unusedSimpArgs false
/-- The i-th 32 of some bytes, the first k of them, then noughts. -/
def part (zs : List Int) (i k : Nat) : Sec := (List.range 32).map fun j => if j < k then zs.getD (32 * i + j) 0 else 0
def chunk (zs : List Int) (i : Nat) : Sec := part zs i 32
theorem part_len (zs : List Int) (i k : Nat) : (part zs i k).length = 32 := by unfold part; simp
theorem part_get (zs : List Int) (i k j : Nat) (h : j < 32) : (part zs i k)[j]? = some (if j < k then zs.getD (32 * i + j) 0 else 0) := by
  unfold part; rw [List.getElem?_map, List.getElem?_range h]; rfl
theorem zsec_get (j : Nat) (h : j < 32) : zsec[j]? = some 0 := by unfold zsec; rw [List.getElem?_replicate, if_pos h]
theorem sec_ext {s t : Sec} (hs : s.length = 32) (ht : t.length = 32) (h : ∀ j, j < 32 → s[j]? = t[j]?) : s = t := by
  apply List.ext_getElem?
  intro j
  by_cases hj : j < 32
  · exact h j hj
  · rw [List.getElem?_eq_none (by omega), List.getElem?_eq_none (by omega)]
theorem part_zero (zs : List Int) (i : Nat) : part zs i 0 = zsec :=
  sec_ext (part_len _ _ _) zsec_is.1 fun j hj => by rw [part_get _ _ _ _ hj, zsec_get j hj, if_neg (by omega)]
theorem part_sec (zs : List Int) (hz : ∀ j, 0 ≤ zs.getD j 0 ∧ zs.getD j 0 ≤ 255) (i k : Nat) : IsSec (part zs i k) := by
  refine ⟨part_len _ _ _, fun x hx => ?_⟩
  unfold part at hx
  obtain ⟨j, _, rfl⟩ := List.mem_map.1 hx
  have := hz (32 * i + j)
  split <;> omega
theorem part_end (zs : List Int) (i k : Nat) (h : 32 ≤ k ∨ zs.length ≤ 32 * i + k) : part zs i k = chunk zs i :=
  sec_ext (part_len _ _ _) (part_len _ _ _) fun j hj => by
    unfold chunk
    rw [part_get _ _ _ _ hj, part_get _ _ _ _ hj, if_pos hj]
    by_cases h1 : j < k
    · rw [if_pos h1]
    · rw [if_neg h1]
      have : zs.length ≤ 32 * i + j := by omega
      simp [List.getD, List.getElem?_eq_none this]
theorem chunk_out (zs : List Int) (i : Nat) (h : zs.length ≤ 32 * i) : chunk zs i = zsec := by
  rw [← part_end zs i 0 (by omega), part_zero]
theorem part_set (zs : List Int) (i k : Nat) (h : k < 32) (v : Value) (hv : v = by8 (zs.getD (32 * i + k) 0)) : ((part zs i k).map by8).toArray.setIfInBounds k v = ((part zs i (k + 1)).map by8).toArray := by
  subst hv
  apply Array.ext'
  rw [Array.toList_setIfInBounds]
  simp only
  apply List.ext_getElem?
  intro j
  rw [List.getElem?_set, List.getElem?_map, List.getElem?_map]
  by_cases hj : j < 32
  · rw [part_get _ _ _ _ hj, part_get _ _ _ _ hj]
    by_cases hk : k = j
    · subst hk
      rw [if_pos rfl, if_pos (by rw [List.length_map, part_len]; exact hj), if_pos (by omega)]; rfl
    · rw [if_neg hk]
      by_cases h1 : j < k
      · rw [if_pos h1, if_pos (by omega)]
      · rw [if_neg h1, if_neg (by omega)]
  · rw [List.getElem?_eq_none (l := part zs i k) (by rw [part_len]; omega), List.getElem?_eq_none (l := part zs i (k + 1)) (by rw [part_len]; omega), if_neg (by omega)]
/-- Sectors one behind the other. -/
def flat (g : Nat → Sec) (n : Nat) : List Int := (List.range n).flatMap g
theorem flat_succ (g : Nat → Sec) (n : Nat) : flat g (n + 1) = flat g n ++ g n := by unfold flat; rw [List.range_succ, List.flatMap_append]; simp
theorem flat_len (g : Nat → Sec) (hg : ∀ i, (g i).length = 32) (n : Nat) : (flat g n).length = 32 * n := by
  induction n with
  | zero => rfl
  | succ n ih => rw [flat_succ, List.length_append, ih, hg]; omega
theorem flat_get (g : Nat → Sec) (hg : ∀ i, (g i).length = 32) (n i j : Nat) (hi : i < n) (hj : j < 32) : (flat g n)[32 * i + j]? = (g i)[j]? := by
  induction n with
  | zero => omega
  | succ n ih =>
    rw [flat_succ]
    by_cases h : i < n
    · rw [List.getElem?_append_left (by rw [flat_len g hg]; omega), ih h]
    · obtain rfl : i = n := by omega
      rw [List.getElem?_append_right (by rw [flat_len g hg]; omega), flat_len g hg, show 32 * i + j - 32 * i = j by omega]
theorem chunk_len (zs : List Int) (i : Nat) : (chunk zs i).length = 32 := part_len _ _ _
theorem flat_chunk (zs : List Int) (n : Nat) (h : zs.length ≤ 32 * n) : flat (chunk zs) n = zs ++ List.replicate (32 * n - zs.length) 0 := by
  apply List.ext_getElem?
  intro m
  by_cases hm : m < 32 * n
  · have e : m = 32 * (m / 32) + m % 32 := by omega
    have e2 := flat_get (chunk zs) (chunk_len zs) n (m / 32) (m % 32) (by omega) (by omega)
    rw [← e] at e2
    rw [e2]
    unfold chunk
    rw [part_get _ _ _ _ (by omega), if_pos (by omega), ← e]
    by_cases hl : m < zs.length
    · rw [List.getElem?_append_left hl]; simp [List.getD, hl]
    · rw [List.getElem?_append_right (by omega), List.getElem?_replicate, if_pos (by omega)]
      simp [List.getD, List.getElem?_eq_none (show zs.length ≤ m by omega)]
  · rw [List.getElem?_eq_none (by rw [flat_len _ (chunk_len zs)]; omega), List.getElem?_eq_none (by rw [List.length_append, List.length_replicate]; omega)]
def nine : Sec := 9 :: List.replicate 31 0
theorem nine_is : IsSec nine := ⟨by simp [nine], fun x hx => by
  unfold nine at hx
  rcases List.mem_cons.1 hx with rfl | hx
  · omega
  · have := List.eq_of_mem_replicate hx; omega⟩
theorem nlit : (#[.int .u8 9, .int .u8 0, .int .u8 0, .int .u8 0, .int .u8 0, .int .u8 0, .int .u8 0, .int .u8 0, .int .u8 0, .int .u8 0, .int .u8 0, .int .u8 0, .int .u8 0, .int .u8 0, .int .u8 0, .int .u8 0, .int .u8 0, .int .u8 0, .int .u8 0, .int .u8 0, .int .u8 0, .int .u8 0, .int .u8 0, .int .u8 0, .int .u8 0, .int .u8 0, .int .u8 0, .int .u8 0, .int .u8 0, .int .u8 0, .int .u8 0, .int .u8 0] : Array Value) = (nine.map by8).toArray := rfl
/-- What is read behind the crash. -/
def after (zs : List Int) (b : Bool) (i : Nat) : Sec := if b = true ∧ i = 0 then nine else chunk zs i
theorem after_len (zs : List Int) (b : Bool) (i : Nat) : (after zs b i).length = 32 := by unfold after; split; exact nine_is.1; exact part_len _ _ _
theorem after_false (zs : List Int) (n : Nat) : flat (after zs false) n = flat (chunk zs) n := by
  have : after zs false = chunk zs := by funext i; unfold after; rw [if_neg (by simp)]
  rw [this]
theorem after_true (zs : List Int) (n : Nat) (h : 0 < n) : ∃ r, flat (after zs true) n = 9 :: r := by
  have := flat_get (after zs true) (after_len zs true) n 0 0 h (by omega)
  rw [show (after zs true 0) = nine from by unfold after; rw [if_pos ⟨rfl, rfl⟩]] at this
  cases hf : flat (after zs true) n with
  | nil => rw [hf] at this; simp [nine] at this
  | cons x r => rw [hf] at this; simp [nine] at this; exact ⟨r, by rw [this]⟩
theorem no_begins_nine {p : Fr.Pk} {r : List Int} : ¬ Fr.Begins p (9 :: r) := by
  rintro ⟨_, _, s, e⟩
  unfold Fr.enc Fr.head at e
  simp at e
theorem begins_kept {p : Fr.Pk} (hw : Fr.Wf p) (hr : Fr.rightB p = true) (n : Nat) (h : (Fr.enc p).length ≤ 32 * n) : Fr.Begins p (flat (after (Fr.enc p) false) n) := by
  rw [after_false, flat_chunk _ _ h]; exact ⟨hw, hr, _, rfl⟩
/-- What is read of a slice of numbers that came in. -/
theorem isZ_of {H : Type} {enc : TypeId × Value → H} {P : Program} {W : World} {t e : TypeId} {a : Option Addr} {len cap : Nat} {d : DataW H} {p : List MemPlace}
    (ht : P.underlying t = some (.slice e)) (he : P.underlying e = some (.int .i64)) (hc : P.cellsOf e = 1)
    (h : DataW.Trod enc P W 0 (fun _ => true) true t (.slice a len cap) d p) : ∃ zs, IsZ W a len zs := by
  obtain ⟨fuel, hf⟩ := h
  rcases open_ints ht he hc hf with ⟨hcs, _⟩ | ⟨x, l, c, zs, hcs, _, hl, hm, hz, _, hcell, hwz⟩
  · simp [Value.cells] at hcs
    obtain ⟨rfl, rfl, rfl⟩ := hcs
    exact ⟨[], rfl, Nat.zero_le _, fun h => absurd h (by omega), fun i => by simp⟩
  · simp [Value.cells] at hcs
    obtain ⟨rfl, rfl, rfl⟩ := hcs
    have hz' : zs.length = cap := by simpa using hz
    refine ⟨zs.take len, by rw [List.length_take]; omega, by omega, fun hp => ?_, fun i => ?_⟩
    · obtain ⟨b, off, spot⟩ := x
      have hc0 := hcell 0 (by omega)
      have hspot : spot = none := by simpa [Addr.add] using World.cell?_spot hc0
      subst hspot
      refine ⟨b, off, rfl, fun i hi => ?_⟩
      have h := hcell i (by omega)
      have h2 : (⟨b, off, none⟩ : Addr).add i = ⟨b, off + i, none⟩ := by rcases i with _ | i <;> simp [Addr.add]
      rw [h2] at h
      rw [h]
      simp [List.getD, List.getElem?_take, hi]
    · by_cases hi : i < len
      · have hmem : (zs.take len).getD i 0 ∈ zs := by
          have : i < zs.length := by omega
          simp [List.getD, List.getElem?_take, hi, this]
        exact bd_i64 (hwz _ hmem)
      · simp [List.getD, List.getElem?_take, hi]
theorem IsZ.later {w w' : World} {a : Option Addr} {len : Nat} {zs : List Int} (h : IsZ w a len zs) (hb : Below w.heap.size w w') : IsZ w' a len zs := by
  obtain ⟨h1, h2, h3, h4⟩ := h
  refine ⟨h1, h2, fun hp => ?_, h4⟩
  obtain ⟨b, off, e, hc⟩ := h3 hp
  exact ⟨b, off, e, fun i hi => cell_later hb (hc i hi)⟩
end Go.Proofs.Yteimegacnmakaac
