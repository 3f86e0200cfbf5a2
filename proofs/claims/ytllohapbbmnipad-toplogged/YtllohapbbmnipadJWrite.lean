/-
  write of the package journal: sectors into the disk's buffer, one behind the other.
-/
import Derived.Test.YtllohapbbmnipadJGroups
namespace Go.Proofs.Ytllohapbbmnipad
open Go.RowKit Go.ChangeShapes Go.WideShapes Go.ChangeAt Go.Maps
set_option linter.unusedVariables false
set_option linter.unusedSimpArgs false
/-- What is loose behind sectors that were written from a place on. -/
def updL (c : Int → Option Sec) (st : Nat) (ss : List (List Int)) : Int → Option Sec := fun i => if (st : Int) ≤ i ∧ i < ((st + ss.length : Nat) : Int) then some (ss.getD (i - st).toNat []) else c i
theorem updL_nil (c : Int → Option Sec) (st : Nat) : updL c st [] = c := by
  funext i; unfold updL; rw [if_neg (by simp)]
theorem updL_snoc (c : Int → Option Sec) (st : Nat) (ss : List (List Int)) (s : List Int) : upd (updL c st ss) ((st + ss.length : Nat) : Int) (some s) = updL c st (ss ++ [s]) := by
  funext i
  unfold upd updL
  by_cases h : i = ((st + ss.length : Nat) : Int)
  · rw [if_pos h, if_pos (by subst h; simp; omega)]
    have : (i - st).toNat = ss.length := by omega
    rw [this]; simp [List.getD]
  · rw [if_neg h]
    by_cases h2 : (st : Int) ≤ i ∧ i < ((st + ss.length : Nat) : Int)
    · rw [if_pos h2, if_pos (by simp; omega)]
      have : (i - st).toNat < ss.length := by omega
      rw [List.getD, List.getD, List.getElem?_append_left this]
    · rw [if_neg h2, if_neg (by simp; omega)]
theorem IsD.mapAt {w : World} {d b1 b2 N : Nat} {on : Int → Sec} {c : Int → Option Sec} (h : IsD w d b1 b2 N on c) : (∃ es cl, w.heap[b2]? = some (.map es cl)) ∧ ∃ es cl, w.heap[b1]? = some (.map es cl) := by
  obtain ⟨_, _, _, _, ⟨⟨D2, ⟨es2, cl2, hb2, _⟩, _⟩, _⟩, m, ⟨⟨D1, ⟨es1, cl1, hb1, _⟩, _⟩, _⟩, _⟩ := h
  exact ⟨⟨_, _, hb2⟩, _, _, hb1⟩
theorem cell_not_map {w : World} {q : Nat} {es : _} {cl : _} (h : w.heap[q]? = some (.map es cl)) (o : Nat) : w.cell? ⟨q, o, none⟩ = none := by simp [World.cell?, h]
theorem IsSS.notMap {w : World} {b off n : Nat} {ss : List (List Int)} (h : IsSS w (some ⟨b, off, none⟩) n ss) (hn : 0 < n) {q : Nat} {es : _} {cl : _} (hq : w.heap[q]? = some (.map es cl)) : b ≠ q := by
  intro e
  subst e
  obtain ⟨r1, s1⟩ := h.at 0 hn
  have hl : 0 < (ss.getD 0 []).length := by rw [s1.1]; omega
  have := r1 0 _ (by simp only [List.getElem?_map, List.getElem?_eq_getElem hl]; rfl)
  rw [cell_not_map hq] at this
  cases this
theorem IsJ.parts {w : World} {j d b1 b2 N : Nat} {on : Int → Sec} {c : Int → Option Sec} (h : IsJ w j d b1 b2 N on c) : j ≠ b1 ∧ j ≠ b2 ∧ j < w.heap.size := by
  obtain ⟨⟨es, cl, h2⟩, es', cl', h1⟩ := h.2.1.mapAt
  refine ⟨fun e => ?_, fun e => ?_, lt_blk h.1⟩
  · have := h.1; rw [e, h1] at this; cases this
  · have := h.1; rw [e, h2] at this; cases this
set_option maxRecDepth 100000 in
set_option maxHeartbeats 4000000 in
theorem jwrite_c {w : World} {j d b1 b2 N : Nat} {on : Int → Sec} {c : Int → Option Sec} (h : IsJ w j d b1 b2 N on c) (st : Nat) (b off n cap : Nat) (ss : List (List Int)) (hS : IsSS w (some ⟨b, off, none⟩) n ss) (hst : st + n ≤ N) (hn0 : 0 < n) :
    Calls Try.prog 20 #[pB j, .agg #[.int .i64 st, .slice (some ⟨b, off, none⟩) n cap]] w fun e w' => e = .returned (.tuple #[]) ∧ IsJ w' j d b1 b2 N on (updL c st ss) ∧ Out (fun k => k = b2) w w' := by
  have zz := zlit
  have hN := h.2.1.two
  have hl := hS.1
  have hb1 : Below w.heap.size w (w.alloc (.cells #[.int .i64 st, .slice (some ⟨b, off, none⟩) n cap] 65)) := (Below.refl _ _).alloc (Nat.le_refl _) _
  have n1 := heap_alloc_new w (.cells #[.int .i64 st, .slice (some ⟨b, off, none⟩) n cap] 65)
  have A1 := alloc_facts w (.cells #[.int .i64 st, .slice (some ⟨b, off, none⟩) n cap] 65)
  have hJ1 := h.later hb1
  have hS1 := hS.later hb1
  have o1 : Out (fun k => k = b2) w (w.alloc (.cells #[.int .i64 st, .slice (some ⟨b, off, none⟩) n cap] 65)) := Out.of hb1
  have hq1 : (w.alloc (.cells #[.int .i64 st, .slice (some ⟨b, off, none⟩) n cap] 65)).cell? ⟨w.heap.size, 1, none⟩ = some (.slice (some ⟨b, off, none⟩) n cap) := by rw [cell_of_row _ _ 1 _ _ _ n1]; rfl
  have hb2lt : b2 < w.heap.size := by obtain ⟨⟨es, cl, h2⟩, _⟩ := h.2.1.mapAt; exact lt_blk h2
  have HW : Hid (Out (fun k => k = b2) w (w.alloc (.cells #[.int .i64 st, .slice (some ⟨b, off, none⟩) n cap] 65))) := o1
  clear h hS
  go_enter Try.func20, Try.ntmps20
  go_wp2
  generalize (w.alloc (.cells #[.int .i64 st, .slice (some ⟨b, off, none⟩) n cap] 65)) = W1 at *
  have hz1 := A1.1
  go_loopw [9] (fun i wr => ∃ m : Nat, m ≤ n ∧ i = .int .i64 m ∧ IsJ wr j d b1 b2 N on (updL c st (ss.take m)) ∧ Out (fun k => k = b2) W1 wr) (fun i _ => n - (intOf i).toNat)
  case atStart => exact ⟨0, Nat.zero_le _, rfl, by rw [List.take_zero, updL_nil]; exact hJ1, Out.refl _ _⟩
  case round =>
    obtain ⟨m, hm, rfl, hJ, hO⟩ := hrel
    have hOz := hO.size
    by_cases hlt : m < n
    · obtain ⟨⟨es, cl, hmp⟩, _⟩ := hJ1.2.1.mapAt
      have hbb : b ≠ b2 := hS1.notMap hn0 hmp
      have hbl : b < W1.heap.size := by
        obtain ⟨r1, s1⟩ := hS1.at 0 hn0
        have hl0 : 0 < (ss.getD 0 []).length := by rw [s1.1]; omega
        exact World.block_lt_of_cell? W1 _ (r1 0 _ (by simp only [List.getElem?_map, List.getElem?_eq_getElem hl0]; rfl))
      have hSr := hS1.blk (hO.block b hbl hbb)
      obtain ⟨r1, s1⟩ := hSr.at m hlt
      have nb : wr.heap[w.heap.size]? = some (.cells #[.int .i64 st, .slice (some ⟨b, off, none⟩) n cap] 65 (0, 0)) := by rw [hO.block _ (by omega) (by omega)]; exact n1
      have HT : Hid (ss.take (m + 1) = ss.take m ++ [ss.getD m []]) := by
        show _ = _
        rw [List.take_succ_eq_append_getElem (by omega)]; simp [List.getD, show m < ss.length by omega]
      have htl : (ss.take m).length = m := by rw [List.length_take]; omega
      generalize ss.getD m [] = S at *
      have hi1 : (Try.prog.info? 90).map (·.size) = some (S.map by8).length := by rw [sizeS]; simp [s1.1]
      have hs32 := s1.1
      have hb3 : Below wr.heap.size wr (wr.alloc (.cells (S.map by8).toArray 90)) := (Below.refl _ _).alloc (Nat.le_refl _) _
      have n3 := heap_alloc_new wr (.cells (S.map by8).toArray 90)
      have A3 := alloc_facts wr (.cells (S.map by8).toArray 90)
      have hJ3 := hJ.later hb3
      have hjp := hJ3.parts
      have cj3 := hJ3.cell
      have q3 : (wr.alloc (.cells (S.map by8).toArray 90)).cell? ⟨w.heap.size, 0, none⟩ = some (.int .i64 st) := by
        rw [cell_of_row _ _ 0 _ _ _ (show (wr.alloc (.cells (S.map by8).toArray 90)).heap[w.heap.size]? = some (.cells #[.int .i64 st, .slice (some ⟨b, off, none⟩) n cap] 65 (0, 0)) by rw [A3.2.1 _ (by omega)]; exact nb)]; rfl
      have nb3 : (wr.alloc (.cells (S.map by8).toArray 90)).heap[w.heap.size]? = some (.cells #[.int .i64 st, .slice (some ⟨b, off, none⟩) n cap] 65 (0, 0)) := by rw [A3.2.1 _ (by omega)]; exact nb
      have rS3 : (wr.alloc (.cells (S.map by8).toArray 90)).rangeAt wr.heap.size 0 (S.map by8) := range_sec n3
      have WC := hid (write_c (w := (wr.alloc (.cells (S.map by8).toArray 90)).drew) hJ3.2.1 ((st + m : Nat) : Int) S (sct_sec s1) (by omega) (by omega))
      have HUS : Hid (upd (updL c st (ss.take m)) ((st + m : Nat) : Int) (some S) = updL c st (ss.take (m + 1))) := by
        show _ = _
        have := updL_snoc c st (ss.take m) S
        rw [htl] at this
        rw [this, HT.out]
      have HJ3 := hid hJ3
      have HO := hid hO
      have HO3 : Hid (Out (fun k => k = b2) W1 (wr.alloc (.cells (S.map by8).toArray 90))) := hO.trans (Out.of hb3)
      have hb2r : b2 < wr.heap.size := by omega
      have pw : IntKind.i64.wrap ((st : Int) + (m : Int)) = ((st + m : Nat) : Int) := by rw [M.wrap_i64]; unfold wrap64; push_cast; omega
      have hu := Try.underlying90
      clear hJ hO hJ3 nb n3 HT hb3
      unfold secV at WC
      go_wp2_with (first
        | (refine wpList_load_mid rfl _ _ rfl b (off + m * 32) rfl (S.map by8) _ r1 Try.underlying90 rfl hi1 ?_)
        | (refine wpList_storeS _ rfl _ _ _ rfl sizeS _ rfl (by simp) S rfl hs32 _ (by simp; decide) ?_))
      go_region_held3 (fun w' => w'.cell? ⟨j, 0, none⟩ = some (pD d) ∧ w'.cell? ⟨w.heap.size, 0, none⟩ = some (.int .i64 st) ∧ w'.rangeAt wr.heap.size 0 (S.map by8)) (first | exact K5 | go_keep_ranges)
        ((go_at_call 43; refine WC.out.mono ?_; rintro e w5 ⟨rfl, hD5, hO5⟩; (have O5 : Out (fun k => k = b2) (wr.alloc (.cells (S.map by8).toArray 90)) w5 := ((Out.refl _ _).drew).trans hO5); (have K5 : w5.cell? ⟨j, 0, none⟩ = some (pD d) ∧ w5.cell? ⟨w.heap.size, 0, none⟩ = some (.int .i64 st) ∧ w5.rangeAt wr.heap.size 0 (S.map by8) := ⟨by rw [World.cell?_of_block (a := ⟨j, 0, none⟩) (O5.block j hjp.2.2 hjp.2.1)]; exact cj3, by rw [World.cell?_of_block (a := ⟨w.heap.size, 0, none⟩) (O5.block w.heap.size (by rw [A3.1]; omega) (by omega))]; exact q3, fun jj v hv => by rw [World.cell?_of_block (a := ⟨wr.heap.size, 0 + jj, none⟩) (O5.block wr.heap.size (by rw [A3.1]; omega) (by omega))]; exact rS3 jj v hv⟩)))
      go_wp2
      go_roundw
      case rel => exact ⟨m + 1, by omega, by go_num, ⟨by rw [O5.block j hjp.2.2 hjp.2.1]; exact HJ3.out.1, by rw [← HUS.out]; exact hD5, HJ3.out.2.2⟩, HO3.out.trans O5⟩
      case measure => simp [intOf]; omega
    · have em : m = n := by omega
      have ht : ss.take m = ss := List.take_of_length_le (by omega)
      rw [ht] at hJ
      have HJ := hid hJ
      clear hJ
      go_wp2
      exact body_end (by kernel_rfl) rfl ⟨rfl, HJ.out, HW.out.trans hO⟩
end Go.Proofs.Ytllohapbbmnipad
