/-
  The first records of a log and the others, as plain lists; few of the law on cml.
-/
import Derived.Test.YtihgiemgcmpmmaaCLive
namespace Go.Proofs.Ytihgiemgcmpmmaa
open Go.RowKit Go.ChangeShapes Go.WideShapes Go.ChangeAt Go.Maps Go.Shelf
set_option linter.unusedVariables false
set_option linter.unusedSimpArgs false
theorem take_one {l : List Rec} {m : Nat} (h : m < l.length) : l.take (m + 1) = l.take m ++ [l.getD m Rec.no] := by
  rw [List.take_add_one, List.getD, List.getElem?_eq_getElem h]; rfl
theorem keep_cut (n : Nat) (l : List Rec) : ∀ m, m ≤ l.length → keepF (fun i => decide ((n : Int) ≤ (i : Int))) l m = (l.take m).take n
  | 0, _ => by simp [keepF]
  | m + 1, h => by
    have ih := keep_cut n l m (by omega)
    unfold keepF
    rw [ih]
    by_cases q : n ≤ m
    · have : decide ((n : Int) ≤ (m : Int)) = true := by simp; omega
      rw [this, if_pos rfl, List.take_take, List.take_take, show min n m = n by omega, show min n (m + 1) = n by omega]
    · have : decide ((n : Int) ≤ (m : Int)) = false := by simp; omega
      rw [this, if_neg (by simp), List.take_take, List.take_take, show min n m = m by omega, show min n (m + 1) = m + 1 by omega, take_one (by omega)]
theorem keep_drop (n : Nat) (l : List Rec) : ∀ m, m ≤ l.length → keepF (fun i => decide ((i : Int) < (n : Int))) l m = (l.take m).drop n
  | 0, _ => by simp [keepF]
  | m + 1, h => by
    have ih := keep_drop n l m (by omega)
    unfold keepF
    rw [ih]
    by_cases q : m < n
    · have : decide ((m : Int) < (n : Int)) = true := by simp; omega
      rw [this, if_pos rfl, List.drop_eq_nil_of_le (by rw [List.length_take]; omega), List.drop_eq_nil_of_le (by rw [List.length_take]; omega)]
    · have : decide ((m : Int) < (n : Int)) = false := by simp; omega
      rw [this, if_neg (by simp), take_one (by omega), List.drop_append_of_le_length (by rw [List.length_take]; omega)]
theorem cutF_eq (n : Nat) (l : List Rec) : cutF n l = l.take n := by
  unfold cutF; rw [keep_cut n l _ (Nat.le_refl _), List.take_length]
theorem dropF_eq (n : Nat) (l : List Rec) : dropF n l = l.drop n := by
  unfold dropF; rw [keep_drop n l _ (Nat.le_refl _), List.take_length]
theorem isL_news {w : World} {b off : Nat} {l : List Rec} (h : IsL w (some ⟨b, off, none⟩) l) : ∀ j u, (rcells l)[j]? = some u → w.cell? ((⟨b, off, none⟩ : Addr).add j) = some u := fun j u hu => by
  have hj : j < l.length * 9 := by rw [← rcells_len]; exact (List.getElem?_eq_some_iff.1 hu).1
  have e : (⟨b, off, none⟩ : Addr).add j = ⟨b, off + j, none⟩ := by unfold Addr.add; split <;> simp_all
  have ej : j / 9 * 9 + j % 9 = j := by omega
  have hx := h.at (i := j / 9) (by omega) (j % 9) u (by rw [← rcells_get l (j / 9) (by omega) (j % 9) (by omega), ej]; exact hu)
  rw [e]
  rw [show off + j / 9 * 9 + j % 9 = off + j by omega] at hx
  exact hx
theorem isL_grown {w w' : World} {b off : Nat} {l : List Rec} {row : Option Nat} (h : IsL w (some ⟨b, off, none⟩) l) (hg : w.grownBy w' row) (hne : some b ≠ row) : IsL w' (some ⟨b, off, none⟩) l := by
  refine ⟨h.1, h.2.1, fun hp => ⟨b, off, rfl, fun i hi j v hv => ?_⟩⟩
  have h0 := h.at hi j v hv
  obtain ⟨_, _, _, _, hb⟩ := hg
  have hlt : b < w.heap.size := by
    by_cases e : b < w.heap.size
    · exact e
    · have : w.heap[b]? = none := by simp; omega
      simp [World.cell?, this] at h0
  have e := hb b hlt (by simpa using hne)
  simp only [World.cell?, e] at h0 ⊢
  exact h0
set_option maxHeartbeats 1000000 in
theorem few8_c (a : Option Addr) (len cap : Nat) (l : List Rec) (w : World) (hl : l.length = len) (hc : len ≤ cap) (h : IsL w a l) :
    Calls Try.prog 6 #[.slice a len cap] w fun e w' => e = .returned (.slice a (l.take 40).length cap) ∧ w' = w := by
  have hm := h.1
  unfold maxLen at hm
  rw [hl] at hm
  rw [List.length_take, hl]
  by_cases q : 40 < len
  · obtain ⟨b, off, rfl, _⟩ := h.2.2 (by omega)
    rw [show min 40 len = 40 by omega]
    have qI : (40 : Int) < len := by omega
    have cI : (40 : Int) ≤ cap := by omega
    have cN : 40 ≤ cap := by omega
    clear h
    go_enter Try.func6, Try.ntmps6
    go_wp2
    go_ret
    exact ⟨by rfl, rfl⟩
  · rw [show min 40 len = len by omega]
    have qI : ¬ (40 : Int) < len := by omega
    clear h
    go_enter Try.func6, Try.ntmps6
    go_wp2
    go_ret
    exact ⟨rfl, rfl⟩
end Go.Proofs.Ytihgiemgcmpmmaa
