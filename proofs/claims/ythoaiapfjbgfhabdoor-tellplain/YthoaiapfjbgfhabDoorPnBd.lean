/-
  What stands in quotes: plain facts; few of the statements of tell.
-/
import Derived.Test.YthoaiapfjbgfhabDoorPnBc
namespace Go.Proofs.YthoaiapfjbgfhabDoor
open Go.RowKit Go.ChangeShapes Go.WideShapes Go.ChangeAt
set_option linter.unusedVariables false
set_option linter.unusedSimpArgs false
set_option maxRecDepth 100000
def okB (b : UInt8) : Bool := decide (32 ≤ b.toNat) && decide (b.toNat ≤ 126) && decide (b ≠ 34)
theorem hx_ok : ((List.range 16).all fun n => okB (hx n)) = true := by kernel_rfl
theorem qB_ok (c : UInt8) : ∀ b ∈ qB c, okB b = true := fun b hb => by
 unfold qB at hb
 split at hb
 · rename_i h
   rw [List.mem_singleton] at hb
   subst hb
   unfold plnI at h
   simp only [Bool.and_eq_true, decide_eq_true_eq, Bool.not_eq_true', beq_eq_false_iff_ne] at h
   unfold okB
   simp only [Bool.and_eq_true, decide_eq_true_eq]
   refine ⟨⟨by omega, by omega⟩, fun e => ?_⟩
   subst e
   exact h.1.2 rfl
 · have h256 : c.toNat < 256 := c.toNat_lt
   have hh := List.all_eq_true.1 hx_ok
   rcases List.mem_cons.1 hb with e | hb
   · rw [e]; rfl
   rcases List.mem_cons.1 hb with e | hb
   · rw [e]; exact hh _ (List.mem_range.2 (by omega))
   rw [List.mem_singleton] at hb
   rw [hb]
   exact hh _ (List.mem_range.2 (by omega))
theorem quote_ok (l : List UInt8) {i : Nat} (h : i < (quoteL l).length) : 32 ≤ ((quoteL l)[i]'h).toNat ∧ ((quoteL l)[i]'h).toNat ≤ 126 ∧ ((quoteL l)[i]'h = 34 → i = 0 ∨ i + 1 = (quoteL l).length) := by
 have hl : (quoteL l).length = (l.flatMap qB).length + 2 := by unfold quoteL; simp
 match i, h with
 | 0, h => exact ⟨by show 32 ≤ (34 : UInt8).toNat; decide, by show (34 : UInt8).toNat ≤ 126; decide, fun _ => .inl rfl⟩
 | i + 1, h =>
   have e : (quoteL l)[i + 1]'h = ((l.flatMap qB) ++ [34])[i]'(by rw [List.length_append, List.length_singleton]; omega) := rfl
   rw [e]
   by_cases q : i < (l.flatMap qB).length
   · rw [List.getElem_append_left q]
     have hm : (l.flatMap qB)[i]'q ∈ l.flatMap qB := List.getElem_mem q
     obtain ⟨c, _, hc⟩ := List.mem_flatMap.1 hm
     have := qB_ok c _ hc
     unfold okB at this
     simp only [Bool.and_eq_true, decide_eq_true_eq] at this
     exact ⟨this.1.1, this.1.2, fun e => absurd e this.2⟩
   · rw [List.getElem_append_right (by omega)]
     have : i - (l.flatMap qB).length = 0 := by omega
     simp only [this]
     exact ⟨by show 32 ≤ (34 : UInt8).toNat; decide, by show (34 : UInt8).toNat ≤ 126; decide, fun _ => .inr (by omega)⟩
def few15 (s : ByteArray) : ByteArray := if 9000 < s.size then s.extract 0 9000 else s
theorem few15_size (s : ByteArray) : (few15 s).size ≤ 9000 := by
 unfold few15
 split
 · simp; omega
 · omega
set_option maxHeartbeats 1000000 in
theorem few15_c (s : ByteArray) (w : World) : Calls Tryd.prog 4 #[.string s] w fun e w' => e = .returned (.string (few15 s)) ∧ w' = w := by
 obtain ⟨r, hr⟩ : ∃ r, Hid (r = few15 s) := ⟨_, hid rfl⟩
 rw [← hr.out]
 by_cases h : 9000 < s.size
 · have hI : (9000 : Int) < s.size := by omega
   have hI2 : (9000 : Int) ≤ s.size := by omega
   have RE : Hid (r = s.extract 0 9000) := hid (by rw [hr.out]; unfold few15; rw [if_pos h])
   clear hr
   go_enter Tryd.func4, Tryd.ntmps4
   go_wp2
   go_ret
   exact ⟨by rw [RE.out]; rfl, rfl⟩
 · have hI : ¬ (9000 : Int) < s.size := by omega
   have RE : Hid (r = s) := hid (by rw [hr.out]; unfold few15; rw [if_neg h])
   clear hr
   go_enter Tryd.func4, Tryd.ntmps4
   go_wp2
   go_ret
   exact ⟨by rw [RE.out]; rfl, rfl⟩
end Go.Proofs.YthoaiapfjbgfhabDoor
