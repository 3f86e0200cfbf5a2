/-
  All of a callee's bytes.
-/
import Derived.Test.YtmoeljieafninaaRBy
namespace Go.Proofs.Ytmoeljieafninaa
open Go.RowKit Go.ChangeShapes Go.WideShapes Go.ChangeAt
set_option linter.unusedVariables false
set_option linter.unusedSimpArgs false
set_option maxRecDepth 100000
set_option maxHeartbeats 4000000 in
theorem bytes_c {w : World} {g : Nat} {F : Nat → Tk} (h : IsK w g F) (hF : ∀ i, (F i).Wf) :
    Calls Try.prog 8 #[pC g] w fun e w' => ∃ v, e = .returned v ∧ Row8 w' w.heap.size v (keB F).length (keB F) ∧ Below w.heap.size w w' := by
  have H := hid h
  have hlt := h.lt
  have t1 := tkB_len _ (hF 1)
  have t2 := tkB_len _ (hF 2)
  have t3 := tkB_len _ (hF 3)
  obtain ⟨c0, c1, c2, c3⟩ := h.at1
  have W1 := hid (write_c w.heap.size g 0 (F 1) (hF 1) _ 0 [] w (Row8.nil w _ (Nat.le_refl _)) hlt (by omega) c0 c1 c2 c3)
  clear h c0 c1 c2 c3
  go_enter Try.func8, Try.ntmps8
  go_wp2
  refine wp_loop_rounds 4 ?_
  rw [rounds_succ]
  go_wp2_with fail
  refine W1.out.mono ?_
  rintro _ w1 ⟨v1, rfl, hR1, hB1⟩
  obtain ⟨n1, hn1⟩ : ∃ n1, 0 + (tkB (F 1)).length = n1 := ⟨_, rfl⟩
  rw [hn1] at hR1
  have HN1 := hid hn1
  have k1 : n1 ≤ 16395 := by omega
  clear hn1 t1
  have R1 := hid hR1
  have B1 := hid hB1
  obtain ⟨a1, d1, rfl⟩ := hR1.slice
  obtain ⟨c0, c1, c2, c3⟩ := (H.out.later hB1).at2
  have W2 := hid (write_c w.heap.size g 4 (F 2) (hF 2) _ _ _ w1 hR1 hlt (by omega) c0 c1 c2 c3)
  clear hR1 hB1 c0 c1 c2 c3
  go_wp2
  rw [rounds_succ]
  go_wp2_with fail
  refine W2.out.mono ?_
  rintro _ w2 ⟨v2, rfl, hR2, hB2⟩
  obtain ⟨n2, hn2⟩ : ∃ n2, n1 + (tkB (F 2)).length = n2 := ⟨_, rfl⟩
  rw [hn2] at hR2
  have HN2 := hid hn2
  have k2 : n2 ≤ 32790 := by omega
  clear hn2 t2
  have R2 := hid hR2
  have B2 := hid (B1.out.trans hB2)
  obtain ⟨a2, d2, rfl⟩ := hR2.slice
  obtain ⟨c0, c1, c2, c3⟩ := (H.out.later B2.out).at3
  have W3 := hid (write_c w.heap.size g 8 (F 3) (hF 3) _ _ _ w2 hR2 hlt (by omega) c0 c1 c2 c3)
  clear hR2 hB2 c0 c1 c2 c3
  go_wp2
  rw [rounds_succ]
  go_wp2_with fail
  refine W3.out.mono ?_
  rintro _ w3 ⟨v3, rfl, hR3, hB3⟩
  obtain ⟨n3, hn3⟩ : ∃ n3, n2 + (tkB (F 3)).length = n3 := ⟨_, rfl⟩
  rw [hn3] at hR3
  have HN3 := hid hn3
  clear hn3 t3
  have R3 := hid hR3
  have B3 := hid (B2.out.trans hB3)
  obtain ⟨a3, d3, rfl⟩ := hR3.slice
  clear hR3 hB3
  go_wp2
  rw [rounds_succ]
  go_wp2
  go_ret
  have q := R3.out
  refine ⟨_, rfl, ?_, B3.out⟩
  have e1 : (keB F).length = n3 := by have a := HN1.out; have b := HN2.out; have c := HN3.out; simp [keB]; omega
  rw [e1]
  simpa [keB] using q
end Go.Proofs.Ytmoeljieafninaa
