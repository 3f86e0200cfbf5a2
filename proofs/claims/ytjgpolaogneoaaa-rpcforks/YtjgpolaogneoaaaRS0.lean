/-
  The bytes of callees as texts.
-/
import Derived.Test.YtjgpolaogneoaaaRPl
import Derived.Test.YtjgpolaogneoaaaRRb
namespace Go.Proofs.Ytjgpolaogneoaaa
open Go.RowKit Go.ChangeShapes Go.WideShapes Go.ChangeAt
set_option linter.unusedVariables false
set_option linter.unusedSimpArgs false
set_option maxRecDepth 100000
theorem keB_byte {F : Nat → Tk} (hF : ∀ i, (F i).Wf) : ∀ x ∈ keB F, 0 ≤ x ∧ x ≤ 255 := by
  have one : ∀ t : Tk, ∀ x ∈ tkB t, 0 ≤ x ∧ x ≤ 255 := by
    intro t x hx
    unfold tkB at hx
    split at hx
    · simp at hx; omega
    · split at hx
      · simp only [List.mem_cons, List.mem_append] at hx
        rcases hx with rfl | hx | hx
        · omega
        · exact be4_byte _ _ hx
        · exact be4_byte _ _ hx
      · simp only [List.mem_cons, List.mem_append] at hx
        rcases hx with rfl | ((hx | hx) | hx) | hx
        · omega
        · exact be4_byte _ _ hx
        · exact be4_byte _ _ hx
        · exact be2_byte _ _ hx
        · exact Fr.bs_byte _ _ hx
  intro x hx
  unfold keB at hx
  simp only [List.mem_append] at hx
  rcases hx with (hx | hx) | hx
  · exact one _ _ hx
  · exact one _ _ hx
  · exact one _ _ hx
theorem keB_len {F : Nat → Tk} (hF : ∀ i, (F i).Wf) : 0 < (keB F).length ∧ (keB F).length < 60000 := by
  have t1 := tkB_len _ (hF 1)
  have t2 := tkB_len _ (hF 2)
  have t3 := tkB_len _ (hF 3)
  have p1 : 0 < (tkB (F 1)).length := by unfold tkB; split <;> (try split) <;> simp
  unfold keB
  simp only [List.length_append]
  omega
theorem isB_convC {w : World} {b off len cap : Nat} {zs : List Int} (h : IsB w (some ⟨b, off, none⟩) len zs) (hp : 0 < len) : (convert 28 9 (.slice (some ⟨b, off, none⟩) len cap)).run Try.prog w = .ok (.string (Fr.tx zs)) w := by
  obtain ⟨h1, h2, h3, h4⟩ := h
  refine run_convert_bytes_arg w 28 5 Try.underlying28 Try.underlying5 b off len cap zs h1 (fun i hi => ?_) 9 Try.underlying9
  obtain ⟨b', off', e, hc⟩ := h3 (by omega)
  cases e
  exact hc i hi
theorem bytes_any {w : World} {g : Nat} {F : Nat → Tk} (h : IsK w g F) (hF : ∀ i, (F i).Wf) :
    Calls Try.prog 26 #[pC g] w fun e w' => ∃ b c, e = .returned (.slice (some ⟨b, 0, none⟩) (keB F).length c) ∧ IsB w' (some ⟨b, 0, none⟩) (keB F).length (keB F) ∧ Below w.heap.size w w' :=
  (bytes_c h hF).mono fun e w' ⟨v, h1, h2, h3⟩ => by
    obtain ⟨b, c, h4, _, h5⟩ := row8_isB h2 (keB_byte hF) (by have := keB_len hF; omega) (keB_len hF).1
    exact ⟨b, c, by rw [h1, h4], h5, h3⟩
theorem rbytes_any {w : World} {g : Nat} {F : Nat → Tk} (h : IsRK w g F) (hF : ∀ i, (F i).Wf) :
    Calls Try.prog 30 #[pC g] w fun e w' => ∃ b c, e = .returned (.slice (some ⟨b, 0, none⟩) (keB F).length c) ∧ IsB w' (some ⟨b, 0, none⟩) (keB F).length (keB F) ∧ Below w.heap.size w w' :=
  (rbytes_c h hF).mono fun e w' ⟨v, h1, h2, h3⟩ => by
    obtain ⟨b, c, h4, _, h5⟩ := row8_isB h2 (keB_byte hF) (by have := keB_len hF; omega) (keB_len hF).1
    exact ⟨b, c, by rw [h1, h4], h5, h3⟩
end Go.Proofs.Ytjgpolaogneoaaa
