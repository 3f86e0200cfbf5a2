/-
  What the document's Need returns.
-/
import Derived.Test.YtllohapbbmnipaaJOpen
namespace Go.Proofs.Ytllohapbbmnipaa
open Go.RowKit Go.ChangeShapes Go.WideShapes Go.ChangeAt Go.Maps
set_option linter.unusedVariables false
set_option linter.unusedSimpArgs false
set_option maxHeartbeats 1000000 in
theorem rneed_c (a : Option Addr) (len cap : Nat) (g : Jo.Gr) (w : World) (h : IsG w a len g) :
    Calls Try.prog 13 #[.slice a len cap] w fun e w' => e = .returned (.int .i64 (Jo.needF g : Nat)) ∧ w' = w := by
  obtain ⟨h1, h2, h3⟩ := h
  unfold maxLen at h2
  by_cases hs : len < 1
  · have E := hid (need_len (g := g) (by omega))
    have hs' : (len : Int) < 1 := by omega
    clear h3
    go_enter Try.func13, Try.ntmps13
    go_wp2
    go_ret
    exact ⟨ret_int (by rw [E.out]; rfl), rfl⟩
  by_cases hg : 8 < len
  · have E := hid (need_len (g := g) (by omega))
    have hs' : ¬ (len : Int) < 1 := by omega
    have hg' : (8 : Int) < len := by omega
    clear h3
    go_enter Try.func13, Try.ntmps13
    go_wp2
    go_ret
    exact ⟨ret_int (by rw [E.out]; rfl), rfl⟩
  obtain ⟨b, off, rfl, hc⟩ := h3 (by omega)
  have hs' : ¬ (len : Int) < 1 := by omega
  have hg' : ¬ (8 : Int) < len := by omega
  have HC := hid hc
  have HL := hid h1
  clear hc h3 h1
  go_enter Try.func13, Try.ntmps13
  go_wp2
  go_loop [3, 4] (fun n i => ∃ k : Nat, k ≤ len ∧ i = .int .i64 k ∧ n = .int .i64 ((Jo.loadF (g.take k)).length : Nat) ∧ ∀ j, j < k → (g.getD j []).length ≤ 16384) (fun _ i => len - (intOf i).toNat)
  case atStart => exact ⟨0, Nat.zero_le _, rfl, by simp [Jo.loadF], fun j hj => by omega⟩
  case round =>
    obtain ⟨k, hk, rfl, rfl, hall⟩ := hrel
    have hle := load_take_le (g := g) (k := k) (by rw [HL.out]; exact hk) (by rw [HL.out]; omega) hall
    by_cases hlt : k < len
    · obtain ⟨pa, pc, c1, c2, c3⟩ := HC.out k hlt
      have hpl := c2.2.1
      unfold maxLen at hpl
      have HT := hid (load_len_take (g := g) (k := k) (by rw [HL.out]; exact hlt))
      have hltI : (k : Int) < len := by omega
      by_cases hbig : 16384 < (g.getD k []).length
      · have E := hid (need_big (g := g) k (by rw [HL.out]; exact hlt) hbig)
        generalize (g.getD k []).length = pl at *
        go_wp2
        go_ret
        exact ⟨ret_int (by rw [E.out]; rfl), rfl⟩
      · have HA := hid hall
        have HB := hid hbig
        clear hall
        generalize (Jo.loadF (g.take k)).length = q at *
        have hbig' : ¬ (16384 : Int) < ((g.getD k []).length : Nat) := by omega
        go_wp2
        go_round
        case rel => exact ⟨k + 1, by omega, by go_num, by rw [HT.out]; go_num, fun j hj => by
          by_cases e : j = k
          · subst e; exact Nat.le_of_not_lt HB.out
          · exact HA.out j (by omega)⟩
        case measure => simp [intOf]; omega
    · have ek : k = len := by omega
      subst ek
      have hne := need_all (g := g) (by rw [HL.out]; omega) (by rw [HL.out]; omega) (fun j hj => hall j (by rw [HL.out] at hj; exact hj))
      have ht : g.take k = g := List.take_of_length_le (by rw [HL.out]; exact Nat.le_refl _)
      rw [ht] at hle ⊢
      have E : Hid (((Jo.needF g : Nat) : Int) = 2 + (((Jo.loadF g).length : Int) + 30) / 31) := by show _ = _; rw [hne]; unfold Jo.secsOf Jo.many; omega
      clear hne ht hall
      go_wp2
      go_ret
      exact ⟨ret_int E.out.symm, rfl⟩
end Go.Proofs.Ytllohapbbmnipaa
