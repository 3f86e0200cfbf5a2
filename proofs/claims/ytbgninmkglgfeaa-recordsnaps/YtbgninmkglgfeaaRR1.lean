/-
  The document's reader, in plain words: the next number, the next short text.
-/
import Derived.Test.YtbgninmkglgfeaaRfR
import Derived.Test.YtbgninmkglgfeaaRN1
namespace Go.Proofs.Ytbgninmkglgfeaa
open Go.RowKit Go.ChangeShapes Go.WideShapes Go.ChangeAt
set_option linter.unusedVariables false
set_option linter.unusedSimpArgs false
set_option maxRecDepth 100000
/-- The next number, whether the bytes are bad, what is left. -/
def Nr (bd : Bool) (zs : List Int) (k : Nat) : Int × Bool × List Int := if bd = false ∧ k ≤ zs.length then (numF (zs.take k), false, zs.drop k) else (0, true, zs)
/-- The next short text. -/
def Tr (bd : Bool) (zs : List Int) : ByteArray × Bool × List Int :=
  if (Nr bd zs 1).2.1 = false ∧ (Nr bd zs 1).1.toNat ≤ (Nr bd zs 1).2.2.length then (Fr.tx ((Nr bd zs 1).2.2.take (Nr bd zs 1).1.toNat), false, (Nr bd zs 1).2.2.drop (Nr bd zs 1).1.toNat) else (⟨#[]⟩, true, (Nr bd zs 1).2.2)
theorem RdR.in {w : World} {r : Nat} {bd : Bool} {zs : List Int} (h : RdR w r bd zs) : ∀ i, 0 ≤ zs.getD i 0 ∧ zs.getD i 0 ≤ 255 := by
  obtain ⟨_, _, _, _, h2, _⟩ := h
  exact h2.2.2.2
theorem Nr_bd {zs : List Int} (h : ∀ i, 0 ≤ zs.getD i 0 ∧ zs.getD i 0 ≤ 255) (bd : Bool) (k : Nat) : 0 ≤ (Nr bd zs k).1 ∧ (Nr bd zs k).1 < 256 ^ k := by
  unfold Nr
  split
  · next q => exact numF_bd zs h k q.2
  · exact ⟨Int.le_refl _, Int.pow_pos (by omega)⟩
theorem rdNum_c {w : World} {r : Nat} {bd : Bool} {zs : List Int} (h : RdR w r bd zs) (k : Nat) (hk0 : 1 ≤ k) (hk : k ≤ 8) :
    Calls Try.prog 31 #[.pointer (some ⟨r, 0, none⟩), .int .i64 k] w fun e w' => e = .returned (.int .u64 (Nr bd zs k).1) ∧ Kf r w w' ∧ RdR w' r (Nr bd zs k).2.1 (Nr bd zs k).2.2 := by
  refine (rdNumber_c h k hk0 hk).mono ?_
  rintro e w' ⟨h1, h2⟩
  unfold Nr
  by_cases q : bd = false ∧ k ≤ zs.length
  · rw [if_pos q] at h2 ⊢
    exact ⟨h2.1, h1, h2.2⟩
  · rw [if_neg q] at h2 ⊢
    exact ⟨h2.1, h1, h2.2⟩
set_option maxHeartbeats 2000000 in
theorem rdTxt_c {w : World} {r : Nat} {bd : Bool} {zs : List Int} (h : RdR w r bd zs) :
    Calls Try.prog 32 #[.pointer (some ⟨r, 0, none⟩)] w fun e w' => e = .returned (.string (Tr bd zs).1) ∧ Kf r w w' ∧ RdR w' r (Tr bd zs).2.1 (Tr bd zs).2.2 := by
  have NC : Hid (Calls Try.prog 31 #[.pointer (some ⟨r, 0, none⟩), .int .i64 1] w fun e w' => e = .returned (.int .u64 (Nr bd zs 1).1) ∧ Kf r w w' ∧ RdR w' r (Nr bd zs 1).2.1 (Nr bd zs 1).2.2) := hid (rdNum_c h 1 (by omega) (by omega))
  obtain ⟨g0, g1⟩ := Nr_bd h.in bd 1
  obtain ⟨T, hT⟩ : ∃ T, T = Tr bd zs := ⟨_, rfl⟩
  rw [← hT]
  unfold Tr at hT
  clear h
  obtain ⟨z1, hz1⟩ : ∃ z1, z1 = (Nr bd zs 1).2.2 := ⟨_, rfl⟩
  obtain ⟨b1, hb1⟩ : ∃ b1, b1 = (Nr bd zs 1).2.1 := ⟨_, rfl⟩
  obtain ⟨n, hn⟩ : ∃ n : Nat, (Nr bd zs 1).1 = (n : Int) := ⟨(Nr bd zs 1).1.toNat, by omega⟩
  rw [← hz1, ← hb1, hn] at NC hT
  rw [hn] at g0 g1
  have hn3 : n < 256 := by omega
  have kn : IntKind.i64.wrap (n : Int) = n := by rw [IntKind.wrap_i64]; omega
  rw [show ((n : Int)).toNat = n by omega] at hT
  clear hz1 hb1 hn g0 g1
  by_cases q : b1 = false ∧ n ≤ z1.length
  · rw [if_pos q] at hT
    obtain ⟨rfl, hq2⟩ := q
    have hl : (z1.take n).length = n := by rw [List.length_take]; omega
    have HL := hid hl
    have HT := hid hT
    clear hT hl hq2
    have HQ : Hid (∀ W e, TaPost W r false z1 n e = TaPost W r false z1 n e) := hid (fun _ _ => rfl)
    have C2 : Hid (n ≤ z1.length) := hid (by have := HL.out; rw [List.length_take] at this; omega)
    go_enter Try.func32, Try.ntmps32
    go_wp2_with (first
      | (go_at_call 66; refine (rdTake_c H1.out n (by omega)).mono ?_; rintro _ w2 ⟨k2, h2⟩; rw [if_pos ⟨rfl, C2.out⟩] at h2; obtain ⟨⟨p, c', rfl, hI⟩, hR⟩ := h2; have K2 := hid (K1.out.trans k2); have R2 := hid hR; have cv := conv_anyN (pc := c') (zs := z1.take n) (by rw [HL.out]; exact hI); rw [HL.out] at cv; clear hI hR k2)
      | (go_at_call 31; refine NC.out.mono ?_; rintro _ w1 ⟨rfl, k1, h1⟩; have H1 := hid h1; have K1 := hid k1; clear h1 k1))
    go_ret
    rw [HT.out]
    exact ⟨rfl, K2.out, R2.out⟩
  · rw [if_neg q] at hT
    have HQ := hid q
    have HT := hid hT
    clear hT q
    go_enter Try.func32, Try.ntmps32
    go_wp2_with (first
      | (go_at_call 66; refine (rdTake_c H1.out n (by omega)).mono ?_; rintro _ w2 ⟨k2, h2⟩; rw [if_neg HQ.out] at h2; obtain ⟨rfl, hR⟩ := h2; have K2 := hid (K1.out.trans k2); have R2 := hid hR; have cv := conv_noneN w2 none 0; clear hR k2)
      | (go_at_call 31; refine NC.out.mono ?_; rintro _ w1 ⟨rfl, k1, h1⟩; have H1 := hid h1; have K1 := hid k1; clear h1 k1))
    go_ret
    rw [HT.out]
    exact ⟨rfl, K2.out, R2.out⟩
end Go.Proofs.Ytbgninmkglgfeaa
