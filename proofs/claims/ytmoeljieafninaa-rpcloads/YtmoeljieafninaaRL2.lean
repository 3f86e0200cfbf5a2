/-
  What bytes say of a client: readNumber, readTaken.
-/
import Derived.Test.YtmoeljieafninaaRLd
import Derived.Deep.RegionHeld3
import Derived.Deep.RegionWith
import Derived.Deep.LoopGhost
import Derived.Laws.BitsLemmas
namespace Go.Proofs.Ytmoeljieafninaa
open Go.RowKit Go.ChangeShapes Go.WideShapes Go.ChangeAt
set_option linter.unusedVariables false
set_option linter.unusedSimpArgs false
set_option maxRecDepth 100000
set_option maxHeartbeats 2000000 in
theorem rt_twoA (b off len cap : Nat) (zs : List Int) (w : World) (h : IsB w (some ⟨b, off, none⟩) len zs) (hc : len ≤ cap) (hl : 11 ≤ len) (h0 : zs.getD 0 0 = 2) (hfit : 11 + (numF (sbF zs 9 2)).toNat ≤ len) (hn0 : 0 < (numF (sbF zs 9 2)).toNat) :
    Calls Try.prog 17 #[.slice (some ⟨b, off, none⟩) len cap] w fun e w' => e = .returned (if numF (sbF zs 5 4) = 0 ∨ 16384 < (numF (sbF zs 9 2)).toNat then rtNo else rtYes ⟨2, numF (sbF zs 1 4), numF (sbF zs 5 4), Fr.tx (sbF zs 11 (numF (sbF zs 9 2)).toNat)⟩ (11 + (numF (sbF zs 9 2)).toNat)) ∧ Below w.heap.size w w' := by
  have hm := h.2.1
  unfold maxLen at hm
  have hc0 : w.cell? ⟨b, off, none⟩ = some (.int .u8 (zs.getD 0 0)) := by
    obtain ⟨b', off', e, hc⟩ := h.2.2.1 (by omega)
    cases e
    exact hc 0 (by omega)
  have hb0 := h.2.2.2 0
  rw [h0] at hc0
  have BW : Hid (∀ W, (∃ o, W = w.alloc o) ∨ (∃ o, W = (w.alloc o).drew) → Below w.heap.size w W) := hid (fun W hW => by
    rcases hW with ⟨o, rfl⟩ | ⟨o, rfl⟩
    · exact (Below.refl _ _).alloc (Nat.le_refl _) _
    · exact bel_drew ((Below.refl _ _).alloc (Nat.le_refl _) _))
  have hblt : b < w.heap.size := blt_of_cell hc0
  have hne : ¬ b = w.heap.size := by omega
  have hne' : ¬ w.heap.size = b := by omega
  have I1 : Hid (IsB (w.alloc (.cells #[.int .u8 2, .int .u32 0, .int .u32 0, .string ⟨#[]⟩] 54)) (some ⟨b, off, none⟩) len zs) := hid (h.later ((Below.refl _ _).alloc (Nat.le_refl _) _))
  obtain ⟨E1, he⟩ : ∃ E1, numF (sbF zs 1 4) = E1 := ⟨_, rfl⟩
  obtain ⟨M1, hq⟩ : ∃ M1, numF (sbF zs 5 4) = M1 := ⟨_, rfl⟩
  have hqb := (sbF_bd h 5 4 (by omega)).1
  have NA : Hid (∀ W, IsB W (some ⟨b, off, none⟩) len zs → Calls Try.prog 31 #[.slice (some ⟨b, off + 1, none⟩) 4 (cap - 1)] W fun e w' => e = .returned (.int .u32 E1) ∧ w' = W) := hid (fun W hW => by rw [← he]; exact readNumber_c _ 4 _ _ W (hW.sb 1 4 (by omega)) (by omega))
  have NB : Hid (∀ W, IsB W (some ⟨b, off, none⟩) len zs → Calls Try.prog 31 #[.slice (some ⟨b, off + 5, none⟩) 4 (cap - 5)] W fun e w' => e = .returned (.int .u32 M1) ∧ w' = W) := hid (fun W hW => by rw [← hq]; exact readNumber_c _ 4 _ _ W (hW.sb 5 4 (by omega)) (by omega))
  have K1 : Hid True := hid trivial
  have hN0 := (sbF_bd h 9 2 (by omega)).1
  obtain ⟨n, hN⟩ : ∃ n : Nat, numF (sbF zs 9 2) = (n : Int) := ⟨(numF (sbF zs 9 2)).toNat, by omega⟩
  have hN1 := (sbF_bd h 9 2 (by omega)).2
  have hnb : n < 65536 := by omega
  have NC : Hid (∀ W, IsB W (some ⟨b, off, none⟩) len zs → Calls Try.prog 31 #[.slice (some ⟨b, off + 9, none⟩) 2 (cap - 9)] W fun e w' => e = .returned (.int .u32 n) ∧ w' = W) := hid (fun W hW => by rw [← hN]; exact readNumber_c _ 2 _ _ W (hW.sb 9 2 (by omega)) (by omega))
  have hnt : (numF (sbF zs 9 2)).toNat = n := by omega
  have hlI : (11 : Int) ≤ (len : Int) := by omega
  clear hN0 hN1
  rw [he, hq, hnt]
  rw [hq] at hqb
  rw [hnt] at hfit hn0
  obtain ⟨RV, hRV⟩ : ∃ RV, RV = (if M1 = 0 ∨ 16384 < n then rtNo else rtYes ⟨2, E1, M1, Fr.tx (sbF zs 11 n)⟩ (11 + n)) := ⟨_, rfl⟩
  rw [← hRV]
  have HRV := hid hRV
  clear hRV
  have hfitI : (11 : Int) + (n : Int) ≤ (len : Int) := by omega
  have hfitI' : ¬ (len : Int) < 11 + (n : Int) := by omega
  have hcap : ¬ cap = 11 := by omega
  have CV : Hid (∀ o, Sem.run Try.prog (convert 22 9 (.slice (some ⟨b, off + 11, none⟩) n (cap - 11))) (w.alloc o).drew = .ok (.string (Fr.tx (sbF zs 11 n))) (w.alloc o).drew) := hid (fun o => IsB.convL (w := (w.alloc o).drew) ((h.sb 11 n (by omega)).later (bel_drew ((Below.refl _ _).alloc (Nat.le_refl _) _))))
  obtain ⟨TX, hTX⟩ : ∃ TX, Fr.tx (sbF zs 11 n) = TX := ⟨_, rfl⟩
  have HTS : Hid (TX.size = n) := hid (by rw [← hTX, Fr.tx_size, sbF_len zs 11 n (by rw [h.1]; omega)])
  rw [hTX] at CV HRV
  clear hTX
  clear he hq hN hnt
  clear h
  go_enter Try.func17, Try.ntmps17
  go_wp2_with fail
  refine wp_scope_fwd 0 rfl ?_
  go_wp2_with (go_at_call 31; refine (NC.out _ ?_).mono ?_; exact I1.out; rintro _ w1 ⟨rfl, h1⟩; rw [h1]; clear h1)
  go_region_with (first
    | (go_at_call 31; have _q := K2.out; clear _q; refine (NB.out _ ?_).mono ?_; exact I1.out; rintro _ w3 ⟨rfl, h3⟩; rw [h3]; clear h3)
    | (go_at_call 31; have _q := K1.out; clear _q K1; refine (NA.out _ ?_).mono ?_; exact I1.out; rintro _ w2 ⟨rfl, h2⟩; rw [h2]; clear h2; have K2 : Hid True := hid trivial))
  all_goals (go_wp2_with fail
             rw [CV.out]
             by_cases hM : M1 = 0
             · have hM' : ¬ (0 : Int) < M1 := by omega
               have hMd : decide ((0 : Int) < M1) = false := decide_eq_false hM'
               go_wp2
               go_step3
               go_wp2
               rw [jump_ret]
               exact bodyPost_ret (v := rtNo) (by simp [results, Try.results17, go_sem, rtNo, rtYes]) rfl ⟨(by rw [HRV.out, if_pos (.inl hM)]), BW.out _ (by first | exact Or.inl ⟨_, rfl⟩ | exact Or.inr ⟨_, rfl⟩)⟩
             · have hM' : (0 : Int) < M1 := by omega
               have hMd : decide ((0 : Int) < M1) = true := decide_eq_true hM'
               by_cases hB : 16384 < n
               · have hB' : ¬ (TX.size : Int) ≤ 16384 := by rw [HTS.out]; omega
                 have hBd : decide ((TX.size : Int) ≤ 16384) = false := decide_eq_false hB'
                 go_wp2
                 go_step3
                 go_wp2
                 rw [jump_ret]
                 exact bodyPost_ret (v := rtNo) (by simp [results, Try.results17, go_sem, rtNo, rtYes]) rfl ⟨(by rw [HRV.out, if_pos (.inr hB)]), BW.out _ (by first | exact Or.inl ⟨_, rfl⟩ | exact Or.inr ⟨_, rfl⟩)⟩
               · have hB' : (TX.size : Int) ≤ 16384 := by rw [HTS.out]; omega
                 have hBd : decide ((TX.size : Int) ≤ 16384) = true := decide_eq_true hB'
                 go_wp2
                 rw [jump_ret]
                 exact bodyPost_ret (v := rtYes ⟨2, E1, M1, TX⟩ (11 + n)) (by simp [results, Try.results17, go_sem, rtNo, rtYes]) rfl ⟨(by rw [HRV.out, if_neg (fun e => e.elim hM hB)]), BW.out _ (by first | exact Or.inl ⟨_, rfl⟩ | exact Or.inr ⟨_, rfl⟩)⟩)
end Go.Proofs.Ytmoeljieafninaa
