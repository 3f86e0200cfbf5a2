/-
  For every deeds, and more of them on the Fork: what becomes of a Fork changes nothing.
-/
import Derived.Test.YtjgpolaogneoaaaRSa
namespace Go.Proofs.Ytjgpolaogneoaaa
open Go.RowKit Go.ChangeShapes Go.WideShapes Go.ChangeAt
open Go.ChangeMaps (open_string shut_string)
set_option linter.unusedVariables false
set_option linter.unusedSimpArgs false
set_option maxRecDepth 100000
theorem Bo.outF {S : Nat → Prop} {w w' : World} {B c r s t z : Nat} {l : Fr.Pk} {C R : Cl} {F : Nat → Tk} {n : Nat} (h : Bo w B c r s t l C R F n) (ho : Ou S w w') (hS : ∀ k, S k → z ≤ k) (hz : B < z ∧ c < z ∧ r < z ∧ s < z ∧ t < z) : Bo w' B c r s t l C R F n := by
  have n1 : ∀ k, k < z → ¬ S k := fun k hk hs => by have := hS k hs; omega
  exact ⟨h.at'.out ho (n1 _ hz.1), h.hc.out ho (n1 _ hz.2.1), h.hr.out ho (n1 _ hz.2.2.1), h.hs.out ho (n1 _ hz.2.2.2.1), h.ht.out ho (n1 _ hz.2.2.2.2), h.rel, h.wc, h.wr, h.wf, h.wl⟩
/-- The Fork is made. -/
def FkP (B c r s t : Nat) (l : Fr.Pk) (C R : Cl) (F : Nat → Tk) (n : Nat) (W : World) (B' : Nat) (w' : World) : Prop :=
  ∃ c' r' s' t', Bo w' B' c' r' s' t' l C R (fun _ => ⟨0, 0, 0, ⟨#[]⟩⟩) n ∧ (∀ k, Five B' c' r' s' t' k → W.heap.size ≤ k) ∧ Bo w' B c r s t l C R F n ∧ Below W.heap.size W w'
theorem fkP_mk {B c r s t : Nat} {l : Fr.Pk} {C R : Cl} {F : Nat → Tk} {n : Nat} {W w3 w4 w5 w6 : World} {c' r' s' t' : Nat} (h : Bo W B c r s t l C R F n)
    (g1 : W.heap.size ≤ c') (hC : IsC 73 w3 c' C) (b3 : Below W.heap.size W w3)
    (g2 : w3.heap.size ≤ r') (hR : IsC 86 w4 r' R) (b4 : Below w3.heap.size w3 w4)
    (g3 : w4.heap.size ≤ s') (hK : IsK w5 s' (fun _ => ⟨0, 0, 0, ⟨#[]⟩⟩)) (b5 : Below w4.heap.size w4 w5)
    (g4 : w5.heap.size ≤ t') (hT : IsRK w6 t' (fun _ => ⟨0, 0, 0, ⟨#[]⟩⟩)) (b6 : Below w5.heap.size w5 w6) :
    FkP B c r s t l C R F n W w6.heap.size (w6.alloc (.cells #[pC c', pC r', pC s', pC t', .int .u8 l.k, .int .u8 l.f, .int .u8 l.t, .int .u32 l.e, .int .u32 l.s, .string l.b] 56)) := by
  have b7 : Below w6.heap.size w6 (w6.alloc (.cells #[pC c', pC r', pC s', pC t', .int .u8 l.k, .int .u8 l.f, .int .u8 l.t, .int .u32 l.e, .int .u32 l.s, .string l.b] 56)) := (Below.refl _ _).alloc (Nat.le_refl _) _
  have z3 := b3.size
  have z4 := b4.size
  have z5 := b5.size
  have z6 := b6.size
  have bb : Below W.heap.size W (w6.alloc (.cells #[pC c', pC r', pC s', pC t', .int .u8 l.k, .int .u8 l.f, .int .u8 l.t, .int .u32 l.e, .int .u32 l.s, .string l.b] 56)) := (((b3.trans (b4.mono (by omega))).trans (b5.mono (by omega))).trans (b6.mono (by omega))).trans (b7.mono (by omega))
  refine ⟨c', r', s', t', ⟨heap_alloc_new w6 _, (((hC.later b4).later b5).later b6).later b7, ((hR.later b5).later b6).later b7, (hK.later b6).later b7, hT.later b7, h.rel, h.wc, h.wr, wft0, h.wl⟩, ?_, h.later bb, bb⟩
  rintro k (e | e | e | e | e) <;> omega
set_option maxHeartbeats 4000000 in
theorem rpcForks_walk (a : Option Addr) (len cap : Nat) (f : Nat → Dr) (am : Option Addr) (lm cm : Nat) (g : Nat → Dr) (w : World) (h : IsDr w a len f) (hg : IsDr w am lm g) :
    Calls Try.prog 7 #[.slice a len cap, .slice am lm cm] w fun e w' => e = .returned (.bool true) ∧ Below w.heap.size w w' := by
  have PL := hid (play_c a len cap f w h)
  have HG := hid hg
  have hm := hg.1
  unfold maxLen at hm
  clear h hg
  go_enter Try.func7, Try.ntmps7
  go_wp2_with fail
  refine PL.out.mono ?_
  rintro _ w1 ⟨B, c, r, s, t, l, C, R, F, nn, rfl, hnn, hB1, hge, hb1⟩
  clear PL hge
  go_wp2_with fail
  refine (rlive_c _).mono ?_
  rintro _ w2 ⟨rfl, hb2⟩
  have HB := hid (hB1.later hb2)
  have W2 := hid (hb1.trans (hb2.mono hb1.size))
  clear hB1 hb1 hb2
  have HD : Hid (Bo w2.drew B c r s t l C R F nn) := hid (HB.out.later (bel_drew (Below.refl _ _)))
  have HW : Hid (Below w.heap.size w w2.drew) := hid (bel_drew W2.out)
  go_wp2_with fail
  generalize hW : w2.drew = W at *
  have LB : ∀ w', Below W.heap.size W w' → w'.cell? ⟨B, 0, none⟩ = some (pC c) ∧ w'.cell? ⟨B, 1, none⟩ = some (pC r) ∧ w'.cell? ⟨B, 2, none⟩ = some (pC s) ∧ w'.cell? ⟨B, 3, none⟩ = some (pC t) ∧ w'.cell? ⟨B, 4, none⟩ = some (.int .u8 l.k) ∧ w'.cell? ⟨B, 5, none⟩ = some (.int .u8 l.f) ∧ w'.cell? ⟨B, 6, none⟩ = some (.int .u8 l.t) ∧ w'.cell? ⟨B, 7, none⟩ = some (.int .u32 l.e) ∧ w'.cell? ⟨B, 8, none⟩ = some (.int .u32 l.s) ∧ w'.cell? ⟨B, 9, none⟩ = some (.string l.b) ∧ _ := fun w' hb => (HD.out.at'.later hb).cells
  have l0 : ∀ w', Below W.heap.size W w' → w'.cell? ⟨B, 0, none⟩ = some (pC c) := fun w' hb => (LB w' hb).1
  have l1 : ∀ w', Below W.heap.size W w' → w'.cell? ⟨B, 1, none⟩ = some (pC r) := fun w' hb => (LB w' hb).2.1
  have FC : Hid (Calls Try.prog 21 #[pC c] W fun e w' => ∃ c', e = .returned (pC c') ∧ W.heap.size ≤ c' ∧ IsC 73 w' c' C ∧ Below W.heap.size W w') := hid ((fork_c HD.out.hc).mono fun e w' q => ⟨_, q.1, Nat.le_refl _, q.2.1, q.2.2⟩)
  have FR : Hid (∀ w3, Below W.heap.size W w3 → Calls Try.prog 22 #[pC r] w3 fun e w' => ∃ r', e = .returned (pC r') ∧ w3.heap.size ≤ r' ∧ IsC 86 w' r' R ∧ Below w3.heap.size w3 w') := hid (fun w3 hb => (rfork_c (HD.out.hr.later hb)).mono fun e w' q => ⟨_, q.1, Nat.le_refl _, q.2.1, q.2.2⟩)
  have NC : Hid (∀ w4, Calls Try.prog 13 #[] w4 fun e w' => ∃ s', e = .returned (pC s') ∧ w4.heap.size ≤ s' ∧ IsK w' s' (fun _ => ⟨0, 0, 0, ⟨#[]⟩⟩) ∧ Below w4.heap.size w4 w') := hid (fun w4 => (newCallee_c w4).mono fun e w' q => ⟨_, q.1, Nat.le_refl _, q.2.1, q.2.2⟩)
  have NR : Hid (∀ w5, Calls Try.prog 23 #[] w5 fun e w' => ∃ t', e = .returned (pC t') ∧ w5.heap.size ≤ t' ∧ IsRK w' t' (fun _ => ⟨0, 0, 0, ⟨#[]⟩⟩) ∧ Below w5.heap.size w5 w') := hid (fun w5 => (rnewCallee_c w5).mono fun e w' q => ⟨_, q.1, Nat.le_refl _, q.2.1, q.2.2⟩)
  refine wp_region_held_drew (S := fun w' => Below W.heap.size W w') (by kernel_rfl) (hW ▸ Below.refl _ _) (fun hHeld => ?_)
  rw [hW] at hHeld ⊢
  refine take_l 0 (v := ?_) rfl (by kernel_rfl) (by kernel_rfl) (by kernel_rfl) (fun _ _ _ h => h) (Or.inl ⟨by rfl, ?_⟩) (by assumption) ?_
  rotate_left
  · (intro w' hSw; clear hSw; go_simp; first | done | with_reducible rfl)
  try simp only [Act.put, List.setIfInBounds_toArray, List.set_cons_zero, List.set_cons_succ]
  refine take_l 1 (v := ?_) rfl (by kernel_rfl) (by kernel_rfl) (by kernel_rfl) (fun _ _ _ h => h) (Or.inl ⟨by rfl, ?_⟩) (by assumption) ?_
  rotate_left
  · (intro w' hSw; clear hSw; go_simp; first | done | with_reducible rfl)
  try simp only [Act.put, List.setIfInBounds_toArray, List.set_cons_zero, List.set_cons_succ]
  refine take_l 2 (v := ?_) rfl (by kernel_rfl) (by kernel_rfl) (by kernel_rfl) (fun _ _ _ h => h) (Or.inl ⟨by rfl, ?_⟩) (by assumption) ?_
  rotate_left
  · (intro w' hSw; clear hSw; go_simp; first | done | with_reducible rfl)
  try simp only [Act.put, List.setIfInBounds_toArray, List.set_cons_zero, List.set_cons_succ]
  refine take_l 3 (v := ?_) rfl (by kernel_rfl) (by kernel_rfl) (by kernel_rfl) (fun _ _ _ h => h) (Or.inl ⟨by rfl, ?_⟩) (by assumption) ?_
  rotate_left
  · (intro w' hSw; (have kq := l0 _ hSw); clear hSw; go_simp; first | done | with_reducible rfl)
  try simp only [Act.put, List.setIfInBounds_toArray, List.set_cons_zero, List.set_cons_succ]
  refine take_l 5 (v := ?_) rfl (by kernel_rfl) (by kernel_rfl) (by kernel_rfl) (fun _ _ _ h => h) (Or.inl ⟨by rfl, ?_⟩) (by assumption) ?_
  rotate_left
  · (intro w' hSw; clear hSw; go_simp; first | done | with_reducible rfl)
  try simp only [Act.put, List.setIfInBounds_toArray, List.set_cons_zero, List.set_cons_succ]
  refine take_l 6 (v := ?_) rfl (by kernel_rfl) (by kernel_rfl) (by kernel_rfl) (fun _ _ _ h => h) (Or.inl ⟨by rfl, ?_⟩) (by assumption) ?_
  rotate_left
  · (intro w' hSw; clear hSw; go_simp; first | done | with_reducible rfl)
  try simp only [Act.put, List.setIfInBounds_toArray, List.set_cons_zero, List.set_cons_succ]
  refine take_l 7 (v := ?_) rfl (by kernel_rfl) (by kernel_rfl) (by kernel_rfl) (fun _ _ _ h => h) (Or.inl ⟨by rfl, ?_⟩) (by assumption) ?_
  rotate_left
  · (intro w' hSw; clear hSw; go_simp; first | done | with_reducible rfl)
  try simp only [Act.put, List.setIfInBounds_toArray, List.set_cons_zero, List.set_cons_succ]
  refine take_l 8 (v := ?_) rfl (by kernel_rfl) (by kernel_rfl) (by kernel_rfl) (fun _ _ _ h => h) (Or.inl ⟨by rfl, ?_⟩) (by assumption) ?_
  rotate_left
  · (intro w' hSw; (have kq := l1 _ hSw); clear hSw; go_simp; first | done | with_reducible rfl)
  try simp only [Act.put, List.setIfInBounds_toArray, List.set_cons_zero, List.set_cons_succ]
  refine take_l 12 (v := ?_) rfl (by kernel_rfl) (by kernel_rfl) (by kernel_rfl) (fun _ _ _ h => h) (Or.inl ⟨by rfl, ?_⟩) (by assumption) ?_
  rotate_left
  · (intro w' hSw; clear hSw; go_simp; first | done | with_reducible rfl)
  try simp only [Act.put, List.setIfInBounds_toArray, List.set_cons_zero, List.set_cons_succ]
  refine take_l 13 (v := ?_) rfl (by kernel_rfl) (by kernel_rfl) (by kernel_rfl) (fun _ _ _ h => h) (Or.inl ⟨by rfl, ?_⟩) (by assumption) ?_
  rotate_left
  · (intro w' hSw; clear hSw; go_simp; first | done | with_reducible rfl)
  try simp only [Act.put, List.setIfInBounds_toArray, List.set_cons_zero, List.set_cons_succ]
  refine take_l 14 (v := ?_) rfl (by kernel_rfl) (by kernel_rfl) (by kernel_rfl) (fun _ _ _ h => h) (Or.inl ⟨by rfl, ?_⟩) (by assumption) ?_
  rotate_left
  · (intro w' hSw; clear hSw; go_simp; first | done | with_reducible rfl)
  try simp only [Act.put, List.setIfInBounds_toArray, List.set_cons_zero, List.set_cons_succ]
  refine take_l 15 (v := ?_) rfl (by kernel_rfl) (by kernel_rfl) (by kernel_rfl) (fun _ _ _ h => h) (Or.inl ⟨by rfl, ?_⟩) (by assumption) ?_
  rotate_left
  · (intro w' hSw; (obtain ⟨_, _, _, _, k4, k5, k6, k7, k8, k9, _⟩ := LB _ hSw); clear hSw; go_simp; first | done | with_reducible rfl)
  try simp only [Act.put, List.setIfInBounds_toArray, List.set_cons_zero, List.set_cons_succ]
  refine cons_l 4 rfl (by kernel_rfl) (fun K hK => ?_)
  go_simp
  refine FC.out.mono ?_
  rintro _ w3 ⟨c', rfl, g3, hC3, b3⟩
  have X3 := hid (And.intro g3 (And.intro hC3 b3))
  clear g3 hC3 b3
  go_simp
  refine hK.out _ _ (X3.out.2.2) (fun hHeld => ?_)
  clear hK K
  try simp only [Act.put, List.setIfInBounds_toArray, List.set_cons_zero, List.set_cons_succ]
  have Y3 := hid hHeld
  refine cons_l 9 rfl (by kernel_rfl) (fun K hK => ?_)
  go_simp
  refine (FR.out _ Y3.out).mono ?_
  rintro _ w4 ⟨r', rfl, g4, hR4, b4⟩
  have X4 := hid (And.intro g4 (And.intro hR4 b4))
  clear g4 hR4 b4
  go_simp
  refine hK.out _ _ (Y3.out.trans (X4.out.2.2.mono Y3.out.size)) (fun hHeld => ?_)
  clear hK K
  try simp only [Act.put, List.setIfInBounds_toArray, List.set_cons_zero, List.set_cons_succ]
  have Y4 := hid hHeld
  refine cons_l 10 rfl (by kernel_rfl) (fun K hK => ?_)
  go_simp
  refine (NC.out _).mono ?_
  rintro _ w5 ⟨s', rfl, g5, hK5, b5⟩
  have X5 := hid (And.intro g5 (And.intro hK5 b5))
  clear g5 hK5 b5
  go_simp
  refine hK.out _ _ (Y4.out.trans (X5.out.2.2.mono Y4.out.size)) (fun hHeld => ?_)
  clear hK K
  try simp only [Act.put, List.setIfInBounds_toArray, List.set_cons_zero, List.set_cons_succ]
  have Y5 := hid hHeld
  refine cons_l 11 rfl (by kernel_rfl) (fun K hK => ?_)
  go_simp
  refine (NR.out _).mono ?_
  rintro _ w6 ⟨t', rfl, g6, hT6, b6⟩
  have X6 := hid (And.intro g6 (And.intro hT6 b6))
  clear g6 hT6 b6
  go_simp
  refine hK.out _ _ (Y5.out.trans (X6.out.2.2.mono Y5.out.size)) (fun hHeld => ?_)
  clear hK K
  try simp only [Act.put, List.setIfInBounds_toArray, List.set_cons_zero, List.set_cons_succ]
  have Y6 := hid hHeld
  have FK := hid (fkP_mk HD.out X3.out.1 X3.out.2.1 X3.out.2.2 X4.out.1 X4.out.2.1 X4.out.2.2 X5.out.1 X5.out.2.1 X5.out.2.2 X6.out.1 X6.out.2.1 X6.out.2.2)
  refine take_l 16 (v := ?_) rfl (by kernel_rfl) (by kernel_rfl) (by kernel_rfl) (fun _ _ _ h => h) (Or.inl ⟨by rfl, ?_⟩) (by assumption) ?_
  rotate_left
  · (intro w' hSw; clear hSw; go_simp; first | done | with_reducible rfl)
  try simp only [Act.put, List.setIfInBounds_toArray, List.set_cons_zero, List.set_cons_succ]
  refine cons_l 17 rfl (by kernel_rfl) (fun K hK => ?_)
  go_simp
  refine hK.out _ _ (by obtain ⟨_, _, _, _, _, _, _, hq⟩ := FK.out; exact hq) (fun hHeld => ?_)
  clear hK K
  try simp only [Act.put, List.setIfInBounds_toArray, List.set_cons_zero, List.set_cons_succ]
  refine take_l 18 (v := ?_) rfl (by kernel_rfl) (by kernel_rfl) (by kernel_rfl) (fun _ _ _ h => h) (Or.inl ⟨by rfl, ?_⟩) (by assumption) ?_
  rotate_left
  · (intro w' hSw; clear hSw; go_simp; first | done | with_reducible rfl)
  try simp only [Act.put, List.setIfInBounds_toArray, List.set_cons_zero, List.set_cons_succ]
  refine wpAnyH_done (by kernel_rfl) ?_ _
  clear hHeld X3 X4 X5 X6 Y3 Y4 Y5 Y6 FC FR NC NR l0 l1 LB
  have hlt := HD.out.lts
  obtain ⟨c', r', s', t', hF, hfive, hO, hbF⟩ := FK.out
  have HF := hid hF
  have HO := hid hO
  have HV := hid hfive
  have HX := hid (HW.out.trans (hbF.mono HW.out.size))
  have hws := HW.out.size
  clear hF hO hfive hbF FK HW HD
  generalize w6.heap.size = B' at *
  generalize (World.alloc w6 _) = w7 at *
  go_wp2
  go_loopw [4, 7] (fun rs i wr => ∃ j l' C' R' F', j ≤ 20 ∧ rs = .bool false ∧ i = .int .i64 (j : Nat) ∧ Bo wr B' c' r' s' t' l' C' R' F' (nn + j) ∧ Bo wr B c r s t l C R F nn ∧ Below w.heap.size w wr) (fun _ i _ => (20 - intOf i).toNat)
  case atStart => exact ⟨0, _, _, _, _, by omega, rfl, rfl, HF.out, HO.out, HX.out⟩
  case round =>
    obtain ⟨j, l', C', R', F', hj, rfl, rfl, hB, hO', hb⟩ := hrel
    have HB' := hid hB
    have HO' := hid hO'
    have HW' := hid hb
    clear hB hO' hb HF HO HX
    by_cases h1 : j < lm
    · have h1' : (j : Int) < (lm : Int) := by omega
      by_cases h2 : j < 20
      · have h2' : (j : Int) < 20 := by omega
        obtain ⟨b, off, rfl, hrg, hwf⟩ := HG.out.2 j h1
        have DC := hid (do_c HB'.out (by omega) (g j) hwf)
        have HR : Hid (wr.rangeAt b (off + j * 11) (g j).cells) := hid (fun k v hv => cell_later HW'.out (hrg k v hv))
        unfold Dr.val at DC
        generalize g j = x at *
        have k0 : wr.cell? ⟨b, off + j * 11, none⟩ = some (.int .i64 x.k) := HR.out 0 _ rfl
        have k1 : wr.cell? ⟨b, off + j * 11 + 1, none⟩ = some (.string x.s) := HR.out 1 _ rfl
        have k2 : wr.cell? ⟨b, off + j * 11 + 2, none⟩ = some (.int .u64 x.now) := HR.out 2 _ rfl
        have k3 : wr.cell? ⟨b, off + j * 11 + 3, none⟩ = some (.int .u8 x.p.k) := HR.out 3 _ rfl
        have k4 : wr.cell? ⟨b, off + j * 11 + 4, none⟩ = some (.int .u8 x.p.f) := HR.out 4 _ rfl
        have k5 : wr.cell? ⟨b, off + j * 11 + 5, none⟩ = some (.int .u8 x.p.t) := HR.out 5 _ rfl
        have k6 : wr.cell? ⟨b, off + j * 11 + 6, none⟩ = some (.int .u32 x.p.e) := HR.out 6 _ rfl
        have k7 : wr.cell? ⟨b, off + j * 11 + 7, none⟩ = some (.int .u32 x.p.s) := HR.out 7 _ rfl
        have k8 : wr.cell? ⟨b, off + j * 11 + 8, none⟩ = some (.string x.p.b) := HR.out 8 _ rfl
        have k9 : wr.cell? ⟨b, off + j * 11 + 9, none⟩ = some (.int .u8 x.c) := HR.out 9 _ rfl
        have k10 : wr.cell? ⟨b, off + j * 11 + 10, none⟩ = some (.bool x.own) := HR.out 10 _ rfl
        clear hrg hwf HR
        go_wp2_with (go_at_call 24; refine DC.out.mono ?_; rintro _ w8 ⟨rfl, ⟨l2, C2, R2, F2, hB8⟩, ho8⟩)
        go_roundw
        case rel => exact ⟨j + 1, l2, C2, R2, F2, by omega, rfl, by go_num, hB8, HO'.out.outF ho8 HV.out hlt, HW'.out.trans (ho8.below HW'.out.size (fun k e => Nat.le_trans hws (HV.out k e)))⟩
        case measure => simp [intOf]; omega
      · have h2' : ¬ (j : Int) < 20 := by omega
        have h2d : decide ((j : Int) < 20) = false := decide_eq_false h2'
        have S1 := hid (same_c HO'.out)
        go_wp2_with fail
        refine S1.out.mono ?_
        rintro _ w8 ⟨rfl, hb8⟩
        have S2 := hid (same_c (HB'.out.later hb8))
        have H8 := hid hb8
        clear hb8 S1
        go_wp2_with fail
        refine S2.out.mono ?_
        rintro _ w9 ⟨rfl, hb9⟩
        have H9 := hid hb9
        clear hb9 S2
        go_wp2
        go_ret
        exact ⟨rfl, (HW'.out.trans (H8.out.mono HW'.out.size)).trans (H9.out.mono (Nat.le_trans HW'.out.size H8.out.size))⟩
    · have h1' : ¬ (j : Int) < (lm : Int) := by omega
      have h1d : decide ((j : Int) < (lm : Int)) = false := decide_eq_false h1'
      have S1 := hid (same_c HO'.out)
      go_wp2_with fail
      refine S1.out.mono ?_
      rintro _ w8 ⟨rfl, hb8⟩
      have S2 := hid (same_c (HB'.out.later hb8))
      have H8 := hid hb8
      clear hb8 S1
      go_wp2_with fail
      refine S2.out.mono ?_
      rintro _ w9 ⟨rfl, hb9⟩
      have H9 := hid hb9
      clear hb9 S2
      go_wp2
      go_ret
      exact ⟨rfl, (HW'.out.trans (H8.out.mono HW'.out.size)).trans (H9.out.mono (Nat.le_trans HW'.out.size H8.out.size))⟩
/-! ### The row of RpcForks -/
theorem rpcForks_own : ownKnob Try.prog.godebug = none := by kernel_rfl
theorem rpcForks_laidOut : laidOutB Try.prog = true := by kernel_rfl
set_option maxRecDepth 100000 in
theorem rpcForks_lifted (os : Os) (started : os.Started) (H : Type) (enc : TypeId × Value → H) :
    ReturnsInHanded {} Try.checked os 7 .any (Rows.rpcForksSpec.pre6 enc Try.prog Try.f7 Rows.rpcForksRow.domain false) (Rows.rpcForksSpec.post enc Try.prog Try.f7 false true false false) := by
  refine returnsInHanded_of_change (C := Try.checked) rpcForks_own started (by kernel_rfl) Try.func7
    (ChangeSpec.witness6 (enc := enc) (C := Try.checked) false ⟨#[], #[.slice none 0 0, .slice none 0 0], []⟩ 8 (by kernel_rfl) (by kernel_rfl) (by kernel_rfl) (by kernel_rfl)) ?_
  intro W base args ds gs before hval0 hW hcnd _
  have hval : ∀ (j : Nat) t v, Try.f7.params[j]? = some t → args[j]? = some v → Value.okWide Try.prog W .any base t v := hval0
  have hW' := hW
  obtain ⟨p, q, hA0, hV, rfl, hfz, hnd⟩ := hW
  have hA : DataW.TrodAll enc Try.prog W 0 (fun _ => true) true Try.f7.params.toList args.toList ds p := hA0
  rw [Try.params7] at hA hval
  obtain ⟨v0, vs0, d0, ds0, p0, q0, hargs, rfl, rfl, h0, r0⟩ := trodAll_cons hA
  obtain ⟨v1, vs1, d1, ds1, p1, q1, rfl, rfl, rfl, h1, r1⟩ := trodAll_cons r0
  obtain ⟨rfl, rfl, rfl⟩ := trodAll_nil r1
  obtain rfl : args = #[v0, v1] := by cases args; simp_all
  obtain ⟨rfl, rfl⟩ := trodVars_none hV
  have k0 := h0
  have lt0 : ∀ x ∈ p0, x.block < W.heap.size := by obtain ⟨m, hm⟩ := k0; exact DataW.trod_lt m _ _ _ hm
  obtain ⟨a0, len0, cap0, rfl⟩ := okWide_slice Try.underlying22 (hval 0 22 v0 rfl rfl)
  obtain ⟨z0, w0⟩ := isDr_of Try.underlying22 h0
  have k1 := h1
  have lt1 : ∀ x ∈ p1, x.block < W.heap.size := by obtain ⟨m, hm⟩ := k1; exact DataW.trod_lt m _ _ _ hm
  obtain ⟨a1, len1, cap1, rfl⟩ := okWide_slice Try.underlying22 (hval 1 22 v1 rfl rfl)
  obtain ⟨z1, w1⟩ := isDr_of Try.underlying22 h1
  clear hA0 hval0
  refine (rpcForks_walk a0 len0 cap0 z0 a1 len1 cap1 z1 W w0 w1).mono fun e W' ⟨he, bel⟩ => ?_
  subst he
  exact ⟨_, rfl, _, _, _, [], _, [], hW', trodAll_mk1 (shut_bool Try.underlying4 _), (trodAll_cons_mk (Below.trod rpcForks_laidOut (by kernel_rfl) (of_decide_eq_true (by kernel_rfl)) k0 bel lt0) (trodAll_cons_mk (Below.trod rpcForks_laidOut (by kernel_rfl) (of_decide_eq_true (by kernel_rfl)) k1 bel lt1) trodAll_mk0)), rfl, bel.frame _, fun h => by cases h⟩
theorem rpcForks_over : Rows.rpcForksRow.holds Try.pinned (OpenSpec.ofChange Rows.rpcForksSpec) :=
  OpenClaim.holds_of_wide 7 Try.f7 rfl rfl rfl rfl rfl rfl rfl ⟨rfl, rfl, rfl, rfl, rfl⟩ rfl rfl rfl rfl rfl (by kernel_rfl) Try.func7 (by kernel_rfl)
    (of_decide_eq_true (by kernel_rfl)) (by unfold Func.isWrapper; first | (rw [if_pos (by decide +kernel)]; kernel_rfl) | (rw [if_neg (by decide +kernel)]; exact ⟨rfl, rfl⟩))
    (fun os started H enc _ => rpcForks_lifted os started H enc)
/-- The statement. -/
theorem rpcForks_holds : Rows.RpcForksSaid := rpcForks_over
#print axioms rpcForks_holds

end Go.Proofs.Ytjgpolaogneoaaa
