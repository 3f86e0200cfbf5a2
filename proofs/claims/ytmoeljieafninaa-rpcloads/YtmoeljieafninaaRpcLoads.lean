/-
  For every bytes and every packet: a callee of bytes, or the error, is what the document says; its bytes are they, and what it takes and answers is the same.
-/
import Derived.Test.YtmoeljieafninaaRlW
import Derived.Test.YtmoeljieafninaaRKc
import Derived.Test.YtmoeljieafninaaRLv
import Derived.Test.YtmoeljieafninaaRgH
namespace Go.Proofs.Ytmoeljieafninaa
open Go.RowKit Go.ChangeShapes Go.WideShapes Go.ChangeAt
set_option linter.unusedVariables false
set_option linter.unusedSimpArgs false
set_option maxRecDepth 100000
theorem isB_cap {H : Type} {enc : TypeId × Value → H} {P : Program} {W : World} {t e : TypeId} {a : Option Addr} {len cap : Nat} {d : DataW H} {p : List MemPlace}
    (ht : P.underlying t = some (.slice e)) (he : P.underlying e = some (.int .u8)) (hc : P.cellsOf e = 1)
    (h : DataW.Trod enc P W 0 (fun _ => true) true t (.slice a len cap) d p) : a = none → cap = 0 := by
  obtain ⟨fuel, hf⟩ := h
  rcases open_ints ht he hc hf with ⟨hcs, _⟩ | ⟨x, l, c, zs, hcs, _⟩
  · simp [Value.cells] at hcs
    exact fun _ => hcs.2.2
  · simp [Value.cells] at hcs
    intro h0
    rw [h0] at hcs
    cases hcs.1
set_option maxHeartbeats 4000000 in
theorem loads_short (a0 : Option Addr) (len0 cap0 : Nat) (zs0 : List Int) (hlc : len0 ≤ cap0) (hnc : a0 = none → cap0 = 0) (p : Fr.Pk) (hp : Fr.Wf p) (hps : p.b.size ≤ maxLen) (w : World) (h : IsB w a0 len0 zs0) (hs : len0 ≤ 50000) :
    Calls Try.prog 3 #[.slice a0 len0 cap0, Fr.val p] w fun e w' => e = .returned (.bool true) ∧ Below w.heap.size w w' := by
  have hm0 := h.2.1
  unfold maxLen at hm0
  have hsI : ¬ (50000 : Int) < (len0 : Int) := by omega
  obtain ⟨L, hL⟩ : ∃ L, L = len0 := ⟨_, rfl⟩
  subst hL
  obtain ⟨zs, hzs⟩ : ∃ zs, zs = zs0 := ⟨_, rfl⟩
  subst hzs
  have hI := h
  have hIL : IsB w a0 L zs := hI
  have HZ := hid hIL.2.2.2
  obtain ⟨pk, pf, pt, pe, ps, pb⟩ := p
  have b1 : Below w.heap.size w (w.alloc (.cells #[.int .u8 pk, .int .u8 pf, .int .u8 pt, .int .u32 pe, .int .u32 ps, .string pb] 26)) := (Below.refl _ _).alloc (Nat.le_refl _) _
  have P1 : Hid (PkAt (w.alloc (.cells #[.int .u8 pk, .int .u8 pf, .int .u8 pt, .int .u32 pe, .int .u32 ps, .string pb] 26)) w.heap.size ⟨pk, pf, pt, pe, ps, pb⟩) := hid (heap_alloc_new w _)
  have I1 := hid (hIL.later b1)
  have B1 := hid b1
  have L1 := hid (loadCallee_c a0 L cap0 zs _ (hIL.later b1) (by omega))
  have HPW := hid hp
  have HPS := hid hps
  have IL := hid hIL
  rw [show Fr.val ⟨pk, pf, pt, pe, ps, pb⟩ = .agg #[.int .u8 pk, .int .u8 pf, .int .u8 pt, .int .u32 pe, .int .u32 ps, .string pb] from rfl]
  clear h hI hIL b1 hp hps
  unfold LdPost at L1
  go_enter Try.func3, Try.ntmps3
  generalize hW1 : w.alloc (.cells #[.int .u8 pk, .int .u8 pf, .int .u8 pt, .int .u32 pe, .int .u32 ps, .string pb] 26) = w1 at *
  rcases hk : ldK zs with _ | F
  · rw [hk] at L1
    have HK := hid hk
    clear hk
    go_wp2_with fail
    refine L1.out.mono ?_
    rintro _ w2 ⟨hb2, rfl⟩
    have B2 := hid (B1.out.trans (hb2.mono B1.out.size))
    have L2 := hid (rloadCallee_c a0 L cap0 zs _ (I1.out.later hb2) (by omega) hnc)
    unfold RldPost at L2
    rw [HK.out] at L2
    clear hb2 L1
    go_wp2_with fail
    refine L2.out.mono ?_
    rintro _ w3 ⟨hb3, rfl⟩
    have B3 := hid (B2.out.trans (hb3.mono B2.out.size))
    clear hb3 L2
    go_wp2_with (go_at_call 7; refine (rlive_c _).mono ?_; rintro _ w9 ⟨rfl, hb9⟩)
    go_ret
    exact ⟨rfl, B3.out.trans (hb9.mono B3.out.size)⟩
  · rw [hk] at L1
    have HK := hid hk
    obtain ⟨hkb, hkw⟩ := ldK_back HZ.out hk
    have HKB := hid hkb
    have HKW := hid hkw
    have HKL : Hid ((keB F).length = L) := hid (by rw [hkb]; exact IL.out.1)
    clear hk hkb hkw
    go_wp2_with fail
    refine L1.out.mono ?_
    rintro _ w2 ⟨hb2, rfl, hK2⟩
    have B2 := hid (B1.out.trans (hb2.mono B1.out.size))
    have L2 := hid (rloadCallee_c a0 L cap0 zs _ (I1.out.later hb2) (by omega) hnc)
    have K2 := hid hK2
    have I2 := hid (I1.out.later hb2)
    have P2 := hid (P1.out.later hb2)
    unfold RldPost at L2
    rw [HK.out] at L2
    have hlt2 := hK2.lt
    generalize hg1 : w1.heap.size = g1 at *
    clear hb2 L1 hK2
    go_wp2_with fail
    refine L2.out.mono ?_
    rintro _ w3 ⟨hb3, rfl, hR3⟩
    have B3 := hid (B2.out.trans (hb3.mono B2.out.size))
    have K3 := hid (K2.out.later hb3)
    have R3 := hid hR3
    have I3 := hid (I2.out.later hb3)
    have P3 := hid (P2.out.later hb3)
    generalize hg2 : w2.heap.size + 1 = g2 at *
    have hz3 := hb3.size
    clear hb3 L2 hR3
    have BY := hid (bytes_c (w := w3.drew) K3.out HKW.out)
    have cvx : ∀ w', Below w3.drew.heap.size w3.drew w' → (convert 22 9 (.slice a0 L cap0)).run Try.prog w' = .ok (.string (Fr.tx zs)) w' := fun w' h => IsB.convL ((show IsB w3.drew a0 L zs from I3.out).later h)
    rw [← HKB.out] at cvx
    go_wp2_with fail
    refine wp_region_held_drew (S := fun w' => Below w3.drew.heap.size w3.drew w') (by kernel_rfl) (Below.refl _ _) (fun hHeld => ?_)
    refine take_l 0 (v := ?_) rfl (by kernel_rfl) (by kernel_rfl) (by kernel_rfl) (fun _ _ _ h => h) (Or.inl ⟨by rfl, ?_⟩) (by assumption) ?_
    rotate_left
    · (intro w' hSw; clear hSw; go_simp; first | done | with_reducible rfl)
    try simp only [Act.put, List.setIfInBounds_toArray, List.set_cons_zero, List.set_cons_succ]
    refine take_l 3 (v := ?_) rfl (by kernel_rfl) (by kernel_rfl) (by kernel_rfl) (fun _ _ _ h => h) (Or.inl ⟨by rfl, ?_⟩) (by assumption) ?_
    rotate_left
    · (intro w' hSw; clear hSw; go_simp; first | done | with_reducible rfl)
    try simp only [Act.put, List.setIfInBounds_toArray, List.set_cons_zero, List.set_cons_succ]
    refine take_l 4 (v := ?_) rfl (by kernel_rfl) (by kernel_rfl) (by kernel_rfl) (fun _ _ _ h => h) (Or.inl ⟨by rfl, ?_⟩) (by assumption) ?_
    rotate_left
    · (intro w' hSw; (have kq := cvx _ hSw); clear hSw; go_simp; first | done | with_reducible rfl)
    try simp only [Act.put, List.setIfInBounds_toArray, List.set_cons_zero, List.set_cons_succ]
    refine cons_l 1 rfl (by kernel_rfl) (fun K hK => ?_)
    go_simp
    refine BY.out.mono ?_; rintro _ w4 ⟨v4, rfl, hR4, hB4⟩; obtain ⟨p4, c4, rfl, hI4, _⟩ := own_isBF hR4.2.2 (by unfold maxLen; rw [HKL.out]; omega) (by rw [HKB.out]; exact HZ.out) hR4.1
    go_simp
    refine hK.out _ _ hB4 (fun hHeld => ?_)
    clear hK K
    try simp only [Act.put, List.setIfInBounds_toArray, List.set_cons_zero, List.set_cons_succ]
    have B4 := hid hB4
    have cv4 : ∀ w', Below w4.heap.size w4 w' → (convert 22 9 (.slice p4 (keB F).length c4)).run Try.prog w' = .ok (.string (Fr.tx (keB F))) w' := fun w' h => IsB.convL (hI4.later h)
    clear hI4 hHeld hR4 cvx
    refine wpAnyH_narrow (S' := fun w' => Below w4.heap.size w4 w') (fun w' h => hB4.trans (h.mono hB4.size)) ?_
    have hHeld : (fun w' => Below w4.heap.size w4 w') w4 := Below.refl _ _
    clear hB4
    refine take_l 2 (v := ?_) rfl (by kernel_rfl) (by kernel_rfl) (by kernel_rfl) (fun _ _ _ h => h) (Or.inl ⟨by rfl, ?_⟩) (by assumption) ?_
    rotate_left
    · (intro w' hSw; (have kq := cv4 _ hSw); clear hSw; go_simp; first | done | with_reducible rfl)
    try simp only [Act.put, List.setIfInBounds_toArray, List.set_cons_zero, List.set_cons_succ]
    refine take_l 5 (v := ?_) rfl (by kernel_rfl) (by kernel_rfl) (by kernel_rfl) (fun _ _ _ h => h) (Or.inl ⟨by rfl, ?_⟩) (by assumption) ?_
    rotate_left
    · (intro w' hSw; clear hSw; go_simp; first | done | with_reducible rfl)
    try simp only [Act.put, List.setIfInBounds_toArray, List.set_cons_zero, List.set_cons_succ]
    refine wpAnyH_done (by kernel_rfl) ?_ _
    have B5 : Hid (Below w.heap.size w w4) := hid (B3.out.trans ((bel_drew (Below.refl w3.heap.size w3)).trans B4.out |>.mono B3.out.size))
    have b34 : Below w3.heap.size w3 w4 := (bel_drew (Below.refl w3.heap.size w3)).trans B4.out
    have K4 := hid (K3.out.later b34)
    have R4 := hid (R3.out.later b34)
    have P4 := hid (P3.out.later b34)
    have hz4 := b34.size
    clear b34 B4 cv4 BY hHeld
    have KT := hid (ktake_c K4.out HKW.out ⟨pk, pf, pt, pe, ps, pb⟩ HPW.out HPS.out)
    unfold KtPost at KT
    have RTT : Hid (∀ V', IsRK V' g2 F → Calls Try.prog 10 #[pC g2, .agg #[.int .u8 pk, .int .u8 pf, .int .u8 pt, .int .u32 pe, .int .u32 ps, .string pb]] V' fun e w' => e = .returned (.tuple #[.string (ktBody F ⟨pk, pf, pt, pe, ps, pb⟩), .bool (ktOk F ⟨pk, pf, pt, pe, ps, pb⟩), Fr.val (ktPk F ⟨pk, pf, pt, pe, ps, pb⟩), .bool (ktIs F ⟨pk, pf, pt, pe, ps, pb⟩)]) ∧ IsRK w' g2 (ktS F ⟨pk, pf, pt, pe, ps, pb⟩) ∧ Ou (fun k => k = g2) V' w') := hid (fun V' hV => rkt_c hV HKW.out ⟨pk, pf, pt, pe, ps, pb⟩ HPW.out HPS.out)
    generalize ktBody F ⟨pk, pf, pt, pe, ps, pb⟩ = kb at *
    generalize ktOk F ⟨pk, pf, pt, pe, ps, pb⟩ = ko at *
    generalize ktIs F ⟨pk, pf, pt, pe, ps, pb⟩ = ki at *
    generalize ktPk F ⟨pk, pf, pt, pe, ps, pb⟩ = X at *
    generalize ktS F ⟨pk, pf, pt, pe, ps, pb⟩ = G at *
    obtain ⟨xk, xf, xt, xe, xs, xb⟩ := X
    rw [show Fr.val ⟨xk, xf, xt, xe, xs, xb⟩ = .agg #[.int .u8 xk, .int .u8 xf, .int .u8 xt, .int .u32 xe, .int .u32 xs, .string xb] from rfl] at KT RTT
    obtain ⟨q0, q1, q2, q3, q4, q5, _⟩ := P4.out.cells
    simp only at q0 q1 q2 q3 q4 q5
    go_wp2_with fail
    refine KT.out.mono ?_
    rintro _ w5 ⟨rfl, hK5, ho5⟩
    have hz5 := ho5.size
    have hR4 := R4.out.lt
    have hw1 : w.heap.size < w1.heap.size := P1.out.lt
    have hne12 : g2 ≠ g1 := by omega
    have b6 : Below w5.heap.size w5 (w5.alloc (.cells #[.int .u8 xk, .int .u8 xf, .int .u8 xt, .int .u32 xe, .int .u32 xs, .string xb] 26)) := (Below.refl _ _).alloc (Nat.le_refl _) _
    have R6 := hid ((R4.out.out ho5 (by omega)).later b6)
    have P6 := hid ((P4.out.out ho5 (by omega)).later b6)
    have B6 := hid ((B5.out.trans (ho5.below B5.out.size (fun k e => by omega))).trans (b6.mono (by have := B5.out.size; omega)))
    have X6 : Hid (PkAt (w5.alloc (.cells #[.int .u8 xk, .int .u8 xf, .int .u8 xt, .int .u32 xe, .int .u32 xs, .string xb] 26)) w5.heap.size ⟨xk, xf, xt, xe, xs, xb⟩) := hid (heap_alloc_new w5 _)
    generalize hW6 : w5.alloc (.cells #[.int .u8 xk, .int .u8 xf, .int .u8 xt, .int .u32 xe, .int .u32 xs, .string xb] 26) = w6 at *
    clear hK5 ho5 KT q0 q1 q2 q3 q4 q5 b6
    have RT2 := hid (RTT.out _ R6.out)
    obtain ⟨q0, q1, q2, q3, q4, q5, _⟩ := P6.out.cells
    simp only at q0 q1 q2 q3 q4 q5
    go_wp2_with fail
    refine RT2.out.mono ?_
    rintro _ w7 ⟨rfl, hR7, ho7⟩
    have hz7 := ho7.size
    have hX6 := X6.out.lt
    have b8 : Below w7.heap.size w7 (w7.alloc (.cells #[.int .u8 xk, .int .u8 xf, .int .u8 xt, .int .u32 xe, .int .u32 xs, .string xb] 26)) := (Below.refl _ _).alloc (Nat.le_refl _) _
    have Y8 : Hid (PkAt (w7.alloc (.cells #[.int .u8 xk, .int .u8 xf, .int .u8 xt, .int .u32 xe, .int .u32 xs, .string xb] 26)) w7.heap.size ⟨xk, xf, xt, xe, xs, xb⟩) := hid (heap_alloc_new w7 _)
    have X8 := hid ((X6.out.out ho7 (by omega)).later b8)
    have B8 := hid ((B6.out.trans (ho7.below B6.out.size (fun k e => by omega))).trans (b8.mono (by have := B6.out.size; omega)))
    generalize hW8 : w7.alloc (.cells #[.int .u8 xk, .int .u8 xf, .int .u8 xt, .int .u32 xe, .int .u32 xs, .string xb] 26) = w8 at *
    clear hR7 ho7 RT2 q0 q1 q2 q3 q4 q5 b8 hW6
    go_wp2_with (go_at_call 7; refine (rlive_c _).mono ?_; rintro _ w9 ⟨rfl, hb9⟩; have B9 := hid (B8.out.trans (hb9.mono B8.out.size)); (obtain ⟨r0, r1, r2, r3, r4, r5, _⟩ := (X8.out.later hb9).cells); (obtain ⟨s0, s1, s2, s3, s4, s5, _⟩ := (Y8.out.later hb9).cells); simp only at r0 r1 r2 r3 r4 r5 s0 s1 s2 s3 s4 s5; clear hb9)
    go_ret
    exact ⟨ret_bool (by simp), B9.out⟩
set_option maxHeartbeats 4000000 in
theorem loads_long (a0 : Option Addr) (len0 cap0 : Nat) (zs0 : List Int) (hlc : len0 ≤ cap0) (hnc : a0 = none → cap0 = 0) (p : Fr.Pk) (hp : Fr.Wf p) (hps : p.b.size ≤ maxLen) (w : World) (h : IsB w a0 len0 zs0) (hs : 50000 < len0) :
    Calls Try.prog 3 #[.slice a0 len0 cap0, Fr.val p] w fun e w' => e = .returned (.bool true) ∧ Below w.heap.size w w' := by
  have hm0 := h.2.1
  unfold maxLen at hm0
  have hsI : (50000 : Int) < (len0 : Int) := by omega
  have hsC : (50000 : Int) ≤ (cap0 : Int) := by omega
  obtain ⟨b0, off0, rfl, _⟩ := h.2.2.1 (by omega)
  obtain ⟨zs, hzs⟩ : ∃ zs, zs = zs0.take 50000 := ⟨_, rfl⟩
  have hI : IsB w (some ⟨b0, off0, none⟩) 50000 zs := by rw [hzs]; exact h.front 50000 (by omega)
  clear hzs
  have hIL : IsB w (some ⟨b0, off0, none⟩) 50000 zs := hI
  have HZ := hid hIL.2.2.2
  obtain ⟨pk, pf, pt, pe, ps, pb⟩ := p
  have b1 : Below w.heap.size w (w.alloc (.cells #[.int .u8 pk, .int .u8 pf, .int .u8 pt, .int .u32 pe, .int .u32 ps, .string pb] 26)) := (Below.refl _ _).alloc (Nat.le_refl _) _
  have P1 : Hid (PkAt (w.alloc (.cells #[.int .u8 pk, .int .u8 pf, .int .u8 pt, .int .u32 pe, .int .u32 ps, .string pb] 26)) w.heap.size ⟨pk, pf, pt, pe, ps, pb⟩) := hid (heap_alloc_new w _)
  have I1 := hid (hIL.later b1)
  have B1 := hid b1
  have L1 := hid (loadCallee_c (some ⟨b0, off0, none⟩) 50000 cap0 zs _ (hIL.later b1) (by omega))
  have HPW := hid hp
  have HPS := hid hps
  have IL := hid hIL
  rw [show Fr.val ⟨pk, pf, pt, pe, ps, pb⟩ = .agg #[.int .u8 pk, .int .u8 pf, .int .u8 pt, .int .u32 pe, .int .u32 ps, .string pb] from rfl]
  clear h hI hIL b1 hp hps
  unfold LdPost at L1
  go_enter Try.func3, Try.ntmps3
  generalize hW1 : w.alloc (.cells #[.int .u8 pk, .int .u8 pf, .int .u8 pt, .int .u32 pe, .int .u32 ps, .string pb] 26) = w1 at *
  rcases hk : ldK zs with _ | F
  · rw [hk] at L1
    have HK := hid hk
    clear hk
    go_wp2_with fail
    refine L1.out.mono ?_
    rintro _ w2 ⟨hb2, rfl⟩
    have B2 := hid (B1.out.trans (hb2.mono B1.out.size))
    have L2 := hid (rloadCallee_c (some ⟨b0, off0, none⟩) 50000 cap0 zs _ (I1.out.later hb2) (by omega) hnc)
    unfold RldPost at L2
    rw [HK.out] at L2
    clear hb2 L1
    go_wp2_with fail
    refine L2.out.mono ?_
    rintro _ w3 ⟨hb3, rfl⟩
    have B3 := hid (B2.out.trans (hb3.mono B2.out.size))
    clear hb3 L2
    go_wp2_with (go_at_call 7; refine (rlive_c _).mono ?_; rintro _ w9 ⟨rfl, hb9⟩)
    go_ret
    exact ⟨rfl, B3.out.trans (hb9.mono B3.out.size)⟩
  · rw [hk] at L1
    have HK := hid hk
    obtain ⟨hkb, hkw⟩ := ldK_back HZ.out hk
    have HKB := hid hkb
    have HKW := hid hkw
    have HKL : Hid ((keB F).length = 50000) := hid (by rw [hkb]; exact IL.out.1)
    clear hk hkb hkw
    go_wp2_with fail
    refine L1.out.mono ?_
    rintro _ w2 ⟨hb2, rfl, hK2⟩
    have B2 := hid (B1.out.trans (hb2.mono B1.out.size))
    have L2 := hid (rloadCallee_c (some ⟨b0, off0, none⟩) 50000 cap0 zs _ (I1.out.later hb2) (by omega) hnc)
    have K2 := hid hK2
    have I2 := hid (I1.out.later hb2)
    have P2 := hid (P1.out.later hb2)
    unfold RldPost at L2
    rw [HK.out] at L2
    have hlt2 := hK2.lt
    generalize hg1 : w1.heap.size = g1 at *
    clear hb2 L1 hK2
    go_wp2_with fail
    refine L2.out.mono ?_
    rintro _ w3 ⟨hb3, rfl, hR3⟩
    have B3 := hid (B2.out.trans (hb3.mono B2.out.size))
    have K3 := hid (K2.out.later hb3)
    have R3 := hid hR3
    have I3 := hid (I2.out.later hb3)
    have P3 := hid (P2.out.later hb3)
    generalize hg2 : w2.heap.size + 1 = g2 at *
    have hz3 := hb3.size
    clear hb3 L2 hR3
    have BY := hid (bytes_c (w := w3.drew) K3.out HKW.out)
    have cvx : ∀ w', Below w3.drew.heap.size w3.drew w' → (convert 22 9 (.slice (some ⟨b0, off0, none⟩) 50000 cap0)).run Try.prog w' = .ok (.string (Fr.tx zs)) w' := fun w' h => IsB.convL ((show IsB w3.drew (some ⟨b0, off0, none⟩) 50000 zs from I3.out).later h)
    rw [← HKB.out] at cvx
    go_wp2_with fail
    refine wp_region_held_drew (S := fun w' => Below w3.drew.heap.size w3.drew w') (by kernel_rfl) (Below.refl _ _) (fun hHeld => ?_)
    refine take_l 0 (v := ?_) rfl (by kernel_rfl) (by kernel_rfl) (by kernel_rfl) (fun _ _ _ h => h) (Or.inl ⟨by rfl, ?_⟩) (by assumption) ?_
    rotate_left
    · (intro w' hSw; clear hSw; go_simp; first | done | with_reducible rfl)
    try simp only [Act.put, List.setIfInBounds_toArray, List.set_cons_zero, List.set_cons_succ]
    refine take_l 3 (v := ?_) rfl (by kernel_rfl) (by kernel_rfl) (by kernel_rfl) (fun _ _ _ h => h) (Or.inl ⟨by rfl, ?_⟩) (by assumption) ?_
    rotate_left
    · (intro w' hSw; clear hSw; go_simp; first | done | with_reducible rfl)
    try simp only [Act.put, List.setIfInBounds_toArray, List.set_cons_zero, List.set_cons_succ]
    refine take_l 4 (v := ?_) rfl (by kernel_rfl) (by kernel_rfl) (by kernel_rfl) (fun _ _ _ h => h) (Or.inl ⟨by rfl, ?_⟩) (by assumption) ?_
    rotate_left
    · (intro w' hSw; (have kq := cvx _ hSw); clear hSw; go_simp; first | done | with_reducible rfl)
    try simp only [Act.put, List.setIfInBounds_toArray, List.set_cons_zero, List.set_cons_succ]
    refine cons_l 1 rfl (by kernel_rfl) (fun K hK => ?_)
    go_simp
    refine BY.out.mono ?_; rintro _ w4 ⟨v4, rfl, hR4, hB4⟩; obtain ⟨p4, c4, rfl, hI4, _⟩ := own_isBF hR4.2.2 (by unfold maxLen; rw [HKL.out]; omega) (by rw [HKB.out]; exact HZ.out) hR4.1
    go_simp
    refine hK.out _ _ hB4 (fun hHeld => ?_)
    clear hK K
    try simp only [Act.put, List.setIfInBounds_toArray, List.set_cons_zero, List.set_cons_succ]
    have B4 := hid hB4
    have cv4 : ∀ w', Below w4.heap.size w4 w' → (convert 22 9 (.slice p4 (keB F).length c4)).run Try.prog w' = .ok (.string (Fr.tx (keB F))) w' := fun w' h => IsB.convL (hI4.later h)
    clear hI4 hHeld hR4 cvx
    refine wpAnyH_narrow (S' := fun w' => Below w4.heap.size w4 w') (fun w' h => hB4.trans (h.mono hB4.size)) ?_
    have hHeld : (fun w' => Below w4.heap.size w4 w') w4 := Below.refl _ _
    clear hB4
    refine take_l 2 (v := ?_) rfl (by kernel_rfl) (by kernel_rfl) (by kernel_rfl) (fun _ _ _ h => h) (Or.inl ⟨by rfl, ?_⟩) (by assumption) ?_
    rotate_left
    · (intro w' hSw; (have kq := cv4 _ hSw); clear hSw; go_simp; first | done | with_reducible rfl)
    try simp only [Act.put, List.setIfInBounds_toArray, List.set_cons_zero, List.set_cons_succ]
    refine take_l 5 (v := ?_) rfl (by kernel_rfl) (by kernel_rfl) (by kernel_rfl) (fun _ _ _ h => h) (Or.inl ⟨by rfl, ?_⟩) (by assumption) ?_
    rotate_left
    · (intro w' hSw; clear hSw; go_simp; first | done | with_reducible rfl)
    try simp only [Act.put, List.setIfInBounds_toArray, List.set_cons_zero, List.set_cons_succ]
    refine wpAnyH_done (by kernel_rfl) ?_ _
    have B5 : Hid (Below w.heap.size w w4) := hid (B3.out.trans ((bel_drew (Below.refl w3.heap.size w3)).trans B4.out |>.mono B3.out.size))
    have b34 : Below w3.heap.size w3 w4 := (bel_drew (Below.refl w3.heap.size w3)).trans B4.out
    have K4 := hid (K3.out.later b34)
    have R4 := hid (R3.out.later b34)
    have P4 := hid (P3.out.later b34)
    have hz4 := b34.size
    clear b34 B4 cv4 BY hHeld
    have KT := hid (ktake_c K4.out HKW.out ⟨pk, pf, pt, pe, ps, pb⟩ HPW.out HPS.out)
    unfold KtPost at KT
    have RTT : Hid (∀ V', IsRK V' g2 F → Calls Try.prog 10 #[pC g2, .agg #[.int .u8 pk, .int .u8 pf, .int .u8 pt, .int .u32 pe, .int .u32 ps, .string pb]] V' fun e w' => e = .returned (.tuple #[.string (ktBody F ⟨pk, pf, pt, pe, ps, pb⟩), .bool (ktOk F ⟨pk, pf, pt, pe, ps, pb⟩), Fr.val (ktPk F ⟨pk, pf, pt, pe, ps, pb⟩), .bool (ktIs F ⟨pk, pf, pt, pe, ps, pb⟩)]) ∧ IsRK w' g2 (ktS F ⟨pk, pf, pt, pe, ps, pb⟩) ∧ Ou (fun k => k = g2) V' w') := hid (fun V' hV => rkt_c hV HKW.out ⟨pk, pf, pt, pe, ps, pb⟩ HPW.out HPS.out)
    generalize ktBody F ⟨pk, pf, pt, pe, ps, pb⟩ = kb at *
    generalize ktOk F ⟨pk, pf, pt, pe, ps, pb⟩ = ko at *
    generalize ktIs F ⟨pk, pf, pt, pe, ps, pb⟩ = ki at *
    generalize ktPk F ⟨pk, pf, pt, pe, ps, pb⟩ = X at *
    generalize ktS F ⟨pk, pf, pt, pe, ps, pb⟩ = G at *
    obtain ⟨xk, xf, xt, xe, xs, xb⟩ := X
    rw [show Fr.val ⟨xk, xf, xt, xe, xs, xb⟩ = .agg #[.int .u8 xk, .int .u8 xf, .int .u8 xt, .int .u32 xe, .int .u32 xs, .string xb] from rfl] at KT RTT
    obtain ⟨q0, q1, q2, q3, q4, q5, _⟩ := P4.out.cells
    simp only at q0 q1 q2 q3 q4 q5
    go_wp2_with fail
    refine KT.out.mono ?_
    rintro _ w5 ⟨rfl, hK5, ho5⟩
    have hz5 := ho5.size
    have hR4 := R4.out.lt
    have hw1 : w.heap.size < w1.heap.size := P1.out.lt
    have hne12 : g2 ≠ g1 := by omega
    have b6 : Below w5.heap.size w5 (w5.alloc (.cells #[.int .u8 xk, .int .u8 xf, .int .u8 xt, .int .u32 xe, .int .u32 xs, .string xb] 26)) := (Below.refl _ _).alloc (Nat.le_refl _) _
    have R6 := hid ((R4.out.out ho5 (by omega)).later b6)
    have P6 := hid ((P4.out.out ho5 (by omega)).later b6)
    have B6 := hid ((B5.out.trans (ho5.below B5.out.size (fun k e => by omega))).trans (b6.mono (by have := B5.out.size; omega)))
    have X6 : Hid (PkAt (w5.alloc (.cells #[.int .u8 xk, .int .u8 xf, .int .u8 xt, .int .u32 xe, .int .u32 xs, .string xb] 26)) w5.heap.size ⟨xk, xf, xt, xe, xs, xb⟩) := hid (heap_alloc_new w5 _)
    generalize hW6 : w5.alloc (.cells #[.int .u8 xk, .int .u8 xf, .int .u8 xt, .int .u32 xe, .int .u32 xs, .string xb] 26) = w6 at *
    clear hK5 ho5 KT q0 q1 q2 q3 q4 q5 b6
    have RT2 := hid (RTT.out _ R6.out)
    obtain ⟨q0, q1, q2, q3, q4, q5, _⟩ := P6.out.cells
    simp only at q0 q1 q2 q3 q4 q5
    go_wp2_with fail
    refine RT2.out.mono ?_
    rintro _ w7 ⟨rfl, hR7, ho7⟩
    have hz7 := ho7.size
    have hX6 := X6.out.lt
    have b8 : Below w7.heap.size w7 (w7.alloc (.cells #[.int .u8 xk, .int .u8 xf, .int .u8 xt, .int .u32 xe, .int .u32 xs, .string xb] 26)) := (Below.refl _ _).alloc (Nat.le_refl _) _
    have Y8 : Hid (PkAt (w7.alloc (.cells #[.int .u8 xk, .int .u8 xf, .int .u8 xt, .int .u32 xe, .int .u32 xs, .string xb] 26)) w7.heap.size ⟨xk, xf, xt, xe, xs, xb⟩) := hid (heap_alloc_new w7 _)
    have X8 := hid ((X6.out.out ho7 (by omega)).later b8)
    have B8 := hid ((B6.out.trans (ho7.below B6.out.size (fun k e => by omega))).trans (b8.mono (by have := B6.out.size; omega)))
    generalize hW8 : w7.alloc (.cells #[.int .u8 xk, .int .u8 xf, .int .u8 xt, .int .u32 xe, .int .u32 xs, .string xb] 26) = w8 at *
    clear hR7 ho7 RT2 q0 q1 q2 q3 q4 q5 b8 hW6
    go_wp2_with (go_at_call 7; refine (rlive_c _).mono ?_; rintro _ w9 ⟨rfl, hb9⟩; have B9 := hid (B8.out.trans (hb9.mono B8.out.size)); (obtain ⟨r0, r1, r2, r3, r4, r5, _⟩ := (X8.out.later hb9).cells); (obtain ⟨s0, s1, s2, s3, s4, s5, _⟩ := (Y8.out.later hb9).cells); simp only at r0 r1 r2 r3 r4 r5 s0 s1 s2 s3 s4 s5; clear hb9)
    go_ret
    exact ⟨ret_bool (by simp), B9.out⟩
theorem rpcLoads_walk (a0 : Option Addr) (len0 cap0 : Nat) (zs0 : List Int) (hlc : len0 ≤ cap0) (hnc : a0 = none → cap0 = 0) (p : Fr.Pk) (hp : Fr.Wf p) (hps : p.b.size ≤ maxLen) (w : World) (h : IsB w a0 len0 zs0) :
    Calls Try.prog 3 #[.slice a0 len0 cap0, Fr.val p] w fun e w' => e = .returned (.bool true) ∧ Below w.heap.size w w' := by
  by_cases hs : len0 ≤ 50000
  · exact loads_short a0 len0 cap0 zs0 hlc hnc p hp hps w h hs
  · exact loads_long a0 len0 cap0 zs0 hlc hnc p hp hps w h (by omega)
/-! ### The row of RpcLoads -/
theorem rpcLoads_own : ownKnob Try.prog.godebug = none := by kernel_rfl
theorem rpcLoads_laidOut : laidOutB Try.prog = true := by kernel_rfl
set_option maxRecDepth 100000 in
theorem rpcLoads_lifted (os : Os) (started : os.Started) (H : Type) (enc : TypeId × Value → H) :
    ReturnsInHanded {} Try.checked os 3 .any (Rows.rpcLoadsSpec.pre6 enc Try.prog Try.f3 Rows.rpcLoadsRow.domain false) (Rows.rpcLoadsSpec.post enc Try.prog Try.f3 false true false false) := by
  refine returnsInHanded_of_change (C := Try.checked) rpcLoads_own started (by kernel_rfl) Try.func3
    (ChangeSpec.witness6 (enc := enc) (C := Try.checked) false ⟨#[], #[.slice none 0 0, .agg #[.int .u8 0, .int .u8 0, .int .u8 0, .int .u32 0, .int .u32 0, .string ByteArray.empty]], []⟩ 8 (by kernel_rfl) (by kernel_rfl) (by kernel_rfl) (by kernel_rfl)) ?_
  intro W base args ds gs before hval0 hW hcnd _
  have hval : ∀ (j : Nat) t v, Try.f3.params[j]? = some t → args[j]? = some v → Value.okWide Try.prog W .any base t v := hval0
  have hW' := hW
  obtain ⟨p, q, hA0, hV, rfl, hfz, hnd⟩ := hW
  have hA : DataW.TrodAll enc Try.prog W 0 (fun _ => true) true Try.f3.params.toList args.toList ds p := hA0
  rw [Try.params3] at hA hval
  obtain ⟨v0, vs0, d0, ds0, p0, q0, hargs, rfl, rfl, h0, r0⟩ := trodAll_cons hA
  obtain ⟨v1, vs1, d1, ds1, p1, q1, rfl, rfl, rfl, h1, r1⟩ := trodAll_cons r0
  obtain ⟨rfl, rfl, rfl⟩ := trodAll_nil r1
  obtain rfl : args = #[v0, v1] := by cases args; simp_all
  obtain ⟨rfl, rfl⟩ := trodVars_none hV
  have k0 := h0
  have lt0 : ∀ x ∈ p0, x.block < W.heap.size := by obtain ⟨m, hm⟩ := k0; exact DataW.trod_lt m _ _ _ hm
  obtain ⟨a0, len0, cap0, rfl⟩ := okWide_slice Try.underlying22 (hval 0 22 v0 rfl rfl)
  obtain ⟨z0, w0, lc0⟩ := isB_of Try.underlying22 Try.underlying5 (by kernel_rfl) h0
  have k1 := h1
  have lt1 : ∀ x ∈ p1, x.block < W.heap.size := by obtain ⟨m, hm⟩ := k1; exact DataW.trod_lt m _ _ _ hm
  obtain ⟨q1, rfl, wq1, zq1⟩ := open_packet (hval 1 26 v1 rfl rfl) h1
  clear hA0 hval0
  refine (rpcLoads_walk a0 len0 cap0 z0 lc0 (isB_cap Try.underlying22 Try.underlying5 (by kernel_rfl) h0) q1 wq1 zq1 W w0).mono fun e W' ⟨he, bel⟩ => ?_
  subst he
  exact ⟨_, rfl, _, _, _, [], _, [], hW', trodAll_mk1 (shut_bool Try.underlying4 _), (trodAll_cons_mk (Below.trod rpcLoads_laidOut (by kernel_rfl) (of_decide_eq_true (by kernel_rfl)) k0 bel lt0) (trodAll_cons_mk (Below.trod rpcLoads_laidOut (by kernel_rfl) (of_decide_eq_true (by kernel_rfl)) k1 bel lt1) trodAll_mk0)), rfl, bel.frame _, fun h => by cases h⟩
theorem rpcLoads_over : Rows.rpcLoadsRow.holds Try.pinned (OpenSpec.ofChange Rows.rpcLoadsSpec) :=
  OpenClaim.holds_of_wide 3 Try.f3 rfl rfl rfl rfl rfl rfl rfl ⟨rfl, rfl, rfl, rfl, rfl⟩ rfl rfl rfl rfl rfl (by kernel_rfl) Try.func3 (by kernel_rfl)
    (of_decide_eq_true (by kernel_rfl)) (by unfold Func.isWrapper; first | (rw [if_pos (by decide +kernel)]; kernel_rfl) | (rw [if_neg (by decide +kernel)]; exact ⟨rfl, rfl⟩))
    (fun os started H enc _ => rpcLoads_lifted os started H enc)
/-- The statement. -/
theorem rpcLoads_holds : Rows.RpcLoadsSaid := rpcLoads_over
#print axioms rpcLoads_holds

end Go.Proofs.Ytmoeljieafninaa
