/-
  For every records (the first forty are looked at), and however many a piece has: a log that is sent piece by piece is all sent, in order.
-/
import Derived.Test.YtlhpdmilkpdblaaCTake
namespace Go.Proofs.Ytlhpdmilkpdblaa
open Go.RowKit Go.ChangeShapes Go.WideShapes Go.ChangeAt Go.Maps Go.Shelf
open Go.ChangeMaps (open_string shut_string)
set_option linter.unusedVariables false
set_option linter.unusedSimpArgs false
theorem take_self (x : List Rec) (M : Nat) : x.take M = x.take (x.take M).length := by
  rw [List.length_take]
  by_cases q : M ≤ x.length
  · rw [Nat.min_eq_left q]
  · rw [Nat.min_eq_right (by omega), List.take_of_length_le (by omega), List.take_length]
theorem take_piece (l : List Rec) (s M : Nat) : l.take s ++ (l.drop s).take M = l.take (s + ((l.drop s).take M).length) := by
  have e := List.take_add (l := l) (i := s) (j := ((l.drop s).take M).length)
  rw [e, ← take_self]
set_option maxRecDepth 20000 in
set_option maxHeartbeats 4000000 in
theorem cmlChunks_walk (a : Option Addr) (len cap : Nat) (l0 : List Rec) (hl : l0.length = len) (hc : len ≤ cap) (z : Int) (hz : (Lit.int .u8 z).wf = true) (w : World) (h : IsL w a l0) :
    Calls Try.prog 4 #[.slice a len cap, .int .u8 z] w fun e w' => e = .returned (.bool true) ∧ Below w.heap.size w w' := by
  obtain ⟨z0, z1⟩ := bd_u8 hz
  obtain ⟨zn, rfl⟩ : ∃ zn : Nat, z = zn := ⟨z.toNat, by omega⟩
  obtain ⟨i0, hi, hz0, hz1, hz2⟩ := info_rec
  have FC := hid (few8_c a len cap l0 w hl hc h)
  have hI := h.front 40
  have hn : (l0.take 40).length ≤ 40 := by rw [List.length_take]; omega
  clear h hl hz
  generalize l0.take 40 = l at *
  have HI := hid hI
  obtain ⟨m8, hm8⟩ : ∃ m8, m8 = zn % 8 := ⟨_, rfl⟩
  have hM1 : (zn : Int).tmod 8 = (m8 : Int) := by rw [Int.tmod_eq_emod_of_nonneg (by omega)]; omega
  have hM2 : (zn : Int) % 8 = (m8 : Int) := by omega
  have hM : m8 < 8 := by omega
  clear hI hc hm8
  go_enter Try.func4, Try.ntmps4
  go_wp2_with (go_at_call 5; refine FC.out.mono ?_; rintro _ wf ⟨rfl, hwf⟩; have hwf2 := hwf.symm; clear hwf; subst hwf2)
  clear FC hM1 hM2
  obtain ⟨n, hnn⟩ : ∃ n, n = l.length := ⟨_, rfl⟩
  rw [← hnn] at hn ⊢
  have HNN := hid hnn
  clear hnn
  go_loopg [6, 7, 8] n (fun g v6 v7 v8 wr => ∃ (s i : Nat) (ar : Option Addr) (cr : Nat), s + g = n ∧ i ≤ s ∧ v8 = .int .i64 i ∧ v6 = .slice ar g cr ∧ Hid (IsL wr ar (l.drop s)) ∧ Hid (wr.ownsRow w.heap.size 32 9 v7 s (rcells (l.take s))) ∧ Hid (∀ k b o, v7.ownBlock = some k → ar = some ⟨b, o, none⟩ → k ≠ b) ∧ Hid (Below w.heap.size w wr))
  case atStart => exact ⟨0, 0, a, cap, by omega, by omega, rfl, rfl, hid (by simpa using HI.out), hid (World.ownsRow_nil _ _ 32 9), hid (fun k b o e => by cases e), hid (Below.refl _ _)⟩
  case round =>
    obtain ⟨s, i, ar, cr, hsg, his, rfl, rfl, HR, HO, HX, HB⟩ := hrel
    have hi50 : (i : Int) < 50 := by omega
    have hdl : (l.drop s).length = gk := by rw [List.length_drop, ← HNN.out]; omega
    by_cases hgo : 0 < gk
    · have hgI : (0 : Int) < gk := by omega
      obtain ⟨br, orr, rfl, _⟩ := HR.out.2.2 (by omega)
      have CC := hid (cut_c (some ⟨br, orr, none⟩) cr (l.drop s) ((m8 : Int) + 1) wr HR.out (by omega))
      rw [show ((m8 : Int) + 1) = ((m8 + 1 : Nat) : Int) by simp, cutF_eq, hdl] at CC
      obtain ⟨c, hcl⟩ : ∃ c, c = ((l.drop s).take (m8 + 1)).length := ⟨_, rfl⟩
      have hc1 : 1 ≤ c ∧ c ≤ m8 + 1 ∧ c ≤ gk := by rw [hcl, List.length_take, hdl]; omega
      have HPW := hid (fun x (hx : x ∈ (l.drop s).take (m8 + 1)) => HR.out.2.1 x (List.mem_of_mem_take hx))
      have HTK : Hid (l.take s ++ (l.drop s).take (m8 + 1) = l.take (s + c)) := hid (by rw [hcl]; exact take_piece l s (m8 + 1))
      have HDR : Hid ((l.drop s).drop c = l.drop (s + c)) := hid (by rw [List.drop_drop])
      have HDL := hid hdl
      have HDW := hid (fun x (hx : x ∈ l.drop (s + c)) => HI.out.2.1 x (List.mem_of_mem_drop hx))
      have HLEN : Hid ((l.drop (s + c)).length = gk - c) := hid (by rw [List.length_drop, ← HNN.out]; omega)
      rw [← hcl] at CC
      have HCL := hid hcl
      clear hdl hcl
      generalize (l.drop s).take (m8 + 1) = pc at *
      have hcI0 : ((c : Int) == 0) = false := by simp; omega
      have hcI1 : ¬ ((m8 : Int) + 1 < c) := by omega
      obtain ⟨hc1a, hc1b, hc1c⟩ := hc1
      go_wp2_with (first
        | (go_at_call 9; refine DC.out.mono ?_; rintro _ w4 ⟨v4, rfl, hO4, hb4⟩
           obtain ⟨a4, c4, rfl, hI4, _, _⟩ := isL_own hO4 HDW.out
           have X4 : Hid (∀ k b o, (Value.slice a3 (s + c) c3).ownBlock = some k → a4 = some ⟨b, o, none⟩ → k ≠ b) := hid (fun k b o hk e => by
             have q1 := (O3.out.lt k hk).2
             have q2 := (hO4.lt b (by rw [e]; rfl)).1
             omega)
           have I4 := hid hI4
           have O4 := hid (own_latR O3.out hb4)
           have B4 := hid (B3.out.trans (hb4.mono B3.out.size))
           rw [HLEN.out]
           clear hO4 hI4 hb4 DC)
        | (at_builtin; refine wpList_append_own _ rfl _ _ 22 rfl w.heap.size 32 i0 Rec.no.val 9 88 Try.underlying22 hi hz0 hz1 hz2 (by rfl) (by decide) _ _ _ rfl O2.out ⟨b2, o2, none⟩ c c2 (rcells pc) rfl (by rw [rcells_len, ← HCL.out]) (isL_news I2.out) (rcells_one _) (by unfold maxLen; omega) (by omega) B2.out.size ?_; intro v3 w3 hown3 hgrow3 hnil3
           have B3 := hid (below_grownR B2.out O2.out (Nat.le_refl _) B2.out.size hgrow3)
           have R3 := hid (isL_grown R2.out hgrow3 (fun e => HX.out _ br orr e.symm rfl rfl))
           have O3 : Hid (w3.ownsRow w.heap.size 32 9 v3 (s + c) (rcells (l.take (s + c)))) := hid (by have q := hown3; rw [← HTK.out]; unfold rcells at q ⊢; rw [List.flatMap_append]; exact q)
           have DC := hid (drop_c (some ⟨br, orr, none⟩) cr (l.drop s) c w3 R3.out (by rw [HDL.out]; omega))
           rw [dropF_eq, HDR.out, HDL.out] at DC
           obtain ⟨a3, c3, rfl⟩ := own_shapeR hown3
           clear hown3 hgrow3 hnil3 O2 I2 B2 R2)
        | (go_at_call 8; refine CC.out.mono ?_; rintro _ w2 ⟨v2, rfl, hO2, hb2⟩
           rw [HCL.out] at hO2
           obtain ⟨a2, c2, rfl, hI2, _, _⟩ := isL_own hO2 HPW.out
           obtain ⟨b2, o2, rfl, _⟩ := hI2.2.2 (by rw [← HCL.out]; omega)
           rw [← HCL.out]
           have I2 := hid hI2
           have B2 := hid (HB.out.trans (hb2.mono HB.out.size))
           have O2 := hid (own_latR HO.out hb2)
           have R2 := hid (HR.out.later hb2)
           clear hO2 hI2 hb2 CC))
      go_roundg (gk - c)
      case measure => omega
      case rel => exact ⟨s + c, i + 1, a4, c4, by omega, by omega, by go_num, rfl, I4, O4, X4, B4⟩
    · have hg0 : gk = 0 := by omega
      subst hg0
      have hsn : s = l.length := by rw [← HNN.out]; omega
      have hol := HO.out
      rw [hsn, List.take_length] at hol
      obtain ⟨a7, c7, rfl, hI7, _, _⟩ := isL_own hol HI.out.2.1
      have I7 := hid hI7
      have LC := hid (clive_c wr)
      clear hol hI7 HO HX HR
      rw [← HNN.out]
      go_wp2_with (first
        | (go_at_call 10; refine SC.out.mono ?_; rintro _ w9 ⟨rfl, hb9⟩)
        | (go_at_call 7; refine LC.out.mono ?_; rintro _ w8 ⟨rfl, hb8⟩; have B8 := hid (HB.out.trans (hb8.mono HB.out.size)); have SC := hid (same_c a7 a c7 cap l l w8 (I7.out.later hb8) (HI.out.later B8.out) (by rw [← HNN.out]; omega) (by rw [← HNN.out]; omega)); rw [← HNN.out, eqL_t (rfl : l = l)] at SC; clear hb8))
      go_ret
      exact ⟨by first | rfl | simp, B8.out.trans (hb9.mono B8.out.size)⟩
/-! ### The row of CmlChunks -/
theorem cmlChunks_own : ownKnob Try.prog.godebug = none := by kernel_rfl
theorem cmlChunks_laidOut : laidOutB Try.prog = true := by kernel_rfl
set_option maxRecDepth 100000 in
theorem cmlChunks_lifted (os : Os) (started : os.Started) (H : Type) (enc : TypeId × Value → H) :
    ReturnsInHanded {} Try.checked os 4 .any (Rows.cmlChunksSpec.pre6 enc Try.prog Try.f4 Rows.cmlChunksRow.domain false) (Rows.cmlChunksSpec.post enc Try.prog Try.f4 false true false false) := by
  refine returnsInHanded_of_change (C := Try.checked) cmlChunks_own started (by kernel_rfl) Try.func4
    (ChangeSpec.witness6 (enc := enc) (C := Try.checked) false ⟨#[], #[.slice none 0 0, .int .u8 0], []⟩ 8 (by kernel_rfl) (by kernel_rfl) (by kernel_rfl) (by kernel_rfl)) ?_
  intro W base args ds gs before hval0 hW hcnd _
  have hval : ∀ (j : Nat) t v, Try.f4.params[j]? = some t → args[j]? = some v → Value.okWide Try.prog W .any base t v := hval0
  have hW' := hW
  obtain ⟨p, q, hA0, hV, rfl, hfz, hnd⟩ := hW
  have hA : DataW.TrodAll enc Try.prog W 0 (fun _ => true) true Try.f4.params.toList args.toList ds p := hA0
  rw [Try.params4] at hA hval
  obtain ⟨v0, vs0, d0, ds0, p0, q0, hargs, rfl, rfl, h0, r0⟩ := trodAll_cons hA
  obtain ⟨v1, vs1, d1, ds1, p1, q1, rfl, rfl, rfl, h1, r1⟩ := trodAll_cons r0
  obtain ⟨rfl, rfl, rfl⟩ := trodAll_nil r1
  obtain rfl : args = #[v0, v1] := by cases args; simp_all
  obtain ⟨rfl, rfl⟩ := trodVars_none hV
  have k0 := h0
  have lt0 : ∀ x ∈ p0, x.block < W.heap.size := by obtain ⟨m, hm⟩ := k0; exact DataW.trod_lt m _ _ _ hm
  obtain ⟨a0, len0, cap0, rfl⟩ := okWide_slice Try.underlying22 (hval 0 22 v0 rfl rfl)
  obtain ⟨z0, lz0, w0, lc0⟩ := isL_of Try.underlying22 h0
  obtain ⟨a1, rfl, rfl, rfl, w1⟩ := open_int Try.underlying5 (hval 1 5 v1 rfl rfl) h1
  clear hA0 hval0
  refine (cmlChunks_walk a0 len0 cap0 z0 lz0 lc0 a1 w1 W w0).mono fun e W' ⟨he, bel⟩ => ?_
  subst he
  exact ⟨_, rfl, _, _, _, [], _, [], hW', trodAll_mk1 (shut_bool Try.underlying4 _), (trodAll_cons_mk (Below.trod cmlChunks_laidOut (by kernel_rfl) (of_decide_eq_true (by kernel_rfl)) k0 bel lt0) (trodAll_cons_mk (shut_int Try.underlying5 w1) trodAll_mk0)), rfl, bel.frame _, fun h => by cases h⟩
theorem cmlChunks_over : Rows.cmlChunksRow.holds Try.pinned (OpenSpec.ofChange Rows.cmlChunksSpec) :=
  OpenClaim.holds_of_wide 4 Try.f4 rfl rfl rfl rfl rfl rfl rfl ⟨rfl, rfl, rfl, rfl, rfl⟩ rfl rfl rfl rfl rfl (by kernel_rfl) Try.func4 (by kernel_rfl)
    (of_decide_eq_true (by kernel_rfl)) (by unfold Func.isWrapper; first | (rw [if_pos (by decide +kernel)]; kernel_rfl) | (rw [if_neg (by decide +kernel)]; exact ⟨rfl, rfl⟩))
    (fun os started H enc _ => cmlChunks_lifted os started H enc)
/-- The statement. -/
theorem cmlChunks_holds : Rows.CmlChunksSaid := cmlChunks_over
#print axioms cmlChunks_holds

end Go.Proofs.Ytlhpdmilkpdblaa
