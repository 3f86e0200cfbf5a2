/-
  For every packet, place and byte, a packet's bytes with one byte turned are not taken for it: Decode answers an error or another packet; and live holds.
-/
import Derived.Test.YteimegacnmakaaaFOpen
namespace Go.Proofs.Yteimegacnmakaaa
open Go.ChangeShapes Go.WideShapes Go.ChangeAt Go.RowKit
open Go.ChangeMaps (open_string shut_string)
open Go.BigFrame
set_option linter.unusedVariables false
set_option linter.unusedSimpArgs false
theorem own_set8 {w : World} {base g cap : Nat} {zs : List Int} (h : w.ownsRow base 5 1 (.slice (some ⟨g, 0, none⟩) zs.length cap) zs.length (zs.map u8V)) (hz : ∀ x ∈ zs, 0 ≤ x ∧ x ≤ 255) (j : Nat) (hj : j < zs.length) (y : Int) (hy : 0 ≤ y ∧ y ≤ 255) :
    w.cell? ⟨g, j, none⟩ = some (.int .u8 (zs.getD j 0)) ∧ w.frozen? ⟨g, j, none⟩ = false ∧ IsB (w.setCell ⟨g, j, none⟩ (.int .u8 y)) (some ⟨g, 0, none⟩) zs.length (zs.set j y) ∧ zs.length ≤ cap ∧ base ≤ g := by
  obtain ⟨a, cap', e, hb, hc⟩ := isB_pile (T := 0) (g := 0) hz h
  cases e
  obtain ⟨h1, h2, h3, h4⟩ := hb
  obtain ⟨b', off', e, hcl⟩ := h3 (by omega)
  cases e
  have hcj := hcl j hj
  rw [Nat.zero_add] at hcj
  obtain ⟨g', cap'', cur, e, hbg, hg, _⟩ : ∃ g' cap'' cur, (Value.slice (some ⟨g, 0, none⟩) zs.length cap) = .slice (some ⟨g', 0, none⟩) zs.length cap'' ∧ base ≤ g' ∧ w.heap[g']? = some (.cells cur 5 (0, 0)) ∧ True := by
    rcases h.2 with ⟨_, h0⟩ | ⟨g', cap'', cur, e, h5, h6, _⟩
    · omega
    · exact ⟨g', cap'', cur, e, h5, h6, trivial⟩
  cases e
  refine ⟨hcj, by simp [World.frozen?, hg], ⟨by simp, h2, fun hp => ⟨g, 0, rfl, fun i hi => ?_⟩, fun i => ?_⟩, hc, hbg⟩
  · rw [Nat.zero_add]
    have hci := hcl i hi
    rw [Nat.zero_add] at hci
    by_cases hij : i = j
    · subst hij
      rw [cell_of_row _ g i _ _ _ (heap_setCell_same w g i cur _ _ hg)]
      rw [cell_of_row w g i cur _ _ hg] at hci
      have hlt : i < cur.size := by
        rcases Nat.lt_or_ge i cur.size with h9 | h9
        · exact h9
        · rw [Array.getElem?_eq_none h9] at hci; cases hci
      simp [hlt, List.getD, hi]
    · rw [cell_of_row _ g i _ _ _ (heap_setCell_same w g j cur _ _ hg)]
      rw [cell_of_row w g i cur _ _ hg] at hci
      have : (zs.set j y).getD i 0 = zs.getD i 0 := by simp [List.getD, List.getElem?_set, Ne.symm hij]
      rw [this, ← hci]
      simp [Array.getElem?_setIfInBounds, Ne.symm hij]
  · by_cases hij : i = j
    · subst hij
      simp [List.getD, hj]; exact hy
    · have := h4 i
      simpa [List.getD, List.getElem?_set, Ne.symm hij] using this
theorem mem_byte {zs : List Int} (h : ∀ x ∈ zs, 0 ≤ x ∧ x ≤ 255) (i : Nat) : 0 ≤ zs.getD i 0 ∧ zs.getD i 0 ≤ 255 := by
  by_cases hi : i < zs.length
  · exact h _ (by simp [List.getD, hi])
  · simp [List.getD, List.getElem?_eq_none (by omega : zs.length ≤ i)]
theorem set_ne (zs : List Int) (j : Nat) (y : Int) (hj : j < zs.length) (h : y ≠ zs.getD j 0) : zs.set j y ≠ zs := fun e => by
  have h1 : (zs.set j y).getD j 0 = zs.getD j 0 := by rw [e]
  simp [List.getD, hj] at h1
  simp [List.getD, hj] at h
  exact h h1
theorem xor8 (x b : Int) (hx : 0 ≤ x ∧ x ≤ 255) (hb : 0 < b ∧ b < 256) : 0 ≤ bits .xor .u8 x b ∧ bits .xor .u8 x b ≤ 255 ∧ bits .xor .u8 x b ≠ x := by
  have e : bits .xor .u8 x b = ((x.toNat ^^^ b.toNat : Nat) : Int) := u8_xor x b (by omega) (by omega) (by omega) (by omega)
  have h1 : x.toNat ^^^ b.toNat < 2 ^ 8 := Nat.xor_lt_two_pow (by omega) (by omega)
  rw [e]
  refine ⟨by omega, by omega, fun h => ?_⟩
  have h2 : x.toNat ^^^ b.toNat = x.toNat := by omega
  have h3 : x.toNat ^^^ (x.toNat ^^^ b.toNat) = x.toNat ^^^ x.toNat := by rw [h2]
  rw [← Nat.xor_assoc, Nat.xor_self, Nat.zero_xor] at h3
  omega
set_option maxHeartbeats 1000000 in
theorem turned_bad (p : Fr.Pk) (hw : Fr.Wf p) (hs : p.b.size ≤ maxLen) (at' : Int) (by' : Int) (hr : Fr.rightB p = false) (w : World) :
    Calls Try.prog 8 #[Fr.val p, .int .u16 at', .int .u8 by'] w fun e w' => e = .returned (.bool true) ∧ Below w.heap.size w w' := by
  obtain ⟨k, f, t, e, s, b⟩ := p
  have C := encode_c ⟨k, f, t, e, s, b⟩ hw hs
  have hv : Fr.val ⟨k, f, t, e, s, b⟩ = .agg #[.int .u8 k, .int .u8 f, .int .u8 t, .int .u32 e, .int .u32 s, .string b] := rfl
  rw [hv] at C ⊢
  have HC : Hid _ := C
  clear C
  go_enter Try.func8, Try.ntmps8
  go_wp2_with fail
  refine (HC.out _).mono ?_
  have hB0 : Below w.heap.size w (w.alloc (.cells #[.int .u8 k, .int .u8 f, .int .u8 t, .int .u32 e, .int .u32 s, .string b] 25)) := (Below.refl _ _).alloc (Nat.le_refl _) _
  generalize (w.alloc (.cells #[.int .u8 k, .int .u8 f, .int .u8 t, .int .u32 e, .int .u32 s, .string b] 25)) = W at *
  rintro _ w1 ⟨⟨hr', _⟩ | ⟨_, rfl⟩, hb1⟩
  · rw [hr] at hr'; cases hr'
  · have hB1 := hB0.trans (hb1.mono hB0.size)
    go_wp2_with fail
    refine (live_c _).mono ?_
    rintro _ w2 ⟨rfl, hb2⟩
    go_wp2
    go_ret
    exact ⟨rfl, hB1.trans (hb2.mono hB1.size)⟩
set_option maxHeartbeats 1000000 in
theorem turned_zero (p : Fr.Pk) (hw : Fr.Wf p) (hs : p.b.size ≤ maxLen) (at' : Int) (hr : Fr.rightB p = true) (w : World) :
    Calls Try.prog 8 #[Fr.val p, .int .u16 at', .int .u8 0] w fun e w' => e = .returned (.bool true) ∧ Below w.heap.size w w' := by
  obtain ⟨k, f, t, e, s, b⟩ := p
  have C := encode_c ⟨k, f, t, e, s, b⟩ hw hs
  have hv : Fr.val ⟨k, f, t, e, s, b⟩ = .agg #[.int .u8 k, .int .u8 f, .int .u8 t, .int .u32 e, .int .u32 s, .string b] := rfl
  rw [hv] at C ⊢
  have HC : Hid _ := C
  clear C
  go_enter Try.func8, Try.ntmps8
  go_wp2_with fail
  refine (HC.out _).mono ?_
  have hB0 : Below w.heap.size w (w.alloc (.cells #[.int .u8 k, .int .u8 f, .int .u8 t, .int .u32 e, .int .u32 s, .string b] 25)) := (Below.refl _ _).alloc (Nat.le_refl _) _
  generalize (w.alloc (.cells #[.int .u8 k, .int .u8 f, .int .u8 t, .int .u32 e, .int .u32 s, .string b] 25)) = W at *
  rintro _ w1 ⟨⟨_, v, rfl, _⟩ | ⟨hr', _⟩, hb1⟩
  · have hB1 := hB0.trans (hb1.mono hB0.size)
    go_wp2_with fail
    refine (live_c _).mono ?_
    rintro _ w2 ⟨rfl, hb2⟩
    go_wp2
    go_ret
    exact ⟨rfl, hB1.trans (hb2.mono hB1.size)⟩
  · rw [hr] at hr'; cases hr'
set_option maxHeartbeats 2000000 in
theorem turned_good (p : Fr.Pk) (hw : Fr.Wf p) (hs : p.b.size ≤ maxLen) (at' : Int) (ha : 0 ≤ at') (ha' : at' < 65536) (by' : Int) (hb0 : 0 < by') (hb' : by' < 256) (hr : Fr.rightB p = true) (w : World) :
    Calls Try.prog 8 #[Fr.val p, .int .u16 at', .int .u8 by'] w fun e w' => e = .returned (.bool true) ∧ Below w.heap.size w w' := by
  have hsz := Fr.right_size hr
  have HL := hid (Fr.enc_length p)
  have HY := hid (Fr.enc_byte p hw)
  have HW := hid hw
  have HR := hid hr
  have by0 : (by' == 0) = false := beq_eq_false_iff_ne.2 (by omega)
  obtain ⟨i0, hi, hz0, hz1, hz2⟩ := info_parts8
  obtain ⟨k, f, t, e, s, b⟩ := p
  have C := encode_c ⟨k, f, t, e, s, b⟩ hw hs
  have hv : Fr.val ⟨k, f, t, e, s, b⟩ = .agg #[.int .u8 k, .int .u8 f, .int .u8 t, .int .u32 e, .int .u32 s, .string b] := rfl
  rw [hv] at C ⊢
  have HC : Hid _ := C
  simp only at hsz HL
  clear C hv hw hr hs
  go_enter Try.func8, Try.ntmps8
  go_wp2_with fail
  refine (HC.out _).mono ?_
  have hB0 : Below w.heap.size w (w.alloc (.cells #[.int .u8 k, .int .u8 f, .int .u8 t, .int .u32 e, .int .u32 s, .string b] 25)) := (Below.refl _ _).alloc (Nat.le_refl _) _
  have hP0 : PB (w.alloc (.cells #[.int .u8 k, .int .u8 f, .int .u8 t, .int .u32 e, .int .u32 s, .string b] 25)) w.heap.size ⟨k, f, t, e, s, b⟩ := heap_alloc_new w _
  generalize (w.alloc (.cells #[.int .u8 k, .int .u8 f, .int .u8 t, .int .u32 e, .int .u32 s, .string b] 25)) = W at *
  rintro _ w1 ⟨⟨_, v, rfl, hown⟩ | ⟨hr', _⟩, hb1⟩
  · have hB1 := hB0.trans (hb1.mono hB0.size)
    have hP1 := hP0.later hb1
    generalize hZ : Fr.enc ⟨k, f, t, e, s, b⟩ = zs at *
    have HZ := hid hZ
    have hll := HL.out
    obtain ⟨g, cap, rfl, hg1, hg2⟩ := hown.form (by omega)
    have HCells := hid (own_cells8 hown)
    have hlen : zs.length < 17000 := by omega
    have hlen0 : 19 ≤ zs.length := by omega
    have dl : decide ((zs.length : Int) < 19) = false := decide_eq_false (by omega)
    have hm0 : 0 ≤ at' % (zs.length : Int) := Int.emod_nonneg _ (by omega)
    have hm1 : at' % (zs.length : Int) < zs.length := Int.emod_lt_of_pos _ (by omega)
    clear hZ hll
    go_wp2_with (at_builtin; refine wpList_append_own _ rfl _ _ 26 rfl w1.heap.size 5 i0 (.int .u8 0) 1 1 Try.underlying26 hi hz0 hz1 hz2 rfl (by decide) _ _ _ rfl (own_empty8 w1) ⟨g, 0, none⟩ zs.length cap (zs.map u8V) rfl (by simp) (fun j u hu => cell_later ((Below.refl _ _).alloc (Nat.le_refl _) _) (HCells.out j u hu)) (fun y hy => by obtain ⟨x, _, rfl⟩ := List.mem_map.1 hy; rfl) (by unfold maxLen; omega) (by omega) (by simp) ?_; intro v4 w4 hown4 hgrow4 hnil4; (rw [Nat.zero_add, List.nil_append] at hown4); (have hb4 : Below w1.heap.size w1 w4 := Below.grown ((Below.refl _ _).alloc (Nat.le_refl _) _) hgrow4 (by simp) (fun k hk => by cases hk; exact Nat.le_refl _)); (obtain ⟨g4, cap4, rfl, hg41, hg42⟩ := hown4.form (by omega)); (obtain ⟨hx1, hx2, hx3⟩ := xor8 (zs.getD (at' % zs.length).toNat 0) by' (mem_byte HY.out _) ⟨hb0, hb'⟩); (obtain ⟨hc4, hf4, hI4, hcap4, hbg4⟩ := own_set8 hown4 HY.out (at' % zs.length).toNat (by omega) _ ⟨hx1, hx2⟩); (have HI4 := hid hI4); (have HNE := hid (set_ne zs _ _ (by omega) hx3)); clear hI4 hown hown4 hnil4; (generalize zs.getD (at' % zs.length).toNat 0 = x0 at *); (generalize hxy : bits .xor .u8 x0 by' = y at *); (have HXY := hid hxy); clear hxy; (go_wp2_with fail))
    rw [HXY.out]
    have hB4 : Below w.heap.size w (w4.setCell ⟨g4, (at' % zs.length).toNat, none⟩ (.int .u8 y)) := (hB1.trans (hb4.mono hB1.size)).setCell (by have := hB1.size; simp only; omega) _
    have hP4 : PB (w4.setCell ⟨g4, (at' % zs.length).toNat, none⟩ (.int .u8 y)) w.heap.size ⟨k, f, t, e, s, b⟩ := by
      have h1 := hP1.later hb4
      have h2 := hP1.lt
      unfold PB at *
      rw [heap_setCell_other _ _ _ _ (by simp only; omega)]; exact h1
    generalize (w4.setCell ⟨g4, (at' % zs.length).toNat, none⟩ (.int .u8 y)) = w5 at *
    refine (decode_c _ _ _ _ _ HI4.out hcap4).mono ?_
    rintro _ w6 ⟨⟨p', hp', rfl⟩ | ⟨hp', rfl⟩, hb6⟩
    · have hB6 := hB4.trans (hb6.mono hB4.size)
      have hP6 := hP4.later hb6
      have HN : Hid (p' ≠ ⟨k, f, t, e, s, b⟩) := fun e9 => by
        subst e9
        exact HNE.out (hp'.2.2.trans HZ.out)
      obtain ⟨k', f', t', e', s', b'⟩ := p'
      rw [show Fr.val ⟨k', f', t', e', s', b'⟩ = .agg #[.int .u8 k', .int .u8 f', .int .u8 t', .int .u32 e', .int .u32 s', .string b'] from rfl]
      clear hp'
      go_wp2_with fail
      have hP7 := hP6.alloc (.cells #[.int .u8 k', .int .u8 f', .int .u8 t', .int .u32 e', .int .u32 s', .string b'] 25)
      have hQ7 : PB (w6.alloc (.cells #[.int .u8 k', .int .u8 f', .int .u8 t', .int .u32 e', .int .u32 s', .string b'] 25)) w6.heap.size ⟨k', f', t', e', s', b'⟩ := heap_alloc_new w6 _
      have hB7 := hB6.alloc hB6.size (.cells #[.int .u8 k', .int .u8 f', .int .u8 t', .int .u32 e', .int .u32 s', .string b'] 25)
      generalize (w6.alloc (.cells #[.int .u8 k', .int .u8 f', .int .u8 t', .int .u32 e', .int .u32 s', .string b'] 25)) = w7 at *
      refine (live_c _).mono ?_
      rintro _ w8 ⟨rfl, hb8⟩
      have hP8 := hP7.later hb8
      have hQ8 := hQ7.later hb8
      obtain ⟨c0, c1, c2, c3, c4, c5⟩ := hP8.cells
      obtain ⟨d0, d1, d2, d3, d4, d5⟩ := hQ8.cells
      go_wp2
      all_goals first
        | (exfalso; exact HN.out (pk_ext ‹k' = k› ‹f' = f› ‹t' = t› ‹e' = e› ‹s' = s› ‹b'.toList = b.toList›))
        | (go_ret; exact ⟨rfl, hB7.trans (hb8.mono hB7.size)⟩)
    · have hB6 := hB4.trans (hb6.mono hB4.size)
      clear hp'
      rw [show noPk = .agg #[.int .u8 0, .int .u8 0, .int .u8 0, .int .u32 0, .int .u32 0, .string ⟨#[]⟩] from rfl]
      go_wp2_with fail
      refine (live_c _).mono ?_
      rintro _ w8 ⟨rfl, hb8⟩
      go_wp2
      go_ret
      exact ⟨rfl, (hB6.alloc hB6.size _).trans (hb8.mono (by have := hB6.size; simp; omega))⟩
  · rw [HR.out] at hr'; cases hr'
theorem frameTurned_walk (p : Fr.Pk) (hw : Fr.Wf p) (hs : p.b.size ≤ maxLen) (at' : Int) (ha : (Lit.int .u16 at').wf = true) (by' : Int) (hb : (Lit.int .u8 by').wf = true) (w : World) :
    Calls Try.prog 8 #[Fr.val p, .int .u16 at', .int .u8 by'] w fun e w' => e = .returned (.bool true) ∧ Below w.heap.size w w' := by
  obtain ⟨a0, a1⟩ := bd_u16 ha
  obtain ⟨b0, b1⟩ := bd_u8 hb
  cases hr : Fr.rightB p with
  | false => exact turned_bad p hw hs at' by' hr w
  | true =>
    by_cases hz : by' = 0
    · subst hz; exact turned_zero p hw hs at' hr w
    · exact turned_good p hw hs at' a0 a1 by' (by omega) b1 hr w
/-! ### The row of FrameTurned -/
theorem frameTurned_own : ownKnob Try.prog.godebug = none := by kernel_rfl
theorem frameTurned_laidOut : laidOutB Try.prog = true := by kernel_rfl
set_option maxRecDepth 100000 in
theorem frameTurned_lifted (os : Os) (started : os.Started) (H : Type) (enc : TypeId × Value → H) :
    ReturnsInHanded {} Try.checked os 8 .any (Rows.frameTurnedSpec.pre6 enc Try.prog Try.f8 Rows.frameTurnedRow.domain false) (Rows.frameTurnedSpec.post enc Try.prog Try.f8 false true false false) := by
  refine returnsInHanded_of_change (C := Try.checked) frameTurned_own started (by kernel_rfl) Try.func8
    (ChangeSpec.witness6 (enc := enc) (C := Try.checked) false ⟨#[], #[.agg #[.int .u8 0, .int .u8 0, .int .u8 0, .int .u32 0, .int .u32 0, .string ByteArray.empty], .int .u16 0, .int .u8 0], []⟩ 8 (by kernel_rfl) (by kernel_rfl) (by kernel_rfl) (by kernel_rfl)) ?_
  intro W base args ds gs before hval0 hW hcnd _
  have hval : ∀ (j : Nat) t v, Try.f8.params[j]? = some t → args[j]? = some v → Value.okWide Try.prog W .any base t v := hval0
  have hW' := hW
  obtain ⟨p, q, hA0, hV, rfl, hfz, hnd⟩ := hW
  have hA : DataW.TrodAll enc Try.prog W 0 (fun _ => true) true Try.f8.params.toList args.toList ds p := hA0
  rw [Try.params8] at hA hval
  obtain ⟨v0, vs0, d0, ds0, p0, q0, hargs, rfl, rfl, h0, r0⟩ := trodAll_cons hA
  obtain ⟨v1, vs1, d1, ds1, p1, q1, rfl, rfl, rfl, h1, r1⟩ := trodAll_cons r0
  obtain ⟨v2, vs2, d2, ds2, p2, q2, rfl, rfl, rfl, h2, r2⟩ := trodAll_cons r1
  obtain ⟨rfl, rfl, rfl⟩ := trodAll_nil r2
  obtain rfl : args = #[v0, v1, v2] := by cases args; simp_all
  obtain ⟨rfl, rfl⟩ := trodVars_none hV
  have k0 := h0
  have lt0 : ∀ x ∈ p0, x.block < W.heap.size := by obtain ⟨m, hm⟩ := k0; exact DataW.trod_lt m _ _ _ hm
  obtain ⟨q0, rfl, wq0, zq0⟩ := open_packet (hval 0 25 v0 rfl rfl) h0
  obtain ⟨a1, rfl, rfl, rfl, w1⟩ := open_int Try.underlying43 (hval 1 43 v1 rfl rfl) h1
  obtain ⟨a2, rfl, rfl, rfl, w2⟩ := open_int Try.underlying5 (hval 2 5 v2 rfl rfl) h2
  clear hA0 hval0
  refine (frameTurned_walk q0 wq0 zq0 a1 w1 a2 w2 W).mono fun e W' ⟨he, bel⟩ => ?_
  subst he
  exact ⟨_, rfl, _, _, _, [], _, [], hW', trodAll_mk1 (shut_bool Try.underlying4 _), (trodAll_cons_mk (Below.trod frameTurned_laidOut (by kernel_rfl) (of_decide_eq_true (by kernel_rfl)) k0 bel lt0) (trodAll_cons_mk (shut_int Try.underlying43 w1) (trodAll_cons_mk (shut_int Try.underlying5 w2) trodAll_mk0))), rfl, bel.frame _, fun h => by cases h⟩
theorem frameTurned_over : Rows.frameTurnedRow.holds Try.pinned (OpenSpec.ofChange Rows.frameTurnedSpec) :=
  OpenClaim.holds_of_wide 8 Try.f8 rfl rfl rfl rfl rfl rfl rfl ⟨rfl, rfl, rfl, rfl, rfl⟩ rfl rfl rfl rfl rfl (by kernel_rfl) Try.func8 (by kernel_rfl)
    (of_decide_eq_true (by kernel_rfl)) (by unfold Func.isWrapper; first | (rw [if_pos (by decide +kernel)]; kernel_rfl) | (rw [if_neg (by decide +kernel)]; exact ⟨rfl, rfl⟩))
    (fun os started H enc _ => frameTurned_lifted os started H enc)
/-- The statement. -/
theorem frameTurned_holds : Rows.FrameTurnedSaid := frameTurned_over
#print axioms frameTurned_holds

end Go.Proofs.Yteimegacnmakaaa
