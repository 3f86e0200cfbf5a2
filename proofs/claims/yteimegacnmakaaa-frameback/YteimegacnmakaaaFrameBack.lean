/-
  For every packet, Decode of Encode is the packet, and for every bytes (of which the first 40000 are looked at) Encode of Decode are the bytes, or there is the error and no packet; and live holds.
-/
import Derived.Test.YteimegacnmakaaaFOpen
namespace Go.Proofs.Yteimegacnmakaaa
open Go.ChangeShapes Go.WideShapes Go.ChangeAt Go.RowKit
open Go.ChangeMaps (open_string shut_string)
open Go.BigFrame
set_option linter.unusedVariables false
set_option linter.unusedSimpArgs false
set_option maxHeartbeats 2000000 in
theorem back_wrong (p : Fr.Pk) (hw : Fr.Wf p) (hs : p.b.size ≤ maxLen) (a : Option Addr) (len cap : Nat) (zs : List Int) (hlc : len ≤ cap) (w : World) (hb : IsB w a len zs) (hr : Fr.rightB p = false) :
    Calls Try.prog 6 #[Fr.val p, .slice a len cap] w fun e w' => e = .returned (.bool true) ∧ Below w.heap.size w w' := by
  have HL := hid (Fr.enc_length p)
  have HY := hid (Fr.enc_byte p hw)
  have HA := hid hb
  have HW := hid hw
  have HR := hid hr
  obtain ⟨k, f, t, e, s, b⟩ := p
  have C := encode_c ⟨k, f, t, e, s, b⟩ hw hs
  rw [show Fr.val ⟨k, f, t, e, s, b⟩ = .agg #[.int .u8 k, .int .u8 f, .int .u8 t, .int .u32 e, .int .u32 s, .string b] from rfl] at C ⊢
  have HC : Hid _ := C
  simp only at HL
  clear C hw hr hb
  have hm := HA.out.2.1
  unfold maxLen at hm
  unfold maxLen at hs
  simp only at hs
  go_enter Try.func6, Try.ntmps6
  go_wp2_with fail
  refine (HC.out _).mono ?_
  have hB0 : Below w.heap.size w (w.alloc (.cells #[.int .u8 k, .int .u8 f, .int .u8 t, .int .u32 e, .int .u32 s, .string b] 25)) := (Below.refl _ _).alloc (Nat.le_refl _) _
  have hP0 : PB (w.alloc (.cells #[.int .u8 k, .int .u8 f, .int .u8 t, .int .u32 e, .int .u32 s, .string b] 25)) w.heap.size ⟨k, f, t, e, s, b⟩ := heap_alloc_new w _
  generalize (w.alloc (.cells #[.int .u8 k, .int .u8 f, .int .u8 t, .int .u32 e, .int .u32 s, .string b] 25)) = W at *
  rintro _ w1 ⟨⟨hr', v, rfl, hown⟩ | ⟨hr', rfl⟩, hb1⟩
  · rw [HR.out] at hr'; cases hr'
  · have hB4 := hB0.trans (hb1.mono hB0.size)
    have HA3 := hid (HA.out.later hB4)
    clear hr'
    go_wp2_with fail
    refine (few_c _ _ _ _ _ HA3.out hlc).mono ?_
    rintro _ w4 ⟨rfl, rfl⟩
    go_wp2_with fail
    refine (decode_c _ _ _ _ _ (few_isB HA3.out) (by have := (fewN_le len).1; omega)).mono ?_
    rintro _ w5 ⟨⟨p2, hp2, rfl⟩ | ⟨hp2, rfl⟩, hb5⟩
    · have hB5 := hB4.trans (hb5.mono hB4.size)
      have HA5 := hid (HA3.out.later hb5)
      have HW2 := hid hp2
      obtain ⟨k2, f2, t2, e2, s2, b2⟩ := p2
      have C2 := encode_c ⟨k2, f2, t2, e2, s2, b2⟩ hp2.1 (by have := Fr.right_size hp2.2.1; unfold maxLen; omega)
      rw [show Fr.val ⟨k2, f2, t2, e2, s2, b2⟩ = .agg #[.int .u8 k2, .int .u8 f2, .int .u8 t2, .int .u32 e2, .int .u32 s2, .string b2] from rfl] at C2 ⊢
      have HC2 : Hid _ := C2
      clear C2 hp2
      go_wp2_with fail
      refine (HC2.out _).mono ?_
      have hB6 := hB5.alloc hB5.size (.cells #[.int .u8 k2, .int .u8 f2, .int .u8 t2, .int .u32 e2, .int .u32 s2, .string b2] 25)
      have HA6 := hid (HA5.out.later ((Below.refl _ _).alloc (Nat.le_refl _) (.cells #[.int .u8 k2, .int .u8 f2, .int .u8 t2, .int .u32 e2, .int .u32 s2, .string b2] 25)))
      generalize (w5.alloc (.cells #[.int .u8 k2, .int .u8 f2, .int .u8 t2, .int .u32 e2, .int .u32 s2, .string b2] 25)) = w6 at *
      rintro _ w7 ⟨⟨_, v7, rfl, hown7⟩ | ⟨hr7, _⟩, hb7⟩
      · have hB7 := hB6.trans (hb7.mono hB6.size)
        have HA7 := hid (HA6.out.later hb7)
        rw [← HW2.out.2.2] at hown7
        obtain ⟨a7, cap7, rfl, hI7, hcap7⟩ := isB_pile (T := 0) (g := 0) (fun x hx => Fr.enc_byte _ HW2.out.1 x (HW2.out.2.2 ▸ hx)) hown7
        have hl7 := whole_length HW2.out
        obtain ⟨bb, bo, e9, _⟩ := hI7.2.2.1 (by omega)
        subst e9
        obtain ⟨ab, ao, e9, _⟩ := (few_isB HA7.out).2.2.1 (by have := (few_isB HA7.out).1; omega)
        subst e9
        have hfl := (few_isB HA7.out).1
        rw [hfl] at hI7 ⊢
        have kc : ∀ w1, Below w7.heap.size w7 w1 → (convert 26 9 (.slice (some ⟨bb, bo, none⟩) (fewN len) cap7)).run Try.prog w1 = .ok (.string (Fr.tx (zs.take (fewN len)))) w1 := fun w1 h1 => (hI7.later h1).conv
        have kd : ∀ w1, Below w7.heap.size w7 w1 → (convert 26 9 (.slice (some ⟨ab, ao, none⟩) (fewN len) cap)).run Try.prog w1 = .ok (.string (Fr.tx (zs.take (fewN len)))) w1 := fun w1 h1 => ((few_isB HA7.out).later h1).conv
        have KF : Hid (∀ w1, Below w7.heap.size w7 w1 → Calls Try.prog 14 #[.slice (some ⟨ab, ao, none⟩) len cap] w1 fun e w' => e = .returned (.slice (some ⟨ab, ao, none⟩) (fewN len) cap) ∧ w' = w1) := fun w1 h1 => few_c _ _ _ _ _ (HA7.out.later h1) hlc
        clear hfl
        clear hI7 hown7
        go_wp2_with fail
        refine wp_region_class (by kernel_rfl) (by kernel_rfl) ?_
        repeat (first
          | go_big_quiet_skip
          | (go_big_quiet_want
             apply quiet_by
             · intro w1 hw1
               go_simp
               first
                 | rfl
                 | exact kc _ hw1
                 | exact kd _ hw1
                 | (go_at_call 11; exact class_of hw1 (live_c _))
                 | (go_at_call 14; exact class_same hw1 (KF.out _ hw1))
             · go_simp; rfl
             go_big_quiet_on))
        refine wpQuiet_nil ?_
        intro w8 hw8
        go_wp2
        go_ret
        exact ⟨rfl, hB7.trans (hw8.mono hB7.size)⟩
      · rw [HW2.out.2.1] at hr7; cases hr7
    · have hB5 := hB4.trans (hb5.mono hB4.size)
      clear hp2
      rw [show noPk = .agg #[.int .u8 0, .int .u8 0, .int .u8 0, .int .u32 0, .int .u32 0, .string ⟨#[]⟩] from rfl]
      go_wp2_with fail
      have hQ : PB (w5.alloc (.cells #[.int .u8 0, .int .u8 0, .int .u8 0, .int .u32 0, .int .u32 0, .string ⟨#[]⟩] 25)) w5.heap.size ⟨0, 0, 0, 0, 0, ⟨#[]⟩⟩ := heap_alloc_new w5 _
      have hB6 := hB5.alloc hB5.size (.cells #[.int .u8 0, .int .u8 0, .int .u8 0, .int .u32 0, .int .u32 0, .string ⟨#[]⟩] 25)
      generalize (w5.alloc (.cells #[.int .u8 0, .int .u8 0, .int .u8 0, .int .u32 0, .int .u32 0, .string ⟨#[]⟩] 25)) = w6 at *
      refine (live_c _).mono ?_
      rintro _ w8 ⟨rfl, hb8⟩
      obtain ⟨d0, d1, d2, d3, d4, d5⟩ := (hQ.later hb8).cells
      go_wp2
      go_ret
      exact ⟨rfl, hB6.trans (hb8.mono hB6.size)⟩
set_option maxHeartbeats 2000000 in
theorem back_right (p : Fr.Pk) (hw : Fr.Wf p) (hs : p.b.size ≤ maxLen) (a : Option Addr) (len cap : Nat) (zs : List Int) (hlc : len ≤ cap) (w : World) (hb : IsB w a len zs) (hr : Fr.rightB p = true) :
    Calls Try.prog 6 #[Fr.val p, .slice a len cap] w fun e w' => e = .returned (.bool true) ∧ Below w.heap.size w w' := by
  have HL := hid (Fr.enc_length p)
  have HY := hid (Fr.enc_byte p hw)
  have HA := hid hb
  have HW := hid hw
  have HR := hid hr
  obtain ⟨k, f, t, e, s, b⟩ := p
  have C := encode_c ⟨k, f, t, e, s, b⟩ hw hs
  rw [show Fr.val ⟨k, f, t, e, s, b⟩ = .agg #[.int .u8 k, .int .u8 f, .int .u8 t, .int .u32 e, .int .u32 s, .string b] from rfl] at C ⊢
  have HC : Hid _ := C
  simp only at HL
  clear C hw hr hb
  have hm := HA.out.2.1
  unfold maxLen at hm
  unfold maxLen at hs
  simp only at hs
  go_enter Try.func6, Try.ntmps6
  go_wp2_with fail
  refine (HC.out _).mono ?_
  have hB0 : Below w.heap.size w (w.alloc (.cells #[.int .u8 k, .int .u8 f, .int .u8 t, .int .u32 e, .int .u32 s, .string b] 25)) := (Below.refl _ _).alloc (Nat.le_refl _) _
  have hP0 : PB (w.alloc (.cells #[.int .u8 k, .int .u8 f, .int .u8 t, .int .u32 e, .int .u32 s, .string b] 25)) w.heap.size ⟨k, f, t, e, s, b⟩ := heap_alloc_new w _
  generalize (w.alloc (.cells #[.int .u8 k, .int .u8 f, .int .u8 t, .int .u32 e, .int .u32 s, .string b] 25)) = W at *
  rintro _ w1 ⟨⟨hr', v, rfl, hown⟩ | ⟨hr', rfl⟩, hb1⟩
  · have hB1 := hB0.trans (hb1.mono hB0.size)
    have hP1 := hP0.later hb1
    have hsz := Fr.right_size HR.out
    simp only at hsz
    obtain ⟨a1, cap1, rfl, hI1, hcap1⟩ := isB_pile (T := 0) (g := 0) HY.out hown
    have HI1 := hid hI1
    rw [HL.out] at *
    clear hown hI1 hr'
    go_wp2_with fail
    refine (decode_c _ _ _ _ _ HI1.out hcap1).mono ?_
    rintro _ w2 ⟨⟨p', hp', rfl⟩ | ⟨hp', rfl⟩, hb2⟩
    · have e9 : p' = ⟨k, f, t, e, s, b⟩ := Fr.begins_one (whole_begins hp') (whole_begins ⟨HW.out, HR.out, rfl⟩)
      subst e9
      rw [show Fr.val ⟨k, f, t, e, s, b⟩ = .agg #[.int .u8 k, .int .u8 f, .int .u8 t, .int .u32 e, .int .u32 s, .string b] from rfl]
      have hB2 := hB1.trans (hb2.mono hB1.size)
      have hP2 := hP1.later hb2
      clear hp'
      have hlt := hP2.lt
      have hne : ¬ w.heap.size = w2.heap.size := by omega
      obtain ⟨c0, c1, c2, c3, c4, c5⟩ := hP2.cells
      have hB4 := hB2.alloc hB2.size (.cells #[.int .u8 k, .int .u8 f, .int .u8 t, .int .u32 e, .int .u32 s, .string b] 25)
      have HA3 := hid (HA.out.later hB4)
      go_wp2_with fail
      refine (few_c _ _ _ _ _ HA3.out hlc).mono ?_
      rintro _ w4 ⟨rfl, rfl⟩
      go_wp2_with fail
      refine (decode_c _ _ _ _ _ (few_isB HA3.out) (by have := (fewN_le len).1; omega)).mono ?_
      rintro _ w5 ⟨⟨p2, hp2, rfl⟩ | ⟨hp2, rfl⟩, hb5⟩
      · have hB5 := hB4.trans (hb5.mono hB4.size)
        have HA5 := hid (HA3.out.later hb5)
        have HW2 := hid hp2
        obtain ⟨k2, f2, t2, e2, s2, b2⟩ := p2
        have C2 := encode_c ⟨k2, f2, t2, e2, s2, b2⟩ hp2.1 (by have := Fr.right_size hp2.2.1; unfold maxLen; omega)
        rw [show Fr.val ⟨k2, f2, t2, e2, s2, b2⟩ = .agg #[.int .u8 k2, .int .u8 f2, .int .u8 t2, .int .u32 e2, .int .u32 s2, .string b2] from rfl] at C2 ⊢
        have HC2 : Hid _ := C2
        clear C2 hp2
        go_wp2_with fail
        refine (HC2.out _).mono ?_
        have hB6 := hB5.alloc hB5.size (.cells #[.int .u8 k2, .int .u8 f2, .int .u8 t2, .int .u32 e2, .int .u32 s2, .string b2] 25)
        have HA6 := hid (HA5.out.later ((Below.refl _ _).alloc (Nat.le_refl _) (.cells #[.int .u8 k2, .int .u8 f2, .int .u8 t2, .int .u32 e2, .int .u32 s2, .string b2] 25)))
        generalize (w5.alloc (.cells #[.int .u8 k2, .int .u8 f2, .int .u8 t2, .int .u32 e2, .int .u32 s2, .string b2] 25)) = w6 at *
        rintro _ w7 ⟨⟨_, v7, rfl, hown7⟩ | ⟨hr7, _⟩, hb7⟩
        · have hB7 := hB6.trans (hb7.mono hB6.size)
          have HA7 := hid (HA6.out.later hb7)
          rw [← HW2.out.2.2] at hown7
          obtain ⟨a7, cap7, rfl, hI7, hcap7⟩ := isB_pile (T := 0) (g := 0) (fun x hx => Fr.enc_byte _ HW2.out.1 x (HW2.out.2.2 ▸ hx)) hown7
          have hl7 := whole_length HW2.out
          obtain ⟨bb, bo, e9, _⟩ := hI7.2.2.1 (by omega)
          subst e9
          obtain ⟨ab, ao, e9, _⟩ := (few_isB HA7.out).2.2.1 (by have := (few_isB HA7.out).1; omega)
          subst e9
          have hfl := (few_isB HA7.out).1
          rw [hfl] at hI7 ⊢
          have kc : ∀ w1, Below w7.heap.size w7 w1 → (convert 26 9 (.slice (some ⟨bb, bo, none⟩) (fewN len) cap7)).run Try.prog w1 = .ok (.string (Fr.tx (zs.take (fewN len)))) w1 := fun w1 h1 => (hI7.later h1).conv
          have kd : ∀ w1, Below w7.heap.size w7 w1 → (convert 26 9 (.slice (some ⟨ab, ao, none⟩) (fewN len) cap)).run Try.prog w1 = .ok (.string (Fr.tx (zs.take (fewN len)))) w1 := fun w1 h1 => ((few_isB HA7.out).later h1).conv
          have KF : Hid (∀ w1, Below w7.heap.size w7 w1 → Calls Try.prog 14 #[.slice (some ⟨ab, ao, none⟩) len cap] w1 fun e w' => e = .returned (.slice (some ⟨ab, ao, none⟩) (fewN len) cap) ∧ w' = w1) := fun w1 h1 => few_c _ _ _ _ _ (HA7.out.later h1) hlc
          clear hfl
          clear hI7 hown7
          go_wp2_with fail
          refine wp_region_class (by kernel_rfl) (by kernel_rfl) ?_
          repeat (first
            | go_big_quiet_skip
            | (go_big_quiet_want
               apply quiet_by
               · intro w1 hw1
                 go_simp
                 first
                   | rfl
                   | exact kc _ hw1
                   | exact kd _ hw1
                   | (go_at_call 11; exact class_of hw1 (live_c _))
                   | (go_at_call 14; exact class_same hw1 (KF.out _ hw1))
               · go_simp; rfl
               go_big_quiet_on))
          refine wpQuiet_nil ?_
          intro w8 hw8
          go_wp2
          go_ret
          exact ⟨rfl, hB7.trans (hw8.mono hB7.size)⟩
        · rw [HW2.out.2.1] at hr7; cases hr7
      · have hB5 := hB4.trans (hb5.mono hB4.size)
        clear hp2
        rw [show noPk = .agg #[.int .u8 0, .int .u8 0, .int .u8 0, .int .u32 0, .int .u32 0, .string ⟨#[]⟩] from rfl]
        go_wp2_with fail
        have hQ : PB (w5.alloc (.cells #[.int .u8 0, .int .u8 0, .int .u8 0, .int .u32 0, .int .u32 0, .string ⟨#[]⟩] 25)) w5.heap.size ⟨0, 0, 0, 0, 0, ⟨#[]⟩⟩ := heap_alloc_new w5 _
        have hB6 := hB5.alloc hB5.size (.cells #[.int .u8 0, .int .u8 0, .int .u8 0, .int .u32 0, .int .u32 0, .string ⟨#[]⟩] 25)
        generalize (w5.alloc (.cells #[.int .u8 0, .int .u8 0, .int .u8 0, .int .u32 0, .int .u32 0, .string ⟨#[]⟩] 25)) = w6 at *
        refine (live_c _).mono ?_
        rintro _ w8 ⟨rfl, hb8⟩
        obtain ⟨d0, d1, d2, d3, d4, d5⟩ := (hQ.later hb8).cells
        go_wp2
        go_ret
        exact ⟨rfl, hB6.trans (hb8.mono hB6.size)⟩
    · exact absurd ⟨HW.out, HR.out, rfl⟩ (hp' ⟨k, f, t, e, s, b⟩)
  · rw [HR.out] at hr'; cases hr'
theorem frameBack_walk (p : Fr.Pk) (hw : Fr.Wf p) (hs : p.b.size ≤ maxLen) (a : Option Addr) (len cap : Nat) (zs : List Int) (hlc : len ≤ cap) (w : World) (hb : IsB w a len zs) :
    Calls Try.prog 6 #[Fr.val p, .slice a len cap] w fun e w' => e = .returned (.bool true) ∧ Below w.heap.size w w' := by
  cases hr : Fr.rightB p with
  | false => exact back_wrong p hw hs a len cap zs hlc w hb hr
  | true => exact back_right p hw hs a len cap zs hlc w hb hr
/-! ### The row of FrameBack -/
theorem frameBack_own : ownKnob Try.prog.godebug = none := by kernel_rfl
theorem frameBack_laidOut : laidOutB Try.prog = true := by kernel_rfl
set_option maxRecDepth 100000 in
theorem frameBack_lifted (os : Os) (started : os.Started) (H : Type) (enc : TypeId × Value → H) :
    ReturnsInHanded {} Try.checked os 6 .any (Rows.frameBackSpec.pre6 enc Try.prog Try.f6 Rows.frameBackRow.domain false) (Rows.frameBackSpec.post enc Try.prog Try.f6 false true false false) := by
  refine returnsInHanded_of_change (C := Try.checked) frameBack_own started (by kernel_rfl) Try.func6
    (ChangeSpec.witness6 (enc := enc) (C := Try.checked) false ⟨#[], #[.agg #[.int .u8 0, .int .u8 0, .int .u8 0, .int .u32 0, .int .u32 0, .string ByteArray.empty], .slice none 0 0], []⟩ 8 (by kernel_rfl) (by kernel_rfl) (by kernel_rfl) (by kernel_rfl)) ?_
  intro W base args ds gs before hval0 hW hcnd _
  have hval : ∀ (j : Nat) t v, Try.f6.params[j]? = some t → args[j]? = some v → Value.okWide Try.prog W .any base t v := hval0
  have hW' := hW
  obtain ⟨p, q, hA0, hV, rfl, hfz, hnd⟩ := hW
  have hA : DataW.TrodAll enc Try.prog W 0 (fun _ => true) true Try.f6.params.toList args.toList ds p := hA0
  rw [Try.params6] at hA hval
  obtain ⟨v0, vs0, d0, ds0, p0, q0, hargs, rfl, rfl, h0, r0⟩ := trodAll_cons hA
  obtain ⟨v1, vs1, d1, ds1, p1, q1, rfl, rfl, rfl, h1, r1⟩ := trodAll_cons r0
  obtain ⟨rfl, rfl, rfl⟩ := trodAll_nil r1
  obtain rfl : args = #[v0, v1] := by cases args; simp_all
  obtain ⟨rfl, rfl⟩ := trodVars_none hV
  have k0 := h0
  have lt0 : ∀ x ∈ p0, x.block < W.heap.size := by obtain ⟨m, hm⟩ := k0; exact DataW.trod_lt m _ _ _ hm
  obtain ⟨q0, rfl, wq0, zq0⟩ := open_packet (hval 0 25 v0 rfl rfl) h0
  have k1 := h1
  have lt1 : ∀ x ∈ p1, x.block < W.heap.size := by obtain ⟨m, hm⟩ := k1; exact DataW.trod_lt m _ _ _ hm
  obtain ⟨a1, len1, cap1, rfl⟩ := okWide_slice Try.underlying26 (hval 1 26 v1 rfl rfl)
  obtain ⟨z1, w1, lc1⟩ := isB_of Try.underlying26 Try.underlying5 (by kernel_rfl) h1
  clear hA0 hval0
  refine (frameBack_walk q0 wq0 zq0 a1 len1 cap1 z1 lc1 W w1).mono fun e W' ⟨he, bel⟩ => ?_
  subst he
  exact ⟨_, rfl, _, _, _, [], _, [], hW', trodAll_mk1 (shut_bool Try.underlying4 _), (trodAll_cons_mk (Below.trod frameBack_laidOut (by kernel_rfl) (of_decide_eq_true (by kernel_rfl)) k0 bel lt0) (trodAll_cons_mk (Below.trod frameBack_laidOut (by kernel_rfl) (of_decide_eq_true (by kernel_rfl)) k1 bel lt1) trodAll_mk0)), rfl, bel.frame _, fun h => by cases h⟩
theorem frameBack_over : Rows.frameBackRow.holds Try.pinned (OpenSpec.ofChange Rows.frameBackSpec) :=
  OpenClaim.holds_of_wide 6 Try.f6 rfl rfl rfl rfl rfl rfl rfl ⟨rfl, rfl, rfl, rfl, rfl⟩ rfl rfl rfl rfl rfl (by kernel_rfl) Try.func6 (by kernel_rfl)
    (of_decide_eq_true (by kernel_rfl)) (by unfold Func.isWrapper; first | (rw [if_pos (by decide +kernel)]; kernel_rfl) | (rw [if_neg (by decide +kernel)]; exact ⟨rfl, rfl⟩))
    (fun os started H enc _ => frameBack_lifted os started H enc)
/-- The statement. -/
theorem frameBack_holds : Rows.FrameBackSaid := frameBack_over
#print axioms frameBack_holds

end Go.Proofs.Yteimegacnmakaaa
