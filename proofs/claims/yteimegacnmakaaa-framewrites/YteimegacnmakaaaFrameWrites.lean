/-
  For every packet, Encode and Right answer what the document's definition answers, and live holds.
-/
import Derived.Test.YteimegacnmakaaaFRef
namespace Go.Proofs.Yteimegacnmakaaa
open Go.ChangeShapes Go.WideShapes Go.ChangeAt Go.RowKit
open Go.ChangeMaps (open_string shut_string)
open Go.BigFrame
set_option linter.unusedVariables false
set_option linter.unusedSimpArgs false
theorem class_later {P : Program} {w w' : World} (h : Below w.heap.size w w') {B : Nat} {p : Fr.Pk} (hp : PB w B p) : ∀ w1, Below w'.heap.size w' w1 → PB w1 B p := fun w1 h1 => (hp.later h).later h1
set_option maxHeartbeats 2000000 in
theorem frameWrites_walk (p : Fr.Pk) (hw : Fr.Wf p) (hs : p.b.size ≤ maxLen) (w : World) :
    Calls Try.prog 3 #[Fr.val p] w fun e w' => e = .returned (.bool true) ∧ Below w.heap.size w w' := by
  have HY := hid (Fr.enc_byte p hw)
  obtain ⟨k, f, t, e, s, b⟩ := p
  have C1 := encode_c ⟨k, f, t, e, s, b⟩ hw hs
  have C2 := rencode_c ⟨k, f, t, e, s, b⟩ hw hs
  have C3 := right_c ⟨k, f, t, e, s, b⟩ hw hs
  have C4 := rright_c ⟨k, f, t, e, s, b⟩ hw hs
  have HL := hid (Fr.enc_length ⟨k, f, t, e, s, b⟩)
  rw [show Fr.val ⟨k, f, t, e, s, b⟩ = .agg #[.int .u8 k, .int .u8 f, .int .u8 t, .int .u32 e, .int .u32 s, .string b] from rfl] at C1 C2 C3 C4 ⊢
  have H1 : Hid _ := C1
  have H2 : Hid _ := C2
  have H3 : Hid _ := C3
  have H4 : Hid _ := C4
  clear C1 C2 C3 C4 hw hs
  go_enter Try.func3, Try.ntmps3
  go_wp2_with fail
  refine (H1.out _).mono ?_
  have hB0 : Below w.heap.size w (w.alloc (.cells #[.int .u8 k, .int .u8 f, .int .u8 t, .int .u32 e, .int .u32 s, .string b] 25)) := (Below.refl _ _).alloc (Nat.le_refl _) _
  have hP0 : PB (w.alloc (.cells #[.int .u8 k, .int .u8 f, .int .u8 t, .int .u32 e, .int .u32 s, .string b] 25)) w.heap.size ⟨k, f, t, e, s, b⟩ := heap_alloc_new w _
  generalize (w.alloc (.cells #[.int .u8 k, .int .u8 f, .int .u8 t, .int .u32 e, .int .u32 s, .string b] 25)) = W at *
  rintro _ w1 ⟨⟨hr, v, rfl, hown⟩ | ⟨hr, rfl⟩, hb1⟩
  · have hB1 := hB0.trans (hb1.mono hB0.size)
    have hP1 := hP0.later hb1
    obtain ⟨c0, c1, c2, c3, c4, c5⟩ := hP1.cells
    obtain ⟨a1, cap1, rfl, hI1, hcap1⟩ := isB_pile (T := 0) (g := 0) HY.out hown
    have HI1 := hid hI1
    clear hI1 hown
    go_wp2_with fail
    refine (H2.out _).mono ?_
    rintro _ w2 ⟨⟨_, v2, rfl, hown2⟩ | ⟨hr2, _⟩, hb2⟩
    · have hB2 := hB1.trans (hb2.mono hB1.size)
      have hP2 := hP1.later hb2
      obtain ⟨a2, cap2, rfl, hI2, hcap2⟩ := isB_pile (T := 0) (g := 0) HY.out hown2
      have hl := HL.out
      obtain ⟨ab, ao, e9, _⟩ := HI1.out.2.2.1 (by omega)
      subst e9
      obtain ⟨bb, bo, e9, _⟩ := hI2.2.2.1 (by omega)
      subst e9
      have kc : ∀ w1, Below w2.heap.size w2 w1 → (convert 26 9 (.slice (some ⟨ab, ao, none⟩) (Fr.enc ⟨k, f, t, e, s, b⟩).length cap1)).run Try.prog w1 = .ok (.string (Fr.tx (Fr.enc ⟨k, f, t, e, s, b⟩))) w1 := fun w1 h1 => ((HI1.out.later hb2).later h1).conv
      have kd : ∀ w1, Below w2.heap.size w2 w1 → (convert 26 9 (.slice (some ⟨bb, bo, none⟩) (Fr.enc ⟨k, f, t, e, s, b⟩).length cap2)).run Try.prog w1 = .ok (.string (Fr.tx (Fr.enc ⟨k, f, t, e, s, b⟩))) w1 := fun w1 h1 => (hI2.later h1).conv
      have lc : ∀ w1, Below w2.heap.size w2 w1 → w1.cell? ⟨w.heap.size, 0, none⟩ = some (.int .u8 k) := fun w1 h1 => (hP2.later h1).cells.1
      have lc1 : ∀ w1, Below w2.heap.size w2 w1 → w1.cell? ⟨w.heap.size, 1, none⟩ = some (.int .u8 f) := fun w1 h1 => (hP2.later h1).cells.2.1
      have lc2 : ∀ w1, Below w2.heap.size w2 w1 → w1.cell? ⟨w.heap.size, 2, none⟩ = some (.int .u8 t) := fun w1 h1 => (hP2.later h1).cells.2.2.1
      have lc3 : ∀ w1, Below w2.heap.size w2 w1 → w1.cell? ⟨w.heap.size, 3, none⟩ = some (.int .u32 e) := fun w1 h1 => (hP2.later h1).cells.2.2.2.1
      have lc4 : ∀ w1, Below w2.heap.size w2 w1 → w1.cell? ⟨w.heap.size, 4, none⟩ = some (.int .u32 s) := fun w1 h1 => (hP2.later h1).cells.2.2.2.2.1
      have lc5 : ∀ w1, Below w2.heap.size w2 w1 → w1.cell? ⟨w.heap.size, 5, none⟩ = some (.string b) := fun w1 h1 => (hP2.later h1).cells.2.2.2.2.2
      generalize (Fr.enc ⟨k, f, t, e, s, b⟩).length = L at *
      generalize Fr.tx (Fr.enc ⟨k, f, t, e, s, b⟩) = X at *
      clear hl hI2 hown2 c0 c1 c2 c3 c4 c5
      go_wp2_with fail
      refine wp_region_class (by kernel_rfl) (by kernel_rfl) ?_
      repeat (first
        | go_big_quiet_skip
        | (go_big_quiet_want
           apply quiet_by
           · intro w1 hw1
             go_simp
             first
               | rfl
               | exact kc _ hw1
               | exact kd _ hw1
               | (go_at_call 11; exact class_of hw1 (live_c _))
               | (go_at_call 12; exact class_of hw1 (H3.out _))
               | (go_at_call 13; exact class_of hw1 (H4.out _))
           · go_simp; rfl
           go_big_quiet_on))
      refine wpQuiet_nil ?_
      intro w8 hw8
      go_wp2
      go_ret
      exact ⟨rfl, hB2.trans (hw8.mono hB2.size)⟩
    · rw [hr] at hr2; cases hr2
  · have hB1 := hB0.trans (hb1.mono hB0.size)
    have hP1 := hP0.later hb1
    obtain ⟨c0, c1, c2, c3, c4, c5⟩ := hP1.cells
    go_wp2_with fail
    refine (H2.out _).mono ?_
    rintro _ w2 ⟨⟨hr2, v2, rfl, hown2⟩ | ⟨hr2, rfl⟩, hb2⟩
    · rw [hr] at hr2; cases hr2
    · have hB2 := hB1.trans (hb2.mono hB1.size)
      have hP2 := hP1.later hb2
      have kc : ∀ w1, Below w2.heap.size w2 w1 → (convert 26 9 (.slice none 0 0)).run Try.prog w1 = .ok (.string ByteArray.empty) w1 := fun w1 h1 => run_convert_bytes_nil w1 26 5 Try.underlying26 Try.underlying5 0 0 9 Try.underlying9
      have lc : ∀ w1, Below w2.heap.size w2 w1 → w1.cell? ⟨w.heap.size, 0, none⟩ = some (.int .u8 k) := fun w1 h1 => (hP2.later h1).cells.1
      have lc1 : ∀ w1, Below w2.heap.size w2 w1 → w1.cell? ⟨w.heap.size, 1, none⟩ = some (.int .u8 f) := fun w1 h1 => (hP2.later h1).cells.2.1
      have lc2 : ∀ w1, Below w2.heap.size w2 w1 → w1.cell? ⟨w.heap.size, 2, none⟩ = some (.int .u8 t) := fun w1 h1 => (hP2.later h1).cells.2.2.1
      have lc3 : ∀ w1, Below w2.heap.size w2 w1 → w1.cell? ⟨w.heap.size, 3, none⟩ = some (.int .u32 e) := fun w1 h1 => (hP2.later h1).cells.2.2.2.1
      have lc4 : ∀ w1, Below w2.heap.size w2 w1 → w1.cell? ⟨w.heap.size, 4, none⟩ = some (.int .u32 s) := fun w1 h1 => (hP2.later h1).cells.2.2.2.2.1
      have lc5 : ∀ w1, Below w2.heap.size w2 w1 → w1.cell? ⟨w.heap.size, 5, none⟩ = some (.string b) := fun w1 h1 => (hP2.later h1).cells.2.2.2.2.2
      clear c0 c1 c2 c3 c4 c5
      go_wp2_with fail
      refine wp_region_class (by kernel_rfl) (by kernel_rfl) ?_
      repeat (first
        | go_big_quiet_skip
        | (go_big_quiet_want
           apply quiet_by
           · intro w1 hw1
             go_simp
             first
               | rfl
               | exact kc _ hw1
               | (go_at_call 11; exact class_of hw1 (live_c _))
               | (go_at_call 12; exact class_of hw1 (H3.out _))
               | (go_at_call 13; exact class_of hw1 (H4.out _))
           · go_simp; rfl
           go_big_quiet_on))
      refine wpQuiet_nil ?_
      intro w8 hw8
      go_wp2
      go_ret
      exact ⟨rfl, hB2.trans (hw8.mono hB2.size)⟩
/-! ### The row of FrameWrites -/
theorem frameWrites_own : ownKnob Try.prog.godebug = none := by kernel_rfl
theorem frameWrites_laidOut : laidOutB Try.prog = true := by kernel_rfl
set_option maxRecDepth 100000 in
theorem frameWrites_lifted (os : Os) (started : os.Started) (H : Type) (enc : TypeId × Value → H) :
    ReturnsInHanded {} Try.checked os 3 .any (Rows.frameWritesSpec.pre6 enc Try.prog Try.f3 Rows.frameWritesRow.domain false) (Rows.frameWritesSpec.post enc Try.prog Try.f3 false true false false) := by
  refine returnsInHanded_of_change (C := Try.checked) frameWrites_own started (by kernel_rfl) Try.func3
    (ChangeSpec.witness6 (enc := enc) (C := Try.checked) false ⟨#[], #[.agg #[.int .u8 0, .int .u8 0, .int .u8 0, .int .u32 0, .int .u32 0, .string ByteArray.empty]], []⟩ 8 (by kernel_rfl) (by kernel_rfl) (by kernel_rfl) (by kernel_rfl)) ?_
  intro W base args ds gs before hval0 hW hcnd _
  have hval : ∀ (j : Nat) t v, Try.f3.params[j]? = some t → args[j]? = some v → Value.okWide Try.prog W .any base t v := hval0
  have hW' := hW
  obtain ⟨p, q, hA0, hV, rfl, hfz, hnd⟩ := hW
  have hA : DataW.TrodAll enc Try.prog W 0 (fun _ => true) true Try.f3.params.toList args.toList ds p := hA0
  rw [Try.params3] at hA hval
  obtain ⟨v0, vs0, d0, ds0, p0, q0, hargs, rfl, rfl, h0, r0⟩ := trodAll_cons hA
  obtain ⟨rfl, rfl, rfl⟩ := trodAll_nil r0
  obtain rfl : args = #[v0] := by cases args; simp_all
  obtain ⟨rfl, rfl⟩ := trodVars_none hV
  have k0 := h0
  have lt0 : ∀ x ∈ p0, x.block < W.heap.size := by obtain ⟨m, hm⟩ := k0; exact DataW.trod_lt m _ _ _ hm
  obtain ⟨q0, rfl, wq0, zq0⟩ := open_packet (hval 0 25 v0 rfl rfl) h0
  clear hA0 hval0
  refine (frameWrites_walk q0 wq0 zq0 W).mono fun e W' ⟨he, bel⟩ => ?_
  subst he
  exact ⟨_, rfl, _, _, _, [], _, [], hW', trodAll_mk1 (shut_bool Try.underlying4 _), (trodAll_cons_mk (Below.trod frameWrites_laidOut (by kernel_rfl) (of_decide_eq_true (by kernel_rfl)) k0 bel lt0) trodAll_mk0), rfl, bel.frame _, fun h => by cases h⟩
theorem frameWrites_over : Rows.frameWritesRow.holds Try.pinned (OpenSpec.ofChange Rows.frameWritesSpec) :=
  OpenClaim.holds_of_wide 3 Try.f3 rfl rfl rfl rfl rfl rfl rfl ⟨rfl, rfl, rfl, rfl, rfl⟩ rfl rfl rfl rfl rfl (by kernel_rfl) Try.func3 (by kernel_rfl)
    (of_decide_eq_true (by kernel_rfl)) (by unfold Func.isWrapper; first | (rw [if_pos (by decide +kernel)]; kernel_rfl) | (rw [if_neg (by decide +kernel)]; exact ⟨rfl, rfl⟩))
    (fun os started H enc _ => frameWrites_lifted os started H enc)
/-- The statement. -/
theorem frameWrites_holds : Rows.FrameWritesSaid := frameWrites_over
#print axioms frameWrites_holds

end Go.Proofs.Yteimegacnmakaaa
