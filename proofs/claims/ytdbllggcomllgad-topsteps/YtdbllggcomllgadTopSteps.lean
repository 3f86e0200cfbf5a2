/-
  For every letters (of which the first twenty are taken), a path is gone up as far as it is gone down.
-/
import Derived.Test.YtdbllggcomllgadCalls
import Derived.Test.YtdbllggcomllgadPUses
import Derived.ChangeOld
import Derived.Below
namespace Go.Proofs.Ytdbllggcomllgad
open Go.ChangeShapes Go.WideShapes Go.ChangeAt Go.RowKit
open Go.ChangeMaps (open_string shut_string)
set_option linter.unusedVariables false
theorem app_d (a b : ByteArray) : (a ++ b).data.toList = a.data.toList ++ b.data.toList := by simp [ByteArray.data_append]
theorem app_s (a b : ByteArray) : (a ++ b).size = a.size + b.size := by
  have h := congrArg List.length (app_d a b)
  have h1 : ∀ y : ByteArray, y.data.toList.length = y.size := fun _ => rfl
  rw [List.length_append, h1, h1, h1] at h
  exact h
theorem dots_succ (k : Nat) : Pa.flat (Pa.dots (k + 1)) = Pa.flat (Pa.dots k) ++ [47, 46, 46] := by
  unfold Pa.dots
  rw [List.replicate_succ', Pa.flat_append]; rfl
theorem conv_one (w : World) (y : Int) : (convert 37 9 (.slice (some ⟨w.heap.size, 0, none⟩) 1 1)).run Try.prog (w.alloc (.cells #[.int .u8 y] 5)) = .ok (.string ⟨#[UInt8.ofNat y.toNat]⟩) (w.alloc (.cells #[.int .u8 y] 5)) := by
  rw [run_convert_bytes_string _ _ _ 5 _ _ _ Try.underlying37 Try.underlying5 Try.underlying9, run_bytesToString _ _ 1 1 [y] ?_]
  · rfl
  · simp [loadCells, go_sem]
set_option maxRecDepth 100000 in
set_option maxHeartbeats 1000000 in
theorem topSteps_walk (a : Option Addr) (len cap : Nat) (zs : List Int) (hlc : len ≤ cap) (w : World) (hb : IsB w a len zs) :
    Calls Try.prog 5 #[.slice a len cap] w fun e w' => e = .returned (.bool true) ∧ Below w.heap.size w w' := by
  obtain ⟨hl, hm, hc, hz⟩ := hb
  unfold maxLen at hm
  have Hz := hid hz
  have Hc := hid hc
  clear hz hc hl
  go_enter Try.func5, Try.ntmps5
  go_wp2
  go_loopw [3, 4, 5] (fun d u i wr => ∃ (down up : ByteArray) (ns : List (List UInt8)), ns.length ≤ len ∧ ns.length ≤ 20 ∧ i = .int .i64 ns.length ∧ d = .string down ∧ u = .string up ∧ down.size = 2 * ns.length ∧ up.size = 3 * ns.length ∧ Hid (Pa.Ones ns) ∧ Hid (down.data.toList = Pa.flat ns) ∧ Hid (up.data.toList = Pa.flat (Pa.dots ns.length)) ∧ Below w.heap.size w wr) (fun _ _ i _ => ((len : Int) - intOf i).toNat)
  case atStart => exact ⟨⟨#[]⟩, ⟨#[]⟩, [], by simp, by simp, rfl, rfl, rfl, rfl, rfl, fun m hm => by simp at hm, rfl, rfl, Below.refl _ _⟩
  case round =>
    obtain ⟨down, up, ns, h1, h2, rfl, rfl, rfl, hd, hu, HO, HD, HU, hbw⟩ := hrel
    by_cases hlt : ns.length < len
    · by_cases h20 : ns.length < 20
      · obtain ⟨b, off, rfl, hcell⟩ := Hc.out (by omega)
        have hck := cell_later hbw (hcell ns.length hlt)
        have hzj := Hz.out ns.length
        generalize hX : zs.getD ns.length 0 = x at *
        have HX := hid hX
        have hcv := fun y => conv_one wr y
        have hy1 : (UInt8.ofNat (97 + x % 26).toNat).toNat = 97 + (x % 26).toNat := by
          rw [UInt8.toNat_ofNat', Nat.mod_eq_of_lt (by omega)]; omega
        generalize hY : UInt8.ofNat (97 + x % 26).toNat = y at *
        have HY := hid hY
        have HY1 := hid hy1
        clear hcell hX hy1
        go_wp2
        go_roundw
        case rel =>
          refine ⟨_, _, ns ++ [[y]], by simp; omega, by simp; omega, by simp, rfl, rfl, ?_, ?_, ?_, ?_, ?_, hbw.alloc hbw.size _⟩
          · rw [slash_size]; simp; show down.size + 1 + 1 = _; omega
          · rw [app_s]; simp; show up.size + 3 = _; omega
          · intro m hm'
            rcases List.mem_append.1 hm' with h9 | h9
            · exact HO.out m h9
            · rw [List.mem_singleton.1 h9]
              have := HY1.out
              exact ⟨Pa.ones_letter y (by omega) (by omega), rfl⟩
          · show _ = _
            rw [slash_data, HD.out, Pa.flat_append]; rfl
          · show _ = _
            rw [app_d, HU.out, List.length_append]
            exact (dots_succ ns.length).symm
        case measure => simp [intOf]; omega
      · have hns : ns.length ≤ 20 := h2
        have e1 : (down ++ (⟨#[47]⟩ : ByteArray)).data.toList = Pa.flat ns ++ [47] := by rw [app_d, HD.out]
        have e2 : (down ++ up ++ (⟨#[47]⟩ : ByteArray)).data.toList = Pa.flat ns ++ Pa.flat (Pa.dots ns.length) ++ [47] := by rw [app_d, app_d, HD.out, HU.out]
        have e3 : (down ++ up ++ (⟨#[47, 120]⟩ : ByteArray)).data.toList = Pa.flat ns ++ Pa.flat (Pa.dots ns.length) ++ [47, 120] := by rw [app_d, app_d, HD.out, HU.out]
        have S1 : Hid (Pa.splitF (down ++ (⟨#[47]⟩ : ByteArray)).data.toList = some ns) := by rw [e1]; exact Pa.down_split HO.out h2
        have S2 : Hid (Pa.splitF (down ++ up ++ (⟨#[47]⟩ : ByteArray)).data.toList = some []) := by rw [e2]; exact Pa.up_split HO.out h2
        have S3 : Hid (Pa.cleanF (down ++ up ++ (⟨#[47, 120]⟩ : ByteArray)).data.toList = some [47, 120]) := by rw [e3]; exact Pa.up_clean HO.out h2
        have z1 : (down ++ (⟨#[47]⟩ : ByteArray)).size ≤ maxLen := by rw [app_s]; show down.size + 1 ≤ _; unfold maxLen; omega
        have z2 : (down ++ up ++ (⟨#[47]⟩ : ByteArray)).size ≤ maxLen := by rw [app_s, app_s]; show down.size + up.size + 1 ≤ _; unfold maxLen; omega
        have z3 : (down ++ up ++ (⟨#[47, 120]⟩ : ByteArray)).size ≤ maxLen := by rw [app_s, app_s]; show down.size + up.size + 2 ≤ _; unfold maxLen; omega
        have b1 : down.size ≤ 40 := by omega
        have b2 : up.size ≤ 60 := by omega
        have q1 : ((ns.length : Int) == (up.size : Int) / 3) = true := beq_iff_eq.2 (by omega)
        clear e1 e2 e3 hd hu
        go_wp2_with fail
        refine (split_yes _ _ z1 _ S1.out).mono ?_
        rintro e w1 ⟨v1, rfl, hI1, -, hb1⟩
        obtain ⟨a1, cap1, rfl, -⟩ := hI1
        go_wp2_with fail
        refine (split_yes _ _ z2 _ S2.out).mono ?_
        rintro e w2 ⟨v2, rfl, hI2, -, hb2⟩
        obtain ⟨a2, cap2, rfl, -⟩ := hI2
        go_wp2_with fail
        refine ((clean_c _ _ z3).mono fun e w' hp => text_yes S3.out hp).mono ?_
        rintro e w3 ⟨rfl, hb3⟩
        go_wp2
        go_ret
        have s0 := hbw.size
        have s1 := hb1.size
        have s2 := hb2.size
        exact ⟨rfl, ((hbw.trans (hb1.mono (by omega))).trans (hb2.mono (by omega))).trans (hb3.mono (by omega))⟩
    · have hns : ns.length ≤ 20 := h2
      have e1 : (down ++ (⟨#[47]⟩ : ByteArray)).data.toList = Pa.flat ns ++ [47] := by rw [app_d, HD.out]
      have e2 : (down ++ up ++ (⟨#[47]⟩ : ByteArray)).data.toList = Pa.flat ns ++ Pa.flat (Pa.dots ns.length) ++ [47] := by rw [app_d, app_d, HD.out, HU.out]
      have e3 : (down ++ up ++ (⟨#[47, 120]⟩ : ByteArray)).data.toList = Pa.flat ns ++ Pa.flat (Pa.dots ns.length) ++ [47, 120] := by rw [app_d, app_d, HD.out, HU.out]
      have S1 : Hid (Pa.splitF (down ++ (⟨#[47]⟩ : ByteArray)).data.toList = some ns) := by rw [e1]; exact Pa.down_split HO.out h2
      have S2 : Hid (Pa.splitF (down ++ up ++ (⟨#[47]⟩ : ByteArray)).data.toList = some []) := by rw [e2]; exact Pa.up_split HO.out h2
      have S3 : Hid (Pa.cleanF (down ++ up ++ (⟨#[47, 120]⟩ : ByteArray)).data.toList = some [47, 120]) := by rw [e3]; exact Pa.up_clean HO.out h2
      have z1 : (down ++ (⟨#[47]⟩ : ByteArray)).size ≤ maxLen := by rw [app_s]; show down.size + 1 ≤ _; unfold maxLen; omega
      have z2 : (down ++ up ++ (⟨#[47]⟩ : ByteArray)).size ≤ maxLen := by rw [app_s, app_s]; show down.size + up.size + 1 ≤ _; unfold maxLen; omega
      have z3 : (down ++ up ++ (⟨#[47, 120]⟩ : ByteArray)).size ≤ maxLen := by rw [app_s, app_s]; show down.size + up.size + 2 ≤ _; unfold maxLen; omega
      have b1 : down.size ≤ 40 := by omega
      have b2 : up.size ≤ 60 := by omega
      have q1 : ((ns.length : Int) == (up.size : Int) / 3) = true := beq_iff_eq.2 (by omega)
      clear e1 e2 e3 hd hu
      go_wp2_with fail
      refine (split_yes _ _ z1 _ S1.out).mono ?_
      rintro e w1 ⟨v1, rfl, hI1, -, hb1⟩
      obtain ⟨a1, cap1, rfl, -⟩ := hI1
      go_wp2_with fail
      refine (split_yes _ _ z2 _ S2.out).mono ?_
      rintro e w2 ⟨v2, rfl, hI2, -, hb2⟩
      obtain ⟨a2, cap2, rfl, -⟩ := hI2
      go_wp2_with fail
      refine ((clean_c _ _ z3).mono fun e w' hp => text_yes S3.out hp).mono ?_
      rintro e w3 ⟨rfl, hb3⟩
      go_wp2
      go_ret
      have s0 := hbw.size
      have s1 := hb1.size
      have s2 := hb2.size
      exact ⟨rfl, ((hbw.trans (hb1.mono (by omega))).trans (hb2.mono (by omega))).trans (hb3.mono (by omega))⟩
/-! ### The row of TopSteps -/
theorem topSteps_own : ownKnob Try.prog.godebug = none := by kernel_rfl
theorem topSteps_laidOut : laidOutB Try.prog = true := by kernel_rfl
set_option maxRecDepth 100000 in
theorem topSteps_lifted (os : Os) (started : os.Started) (H : Type) (enc : TypeId × Value → H) :
    ReturnsInHanded {} Try.checked os 5 .any (Rows.topStepsSpec.pre6 enc Try.prog Try.f5 Rows.topStepsRow.domain false) (Rows.topStepsSpec.post enc Try.prog Try.f5 false true false false) := by
  refine returnsInHanded_of_change (C := Try.checked) topSteps_own started (by kernel_rfl) Try.func5
    (ChangeSpec.witness6 (enc := enc) (C := Try.checked) false ⟨#[], #[.slice none 0 0], []⟩ 8 (by kernel_rfl) (by kernel_rfl) (by kernel_rfl) (by kernel_rfl)) ?_
  intro W base args ds gs before hval0 hW hcnd _
  have hval : ∀ (j : Nat) t v, Try.f5.params[j]? = some t → args[j]? = some v → Value.okWide Try.prog W .any base t v := hval0
  have hW' := hW
  obtain ⟨p, q, hA0, hV, rfl, hfz, hnd⟩ := hW
  have hA : DataW.TrodAll enc Try.prog W 0 (fun _ => true) true Try.f5.params.toList args.toList ds p := hA0
  rw [Try.params5] at hA hval
  obtain ⟨v0, vs0, d0, ds0, p0, q0, hargs, rfl, rfl, h0, r0⟩ := trodAll_cons hA
  obtain ⟨rfl, rfl, rfl⟩ := trodAll_nil r0
  obtain rfl : args = #[v0] := by cases args; simp_all
  obtain ⟨rfl, rfl⟩ := trodVars_none hV
  have k0 := h0
  have lt0 : ∀ x ∈ p0, x.block < W.heap.size := by obtain ⟨m, hm⟩ := k0; exact DataW.trod_lt m _ _ _ hm
  obtain ⟨a0, len0, cap0, rfl⟩ := okWide_slice Try.underlying37 (hval 0 37 v0 rfl rfl)
  obtain ⟨z0, w0, lc0⟩ := isB_of Try.underlying37 Try.underlying5 (by kernel_rfl) h0
  clear hA0 hval0
  refine (topSteps_walk a0 len0 cap0 z0 lc0 W w0).mono fun e W' ⟨he, bel⟩ => ?_
  subst he
  exact ⟨_, rfl, _, _, _, [], _, [], hW', trodAll_mk1 (shut_bool Try.underlying4 _), (trodAll_cons_mk (Below.trod topSteps_laidOut (by kernel_rfl) (of_decide_eq_true (by kernel_rfl)) k0 bel lt0) trodAll_mk0), rfl, bel.frame _, fun h => by cases h⟩
theorem topSteps_over : Rows.topStepsRow.holds Try.pinned (OpenSpec.ofChange Rows.topStepsSpec) :=
  OpenClaim.holds_of_wide 5 Try.f5 rfl rfl rfl rfl rfl rfl rfl ⟨rfl, rfl, rfl, rfl, rfl⟩ rfl rfl rfl rfl rfl (by kernel_rfl) Try.func5 (by kernel_rfl)
    (of_decide_eq_true (by kernel_rfl)) (by unfold Func.isWrapper; first | (rw [if_pos (by decide +kernel)]; kernel_rfl) | (rw [if_neg (by decide +kernel)]; exact ⟨rfl, rfl⟩))
    (fun os started H enc _ => topSteps_lifted os started H enc)
/-- The statement. -/
theorem topSteps_holds : Rows.TopStepsSaid := topSteps_over
#print axioms topSteps_holds
end Go.Proofs.Ytdbllggcomllgad
