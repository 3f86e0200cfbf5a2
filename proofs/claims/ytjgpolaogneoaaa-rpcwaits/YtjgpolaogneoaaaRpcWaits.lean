/-
  For every times: a call is sent at once, and again when four have gone by; behind more than five times nobody answers.
-/
import Derived.Test.YtjgpolaogneoaaaRLv
namespace Go.Proofs.Ytjgpolaogneoaaa
open Go.RowKit Go.ChangeShapes Go.WideShapes Go.ChangeAt
open Go.ChangeMaps (open_string shut_string)
set_option linter.unusedVariables false
set_option linter.unusedSimpArgs false
set_option maxRecDepth 100000
set_option maxHeartbeats 4000000 in
theorem rpcWaits_walk (a : Option Addr) (len cap : Nat) (zs : List Int) (hlc : len ≤ cap) (w : World) (hb : IsB w a len zs) :
    Calls Try.prog 5 #[.slice a len cap] w fun e w' => e = .returned (.bool true) ∧ Below w.heap.size w w' := by
  have HI := hid hb
  have hm := hb.2.1
  unfold maxLen at hm
  clear hb
  go_enter Try.func5, Try.ntmps5
  go_wp2_with fail
  refine (newCaller_c 3 1 (by decide) (by decide) w).mono ?_
  rintro _ w1 ⟨rfl, hC1, hb1⟩
  go_wp2_with fail
  refine (call_c hC1 (wfc _ _ _ _ _ _ _ (by decide) (by decide) (by decide) (by decide) (by decide) (by decide)) ⟨#[120]⟩).mono ?_
  rintro _ w2 ⟨rfl, hC2, ho2⟩
  rw [show callE ⟨3, 1, 0, false, ⟨#[]⟩, 0, 0⟩ ⟨#[120]⟩ = 0 from rfl]
  rw [show callS ⟨3, 1, 0, false, ⟨#[]⟩, 0, 0⟩ ⟨#[120]⟩ = ⟨3, 1, 1, true, ⟨#[120]⟩, 0, 0⟩ from rfl] at hC2
  have B2 := hid (hb1.trans (ho2.below hb1.size (fun k e => by omega)))
  have C2 := hid hC2
  clear hC1 hb1 hC2 ho2
  go_wp2
  go_loopw [2, 4, 5, 6, 7] (fun r now last many i wr => ∃ (n l : Nat) (m j : Nat), r = .bool false ∧ now = .int .u64 n ∧ last = .int .u64 l ∧ many = .int .i64 m ∧ i = .int .i64 j ∧ j ≤ 40 ∧ m ≤ j ∧ l ≤ n ∧ n ≤ 6 * j ∧ (m = 0 → l = 0) ∧ IsC 73 wr w.heap.size ⟨3, 1, 1, true, ⟨#[120]⟩, m, l⟩ ∧ Below w.heap.size w wr) (fun _ _ _ _ i _ => (40 - intOf i).toNat)
  case atStart => exact ⟨0, 0, 0, 0, rfl, rfl, rfl, rfl, rfl, by omega, by omega, by omega, by omega, fun _ => rfl, C2.out, B2.out⟩
  case round =>
    obtain ⟨n, l, m, j, rfl, rfl, rfl, rfl, rfl, hj, hmj, hln, hn6, hm0, hC, hB⟩ := hrel
    have HC := hid hC
    have HB := hid hB
    clear hC hB
    by_cases h1 : j < len
    · by_cases h2 : j < 40
      · obtain ⟨b, off, rfl, hcell⟩ := HI.out.2.2.1 (by omega)
        have hcj := cell_later HB.out (hcell j h1)
        have hz := HI.out.2.2.2 j
        have HI' := HI
        clear hcell
        generalize zs.getD j 0 = x at *
        have h1' : (j : Int) < (len : Int) := by omega
        have h2' : (j : Int) < 40 := by omega
        go_wp2_with fail
        obtain ⟨N, hN⟩ : ∃ N : Nat, (n : Int) + x % 7 = N := ⟨((n : Int) + x % 7).toNat, by omega⟩
        have hN1 : N ≤ n + 6 := by omega
        have hN2 : n ≤ N := by omega
        rw [hN]
        have WF : Hid (Cl.Wf ⟨3, 1, 1, true, ⟨#[120]⟩, (m : Int), (l : Int)⟩) := wfc _ _ _ _ _ _ _ (by decide) (by decide) (by decide) (by omega) (by omega) (by decide)
        clear hN hcj hz HI'
        by_cases hm1 : m = 0
        · have hT : tickB ⟨3, 1, 1, true, ⟨#[120]⟩, (m : Int), (l : Int)⟩ (N : Int) = true := by simp [tickB, dueB, hm1]
          have hmb : ((m : Int) == 0) = true := by simp [hm1]
          have TK := hid (tick_c HC.out WF.out (N : Int) (by omega) (by omega))
          rw [hT] at TK
          rw [show tickP ⟨3, 1, 1, true, ⟨#[120]⟩, (m : Int), (l : Int)⟩ (N : Int) = ⟨1, 3, 0, 1, 1, ⟨#[120]⟩⟩ from by unfold tickP; rw [hT]; rfl, show tickS ⟨3, 1, 1, true, ⟨#[120]⟩, (m : Int), (l : Int)⟩ (N : Int) = ⟨3, 1, 1, true, ⟨#[120]⟩, (m : Int) + 1, (N : Int)⟩ from by unfold tickS; rw [hT]; rfl, show Fr.val ⟨1, 3, 0, 1, 1, ⟨#[120]⟩⟩ = .agg #[.int .u8 1, .int .u8 3, .int .u8 0, .int .u32 1, .int .u32 1, .string ⟨#[120]⟩] from rfl] at TK
          clear hT
          refine TK.out.mono ?_
          rintro _ w3 ⟨rfl, hC3, ho3⟩
          have b4 : Below w3.heap.size w3 (w3.alloc (.cells #[.int .u8 1, .int .u8 3, .int .u8 0, .int .u32 1, .int .u32 1, .string ⟨#[120]⟩] 39)) := (Below.refl _ _).alloc (Nat.le_refl _) _
          have b3 := HB.out.trans (ho3.below HB.out.size (fun k e => by omega))
          have C4 := hid (hC3.later b4)
          have B4 := hid (b3.trans (b4.mono b3.size))
          have DC := hid (down_c C4.out)
          have BC := hid (busy_c C4.out)
          rw [show downB ⟨3, 1, 1, true, ⟨#[120]⟩, (m : Int) + 1, (N : Int)⟩ = decide (5 < (m : Int) + 1) from by simp [downB]] at DC
          clear hC3 ho3 b3 b4 TK
          by_cases h5 : 5 < (m : Int) + 1
          · omega
          · have h5d : decide (5 < (m : Int) + 1) = false := decide_eq_false h5
            rw [h5d] at DC
            go_wp2_with (first
              | (go_at_call 19; refine DC.out.mono ?_; rintro _ w5 ⟨rfl, h5'⟩; rw [h5'])
              | (go_at_call 20; refine BC.out.mono ?_; rintro _ w5 ⟨rfl, h5'⟩; rw [h5']))
            go_roundw
            case rel => exact ⟨N, N, m + 1, j + 1, rfl, rfl, rfl, by go_num, by go_num, by omega, by omega, by omega, by omega, by omega, C4.out, B4.out⟩
            case measure => simp [intOf]; omega
        · have hmb : ((m : Int) == 0) = false := by simp; omega
          by_cases h4 : 4 ≤ (N : Int) - l
          · have hT : tickB ⟨3, 1, 1, true, ⟨#[120]⟩, (m : Int), (l : Int)⟩ (N : Int) = true := by simp [tickB, dueB, h4]; omega
            have h4d : decide (4 ≤ (N : Int) - l) = true := decide_eq_true h4
            have TK := hid (tick_c HC.out WF.out (N : Int) (by omega) (by omega))
            rw [hT] at TK
            rw [show tickP ⟨3, 1, 1, true, ⟨#[120]⟩, (m : Int), (l : Int)⟩ (N : Int) = ⟨1, 3, 0, 1, 1, ⟨#[120]⟩⟩ from by unfold tickP; rw [hT]; rfl, show tickS ⟨3, 1, 1, true, ⟨#[120]⟩, (m : Int), (l : Int)⟩ (N : Int) = ⟨3, 1, 1, true, ⟨#[120]⟩, (m : Int) + 1, (N : Int)⟩ from by unfold tickS; rw [hT]; rfl, show Fr.val ⟨1, 3, 0, 1, 1, ⟨#[120]⟩⟩ = .agg #[.int .u8 1, .int .u8 3, .int .u8 0, .int .u32 1, .int .u32 1, .string ⟨#[120]⟩] from rfl] at TK
            clear hT
            refine TK.out.mono ?_
            rintro _ w3 ⟨rfl, hC3, ho3⟩
            have b4 : Below w3.heap.size w3 (w3.alloc (.cells #[.int .u8 1, .int .u8 3, .int .u8 0, .int .u32 1, .int .u32 1, .string ⟨#[120]⟩] 39)) := (Below.refl _ _).alloc (Nat.le_refl _) _
            have b3 := HB.out.trans (ho3.below HB.out.size (fun k e => by omega))
            have C4 := hid (hC3.later b4)
            have B4 := hid (b3.trans (b4.mono b3.size))
            have DC := hid (down_c C4.out)
            have BC := hid (busy_c C4.out)
            rw [show downB ⟨3, 1, 1, true, ⟨#[120]⟩, (m : Int) + 1, (N : Int)⟩ = decide (5 < (m : Int) + 1) from by simp [downB]] at DC
            clear hC3 ho3 b3 b4 TK
            by_cases h5 : 5 < (m : Int) + 1
            · rw [decide_eq_true h5] at DC
              go_wp2_with (first
                | (go_at_call 19; refine DC.out.mono ?_; rintro _ w5 ⟨rfl, h5'⟩; rw [h5'])
                | (go_at_call 20; refine BC.out.mono ?_; rintro _ w5 ⟨rfl, h5'⟩; rw [h5']))
              go_roundw
              case rel => exact ⟨N, N, m + 1, j + 1, rfl, rfl, rfl, by go_num, by go_num, by omega, by omega, by omega, by omega, by omega, C4.out, B4.out⟩
              case measure => simp [intOf]; omega
            · have h5d : decide (5 < (m : Int) + 1) = false := decide_eq_false h5
              rw [h5d] at DC
              go_wp2_with (first
                | (go_at_call 19; refine DC.out.mono ?_; rintro _ w5 ⟨rfl, h5'⟩; rw [h5'])
                | (go_at_call 20; refine BC.out.mono ?_; rintro _ w5 ⟨rfl, h5'⟩; rw [h5']))
              go_roundw
              case rel => exact ⟨N, N, m + 1, j + 1, rfl, rfl, rfl, by go_num, by go_num, by omega, by omega, by omega, by omega, by omega, C4.out, B4.out⟩
              case measure => simp [intOf]; omega
          · have hT : tickB ⟨3, 1, 1, true, ⟨#[120]⟩, (m : Int), (l : Int)⟩ (N : Int) = false := by simp [tickB, dueB, h4, hm1]
            have h4d : decide (4 ≤ (N : Int) - l) = false := decide_eq_false h4
            have TK := hid (tick_c HC.out WF.out (N : Int) (by omega) (by omega))
            rw [hT] at TK
            rw [show tickP ⟨3, 1, 1, true, ⟨#[120]⟩, (m : Int), (l : Int)⟩ (N : Int) = zpk from by unfold tickP; rw [hT]; rfl, show tickS ⟨3, 1, 1, true, ⟨#[120]⟩, (m : Int), (l : Int)⟩ (N : Int) = ⟨3, 1, 1, true, ⟨#[120]⟩, (m : Int), (l : Int)⟩ from by unfold tickS; rw [hT]; rfl, show Fr.val zpk = .agg #[.int .u8 0, .int .u8 0, .int .u8 0, .int .u32 0, .int .u32 0, .string ⟨#[]⟩] from rfl] at TK
            clear hT
            refine TK.out.mono ?_
            rintro _ w3 ⟨rfl, hC3, ho3⟩
            have b4 : Below w3.heap.size w3 (w3.alloc (.cells #[.int .u8 0, .int .u8 0, .int .u8 0, .int .u32 0, .int .u32 0, .string ⟨#[]⟩] 39)) := (Below.refl _ _).alloc (Nat.le_refl _) _
            have b3 := HB.out.trans (ho3.below HB.out.size (fun k e => by omega))
            have C4 := hid (hC3.later b4)
            have B4 := hid (b3.trans (b4.mono b3.size))
            have DC := hid (down_c C4.out)
            have BC := hid (busy_c C4.out)
            rw [show downB ⟨3, 1, 1, true, ⟨#[120]⟩, (m : Int), (l : Int)⟩ = decide (5 < (m : Int)) from by simp [downB]] at DC
            clear hC3 ho3 b3 b4 TK
            by_cases h5 : 5 < (m : Int)
            · rw [decide_eq_true h5] at DC
              go_wp2_with (first
                | (go_at_call 19; refine DC.out.mono ?_; rintro _ w5 ⟨rfl, h5'⟩; rw [h5'])
                | (go_at_call 20; refine BC.out.mono ?_; rintro _ w5 ⟨rfl, h5'⟩; rw [h5']))
              go_roundw
              case rel => exact ⟨N, l, m, j + 1, rfl, rfl, rfl, by go_num, by go_num, by omega, by omega, by omega, by omega, by omega, C4.out, B4.out⟩
              case measure => simp [intOf]; omega
            · have h5d : decide (5 < (m : Int)) = false := decide_eq_false h5
              rw [h5d] at DC
              go_wp2_with (first
                | (go_at_call 19; refine DC.out.mono ?_; rintro _ w5 ⟨rfl, h5'⟩; rw [h5'])
                | (go_at_call 20; refine BC.out.mono ?_; rintro _ w5 ⟨rfl, h5'⟩; rw [h5']))
              go_roundw
              case rel => exact ⟨N, l, m, j + 1, rfl, rfl, rfl, by go_num, by go_num, by omega, by omega, by omega, by omega, by omega, C4.out, B4.out⟩
              case measure => simp [intOf]; omega
      · have h1' : (j : Int) < (len : Int) := by omega
        have h2' : ¬ (j : Int) < 40 := by omega
        have h2d : decide ((j : Int) < 40) = false := decide_eq_false h2'
        go_wp2_with fail
        refine (rlive_c _).mono ?_
        rintro _ w5 ⟨rfl, hb5⟩
        go_wp2
        go_ret
        exact ⟨rfl, HB.out.trans (hb5.mono HB.out.size)⟩
    · have h1' : ¬ (j : Int) < (len : Int) := by omega
      have h1d : decide ((j : Int) < (len : Int)) = false := decide_eq_false h1'
      go_wp2_with fail
      refine (rlive_c _).mono ?_
      rintro _ w5 ⟨rfl, hb5⟩
      go_wp2
      go_ret
      exact ⟨rfl, HB.out.trans (hb5.mono HB.out.size)⟩
/-! ### The row of RpcWaits -/
theorem rpcWaits_own : ownKnob Try.prog.godebug = none := by kernel_rfl
theorem rpcWaits_laidOut : laidOutB Try.prog = true := by kernel_rfl
set_option maxRecDepth 100000 in
theorem rpcWaits_lifted (os : Os) (started : os.Started) (H : Type) (enc : TypeId × Value → H) :
    ReturnsInHanded {} Try.checked os 5 .any (Rows.rpcWaitsSpec.pre6 enc Try.prog Try.f5 Rows.rpcWaitsRow.domain false) (Rows.rpcWaitsSpec.post enc Try.prog Try.f5 false true false false) := by
  refine returnsInHanded_of_change (C := Try.checked) rpcWaits_own started (by kernel_rfl) Try.func5
    (ChangeSpec.witness6 (enc := enc) (C := Try.checked) false ⟨#[], #[.slice none 0 0], []⟩ 8 (by kernel_rfl) (by kernel_rfl) (by kernel_rfl) (by kernel_rfl)) ?_
  intro W base args ds gs before hval0 hW hcnd _
  have hval : ∀ (j : Nat) t v, Try.f5.params[j]? = some t → args[j]? = some v → Value.okWide Try.prog W .any base t v := hval0
  have hW' := hW
  obtain ⟨p, q, hA0, hV, rfl, hfz, hnd⟩ := hW
  have hA : DataW.TrodAll enc Try.prog W 0 (fun _ => true) true Try.f5.params.toList args.toList ds p := hA0
  rw [Try.params5] at hA hval
  obtain ⟨v0, vs0, d0, ds0, p0, q0, hargs, rfl, rfl, h0, r0⟩ := trodAll_cons hA
  obtain ⟨rfl, rfl, rfl⟩ := trodAll_nil r0
  obtain rfl : args = #[v0] := by cases args; simp_all
  obtain ⟨rfl, rfl⟩ := trodVars_none hV
  have k0 := h0
  have lt0 : ∀ x ∈ p0, x.block < W.heap.size := by obtain ⟨m, hm⟩ := k0; exact DataW.trod_lt m _ _ _ hm
  obtain ⟨a0, len0, cap0, rfl⟩ := okWide_slice Try.underlying28 (hval 0 28 v0 rfl rfl)
  obtain ⟨z0, w0, lc0⟩ := isB_of Try.underlying28 Try.underlying5 (by kernel_rfl) h0
  clear hA0 hval0
  refine (rpcWaits_walk a0 len0 cap0 z0 lc0 W w0).mono fun e W' ⟨he, bel⟩ => ?_
  subst he
  exact ⟨_, rfl, _, _, _, [], _, [], hW', trodAll_mk1 (shut_bool Try.underlying4 _), (trodAll_cons_mk (Below.trod rpcWaits_laidOut (by kernel_rfl) (of_decide_eq_true (by kernel_rfl)) k0 bel lt0) trodAll_mk0), rfl, bel.frame _, fun h => by cases h⟩
theorem rpcWaits_over : Rows.rpcWaitsRow.holds Try.pinned (OpenSpec.ofChange Rows.rpcWaitsSpec) :=
  OpenClaim.holds_of_wide 5 Try.f5 rfl rfl rfl rfl rfl rfl rfl ⟨rfl, rfl, rfl, rfl, rfl⟩ rfl rfl rfl rfl rfl (by kernel_rfl) Try.func5 (by kernel_rfl)
    (of_decide_eq_true (by kernel_rfl)) (by unfold Func.isWrapper; first | (rw [if_pos (by decide +kernel)]; kernel_rfl) | (rw [if_neg (by decide +kernel)]; exact ⟨rfl, rfl⟩))
    (fun os started H enc _ => rpcWaits_lifted os started H enc)
/-- The statement. -/
theorem rpcWaits_holds : Rows.RpcWaitsSaid := rpcWaits_over
#print axioms rpcWaits_holds

end Go.Proofs.Ytjgpolaogneoaaa
