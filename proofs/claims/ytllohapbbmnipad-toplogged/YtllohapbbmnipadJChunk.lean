/-
  slices.Chunk of a load, piece by piece: for every loop body that keeps the boxes.
-/
import Derived.Test.YtllohapbbmnipadJRows
import Derived.Test.YtllohapbbmnipadRg
namespace Go.Proofs.Ytllohapbbmnipad
open Go.RowKit Go.ChangeShapes Go.WideShapes Go.ChangeAt Go.Maps Go.Shelf
attribute [local go_sem] Oper.semAt_some
set_option linter.unusedVariables false
set_option linter.unusedSimpArgs false
set_option maxHeartbeats 2000000 in
theorem chunk1_in (l B b off len cap : Nat) (hlen : len ≤ 1000000) (hlc : len ≤ cap) (I : Nat → World → Prop)
    (hI : ∀ k W, I k W → W.heap[B]? = some (.cells #[.slice (some ⟨b, off, none⟩) len cap] 23 (0, 0)) ∧ W.heap[B + 1]? = some (.cells #[.int .i64 31] 3 (0, 0)))
    (hd : ∀ k W, I k W → I k W.drew)
    (hY : ∀ k W, 31 * k < len → I k W → YieldAt Fence.wide 1 Try.prog l #[.slice (some ⟨b, off + 31 * k, none⟩) (min 31 (len - 31 * k)) (min 31 (len - 31 * k))] W fun e W' => e = .returned (.bool true) ∧ I (k + 1) W')
    (W : World) (h0 : I 0 W) :
    CallsIn Fence.wide 2 Try.prog 100 #[.func (.yield l) #[] #[], .pointer (some ⟨B, 0, none⟩), .pointer (some ⟨B + 1, 0, none⟩)] W fun e W' => (∃ v, e = .returned v) ∧ I (Jo.many len) W' := by
  refine callsIn_of_wp Try.func100 rfl trivial ?_ rfl
  simp only [Try.ntmps100, List.size_toArray, List.length_cons, List.length_nil, Nat.reduceAdd, Nat.reduceSub, Array.replicate_succ, Array.replicate_zero, List.push_toArray, List.append_toArray, List.nil_append, List.cons_append]
  gi_wp2
  gi_loopw [4] (fun i wr => ∃ k : Nat, i = .int .i64 ((31 * k : Nat) : Int) ∧ k ≤ Jo.many len ∧ I k wr) (fun i _ => len + 31 - (intOf i).toNat)
  case atStart => exact ⟨0, rfl, Nat.zero_le _, h0⟩
  case round =>
    obtain ⟨k, rfl, hk, hIk⟩ := hrel
    obtain ⟨b1, b2⟩ := hI k wr hIk
    have c1 := cell_box b1
    have c2 := cell_box b2
    have hm := Jo.many_le len
    by_cases hlt : 31 * k < len
    · have i0 : ((31 * k : Nat) : Int) < len := by omega
      have i1 : (0 : Int) ≤ ((31 * k : Nat) : Int) := by omega
      have i2 : ((31 * k : Nat) : Int) ≤ len := by omega
      have i3 : ((31 * k : Nat) : Int) ≤ cap := by omega
      have i4 : (len : Int) ≤ cap := by omega
      have HK : Hid (k + 1 ≤ Jo.many len) := by show _ ≤ _; omega
      have HQ : Hid (31 * (k + 1) = 31 * k + 31) := by show _ = _; omega
      have hY' := hY k wr.drew hlt (hd _ _ hIk)
      by_cases hA : 31 ≤ len - 31 * k
      · rw [Nat.min_eq_left hA] at hY'
        obtain ⟨fn, tmps, assign, body, hy, hR⟩ := hY'
        have HR := hid hR
        have eA : (((31 * k : Nat) : Int) + 31).toNat - 31 * k = 31 := by omega
        have hA' : (31 : Int) ≤ ((len - 31 * k : Nat) : Int) := by omega
        have e3 : ((31 * k : Nat) : Int) + 31 ≤ len := by omega
        have e4 : ((31 * k : Nat) : Int) + 31 ≤ cap := by omega
        clear hR
        generalize 31 * k = q at *
        gi_wp2_with fail
        gi_region
        gi_wp2
        refine HR.out.mono ?_
        rintro _ W3 ⟨rfl, hI3⟩
        obtain ⟨d1, d2⟩ := hI _ _ hI3
        have f1 := cell_box d1
        have f2 := cell_box d2
        gi_wp2
        go_roundw
        case rel => exact ⟨k + 1, by rw [HQ.out]; go_num, HK.out, hI3⟩
        case measure => simp [intOf]; omega
      · rw [Nat.min_eq_right (by omega)] at hY'
        obtain ⟨fn, tmps, assign, body, hy, hR⟩ := hY'
        have HR := hid hR
        have eA : (((31 * k : Nat) : Int) + ((len - 31 * k : Nat) : Int)).toNat - 31 * k = len - 31 * k := by omega
        have hA' : ((len - 31 * k : Nat) : Int) < 31 := by omega
        have hA2 : ((len - 31 * k : Nat) : Int) ≤ 31 := by omega
        have e3 : ((31 * k : Nat) : Int) + ((len - 31 * k : Nat) : Int) ≤ len := by omega
        have e4 : ((31 * k : Nat) : Int) + ((len - 31 * k : Nat) : Int) ≤ cap := by omega
        clear hR
        generalize 31 * k = q at *
        gi_wp2_with fail
        gi_region
        gi_wp2
        refine HR.out.mono ?_
        rintro _ W3 ⟨rfl, hI3⟩
        obtain ⟨d1, d2⟩ := hI _ _ hI3
        have f1 := cell_box d1
        have f2 := cell_box d2
        gi_wp2
        go_roundw
        case rel => exact ⟨k + 1, by rw [HQ.out]; go_num, HK.out, hI3⟩
        case measure => simp [intOf]; omega
    · have ek : k = Jo.many len := by omega
      have i0 : ¬ ((31 * k : Nat) : Int) < len := by omega
      have HI : Hid (I (Jo.many len) wr) := ek ▸ hIk
      clear hIk ek hm hk hY hd hI
      generalize 31 * k = q at *
      gi_wp2
      exact body_end (by kernel_rfl) rfl ⟨⟨_, rfl⟩, HI.out⟩
end Go.Proofs.Ytllohapbbmnipad
