/-
  live of the statements on calls.
-/
import Derived.Test.YtmoeljieafninaaRRp
namespace Go.Proofs.Ytmoeljieafninaa
open Go.RowKit Go.ChangeShapes Go.WideShapes Go.ChangeAt
set_option linter.unusedVariables false
set_option linter.unusedSimpArgs false
set_option maxRecDepth 100000
theorem wfc (cl ep num : Int) (uw : Bool) (b : ByteArray) (sn at' : Int) (h1 : 0 ≤ cl ∧ cl < 256) (h2 : 0 ≤ ep ∧ ep < 4294967296) (h3 : 0 ≤ num ∧ num < 4294967296) (h4 : 0 ≤ sn ∧ sn < 1000) (h5 : 0 ≤ at' ∧ at' < 18446744073709551616) (h6 : b.size ≤ 16384) : Cl.Wf ⟨cl, ep, num, uw, b, sn, at'⟩ := ⟨h1, h2, h3, h4, h5, h6⟩
theorem wft0 : ∀ i : Nat, ((fun _ => ⟨0, 0, 0, ⟨#[]⟩⟩ : Nat → Tk) i).Wf := fun _ => (show Tk.Wf ⟨0, 0, 0, ⟨#[]⟩⟩ from ⟨by decide, by decide, by decide, by decide⟩)
set_option maxHeartbeats 4000000 in
theorem rlive_c (w : World) : Calls Try.prog 7 #[] w fun e w' => e = .returned (.bool true) ∧ Below w.heap.size w w' := by
  go_enter Try.func7, Try.ntmps7
  go_wp2_with fail
  refine (newCaller_c 1 7 (by decide) (by decide) w).mono ?_
  rintro _ w1 ⟨rfl, hC1, hb1⟩
  go_wp2_with fail
  refine (newCallee_c w1).mono ?_
  rintro _ w2 ⟨rfl, hK2, hb2⟩
  have C2 := hid (hC1.later hb2)
  have K2 := hid hK2
  have B2 := hid (hb1.trans (hb2.mono hb1.size))
  have hl1 : w.heap.size < w1.heap.size := hC1.lt
  have hl2 : w1.heap.size < w2.heap.size := hK2.lt
  clear hC1 hK2 hb1 hb2
  go_wp2_with fail
  refine (call_c C2.out (wfc _ _ _ _ _ _ _ (by decide) (by decide) (by decide) (by decide) (by decide) (by decide)) ⟨#[120]⟩).mono ?_
  rintro _ w3 ⟨rfl, hC3, ho3⟩
  rw [show callE ⟨1, 7, 0, false, ⟨#[]⟩, 0, 0⟩ ⟨#[120]⟩ = 0 from rfl]
  rw [show callS ⟨1, 7, 0, false, ⟨#[]⟩, 0, 0⟩ ⟨#[120]⟩ = ⟨1, 7, 1, true, ⟨#[120]⟩, 0, 0⟩ from rfl] at hC3
  have C3 := hid hC3
  have K3 := hid (K2.out.out ho3 (by omega))
  have B3 := hid (B2.out.trans (ho3.below B2.out.size (fun k e => by omega)))
  have hl3 := ho3.size
  clear hC3 ho3 C2 K2 B2
  go_wp2_with fail
  refine (tick_c C3.out (wfc _ _ _ _ _ _ _ (by decide) (by decide) (by decide) (by decide) (by decide) (by decide)) 0 (by decide) (by decide)).mono ?_
  rintro _ w4 ⟨rfl, hC4, ho4⟩
  rw [show tickB ⟨1, 7, 1, true, ⟨#[120]⟩, 0, 0⟩ 0 = true from rfl, show Fr.val (tickP ⟨1, 7, 1, true, ⟨#[120]⟩, 0, 0⟩ 0) = .agg #[.int .u8 1, .int .u8 1, .int .u8 0, .int .u32 7, .int .u32 1, .string ⟨#[120]⟩] from rfl]
  rw [show tickS ⟨1, 7, 1, true, ⟨#[120]⟩, 0, 0⟩ 0 = ⟨1, 7, 1, true, ⟨#[120]⟩, 1, 0⟩ from rfl] at hC4
  have b5 : Below w4.heap.size w4 (w4.alloc (.cells #[.int .u8 1, .int .u8 1, .int .u8 0, .int .u32 7, .int .u32 1, .string ⟨#[120]⟩] 26)) := (Below.refl _ _).alloc (Nat.le_refl _) _
  have C5 := hid (hC4.later b5)
  have K5 := hid ((K3.out.out ho4 (by omega)).later b5)
  have b4 := B3.out.trans (ho4.below B3.out.size (fun k e => by omega))
  have B5 := hid (b4.trans (b5.mono b4.size))
  have hl4 := ho4.size
  clear hC4 ho4 C3 K3 B3 b4
  have KT := hid (ktake_c K5.out wft0 ⟨1, 1, 0, 7, 1, ⟨#[120]⟩⟩ ⟨by decide, by decide, by decide, by decide, by decide⟩ (by unfold maxLen; decide))
  rw [show Fr.val ⟨1, 1, 0, 7, 1, ⟨#[120]⟩⟩ = .agg #[.int .u8 1, .int .u8 1, .int .u8 0, .int .u32 7, .int .u32 1, .string ⟨#[120]⟩] from rfl] at KT
  have hl5 := b5.size
  clear b5
  go_wp2_with fail
  refine KT.out.mono ?_
  rintro _ w6 ⟨rfl, hK6, ho6⟩
  generalize (w4.alloc (.cells #[.int .u8 1, .int .u8 1, .int .u8 0, .int .u32 7, .int .u32 1, .string ⟨#[120]⟩] 26)) = W5 at *
  clear KT
  rw [show ktBody (fun _ => ⟨0, 0, 0, ⟨#[]⟩⟩) ⟨1, 1, 0, 7, 1, ⟨#[120]⟩⟩ = ⟨#[120]⟩ from rfl, show ktOk (fun _ => ⟨0, 0, 0, ⟨#[]⟩⟩) ⟨1, 1, 0, 7, 1, ⟨#[120]⟩⟩ = true from rfl, show Fr.val (ktPk (fun _ => ⟨0, 0, 0, ⟨#[]⟩⟩) ⟨1, 1, 0, 7, 1, ⟨#[120]⟩⟩) = .agg #[.int .u8 0, .int .u8 0, .int .u8 0, .int .u32 0, .int .u32 0, .string ⟨#[]⟩] from rfl, show ktIs (fun _ => ⟨0, 0, 0, ⟨#[]⟩⟩) ⟨1, 1, 0, 7, 1, ⟨#[120]⟩⟩ = false from rfl]
  rw [show ktS (fun _ => ⟨0, 0, 0, ⟨#[]⟩⟩) ⟨1, 1, 0, 7, 1, ⟨#[120]⟩⟩ = updK (fun _ => ⟨0, 0, 0, ⟨#[]⟩⟩) 1 ⟨1, 7, 1, ⟨#[]⟩⟩ from rfl] at hK6
  have b7 : Below w6.heap.size w6 (w6.alloc (.cells #[.int .u8 0, .int .u8 0, .int .u8 0, .int .u32 0, .int .u32 0, .string ⟨#[]⟩] 26)) := (Below.refl _ _).alloc (Nat.le_refl _) _
  have C7 := hid ((C5.out.out ho6 (by omega)).later b7)
  have K7 := hid (hK6.later b7)
  have b6 := B5.out.trans (ho6.below B5.out.size (fun k e => by omega))
  have B7 := hid (b6.trans (b7.mono b6.size))
  have hl6 := ho6.size
  have hl7 := b7.size
  clear hK6 ho6 C5 K5 B5 b6 b7
  have RP := hid (reply_c K7.out 1 ⟨#[120, 121]⟩)
  go_wp2_with fail
  refine RP.out.mono ?_
  rintro _ w8 ⟨rfl, hK8, ho8⟩
  generalize (w6.alloc (.cells #[.int .u8 0, .int .u8 0, .int .u8 0, .int .u32 0, .int .u32 0, .string ⟨#[]⟩] 26)) = W7 at *
  rw [show rpE (updK (fun _ => ⟨0, 0, 0, ⟨#[]⟩⟩) 1 ⟨1, 7, 1, ⟨#[]⟩⟩) 1 ⟨#[120, 121]⟩ = 0 from rfl, show Fr.val (rpPk (updK (fun _ => ⟨0, 0, 0, ⟨#[]⟩⟩) 1 ⟨1, 7, 1, ⟨#[]⟩⟩) 1 ⟨#[120, 121]⟩) = .agg #[.int .u8 2, .int .u8 0, .int .u8 1, .int .u32 7, .int .u32 1, .string ⟨#[120, 121]⟩] from rfl]
  have b9 : Below w8.heap.size w8 (w8.alloc (.cells #[.int .u8 2, .int .u8 0, .int .u8 1, .int .u32 7, .int .u32 1, .string ⟨#[120, 121]⟩] 26)) := (Below.refl _ _).alloc (Nat.le_refl _) _
  have C9 := hid ((C7.out.out ho8 (by omega)).later b9)
  have b8 := B7.out.trans (ho8.below B7.out.size (fun k e => by omega))
  have B9 := hid (b8.trans (b9.mono b8.size))
  clear hK8 ho8 C7 K7 B7 b8 b9 RP
  have TK := hid (take_c C9.out ⟨2, 0, 1, 7, 1, ⟨#[120, 121]⟩⟩ ⟨by decide, by decide, by decide, by decide, by decide⟩ (by unfold maxLen; decide))
  rw [show Fr.val ⟨2, 0, 1, 7, 1, ⟨#[120, 121]⟩⟩ = .agg #[.int .u8 2, .int .u8 0, .int .u8 1, .int .u32 7, .int .u32 1, .string ⟨#[120, 121]⟩] from rfl] at TK
  go_wp2_with fail
  refine TK.out.mono ?_
  rintro _ w10 ⟨rfl, hC10, ho10⟩
  generalize (w8.alloc (.cells #[.int .u8 2, .int .u8 0, .int .u8 1, .int .u32 7, .int .u32 1, .string ⟨#[120, 121]⟩] 26)) = W9 at *
  rw [show takeT ⟨1, 7, 1, true, ⟨#[120]⟩, 1, 0⟩ ⟨2, 0, 1, 7, 1, ⟨#[120, 121]⟩⟩ = ⟨#[120, 121]⟩ from rfl, show takeB ⟨1, 7, 1, true, ⟨#[120]⟩, 1, 0⟩ ⟨2, 0, 1, 7, 1, ⟨#[120, 121]⟩⟩ = true from rfl]
  rw [show takeS ⟨1, 7, 1, true, ⟨#[120]⟩, 1, 0⟩ ⟨2, 0, 1, 7, 1, ⟨#[120, 121]⟩⟩ = ⟨1, 7, 1, false, ⟨#[]⟩, 0, 0⟩ from rfl] at hC10
  have BC := hid (busy_c hC10)
  have B10 := hid (B9.out.trans (ho10.below B9.out.size (fun k e => by omega)))
  clear hC10 ho10 TK C9 B9
  go_wp2_with (go_at_call 21; refine BC.out.mono ?_; rintro _ w11 ⟨rfl, h11⟩; rw [h11])
  go_ret
  exact ⟨rfl, B10.out⟩
end Go.Proofs.Ytmoeljieafninaa
