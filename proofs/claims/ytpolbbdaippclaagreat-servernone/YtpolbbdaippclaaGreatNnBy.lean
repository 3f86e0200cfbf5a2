/-
  What must be whatever is asked (live): a directory is made once, and shipped again.
-/
import Derived.Test.YtpolbbdaippclaaGreatNnBx
namespace Go.Proofs.YtpolbbdaippclaaGreat
open Go.RowKit Go.ChangeShapes Go.WideShapes Go.ChangeAt Go.Maps Go.Shelf
set_option linter.unusedVariables false
set_option linter.unusedSimpArgs false
set_option maxRecDepth 100000
def opA : Rec := ⟨2, 9, 1, ⟨#[97]⟩, 0, ⟨#[]⟩, 0, ⟨#[]⟩, 0⟩
theorem opA_step : stepB newL firstSs 1 0 opA 200 = true := by decide +kernel
theorem opA_right : rightF opA = true := by decide +kernel
theorem opA_len : (ApplyL newL opA).2.length = 2 := by decide +kernel
theorem opA_wf : opA.Wf := by
 refine ⟨?_, ?_, ?_, ?_, ?_, ?_, ?_, ?_, ?_⟩
 all_goals first | (show (_ : Int) ≤ _ ∧ _ < _; constructor <;> decide) | (show _ ≤ maxLen; decide)
set_option maxHeartbeats 4000000 in
theorem live12_c (w : World) : Calls Tryz.prog 6 #[] w fun e w' => e = .returned (.bool true) ∧ Below w.heap.size w w' := by
 have NC0 := new_c 200 w (by omega) (by omega)
 have NC := hid (show Calls Tryz.prog 8 #[.int .i64 200] w _ from NC0)
 clear NC0
 go_enter Tryz.func6, Tryz.ntmps6
 go_upto_region 2 with (first
   | (go_at_call 7; refine OC.out.mono ?_; rintro _ w2 ⟨p, rfl, hsv, hb2⟩; have SV := hid hsv; have B2 := hid (B1.out.trans (hb2.mono B1.out.size)); clear hsv hb2)
   | (go_at_call 8; refine NC.out.mono ?_; rintro _ w1 ⟨rfl, hd1, hb1, hz1⟩; have OC := hid (sopenI_c hd1 (by omega)); have B1 := hid hb1; clear hd1 hb1 hz1))
 go_upto_region 3 with fail
 have b3 := below_1 w2 (.cells #[.int .u8 2, .int .u32 9, .int .u32 1, .string ⟨#[97]⟩, .int .u32 0, .string ⟨#[]⟩, .int .u16 0, .string ⟨#[]⟩, .int .u64 0] 39)
 have g3 := heap_alloc_new w2 (.cells #[.int .u8 2, .int .u32 9, .int .u32 1, .string ⟨#[97]⟩, .int .u32 0, .string ⟨#[]⟩, .int .u16 0, .string ⟨#[]⟩, .int .u64 0] 39)
 have B3 := hid (B2.out.trans (b3.mono B2.out.size))
 have SV3 := SV.out.later b3
 have S1 : Hid (Calls Tryz.prog 9 #[.pointer (some ⟨p, 0, none⟩), .int .u8 1, .int .u32 1, .slice (some ⟨w2.heap.size, 0, none⟩) 1 1] (w2.alloc (.cells #[.int .u8 2, .int .u32 9, .int .u32 1, .string ⟨#[97]⟩, .int .u32 0, .string ⟨#[]⟩, .int .u16 0, .string ⟨#[]⟩, .int .u64 0] 39)) _) := hid (ship_mk SV3 w2.heap.size 1 opA g3 opA_wf opA_right rfl (by omega) (by omega) opA_step (by decide))
 have G3 := hid g3
 have len1 := opA_len
 generalize (ApplyL newL opA).2 = L1 at S1 len1
 generalize stepS newL firstSs 1 opA = SS1 at S1
 have LEN := hid len1
 clear g3 b3 SV3 len1
 have BZ := hid B1.out.size
 generalize (w2.alloc (.cells #[.int .u8 2, .int .u32 9, .int .u32 1, .string ⟨#[97]⟩, .int .u32 0, .string ⟨#[]⟩, .int .u16 0, .string ⟨#[]⟩, .int .u64 0] 39)) = V3 at *
 have PG : Hid (w2.heap.size ≠ p) := hid (by
   obtain ⟨j, a, b, ca, cb, l, _, _, hr, _⟩ := SV.out
   have := lt_blkR hr
   omega)
 go_upto_region 4 with (go_at_call 9; refine S1.out.mono ?_; rintro _ w4 ⟨v4, rfl, ho4, hs4, hk4, hb4⟩; obtain ⟨g4, c4, rfl, hg4, hc4⟩ := ho4.one; have SV4 := hid hs4; have B4 := hid (B3.out.trans (hb4.mono BZ.out)); have C4 := hid hc4; have G4 := hid (hk4 _ _ _ _ PG.out G3.out); clear ho4 hs4 hb4 hg4 hc4 hk4)
 have S2 : Hid (Calls Tryz.prog 9 #[.pointer (some ⟨p, 0, none⟩), .int .u8 1, .int .u32 1, .slice (some ⟨w2.heap.size, 0, none⟩) 1 1] w4 _) := hid (ship_late SV4.out w2.heap.size 1 opA G4.out opA_wf opA_right 1 (by omega) (by omega) (by omega))
 go_upto_region 5 with (go_at_call 9; refine S2.out.mono ?_; rintro _ w5 ⟨v5, rfl, ho5, hb5⟩; obtain ⟨g5, c5, rfl, hg5, hc5⟩ := ho5.one; have SV5 := hid (SV4.out.later hb5); have B5 := hid (B4.out.trans (hb5.mono B4.out.size)); have a5 : w5.cell? ⟨g5, 0, none⟩ = some (.int .i64 0) := hc5; have a4 : w5.cell? ⟨g4, 0, none⟩ = some (.int .i64 0) := cell_later hb5 C4.out; clear ho5 hb5 hg5 hc5)
 have AC := hid (by
   obtain ⟨j, a, b, ca, cb, l, _, _, hr, _⟩ := SV5.out
   exact applied1_c hr : Calls Tryz.prog 14 #[.pointer (some ⟨p, 0, none⟩), .int .u8 1] w5 fun e w' => e = .returned (.int .u32 (0 + 1)) ∧ w' = w5)
 simp only [Int.zero_add] at AC
 have SC0 := ssnap_c SV5.out
 rw [LEN.out] at SC0
 have SC := hid SC0
 clear SC0
 have FS := field_snap
 go_wp2_with (first
   | (go_at_call 10; refine SC.out.mono ?_; rintro _ w7 ⟨sa, sc, sb, sn, sd, rfl, hb7⟩; have B7 := hid (B5.out.trans (hb7.mono B5.out.size)); clear hb7)
   | (go_at_call 14; refine AC.out.mono ?_; rintro _ wz ⟨rfl, hwz⟩; rw [hwz]; clear hwz))
 go_ret
 exact ⟨rfl, B7.out⟩
end Go.Proofs.YtpolbbdaippclaaGreat
