/-
  For every deed and number: a nil server answers so, and so does Open of a disk that may not be.
-/
import Derived.Test.YtpolbbdaippclaaGreatNnBy
namespace Go.Proofs.YtpolbbdaippclaaGreat
open Go.ChangeShapes Go.WideShapes Go.ChangeAt Go.RowKit Go.Maps
open Go.ChangeMaps (open_string shut_string)
set_option linter.unusedVariables false
set_option linter.unusedSimpArgs false
set_option maxRecDepth 100000
theorem sl_trod {H : Type} {enc : TypeId × Value → H} {W : World} {t e : TypeId} {v : Value} {fuel : Nat} {x : DataW H × List MemPlace} {sp : Nat → Bool} {hd : Bool} {b0 : Nat} (ht : Tryz.prog.underlying t = some (.slice e)) (hf : DataW.trod enc Tryz.prog W b0 sp hd fuel t [v] = some x) : ∃ a l c, v = .slice a l c := by
 rcases DataW.trod_slice ht hf with ⟨hcs, _⟩ | ⟨y, l, c, elems, rest, n, _, hcs, _⟩
 · simp [Value.cells] at hcs
   exact ⟨_, _, _, hcs⟩
 · simp [Value.cells] at hcs
   exact ⟨_, _, _, hcs⟩
theorem open_deed12 {H : Type} {enc : TypeId × Value → H} {W : World} {r : Reach} {b0 : Nat} {v : Value} {d : DataW H} {p : List MemPlace}
   (hv : Value.okWide Tryz.prog W r b0 62 v) (h : DataW.Trod enc Tryz.prog W 0 (fun _ => true) true 62 v d p) :
   ∃ (k c f : Int) (on : Bool) (la : Option Addr) (ln lc : Nat) (st : Int) (ka : Option Addr) (kn kc : Nat) (s : ByteArray), v = .agg #[.int .i64 k, .int .u8 c, .int .u32 f, .bool on, .slice la ln lc, .int .i64 st, .slice ka kn kc, .string s] := by
 simp only [Value.okWide, Tryz.underlying62] at hv
 obtain ⟨cs, rfl, hsz, _⟩ := hv
 obtain ⟨fuel, hf⟩ := h
 obtain ⟨xs, m, _, _, hlc, hlen, hel⟩ := DataW.trod_struct Tryz.underlying62 hf
 have hct : Tryz.prog.cellsOf 62 = 8 := by kernel_rfl
 have e1 : Tryz.prog.cellsOf 3 = 1 := by kernel_rfl
 have e2 : Tryz.prog.cellsOf 5 = 1 := by kernel_rfl
 have e3 : Tryz.prog.cellsOf 31 = 1 := by kernel_rfl
 have e4 : Tryz.prog.cellsOf 4 = 1 := by kernel_rfl
 have e5 : Tryz.prog.cellsOf 40 = 1 := by kernel_rfl
 have e6 : Tryz.prog.cellsOf 60 = 1 := by kernel_rfl
 have e7 : Tryz.prog.cellsOf 9 = 1 := by kernel_rfl
 rw [hct] at hlc
 obtain ⟨cl⟩ := cs
 simp only [Value.cells] at hf hlc hel
 match cl, hlc with
 | [c0, c1, c2, c3, c4, c5, c6, c7], _ =>
   match xs, hlen with
   | [x0, x1, x2, x3, x4, x5, x6, x7], _ =>
     have h0 := hel 0 _ rfl
     have h1 := hel 1 _ rfl
     have h2 := hel 2 _ rfl
     have h3 := hel 3 _ rfl
     have h4 := hel 4 _ rfl
     have h5 := hel 5 _ rfl
     have h6 := hel 6 _ rfl
     have h7 := hel 7 _ rfl
     simp [e1, e2, e3, e4, e5, e6, e7] at h0 h1 h2 h3 h4 h5 h6 h7
     obtain ⟨n0, q0, _, w0⟩ := DataW.trod_int Tryz.underlying3 h0
     obtain ⟨n1, q1, _, w1⟩ := DataW.trod_int Tryz.underlying5 h1
     obtain ⟨n2, q2, _, w2⟩ := DataW.trod_int Tryz.underlying31 h2
     obtain ⟨n3, q3, _⟩ := DataW.trod_bool Tryz.underlying4 h3
     obtain ⟨a4, l4, k4, q4⟩ := sl_trod Tryz.underlying40 h4
     obtain ⟨n5, q5, _, w5⟩ := DataW.trod_int Tryz.underlying3 h5
     obtain ⟨a6, l6, k6, q6⟩ := sl_trod Tryz.underlying60 h6
     obtain ⟨s7, q7, _, w7⟩ := DataW.trod_string Tryz.underlying9 h7
     simp at q0 q1 q2 q3 q5 q7
     subst q0 q1 q2 q3 q4 q5 q6 q7
     exact ⟨n0, n1, n2, n3, a4, l4, k4, n5, a6, l6, k6, s7, rfl⟩
set_option maxHeartbeats 400000 in
theorem openJnil_c (w : World) : Calls Tryz.prog 18 #[.pointer none] w fun e w' => e = .returned (.pointer none) ∧ Below w.heap.size w w' := by
 go_enter Tryz.func18, Tryz.ntmps18
 go_wp2_with (go_at_call 35; refine (size_nil _).mono ?_; rintro _ w1 ⟨rfl, rfl⟩)
 go_ret
 exact ⟨rfl, Below.refl _ _⟩
theorem openNil_c (w : World) : Calls Tryz.prog 7 #[.pointer none] w fun e w' => e = .returned (.pointer none) ∧ Below w.heap.size w w' := sopen_none ⟨none, rfl⟩ (openJnil_c w)
set_option maxHeartbeats 400000 in
theorem nilSnap_c (w : World) : Calls Tryz.prog 10 #[.pointer none] w fun e w' => e = .returned (.agg #[.slice none 0 0, .slice none 0 0]) ∧ Below w.heap.size w w' := by
 have b0 := below_1 w (.cells #[.slice none 0 0, .slice none 0 0] 44)
 have g0 := heap_alloc_new w (.cells #[.slice none 0 0, .slice none 0 0] 44)
 have B0 := hid b0
 have G0 := hid g0
 clear b0
 go_enter Tryz.func10, Tryz.ntmps10
 go_upto_region 1 with fail
 generalize (w.alloc (.cells #[.slice none 0 0, .slice none 0 0] 44)) = V at *
 have r0 : V.cell? ⟨w.heap.size, 0, none⟩ = some (.slice none 0 0) := cell_of_row2 g0 0 rfl
 have r1 : V.cell? ⟨w.heap.size, 1, none⟩ = some (.slice none 0 0) := cell_of_row2 g0 1 rfl
 have fz : ∀ i, V.frozen? ⟨w.heap.size, i, none⟩ = false := fun i => by simp [World.frozen?, g0]
 clear g0
 go_wp2
 have Q9 := two_cells G0.out (.slice none 0 0) (.slice none 0 0)
 have B9 := hid ((B0.out.setCell (p := ⟨w.heap.size, 0, none⟩) (Nat.le_refl _) (.slice none 0 0)).setCell (p := ⟨w.heap.size, 1, none⟩) (Nat.le_refl _) (.slice none 0 0))
 clear r0 r1 fz
 generalize ((V.setCell ⟨w.heap.size, 0, none⟩ (.slice none 0 0)).setCell ⟨w.heap.size, 1, none⟩ (.slice none 0 0)) = W9 at *
 have r0 : W9.cell? ⟨w.heap.size, 0, none⟩ = some (.slice none 0 0) := cell_of_row2 Q9 0 rfl
 have r1 : W9.cell? ⟨w.heap.size, 1, none⟩ = some (.slice none 0 0) := cell_of_row2 Q9 1 rfl
 refine bodyPost_ret (v := .agg #[.slice none 0 0, .slice none 0 0]) (by simp [results, Tryz.results10, go_sem, r0, r1]) rfl ⟨rfl, B9.out⟩
theorem field_snap0 (w : World) : (Instr.field 44 (.agg #[.slice none 0 0, .slice none 0 0]) 0).run Tryz.prog w = .ok (.slice none 0 0) w := by kernel_rfl
set_option maxHeartbeats 4000000 in
theorem none_few (k c f : Int) (on : Bool) (la : Option Addr) (ln lc : Nat) (st : Int) (ka : Option Addr) (kn kc : Nat) (s : ByteArray) (n r : Int) (hn : 0 ≤ n ∧ n < 256) (hr : n.tmod 20 = r) (hl : r < 8 ∧ 0 ≤ r) (P : World → Option Addr → Prop)
   (NC : Hid (∀ W, Calls Tryz.prog 8 #[.int .i64 r] W fun e w' => ∃ d, e = .returned (.pointer d) ∧ P w' d ∧ Below W.heap.size W w'))
   (OC : Hid (∀ W d, P W d → Calls Tryz.prog 7 #[.pointer d] W fun e w' => ∃ p : Nat, e = .returned (.pointer none) ∧ Below W.heap.size W w')) (w : World) :
   Calls Tryz.prog 4 #[.agg #[.int .i64 k, .int .u8 c, .int .u32 f, .bool on, .slice la ln lc, .int .i64 st, .slice ka kn kc, .string s], .int .u8 n] w fun e w' => e = .returned (.bool true) ∧ Below w.heap.size w w' := by
 have b0 := below_1 w (.cells #[.int .i64 k, .int .u8 c, .int .u32 f, .bool on, .slice la ln lc, .int .i64 st, .slice ka kn kc, .string s] 62)
 have h0 := heap_alloc_new w (.cells #[.int .i64 k, .int .u8 c, .int .u32 f, .bool on, .slice la ln lc, .int .i64 st, .slice ka kn kc, .string s] 62)
 have B0 := hid b0
 have H0 := hid h0
 have r1 : IntKind.i64.wrap n = n := by rw [IntKind.wrap_i64]; omega
 have r3 : IntKind.i64.wrap r = r := by rw [IntKind.wrap_i64]; omega
 have r4 : IntKind.u8.wrap r = r := by rw [IntKind.wrap_u8]; omega
 clear b0
 go_enter Tryz.func4, Tryz.ntmps4
 go_upto_region 2 with fail
 generalize (w.alloc (.cells #[.int .i64 k, .int .u8 c, .int .u32 f, .bool on, .slice la ln lc, .int .i64 st, .slice ka kn kc, .string s] 62)) = V at *
 have a0 : V.cell? ⟨w.heap.size, 0, none⟩ = some (.int .i64 k) := cell_of_row2 h0 0 rfl; have a1 : V.cell? ⟨w.heap.size, 1, none⟩ = some (.int .u8 c) := cell_of_row2 h0 1 rfl; have a2 : V.cell? ⟨w.heap.size, 2, none⟩ = some (.int .u32 f) := cell_of_row2 h0 2 rfl; have a3 : V.cell? ⟨w.heap.size, 3, none⟩ = some (.bool on) := cell_of_row2 h0 3 rfl; have a4 : V.cell? ⟨w.heap.size, 4, none⟩ = some (.slice la ln lc) := cell_of_row2 h0 4 rfl; have a5 : V.cell? ⟨w.heap.size, 5, none⟩ = some (.int .i64 st) := cell_of_row2 h0 5 rfl; have a6 : V.cell? ⟨w.heap.size, 6, none⟩ = some (.slice ka kn kc) := cell_of_row2 h0 6 rfl; have a7 : V.cell? ⟨w.heap.size, 7, none⟩ = some (.string s) := cell_of_row2 h0 7 rfl;
 clear h0
 have FS0 := field_snap0
 go_wp2_with (first
   | (go_at_call 8; refine (NC.out _).mono ?_; rintro _ w8 ⟨d8, rfl, hp8, hb8⟩; have B8 := hid (B2.out.trans (hb8.mono B2.out.size)); have OC8 := hid (OC.out _ _ hp8); clear hb8 hp8)
   | (go_at_call 7; first
      | (refine OC8.out.mono ?_; rintro _ w9 ⟨p9, rfl, hb9⟩; have B9 := hid (B8.out.trans (hb9.mono B8.out.size)); clear hb9)
      | (refine (openNil_c _).mono ?_; rintro _ wz ⟨rfl, hbz⟩; have B2 := hid (B2.out.trans (hbz.mono B2.out.size)); clear hbz))
   | (go_at_call 17; refine (nilFork_c _).mono ?_; rintro _ wz ⟨rfl, hwz⟩; rw [hwz]; clear hwz)
   | (go_at_call 16; refine (nilDisk_c _).mono ?_; rintro _ wz ⟨rfl, hwz⟩; rw [hwz]; clear hwz)
   | (go_at_call 15; refine (nilServe_c _ _ _).mono ?_; rintro _ wz ⟨rfl, hwz⟩; rw [hwz]; clear hwz)
   | (go_at_call 12; refine (nilRejected_c _).mono ?_; rintro _ wz ⟨rfl, hwz⟩; rw [hwz]; clear hwz)
   | (go_at_call 14; refine (nilApplied_c _ _).mono ?_; rintro _ wz ⟨rfl, hwz⟩; rw [hwz]; clear hwz)
   | (go_at_call 10; refine (nilSnap_c _).mono ?_; rintro _ wz ⟨rfl, hbz⟩; have B2 := hid (B2.out.trans (hbz.mono B2.out.size)); have H2 := hid ((hbz.block _ (lt_blkR H2.out)).trans H2.out); have d0 : wz.cell? ⟨w.heap.size, 0, none⟩ = some (.int .i64 k) := cell_of_row2 H2.out 0 rfl; have d1 : wz.cell? ⟨w.heap.size, 1, none⟩ = some (.int .u8 c) := cell_of_row2 H2.out 1 rfl; have d2 : wz.cell? ⟨w.heap.size, 2, none⟩ = some (.int .u32 f) := cell_of_row2 H2.out 2 rfl; have d3 : wz.cell? ⟨w.heap.size, 3, none⟩ = some (.bool on) := cell_of_row2 H2.out 3 rfl; have d4 : wz.cell? ⟨w.heap.size, 4, none⟩ = some (.slice la ln lc) := cell_of_row2 H2.out 4 rfl; have d5 : wz.cell? ⟨w.heap.size, 5, none⟩ = some (.int .i64 st) := cell_of_row2 H2.out 5 rfl; have d6 : wz.cell? ⟨w.heap.size, 6, none⟩ = some (.slice ka kn kc) := cell_of_row2 H2.out 6 rfl; have d7 : wz.cell? ⟨w.heap.size, 7, none⟩ = some (.string s) := cell_of_row2 H2.out 7 rfl; clear hbz)
   | (go_at_call 13; refine (nilTorn_c _ _ _ _ _ _).mono ?_; rintro _ wz ⟨rfl, hwz⟩; rw [hwz]; clear hwz)
   | (go_at_call 6; refine (live12_c _).mono ?_; rintro _ w2 ⟨rfl, hb2⟩; have B2 := hid (B0.out.trans (hb2.mono B0.out.size)); have H2 := hid ((hb2.block _ (lt_blkR H0.out)).trans H0.out); have b0 : w2.cell? ⟨w.heap.size, 0, none⟩ = some (.int .i64 k) := cell_of_row2 H2.out 0 rfl; have b1 : w2.cell? ⟨w.heap.size, 1, none⟩ = some (.int .u8 c) := cell_of_row2 H2.out 1 rfl; have b2 : w2.cell? ⟨w.heap.size, 2, none⟩ = some (.int .u32 f) := cell_of_row2 H2.out 2 rfl; have b3 : w2.cell? ⟨w.heap.size, 3, none⟩ = some (.bool on) := cell_of_row2 H2.out 3 rfl; have b4 : w2.cell? ⟨w.heap.size, 4, none⟩ = some (.slice la ln lc) := cell_of_row2 H2.out 4 rfl; have b5 : w2.cell? ⟨w.heap.size, 5, none⟩ = some (.int .i64 st) := cell_of_row2 H2.out 5 rfl; have b6 : w2.cell? ⟨w.heap.size, 6, none⟩ = some (.slice ka kn kc) := cell_of_row2 H2.out 6 rfl; have b7 : w2.cell? ⟨w.heap.size, 7, none⟩ = some (.string s) := cell_of_row2 H2.out 7 rfl; clear hb2)
   | (go_at_call 9; refine (nilShip_c _ _ _ _).mono ?_; rintro _ wz ⟨rfl, hwz⟩; rw [hwz]; clear hwz))
 go_ret
 exact ⟨by first | rfl | exact ret_bool (by simp; omega), B9.out⟩
set_option maxHeartbeats 4000000 in
theorem none_more (k c f : Int) (on : Bool) (la : Option Addr) (ln lc : Nat) (st : Int) (ka : Option Addr) (kn kc : Nat) (s : ByteArray) (n r : Int) (hn : 0 ≤ n ∧ n < 256) (hr : n.tmod 20 = r) (hl : 8 ≤ r ∧ r < 20) (P : World → Option Addr → Prop)
   (NC : Hid (∀ W, Calls Tryz.prog 8 #[.int .i64 r] W fun e w' => ∃ d, e = .returned (.pointer d) ∧ P w' d ∧ Below W.heap.size W w'))
   (OC : Hid (∀ W d, P W d → Calls Tryz.prog 7 #[.pointer d] W fun e w' => ∃ p : Nat, e = .returned (.pointer (some ⟨p, 0, none⟩)) ∧ Below W.heap.size W w')) (w : World) :
   Calls Tryz.prog 4 #[.agg #[.int .i64 k, .int .u8 c, .int .u32 f, .bool on, .slice la ln lc, .int .i64 st, .slice ka kn kc, .string s], .int .u8 n] w fun e w' => e = .returned (.bool true) ∧ Below w.heap.size w w' := by
 have b0 := below_1 w (.cells #[.int .i64 k, .int .u8 c, .int .u32 f, .bool on, .slice la ln lc, .int .i64 st, .slice ka kn kc, .string s] 62)
 have h0 := heap_alloc_new w (.cells #[.int .i64 k, .int .u8 c, .int .u32 f, .bool on, .slice la ln lc, .int .i64 st, .slice ka kn kc, .string s] 62)
 have B0 := hid b0
 have H0 := hid h0
 have r1 : IntKind.i64.wrap n = n := by rw [IntKind.wrap_i64]; omega
 have r3 : IntKind.i64.wrap r = r := by rw [IntKind.wrap_i64]; omega
 have r4 : IntKind.u8.wrap r = r := by rw [IntKind.wrap_u8]; omega
 clear b0
 go_enter Tryz.func4, Tryz.ntmps4
 go_upto_region 2 with fail
 generalize (w.alloc (.cells #[.int .i64 k, .int .u8 c, .int .u32 f, .bool on, .slice la ln lc, .int .i64 st, .slice ka kn kc, .string s] 62)) = V at *
 have a0 : V.cell? ⟨w.heap.size, 0, none⟩ = some (.int .i64 k) := cell_of_row2 h0 0 rfl; have a1 : V.cell? ⟨w.heap.size, 1, none⟩ = some (.int .u8 c) := cell_of_row2 h0 1 rfl; have a2 : V.cell? ⟨w.heap.size, 2, none⟩ = some (.int .u32 f) := cell_of_row2 h0 2 rfl; have a3 : V.cell? ⟨w.heap.size, 3, none⟩ = some (.bool on) := cell_of_row2 h0 3 rfl; have a4 : V.cell? ⟨w.heap.size, 4, none⟩ = some (.slice la ln lc) := cell_of_row2 h0 4 rfl; have a5 : V.cell? ⟨w.heap.size, 5, none⟩ = some (.int .i64 st) := cell_of_row2 h0 5 rfl; have a6 : V.cell? ⟨w.heap.size, 6, none⟩ = some (.slice ka kn kc) := cell_of_row2 h0 6 rfl; have a7 : V.cell? ⟨w.heap.size, 7, none⟩ = some (.string s) := cell_of_row2 h0 7 rfl;
 clear h0
 have FS0 := field_snap0
 go_wp2_with (first
   | (go_at_call 8; refine (NC.out _).mono ?_; rintro _ w8 ⟨d8, rfl, hp8, hb8⟩; have B8 := hid (B2.out.trans (hb8.mono B2.out.size)); have OC8 := hid (OC.out _ _ hp8); clear hb8 hp8)
   | (go_at_call 7; first
      | (refine OC8.out.mono ?_; rintro _ w9 ⟨p9, rfl, hb9⟩; have B9 := hid (B8.out.trans (hb9.mono B8.out.size)); clear hb9)
      | (refine (openNil_c _).mono ?_; rintro _ wz ⟨rfl, hbz⟩; have B2 := hid (B2.out.trans (hbz.mono B2.out.size)); clear hbz))
   | (go_at_call 17; refine (nilFork_c _).mono ?_; rintro _ wz ⟨rfl, hwz⟩; rw [hwz]; clear hwz)
   | (go_at_call 16; refine (nilDisk_c _).mono ?_; rintro _ wz ⟨rfl, hwz⟩; rw [hwz]; clear hwz)
   | (go_at_call 15; refine (nilServe_c _ _ _).mono ?_; rintro _ wz ⟨rfl, hwz⟩; rw [hwz]; clear hwz)
   | (go_at_call 12; refine (nilRejected_c _).mono ?_; rintro _ wz ⟨rfl, hwz⟩; rw [hwz]; clear hwz)
   | (go_at_call 14; refine (nilApplied_c _ _).mono ?_; rintro _ wz ⟨rfl, hwz⟩; rw [hwz]; clear hwz)
   | (go_at_call 10; refine (nilSnap_c _).mono ?_; rintro _ wz ⟨rfl, hbz⟩; have B2 := hid (B2.out.trans (hbz.mono B2.out.size)); have H2 := hid ((hbz.block _ (lt_blkR H2.out)).trans H2.out); have d0 : wz.cell? ⟨w.heap.size, 0, none⟩ = some (.int .i64 k) := cell_of_row2 H2.out 0 rfl; have d1 : wz.cell? ⟨w.heap.size, 1, none⟩ = some (.int .u8 c) := cell_of_row2 H2.out 1 rfl; have d2 : wz.cell? ⟨w.heap.size, 2, none⟩ = some (.int .u32 f) := cell_of_row2 H2.out 2 rfl; have d3 : wz.cell? ⟨w.heap.size, 3, none⟩ = some (.bool on) := cell_of_row2 H2.out 3 rfl; have d4 : wz.cell? ⟨w.heap.size, 4, none⟩ = some (.slice la ln lc) := cell_of_row2 H2.out 4 rfl; have d5 : wz.cell? ⟨w.heap.size, 5, none⟩ = some (.int .i64 st) := cell_of_row2 H2.out 5 rfl; have d6 : wz.cell? ⟨w.heap.size, 6, none⟩ = some (.slice ka kn kc) := cell_of_row2 H2.out 6 rfl; have d7 : wz.cell? ⟨w.heap.size, 7, none⟩ = some (.string s) := cell_of_row2 H2.out 7 rfl; clear hbz)
   | (go_at_call 13; refine (nilTorn_c _ _ _ _ _ _).mono ?_; rintro _ wz ⟨rfl, hwz⟩; rw [hwz]; clear hwz)
   | (go_at_call 6; refine (live12_c _).mono ?_; rintro _ w2 ⟨rfl, hb2⟩; have B2 := hid (B0.out.trans (hb2.mono B0.out.size)); have H2 := hid ((hb2.block _ (lt_blkR H0.out)).trans H0.out); have b0 : w2.cell? ⟨w.heap.size, 0, none⟩ = some (.int .i64 k) := cell_of_row2 H2.out 0 rfl; have b1 : w2.cell? ⟨w.heap.size, 1, none⟩ = some (.int .u8 c) := cell_of_row2 H2.out 1 rfl; have b2 : w2.cell? ⟨w.heap.size, 2, none⟩ = some (.int .u32 f) := cell_of_row2 H2.out 2 rfl; have b3 : w2.cell? ⟨w.heap.size, 3, none⟩ = some (.bool on) := cell_of_row2 H2.out 3 rfl; have b4 : w2.cell? ⟨w.heap.size, 4, none⟩ = some (.slice la ln lc) := cell_of_row2 H2.out 4 rfl; have b5 : w2.cell? ⟨w.heap.size, 5, none⟩ = some (.int .i64 st) := cell_of_row2 H2.out 5 rfl; have b6 : w2.cell? ⟨w.heap.size, 6, none⟩ = some (.slice ka kn kc) := cell_of_row2 H2.out 6 rfl; have b7 : w2.cell? ⟨w.heap.size, 7, none⟩ = some (.string s) := cell_of_row2 H2.out 7 rfl; clear hb2)
   | (go_at_call 9; refine (nilShip_c _ _ _ _).mono ?_; rintro _ wz ⟨rfl, hwz⟩; rw [hwz]; clear hwz))
 go_ret
 exact ⟨by first | rfl | exact ret_bool (by simp; omega), B9.out⟩
theorem serverNone_walk (k c f : Int) (on : Bool) (la : Option Addr) (ln lc : Nat) (st : Int) (ka : Option Addr) (kn kc : Nat) (s : ByteArray) (n : Int) (wn : (Lit.int .u8 n).wf = true) (w : World) :
   Calls Tryz.prog 4 #[.agg #[.int .i64 k, .int .u8 c, .int .u32 f, .bool on, .slice la ln lc, .int .i64 st, .slice ka kn kc, .string s], .int .u8 n] w fun e w' => e = .returned (.bool true) ∧ Below w.heap.size w w' := by
 have hn := bd_u8 wn
 obtain ⟨r, hr⟩ : ∃ r, n.tmod 20 = r := ⟨_, rfl⟩
 have hr2 : r = n % 20 := by rw [← hr]; exact Int.tmod_eq_emod_of_nonneg (by omega)
 have hr0 : 0 ≤ r ∧ r < 20 := by omega
 by_cases h0 : r < 1
 · refine none_few k c f on la ln lc st ka kn kc s n r (by omega) hr (by omega) (fun _ d => d = none) (hid fun W => ?_) (hid fun W d hd => ?_) w
   · exact (new_none r W (.inl h0)).mono fun e w' ⟨h1, h2⟩ => ⟨none, h1, rfl, by rw [h2]; exact Below.refl _ _⟩
   · subst hd
     exact (openNil_c W).mono fun e w' ⟨h1, h2⟩ => ⟨0, h1, h2⟩
 · have hN : r = ((r.toNat : Nat) : Int) := by omega
   have NC : Hid (∀ W, Calls Tryz.prog 8 #[.int .i64 r] W fun e w' => ∃ d, e = .returned (.pointer d) ∧ (∃ dd b1 b2, d = some ⟨dd, 0, none⟩ ∧ IsD w' dd b1 b2 r.toNat (fun _ => zsec) (fun _ => none)) ∧ Below W.heap.size W w') := hid fun W => by
     have := new_c r.toNat W (by omega) (by omega)
     rw [← hN] at this
     exact this.mono fun e w' ⟨h1, h2, h3, _⟩ => ⟨_, h1, ⟨_, _, _, rfl, h2⟩, h3⟩
   by_cases h8 : r < 8
   · refine none_few k c f on la ln lc st ka kn kc s n r (by omega) hr (by omega) _ NC (hid fun W d hd => ?_) w
     obtain ⟨dd, b1, b2, rfl, hD⟩ := hd
     exact (sopen_none ⟨_, rfl⟩ ((open_few hD (by omega)).mono fun e w' ⟨h1, h2⟩ => ⟨h1, by rw [h2]; exact Below.refl _ _⟩)).mono fun e w' ⟨h1, h2⟩ => ⟨0, h1, h2⟩
   · refine none_more k c f on la ln lc st ka kn kc s n r (by omega) hr (by omega) _ NC (hid fun W d hd => ?_) w
     obtain ⟨dd, b1, b2, rfl, hD⟩ := hd
     exact (sopenI_c hD (by omega)).mono fun e w' ⟨p, h1, _, h2⟩ => ⟨p, h1, h2⟩
/-! ### The row of ServerNone -/
theorem serverNone_own : ownKnob Tryz.prog.godebug = none := by kernel_rfl
theorem serverNone_laidOut : laidOutB Tryz.prog = true := by kernel_rfl
set_option maxRecDepth 100000 in
theorem serverNone_lifted (os : Os) (started : os.Started) (H : Type) (enc : TypeId × Value → H) :
   ReturnsInHanded {} Tryz.checked os 4 .any (Rows.serverNoneSpec.pre6 enc Tryz.prog Tryz.f4 Rows.serverNoneRow.domain false) (Rows.serverNoneSpec.post enc Tryz.prog Tryz.f4 false true false false) := by
 refine returnsInHanded_of_change (C := Tryz.checked) serverNone_own started (by kernel_rfl) Tryz.func4
   (ChangeSpec.witness6 (enc := enc) (C := Tryz.checked) false ⟨#[], #[.agg #[.int .i64 0, .int .u8 0, .int .u32 0, .bool false, .slice none 0 0, .int .i64 0, .slice none 0 0, .string ByteArray.empty], .int .u8 0], []⟩ 8 (by kernel_rfl) (by kernel_rfl) (by kernel_rfl) (by kernel_rfl)) ?_
 intro W base args ds gs before hval0 hW hcnd _
 have hval : ∀ (j : Nat) t v, Tryz.f4.params[j]? = some t → args[j]? = some v → Value.okWide Tryz.prog W .any base t v := hval0
 have hW' := hW
 obtain ⟨p, q, hA0, hV, rfl, hfz, hnd⟩ := hW
 have hA : DataW.TrodAll enc Tryz.prog W 0 (fun _ => true) true Tryz.f4.params.toList args.toList ds p := hA0
 rw [Tryz.params4] at hA hval
 obtain ⟨v0, vs0, d0, ds0, p0, q0, hargs, rfl, rfl, h0, r0⟩ := trodAll_cons hA
 obtain ⟨v1, vs1, d1, ds1, p1, q1, rfl, rfl, rfl, h1, r1⟩ := trodAll_cons r0
 obtain ⟨rfl, rfl, rfl⟩ := trodAll_nil r1
 obtain rfl : args = #[v0, v1] := by cases args; simp_all
 obtain ⟨rfl, rfl⟩ := trodVars_none hV
 have k0 := h0
 have lt0 : ∀ x ∈ p0, x.block < W.heap.size := by obtain ⟨m, hm⟩ := k0; exact DataW.trod_lt m _ _ _ hm
 obtain ⟨fk0, fc0, ff0, fo0, fla0, fln0, flc0, fst0, fka0, fkn0, fkc0, fs0, rfl⟩ := open_deed12 (hval 0 62 v0 rfl rfl) h0
 obtain ⟨a1, rfl, rfl, rfl, w1⟩ := open_int Tryz.underlying5 (hval 1 5 v1 rfl rfl) h1
 clear hA0 hval0
 refine (serverNone_walk fk0 fc0 ff0 fo0 fla0 fln0 flc0 fst0 fka0 fkn0 fkc0 fs0 a1 w1 W).mono fun e W' ⟨he, bel⟩ => ?_
 subst he
 exact ⟨_, rfl, _, _, _, [], _, [], hW', trodAll_mk1 (shut_bool Tryz.underlying4 _), (trodAll_cons_mk (Below.trod serverNone_laidOut (by kernel_rfl) (of_decide_eq_true (by kernel_rfl)) k0 bel lt0) (trodAll_cons_mk (shut_int Tryz.underlying5 w1) trodAll_mk0)), rfl, bel.frame _, fun h => by cases h⟩
theorem serverNone_over : Rows.serverNoneRow.holds Tryz.pinned (OpenSpec.ofChange Rows.serverNoneSpec) :=
 OpenClaim.holds_of_wide 4 Tryz.f4 rfl rfl rfl rfl rfl rfl rfl ⟨rfl, rfl, rfl, rfl, rfl⟩ rfl rfl rfl rfl rfl (by kernel_rfl) Tryz.func4 (by kernel_rfl)
   (of_decide_eq_true (by kernel_rfl)) (by unfold Func.isWrapper; first | (rw [if_pos (by decide +kernel)]; kernel_rfl) | (rw [if_neg (by decide +kernel)]; exact ⟨rfl, rfl⟩))
   (fun os started H enc _ => serverNone_lifted os started H enc)
theorem serverNone_holds : Rows.ServerNoneSaid := serverNone_over
#print axioms serverNone_holds
end Go.Proofs.YtpolbbdaippclaaGreat
