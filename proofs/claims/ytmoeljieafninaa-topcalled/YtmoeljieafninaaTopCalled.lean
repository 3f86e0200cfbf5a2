/-
  For every number of times and every order: a call that is sent again and again is done once, and its answer is the first one.
-/
import Derived.Test.YtmoeljieafninaaRRw
import Derived.Deep.OwnRows
namespace Go.Proofs.Ytmoeljieafninaa
open Go.RowKit Go.ChangeShapes Go.WideShapes Go.ChangeAt
open Go.ChangeMaps (open_string shut_string)
set_option linter.unusedVariables false
set_option linter.unusedSimpArgs false
set_option maxRecDepth 100000
abbrev bDo : ByteArray := ⟨#[100, 111, 32, 105, 116]⟩
abbrev bDone : ByteArray := ⟨#[100, 111, 110, 101, 32, 49]⟩
abbrev qq : Fr.Pk := ⟨1, 1, 0, 1, 1, bDo⟩
abbrev aa : Fr.Pk := ⟨2, 0, 1, 1, 1, bDone⟩
abbrev K0o : Nat → Tk := fun _ => ⟨0, 0, 0, ⟨#[]⟩⟩
abbrev K1o : Nat → Tk := updK K0o 1 ⟨1, 1, 1, ⟨#[]⟩⟩
abbrev K2o : Nat → Tk := updK K1o 1 ⟨2, 1, 1, bDone⟩
abbrev cB (j : Nat) : Cl := ⟨1, 1, 1, true, bDo, (j : Int), ((j - 1 : Nat) : Int) * 5⟩
abbrev cE : Cl := ⟨1, 1, 1, false, ⟨#[]⟩, 0, 0⟩
theorem ou_under {S : Nat → Prop} {a b c : World} (h : Ou S a b) (k : Below a.heap.size b c) : Ou S a c :=
  ⟨k.os.trans h.os, k.tape.trans h.tape, k.output.trans h.output, Nat.le_trans h.size k.size, fun i hi hS => (k.block i hi).trans (h.block i hi hS)⟩
theorem wfk (st ep num : Int) (b : ByteArray) (h1 : 0 ≤ st ∧ st ≤ 2) (h2 : 0 ≤ ep ∧ ep < 4294967296) (h3 : 0 ≤ num ∧ num < 4294967296) (h4 : b.size ≤ 16384) : Tk.Wf ⟨st, ep, num, b⟩ := ⟨h1, h2, h3, h4⟩
theorem k0_wf : ∀ i, (K0o i).Wf := fun i => wfk _ _ _ _ (by decide) (by decide) (by decide) (by decide)
theorem k1_wf : ∀ i, (K1o i).Wf := fun i => by
  unfold K1o updK
  split
  · exact wfk _ _ _ _ (by decide) (by decide) (by decide) (by decide)
  · exact k0_wf i
theorem k2_wf : ∀ i, (K2o i).Wf := fun i => by
  unfold K2o updK
  split
  · exact wfk _ _ _ _ (by decide) (by decide) (by decide) (by decide)
  · exact k1_wf i
theorem qq_wf : Fr.Wf qq := ⟨(show (0 : Int) ≤ 1 ∧ (1 : Int) < 256 by decide), (show (0 : Int) ≤ 1 ∧ (1 : Int) < 256 by decide), (show (0 : Int) ≤ 0 ∧ (0 : Int) < 256 by decide), (show (0 : Int) ≤ 1 ∧ (1 : Int) < 4294967296 by decide), (show (0 : Int) ≤ 1 ∧ (1 : Int) < 4294967296 by decide)⟩
theorem aa_wf : Fr.Wf aa := ⟨(show (0 : Int) ≤ 2 ∧ (2 : Int) < 256 by decide), (show (0 : Int) ≤ 0 ∧ (0 : Int) < 256 by decide), (show (0 : Int) ≤ 1 ∧ (1 : Int) < 256 by decide), (show (0 : Int) ≤ 1 ∧ (1 : Int) < 4294967296 by decide), (show (0 : Int) ≤ 1 ∧ (1 : Int) < 4294967296 by decide)⟩
theorem conv_one (W : World) (H : Nat) (hH : W.heap.size = H) : (convert 22 9 (.slice (some ⟨H, 0, none⟩) 1 1)).run Try.prog (W.alloc (.cells #[.int .u8 49] 5)) = .ok (.string ⟨#[49]⟩) (W.alloc (.cells #[.int .u8 49] 5)) := by
  subst hH
  have h := run_convert_bytes_arg (P := Try.prog) (W.alloc (.cells #[.int .u8 49] 5)) 22 5 Try.underlying22 Try.underlying5 W.heap.size 0 1 1 [49] rfl (fun i hi => by
    obtain rfl : i = 0 := by omega
    have key : ∀ V : World, V.heap[W.heap.size]? = some (.cells #[.int .u8 49] 5) → V.cell? ⟨W.heap.size, 0 + 0, none⟩ = some (.int .u8 49) := fun V h => by simp [World.cell?, h]
    exact key _ (heap_alloc_new W _)) 9 Try.underlying9
  exact h
theorem tc_call {w : World} {g : Nat} (hC : IsC 80 w g ⟨1, 1, 0, false, ⟨#[]⟩, 0, 0⟩) :
    Calls Try.prog 13 #[pC g, .string bDo] w fun e w' => e = .returned (.int .i64 0) ∧ IsC 80 w' g (cB 0) ∧ Ou (fun k => k = g) w w' := by
  have e1 : callE ⟨1, 1, 0, false, ⟨#[]⟩, 0, 0⟩ bDo = 0 := by decide
  refine (call_c hC (wfc _ _ _ _ _ _ _ (by decide) (by decide) (by decide) (by decide) (by decide) (by decide)) bDo).mono ?_
  rintro x w' ⟨q1, q3, q4⟩
  unfold callS at q3
  rw [e1] at q1
  rw [e1, if_pos rfl] at q3
  exact ⟨q1, q3, q4⟩
theorem tc_tick {w : World} {g : Nat} (j : Nat) (hj : j ≤ 6) (hC : IsC 80 w g (cB j)) :
    Calls Try.prog 14 #[pC g, .int .u64 ((j : Int) * 5)] w fun e w' => e = .returned (.tuple #[.agg #[.int .u8 1, .int .u8 1, .int .u8 0, .int .u32 1, .int .u32 1, .string bDo], .bool true]) ∧ IsC 80 w' g (cB (j + 1)) ∧ Ou (fun k => k = g) w w' := by
  have e1 : tickB (cB j) ((j : Int) * 5) = true := by
    unfold tickB dueB
    simp only [Bool.true_and, Bool.or_eq_true, Bool.and_eq_true, decide_eq_true_eq]
    omega
  refine (tick_c hC (wfc _ _ _ _ _ _ _ (by decide) (by decide) (by decide) (by omega) (by omega) (by decide)) ((j : Int) * 5) (by omega) (by omega)).mono ?_
  rintro x w' ⟨q1, q2, q3⟩
  unfold tickP at q1
  unfold tickS at q2
  rw [e1, if_pos rfl] at q1
  rw [e1, if_pos rfl] at q2
  have e : ((j + 1 : Nat) : Int) = (j : Int) + 1 := by omega
  have e2 : (j + 1 - 1 : Nat) = j := by omega
  exact ⟨q1, by show IsC 80 w' g ⟨1, 1, 1, true, bDo, ((j + 1 : Nat) : Int), ((j + 1 - 1 : Nat) : Int) * 5⟩; rw [e, e2]; exact q2, q3⟩
theorem tc_take0 {w : World} {g : Nat} (hK : IsK w g K0o) : Calls Try.prog 9 #[pC g, .agg #[.int .u8 1, .int .u8 1, .int .u8 0, .int .u32 1, .int .u32 1, .string bDo]] w fun e w' => e = .returned (.tuple #[.string bDo, .bool true, .agg #[.int .u8 0, .int .u8 0, .int .u8 0, .int .u32 0, .int .u32 0, .string ⟨#[]⟩], .bool false]) ∧ IsK w' g K1o ∧ Ou (fun k => k = g) w w' := by
  have e1 : ktOk K0o qq = true := by decide
  have e2 : ktIs K0o qq = false := by decide
  refine (ktake_c hK k0_wf qq qq_wf (by decide)).mono ?_
  rintro x w' ⟨q1, q2, q3⟩
  unfold ktBody ktPk at q1
  unfold ktS at q2
  rw [e1, e2] at q1
  rw [e1] at q2
  exact ⟨q1, q2, q3⟩
theorem tc_reply {w : World} {g : Nat} (hK : IsK w g K1o) : Calls Try.prog 15 #[pC g, .int .u8 1, .string bDone] w fun e w' => e = .returned (.tuple #[.agg #[.int .u8 2, .int .u8 0, .int .u8 1, .int .u32 1, .int .u32 1, .string bDone], .int .i64 0]) ∧ IsK w' g K2o ∧ Ou (fun k => k = g) w w' := by
  have e1 : rpE K1o 1 bDone = 0 := by decide
  refine (reply_c hK 1 bDone).mono ?_
  rintro x w' ⟨q1, q2, q3⟩
  unfold rpPk at q1
  unfold rpS at q2
  rw [e1, if_pos rfl] at q1
  rw [e1, if_pos rfl] at q2
  exact ⟨q1, q2, q3⟩
theorem tc_take2 {w : World} {g : Nat} (hK : IsK w g K2o) : Calls Try.prog 9 #[pC g, .agg #[.int .u8 1, .int .u8 1, .int .u8 0, .int .u32 1, .int .u32 1, .string bDo]] w fun e w' => e = .returned (.tuple #[.string ⟨#[]⟩, .bool false, .agg #[.int .u8 2, .int .u8 0, .int .u8 1, .int .u32 1, .int .u32 1, .string bDone], .bool true]) ∧ IsK w' g K2o ∧ Ou (fun k => k = g) w w' := by
  have e1 : ktOk K2o qq = false := by decide
  have e2 : ktIs K2o qq = true := by decide
  refine (ktake_c hK k2_wf qq qq_wf (by decide)).mono ?_
  rintro x w' ⟨q1, q2, q3⟩
  unfold ktBody ktPk at q1
  unfold ktS at q2
  rw [e1, e2] at q1
  rw [e1] at q2
  exact ⟨q1, q2, q3⟩
theorem tc_got {w : World} {g : Nat} (j : Nat) (hC : IsC 80 w g (cB j)) : Calls Try.prog 16 #[pC g, .agg #[.int .u8 2, .int .u8 0, .int .u8 1, .int .u32 1, .int .u32 1, .string bDone]] w fun e w' => e = .returned (.tuple #[.string bDone, .bool true]) ∧ IsC 80 w' g cE ∧ Ou (fun k => k = g) w w' := by
  have e1 : takeB (cB j) aa = true := by unfold takeB; exact (show (true && awB (cB 0) aa) = true by decide)
  refine (take_c hC aa aa_wf (by decide)).mono ?_
  rintro x w' ⟨q1, q2, q3⟩
  unfold takeT at q1
  unfold takeS at q2
  rw [e1] at q1
  rw [e1] at q2
  exact ⟨q1, q2, q3⟩
theorem tc_none {w : World} {g : Nat} (hC : IsC 80 w g cE) : Calls Try.prog 16 #[pC g, .agg #[.int .u8 2, .int .u8 0, .int .u8 1, .int .u32 1, .int .u32 1, .string bDone]] w fun e w' => e = .returned (.tuple #[.string ⟨#[]⟩, .bool false]) ∧ IsC 80 w' g cE ∧ Ou (fun k => k = g) w w' := by
  have e1 : takeB cE aa = false := by decide
  refine (take_c hC aa aa_wf (by decide)).mono ?_
  rintro x w' ⟨q1, q2, q3⟩
  unfold takeT at q1
  unfold takeS at q2
  rw [e1] at q1
  rw [e1] at q2
  exact ⟨q1, q2, q3⟩
set_option maxHeartbeats 8000000 in
theorem topCalled_walk (x : Int) (hx : (Lit.int .u8 x).wf = true) (a1 : Option Addr) (len1 cap1 : Nat) (zs : List Int) (hlc : len1 ≤ cap1) (w : World) (h1 : IsB w a1 len1 zs) :
    Calls Try.prog 4 #[.int .u8 x, .slice a1 len1 cap1] w fun e w' => e = .returned (.bool true) ∧ Below w.heap.size w w' := by
  have hxb := bd_u8 hx
  have HI := hid h1
  have hm1 := h1.2.1
  unfold maxLen at hm1
  clear h1 hx
  obtain ⟨hx0, hx1⟩ := hxb
  have hk0 := Int.emod_nonneg x (show (6 : Int) ≠ 0 by omega)
  have hk1 := Int.emod_lt_of_pos x (show (0 : Int) < 6 by omega)
  obtain ⟨m, hm⟩ : ∃ m : Nat, x % 6 = (m : Int) := ⟨(x % 6).toNat, by omega⟩
  have hm6 : m < 6 := by omega
  clear hk0 hk1
  obtain ⟨iP, hp', hp0, hp1, hp2⟩ := info_partsP
  go_enter Try.func4, Try.ntmps4
  go_wp2_with fail
  refine (newCaller_c 1 1 (by decide) (by decide) w).mono ?_
  rintro _ w1 ⟨rfl, hC1, hb1⟩
  have hlt1 := hC1.lt
  generalize hc : w.heap.size = c at hC1 hlt1 ⊢
  have C1 := hid hC1
  have B1 := hid hb1
  have hc' : w.heap.size ≤ c := by omega
  have hz1 := hb1.size
  clear hC1 hb1
  go_wp2_with fail
  refine (newCallee_c w1).mono ?_
  rintro _ w2 ⟨rfl, hK2, hb2⟩
  have hlt2 := hK2.lt
  have C2 := hid (C1.out.later hb2)
  have K2 := hid hK2
  have B2 := hid (B1.out.trans (hb2.mono B1.out.size))
  generalize hs : w1.heap.size = s at hK2 K2 hlt2 hlt1 ⊢
  have hcs : c < s := by omega
  have hz2 := hb2.size
  have hws : w.heap.size ≤ s := by omega
  clear hK2 hb2 B1 C1
  go_wp2_with fail
  refine (tc_call C2.out).mono ?_
  rintro _ w3 ⟨rfl, hC3, ho3⟩
  have C3 := hid hC3
  have K3 := hid (K2.out.out ho3 (by omega))
  have B3 := hid (B2.out.trans (ho3.below B2.out.size (fun k e => by omega)))
  have hz3 := ho3.size
  clear hC3 ho3 C2 K2 B2
  have hw3 : w.heap.size ≤ w3.heap.size := B3.out.size
  generalize hbase : w3.heap.size = base at *
  have R3 := hid (RowP.nil w3 base (by omega))
  clear hc hs
  go_wp2
  go_loopw [7, 8] (fun v i wr => ∃ (j : Nat), j ≤ m + 1 ∧ i = .int .i64 j ∧ Hid (RowP wr base v (List.replicate j qq)) ∧ Hid (IsC 80 wr c (cB j)) ∧ Hid (IsK wr s K0o) ∧ Hid (Below w.heap.size w wr)) (fun _ i _ => (7 - intOf i).toNat)
  case atStart => exact ⟨0, by omega, rfl, R3, C3, K3, B3⟩
  case round =>
    obtain ⟨j, hj, rfl, RO, CA, KA, BA⟩ := hrel
    clear R3 C3 K3 B3
    obtain ⟨av, cv, rfl⟩ := RO.out.slice
    have hwr := BA.out.size
    have hbr := RO.out.2
    have hlr : (List.replicate j qq).length = j := List.length_replicate
    rw [hlr]
    by_cases h1 : j < m + 1
    · have h1' : (j : Int) < (m : Int) + 1 := by omega
      have TK := hid (tc_tick j (by omega) CA.out)
      have hj5 : (j : Int) * 5 < 18446744073709551616 := by omega
      have hj5' : (0 : Int) ≤ (j : Int) * 5 := by omega
      have HLR := hid hlr
      clear hlr
      go_wp2_with fail
      refine TK.out.mono ?_
      rintro _ w4 ⟨rfl, hC4, ho4⟩
      have b5 : Below w4.heap.size w4 (w4.alloc (.cells #[.int .u8 1, .int .u8 1, .int .u8 0, .int .u32 1, .int .u32 1, .string bDo] 26)) := (Below.refl _ _).alloc (Nat.le_refl _) _
      have C5 := hid (hC4.later b5)
      have O5 := hid (ho4.trans (Ou.of b5))
      have P5 : Hid (PkAt (w4.alloc (.cells #[.int .u8 1, .int .u8 1, .int .u8 0, .int .u32 1, .int .u32 1, .string bDo] 26)) w4.heap.size qq) := hid (heap_alloc_new w4 _)
      clear hC4 ho4 b5 TK
      have K5 := hid (KA.out.out O5.out (by omega))
      have R5 := hid (RO.out.out O5.out (fun k e => by omega))
      have B5 := hid (BA.out.trans (O5.out.below BA.out.size (fun k e => by omega)))
      have hz5 := O5.out.size
      generalize hW5 : w4.alloc (.cells #[.int .u8 1, .int .u8 1, .int .u8 0, .int .u32 1, .int .u32 1, .string bDo] 26) = w5 at *
      obtain ⟨q0, q1, q2, q3, q4, q5, _⟩ := P5.out.cells
      simp only at q0 q1 q2 q3 q4 q5
      have R5' : Hid (w5.ownsRow base 26 6 (.slice av j cv) j ((List.replicate j qq).flatMap pkC)) := hid (by have := R5.out.1; rw [HLR.out] at this; exact this)
      go_wp2_with (at_builtin; refine wpList_append_own _ rfl _ _ 43 rfl base 26 iP _ 6 32 Try.underlying43 hp' hp0 hp1 hp2 rfl (by decide) _ _ _ rfl (R5'.out.alloc _) ⟨w5.heap.size, 0, none⟩ 1 1 (pkC qq) rfl rfl (pkC_news w5 _ rfl 1 1 0 1 1 bDo) (by intro u hu; simp [pkC] at hu; rcases hu with rfl | rfl | rfl | rfl | rfl | rfl <;> rfl) (by unfold maxLen; omega) (by omega) (by simp [pkC]; omega) ?_; intro v9 w9 hown9 hgrow9 hnil9)
      have b9 : Below base w5 w9 := rowP_below (v := .slice av j cv) (ps := List.replicate j qq) (by have := R5.out; rw [HLR.out] at this; exact this) hgrow9
      have R9 : Hid (RowP w9 base v9 (List.replicate (j + 1) qq)) := hid (by rw [List.replicate_succ']; exact RowP.snoc (by rw [HLR.out]; exact hown9) (by have := b9.size; omega))
      have C9 := hid (C5.out.under b9 (by omega))
      have K9 := hid (K5.out.under b9 (by omega))
      have B9 := hid (B5.out.trans (b9.mono (by omega)))
      go_roundw
      case rel => exact ⟨j + 1, by omega, by go_num, R9, C9, K9, B9⟩
      case measure => simp [intOf]; omega
    · have h1' : ¬ (j : Int) < (m : Int) + 1 := by omega
      have h1d : decide ((j : Int) < (m : Int) + 1) = false := decide_eq_false h1'
      obtain rfl : j = m + 1 := by omega
      have hji : ((m + 1 : Nat) : Int) = (m : Int) + 1 := by omega
      obtain ⟨wo, hwo⟩ : ∃ wo, wo = wr := ⟨_, rfl⟩
      subst hwo
      obtain ⟨M, hM⟩ : ∃ M, M = m + 1 := ⟨_, rfl⟩
      have hMi : (m : Int) + 1 = (M : Int) := by omega
      rw [← hM] at RO CA hlr ⊢
      have hneq : ((M : Int) != (M : Int)) = false := by simp
      have hn0 : ((M : Int) == 0) = false := by simp; omega
      have hM0 : (0 : Int) < (M : Int) := by omega
      have hM7 : M < 7 := by omega
      obtain ⟨gr, cr, hv, hbgr, hlcr, hcs0⟩ := RO.out.cells (by rw [hlr]; omega)
      rw [hlr] at hv hlcr
      cases hv
      have HLR := hid hlr
      clear hlr hcs0 hji h1' h1d
      have HM := hid hM
      clear hM
      generalize hb2 : wo.heap.size = base2 at *
      have R6 := hid (RowP.nil wo base2 (by omega))
      have O6 := hid (Ou.refl (fun k => k = s) wo)
      go_wp2
      have HMM := hid hm
      have HMI := hid hMi
      clear hm hMi
      go_loopw [4, 11, 12, 13] (fun rs dn v i wx => ∃ (j2 : Nat), j2 ≤ 30 ∧ j2 ≤ len1 ∧ rs = .bool false ∧ dn = .int .i64 (if j2 = 0 then 0 else 1) ∧ i = .int .i64 j2 ∧ Hid (RowP wx base2 v (List.replicate j2 aa)) ∧ Hid (IsK wx s (if j2 = 0 then K0o else K2o)) ∧ Hid (Ou (fun k => k = s) wo wx)) (fun _ _ _ i _ => (31 - intOf i).toNat)
      case atStart => exact ⟨0, by omega, by omega, rfl, rfl, rfl, R6, KA, O6⟩
      case round =>
        obtain ⟨j2, hj2, hjl, rfl, rfl, rfl, RX, KX, OX⟩ := hrel
        obtain ⟨wx, hwx⟩ : ∃ wx, wx = wr := ⟨_, rfl⟩
        subst hwx
        clear R6 O6
        obtain ⟨av, cv, rfl⟩ := RX.out.slice
        have hlx : (List.replicate j2 aa).length = j2 := List.length_replicate
        rw [hlx]
        have HLX := hid hlx
        clear hlx
        have BX := hid (BA.out.trans (OX.out.below BA.out.size (fun k e => by omega)))
        have hzx := OX.out.size
        have hbx := RX.out.2
        by_cases g1 : j2 < len1
        · have g1' : (j2 : Int) < (len1 : Int) := by omega
          by_cases g2 : j2 < 30
          · have g2' : (j2 : Int) < 30 := by omega
            obtain ⟨bo, oo, rfl, hcell⟩ := HI.out.2.2.1 (by omega)
            have hcj := cell_later BX.out (hcell j2 g1)
            have hz := HI.out.2.2.2 j2
            clear hcell
            generalize zs.getD j2 0 = z at *
            have RS := hid (RO.out.out OX.out (fun k e => by omega))
            obtain ⟨gr', cr', hv', _, _, hcs⟩ := RS.out.cells (by rw [HLR.out]; omega)
            rw [HLR.out] at hv'
            cases hv'
            have hk0 := Int.emod_nonneg z (show (M : Int) ≠ 0 by omega)
            have hk1 := Int.emod_lt_of_pos z hM0
            have hkM : (z % (M : Int)).toNat < M := by omega
            obtain ⟨c0, c1, c2, c3, c4, c5⟩ := hcs (z % (M : Int)).toNat (by rw [HLR.out]; exact hkM)
            rw [List.getElem_replicate] at c0 c1 c2 c3 c4 c5
            simp only at c0 c1 c2 c3 c4 c5
            clear hcs hkM
            have R5' : Hid (∀ W, Ou (fun k => k = s) wx W → RowP W base2 (.slice av j2 cv) (List.replicate j2 aa)) := hid (fun W hW => by have := RX.out.out hW (fun k e => by omega); rw [HLX.out] at this; exact this)
            by_cases g0 : j2 = 0
            · rw [if_pos g0] at KX ⊢
              have HG0 := hid g0
              clear g0
              have T0 := hid (tc_take0 KX.out)
              go_wp2_with fail
              refine T0.out.mono ?_
              rintro _ w7 ⟨rfl, hK7, ho7⟩
              clear T0 c0 c1 c2 c3 c4 c5 hcj
              have b8 : Below w7.heap.size w7 (w7.alloc (.cells #[.int .u8 0, .int .u8 0, .int .u8 0, .int .u32 0, .int .u32 0, .string ⟨#[]⟩] 26)) := (Below.refl _ _).alloc (Nat.le_refl _) _
              have K8 := hid (hK7.later b8)
              have O8 := hid (ho7.trans (Ou.of b8))
              clear b8 hK7 ho7
              go_wp2_with fail
              rw [conv_one _ _ (by simp)]
              have b9 : Below (w7.alloc (.cells #[.int .u8 0, .int .u8 0, .int .u8 0, .int .u32 0, .int .u32 0, .string ⟨#[]⟩] 26)).heap.size (w7.alloc (.cells #[.int .u8 0, .int .u8 0, .int .u8 0, .int .u32 0, .int .u32 0, .string ⟨#[]⟩] 26)) ((w7.alloc (.cells #[.int .u8 0, .int .u8 0, .int .u8 0, .int .u32 0, .int .u32 0, .string ⟨#[]⟩] 26)).alloc (.cells #[.int .u8 49] 5)) := (Below.refl _ _).alloc (Nat.le_refl _) _
              have RP := hid (tc_reply (K8.out.later b9))
              have O9 := hid (O8.out.trans (Ou.of b9))
              clear b9
              go_wp2_with fail
              refine RP.out.mono ?_
              rintro _ wa ⟨rfl, hKa, hoa⟩
              have b8 : Below wa.heap.size wa (wa.alloc (.cells #[.int .u8 2, .int .u8 0, .int .u8 1, .int .u32 1, .int .u32 1, .string bDone] 26)) := (Below.refl _ _).alloc (Nat.le_refl _) _
              have K8' := hid (hKa.later b8)
              have O8' := hid ((O9.out.trans hoa).trans (Ou.of b8))
              have P8 : Hid (PkAt (wa.alloc (.cells #[.int .u8 2, .int .u8 0, .int .u8 1, .int .u32 1, .int .u32 1, .string bDone] 26)) wa.heap.size aa) := hid (heap_alloc_new wa _)
              clear K8 O8 RP O9
              have K8 := K8'
              have O8 := O8'
              generalize hW8 : wa.alloc (.cells #[.int .u8 2, .int .u8 0, .int .u8 1, .int .u32 1, .int .u32 1, .string bDone] 26) = w8 at *
              clear b8 hKa hoa K8' O8'
              have R8 := hid (R5'.out w8 O8.out)
              have hz8 := O8.out.size
              obtain ⟨q0, q1, q2, q3, q4, q5, _⟩ := P8.out.cells
              simp only at q0 q1 q2 q3 q4 q5
              go_wp2_with (at_builtin; refine wpList_append_own _ rfl _ _ 43 rfl base2 26 iP _ 6 32 Try.underlying43 hp' hp0 hp1 hp2 rfl (by decide) _ _ _ rfl ((by have := R8.out.1; rw [HLX.out] at this; exact this : w8.ownsRow base2 26 6 (.slice av j2 cv) j2 ((List.replicate j2 aa).flatMap pkC)).alloc _) ⟨w8.heap.size, 0, none⟩ 1 1 (pkC aa) rfl rfl (pkC_news w8 _ rfl 2 0 1 1 1 bDone) (by intro u hu; simp [pkC] at hu; rcases hu with rfl | rfl | rfl | rfl | rfl | rfl <;> rfl) (by unfold maxLen; omega) (by omega) (by simp [pkC]; omega) ?_; intro v9 w9 hown9 hgrow9 hnil9)
              have b9 : Below base2 w8 w9 := rowP_below R8.out hgrow9
              have R9 : Hid (RowP w9 base2 v9 (List.replicate (j2 + 1) aa)) := hid (by rw [List.replicate_succ']; exact RowP.snoc (by rw [HLX.out]; exact hown9) (by have := b9.size; omega))
              have K9 : Hid (IsK w9 s (if j2 + 1 = 0 then K0o else K2o)) := hid (by rw [if_neg (by omega)]; exact K8.out.under b9 (by omega))
              have O9 : Hid (Ou (fun k => k = s) wo w9) := hid (ou_under (OX.out.trans O8.out) (by rw [hb2]; exact b9))
              go_roundw
              case rel => exact ⟨j2 + 1, by omega, by omega, rfl, by rw [if_neg (by omega)], by go_num, R9, K9, O9⟩
              case measure => simp [intOf]; omega
            · have g0' : j2 ≠ 0 := g0
              rw [if_neg g0] at KX ⊢
              have T0 := hid (tc_take2 KX.out)
              go_wp2_with fail
              refine T0.out.mono ?_
              rintro _ w7 ⟨rfl, hK7, ho7⟩
              clear T0 c0 c1 c2 c3 c4 c5 hcj
              have b8 : Below w7.heap.size w7 (w7.alloc (.cells #[.int .u8 2, .int .u8 0, .int .u8 1, .int .u32 1, .int .u32 1, .string bDone] 26)) := (Below.refl _ _).alloc (Nat.le_refl _) _
              have K8 := hid (hK7.later b8)
              have O8 := hid (ho7.trans (Ou.of b8))
              have P8 : Hid (PkAt (w7.alloc (.cells #[.int .u8 2, .int .u8 0, .int .u8 1, .int .u32 1, .int .u32 1, .string bDone] 26)) w7.heap.size aa) := hid (heap_alloc_new w7 _)
              generalize hW8 : w7.alloc (.cells #[.int .u8 2, .int .u8 0, .int .u8 1, .int .u32 1, .int .u32 1, .string bDone] 26) = w8 at *
              clear b8 hK7 ho7
              have R8 := hid (R5'.out w8 O8.out)
              have hz8 := O8.out.size
              obtain ⟨q0, q1, q2, q3, q4, q5, _⟩ := P8.out.cells
              simp only at q0 q1 q2 q3 q4 q5
              go_wp2_with (at_builtin; refine wpList_append_own _ rfl _ _ 43 rfl base2 26 iP _ 6 32 Try.underlying43 hp' hp0 hp1 hp2 rfl (by decide) _ _ _ rfl ((by have := R8.out.1; rw [HLX.out] at this; exact this : w8.ownsRow base2 26 6 (.slice av j2 cv) j2 ((List.replicate j2 aa).flatMap pkC)).alloc _) ⟨w8.heap.size, 0, none⟩ 1 1 (pkC aa) rfl rfl (pkC_news w8 _ rfl 2 0 1 1 1 bDone) (by intro u hu; simp [pkC] at hu; rcases hu with rfl | rfl | rfl | rfl | rfl | rfl <;> rfl) (by unfold maxLen; omega) (by omega) (by simp [pkC]; omega) ?_; intro v9 w9 hown9 hgrow9 hnil9)
              have b9 : Below base2 w8 w9 := rowP_below R8.out hgrow9
              have R9 : Hid (RowP w9 base2 v9 (List.replicate (j2 + 1) aa)) := hid (by rw [List.replicate_succ']; exact RowP.snoc (by rw [HLX.out]; exact hown9) (by have := b9.size; omega))
              have K9 : Hid (IsK w9 s (if j2 + 1 = 0 then K0o else K2o)) := hid (by rw [if_neg (by omega)]; exact K8.out.under b9 (by omega))
              have O9 : Hid (Ou (fun k => k = s) wo w9) := hid (ou_under (OX.out.trans O8.out) (by rw [hb2]; exact b9))
              go_roundw
              case rel => exact ⟨j2 + 1, by omega, by omega, rfl, by rw [if_neg (by omega)], by go_num, R9, K9, O9⟩
              case measure => simp [intOf]; omega
          · have g2' : ¬ (j2 : Int) < 30 := by omega
            have g2d : decide ((j2 : Int) < 30) = false := decide_eq_false g2'
            have hz0 : len1 = 0 ∨ j2 ≠ 0 := by omega
            obtain ⟨dv, hdv⟩ : ∃ dv : Int, (if j2 = 0 then (0 : Int) else 1) = dv := ⟨_, rfl⟩
            rw [hdv]
            have HDV := hid hdv
            clear hdv
            have CX := hid (CA.out.out OX.out (by omega))
            have OY := hid (Ou.refl (fun k => k = c) wx)
            clear KX RO CA KA
            go_wp2
            go_loopw [4, 20, 21] (fun rs gt i wy => ∃ (j3 : Nat), j3 ≤ j2 ∧ rs = .bool false ∧ gt = .int .i64 (if j3 = 0 then 0 else 1) ∧ i = .int .i64 j3 ∧ Hid (IsC 80 wy c (if j3 = 0 then cB M else cE)) ∧ Hid (Ou (fun k => k = c) wx wy)) (fun _ _ i _ => (31 - intOf i).toNat)
            case atStart => exact ⟨0, by omega, rfl, rfl, rfl, CX, OY⟩
            case round =>
              obtain ⟨j3, hj3, rfl, rfl, rfl, CY, OZ⟩ := hrel
              obtain ⟨wy, hwy⟩ : ∃ wy, wy = wr := ⟨_, rfl⟩
              subst hwy
              clear CX OY
              have BY := hid (BX.out.trans (OZ.out.below BX.out.size (fun k e => by omega)))
              by_cases e1 : j3 < j2
              · have e1' : (j3 : Int) < (j2 : Int) := by omega
                have RY := hid (RX.out.out OZ.out (fun k e => by omega))
                obtain ⟨ga, ca, hva, _, _, hca⟩ := RY.out.cells (by rw [HLX.out]; omega)
                rw [HLX.out] at hva
                cases hva
                obtain ⟨c0, c1, c2, c3, c4, c5⟩ := hca j3 (by rw [HLX.out]; exact e1)
                rw [List.getElem_replicate] at c0 c1 c2 c3 c4 c5
                simp only at c0 c1 c2 c3 c4 c5
                clear hca
                by_cases e0 : j3 = 0
                · rw [if_pos e0] at CY ⊢
                  have HE0 := hid e0
                  clear e0
                  have T0 := hid (tc_got M CY.out)
                  have hbd : (bDone != bDone) = false := by decide
                  go_wp2_with fail
                  refine T0.out.mono ?_
                  rintro _ wz ⟨rfl, hCz, hoz⟩
                  have Cz : Hid (IsC 80 wz c (if j3 + 1 = 0 then cB M else cE)) := hid (by rw [if_neg (by omega)]; exact hCz)
                  have Oz := hid (OZ.out.trans hoz)
                  clear hCz hoz T0
                  go_wp2
                  go_roundw
                  case rel => exact ⟨j3 + 1, by omega, rfl, by rw [if_neg (by omega)], by go_num, Cz, Oz⟩
                  case measure => simp [intOf]; omega
                · rw [if_neg e0] at CY ⊢
                  have HE0 := hid e0
                  clear e0
                  have T0 := hid (tc_none CY.out)
                  go_wp2_with fail
                  refine T0.out.mono ?_
                  rintro _ wz ⟨rfl, hCz, hoz⟩
                  have Cz : Hid (IsC 80 wz c (if j3 + 1 = 0 then cB M else cE)) := hid (by rw [if_neg (by omega)]; exact hCz)
                  have Oz := hid (OZ.out.trans hoz)
                  clear hCz hoz T0
                  go_wp2
                  go_roundw
                  case rel => exact ⟨j3 + 1, by omega, rfl, by rw [if_neg (by omega)], by go_num, Cz, Oz⟩
                  case measure => simp [intOf]; omega
              · have e1' : ¬ (j3 : Int) < (j2 : Int) := by omega
                have e1d : decide ((j3 : Int) < (j2 : Int)) = false := decide_eq_false e1'
                obtain rfl : j3 = j2 := by omega
                have hm := HMM.out
                have hMi := HMI.out
                have hMM : ((M : Int) == (M : Int)) = true := by simp
                rcases hz0 with h0 | h0
                · subst h0
                  first
                    | omega
                    | (go_wp2
                       go_ret
                       exact ⟨rfl, BY.out⟩)
                · rw [if_neg h0]
                  have hdv := HDV.out
                  rw [if_neg h0] at hdv
                  subst hdv
                  have hl0 : ((len1 : Int) == 0) = false := by simp; omega
                  go_wp2
                  go_ret
                  exact ⟨rfl, BY.out⟩
        · have g1' : ¬ (j2 : Int) < (len1 : Int) := by omega
          have g1d : decide ((j2 : Int) < (len1 : Int)) = false := decide_eq_false g1'
          have hz0 : len1 = 0 ∨ j2 ≠ 0 := by omega
          obtain ⟨dv, hdv⟩ : ∃ dv : Int, (if j2 = 0 then (0 : Int) else 1) = dv := ⟨_, rfl⟩
          rw [hdv]
          have HDV := hid hdv
          clear hdv
          have CX := hid (CA.out.out OX.out (by omega))
          have OY := hid (Ou.refl (fun k => k = c) wx)
          clear KX RO CA KA
          go_wp2
          go_loopw [4, 20, 21] (fun rs gt i wy => ∃ (j3 : Nat), j3 ≤ j2 ∧ rs = .bool false ∧ gt = .int .i64 (if j3 = 0 then 0 else 1) ∧ i = .int .i64 j3 ∧ Hid (IsC 80 wy c (if j3 = 0 then cB M else cE)) ∧ Hid (Ou (fun k => k = c) wx wy)) (fun _ _ i _ => (31 - intOf i).toNat)
          case atStart => exact ⟨0, by omega, rfl, rfl, rfl, CX, OY⟩
          case round =>
            obtain ⟨j3, hj3, rfl, rfl, rfl, CY, OZ⟩ := hrel
            obtain ⟨wy, hwy⟩ : ∃ wy, wy = wr := ⟨_, rfl⟩
            subst hwy
            clear CX OY
            have BY := hid (BX.out.trans (OZ.out.below BX.out.size (fun k e => by omega)))
            by_cases e1 : j3 < j2
            · have e1' : (j3 : Int) < (j2 : Int) := by omega
              have RY := hid (RX.out.out OZ.out (fun k e => by omega))
              obtain ⟨ga, ca, hva, _, _, hca⟩ := RY.out.cells (by rw [HLX.out]; omega)
              rw [HLX.out] at hva
              cases hva
              obtain ⟨c0, c1, c2, c3, c4, c5⟩ := hca j3 (by rw [HLX.out]; exact e1)
              rw [List.getElem_replicate] at c0 c1 c2 c3 c4 c5
              simp only at c0 c1 c2 c3 c4 c5
              clear hca
              by_cases e0 : j3 = 0
              · rw [if_pos e0] at CY ⊢
                have HE0 := hid e0
                clear e0
                have T0 := hid (tc_got M CY.out)
                have hbd : (bDone != bDone) = false := by decide
                go_wp2_with fail
                refine T0.out.mono ?_
                rintro _ wz ⟨rfl, hCz, hoz⟩
                have Cz : Hid (IsC 80 wz c (if j3 + 1 = 0 then cB M else cE)) := hid (by rw [if_neg (by omega)]; exact hCz)
                have Oz := hid (OZ.out.trans hoz)
                clear hCz hoz T0
                go_wp2
                go_roundw
                case rel => exact ⟨j3 + 1, by omega, rfl, by rw [if_neg (by omega)], by go_num, Cz, Oz⟩
                case measure => simp [intOf]; omega
              · rw [if_neg e0] at CY ⊢
                have HE0 := hid e0
                clear e0
                have T0 := hid (tc_none CY.out)
                go_wp2_with fail
                refine T0.out.mono ?_
                rintro _ wz ⟨rfl, hCz, hoz⟩
                have Cz : Hid (IsC 80 wz c (if j3 + 1 = 0 then cB M else cE)) := hid (by rw [if_neg (by omega)]; exact hCz)
                have Oz := hid (OZ.out.trans hoz)
                clear hCz hoz T0
                go_wp2
                go_roundw
                case rel => exact ⟨j3 + 1, by omega, rfl, by rw [if_neg (by omega)], by go_num, Cz, Oz⟩
                case measure => simp [intOf]; omega
            · have e1' : ¬ (j3 : Int) < (j2 : Int) := by omega
              have e1d : decide ((j3 : Int) < (j2 : Int)) = false := decide_eq_false e1'
              obtain rfl : j3 = j2 := by omega
              have hm := HMM.out
              have hMi := HMI.out
              have hMM : ((M : Int) == (M : Int)) = true := by simp
              rcases hz0 with h0 | h0
              · subst h0
                first
                  | omega
                  | (go_wp2
                     go_ret
                     exact ⟨rfl, BY.out⟩)
              · rw [if_neg h0]
                have hdv := HDV.out
                rw [if_neg h0] at hdv
                subst hdv
                have hl0 : ((len1 : Int) == 0) = false := by simp; omega
                go_wp2
                go_ret
                exact ⟨rfl, BY.out⟩
/-! ### The row of TopCalled -/
theorem topCalled_own : ownKnob Try.prog.godebug = none := by kernel_rfl
theorem topCalled_laidOut : laidOutB Try.prog = true := by kernel_rfl
set_option maxRecDepth 100000 in
theorem topCalled_lifted (os : Os) (started : os.Started) (H : Type) (enc : TypeId × Value → H) :
    ReturnsInHanded {} Try.checked os 4 .any (Rows.topCalledSpec.pre6 enc Try.prog Try.f4 Rows.topCalledRow.domain false) (Rows.topCalledSpec.post enc Try.prog Try.f4 false true false false) := by
  refine returnsInHanded_of_change (C := Try.checked) topCalled_own started (by kernel_rfl) Try.func4
    (ChangeSpec.witness6 (enc := enc) (C := Try.checked) false ⟨#[], #[.int .u8 0, .slice none 0 0], []⟩ 8 (by kernel_rfl) (by kernel_rfl) (by kernel_rfl) (by kernel_rfl)) ?_
  intro W base args ds gs before hval0 hW hcnd _
  have hval : ∀ (j : Nat) t v, Try.f4.params[j]? = some t → args[j]? = some v → Value.okWide Try.prog W .any base t v := hval0
  have hW' := hW
  obtain ⟨p, q, hA0, hV, rfl, hfz, hnd⟩ := hW
  have hA : DataW.TrodAll enc Try.prog W 0 (fun _ => true) true Try.f4.params.toList args.toList ds p := hA0
  rw [Try.params4] at hA hval
  obtain ⟨v0, vs0, d0, ds0, p0, q0, hargs, rfl, rfl, h0, r0⟩ := trodAll_cons hA
  obtain ⟨v1, vs1, d1, ds1, p1, q1, rfl, rfl, rfl, h1, r1⟩ := trodAll_cons r0
  obtain ⟨rfl, rfl, rfl⟩ := trodAll_nil r1
  obtain rfl : args = #[v0, v1] := by cases args; simp_all
  obtain ⟨rfl, rfl⟩ := trodVars_none hV
  obtain ⟨a0, rfl, rfl, rfl, w0⟩ := open_int Try.underlying5 (hval 0 5 v0 rfl rfl) h0
  have k1 := h1
  have lt1 : ∀ x ∈ p1, x.block < W.heap.size := by obtain ⟨m, hm⟩ := k1; exact DataW.trod_lt m _ _ _ hm
  obtain ⟨a1, len1, cap1, rfl⟩ := okWide_slice Try.underlying22 (hval 1 22 v1 rfl rfl)
  obtain ⟨z1, w1, lc1⟩ := isB_of Try.underlying22 Try.underlying5 (by kernel_rfl) h1
  clear hA0 hval0
  refine (topCalled_walk a0 w0 a1 len1 cap1 z1 lc1 W w1).mono fun e W' ⟨he, bel⟩ => ?_
  subst he
  exact ⟨_, rfl, _, _, _, [], _, [], hW', trodAll_mk1 (shut_bool Try.underlying4 _), (trodAll_cons_mk (shut_int Try.underlying5 w0) (trodAll_cons_mk (Below.trod topCalled_laidOut (by kernel_rfl) (of_decide_eq_true (by kernel_rfl)) k1 bel lt1) trodAll_mk0)), rfl, bel.frame _, fun h => by cases h⟩
theorem topCalled_over : Rows.topCalledRow.holds Try.pinned (OpenSpec.ofChange Rows.topCalledSpec) :=
  OpenClaim.holds_of_wide 4 Try.f4 rfl rfl rfl rfl rfl rfl rfl ⟨rfl, rfl, rfl, rfl, rfl⟩ rfl rfl rfl rfl rfl (by kernel_rfl) Try.func4 (by kernel_rfl)
    (of_decide_eq_true (by kernel_rfl)) (by unfold Func.isWrapper; first | (rw [if_pos (by decide +kernel)]; kernel_rfl) | (rw [if_neg (by decide +kernel)]; exact ⟨rfl, rfl⟩))
    (fun os started H enc _ => topCalled_lifted os started H enc)
/-- The statement. -/
theorem topCalled_holds : Rows.TopCalledSaid := topCalled_over
#print axioms topCalled_holds

end Go.Proofs.Ytmoeljieafninaa
