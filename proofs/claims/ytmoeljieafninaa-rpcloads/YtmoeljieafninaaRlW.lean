/-
  The document's LoadCallee, walked.
-/
import Derived.Test.YtmoeljieafninaaRRl
namespace Go.Proofs.Ytmoeljieafninaa
open Go.RowKit Go.ChangeShapes Go.WideShapes Go.ChangeAt
set_option linter.unusedVariables false
set_option linter.unusedSimpArgs false
set_option maxRecDepth 100000
def RldPost (w : World) (zs : List Int) (e : Ending) (w' : World) : Prop :=
  Below w.heap.size w w' ∧ match ldK zs with
    | none => e = .returned (.tuple #[.pointer none, .int .i64 3])
    | some F => e = .returned (.tuple #[pC (w.heap.size + 1), .int .i64 0]) ∧ IsRK w' (w.heap.size + 1) F
/-- What is known of a client, in a variable of the document's. -/
def TkR (w : World) (g : Nat) (st ep num : Int) (bd : ByteArray) : Prop := w.heap[g]? = some (.cells #[.int .i64 st, .int .u32 ep, .int .u32 num, .string bd] 66 (0, 0))
theorem TkR.cells {w : World} {g : Nat} {st ep num : Int} {bd : ByteArray} (h : TkR w g st ep num bd) : w.cell? ⟨g, 0, none⟩ = some (.int .i64 st) ∧ w.cell? ⟨g, 1, none⟩ = some (.int .u32 ep) ∧ w.cell? ⟨g, 2, none⟩ = some (.int .u32 num) ∧ w.cell? ⟨g, 3, none⟩ = some (.string bd) ∧ ∀ o, w.frozen? ⟨g, o, none⟩ = false := by
  unfold TkR at h
  refine ⟨?_, ?_, ?_, ?_, fun o => ?_⟩
  all_goals simp [World.cell?, World.frozen?, h]
theorem TkR.lt {w : World} {g : Nat} {st ep num : Int} {bd : ByteArray} (h : TkR w g st ep num bd) : g < w.heap.size := lt_blkC h
theorem TkR.out {S : Nat → Prop} {w w' : World} {g : Nat} {st ep num : Int} {bd : ByteArray} (h : TkR w g st ep num bd) (ho : Ou S w w') (hS : ¬ S g) : TkR w' g st ep num bd := by
  unfold TkR at *; rw [ho.block g (lt_blkC h) hS]; exact h
theorem TkR.set1 {w : World} {g : Nat} {st ep num : Int} {bd : ByteArray} (h : TkR w g st ep num bd) (e q : Int) : TkR ((w.setCell ⟨g, 1, none⟩ (.int .u32 e)).setCell ⟨g, 2, none⟩ (.int .u32 q)) g st e q bd := row_set 2 _ (row_set 1 _ h)
theorem TkR.set3 {w : World} {g : Nat} {st ep num : Int} {bd : ByteArray} (h : TkR w g st ep num bd) (b : ByteArray) : TkR (w.setCell ⟨g, 3, none⟩ (.string b)) g st ep num b := row_set 3 _ h
theorem IsRK.drewR {w : World} {g : Nat} {F : Nat → Tk} (h : IsRK w g F) : IsRK w.drew g F := h
theorem nu1_c {w : World} {r : Nat} {s s' : Rs} {v : Int} (h : RdR w r s.1 s.2) (hv : nuV s 1 = v) (hs : nuS s 1 = s') :
    Calls Try.prog 19 #[.pointer (some ⟨r, 0, none⟩), .int .i64 1] w fun e w' => e = .returned (.int .u64 v) ∧ RdR w' r s'.1 s'.2 ∧ Ou (fun k => k = r) w w' := by subst hv; subst hs; exact nu_c h 1 (by decide) (by decide)
theorem nu2_c {w : World} {r : Nat} {s s' : Rs} {v : Int} (h : RdR w r s.1 s.2) (hv : nuV s 2 = v) (hs : nuS s 2 = s') :
    Calls Try.prog 19 #[.pointer (some ⟨r, 0, none⟩), .int .i64 2] w fun e w' => e = .returned (.int .u64 v) ∧ RdR w' r s'.1 s'.2 ∧ Ou (fun k => k = r) w w' := by subst hv; subst hs; exact nu_c h 2 (by decide) (by decide)
theorem nu4_c {w : World} {r : Nat} {s s' : Rs} {v : Int} (h : RdR w r s.1 s.2) (hv : nuV s 4 = v) (hs : nuS s 4 = s') :
    Calls Try.prog 19 #[.pointer (some ⟨r, 0, none⟩), .int .i64 4] w fun e w' => e = .returned (.int .u64 v) ∧ RdR w' r s'.1 s'.2 ∧ Ou (fun k => k = r) w w' := by subst hv; subst hs; exact nu_c h 4 (by decide) (by decide)
theorem nu_bd {w : World} {r : Nat} {s : Rs} (h : RdR w r s.1 s.2) (k : Nat) {v : Int} (hv : nuV s k = v) : 0 ≤ v ∧ v < 256 ^ k := by subst hv; exact nuV_bd s h.bytes k
set_option maxHeartbeats 8000000 in
theorem rloadCallee_c (a : Option Addr) (len cap : Nat) (zs : List Int) (w : World) (h : IsB w a len zs) (hc : len ≤ cap) (hnc : a = none → cap = 0) :
    Calls Try.prog 6 #[.slice a len cap] w (RldPost w zs) := by
  have hm := h.2.1
  unfold maxLen at hm
  have b0 : Below w.heap.size w (w.alloc (.cells #[.slice a len cap, .bool false] 62)) := (Below.refl _ _).alloc (Nat.le_refl _) _
  have R0 : Hid (RdR (w.alloc (.cells #[.slice a len cap, .bool false] 62)) w.heap.size false zs) := hid ⟨a, len, cap, heap_alloc_new w _, h.later b0, hc, by
    by_cases hl : len = 0
    · exact .inl ⟨hl, hnc⟩
    · obtain ⟨b, off, e, hcell⟩ := h.2.2.1 (by omega)
      exact .inr ⟨b, off, e, blt_of_cell (hcell 0 (by omega))⟩⟩
  have B0 := hid b0
  have hz0 : (w.alloc (.cells #[.slice a len cap, .bool false] 62)).heap.size = w.heap.size + 1 := by simp
  clear h b0
  generalize hr : w.heap.size = r at *
  go_enter Try.func6, Try.ntmps6
  go_wp2_with fail
  refine (rnewCallee_c _).mono ?_
  rintro _ w1 ⟨rfl, hK1, hb1⟩
  rw [hz0] at hK1 hb1 ⊢
  have R1 := hid (R0.out.later (by rw [hz0]; exact hb1))
  have B1 := hid (B0.out.trans (hb1.mono (by omega)))
  have K1 := hid hK1
  obtain ⟨g, hg⟩ : ∃ g, g = r + 1 := ⟨_, rfl⟩
  rw [← hg] at K1 ⊢
  have HG := hid hg
  have hgr : r < g := by omega
  clear hg hK1 hb1 R0 B0 hz0
  go_wp2
  go_loopw [6] (fun v6 wr => ∃ (j : Nat) (s : Rs) (F : Nat → Tk), j ≤ 3 ∧ v6 = .int .i64 ((j : Int) + 1) ∧ Hid (RdR wr r s.1 s.2) ∧ Hid (IsRK wr g F) ∧ Hid (Below r w wr) ∧ Hid (LS zs j s F)) (fun i _ => (4 - intOf i).toNat)
  case atStart => exact ⟨0, (false, zs), _, by omega, rfl, R1, K1, B1, hid (.inr ⟨rfl, rfl⟩)⟩
  case round =>
    obtain ⟨j, s, F, hj, rfl, RX, KX, BX, LX⟩ := hrel
    clear R1 K1 B1
    have hrw := RX.out.lt
    have hgw := KX.out.lt
    by_cases h3 : j < 3
    · have h3' : (j : Int) + 1 ≤ 3 := by omega
      obtain ⟨v, hv⟩ : ∃ v, nuV s 1 = v := ⟨_, rfl⟩
      obtain ⟨s0, hs0⟩ : ∃ s0, nuS s 1 = s0 := ⟨_, rfl⟩
      have N1 := hid (nu1_c RX.out hv hs0)
      have hvb := nu_bd RX.out 1 hv
      have HV := hid hv
      have HS0 := hid hs0
      have HZ := hid RX.out.bytes
      clear hv hs0
      go_wp2_with fail
      refine N1.out.mono ?_
      rintro _ w2 ⟨rfl, hR2, ho2⟩
      have hz2 := ho2.size
      have b3 : Below w2.heap.size w2 (w2.alloc (.cells #[.int .i64 v, .int .u32 0, .int .u32 0, .string ⟨#[]⟩] 66)) := (Below.refl _ _).alloc (Nat.le_refl _) _
      have R2 := hid hR2
      have K2 := hid (KX.out.out ho2 (by omega))
      have B2 := hid (BX.out.trans (ho2.below (by omega) (fun k e => by omega)))
      have R3 := hid (hR2.later b3)
      have K3 := hid ((KX.out.out ho2 (by omega)).later b3)
      have B3 := hid ((BX.out.trans (ho2.below (by omega) (fun k e => by omega))).trans (b3.mono (by omega)))
      have T3 : Hid (TkR (w2.alloc (.cells #[.int .i64 v, .int .u32 0, .int .u32 0, .string ⟨#[]⟩] 66)) w2.heap.size v 0 0 ⟨#[]⟩) := hid (heap_alloc_new w2 _)
      have hrt : r < w2.heap.size := by omega
      have hgt : g < w2.heap.size := by omega
      have hn1 : ¬ r = w2.heap.size := by omega
      have hn2 : ¬ w2.heap.size = r := by omega
      have hn3 : ¬ g = w2.heap.size := by omega
      have hn4 : ¬ w2.heap.size = g := by omega
      have hn5 : ¬ g = r := by omega
      have hn6 : ¬ r = g := by omega
      obtain ⟨ra, rc, c0, c1, f0, f1⟩ := R2.out.cells
      have hz3 : w2.heap.size < (w2.alloc (.cells #[.int .i64 v, .int .u32 0, .int .u32 0, .string ⟨#[]⟩] 66)).heap.size := T3.out.lt
      have hv0 := hvb.1
      have hv1 : v < 256 := by have := hvb.2; omega
      clear b3 hR2 ho2 N1 hvb RX KX BX
      by_cases hbig : 2 < v
      · have hbd : decide (2 < v) = true := decide_eq_true hbig
        have hvz : (v == 0) = false := by rw [beq_eq_false_iff_ne]; omega
        have LN : Hid (LS zs (j + 1) (true, s0.2) F) := hid (by rw [← HS0.out]; exact ls_big h3 LX.out (by rw [HV.out]; exact hbig))
        have o4 : Ou (fun k => k = r) w2 (w2.setCell ⟨r, 1, none⟩ (.bool true)) := (Ou.refl _ _).set rfl
        have b5 : Below (w2.setCell ⟨r, 1, none⟩ (.bool true)).heap.size (w2.setCell ⟨r, 1, none⟩ (.bool true)) ((w2.setCell ⟨r, 1, none⟩ (.bool true)).alloc (.cells #[.int .i64 v, .int .u32 0, .int .u32 0, .string ⟨#[]⟩] 66)) := (Below.refl _ _).alloc (Nat.le_refl _) _
        have R4 := hid (R2.out.bad.later b5)
        have K4 := hid ((K2.out.out o4 (by omega)).later b5)
        have hz4 := o4.size
        have B4 := hid ((B2.out.trans (o4.below (by omega) (fun k e => by omega))).trans (b5.mono (by omega)))
        clear o4 b5
        go_wp2
        go_roundw
        case rel => exact ⟨j + 1, (true, s0.2), F, by omega, by go_num, R4, K4, B4, LN⟩
        case measure => simp [intOf]; omega
      · by_cases hz : v = 0
        · have hbd : decide (2 < v) = false := decide_eq_false hbig
          have hvz : (v == 0) = true := by rw [hz]; rfl
          have LN : Hid (LS zs (j + 1) s0 F) := hid (by rw [← HS0.out]; exact ls_zero h3 LX.out (by rw [HV.out]; exact hz))
          clear hz
          go_wp2
          go_roundw
          case rel => exact ⟨j + 1, s0, F, by omega, by go_num, R3, K3, B3, LN⟩
          case measure => simp [intOf]; omega
        · have hbd : decide (2 < v) = false := decide_eq_false hbig
          have hvz : (v == 0) = false := by rw [beq_eq_false_iff_ne]; exact hz
          have hs1 : s0.1 = false := by rw [← HS0.out, (ls_ne LX.out (by rw [HV.out]; exact hz)).2.2.2.2]
          rw [hs1] at c1
          obtain ⟨e, he⟩ : ∃ e, nuV s0 4 = e := ⟨_, rfl⟩
          obtain ⟨s2, hs2⟩ : ∃ s2, nuS s0 4 = s2 := ⟨_, rfl⟩
          have N2 := hid (nu4_c R3.out he hs2)
          have heb := nu_bd R3.out 4 he
          have HE := hid he
          have HS2 := hid hs2
          clear he hs2
          go_wp2_with fail
          refine N2.out.mono ?_
          rintro _ w4 ⟨rfl, hR4, ho4⟩
          have R4 := hid hR4
          have K4 := hid (K3.out.out ho4 (by omega))
          have B4 := hid (B3.out.trans (ho4.below (by omega) (fun k e => by omega)))
          have T4 := hid (T3.out.out ho4 (by omega))
          have hz4 := ho4.size
          clear hR4 ho4 N2 c0 c1 f0 f1 hs1
          obtain ⟨q, hq⟩ : ∃ q, nuV s2 4 = q := ⟨_, rfl⟩
          obtain ⟨s3, hs3⟩ : ∃ s3, nuS s2 4 = s3 := ⟨_, rfl⟩
          have N3 := hid (nu4_c R4.out hq hs3)
          have hqb := nu_bd R4.out 4 hq
          have HQ := hid hq
          have HS3 := hid hs3
          clear hq hs3
          have he0 := heb.1
          have he1 : e < 4294967296 := by have := heb.2; omega
          have hq0 := hqb.1
          have hq1 : q < 4294967296 := by have := hqb.2; omega
          clear heb hqb
          go_wp2_with fail
          refine N3.out.mono ?_
          rintro _ w5 ⟨rfl, hR5, ho5⟩
          have R5 := hid hR5
          have K5 := hid (K4.out.out ho5 (by omega))
          have B5 := hid (B4.out.trans (ho5.below (by omega) (fun k e => by omega)))
          have T5 := hid (T4.out.out ho5 (by omega))
          have hz5 := ho5.size
          clear hR5 ho5 N3
          obtain ⟨t0, t1, t2, t3, tf⟩ := T5.out.cells
          have tf1 := tf 1
          have tf2 := tf 2
          have o6 : Ou (fun k => k = w2.heap.size) w5 ((w5.setCell ⟨w2.heap.size, 1, none⟩ (.int .u32 e)).setCell ⟨w2.heap.size, 2, none⟩ (.int .u32 q)) := ((Ou.refl (fun k => k = w2.heap.size) w5).set rfl).set rfl
          have R6 := hid (R5.out.out o6 (fun k e => by omega))
          have K6 := hid (K5.out.out o6 (by omega))
          have B6 := hid (B5.out.trans (o6.below (by omega) (fun k e => by omega)))
          have T6 := hid (T5.out.set1 e q)
          have hz6 := o6.size
          clear o6
          have ku1 : IntKind.u32.wrap e = e := by rw [IntKind.wrap_u32]; omega
          have ku2 : IntKind.u32.wrap q = q := by rw [IntKind.wrap_u32]; omega
          by_cases hqz : q = 0
          · have hqd : (q == 0) = true := by rw [hqz]; rfl
            have HQZ := hid hqz
            clear hqz
            obtain ⟨ra6, rc6, c0, c1, f0, f1⟩ := R5.out.cells
            obtain ⟨ra6, rc6, d0, d1, g0, g1⟩ := R6.out.cells
            have o7 : Ou (fun k => k = r) ((w5.setCell ⟨w2.heap.size, 1, none⟩ (.int .u32 e)).setCell ⟨w2.heap.size, 2, none⟩ (.int .u32 q)) (World.setCell ((w5.setCell ⟨w2.heap.size, 1, none⟩ (.int .u32 e)).setCell ⟨w2.heap.size, 2, none⟩ (.int .u32 q)) ⟨r, 1, none⟩ (.bool true)) := (Ou.refl _ _).set rfl
            have Rq := hid R6.out.bad
            have Kq := hid (K6.out.out o7 (by omega))
            have Bq := hid (B6.out.trans (o7.below (by omega) (fun k e => by omega)))
            have Tq := hid (T6.out.out o7 (by omega))
            have hzq := o7.size
            clear o7
            have H4 : Hid ((true, s3.2) = nzS q s3) := hid (by unfold nzS; rw [if_pos HQZ.out])
            by_cases hvt : v = 2
            · have hv2 : (v == 2) = true := by rw [hvt]; rfl
              obtain ⟨n, hn⟩ : ∃ n, nuV (true, s3.2) 2 = n := ⟨_, rfl⟩
              obtain ⟨s5, hs5⟩ : ∃ s5, nuS (true, s3.2) 2 = s5 := ⟨_, rfl⟩
              have N4 := hid (nu2_c (s := (true, s3.2)) Rq.out hn hs5)
              have hnb := nu_bd (s := (true, s3.2)) Rq.out 2 hn
              have HN := hid hn
              have HS5 := hid hs5
              have HVT := hid hvt
              clear hn hs5 hvt
              have hn0 := hnb.1
              have hn1' : n < 65536 := by have := hnb.2; omega
              clear hnb
              obtain ⟨z0, z1, z2, z3, zf⟩ := Tq.out.cells
              go_wp2_with fail
              refine N4.out.mono ?_
              rintro _ w7 ⟨rfl, hR7, ho7⟩
              have R7 := hid hR7
              have K7 := hid (Kq.out.out ho7 (by omega))
              have B7 := hid (Bq.out.trans (ho7.below (by omega) (fun k e => by omega)))
              have T7 := hid (Tq.out.out ho7 (by omega))
              have hz7 := ho7.size
              clear hR7 ho7 N4 z0 z1 z2 z3 zf
              obtain ⟨m, hm'⟩ : ∃ m : Nat, n = (m : Int) := ⟨n.toNat, by omega⟩
              subst hm'
              by_cases hng : (16384 : Int) < (m : Int)
              · have hngd : decide ((16384 : Int) < (m : Int)) = true := decide_eq_true hng
                obtain ⟨ra7, rc7, c0, c1, f0, f1⟩ := R7.out.cells
                have o8 : Ou (fun k => k = r) w7 (w7.setCell ⟨r, 1, none⟩ (.bool true)) := (Ou.refl _ _).set rfl
                have R8 := hid R7.out.bad
                have K8 := hid (K7.out.out o8 (by omega))
                have B8 := hid (B7.out.trans (o8.below (by omega) (fun k e => by omega)))
                have T8 := hid (T7.out.out o8 (by omega))
                have hz8 := o8.size
                clear o8
                have H6 : Hid ((true, s5.2) = bgS (m : Int) s5) := hid (by unfold bgS; rw [if_pos hng])
                have TA := hid (ta_c (s := (true, s5.2)) R8.out m (by omega))
                go_wp2_with fail
                refine TA.out.mono ?_
                rintro _ wa ⟨pp, pm, pc, rfl, hI, hRa, hoa⟩
                have Ra := hid hRa
                have Ka := hid (K8.out.out hoa (by omega))
                have Ba := hid (B8.out.trans (hoa.below (by omega) (fun k e => by omega)))
                have Ta := hid (T8.out.out hoa (by omega))
                have hza := hoa.size
                have CV := IsB.convL (cap := pc) hI
                obtain ⟨tx, htx⟩ : ∃ tx, Fr.tx (taL (true, s5.2) m) = tx := ⟨_, rfl⟩
                rw [htx] at CV
                have HTX := hid htx
                have HCV := hid CV
                clear hI hRa hoa TA htx CV
                go_wp2_with fail
                rw [HCV.out]
                obtain ⟨t0, t1, t2, t3, tf⟩ := Ta.out.cells
                have tf3 := tf 3
                have ob : Ou (fun k => k = w2.heap.size) wa (wa.setCell ⟨w2.heap.size, 3, none⟩ (.string tx)) := (Ou.refl _ _).set rfl
                have Rb := hid (Ra.out.out ob (fun k e => by omega))
                have Kb := hid (Ka.out.out ob (by omega))
                have Bb := hid (Ba.out.trans (ob.below (by omega) (fun k e => by omega)))
                have Tb := hid (Ta.out.set3 tx)
                have hzb := ob.size
                clear ob
                have LN : Hid (LS zs (j + 1) (taS (true, s5.2) m) (updK F (j + 1) ⟨v, e, q, tx⟩)) := hid (by
                  have h1 := ls_two (s := s) (s3 := (true, s3.2)) (s5 := (true, s5.2)) (e := e) (q := q) (n := (m : Int)) h3 LX.out (by rw [HV.out, HVT.out]) HZ.out (by rw [HS0.out, HE.out]) (by rw [HS0.out, HS2.out, HQ.out]) (by rw [HS0.out, HS2.out, HS3.out]; exact H4.out) HN.out.symm (by rw [HS5.out]; exact H6.out)
                  rw [Int.toNat_natCast, HTX.out] at h1
                  rw [HVT.out]
                  exact h1)
                obtain hjj | hjj | hjj : j = 0 ∨ j = 1 ∨ j = 2 := by omega
                · have hjI : ((j : Nat) : Int) + 1 = 1 := by omega
                  rw [hjI]
                  have HJ := hid hjj
                  clear hjj hjI h3'
                  obtain ⟨z0, z1, z2, z3, zf⟩ := Tb.out.cells
                  obtain ⟨k0, k1, k2, k3⟩ := Kb.out.at1
                  have y0 := Kb.out.fz 4
                  have y1 := Kb.out.fz 5
                  have y2 := Kb.out.fz 6
                  have y3 := Kb.out.fz 7
                  go_wp2_with fail
                  go_region
                  have K9 : Hid (IsRK (((((wa.setCell ⟨w2.heap.size, 3, none⟩ (.string tx)).setCell ⟨g, 4, none⟩ (.int .i64 v)).setCell ⟨g, 5, none⟩ (.int .u32 e)).setCell ⟨g, 6, none⟩ (.int .u32 q)).setCell ⟨g, 7, none⟩ (.string tx)) g (updK F (j + 1) ⟨v, e, q, tx⟩)) := hid (by rw [HJ.out]; exact Kb.out.upd1 ⟨v, e, q, tx⟩)
                  have o9 : Ou (fun k => k = g) (wa.setCell ⟨w2.heap.size, 3, none⟩ (.string tx)) (((((wa.setCell ⟨w2.heap.size, 3, none⟩ (.string tx)).setCell ⟨g, 4, none⟩ (.int .i64 v)).setCell ⟨g, 5, none⟩ (.int .u32 e)).setCell ⟨g, 6, none⟩ (.int .u32 q)).setCell ⟨g, 7, none⟩ (.string tx)).drew := (((((Ou.refl (fun k => k = g) (wa.setCell ⟨w2.heap.size, 3, none⟩ (.string tx))).set (o := 4) (v := .int .i64 v) rfl).set (o := 5) (v := .int .u32 e) rfl).set (o := 6) (v := .int .u32 q) rfl).set (o := 7) (v := .string tx) rfl).drew
                  have R9 := hid (Rb.out.out o9 (fun k e => by omega))
                  have B9 := hid (Bb.out.trans (o9.below (by omega) (fun k e => by omega)))
                  clear o9 z0 z1 z2 z3 zf k0 k1 k2 k3 y0 y1 y2 y3
                  go_wp2
                  go_roundw
                  case rel => exact ⟨j + 1, (taS (true, s5.2) m), _, by omega, by rw [HJ.out]; rfl, R9, hid (IsRK.drewR K9.out), B9, LN⟩
                  case measure => first | (simp [intOf]; done) | (simp [intOf]; have := HJ.out; omega)
                · have hjI : ((j : Nat) : Int) + 1 = 2 := by omega
                  rw [hjI]
                  have HJ := hid hjj
                  clear hjj hjI h3'
                  obtain ⟨z0, z1, z2, z3, zf⟩ := Tb.out.cells
                  obtain ⟨k0, k1, k2, k3⟩ := Kb.out.at2
                  have y0 := Kb.out.fz 8
                  have y1 := Kb.out.fz 9
                  have y2 := Kb.out.fz 10
                  have y3 := Kb.out.fz 11
                  go_wp2_with fail
                  go_region
                  have K9 : Hid (IsRK (((((wa.setCell ⟨w2.heap.size, 3, none⟩ (.string tx)).setCell ⟨g, 8, none⟩ (.int .i64 v)).setCell ⟨g, 9, none⟩ (.int .u32 e)).setCell ⟨g, 10, none⟩ (.int .u32 q)).setCell ⟨g, 11, none⟩ (.string tx)) g (updK F (j + 1) ⟨v, e, q, tx⟩)) := hid (by rw [HJ.out]; exact Kb.out.upd2 ⟨v, e, q, tx⟩)
                  have o9 : Ou (fun k => k = g) (wa.setCell ⟨w2.heap.size, 3, none⟩ (.string tx)) (((((wa.setCell ⟨w2.heap.size, 3, none⟩ (.string tx)).setCell ⟨g, 8, none⟩ (.int .i64 v)).setCell ⟨g, 9, none⟩ (.int .u32 e)).setCell ⟨g, 10, none⟩ (.int .u32 q)).setCell ⟨g, 11, none⟩ (.string tx)).drew := (((((Ou.refl (fun k => k = g) (wa.setCell ⟨w2.heap.size, 3, none⟩ (.string tx))).set (o := 8) (v := .int .i64 v) rfl).set (o := 9) (v := .int .u32 e) rfl).set (o := 10) (v := .int .u32 q) rfl).set (o := 11) (v := .string tx) rfl).drew
                  have R9 := hid (Rb.out.out o9 (fun k e => by omega))
                  have B9 := hid (Bb.out.trans (o9.below (by omega) (fun k e => by omega)))
                  clear o9 z0 z1 z2 z3 zf k0 k1 k2 k3 y0 y1 y2 y3
                  go_wp2
                  go_roundw
                  case rel => exact ⟨j + 1, (taS (true, s5.2) m), _, by omega, by rw [HJ.out]; rfl, R9, hid (IsRK.drewR K9.out), B9, LN⟩
                  case measure => first | (simp [intOf]; done) | (simp [intOf]; have := HJ.out; omega)
                · have hjI : ((j : Nat) : Int) + 1 = 3 := by omega
                  rw [hjI]
                  have HJ := hid hjj
                  clear hjj hjI h3'
                  obtain ⟨z0, z1, z2, z3, zf⟩ := Tb.out.cells
                  obtain ⟨k0, k1, k2, k3⟩ := Kb.out.at3
                  have y0 := Kb.out.fz 12
                  have y1 := Kb.out.fz 13
                  have y2 := Kb.out.fz 14
                  have y3 := Kb.out.fz 15
                  go_wp2_with fail
                  go_region
                  have K9 : Hid (IsRK (((((wa.setCell ⟨w2.heap.size, 3, none⟩ (.string tx)).setCell ⟨g, 12, none⟩ (.int .i64 v)).setCell ⟨g, 13, none⟩ (.int .u32 e)).setCell ⟨g, 14, none⟩ (.int .u32 q)).setCell ⟨g, 15, none⟩ (.string tx)) g (updK F (j + 1) ⟨v, e, q, tx⟩)) := hid (by rw [HJ.out]; exact Kb.out.upd3 ⟨v, e, q, tx⟩)
                  have o9 : Ou (fun k => k = g) (wa.setCell ⟨w2.heap.size, 3, none⟩ (.string tx)) (((((wa.setCell ⟨w2.heap.size, 3, none⟩ (.string tx)).setCell ⟨g, 12, none⟩ (.int .i64 v)).setCell ⟨g, 13, none⟩ (.int .u32 e)).setCell ⟨g, 14, none⟩ (.int .u32 q)).setCell ⟨g, 15, none⟩ (.string tx)).drew := (((((Ou.refl (fun k => k = g) (wa.setCell ⟨w2.heap.size, 3, none⟩ (.string tx))).set (o := 12) (v := .int .i64 v) rfl).set (o := 13) (v := .int .u32 e) rfl).set (o := 14) (v := .int .u32 q) rfl).set (o := 15) (v := .string tx) rfl).drew
                  have R9 := hid (Rb.out.out o9 (fun k e => by omega))
                  have B9 := hid (Bb.out.trans (o9.below (by omega) (fun k e => by omega)))
                  clear o9 z0 z1 z2 z3 zf k0 k1 k2 k3 y0 y1 y2 y3
                  go_wp2
                  go_roundw
                  case rel => exact ⟨j + 1, (taS (true, s5.2) m), _, by omega, by rw [HJ.out]; rfl, R9, hid (IsRK.drewR K9.out), B9, LN⟩
                  case measure => first | (simp [intOf]; done) | (simp [intOf]; have := HJ.out; omega)
              · have hngd : decide ((16384 : Int) < (m : Int)) = false := decide_eq_false hng
                have H6 : Hid (s5 = bgS (m : Int) s5) := hid (by unfold bgS; rw [if_neg hng])
                have TA := hid (ta_c (s := s5) R7.out m (by omega))
                go_wp2_with fail
                refine TA.out.mono ?_
                rintro _ wa ⟨pp, pm, pc, rfl, hI, hRa, hoa⟩
                have Ra := hid hRa
                have Ka := hid (K7.out.out hoa (by omega))
                have Ba := hid (B7.out.trans (hoa.below (by omega) (fun k e => by omega)))
                have Ta := hid (T7.out.out hoa (by omega))
                have hza := hoa.size
                have CV := IsB.convL (cap := pc) hI
                obtain ⟨tx, htx⟩ : ∃ tx, Fr.tx (taL s5 m) = tx := ⟨_, rfl⟩
                rw [htx] at CV
                have HTX := hid htx
                have HCV := hid CV
                clear hI hRa hoa TA htx CV
                go_wp2_with fail
                rw [HCV.out]
                obtain ⟨t0, t1, t2, t3, tf⟩ := Ta.out.cells
                have tf3 := tf 3
                have ob : Ou (fun k => k = w2.heap.size) wa (wa.setCell ⟨w2.heap.size, 3, none⟩ (.string tx)) := (Ou.refl _ _).set rfl
                have Rb := hid (Ra.out.out ob (fun k e => by omega))
                have Kb := hid (Ka.out.out ob (by omega))
                have Bb := hid (Ba.out.trans (ob.below (by omega) (fun k e => by omega)))
                have Tb := hid (Ta.out.set3 tx)
                have hzb := ob.size
                clear ob
                have LN : Hid (LS zs (j + 1) (taS s5 m) (updK F (j + 1) ⟨v, e, q, tx⟩)) := hid (by
                  have h1 := ls_two (s := s) (s3 := (true, s3.2)) (s5 := s5) (e := e) (q := q) (n := (m : Int)) h3 LX.out (by rw [HV.out, HVT.out]) HZ.out (by rw [HS0.out, HE.out]) (by rw [HS0.out, HS2.out, HQ.out]) (by rw [HS0.out, HS2.out, HS3.out]; exact H4.out) HN.out.symm (by rw [HS5.out]; exact H6.out)
                  rw [Int.toNat_natCast, HTX.out] at h1
                  rw [HVT.out]
                  exact h1)
                obtain hjj | hjj | hjj : j = 0 ∨ j = 1 ∨ j = 2 := by omega
                · have hjI : ((j : Nat) : Int) + 1 = 1 := by omega
                  rw [hjI]
                  have HJ := hid hjj
                  clear hjj hjI h3'
                  obtain ⟨z0, z1, z2, z3, zf⟩ := Tb.out.cells
                  obtain ⟨k0, k1, k2, k3⟩ := Kb.out.at1
                  have y0 := Kb.out.fz 4
                  have y1 := Kb.out.fz 5
                  have y2 := Kb.out.fz 6
                  have y3 := Kb.out.fz 7
                  go_wp2_with fail
                  go_region
                  have K9 : Hid (IsRK (((((wa.setCell ⟨w2.heap.size, 3, none⟩ (.string tx)).setCell ⟨g, 4, none⟩ (.int .i64 v)).setCell ⟨g, 5, none⟩ (.int .u32 e)).setCell ⟨g, 6, none⟩ (.int .u32 q)).setCell ⟨g, 7, none⟩ (.string tx)) g (updK F (j + 1) ⟨v, e, q, tx⟩)) := hid (by rw [HJ.out]; exact Kb.out.upd1 ⟨v, e, q, tx⟩)
                  have o9 : Ou (fun k => k = g) (wa.setCell ⟨w2.heap.size, 3, none⟩ (.string tx)) (((((wa.setCell ⟨w2.heap.size, 3, none⟩ (.string tx)).setCell ⟨g, 4, none⟩ (.int .i64 v)).setCell ⟨g, 5, none⟩ (.int .u32 e)).setCell ⟨g, 6, none⟩ (.int .u32 q)).setCell ⟨g, 7, none⟩ (.string tx)).drew := (((((Ou.refl (fun k => k = g) (wa.setCell ⟨w2.heap.size, 3, none⟩ (.string tx))).set (o := 4) (v := .int .i64 v) rfl).set (o := 5) (v := .int .u32 e) rfl).set (o := 6) (v := .int .u32 q) rfl).set (o := 7) (v := .string tx) rfl).drew
                  have R9 := hid (Rb.out.out o9 (fun k e => by omega))
                  have B9 := hid (Bb.out.trans (o9.below (by omega) (fun k e => by omega)))
                  clear o9 z0 z1 z2 z3 zf k0 k1 k2 k3 y0 y1 y2 y3
                  go_wp2
                  go_roundw
                  case rel => exact ⟨j + 1, (taS s5 m), _, by omega, by rw [HJ.out]; rfl, R9, hid (IsRK.drewR K9.out), B9, LN⟩
                  case measure => first | (simp [intOf]; done) | (simp [intOf]; have := HJ.out; omega)
                · have hjI : ((j : Nat) : Int) + 1 = 2 := by omega
                  rw [hjI]
                  have HJ := hid hjj
                  clear hjj hjI h3'
                  obtain ⟨z0, z1, z2, z3, zf⟩ := Tb.out.cells
                  obtain ⟨k0, k1, k2, k3⟩ := Kb.out.at2
                  have y0 := Kb.out.fz 8
                  have y1 := Kb.out.fz 9
                  have y2 := Kb.out.fz 10
                  have y3 := Kb.out.fz 11
                  go_wp2_with fail
                  go_region
                  have K9 : Hid (IsRK (((((wa.setCell ⟨w2.heap.size, 3, none⟩ (.string tx)).setCell ⟨g, 8, none⟩ (.int .i64 v)).setCell ⟨g, 9, none⟩ (.int .u32 e)).setCell ⟨g, 10, none⟩ (.int .u32 q)).setCell ⟨g, 11, none⟩ (.string tx)) g (updK F (j + 1) ⟨v, e, q, tx⟩)) := hid (by rw [HJ.out]; exact Kb.out.upd2 ⟨v, e, q, tx⟩)
                  have o9 : Ou (fun k => k = g) (wa.setCell ⟨w2.heap.size, 3, none⟩ (.string tx)) (((((wa.setCell ⟨w2.heap.size, 3, none⟩ (.string tx)).setCell ⟨g, 8, none⟩ (.int .i64 v)).setCell ⟨g, 9, none⟩ (.int .u32 e)).setCell ⟨g, 10, none⟩ (.int .u32 q)).setCell ⟨g, 11, none⟩ (.string tx)).drew := (((((Ou.refl (fun k => k = g) (wa.setCell ⟨w2.heap.size, 3, none⟩ (.string tx))).set (o := 8) (v := .int .i64 v) rfl).set (o := 9) (v := .int .u32 e) rfl).set (o := 10) (v := .int .u32 q) rfl).set (o := 11) (v := .string tx) rfl).drew
                  have R9 := hid (Rb.out.out o9 (fun k e => by omega))
                  have B9 := hid (Bb.out.trans (o9.below (by omega) (fun k e => by omega)))
                  clear o9 z0 z1 z2 z3 zf k0 k1 k2 k3 y0 y1 y2 y3
                  go_wp2
                  go_roundw
                  case rel => exact ⟨j + 1, (taS s5 m), _, by omega, by rw [HJ.out]; rfl, R9, hid (IsRK.drewR K9.out), B9, LN⟩
                  case measure => first | (simp [intOf]; done) | (simp [intOf]; have := HJ.out; omega)
                · have hjI : ((j : Nat) : Int) + 1 = 3 := by omega
                  rw [hjI]
                  have HJ := hid hjj
                  clear hjj hjI h3'
                  obtain ⟨z0, z1, z2, z3, zf⟩ := Tb.out.cells
                  obtain ⟨k0, k1, k2, k3⟩ := Kb.out.at3
                  have y0 := Kb.out.fz 12
                  have y1 := Kb.out.fz 13
                  have y2 := Kb.out.fz 14
                  have y3 := Kb.out.fz 15
                  go_wp2_with fail
                  go_region
                  have K9 : Hid (IsRK (((((wa.setCell ⟨w2.heap.size, 3, none⟩ (.string tx)).setCell ⟨g, 12, none⟩ (.int .i64 v)).setCell ⟨g, 13, none⟩ (.int .u32 e)).setCell ⟨g, 14, none⟩ (.int .u32 q)).setCell ⟨g, 15, none⟩ (.string tx)) g (updK F (j + 1) ⟨v, e, q, tx⟩)) := hid (by rw [HJ.out]; exact Kb.out.upd3 ⟨v, e, q, tx⟩)
                  have o9 : Ou (fun k => k = g) (wa.setCell ⟨w2.heap.size, 3, none⟩ (.string tx)) (((((wa.setCell ⟨w2.heap.size, 3, none⟩ (.string tx)).setCell ⟨g, 12, none⟩ (.int .i64 v)).setCell ⟨g, 13, none⟩ (.int .u32 e)).setCell ⟨g, 14, none⟩ (.int .u32 q)).setCell ⟨g, 15, none⟩ (.string tx)).drew := (((((Ou.refl (fun k => k = g) (wa.setCell ⟨w2.heap.size, 3, none⟩ (.string tx))).set (o := 12) (v := .int .i64 v) rfl).set (o := 13) (v := .int .u32 e) rfl).set (o := 14) (v := .int .u32 q) rfl).set (o := 15) (v := .string tx) rfl).drew
                  have R9 := hid (Rb.out.out o9 (fun k e => by omega))
                  have B9 := hid (Bb.out.trans (o9.below (by omega) (fun k e => by omega)))
                  clear o9 z0 z1 z2 z3 zf k0 k1 k2 k3 y0 y1 y2 y3
                  go_wp2
                  go_roundw
                  case rel => exact ⟨j + 1, (taS s5 m), _, by omega, by rw [HJ.out]; rfl, R9, hid (IsRK.drewR K9.out), B9, LN⟩
                  case measure => first | (simp [intOf]; done) | (simp [intOf]; have := HJ.out; omega)
            · have hv2 : (v == 2) = false := by rw [beq_eq_false_iff_ne]; omega
              have LN : Hid (LS zs (j + 1) (true, s3.2) (updK F (j + 1) ⟨v, e, q, ⟨#[]⟩⟩)) := hid (by
                have h1 := ls_one h3 LX.out (by rw [HV.out]; omega)
                rw [HS0.out, HE.out, HS2.out, HQ.out, HS3.out] at h1
                rw [show v = 1 from by omega, H4.out]
                exact h1)
              obtain hjj | hjj | hjj : j = 0 ∨ j = 1 ∨ j = 2 := by omega
              · have hjI : ((j : Nat) : Int) + 1 = 1 := by omega
                rw [hjI]
                have HJ := hid hjj
                clear hjj hjI h3'
                obtain ⟨z0, z1, z2, z3, zf⟩ := Tq.out.cells
                obtain ⟨k0, k1, k2, k3⟩ := Kq.out.at1
                have y0 := Kq.out.fz 4
                have y1 := Kq.out.fz 5
                have y2 := Kq.out.fz 6
                have y3 := Kq.out.fz 7
                go_wp2_with fail
                go_region
                have K9 : Hid (IsRK (((((World.setCell ((w5.setCell ⟨w2.heap.size, 1, none⟩ (.int .u32 e)).setCell ⟨w2.heap.size, 2, none⟩ (.int .u32 q)) ⟨r, 1, none⟩ (.bool true)).setCell ⟨g, 4, none⟩ (.int .i64 v)).setCell ⟨g, 5, none⟩ (.int .u32 e)).setCell ⟨g, 6, none⟩ (.int .u32 q)).setCell ⟨g, 7, none⟩ (.string ⟨#[]⟩)) g (updK F (j + 1) ⟨v, e, q, ⟨#[]⟩⟩)) := hid (by rw [HJ.out]; exact Kq.out.upd1 ⟨v, e, q, ⟨#[]⟩⟩)
                have o9 : Ou (fun k => k = g) (World.setCell ((w5.setCell ⟨w2.heap.size, 1, none⟩ (.int .u32 e)).setCell ⟨w2.heap.size, 2, none⟩ (.int .u32 q)) ⟨r, 1, none⟩ (.bool true)) (((((World.setCell ((w5.setCell ⟨w2.heap.size, 1, none⟩ (.int .u32 e)).setCell ⟨w2.heap.size, 2, none⟩ (.int .u32 q)) ⟨r, 1, none⟩ (.bool true)).setCell ⟨g, 4, none⟩ (.int .i64 v)).setCell ⟨g, 5, none⟩ (.int .u32 e)).setCell ⟨g, 6, none⟩ (.int .u32 q)).setCell ⟨g, 7, none⟩ (.string ⟨#[]⟩)).drew := (((((Ou.refl (fun k => k = g) (World.setCell ((w5.setCell ⟨w2.heap.size, 1, none⟩ (.int .u32 e)).setCell ⟨w2.heap.size, 2, none⟩ (.int .u32 q)) ⟨r, 1, none⟩ (.bool true))).set (o := 4) (v := .int .i64 v) rfl).set (o := 5) (v := .int .u32 e) rfl).set (o := 6) (v := .int .u32 q) rfl).set (o := 7) (v := .string ⟨#[]⟩) rfl).drew
                have R9 := hid (Rq.out.out o9 (fun k e => by omega))
                have B9 := hid (Bq.out.trans (o9.below (by omega) (fun k e => by omega)))
                clear o9 z0 z1 z2 z3 zf k0 k1 k2 k3 y0 y1 y2 y3
                go_wp2
                go_roundw
                case rel => exact ⟨j + 1, (true, s3.2), _, by omega, by rw [HJ.out]; rfl, R9, hid (IsRK.drewR K9.out), B9, LN⟩
                case measure => first | (simp [intOf]; done) | (simp [intOf]; have := HJ.out; omega)
              · have hjI : ((j : Nat) : Int) + 1 = 2 := by omega
                rw [hjI]
                have HJ := hid hjj
                clear hjj hjI h3'
                obtain ⟨z0, z1, z2, z3, zf⟩ := Tq.out.cells
                obtain ⟨k0, k1, k2, k3⟩ := Kq.out.at2
                have y0 := Kq.out.fz 8
                have y1 := Kq.out.fz 9
                have y2 := Kq.out.fz 10
                have y3 := Kq.out.fz 11
                go_wp2_with fail
                go_region
                have K9 : Hid (IsRK (((((World.setCell ((w5.setCell ⟨w2.heap.size, 1, none⟩ (.int .u32 e)).setCell ⟨w2.heap.size, 2, none⟩ (.int .u32 q)) ⟨r, 1, none⟩ (.bool true)).setCell ⟨g, 8, none⟩ (.int .i64 v)).setCell ⟨g, 9, none⟩ (.int .u32 e)).setCell ⟨g, 10, none⟩ (.int .u32 q)).setCell ⟨g, 11, none⟩ (.string ⟨#[]⟩)) g (updK F (j + 1) ⟨v, e, q, ⟨#[]⟩⟩)) := hid (by rw [HJ.out]; exact Kq.out.upd2 ⟨v, e, q, ⟨#[]⟩⟩)
                have o9 : Ou (fun k => k = g) (World.setCell ((w5.setCell ⟨w2.heap.size, 1, none⟩ (.int .u32 e)).setCell ⟨w2.heap.size, 2, none⟩ (.int .u32 q)) ⟨r, 1, none⟩ (.bool true)) (((((World.setCell ((w5.setCell ⟨w2.heap.size, 1, none⟩ (.int .u32 e)).setCell ⟨w2.heap.size, 2, none⟩ (.int .u32 q)) ⟨r, 1, none⟩ (.bool true)).setCell ⟨g, 8, none⟩ (.int .i64 v)).setCell ⟨g, 9, none⟩ (.int .u32 e)).setCell ⟨g, 10, none⟩ (.int .u32 q)).setCell ⟨g, 11, none⟩ (.string ⟨#[]⟩)).drew := (((((Ou.refl (fun k => k = g) (World.setCell ((w5.setCell ⟨w2.heap.size, 1, none⟩ (.int .u32 e)).setCell ⟨w2.heap.size, 2, none⟩ (.int .u32 q)) ⟨r, 1, none⟩ (.bool true))).set (o := 8) (v := .int .i64 v) rfl).set (o := 9) (v := .int .u32 e) rfl).set (o := 10) (v := .int .u32 q) rfl).set (o := 11) (v := .string ⟨#[]⟩) rfl).drew
                have R9 := hid (Rq.out.out o9 (fun k e => by omega))
                have B9 := hid (Bq.out.trans (o9.below (by omega) (fun k e => by omega)))
                clear o9 z0 z1 z2 z3 zf k0 k1 k2 k3 y0 y1 y2 y3
                go_wp2
                go_roundw
                case rel => exact ⟨j + 1, (true, s3.2), _, by omega, by rw [HJ.out]; rfl, R9, hid (IsRK.drewR K9.out), B9, LN⟩
                case measure => first | (simp [intOf]; done) | (simp [intOf]; have := HJ.out; omega)
              · have hjI : ((j : Nat) : Int) + 1 = 3 := by omega
                rw [hjI]
                have HJ := hid hjj
                clear hjj hjI h3'
                obtain ⟨z0, z1, z2, z3, zf⟩ := Tq.out.cells
                obtain ⟨k0, k1, k2, k3⟩ := Kq.out.at3
                have y0 := Kq.out.fz 12
                have y1 := Kq.out.fz 13
                have y2 := Kq.out.fz 14
                have y3 := Kq.out.fz 15
                go_wp2_with fail
                go_region
                have K9 : Hid (IsRK (((((World.setCell ((w5.setCell ⟨w2.heap.size, 1, none⟩ (.int .u32 e)).setCell ⟨w2.heap.size, 2, none⟩ (.int .u32 q)) ⟨r, 1, none⟩ (.bool true)).setCell ⟨g, 12, none⟩ (.int .i64 v)).setCell ⟨g, 13, none⟩ (.int .u32 e)).setCell ⟨g, 14, none⟩ (.int .u32 q)).setCell ⟨g, 15, none⟩ (.string ⟨#[]⟩)) g (updK F (j + 1) ⟨v, e, q, ⟨#[]⟩⟩)) := hid (by rw [HJ.out]; exact Kq.out.upd3 ⟨v, e, q, ⟨#[]⟩⟩)
                have o9 : Ou (fun k => k = g) (World.setCell ((w5.setCell ⟨w2.heap.size, 1, none⟩ (.int .u32 e)).setCell ⟨w2.heap.size, 2, none⟩ (.int .u32 q)) ⟨r, 1, none⟩ (.bool true)) (((((World.setCell ((w5.setCell ⟨w2.heap.size, 1, none⟩ (.int .u32 e)).setCell ⟨w2.heap.size, 2, none⟩ (.int .u32 q)) ⟨r, 1, none⟩ (.bool true)).setCell ⟨g, 12, none⟩ (.int .i64 v)).setCell ⟨g, 13, none⟩ (.int .u32 e)).setCell ⟨g, 14, none⟩ (.int .u32 q)).setCell ⟨g, 15, none⟩ (.string ⟨#[]⟩)).drew := (((((Ou.refl (fun k => k = g) (World.setCell ((w5.setCell ⟨w2.heap.size, 1, none⟩ (.int .u32 e)).setCell ⟨w2.heap.size, 2, none⟩ (.int .u32 q)) ⟨r, 1, none⟩ (.bool true))).set (o := 12) (v := .int .i64 v) rfl).set (o := 13) (v := .int .u32 e) rfl).set (o := 14) (v := .int .u32 q) rfl).set (o := 15) (v := .string ⟨#[]⟩) rfl).drew
                have R9 := hid (Rq.out.out o9 (fun k e => by omega))
                have B9 := hid (Bq.out.trans (o9.below (by omega) (fun k e => by omega)))
                clear o9 z0 z1 z2 z3 zf k0 k1 k2 k3 y0 y1 y2 y3
                go_wp2
                go_roundw
                case rel => exact ⟨j + 1, (true, s3.2), _, by omega, by rw [HJ.out]; rfl, R9, hid (IsRK.drewR K9.out), B9, LN⟩
                case measure => first | (simp [intOf]; done) | (simp [intOf]; have := HJ.out; omega)
          · have hqd : (q == 0) = false := by rw [beq_eq_false_iff_ne]; exact hqz
            have HQZ := hid hqz
            clear hqz
            have H4 : Hid (s3 = nzS q s3) := hid (by unfold nzS; rw [if_neg HQZ.out])
            by_cases hvt : v = 2
            · have hv2 : (v == 2) = true := by rw [hvt]; rfl
              obtain ⟨n, hn⟩ : ∃ n, nuV s3 2 = n := ⟨_, rfl⟩
              obtain ⟨s5, hs5⟩ : ∃ s5, nuS s3 2 = s5 := ⟨_, rfl⟩
              have N4 := hid (nu2_c (s := s3) R6.out hn hs5)
              have hnb := nu_bd (s := s3) R6.out 2 hn
              have HN := hid hn
              have HS5 := hid hs5
              have HVT := hid hvt
              clear hn hs5 hvt
              have hn0 := hnb.1
              have hn1' : n < 65536 := by have := hnb.2; omega
              clear hnb
              obtain ⟨z0, z1, z2, z3, zf⟩ := T6.out.cells
              go_wp2_with fail
              refine N4.out.mono ?_
              rintro _ w7 ⟨rfl, hR7, ho7⟩
              have R7 := hid hR7
              have K7 := hid (K6.out.out ho7 (by omega))
              have B7 := hid (B6.out.trans (ho7.below (by omega) (fun k e => by omega)))
              have T7 := hid (T6.out.out ho7 (by omega))
              have hz7 := ho7.size
              clear hR7 ho7 N4 z0 z1 z2 z3 zf
              obtain ⟨m, hm'⟩ : ∃ m : Nat, n = (m : Int) := ⟨n.toNat, by omega⟩
              subst hm'
              by_cases hng : (16384 : Int) < (m : Int)
              · have hngd : decide ((16384 : Int) < (m : Int)) = true := decide_eq_true hng
                obtain ⟨ra7, rc7, c0, c1, f0, f1⟩ := R7.out.cells
                have o8 : Ou (fun k => k = r) w7 (w7.setCell ⟨r, 1, none⟩ (.bool true)) := (Ou.refl _ _).set rfl
                have R8 := hid R7.out.bad
                have K8 := hid (K7.out.out o8 (by omega))
                have B8 := hid (B7.out.trans (o8.below (by omega) (fun k e => by omega)))
                have T8 := hid (T7.out.out o8 (by omega))
                have hz8 := o8.size
                clear o8
                have H6 : Hid ((true, s5.2) = bgS (m : Int) s5) := hid (by unfold bgS; rw [if_pos hng])
                have TA := hid (ta_c (s := (true, s5.2)) R8.out m (by omega))
                go_wp2_with fail
                refine TA.out.mono ?_
                rintro _ wa ⟨pp, pm, pc, rfl, hI, hRa, hoa⟩
                have Ra := hid hRa
                have Ka := hid (K8.out.out hoa (by omega))
                have Ba := hid (B8.out.trans (hoa.below (by omega) (fun k e => by omega)))
                have Ta := hid (T8.out.out hoa (by omega))
                have hza := hoa.size
                have CV := IsB.convL (cap := pc) hI
                obtain ⟨tx, htx⟩ : ∃ tx, Fr.tx (taL (true, s5.2) m) = tx := ⟨_, rfl⟩
                rw [htx] at CV
                have HTX := hid htx
                have HCV := hid CV
                clear hI hRa hoa TA htx CV
                go_wp2_with fail
                rw [HCV.out]
                obtain ⟨t0, t1, t2, t3, tf⟩ := Ta.out.cells
                have tf3 := tf 3
                have ob : Ou (fun k => k = w2.heap.size) wa (wa.setCell ⟨w2.heap.size, 3, none⟩ (.string tx)) := (Ou.refl _ _).set rfl
                have Rb := hid (Ra.out.out ob (fun k e => by omega))
                have Kb := hid (Ka.out.out ob (by omega))
                have Bb := hid (Ba.out.trans (ob.below (by omega) (fun k e => by omega)))
                have Tb := hid (Ta.out.set3 tx)
                have hzb := ob.size
                clear ob
                have LN : Hid (LS zs (j + 1) (taS (true, s5.2) m) (updK F (j + 1) ⟨v, e, q, tx⟩)) := hid (by
                  have h1 := ls_two (s := s) (s3 := s3) (s5 := (true, s5.2)) (e := e) (q := q) (n := (m : Int)) h3 LX.out (by rw [HV.out, HVT.out]) HZ.out (by rw [HS0.out, HE.out]) (by rw [HS0.out, HS2.out, HQ.out]) (by rw [HS0.out, HS2.out, HS3.out]; exact H4.out) HN.out.symm (by rw [HS5.out]; exact H6.out)
                  rw [Int.toNat_natCast, HTX.out] at h1
                  rw [HVT.out]
                  exact h1)
                obtain hjj | hjj | hjj : j = 0 ∨ j = 1 ∨ j = 2 := by omega
                · have hjI : ((j : Nat) : Int) + 1 = 1 := by omega
                  rw [hjI]
                  have HJ := hid hjj
                  clear hjj hjI h3'
                  obtain ⟨z0, z1, z2, z3, zf⟩ := Tb.out.cells
                  obtain ⟨k0, k1, k2, k3⟩ := Kb.out.at1
                  have y0 := Kb.out.fz 4
                  have y1 := Kb.out.fz 5
                  have y2 := Kb.out.fz 6
                  have y3 := Kb.out.fz 7
                  go_wp2_with fail
                  go_region
                  have K9 : Hid (IsRK (((((wa.setCell ⟨w2.heap.size, 3, none⟩ (.string tx)).setCell ⟨g, 4, none⟩ (.int .i64 v)).setCell ⟨g, 5, none⟩ (.int .u32 e)).setCell ⟨g, 6, none⟩ (.int .u32 q)).setCell ⟨g, 7, none⟩ (.string tx)) g (updK F (j + 1) ⟨v, e, q, tx⟩)) := hid (by rw [HJ.out]; exact Kb.out.upd1 ⟨v, e, q, tx⟩)
                  have o9 : Ou (fun k => k = g) (wa.setCell ⟨w2.heap.size, 3, none⟩ (.string tx)) (((((wa.setCell ⟨w2.heap.size, 3, none⟩ (.string tx)).setCell ⟨g, 4, none⟩ (.int .i64 v)).setCell ⟨g, 5, none⟩ (.int .u32 e)).setCell ⟨g, 6, none⟩ (.int .u32 q)).setCell ⟨g, 7, none⟩ (.string tx)).drew := (((((Ou.refl (fun k => k = g) (wa.setCell ⟨w2.heap.size, 3, none⟩ (.string tx))).set (o := 4) (v := .int .i64 v) rfl).set (o := 5) (v := .int .u32 e) rfl).set (o := 6) (v := .int .u32 q) rfl).set (o := 7) (v := .string tx) rfl).drew
                  have R9 := hid (Rb.out.out o9 (fun k e => by omega))
                  have B9 := hid (Bb.out.trans (o9.below (by omega) (fun k e => by omega)))
                  clear o9 z0 z1 z2 z3 zf k0 k1 k2 k3 y0 y1 y2 y3
                  go_wp2
                  go_roundw
                  case rel => exact ⟨j + 1, (taS (true, s5.2) m), _, by omega, by rw [HJ.out]; rfl, R9, hid (IsRK.drewR K9.out), B9, LN⟩
                  case measure => first | (simp [intOf]; done) | (simp [intOf]; have := HJ.out; omega)
                · have hjI : ((j : Nat) : Int) + 1 = 2 := by omega
                  rw [hjI]
                  have HJ := hid hjj
                  clear hjj hjI h3'
                  obtain ⟨z0, z1, z2, z3, zf⟩ := Tb.out.cells
                  obtain ⟨k0, k1, k2, k3⟩ := Kb.out.at2
                  have y0 := Kb.out.fz 8
                  have y1 := Kb.out.fz 9
                  have y2 := Kb.out.fz 10
                  have y3 := Kb.out.fz 11
                  go_wp2_with fail
                  go_region
                  have K9 : Hid (IsRK (((((wa.setCell ⟨w2.heap.size, 3, none⟩ (.string tx)).setCell ⟨g, 8, none⟩ (.int .i64 v)).setCell ⟨g, 9, none⟩ (.int .u32 e)).setCell ⟨g, 10, none⟩ (.int .u32 q)).setCell ⟨g, 11, none⟩ (.string tx)) g (updK F (j + 1) ⟨v, e, q, tx⟩)) := hid (by rw [HJ.out]; exact Kb.out.upd2 ⟨v, e, q, tx⟩)
                  have o9 : Ou (fun k => k = g) (wa.setCell ⟨w2.heap.size, 3, none⟩ (.string tx)) (((((wa.setCell ⟨w2.heap.size, 3, none⟩ (.string tx)).setCell ⟨g, 8, none⟩ (.int .i64 v)).setCell ⟨g, 9, none⟩ (.int .u32 e)).setCell ⟨g, 10, none⟩ (.int .u32 q)).setCell ⟨g, 11, none⟩ (.string tx)).drew := (((((Ou.refl (fun k => k = g) (wa.setCell ⟨w2.heap.size, 3, none⟩ (.string tx))).set (o := 8) (v := .int .i64 v) rfl).set (o := 9) (v := .int .u32 e) rfl).set (o := 10) (v := .int .u32 q) rfl).set (o := 11) (v := .string tx) rfl).drew
                  have R9 := hid (Rb.out.out o9 (fun k e => by omega))
                  have B9 := hid (Bb.out.trans (o9.below (by omega) (fun k e => by omega)))
                  clear o9 z0 z1 z2 z3 zf k0 k1 k2 k3 y0 y1 y2 y3
                  go_wp2
                  go_roundw
                  case rel => exact ⟨j + 1, (taS (true, s5.2) m), _, by omega, by rw [HJ.out]; rfl, R9, hid (IsRK.drewR K9.out), B9, LN⟩
                  case measure => first | (simp [intOf]; done) | (simp [intOf]; have := HJ.out; omega)
                · have hjI : ((j : Nat) : Int) + 1 = 3 := by omega
                  rw [hjI]
                  have HJ := hid hjj
                  clear hjj hjI h3'
                  obtain ⟨z0, z1, z2, z3, zf⟩ := Tb.out.cells
                  obtain ⟨k0, k1, k2, k3⟩ := Kb.out.at3
                  have y0 := Kb.out.fz 12
                  have y1 := Kb.out.fz 13
                  have y2 := Kb.out.fz 14
                  have y3 := Kb.out.fz 15
                  go_wp2_with fail
                  go_region
                  have K9 : Hid (IsRK (((((wa.setCell ⟨w2.heap.size, 3, none⟩ (.string tx)).setCell ⟨g, 12, none⟩ (.int .i64 v)).setCell ⟨g, 13, none⟩ (.int .u32 e)).setCell ⟨g, 14, none⟩ (.int .u32 q)).setCell ⟨g, 15, none⟩ (.string tx)) g (updK F (j + 1) ⟨v, e, q, tx⟩)) := hid (by rw [HJ.out]; exact Kb.out.upd3 ⟨v, e, q, tx⟩)
                  have o9 : Ou (fun k => k = g) (wa.setCell ⟨w2.heap.size, 3, none⟩ (.string tx)) (((((wa.setCell ⟨w2.heap.size, 3, none⟩ (.string tx)).setCell ⟨g, 12, none⟩ (.int .i64 v)).setCell ⟨g, 13, none⟩ (.int .u32 e)).setCell ⟨g, 14, none⟩ (.int .u32 q)).setCell ⟨g, 15, none⟩ (.string tx)).drew := (((((Ou.refl (fun k => k = g) (wa.setCell ⟨w2.heap.size, 3, none⟩ (.string tx))).set (o := 12) (v := .int .i64 v) rfl).set (o := 13) (v := .int .u32 e) rfl).set (o := 14) (v := .int .u32 q) rfl).set (o := 15) (v := .string tx) rfl).drew
                  have R9 := hid (Rb.out.out o9 (fun k e => by omega))
                  have B9 := hid (Bb.out.trans (o9.below (by omega) (fun k e => by omega)))
                  clear o9 z0 z1 z2 z3 zf k0 k1 k2 k3 y0 y1 y2 y3
                  go_wp2
                  go_roundw
                  case rel => exact ⟨j + 1, (taS (true, s5.2) m), _, by omega, by rw [HJ.out]; rfl, R9, hid (IsRK.drewR K9.out), B9, LN⟩
                  case measure => first | (simp [intOf]; done) | (simp [intOf]; have := HJ.out; omega)
              · have hngd : decide ((16384 : Int) < (m : Int)) = false := decide_eq_false hng
                have H6 : Hid (s5 = bgS (m : Int) s5) := hid (by unfold bgS; rw [if_neg hng])
                have TA := hid (ta_c (s := s5) R7.out m (by omega))
                go_wp2_with fail
                refine TA.out.mono ?_
                rintro _ wa ⟨pp, pm, pc, rfl, hI, hRa, hoa⟩
                have Ra := hid hRa
                have Ka := hid (K7.out.out hoa (by omega))
                have Ba := hid (B7.out.trans (hoa.below (by omega) (fun k e => by omega)))
                have Ta := hid (T7.out.out hoa (by omega))
                have hza := hoa.size
                have CV := IsB.convL (cap := pc) hI
                obtain ⟨tx, htx⟩ : ∃ tx, Fr.tx (taL s5 m) = tx := ⟨_, rfl⟩
                rw [htx] at CV
                have HTX := hid htx
                have HCV := hid CV
                clear hI hRa hoa TA htx CV
                go_wp2_with fail
                rw [HCV.out]
                obtain ⟨t0, t1, t2, t3, tf⟩ := Ta.out.cells
                have tf3 := tf 3
                have ob : Ou (fun k => k = w2.heap.size) wa (wa.setCell ⟨w2.heap.size, 3, none⟩ (.string tx)) := (Ou.refl _ _).set rfl
                have Rb := hid (Ra.out.out ob (fun k e => by omega))
                have Kb := hid (Ka.out.out ob (by omega))
                have Bb := hid (Ba.out.trans (ob.below (by omega) (fun k e => by omega)))
                have Tb := hid (Ta.out.set3 tx)
                have hzb := ob.size
                clear ob
                have LN : Hid (LS zs (j + 1) (taS s5 m) (updK F (j + 1) ⟨v, e, q, tx⟩)) := hid (by
                  have h1 := ls_two (s := s) (s3 := s3) (s5 := s5) (e := e) (q := q) (n := (m : Int)) h3 LX.out (by rw [HV.out, HVT.out]) HZ.out (by rw [HS0.out, HE.out]) (by rw [HS0.out, HS2.out, HQ.out]) (by rw [HS0.out, HS2.out, HS3.out]; exact H4.out) HN.out.symm (by rw [HS5.out]; exact H6.out)
                  rw [Int.toNat_natCast, HTX.out] at h1
                  rw [HVT.out]
                  exact h1)
                obtain hjj | hjj | hjj : j = 0 ∨ j = 1 ∨ j = 2 := by omega
                · have hjI : ((j : Nat) : Int) + 1 = 1 := by omega
                  rw [hjI]
                  have HJ := hid hjj
                  clear hjj hjI h3'
                  obtain ⟨z0, z1, z2, z3, zf⟩ := Tb.out.cells
                  obtain ⟨k0, k1, k2, k3⟩ := Kb.out.at1
                  have y0 := Kb.out.fz 4
                  have y1 := Kb.out.fz 5
                  have y2 := Kb.out.fz 6
                  have y3 := Kb.out.fz 7
                  go_wp2_with fail
                  go_region
                  have K9 : Hid (IsRK (((((wa.setCell ⟨w2.heap.size, 3, none⟩ (.string tx)).setCell ⟨g, 4, none⟩ (.int .i64 v)).setCell ⟨g, 5, none⟩ (.int .u32 e)).setCell ⟨g, 6, none⟩ (.int .u32 q)).setCell ⟨g, 7, none⟩ (.string tx)) g (updK F (j + 1) ⟨v, e, q, tx⟩)) := hid (by rw [HJ.out]; exact Kb.out.upd1 ⟨v, e, q, tx⟩)
                  have o9 : Ou (fun k => k = g) (wa.setCell ⟨w2.heap.size, 3, none⟩ (.string tx)) (((((wa.setCell ⟨w2.heap.size, 3, none⟩ (.string tx)).setCell ⟨g, 4, none⟩ (.int .i64 v)).setCell ⟨g, 5, none⟩ (.int .u32 e)).setCell ⟨g, 6, none⟩ (.int .u32 q)).setCell ⟨g, 7, none⟩ (.string tx)).drew := (((((Ou.refl (fun k => k = g) (wa.setCell ⟨w2.heap.size, 3, none⟩ (.string tx))).set (o := 4) (v := .int .i64 v) rfl).set (o := 5) (v := .int .u32 e) rfl).set (o := 6) (v := .int .u32 q) rfl).set (o := 7) (v := .string tx) rfl).drew
                  have R9 := hid (Rb.out.out o9 (fun k e => by omega))
                  have B9 := hid (Bb.out.trans (o9.below (by omega) (fun k e => by omega)))
                  clear o9 z0 z1 z2 z3 zf k0 k1 k2 k3 y0 y1 y2 y3
                  go_wp2
                  go_roundw
                  case rel => exact ⟨j + 1, (taS s5 m), _, by omega, by rw [HJ.out]; rfl, R9, hid (IsRK.drewR K9.out), B9, LN⟩
                  case measure => first | (simp [intOf]; done) | (simp [intOf]; have := HJ.out; omega)
                · have hjI : ((j : Nat) : Int) + 1 = 2 := by omega
                  rw [hjI]
                  have HJ := hid hjj
                  clear hjj hjI h3'
                  obtain ⟨z0, z1, z2, z3, zf⟩ := Tb.out.cells
                  obtain ⟨k0, k1, k2, k3⟩ := Kb.out.at2
                  have y0 := Kb.out.fz 8
                  have y1 := Kb.out.fz 9
                  have y2 := Kb.out.fz 10
                  have y3 := Kb.out.fz 11
                  go_wp2_with fail
                  go_region
                  have K9 : Hid (IsRK (((((wa.setCell ⟨w2.heap.size, 3, none⟩ (.string tx)).setCell ⟨g, 8, none⟩ (.int .i64 v)).setCell ⟨g, 9, none⟩ (.int .u32 e)).setCell ⟨g, 10, none⟩ (.int .u32 q)).setCell ⟨g, 11, none⟩ (.string tx)) g (updK F (j + 1) ⟨v, e, q, tx⟩)) := hid (by rw [HJ.out]; exact Kb.out.upd2 ⟨v, e, q, tx⟩)
                  have o9 : Ou (fun k => k = g) (wa.setCell ⟨w2.heap.size, 3, none⟩ (.string tx)) (((((wa.setCell ⟨w2.heap.size, 3, none⟩ (.string tx)).setCell ⟨g, 8, none⟩ (.int .i64 v)).setCell ⟨g, 9, none⟩ (.int .u32 e)).setCell ⟨g, 10, none⟩ (.int .u32 q)).setCell ⟨g, 11, none⟩ (.string tx)).drew := (((((Ou.refl (fun k => k = g) (wa.setCell ⟨w2.heap.size, 3, none⟩ (.string tx))).set (o := 8) (v := .int .i64 v) rfl).set (o := 9) (v := .int .u32 e) rfl).set (o := 10) (v := .int .u32 q) rfl).set (o := 11) (v := .string tx) rfl).drew
                  have R9 := hid (Rb.out.out o9 (fun k e => by omega))
                  have B9 := hid (Bb.out.trans (o9.below (by omega) (fun k e => by omega)))
                  clear o9 z0 z1 z2 z3 zf k0 k1 k2 k3 y0 y1 y2 y3
                  go_wp2
                  go_roundw
                  case rel => exact ⟨j + 1, (taS s5 m), _, by omega, by rw [HJ.out]; rfl, R9, hid (IsRK.drewR K9.out), B9, LN⟩
                  case measure => first | (simp [intOf]; done) | (simp [intOf]; have := HJ.out; omega)
                · have hjI : ((j : Nat) : Int) + 1 = 3 := by omega
                  rw [hjI]
                  have HJ := hid hjj
                  clear hjj hjI h3'
                  obtain ⟨z0, z1, z2, z3, zf⟩ := Tb.out.cells
                  obtain ⟨k0, k1, k2, k3⟩ := Kb.out.at3
                  have y0 := Kb.out.fz 12
                  have y1 := Kb.out.fz 13
                  have y2 := Kb.out.fz 14
                  have y3 := Kb.out.fz 15
                  go_wp2_with fail
                  go_region
                  have K9 : Hid (IsRK (((((wa.setCell ⟨w2.heap.size, 3, none⟩ (.string tx)).setCell ⟨g, 12, none⟩ (.int .i64 v)).setCell ⟨g, 13, none⟩ (.int .u32 e)).setCell ⟨g, 14, none⟩ (.int .u32 q)).setCell ⟨g, 15, none⟩ (.string tx)) g (updK F (j + 1) ⟨v, e, q, tx⟩)) := hid (by rw [HJ.out]; exact Kb.out.upd3 ⟨v, e, q, tx⟩)
                  have o9 : Ou (fun k => k = g) (wa.setCell ⟨w2.heap.size, 3, none⟩ (.string tx)) (((((wa.setCell ⟨w2.heap.size, 3, none⟩ (.string tx)).setCell ⟨g, 12, none⟩ (.int .i64 v)).setCell ⟨g, 13, none⟩ (.int .u32 e)).setCell ⟨g, 14, none⟩ (.int .u32 q)).setCell ⟨g, 15, none⟩ (.string tx)).drew := (((((Ou.refl (fun k => k = g) (wa.setCell ⟨w2.heap.size, 3, none⟩ (.string tx))).set (o := 12) (v := .int .i64 v) rfl).set (o := 13) (v := .int .u32 e) rfl).set (o := 14) (v := .int .u32 q) rfl).set (o := 15) (v := .string tx) rfl).drew
                  have R9 := hid (Rb.out.out o9 (fun k e => by omega))
                  have B9 := hid (Bb.out.trans (o9.below (by omega) (fun k e => by omega)))
                  clear o9 z0 z1 z2 z3 zf k0 k1 k2 k3 y0 y1 y2 y3
                  go_wp2
                  go_roundw
                  case rel => exact ⟨j + 1, (taS s5 m), _, by omega, by rw [HJ.out]; rfl, R9, hid (IsRK.drewR K9.out), B9, LN⟩
                  case measure => first | (simp [intOf]; done) | (simp [intOf]; have := HJ.out; omega)
            · have hv2 : (v == 2) = false := by rw [beq_eq_false_iff_ne]; omega
              have LN : Hid (LS zs (j + 1) s3 (updK F (j + 1) ⟨v, e, q, ⟨#[]⟩⟩)) := hid (by
                have h1 := ls_one h3 LX.out (by rw [HV.out]; omega)
                rw [HS0.out, HE.out, HS2.out, HQ.out, HS3.out] at h1
                rw [show v = 1 from by omega, H4.out]
                exact h1)
              obtain hjj | hjj | hjj : j = 0 ∨ j = 1 ∨ j = 2 := by omega
              · have hjI : ((j : Nat) : Int) + 1 = 1 := by omega
                rw [hjI]
                have HJ := hid hjj
                clear hjj hjI h3'
                obtain ⟨z0, z1, z2, z3, zf⟩ := T6.out.cells
                obtain ⟨k0, k1, k2, k3⟩ := K6.out.at1
                have y0 := K6.out.fz 4
                have y1 := K6.out.fz 5
                have y2 := K6.out.fz 6
                have y3 := K6.out.fz 7
                go_wp2_with fail
                go_region
                have K9 : Hid (IsRK ((((((w5.setCell ⟨w2.heap.size, 1, none⟩ (.int .u32 e)).setCell ⟨w2.heap.size, 2, none⟩ (.int .u32 q)).setCell ⟨g, 4, none⟩ (.int .i64 v)).setCell ⟨g, 5, none⟩ (.int .u32 e)).setCell ⟨g, 6, none⟩ (.int .u32 q)).setCell ⟨g, 7, none⟩ (.string ⟨#[]⟩)) g (updK F (j + 1) ⟨v, e, q, ⟨#[]⟩⟩)) := hid (by rw [HJ.out]; exact K6.out.upd1 ⟨v, e, q, ⟨#[]⟩⟩)
                have o9 : Ou (fun k => k = g) ((w5.setCell ⟨w2.heap.size, 1, none⟩ (.int .u32 e)).setCell ⟨w2.heap.size, 2, none⟩ (.int .u32 q)) ((((((w5.setCell ⟨w2.heap.size, 1, none⟩ (.int .u32 e)).setCell ⟨w2.heap.size, 2, none⟩ (.int .u32 q)).setCell ⟨g, 4, none⟩ (.int .i64 v)).setCell ⟨g, 5, none⟩ (.int .u32 e)).setCell ⟨g, 6, none⟩ (.int .u32 q)).setCell ⟨g, 7, none⟩ (.string ⟨#[]⟩)).drew := (((((Ou.refl (fun k => k = g) ((w5.setCell ⟨w2.heap.size, 1, none⟩ (.int .u32 e)).setCell ⟨w2.heap.size, 2, none⟩ (.int .u32 q))).set (o := 4) (v := .int .i64 v) rfl).set (o := 5) (v := .int .u32 e) rfl).set (o := 6) (v := .int .u32 q) rfl).set (o := 7) (v := .string ⟨#[]⟩) rfl).drew
                have R9 := hid (R6.out.out o9 (fun k e => by omega))
                have B9 := hid (B6.out.trans (o9.below (by omega) (fun k e => by omega)))
                clear o9 z0 z1 z2 z3 zf k0 k1 k2 k3 y0 y1 y2 y3
                go_wp2
                go_roundw
                case rel => exact ⟨j + 1, s3, _, by omega, by rw [HJ.out]; rfl, R9, hid (IsRK.drewR K9.out), B9, LN⟩
                case measure => first | (simp [intOf]; done) | (simp [intOf]; have := HJ.out; omega)
              · have hjI : ((j : Nat) : Int) + 1 = 2 := by omega
                rw [hjI]
                have HJ := hid hjj
                clear hjj hjI h3'
                obtain ⟨z0, z1, z2, z3, zf⟩ := T6.out.cells
                obtain ⟨k0, k1, k2, k3⟩ := K6.out.at2
                have y0 := K6.out.fz 8
                have y1 := K6.out.fz 9
                have y2 := K6.out.fz 10
                have y3 := K6.out.fz 11
                go_wp2_with fail
                go_region
                have K9 : Hid (IsRK ((((((w5.setCell ⟨w2.heap.size, 1, none⟩ (.int .u32 e)).setCell ⟨w2.heap.size, 2, none⟩ (.int .u32 q)).setCell ⟨g, 8, none⟩ (.int .i64 v)).setCell ⟨g, 9, none⟩ (.int .u32 e)).setCell ⟨g, 10, none⟩ (.int .u32 q)).setCell ⟨g, 11, none⟩ (.string ⟨#[]⟩)) g (updK F (j + 1) ⟨v, e, q, ⟨#[]⟩⟩)) := hid (by rw [HJ.out]; exact K6.out.upd2 ⟨v, e, q, ⟨#[]⟩⟩)
                have o9 : Ou (fun k => k = g) ((w5.setCell ⟨w2.heap.size, 1, none⟩ (.int .u32 e)).setCell ⟨w2.heap.size, 2, none⟩ (.int .u32 q)) ((((((w5.setCell ⟨w2.heap.size, 1, none⟩ (.int .u32 e)).setCell ⟨w2.heap.size, 2, none⟩ (.int .u32 q)).setCell ⟨g, 8, none⟩ (.int .i64 v)).setCell ⟨g, 9, none⟩ (.int .u32 e)).setCell ⟨g, 10, none⟩ (.int .u32 q)).setCell ⟨g, 11, none⟩ (.string ⟨#[]⟩)).drew := (((((Ou.refl (fun k => k = g) ((w5.setCell ⟨w2.heap.size, 1, none⟩ (.int .u32 e)).setCell ⟨w2.heap.size, 2, none⟩ (.int .u32 q))).set (o := 8) (v := .int .i64 v) rfl).set (o := 9) (v := .int .u32 e) rfl).set (o := 10) (v := .int .u32 q) rfl).set (o := 11) (v := .string ⟨#[]⟩) rfl).drew
                have R9 := hid (R6.out.out o9 (fun k e => by omega))
                have B9 := hid (B6.out.trans (o9.below (by omega) (fun k e => by omega)))
                clear o9 z0 z1 z2 z3 zf k0 k1 k2 k3 y0 y1 y2 y3
                go_wp2
                go_roundw
                case rel => exact ⟨j + 1, s3, _, by omega, by rw [HJ.out]; rfl, R9, hid (IsRK.drewR K9.out), B9, LN⟩
                case measure => first | (simp [intOf]; done) | (simp [intOf]; have := HJ.out; omega)
              · have hjI : ((j : Nat) : Int) + 1 = 3 := by omega
                rw [hjI]
                have HJ := hid hjj
                clear hjj hjI h3'
                obtain ⟨z0, z1, z2, z3, zf⟩ := T6.out.cells
                obtain ⟨k0, k1, k2, k3⟩ := K6.out.at3
                have y0 := K6.out.fz 12
                have y1 := K6.out.fz 13
                have y2 := K6.out.fz 14
                have y3 := K6.out.fz 15
                go_wp2_with fail
                go_region
                have K9 : Hid (IsRK ((((((w5.setCell ⟨w2.heap.size, 1, none⟩ (.int .u32 e)).setCell ⟨w2.heap.size, 2, none⟩ (.int .u32 q)).setCell ⟨g, 12, none⟩ (.int .i64 v)).setCell ⟨g, 13, none⟩ (.int .u32 e)).setCell ⟨g, 14, none⟩ (.int .u32 q)).setCell ⟨g, 15, none⟩ (.string ⟨#[]⟩)) g (updK F (j + 1) ⟨v, e, q, ⟨#[]⟩⟩)) := hid (by rw [HJ.out]; exact K6.out.upd3 ⟨v, e, q, ⟨#[]⟩⟩)
                have o9 : Ou (fun k => k = g) ((w5.setCell ⟨w2.heap.size, 1, none⟩ (.int .u32 e)).setCell ⟨w2.heap.size, 2, none⟩ (.int .u32 q)) ((((((w5.setCell ⟨w2.heap.size, 1, none⟩ (.int .u32 e)).setCell ⟨w2.heap.size, 2, none⟩ (.int .u32 q)).setCell ⟨g, 12, none⟩ (.int .i64 v)).setCell ⟨g, 13, none⟩ (.int .u32 e)).setCell ⟨g, 14, none⟩ (.int .u32 q)).setCell ⟨g, 15, none⟩ (.string ⟨#[]⟩)).drew := (((((Ou.refl (fun k => k = g) ((w5.setCell ⟨w2.heap.size, 1, none⟩ (.int .u32 e)).setCell ⟨w2.heap.size, 2, none⟩ (.int .u32 q))).set (o := 12) (v := .int .i64 v) rfl).set (o := 13) (v := .int .u32 e) rfl).set (o := 14) (v := .int .u32 q) rfl).set (o := 15) (v := .string ⟨#[]⟩) rfl).drew
                have R9 := hid (R6.out.out o9 (fun k e => by omega))
                have B9 := hid (B6.out.trans (o9.below (by omega) (fun k e => by omega)))
                clear o9 z0 z1 z2 z3 zf k0 k1 k2 k3 y0 y1 y2 y3
                go_wp2
                go_roundw
                case rel => exact ⟨j + 1, s3, _, by omega, by rw [HJ.out]; rfl, R9, hid (IsRK.drewR K9.out), B9, LN⟩
                case measure => first | (simp [intOf]; done) | (simp [intOf]; have := HJ.out; omega)
    · have h3' : ¬ (j : Int) + 1 ≤ 3 := by omega
      have h3d : decide ((j : Int) + 1 ≤ 3) = false := decide_eq_false h3'
      obtain rfl : j = 3 := by omega
      obtain ⟨ra, rc, c0, c1, f0, f1⟩ := RX.out.cells
      rcases LX.out with ⟨q1, q2⟩ | ⟨q1, q2⟩
      · rw [q1] at c1
        have HN := hid q2
        go_wp2
        go_ret2
        exact ⟨by rw [hr]; exact BX.out, by rw [HN.out]; rfl⟩
      · rw [q1] at c1
        have LK := hid (ldK_all q2)
        by_cases hl0 : s.2.length = 0
        · have HN : Hid (ldK zs = some F) := hid (by rw [LK.out, if_pos hl0])
          have hl0' : ((s.2.length : Int) != 0) = false := by rw [hl0]; rfl
          go_wp2
          go_ret2
          exact ⟨by rw [hr]; exact BX.out, by rw [HN.out]; exact ⟨by rw [hr, ← HG.out]; rfl, by rw [hr, ← HG.out]; exact KX.out⟩⟩
        · have HN : Hid (ldK zs = none) := hid (by rw [LK.out, if_neg hl0])
          have hl0' : ((s.2.length : Int) != 0) = true := by rw [bne_iff_ne]; omega
          go_wp2
          go_ret2
          exact ⟨by rw [hr]; exact BX.out, by rw [HN.out]; rfl⟩
end Go.Proofs.Ytmoeljieafninaa
