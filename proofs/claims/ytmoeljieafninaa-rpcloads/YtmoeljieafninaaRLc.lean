/-
  What bytes say: readTaken at any bytes, LoadCallee.
-/
import Derived.Test.YtmoeljieafninaaRLm
import Derived.Test.YtmoeljieafninaaRL1
import Derived.Test.YtmoeljieafninaaRL2
import Derived.Test.YtmoeljieafninaaRL3
import Derived.Deep.LoopGhost
namespace Go.Proofs.Ytmoeljieafninaa
open Go.RowKit Go.ChangeShapes Go.WideShapes Go.ChangeAt
set_option linter.unusedVariables false
set_option linter.unusedSimpArgs false
set_option maxRecDepth 100000
def rtV (zs : List Int) : Value := match ldT zs with
  | none => rtNo
  | some (t, n) => rtYes t n
set_option maxHeartbeats 2000000 in
theorem rt_none (a : Option Addr) (cap : Nat) (w : World) :
    Calls Try.prog 17 #[.slice a 0 cap] w fun e w' => e = .returned rtNo ∧ Below w.heap.size w w' := by
  have BW : Hid (∀ W, (∃ o, W = w.alloc o) ∨ (∃ o, W = (w.alloc o).drew) → Below w.heap.size w W) := hid (fun W hW => by
    rcases hW with ⟨o, rfl⟩ | ⟨o, rfl⟩
    · exact (Below.refl _ _).alloc (Nat.le_refl _) _
    · exact bel_drew ((Below.refl _ _).alloc (Nat.le_refl _) _))
  go_enter Try.func17, Try.ntmps17
  go_wp2_with fail
  refine wp_scope_fwd 0 rfl ?_
  go_wp2_with fail
  go_step3
  refine ⟨rfl, ?_⟩
  go_wp2
  rw [Exit.noGoto_ret]
  exact bodyPost_ret (v := rtNo) (by simp [results, Try.results17, go_sem, rtNo, rtYes]) rfl ⟨rfl, BW.out _ (by first | exact Or.inl ⟨_, rfl⟩ | exact Or.inr ⟨_, rfl⟩)⟩
theorem readTaken_c (a : Option Addr) (len cap : Nat) (zs : List Int) (w : World) (h : IsB w a len zs) (hc : len ≤ cap) :
    Calls Try.prog 17 #[.slice a len cap] w fun e w' => e = .returned (rtV zs) ∧ Below w.heap.size w w' := by
  have hl := h.1
  unfold rtV ldT
  by_cases h0 : len = 0
  · subst h0
    rw [if_pos hl]
    exact rt_none a cap w
  obtain ⟨b, off, rfl, _⟩ := h.2.2.1 (by omega)
  have hb := h.2.2.2 0
  rw [if_neg (by omega)]
  by_cases c0 : zs.getD 0 0 = 0
  · rw [if_pos c0]
    exact rt_zero b off len cap zs w h hc (by omega) c0
  rw [if_neg c0]
  by_cases c1 : zs.getD 0 0 = 1
  · rw [if_pos c1]
    by_cases c9 : zs.length < 9
    · rw [if_pos c9]
      exact rt_short1 b off len cap zs w h hc (by omega) (by omega) c1
    · rw [if_neg c9]
      refine (rt_one b off len cap zs w h hc (by omega) c1).mono ?_
      rintro e w' ⟨rfl, hb'⟩
      refine ⟨?_, hb'⟩
      split <;> rfl
  rw [if_neg c1]
  by_cases c2 : zs.getD 0 0 = 2
  · rw [if_pos c2]
    by_cases c11 : zs.length < 11
    · rw [if_pos c11]
      exact rt_short2 b off len cap zs w h hc (by omega) (by omega) c2
    · rw [if_neg c11]
      by_cases cf : zs.length < 11 + (numF (sbF zs 9 2)).toNat
      · rw [if_pos cf]
        exact rt_short3 b off len cap zs w h hc (by omega) c2 (by omega)
      · rw [if_neg cf]
        have key : Calls Try.prog 17 #[.slice (some ⟨b, off, none⟩) len cap] w fun e w' => e = .returned (if numF (sbF zs 5 4) = 0 ∨ 16384 < (numF (sbF zs 9 2)).toNat then rtNo else rtYes ⟨2, numF (sbF zs 1 4), numF (sbF zs 5 4), Fr.tx (sbF zs 11 (numF (sbF zs 9 2)).toNat)⟩ (11 + (numF (sbF zs 9 2)).toNat)) ∧ Below w.heap.size w w' := by
          by_cases n0 : (numF (sbF zs 9 2)).toNat = 0
          · by_cases hcap : cap = 11
            · exact rt_twoC b off len cap zs w h hc (by omega) c2 (by omega) n0 hcap
            · exact rt_twoB b off len cap zs w h hc (by omega) c2 (by omega) n0 hcap
          · exact rt_twoA b off len cap zs w h hc (by omega) c2 (by omega) (by omega)
        refine key.mono ?_
        rintro e w' ⟨rfl, hb'⟩
        refine ⟨?_, hb'⟩
        by_cases q1 : numF (sbF zs 5 4) = 0
        · rw [if_pos (.inl q1), if_pos q1]
        · rw [if_neg q1]
          by_cases q2 : 16384 < (numF (sbF zs 9 2)).toNat
          · rw [if_pos (.inr q2), if_pos q2]
          · rw [if_neg (fun e => e.elim q1 q2), if_neg q2]
  · rw [if_neg c2]
    exact rt_bad b off len cap zs w h hc (by omega) (by omega)
theorem IsK.upd1 {w : World} {g : Nat} {F : Nat → Tk} (h : IsK w g F) (t : Tk) : IsK ((((w.setCell ⟨g, 0, none⟩ (.int .u8 t.st)).setCell ⟨g, 1, none⟩ (.int .u32 t.ep)).setCell ⟨g, 2, none⟩ (.int .u32 t.num)).setCell ⟨g, 3, none⟩ (.string t.body)) g (updK F 1 t) :=
  row_set 3 _ (row_set 2 _ (row_set 1 _ (row_set 0 _ h)))
theorem IsK.upd2 {w : World} {g : Nat} {F : Nat → Tk} (h : IsK w g F) (t : Tk) : IsK ((((w.setCell ⟨g, 4, none⟩ (.int .u8 t.st)).setCell ⟨g, 5, none⟩ (.int .u32 t.ep)).setCell ⟨g, 6, none⟩ (.int .u32 t.num)).setCell ⟨g, 7, none⟩ (.string t.body)) g (updK F 2 t) :=
  row_set 7 _ (row_set 6 _ (row_set 5 _ (row_set 4 _ h)))
theorem IsK.upd3 {w : World} {g : Nat} {F : Nat → Tk} (h : IsK w g F) (t : Tk) : IsK ((((w.setCell ⟨g, 8, none⟩ (.int .u8 t.st)).setCell ⟨g, 9, none⟩ (.int .u32 t.ep)).setCell ⟨g, 10, none⟩ (.int .u32 t.num)).setCell ⟨g, 11, none⟩ (.string t.body)) g (updK F 3 t) :=
  row_set 11 _ (row_set 10 _ (row_set 9 _ (row_set 8 _ h)))
/-- Bytes of which the first ones are cut off. -/
theorem IsB.cut {w : World} {a : Option Addr} {len : Nat} {zs : List Int} (h : IsB w a len zs) (n : Nat) (hn : n ≤ len) : ∀ b off, a = some ⟨b, off, none⟩ → (n < len → IsB w (some ⟨b, off + n, none⟩) (len - n) (zs.drop n)) ∧ (n = len → ∀ a', IsB w a' (len - n) (zs.drop n)) := by
  rintro b off rfl
  obtain ⟨h1, h2, h3, h4⟩ := h
  have hl : (zs.drop n).length = len - n := by rw [List.length_drop]; omega
  have hz : ∀ i, 0 ≤ (zs.drop n).getD i 0 ∧ (zs.drop n).getD i 0 ≤ 255 := byte_drop h4 n
  refine ⟨fun hlt => ⟨hl, by omega, fun hp => ?_, hz⟩, fun he a' => ⟨hl, by omega, fun hp => absurd hp (by omega), hz⟩⟩
  obtain ⟨b', off', e, hc⟩ := h3 (by omega)
  cases e
  refine ⟨b, off + n, rfl, fun i hi => ?_⟩
  rw [Nat.add_assoc, hc (n + i) (by omega)]
  simp [List.getD, List.getElem?_drop]
def LdPost (w : World) (zs : List Int) (e : Ending) (w' : World) : Prop :=
  Below w.heap.size w w' ∧ match ldK zs with
    | none => e = .returned (.tuple #[.pointer none, .int .i64 3])
    | some F => e = .returned (.tuple #[pC w.heap.size, .int .i64 0]) ∧ IsK w' w.heap.size F
set_option maxHeartbeats 4000000 in
theorem loadCallee_c (a : Option Addr) (len cap : Nat) (zs : List Int) (w : World) (h : IsB w a len zs) (hc : len ≤ cap) :
    Calls Try.prog 5 #[.slice a len cap] w (LdPost w zs) := by
  have hm := h.2.1
  unfold maxLen at hm
  have HI := hid h
  clear h
  go_enter Try.func5, Try.ntmps5
  go_wp2_with fail
  refine (newCallee_c w).mono ?_
  rintro _ w1 ⟨rfl, hK1, hb1⟩
  have K1 := hid hK1
  have B1 := hid hb1
  have hlt1 := hK1.lt
  clear hK1 hb1
  generalize hg : w.heap.size = g at *
  go_wp2
  go_loopw [0, 2, 3, 10] (fun v0 v2 v3 v10 wr => ∃ (j : Nat) (a' : Option Addr) (l' c' : Nat) (ys : List Int) (F : Nat → Tk), j ≤ 3 ∧ l' ≤ c' ∧ v0 = .slice a' l' c' ∧ v2 = .pointer none ∧ v3 = .int .i64 0 ∧ v10 = .int .i64 j ∧ Hid (IsB w a' l' ys) ∧ Hid (IsK wr g F) ∧ Hid (Below g w wr) ∧ Hid (ldR j zs = some (ys, F))) (fun _ _ _ i _ => (3 - intOf i).toNat)
  case atStart => exact ⟨0, a, len, cap, zs, _, by omega, hc, rfl, rfl, rfl, rfl, HI, K1, B1, hid rfl⟩
  case round =>
    obtain ⟨j, a', l', c', ys, F, hj, hlc, rfl, rfl, rfl, rfl, IX, KX, BX, LX⟩ := hrel
    clear K1 B1
    have hml := IX.out.2.1
    have hgr : g ≤ wr.heap.size := by have := BX.out.size; omega
    unfold maxLen at hml
    by_cases h3 : j < 3
    · have h3' : (j : Int) < 3 := by omega
      have RT := hid (readTaken_c a' l' c' ys _ (IX.out.later (by rw [hg]; exact BX.out)) hlc)
      rcases ht : ldT ys with _ | ⟨t, n⟩
      · have e : rtV ys = .tuple #[.agg #[.int .u8 0, .int .u32 0, .int .u32 0, .string ⟨#[]⟩], .int .i64 0, .bool false] := by unfold rtV; rw [ht]; rfl
        rw [e] at RT
        have HN := hid (ldK_none (by omega) (ldR_stop LX.out ht))
        clear ht e
        go_wp2_with (go_at_call 17; refine RT.out.mono ?_; rintro _ w2 ⟨rfl, hb2⟩; have B2 := hid (BX.out.trans (hb2.mono hgr)); clear hb2)
        go_ret2
        exact ⟨by rw [hg]; exact B2.out.trans ((Below.refl _ _).alloc (by have := B2.out.size; omega) _), by rw [HN.out]; rfl⟩
      · have e : rtV ys = .tuple #[.agg #[.int .u8 t.st, .int .u32 t.ep, .int .u32 t.num, .string t.body], .int .i64 (n : Int), .bool true] := by unfold rtV; rw [ht]; rfl
        rw [e] at RT
        have LN := hid (ldR_next LX.out ht)
        have hnl : n ≤ l' := by have := (ldT_back IX.out.2.2.2 ht).2.2; rw [IX.out.1] at this; exact this
        have hl0 : 0 < l' := by
          rcases Nat.eq_zero_or_pos l' with q | q
          · exfalso
            have e2 : ldT ys = none := by unfold ldT; rw [if_pos (by rw [IX.out.1]; exact q)]
            rw [e2] at ht; cases ht
          · exact q
        obtain ⟨b, off, rfl, _⟩ := IX.out.2.2.1 hl0
        have CU := hid (IX.out.cut n hnl b off rfl)
        clear ht e
        obtain ⟨st, ep, nm, bd⟩ := t
        simp only at RT
        have hnlI : (n : Int) ≤ (l' : Int) := by omega
        have hncI : (n : Int) ≤ (c' : Int) := by omega
        obtain hjj | hjj | hjj : j = 0 ∨ j = 1 ∨ j = 2 := by omega
        · have hjI : ((j : Nat) : Int) = 0 := by omega
          rw [hjI]
          have HJ := hid hjj
          clear hjj hjI h3'
          go_wp2_with (go_at_call 17; refine RT.out.mono ?_; rintro _ w2 ⟨rfl, hb2⟩; have hz2 := hb2.size; have K2 := hid (KX.out.later hb2); have B2 := hid (BX.out.trans (hb2.mono hgr)); clear hb2 RT)
          have b3 : Below w2.heap.size w2 (w2.alloc (.cells #[.int .u8 st, .int .u32 ep, .int .u32 nm, .string bd] 54)) := (Below.refl _ _).alloc (Nat.le_refl _) _
          have K3 := hid (K2.out.later b3)
          have hg2 : g ≤ w2.heap.size := by omega
          have B3 := hid (B2.out.trans (b3.mono hg2))
          have T3 : Hid (TkAt (w2.alloc (.cells #[.int .u8 st, .int .u32 ep, .int .u32 nm, .string bd] 54)) w2.heap.size st ep nm bd) := hid (heap_alloc_new w2 _)
          have hltg := K2.out.lt
          have hne : ¬ g = w2.heap.size := by omega
          have hne' : ¬ w2.heap.size = g := by omega
          clear b3 K2 B2
          generalize w2.alloc (.cells #[.int .u8 st, .int .u32 ep, .int .u32 nm, .string bd] 54) = w3 at *
          obtain ⟨q0, q1, q2, q3, qf⟩ := T3.out.cells
          obtain ⟨r0, r1, r2, r3⟩ := K3.out.at1
          have f0 := K3.out.fz 0
          have f1 := K3.out.fz 1
          have f2 := K3.out.fz 2
          have f3 := K3.out.fz 3
          go_region
          have K4 : Hid (IsK ((((w3.setCell ⟨g, 0, none⟩ (.int .u8 st)).setCell ⟨g, 1, none⟩ (.int .u32 ep)).setCell ⟨g, 2, none⟩ (.int .u32 nm)).setCell ⟨g, 3, none⟩ (.string bd)) g (updK F (j + 1) ⟨st, ep, nm, bd⟩)) := hid (by rw [HJ.out]; exact K3.out.upd1 ⟨st, ep, nm, bd⟩)
          have B4 := hid (B3.out.trans (((((Ou.refl (fun k => k = g) w3).set (o := 0) (v := .int .u8 st) rfl).set (o := 1) (v := .int .u32 ep) rfl).set (o := 2) (v := .int .u32 nm) rfl).set (o := 3) (v := .string bd) rfl |>.below (by have := B3.out.size; omega) (fun k e => by omega)))
          clear q0 q1 q2 q3 qf r0 r1 r2 r3 f0 f1 f2 f3
          by_cases hcn : c' = n
          · subst hcn
            have hll : l' = c' := by omega
            go_wp2
            go_roundw
            case rel => exact ⟨j + 1, some ⟨b, off, none⟩, 0, 0, ys.drop c', updK F (j + 1) ⟨st, ep, nm, bd⟩, by omega, by omega, by first | rfl | simp, rfl, rfl, by rw [HJ.out]; rfl, hid (by have := CU.out.2 (by omega) (some ⟨b, off, none⟩); rwa [show l' - c' = 0 from by omega] at this), K4, hid (bel_drew B4.out), LN⟩
            case measure => first | (simp [intOf]; done) | (simp [intOf]; have := HJ.out; omega)
          · go_wp2
            go_roundw
            case rel => exact ⟨j + 1, some ⟨b, off + n, none⟩, l' - n, c' - n, ys.drop n, updK F (j + 1) ⟨st, ep, nm, bd⟩, by omega, by omega, by first | rfl | simp, rfl, rfl, by rw [HJ.out]; rfl, hid (if q : n = l' then CU.out.2 q _ else CU.out.1 (by omega)), K4, hid (bel_drew B4.out), LN⟩
            case measure => first | (simp [intOf]; done) | (simp [intOf]; have := HJ.out; omega)
        · have hjI : ((j : Nat) : Int) = 1 := by omega
          rw [hjI]
          have HJ := hid hjj
          clear hjj hjI h3'
          go_wp2_with (go_at_call 17; refine RT.out.mono ?_; rintro _ w2 ⟨rfl, hb2⟩; have hz2 := hb2.size; have K2 := hid (KX.out.later hb2); have B2 := hid (BX.out.trans (hb2.mono hgr)); clear hb2 RT)
          have b3 : Below w2.heap.size w2 (w2.alloc (.cells #[.int .u8 st, .int .u32 ep, .int .u32 nm, .string bd] 54)) := (Below.refl _ _).alloc (Nat.le_refl _) _
          have K3 := hid (K2.out.later b3)
          have hg2 : g ≤ w2.heap.size := by omega
          have B3 := hid (B2.out.trans (b3.mono hg2))
          have T3 : Hid (TkAt (w2.alloc (.cells #[.int .u8 st, .int .u32 ep, .int .u32 nm, .string bd] 54)) w2.heap.size st ep nm bd) := hid (heap_alloc_new w2 _)
          have hltg := K2.out.lt
          have hne : ¬ g = w2.heap.size := by omega
          have hne' : ¬ w2.heap.size = g := by omega
          clear b3 K2 B2
          generalize w2.alloc (.cells #[.int .u8 st, .int .u32 ep, .int .u32 nm, .string bd] 54) = w3 at *
          obtain ⟨q0, q1, q2, q3, qf⟩ := T3.out.cells
          obtain ⟨r0, r1, r2, r3⟩ := K3.out.at2
          have f0 := K3.out.fz 4
          have f1 := K3.out.fz 5
          have f2 := K3.out.fz 6
          have f3 := K3.out.fz 7
          go_region
          have K4 : Hid (IsK ((((w3.setCell ⟨g, 4, none⟩ (.int .u8 st)).setCell ⟨g, 5, none⟩ (.int .u32 ep)).setCell ⟨g, 6, none⟩ (.int .u32 nm)).setCell ⟨g, 7, none⟩ (.string bd)) g (updK F (j + 1) ⟨st, ep, nm, bd⟩)) := hid (by rw [HJ.out]; exact K3.out.upd2 ⟨st, ep, nm, bd⟩)
          have B4 := hid (B3.out.trans (((((Ou.refl (fun k => k = g) w3).set (o := 4) (v := .int .u8 st) rfl).set (o := 5) (v := .int .u32 ep) rfl).set (o := 6) (v := .int .u32 nm) rfl).set (o := 7) (v := .string bd) rfl |>.below (by have := B3.out.size; omega) (fun k e => by omega)))
          clear q0 q1 q2 q3 qf r0 r1 r2 r3 f0 f1 f2 f3
          by_cases hcn : c' = n
          · subst hcn
            have hll : l' = c' := by omega
            go_wp2
            go_roundw
            case rel => exact ⟨j + 1, some ⟨b, off, none⟩, 0, 0, ys.drop c', updK F (j + 1) ⟨st, ep, nm, bd⟩, by omega, by omega, by first | rfl | simp, rfl, rfl, by rw [HJ.out]; rfl, hid (by have := CU.out.2 (by omega) (some ⟨b, off, none⟩); rwa [show l' - c' = 0 from by omega] at this), K4, hid (bel_drew B4.out), LN⟩
            case measure => first | (simp [intOf]; done) | (simp [intOf]; have := HJ.out; omega)
          · go_wp2
            go_roundw
            case rel => exact ⟨j + 1, some ⟨b, off + n, none⟩, l' - n, c' - n, ys.drop n, updK F (j + 1) ⟨st, ep, nm, bd⟩, by omega, by omega, by first | rfl | simp, rfl, rfl, by rw [HJ.out]; rfl, hid (if q : n = l' then CU.out.2 q _ else CU.out.1 (by omega)), K4, hid (bel_drew B4.out), LN⟩
            case measure => first | (simp [intOf]; done) | (simp [intOf]; have := HJ.out; omega)
        · have hjI : ((j : Nat) : Int) = 2 := by omega
          rw [hjI]
          have HJ := hid hjj
          clear hjj hjI h3'
          go_wp2_with (go_at_call 17; refine RT.out.mono ?_; rintro _ w2 ⟨rfl, hb2⟩; have hz2 := hb2.size; have K2 := hid (KX.out.later hb2); have B2 := hid (BX.out.trans (hb2.mono hgr)); clear hb2 RT)
          have b3 : Below w2.heap.size w2 (w2.alloc (.cells #[.int .u8 st, .int .u32 ep, .int .u32 nm, .string bd] 54)) := (Below.refl _ _).alloc (Nat.le_refl _) _
          have K3 := hid (K2.out.later b3)
          have hg2 : g ≤ w2.heap.size := by omega
          have B3 := hid (B2.out.trans (b3.mono hg2))
          have T3 : Hid (TkAt (w2.alloc (.cells #[.int .u8 st, .int .u32 ep, .int .u32 nm, .string bd] 54)) w2.heap.size st ep nm bd) := hid (heap_alloc_new w2 _)
          have hltg := K2.out.lt
          have hne : ¬ g = w2.heap.size := by omega
          have hne' : ¬ w2.heap.size = g := by omega
          clear b3 K2 B2
          generalize w2.alloc (.cells #[.int .u8 st, .int .u32 ep, .int .u32 nm, .string bd] 54) = w3 at *
          obtain ⟨q0, q1, q2, q3, qf⟩ := T3.out.cells
          obtain ⟨r0, r1, r2, r3⟩ := K3.out.at3
          have f0 := K3.out.fz 8
          have f1 := K3.out.fz 9
          have f2 := K3.out.fz 10
          have f3 := K3.out.fz 11
          go_region
          have K4 : Hid (IsK ((((w3.setCell ⟨g, 8, none⟩ (.int .u8 st)).setCell ⟨g, 9, none⟩ (.int .u32 ep)).setCell ⟨g, 10, none⟩ (.int .u32 nm)).setCell ⟨g, 11, none⟩ (.string bd)) g (updK F (j + 1) ⟨st, ep, nm, bd⟩)) := hid (by rw [HJ.out]; exact K3.out.upd3 ⟨st, ep, nm, bd⟩)
          have B4 := hid (B3.out.trans (((((Ou.refl (fun k => k = g) w3).set (o := 8) (v := .int .u8 st) rfl).set (o := 9) (v := .int .u32 ep) rfl).set (o := 10) (v := .int .u32 nm) rfl).set (o := 11) (v := .string bd) rfl |>.below (by have := B3.out.size; omega) (fun k e => by omega)))
          clear q0 q1 q2 q3 qf r0 r1 r2 r3 f0 f1 f2 f3
          by_cases hcn : c' = n
          · subst hcn
            have hll : l' = c' := by omega
            go_wp2
            go_roundw
            case rel => exact ⟨j + 1, some ⟨b, off, none⟩, 0, 0, ys.drop c', updK F (j + 1) ⟨st, ep, nm, bd⟩, by omega, by omega, by first | rfl | simp, rfl, rfl, by rw [HJ.out]; rfl, hid (by have := CU.out.2 (by omega) (some ⟨b, off, none⟩); rwa [show l' - c' = 0 from by omega] at this), K4, hid (bel_drew B4.out), LN⟩
            case measure => first | (simp [intOf]; done) | (simp [intOf]; have := HJ.out; omega)
          · go_wp2
            go_roundw
            case rel => exact ⟨j + 1, some ⟨b, off + n, none⟩, l' - n, c' - n, ys.drop n, updK F (j + 1) ⟨st, ep, nm, bd⟩, by omega, by omega, by first | rfl | simp, rfl, rfl, by rw [HJ.out]; rfl, hid (if q : n = l' then CU.out.2 q _ else CU.out.1 (by omega)), K4, hid (bel_drew B4.out), LN⟩
            case measure => first | (simp [intOf]; done) | (simp [intOf]; have := HJ.out; omega)
    · have h3' : ¬ (j : Int) < 3 := by omega
      have h3d : decide ((j : Int) < 3) = false := decide_eq_false h3'
      obtain rfl : j = 3 := by omega
      have LK := hid (ldK_all LX.out)
      by_cases hl0 : l' = 0
      · subst hl0
        have HN : Hid (ldK zs = some F) := hid (by rw [LK.out, if_pos IX.out.1])
        go_wp2
        go_ret2
        exact ⟨by rw [hg]; exact BX.out, by rw [HN.out]; exact ⟨by rw [hg]; rfl, by rw [hg]; exact KX.out⟩⟩
      · have hl0' : (0 : Int) < (l' : Int) := by omega
        have HN : Hid (ldK zs = none) := hid (by rw [LK.out, if_neg (by rw [IX.out.1]; exact hl0)])
        go_wp2
        go_ret2
        exact ⟨by rw [hg]; exact BX.out, by rw [HN.out]; rfl⟩
end Go.Proofs.Ytmoeljieafninaa
