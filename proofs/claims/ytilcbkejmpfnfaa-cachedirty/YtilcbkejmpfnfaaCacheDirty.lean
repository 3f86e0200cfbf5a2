/-
  For every number, all deeds and all objects that are put: what is dirty never goes.
-/
import Derived.Test.YtilcbkejmpfnfaaCFk
import Derived.Test.YtilcbkejmpfnfaaCRw
namespace Go.Proofs.Ytilcbkejmpfnfaa
open Go.RowKit Go.ChangeShapes Go.WideShapes Go.ChangeAt Go.Maps Go.Shelf
open Go.ChangeMaps (open_string shut_string)
set_option linter.unusedVariables false
set_option linter.unusedSimpArgs false
set_option maxRecDepth 100000
/-- Fids that came in. -/
def IsFd (w : World) (a : Option Addr) (len : Nat) (zs : List Int) : Prop :=
  len ≤ maxLen ∧ (0 < len → ∃ b off, a = some ⟨b, off, none⟩ ∧ ∀ i, i < len → w.cell? ⟨b, off + i, none⟩ = some (.int .u32 (zs.getD i 0))) ∧ ∀ i, 0 ≤ zs.getD i 0 ∧ zs.getD i 0 < 4294967296
theorem isFd_of {H : Type} {enc : TypeId × Value → H} {P : Program} {W : World} {t e : TypeId} {a : Option Addr} {len cap : Nat} {d : DataW H} {p : List MemPlace}
    (ht : P.underlying t = some (.slice e)) (he : P.underlying e = some (.int .u32)) (hc : P.cellsOf e = 1)
    (h : DataW.Trod enc P W 0 (fun _ => true) true t (.slice a len cap) d p) : ∃ zs, IsFd W a len zs := by
  obtain ⟨fuel, hf⟩ := h
  rcases open_ints ht he hc hf with ⟨hcs, _⟩ | ⟨x, l, c, zs, hcs, _, hl, hm, hz, _, hcell, hwz⟩
  · simp [Value.cells] at hcs
    obtain ⟨rfl, rfl, rfl⟩ := hcs
    exact ⟨[], Nat.zero_le _, fun h => absurd h (by omega), fun i => by simp⟩
  · simp [Value.cells] at hcs
    obtain ⟨rfl, rfl, rfl⟩ := hcs
    have hz' : zs.length = cap := by simpa using hz
    refine ⟨zs.take len, by omega, fun hp => ?_, fun i => ?_⟩
    · obtain ⟨b, off, spot⟩ := x
      have hc0 := hcell 0 (by omega)
      have hspot : spot = none := by simpa [Addr.add] using World.cell?_spot hc0
      subst hspot
      refine ⟨b, off, rfl, fun i hi => ?_⟩
      have h := hcell i (by omega)
      have h2 : (⟨b, off, none⟩ : Addr).add i = ⟨b, off + i, none⟩ := by rcases i with _ | i <;> simp [Addr.add]
      rw [h2] at h
      rw [h]
      simp [List.getD, List.getElem?_take, hi]
    · by_cases hi : i < len
      · have hmem : (zs.take len).getD i 0 ∈ zs := by
          have : i < zs.length := by omega
          simp [List.getD, List.getElem?_take, hi, this]
        exact bd_u32 (hwz _ hmem)
      · simp [List.getD, List.getElem?_take, hi]
theorem IsFd.later {w w' : World} {a : Option Addr} {len : Nat} {zs : List Int} (h : IsFd w a len zs) (hb : Below w.heap.size w w') : IsFd w' a len zs := by
  obtain ⟨h2, h3, h4⟩ := h
  refine ⟨h2, fun hp => ?_, h4⟩
  obtain ⟨b, off, e, hc⟩ := h3 hp
  exact ⟨b, off, e, fun i hi => cell_laterC hb (hc i hi)⟩
theorem ss_rng {c : Ca} {r : Rc} (h : Rl c r) {k : Nat} (hk : k < r.ss.length) : r.ss.getD k 0 ∈ r.ss ∧ 0 ≤ r.ss.getD k 0 ∧ r.ss.getD k 0 < 4294967296 := by
  have hm : r.ss.getD k 0 ∈ r.ss := by simp only [List.getD, List.getElem?_eq_getElem hk]; exact List.getElem_mem hk
  have := h.has_rng ((h.rise.2 _).1 hm)
  exact ⟨hm, by omega, this.2⟩
theorem dirty_has {c : Ca} {x : Int} (h : c.dirtyB x = true) : c.has x = true := by
  cases hh : c.has x with
  | true => rfl
  | false => rw [Rl.dirty_no hh] at h; cases h
/-- What is dirty stays so, whatever is put. -/
theorem Rl.put_dirty {c : Ca} {r : Rc} (h : Rl c r) {f : Int} {ss : List Int} (hs : RiseF c.f ss) {x : Int} (hx : c.dirtyB x = true) : (c.putS f (c.nextOf ss)).dirtyB x = true := by
  unfold Ca.putS
  split
  · exact hx
  split
  · rw [use_dirty]
    rcases roomR_cases c f (c.nextOf ss) with q | q | q
    · rw [q.2]; exact hx
    · rw [q.2]; exact hx
    · rw [q.2]
      have hne : x ≠ c.nextOf ss := fun e => by
        by_cases hn : c.nextOf ss = 0
        · have := (h.has_rng (dirty_has hx)).1
          rw [e, hn] at this
          omega
        · rcases fold_nil (c := c) ss (fun x hx => (h.has_rng ((hs.2 x).1 hx)).1) with ⟨a, _⟩ | ⟨_, a, _⟩
          · exact hn a
          · have a' : c.dirtyB (c.nextOf ss) = false := a
            rw [e, a'] at hx; cases hx
      rw [(drop_at c _ x hne).2]; exact hx
  · exact hx
/-- What goes is not at hand. -/
theorem Rl.put_gone {c : Ca} {r : Rc} (h : Rl c r) {f : Int} {ss : List Int} (hs : RiseF c.f ss) (hf : f ≠ 0) (hh : c.has f = false) (hn : c.nextOf ss ≠ 0) (h1 : (c.putR f (c.nextOf ss)).1 = c.nextOf ss) (h2 : (c.putR f (c.nextOf ss)).2 = 0) : (c.putS f (c.nextOf ss)).has (c.nextOf ss) = false := by
  have hin : c.has (c.nextOf ss) = true := by
    rcases fold_nil (c := c) ss (fun x hx => (h.has_rng ((hs.2 x).1 hx)).1) with ⟨a, _⟩ | ⟨a, _, _⟩
    · exact absurd a hn
    · exact (hs.2 _).1 a
  have hne : c.nextOf ss ≠ f := fun e => by rw [e, hh] at hin; cases hin
  unfold Ca.putR at h1 h2
  rw [if_neg hf] at h1 h2
  unfold Ca.putS
  rw [if_neg hf, if_pos h2, use_has, if_neg hne]
  rcases roomR_cases c f (c.nextOf ss) with q | q | q
  · rw [q.1] at h1; exact absurd h1.symm hn
  · rw [q.1] at h2; cases h2
  · rw [q.2, drop_has, if_pos rfl]
set_option maxHeartbeats 1000000 in
theorem drop_dirty {w : World} {g b1 b2 : Nat} {c : Ca} (h : IsCa w g b1 b2 c) {i : Int} (h0 : 0 ≤ i) (h1 : i < 4294967296) (hd : c.dirtyB i = true) :
    Calls Try.prog 17 #[pA g, .int .u32 i] w fun e w' => e = .returned (.int .i64 13) ∧ Below w.heap.size w w' := by
  have FC := hid (fault_c h h0 h1)
  rw [dirty_has hd] at FC
  have H := hid h
  clear h
  go_enter Try.func17, Try.ntmps17
  go_wp2_with (first
    | (go_at_call 16; have DC := dirty_c H1.out h0 h1; rw [hd] at DC; refine DC.mono ?_; rintro _ w2 ⟨rfl, h2⟩; rw [h2]; clear h2)
    | (go_at_call 38; refine FC.out.mono ?_; rintro _ w1 ⟨rfl, hb⟩; have H1 := hid (H.out.later hb); have B1 := hid hb; clear hb))
  go_ret
  exact ⟨rfl, B1.out⟩
set_option maxHeartbeats 16000000 in
theorem cacheDirty_walk (n : Int) (wn : (Lit.int .u8 n).wf = true) (a : Option Addr) (len cap : Nat) (z : Nat → Dc) (a2 : Option Addr) (len2 cap2 : Nat) (z2 : List Int) (w : World) (hz : IsDc w a len z) (hz2 : IsFd w a2 len2 z2) :
    Calls Try.prog 4 #[.int .u8 n, .slice a len cap, .slice a2 len2 cap2] w fun e w' => e = .returned (.bool true) ∧ Below w.heap.size w w' := by
  have hn := bd_u8 wn
  obtain ⟨M0, hM, eM⟩ := mod_ten hn.1 hn.2
  have PF := play_facts hM hz
  have PC : Hid (∀ W, Below w.heap.size w W → Calls Try.prog 9 #[.int .u8 n, .slice a len cap] W (PlayP W ((M0 : Int) + 1) z (min len 80))) := hid (fun W hb => play_c n hn.1 hn.2 hM eM a len cap z W (hz.later hb))
  have HZ2 := hid hz2
  clear hz hz2 wn
  generalize min len 80 = N at *
  go_enter Try.func4, Try.ntmps4
  go_wp2_with fail
  refine (PC.out w (Below.refl _ _)).mono ?_
  rintro _ w1 ⟨p, b1, b2, g, vl, vh, rfl, hB, hK, hb⟩
  obtain ⟨c, hcE⟩ : ∃ c, c = (stP ((M0 : Int) + 1) z N).1 := ⟨_, rfl⟩
  obtain ⟨r, hrE⟩ : ∃ r, r = (stP ((M0 : Int) + 1) z N).2 := ⟨_, rfl⟩
  rw [← hcE] at PF hB
  rw [← hrE] at hB
  have HCE := hid hcE
  clear hcE hrE
  have H1 := hid hB.hc
  have RL := hid hB.rl
  have TB : Hid (∀ k, Tri p b1 b2 k → w.heap.size ≤ k) := hid (fun k hk => hK k (.inl hk))
  have B1 := hid hb
  clear hB hK hb
  go_wp2_with fail
  refine (clive_c w1).mono ?_
  rintro _ w2 ⟨rfl, hb2⟩
  have H2 := hid (H1.out.later hb2)
  have B2 := hid (B1.out.trans (hb2.mono B1.out.size))
  clear hb2
  have hlen := RL.out.lens
  go_wp2_with fail
  refine (list_c H2.out (by omega) RL.out.rise).mono ?_
  rintro _ w3 ⟨v3, rfl, o3, hb3⟩
  have H3 := hid (H2.out.later hb3)
  have B3 := hid (B2.out.trans (hb3.mono B2.out.size))
  have R3 := hid (RowF.of_own o3 rfl)
  have S3 := hid hb3.size
  have LT : Hid (∀ k, Tri p b1 b2 k → k < w2.heap.size) := hid (fun k hk => by
    obtain ⟨_, _, _, _, _, l0, l1, l2, _⟩ := H2.out.cells
    rcases hk with rfl | rfl | rfl <;> assumption)
  obtain ⟨a3, c3, rfl, _⟩ := own_shapeC o3
  have SR : Hid (∀ k, k < r.ss.length → r.ss.getD k 0 ∈ r.ss ∧ 0 ≤ r.ss.getD k 0 ∧ r.ss.getD k 0 < 4294967296) := hid (fun k hk => ss_rng RL.out hk)
  have hsl : r.ss.length ≤ 10 := by rw [r.ss_len]; omega
  have hu80 := PF.2
  clear o3 hb3 PF hlen
  generalize hss : r.ss = ss at *
  obtain ⟨L, hL⟩ : ∃ L, L = ss.length := ⟨_, rfl⟩
  rw [← hL] at hsl SR
  rw [← hL]
  rw [← hL] at R3
  have HL := hid hL
  clear hL hss
  obtain ⟨N2, hN2⟩ : ∃ N2, N2 = min len2 30 := ⟨_, rfl⟩
  have hn1 : N2 ≤ len2 := by omega
  have hn2 : N2 ≤ 30 := by omega
  have hn3 : N2 < len2 → N2 = 30 := by omega
  have hml := HZ2.out.1
  clear hN2
  go_wp2_with fail
  go_loopg [11] N2 (fun gk j wr => ∃ (m : Nat) (c' : Ca) (r' : Rc), m + gk = N2 ∧ j = .int .i64 m ∧ Hid (IsCa wr p b1 b2 c') ∧ Hid (Rl c' r') ∧ Hid (c'.uses ≤ 80 + m) ∧ Hid (∀ x, c.dirtyB x = true → c'.dirtyB x = true) ∧ Hid (RowF wr w2.heap.size (.slice a3 L c3) ss) ∧ Hid (w2.heap.size ≤ wr.heap.size) ∧ Hid (Below w.heap.size w wr))
  case atStart => exact ⟨0, c, r, by omega, rfl, H3, RL, hid (by omega), hid (fun x hx => hx), R3, S3, B3⟩
  case round =>
    obtain ⟨m, c', r', hm, rfl, HC, HR, HU, HD, HW, HS, HB⟩ := hrel
    have lens := HR.out.lens
    by_cases hlt : m < N2
    · have hl1 : (m : Int) < (len2 : Int) := by omega
      have hl2 : (m : Int) < 30 := by omega
      obtain ⟨zb, zo, rfl, hcell⟩ := (HZ2.out.later HB.out).2.1 (by omega)
      have k0 := hcell m (by omega)
      have hzr := HZ2.out.2.2 m
      have uses : c'.uses < 1000000 := by have := HU.out; omega
      have PUT := hid (put_c HC.out (by omega) HR.out.ulo uses HR.out.rise hzr.1 hzr.2)
      have RP := hid (HR.out.put hzr.2 hzr.1 HR.out.rise).2
      have UP := hid (uses_put c' (z2.getD m 0) (c'.nextOf r'.ss))
      have DP : Hid (∀ x, c.dirtyB x = true → (c'.putS (z2.getD m 0) (c'.nextOf r'.ss)).dirtyB x = true) := hid (fun x hx => HR.out.put_dirty HR.out.rise (HD.out x hx))
      have HZR := hid hzr
      have CS : Hid (c'.putR (z2.getD m 0) (c'.nextOf r'.ss) = (0, 2) ∨ c'.putR (z2.getD m 0) (c'.nextOf r'.ss) = (0, 4) ∨ c'.putR (z2.getD m 0) (c'.nextOf r'.ss) = (0, 0) ∨ (∃ nx, c'.putR (z2.getD m 0) (c'.nextOf r'.ss) = (nx, 0) ∧ nx ≠ 0 ∧ (0 ≤ nx ∧ nx < 4294967296) ∧ (c'.putS (z2.getD m 0) (c'.nextOf r'.ss)).has nx = false)) := hid (by
        by_cases q0 : z2.getD m 0 = 0
        · left; unfold Ca.putR; rw [if_pos q0]
        · rcases HR.out.put_cases hzr.2 hzr.1 HR.out.rise q0 with ⟨_, _, _, c4⟩ | ⟨c1, _, c3 | ⟨c3, c5, c6⟩⟩
          · exact .inr (.inl c4)
          · exact .inr (.inr (.inl (Prod.ext c3 c1)))
          · refine .inr (.inr (.inr ⟨_, Prod.ext c3 c1, c5, nextOf_range (fun x hx => by
              have := HR.out.has_rng ((HR.out.rise.2 x).1 hx)
              omega), HR.out.put_gone HR.out.rise q0 c6 c5 c3 c1⟩)))
      clear hcell hzr uses
      generalize c'.putR (z2.getD m 0) (c'.nextOf r'.ss) = pr at *
      generalize c'.putS (z2.getD m 0) (c'.nextOf r'.ss) = c9 at *
      generalize r'.putS (z2.getD m 0) = r9 at *
      generalize z2.getD m 0 = zf at *
      go_wp2_with fail
      refine PUT.out.mono ?_
      rintro _ w4 ⟨rfl, h4, o4⟩
      have C4 := hid h4
      have W4 := hid (HW.out.out o4 LT.out)
      have S4 : Hid (w2.heap.size ≤ w4.heap.size) := hid (Nat.le_trans HS.out o4.size)
      have B4 := hid (HB.out.trans (o4.below HB.out.size TB.out))
      have U4 : Hid (c9.uses ≤ 80 + ((m + 1 : Nat) : Int)) := hid (by have h1 := HU.out; have h2 := UP.out; omega)
      clear h4 o4
      rcases CS.out with e | e | e | ⟨nx, e, q1, q2, q3⟩
      · subst e
        go_wp2
        go_roundg (gk - 1)
        case measure => omega
        case rel => exact ⟨m + 1, c9, r9, by omega, by go_num, C4, RP, U4, DP, W4, S4, B4⟩
      · subst e
        go_wp2
        go_roundg (gk - 1)
        case measure => omega
        case rel => exact ⟨m + 1, c9, r9, by omega, by go_num, C4, RP, U4, DP, W4, S4, B4⟩
      · subst e
        go_wp2
        go_roundg (gk - 1)
        case measure => omega
        case rel => exact ⟨m + 1, c9, r9, by omega, by go_num, C4, RP, U4, DP, W4, S4, B4⟩
      · subst e
        have q4 : (nx != 0) = true := by simp [q1]
        have HC9 := hid (has_c C4.out q2.1 q2.2)
        rw [q3] at HC9
        go_wp2_with (go_at_call 14; refine HC9.out.mono ?_; rintro _ w5 ⟨rfl, hb5⟩; (have B5 := hid hb5); clear hb5)
        go_roundg (gk - 1)
        case measure => omega
        case rel => exact ⟨m + 1, c9, r9, by omega, by go_num, hid (C4.out.later B5.out), RP, U4, DP, hid (W4.out.later B5.out), hid (Nat.le_trans S4.out B5.out.size), hid (B4.out.trans (B5.out.mono B4.out.size))⟩
    · have em : m = N2 := by omega
      subst em
      have hout : ((m : Int) < (len2 : Int) ∧ ¬ (m : Int) < 30) ∨ ¬ (m : Int) < (len2 : Int) := by
        by_cases hl : m < len2
        · have := hn3 hl
          exact .inl ⟨by omega, by omega⟩
        · exact .inr (by omega)
      clear hn3 hlt
      rcases hout with ⟨d1, d2⟩ | d1
      all_goals (
        go_wp2_with fail
        refine (cafork_c HC.out).mono ?_
        rintro _ w4 ⟨g4, p4, q4, rfl, hF, hnew, hb4⟩
        have C4 := hid (HC.out.later hb4)
        have F4 := hid hF
        have B4 := hid (HB.out.trans (hb4.mono HB.out.size))
        have W4 := hid (HW.out.later hb4)
        clear hb4 hF hnew
        go_wp2_with fail
        go_loopg [15] L (fun gk j wx => ∃ k : Nat, k + gk = L ∧ j = .int .i64 k ∧ Hid (Below w4.heap.size w4 wx))
        case atStart => exact ⟨0, by omega, rfl, hid (Below.refl _ _)⟩
        case round =>
          obtain ⟨k, hk, rfl, HX⟩ := hrel
          by_cases hkl : k < L
          · have hkI : (k : Int) < L := by omega
            obtain ⟨eL9, hcap7, hr7⟩ := (W4.out.later HX.out).at
            clear eL9
            obtain ⟨g7, o7, rfl, _, hc7⟩ := hr7 (by omega)
            have k0 := hc7 k hkl
            obtain ⟨s1, s2, s3⟩ := SR.out k hkl
            have FX := hid (F4.out.later HX.out)
            have DX := hid (dirty_c FX.out s2 s3)
            have DD := hid (fun hd => drop_dirty FX.out s2 s3 (i := ss.getD k 0) hd)
            clear hc7 s1 hr7
            generalize ss.getD k 0 = x at *
            cases hd : c'.dirtyB x with
            | false =>
              rw [hd] at DX
              clear hd
              go_wp2_with (go_at_call 16; refine DX.out.mono ?_; rintro _ w8 ⟨rfl, h8⟩; rw [h8]; clear h8)
              go_roundg (gk - 1)
              case measure => omega
              case rel => exact ⟨k + 1, by omega, by go_num, HX⟩
            | true =>
              rw [hd] at DX
              have DE := hid (DD.out hd)
              clear hd DD
              go_wp2_with (first
                | (go_at_call 17; refine DE.out.mono ?_; rintro _ w9 ⟨rfl, h9⟩; (have B9 := hid h9); clear h9)
                | (go_at_call 16; refine DX.out.mono ?_; rintro _ w8 ⟨rfl, h8⟩; rw [h8]; clear h8))
              go_roundg (gk - 1)
              case measure => omega
              case rel => exact ⟨k + 1, by omega, by go_num, hid (HX.out.trans (B9.out.mono HX.out.size))⟩
          · have ek : k = L := by omega
            subst ek
            have hge : ¬ (k : Int) < k := by omega
            have B5 := hid (B4.out.trans (HX.out.mono B4.out.size))
            have C5 := hid (C4.out.later HX.out)
            have W5 := hid (W4.out.later HX.out)
            go_wp2_with fail
            refine (PC.out _ B5.out).mono ?_
            rintro _ w6 ⟨p6, x6, y6, g6, vl6, vh6, rfl, hB6, hK6, hb6⟩
            have E6 : Hid (IsCa w6 p6 x6 y6 c) := hid (by rw [HCE.out]; exact hB6.hc)
            have C6 := hid (C5.out.later hb6)
            have W6 := hid (W5.out.later hb6)
            have B6 := hid (B5.out.trans (hb6.mono B5.out.size))
            clear hB6 hK6 hb6
            go_wp2_with fail
            go_loopg [19] k (fun gk j wx => ∃ q : Nat, q + gk = k ∧ j = .int .i64 q ∧ wx = w6)
            case atStart => exact ⟨0, by omega, rfl, rfl⟩
            case round =>
              obtain ⟨q, hq, rfl, rfl⟩ := hrel
              by_cases hql : q < k
              · have hqI : (q : Int) < k := by omega
                obtain ⟨eL9, hcap7, hr7⟩ := W6.out.at
                clear eL9
                obtain ⟨g7, o7, rfl, _, hc7⟩ := hr7 (by omega)
                have k0 := hc7 q hql
                obtain ⟨s1, s2, s3⟩ := SR.out q hql
                have DX := hid (dirty_c E6.out s2 s3)
                have DY := hid (dirty_c C6.out s2 s3)
                have DI := HD.out (ss.getD q 0)
                clear hc7 s1 hr7
                generalize ss.getD q 0 = x at *
                cases hd : c.dirtyB x with
                | false =>
                  rw [hd] at DX
                  clear hd DI
                  go_wp2_with (go_at_call 16; refine DX.out.mono ?_; rintro _ w8 ⟨rfl, h8⟩; rw [h8]; clear h8)
                  go_roundg (gk - 1)
                  case measure => omega
                  case rel => exact ⟨q + 1, by omega, by go_num, rfl⟩
                | true =>
                  rw [hd] at DX
                  rw [DI hd] at DY
                  clear hd DI
                  go_wp2_with (first
                    | (have _q := TX.out; clear _q; go_at_call 16; refine DY.out.mono ?_; rintro _ w9 ⟨rfl, h9⟩; rw [h9]; clear h9)
                    | (go_at_call 16; refine DX.out.mono ?_; rintro _ w8 ⟨rfl, h8⟩; rw [h8]; (have TX := hid h8); clear h8))
                  go_roundg (gk - 1)
                  case measure => omega
                  case rel => exact ⟨q + 1, by omega, by go_num, rfl⟩
              · have eq9 : q = k := by omega
                subst eq9
                have hge2 : ¬ (q : Int) < q := by omega
                go_wp2
                go_ret
                exact ⟨rfl, B6.out⟩)
/-! ### The row of CacheDirty -/
theorem cacheDirty_own : ownKnob Try.prog.godebug = none := by kernel_rfl
theorem cacheDirty_laidOut : laidOutB Try.prog = true := by kernel_rfl
set_option maxRecDepth 100000 in
theorem cacheDirty_lifted (os : Os) (started : os.Started) (H : Type) (enc : TypeId × Value → H) :
    ReturnsInHanded {} Try.checked os 4 .any (Rows.cacheDirtySpec.pre6 enc Try.prog Try.f4 Rows.cacheDirtyRow.domain false) (Rows.cacheDirtySpec.post enc Try.prog Try.f4 false true false false) := by
  refine returnsInHanded_of_change (C := Try.checked) cacheDirty_own started (by kernel_rfl) Try.func4
    (ChangeSpec.witness6 (enc := enc) (C := Try.checked) false ⟨#[], #[.int .u8 0, .slice none 0 0, .slice none 0 0], []⟩ 8 (by kernel_rfl) (by kernel_rfl) (by kernel_rfl) (by kernel_rfl)) ?_
  intro W base args ds gs before hval0 hW hcnd _
  have hval : ∀ (j : Nat) t v, Try.f4.params[j]? = some t → args[j]? = some v → Value.okWide Try.prog W .any base t v := hval0
  have hW' := hW
  obtain ⟨p, q, hA0, hV, rfl, hfz, hnd⟩ := hW
  have hA : DataW.TrodAll enc Try.prog W 0 (fun _ => true) true Try.f4.params.toList args.toList ds p := hA0
  rw [Try.params4] at hA hval
  obtain ⟨v0, vs0, d0, ds0, p0, q0, hargs, rfl, rfl, h0, r0⟩ := trodAll_cons hA
  obtain ⟨v1, vs1, d1, ds1, p1, q1, rfl, rfl, rfl, h1, r1⟩ := trodAll_cons r0
  obtain ⟨v2, vs2, d2, ds2, p2, q2, rfl, rfl, rfl, h2, r2⟩ := trodAll_cons r1
  obtain ⟨rfl, rfl, rfl⟩ := trodAll_nil r2
  obtain rfl : args = #[v0, v1, v2] := by cases args; simp_all
  obtain ⟨rfl, rfl⟩ := trodVars_none hV
  obtain ⟨a0, rfl, rfl, rfl, w0⟩ := open_int Try.underlying5 (hval 0 5 v0 rfl rfl) h0
  have k1 := h1
  have lt1 : ∀ x ∈ p1, x.block < W.heap.size := by obtain ⟨m, hm⟩ := k1; exact DataW.trod_lt m _ _ _ hm
  obtain ⟨a1, len1, cap1, rfl⟩ := okWide_slice Try.underlying22 (hval 1 22 v1 rfl rfl)
  obtain ⟨z1, w1⟩ := isDc_of Try.underlying22 h1
  have k2 := h2
  have lt2 : ∀ x ∈ p2, x.block < W.heap.size := by obtain ⟨m, hm⟩ := k2; exact DataW.trod_lt m _ _ _ hm
  obtain ⟨a2, len2, cap2, rfl⟩ := okWide_slice Try.underlying32 (hval 2 32 v2 rfl rfl)
  obtain ⟨z2, w2⟩ := isFd_of Try.underlying32 Try.underlying24 (by kernel_rfl) h2
  clear hA0 hval0
  refine (cacheDirty_walk a0 w0 a1 len1 cap1 z1 a2 len2 cap2 z2 W w1 w2).mono fun e W' ⟨he, bel⟩ => ?_
  subst he
  exact ⟨_, rfl, _, _, _, [], _, [], hW', trodAll_mk1 (shut_bool Try.underlying4 _), (trodAll_cons_mk (shut_int Try.underlying5 w0) (trodAll_cons_mk (Below.trod cacheDirty_laidOut (by kernel_rfl) (of_decide_eq_true (by kernel_rfl)) k1 bel lt1) (trodAll_cons_mk (Below.trod cacheDirty_laidOut (by kernel_rfl) (of_decide_eq_true (by kernel_rfl)) k2 bel lt2) trodAll_mk0))), rfl, bel.frame _, fun h => by cases h⟩
theorem cacheDirty_over : Rows.cacheDirtyRow.holds Try.pinned (OpenSpec.ofChange Rows.cacheDirtySpec) :=
  OpenClaim.holds_of_wide 4 Try.f4 rfl rfl rfl rfl rfl rfl rfl ⟨rfl, rfl, rfl, rfl, rfl⟩ rfl rfl rfl rfl rfl (by kernel_rfl) Try.func4 (by kernel_rfl)
    (of_decide_eq_true (by kernel_rfl)) (by unfold Func.isWrapper; first | (rw [if_pos (by decide +kernel)]; kernel_rfl) | (rw [if_neg (by decide +kernel)]; exact ⟨rfl, rfl⟩))
    (fun os started H enc _ => cacheDirty_lifted os started H enc)
/-- The statement. -/
theorem cacheDirty_holds : Rows.CacheDirtySaid := cacheDirty_over
#print axioms cacheDirty_holds

end Go.Proofs.Ytilcbkejmpfnfaa
