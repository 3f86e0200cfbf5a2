/-
  For every bodies and every order: what is asked once is taken once, however often its packets come, in whatever order.
-/
import Derived.Test.YtjgpolaogneoaaaRO0
import Derived.Test.YtjgpolaogneoaaaRLv
import Derived.Deep.OwnRows
namespace Go.Proofs.Ytjgpolaogneoaaa
open Go.RowKit Go.ChangeShapes Go.WideShapes Go.ChangeAt
open Go.ChangeMaps (open_string shut_string)
set_option linter.unusedVariables false
set_option linter.unusedSimpArgs false
set_option maxRecDepth 100000
abbrev K0o : Nat → Tk := fun _ => ⟨0, 0, 0, ⟨#[]⟩⟩
theorem infoI : (Try.prog.info? 3).map (fun i => (i.zero, i.size, i.bytes)) = some (some (.int .i64 0), 1, 8) := by kernel_rfl
theorem made_repI (n : Nat) (z : Value) : madeCells #[z] n = Array.replicate n z := by
  apply Array.ext
  · simp [size_madeCells]
  · intro i h1 h2
    simp [madeCells, Nat.mod_one]
theorem make_ints (n : Nat) (hn : n ≤ 1000) (W : World) : (Instr.makeSlice 44 (.int .i64 ((n : Int) + 1)) (.int .i64 ((n : Int) + 1))).run Try.prog W = .ok (.slice (some ⟨W.heap.size, 0, none⟩) (n + 1) (n + 1)) (W.alloc (.cells (Array.replicate (n + 1) (.int .i64 0)) 3)) := by
  have := run_make_row' (P := Try.prog) 44 3 (.int .i64 0) 8 Try.underlying44 infoI rfl .i64 .i64 (n + 1) (by omega) (by omega) W
  rw [made_repI] at this
  exact this
theorem ints_new (W : World) (n : Nat) : IntsAt (W.alloc (.cells (Array.replicate n (.int .i64 0)) 3)) W.heap.size n (fun _ => 0) :=
  ⟨_, heap_alloc_new W _, by simp, fun j hj => by simp [hj]⟩
/-- What was taken: each once, none that is newer than the last one. -/
def Tkn (F : Nat → Tk) (f : Nat → Int) (n : Nat) : Prop := (∀ i, (F i).Wf) ∧ (F 1).ep = 0 ∧ (F 1).num ≤ n ∧ ((F 1).st = 0 → (F 1).num = 0) ∧ ∀ k : Nat, (f k = 0 ∨ f k = 1) ∧ ((F 1).num < k → f k = 0)
theorem tkn0 (n : Nat) : Tkn K0o (fun _ => 0) n := ⟨wft0, rfl, by show (0 : Int) ≤ n; omega, fun _ => rfl, fun k => ⟨.inl rfl, fun _ => rfl⟩⟩
theorem wf_upd1 {F : Nat → Tk} (h : ∀ i, (F i).Wf) (j : Nat) {t : Tk} (ht : t.Wf) : ∀ i, (updK F j t i).Wf := fun i => by
  unfold updK
  split
  · exact ht
  · exact h i
theorem on_right (q : Nat) (b : ByteArray) (h : 1 ≤ q) (hb : b.size ≤ 16384) : asksB ⟨1, 1, 0, 0, (q : Int), b⟩ = true := by
  have h0 : ((q : Int) != 0) = true := by rw [bne_iff_ne]; omega
  have : Fr.rightB ⟨1, 1, 0, 0, (q : Int), b⟩ = true := by
    unfold Fr.rightB
    simp [hb]
    omega
  unfold asksB
  rw [this]
  rfl
theorem on_take {F : Nat → Tk} {f : Nat → Int} {M : Nat} (h : Tkn F f M) (q : Nat) (b : ByteArray) (h1 : 1 ≤ q) (hq : q ≤ M) (hM : M ≤ 12) (hb : b.size ≤ 16384) :
    (ktOk F ⟨1, 1, 0, 0, (q : Int), b⟩ = true ∧ ktBody F ⟨1, 1, 0, 0, (q : Int), b⟩ = b ∧ f q = 0 ∧ Tkn (ktS F ⟨1, 1, 0, 0, (q : Int), b⟩) (fun k => if k = q then 1 else f k) M) ∨ (ktOk F ⟨1, 1, 0, 0, (q : Int), b⟩ = false ∧ Tkn (ktS F ⟨1, 1, 0, 0, (q : Int), b⟩) f M) := by
  have ha := on_right q b h1 hb
  obtain ⟨w1, w2, w3, w4, w5⟩ := h
  cases hn : newerB (F 1) ⟨1, 1, 0, 0, (q : Int), b⟩ with
  | false =>
    have e : ktOk F ⟨1, 1, 0, 0, (q : Int), b⟩ = false := by show (asksB _ && newerB (F 1) _) = false; rw [hn]; simp
    refine .inr ⟨e, ?_⟩
    unfold ktS
    rw [e]
    exact ⟨w1, w2, w3, w4, w5⟩
  | true =>
    have e : ktOk F ⟨1, 1, 0, 0, (q : Int), b⟩ = true := by show (asksB _ && newerB (F 1) _) = true; rw [hn, ha]; rfl
    have hlt : (F 1).num < q := by
      unfold newerB at hn
      simp only [Bool.or_eq_true, decide_eq_true_eq] at hn
      rcases hn with h0 | h0
      · have := w4 h0; omega
      · rw [w2] at h0
        have z : cmpF 0 0 = 0 := rfl
        rw [z] at h0
        unfold orF at h0
        rw [if_pos rfl] at h0
        unfold cmpF at h0
        split at h0
        · assumption
        · split at h0 <;> omega
    refine .inl ⟨e, by unfold ktBody; rw [e]; rfl, (w5 q).2 hlt, ?_⟩
    unfold ktS
    rw [e]
    show Tkn (updK F 1 ⟨1, 0, (q : Int), ⟨#[]⟩⟩) _ M
    have e1 : (updK F 1 ⟨1, 0, (q : Int), ⟨#[]⟩⟩) 1 = ⟨1, 0, (q : Int), ⟨#[]⟩⟩ := rfl
    refine ⟨wf_upd1 w1 1 ⟨(show (0 : Int) ≤ 1 ∧ (1 : Int) ≤ 2 by decide), (show (0 : Int) ≤ 0 ∧ (0 : Int) < 4294967296 by decide), by simp only; omega, (show (⟨#[]⟩ : ByteArray).size ≤ 16384 by decide)⟩, rfl, ?_, ?_, fun k => ?_⟩
    · rw [e1]; simp only; omega
    · rw [e1]; intro h; cases h
    · rw [e1]
      simp only
      by_cases ek : k = q
      · rw [if_pos ek]; exact ⟨.inr rfl, fun hl => by omega⟩
      · rw [if_neg ek]; exact ⟨(w5 k).1, fun hl => (w5 k).2 (by omega)⟩
theorem on_reply {F : Nat → Tk} {f : Nat → Int} {M : Nat} (h : Tkn F f M) (b : ByteArray) (hb : b.size ≤ 16384) : Tkn (rpS F 1 b) f M := by
  obtain ⟨w1, w2, w3, w4, w5⟩ := h
  unfold rpS
  split
  · show Tkn (updK F 1 ⟨2, (F 1).ep, (F 1).num, b⟩) f M
    have e1 : (updK F 1 ⟨2, (F 1).ep, (F 1).num, b⟩) 1 = ⟨2, (F 1).ep, (F 1).num, b⟩ := rfl
    refine ⟨wf_upd1 w1 1 ⟨(show (0 : Int) ≤ 2 ∧ (2 : Int) ≤ 2 by decide), (w1 1).2.1, (w1 1).2.2.1, hb⟩, w2, w3, ?_, w5⟩
    rw [e1]; intro h; cases h
  · exact ⟨w1, w2, w3, w4, w5⟩
set_option maxHeartbeats 8000000 in
theorem rpcOnce_walk (a0 : Option Addr) (len0 cap0 : Nat) (ss : List ByteArray) (a1 : Option Addr) (len1 cap1 : Nat) (zs : List Int) (hlc : len1 ≤ cap1) (w : World) (h0 : IsTx w a0 len0 ss) (h1 : IsB w a1 len1 zs) :
    Calls Try.prog 4 #[.slice a0 len0 cap0, .slice a1 len1 cap1] w fun e w' => e = .returned (.bool true) ∧ Below w.heap.size w w' := by
  have HT := hid h0
  have HI := hid h1
  have hm0 := h0.2.1
  have hm1 := h1.2.1
  unfold maxLen at hm0 hm1
  clear h0 h1
  obtain ⟨iP, hp', hp0, hp1, hp2⟩ := info_partsP
  go_enter Try.func4, Try.ntmps4
  go_wp2_with fail
  refine (newCaller_c 1 0 (by decide) (by decide) w).mono ?_
  rintro _ w1 ⟨rfl, hC1, hb1⟩
  have hlt1 := hC1.lt
  generalize hc : w.heap.size = c at hC1 hlt1 ⊢
  have C1 := hid hC1
  have B1 := hid hb1
  have hc' : w.heap.size ≤ c := by omega
  have hz1 := hb1.size
  clear hC1 hb1
  go_wp2_with fail
  refine (newCallee_c w1).mono ?_
  rintro _ w2 ⟨rfl, hK2, hb2⟩
  have hlt2 := hK2.lt
  have C2 := hid (C1.out.later hb2)
  have K2 := hid hK2
  have B2 := hid (B1.out.trans (hb2.mono B1.out.size))
  generalize hs : w1.heap.size = s at hK2 K2 hlt2 hlt1 ⊢
  have hcs : c < s := by omega
  have hz2 := hb2.size
  have hws : w.heap.size ≤ s := by omega
  clear hK2 hb2 B1 C1
  have hw2 : w.heap.size ≤ w2.heap.size := B2.out.size
  generalize hbase : w2.heap.size = base at *
  have R2 := hid (RowP.nil w2 base (by omega))
  clear hc hs
  go_wp2
  go_loopw [4, 7, 8] (fun rs v i wr => ∃ (j : Nat) (ps : List Fr.Pk), j ≤ 12 ∧ ps.length ≤ j ∧ rs = .bool false ∧ i = .int .i64 j ∧ Hid (Sent ps) ∧ Hid (RowP wr base v ps) ∧ Hid (IsC 73 wr c ⟨1, 0, (ps.length : Int), false, ⟨#[]⟩, 0, 0⟩) ∧ Hid (IsK wr s K0o) ∧ Hid (Below w.heap.size w wr)) (fun _ _ i _ => (12 - intOf i).toNat)
  case atStart => exact ⟨0, [], by omega, by simp, rfl, rfl, hid Sent.nil, R2, C2, K2, B2⟩
  case round =>
    obtain ⟨j, ps, hj, hpl, rfl, rfl, SE, RO, CA, KA, BA⟩ := hrel
    clear R2 C2 K2 B2
    obtain ⟨av, cv, rfl⟩ := RO.out.slice
    have hwr := BA.out.size
    have hbr := RO.out.2
    generalize hn : ps.length = n at *
    by_cases h1 : j < len0
    · have h1' : (j : Int) < (len0 : Int) := by omega
      by_cases h2 : j < 12
      · have h2' : (j : Int) < 12 := by omega
        obtain ⟨b, off, rfl, hcell⟩ := HT.out.2.2 (by omega)
        have hcj := cell_later BA.out (hcell j h1)
        clear hcell
        generalize ss.getD j ⟨#[]⟩ = bd at *
        by_cases hbg : bd.size ≤ 16384
        · have OC := hid (on_call (n : Int) CA.out (by omega) (by omega) bd hbg)
          go_wp2_with fail
          refine OC.out.mono ?_
          rintro _ w3 ⟨rfl, hC3, ho3⟩
          have T3 := hid (on_tick ((n : Int) + 1) bd hC3 (by omega) (by omega) hbg)
          have O3 := hid ho3
          clear hC3 ho3 OC hcj
          obtain ⟨N, hN⟩ : ∃ N : Int, (n : Int) + 1 = N := ⟨_, rfl⟩
          rw [hN] at T3
          have HN := hid hN
          have hN1 : 1 ≤ N := by omega
          have hN2 : N < 1000 := by omega
          clear hN
          go_wp2_with fail
          refine T3.out.mono ?_
          rintro _ w4 ⟨rfl, hC4, ho4⟩
          have b5 : Below w4.heap.size w4 (w4.alloc (.cells #[.int .u8 1, .int .u8 1, .int .u8 0, .int .u32 0, .int .u32 N, .string bd] 39)) := (Below.refl _ _).alloc (Nat.le_refl _) _
          have O4 := hid (O3.out.trans ho4)
          have CN := hid (on_cancel N bd (hC4.later b5))
          have P5 : Hid (PkAt (w4.alloc (.cells #[.int .u8 1, .int .u8 1, .int .u8 0, .int .u32 0, .int .u32 N, .string bd] 39)) w4.heap.size ⟨1, 1, 0, 0, N, bd⟩) := hid (heap_alloc_new w4 _)
          have Y5 := hid b5
          have hz4 := O4.out.size
          clear hC4 ho4 b5 T3
          go_wp2_with fail
          refine CN.out.mono ?_
          rintro _ w6 ⟨rfl, hC6, ho6⟩
          have O6 := hid (((O4.out).trans (Ou.of Y5.out)).trans ho6)
          have P6 := hid (P5.out.out ho6 (by omega))
          have C6 := hid hC6
          have K6 := hid (KA.out.out O6.out (by omega))
          have R6 := hid (RO.out.out O6.out (fun k e => by omega))
          have B6 := hid (BA.out.trans (O6.out.below BA.out.size (fun k e => by omega)))
          have hz6 := O6.out.size
          obtain ⟨q0, q1, q2, q3, q4, q5, _⟩ := P6.out.cells
          simp only at q0 q1 q2 q3 q4 q5
          clear hC6 ho6 CN P5 Y5 O3 O4
          subst hn
          go_wp2_with (at_builtin; refine wpList_append_own _ rfl _ _ 34 rfl base 39 iP _ 6 32 Try.underlying34 hp' hp0 hp1 hp2 rfl (by decide) _ _ _ rfl (R6.out.1.alloc _) ⟨w6.heap.size, 0, none⟩ 1 1 (pkC ⟨1, 1, 0, 0, N, bd⟩) rfl rfl (pkC_news w6 _ rfl 1 1 0 0 N bd) (by intro u hu; simp [pkC] at hu; rcases hu with rfl | rfl | rfl | rfl | rfl | rfl <;> rfl) (by unfold maxLen; omega) (by omega) (by simp; omega) ?_; intro v9 w9 hown9 hgrow9 hnil9)
          have b9 := rowP_below R6.out hgrow9
          have R9 : Hid (RowP w9 base v9 (ps ++ [⟨1, 1, 0, 0, N, bd⟩])) := hid (RowP.snoc (by simpa using hown9) (by have := b9.size; omega))
          have hl9 : (ps ++ [(⟨1, 1, 0, 0, N, bd⟩ : Fr.Pk)]).length = ps.length + 1 := by simp
          have S9 : Hid (Sent (ps ++ [⟨1, 1, 0, 0, N, bd⟩])) := hid (by have := SE.out.snoc bd hbg; rw [HN.out] at this; exact this)
          have C9 : Hid (IsC 73 w9 c ⟨1, 0, ((ps ++ [(⟨1, 1, 0, 0, N, bd⟩ : Fr.Pk)]).length : Int), false, ⟨#[]⟩, 0, 0⟩) := hid (by rw [hl9]; have := C6.out.under b9 (by omega); rw [← HN.out] at this; simpa using this)
          have K9 := hid (K6.out.under b9 (by omega))
          have B9 := hid (B6.out.trans (b9.mono (by omega)))
          go_roundw
          case rel => exact ⟨j + 1, _, by omega, by omega, rfl, by go_num, S9, R9, C9, K9, B9⟩
          case measure => simp [intOf]; omega
        · have OC := hid (on_big (n : Int) CA.out (by omega) (by omega) bd hbg)
          go_wp2_with fail
          refine OC.out.mono ?_
          rintro _ w3 ⟨rfl, hC3, ho3⟩
          have R3 := hid (RO.out.out ho3 (fun k e => by omega))
          have C3 := hid hC3
          have K3 := hid (KA.out.out ho3 (by omega))
          have B3 := hid (BA.out.trans (ho3.below BA.out.size (fun k e => by omega)))
          clear hC3 ho3 OC hcj
          subst hn
          go_wp2
          go_roundw
          case rel => exact ⟨j + 1, ps, by omega, by omega, rfl, by go_num, SE, R3, C3, K3, B3⟩
          case measure => simp [intOf]; omega
      · have h2' : ¬ (j : Int) < 12 := by omega
        have h2d : decide ((j : Int) < 12) = false := decide_eq_false h2'
        obtain ⟨wo, hwo⟩ : ∃ wo, wo = wr := ⟨_, rfl⟩
        subst hwo
        obtain ⟨M, hMn⟩ : ∃ M, M = n := ⟨_, rfl⟩
        subst hMn
        have hM12 : M ≤ 12 := by omega
        have HM := hid hn
        have MK := make_ints M (by omega)
        clear hn
        have IN := hid (ints_new wo (M + 1))
        have RO' := hid RO.out
        have bN : Below wo.heap.size wo (wo.alloc (.cells (Array.replicate (M + 1) (.int .i64 0)) 3)) := (Below.refl _ _).alloc (Nat.le_refl _) _
        have ON := hid (Ou.of (S := fun k => k = s) bN)
        have KN := hid (KA.out.later bN)
        clear bN CA HT
        generalize hg : wo.heap.size = g at *
        have HMK := hid (MK wo)
        clear MK
        go_wp2
        rw [HMK.out]
        clear HMK
        rw [hg]
        generalize hW5 : wo.alloc (.cells (Array.replicate (M + 1) (.int .i64 0)) 3) = w5 at *
        clear hW5
        go_wp2
        go_loopw [4, 12] (fun rs i wx => ∃ (j2 : Nat) (F : Nat → Tk) (f : Nat → Int), j2 ≤ 60 ∧ rs = .bool false ∧ i = .int .i64 j2 ∧ Hid (IsK wx s F) ∧ Hid (IntsAt wx g (M + 1) f) ∧ Hid (Tkn F f M) ∧ Hid (Ou (fun k => k = s) wo wx)) (fun _ i _ => (60 - intOf i).toNat)
        case atStart => exact ⟨0, _, _, by omega, rfl, rfl, KN, IN, hid (tkn0 M), ON⟩
        case round =>
          obtain ⟨j2, F, f, hj2, rfl, rfl, KX, IX, TX, OX⟩ := hrel
          obtain ⟨wx, hwx⟩ : ∃ wx, wx = wr := ⟨_, rfl⟩
          subst hwx
          clear KN IN ON
          have BX := hid (BA.out.trans (OX.out.below BA.out.size (fun k e => by omega)))
          have hzx := OX.out.size
          by_cases g1 : j2 < len1
          · have g1' : (j2 : Int) < (len1 : Int) := by omega
            by_cases g2 : j2 < 60
            · have g2' : (j2 : Int) < 60 := by omega
              by_cases g3 : 0 < M
              · have g3' : (0 : Int) < (M : Int) := by omega
                have g3n : ((M : Int) == 0) = false := by simp; omega
                obtain ⟨bo, oo, rfl, hcell⟩ := HI.out.2.2.1 (by omega)
                have hcj := cell_later BX.out (hcell j2 g1)
                have hz := HI.out.2.2.2 j2
                have HCX : Hid (∀ W, Below w.heap.size w W → W.cell? ⟨bo, oo + j2, none⟩ = some (.int .u8 (zs.getD j2 0))) := hid (fun W hW => cell_later hW (hcell j2 g1))
                clear hcell
                generalize zs.getD j2 0 = x at *
                have RX := hid (RO.out.out OX.out (fun k e => by omega))
                obtain ⟨gr, cr, hv, hbgr, hlcr, hcs⟩ := RX.out.cells (by rw [HM.out]; exact g3)
                rw [HM.out] at hv
                cases hv
                have hk0 := Int.emod_nonneg x (show (M : Int) ≠ 0 by omega)
                have hk1 := Int.emod_lt_of_pos x g3'
                have hkM : (x % (M : Int)).toNat < M := by omega
                obtain ⟨b, hpk, hbs⟩ := SE.out (x % (M : Int)).toNat (by rw [HM.out]; exact hkM)
                obtain ⟨c0, c1, c2, c3, c4, c5⟩ := hcs (x % (M : Int)).toNat (by rw [HM.out]; exact hkM)
                rw [hpk] at c0 c1 c2 c3 c4 c5
                simp only at c0 c1 c2 c3 c4 c5
                obtain ⟨q, hq⟩ : ∃ q : Nat, (x % (M : Int)).toNat + 1 = q := ⟨_, rfl⟩
                have hqi : (((x % (M : Int)).toNat : Nat) : Int) + 1 = (q : Int) := by omega
                rw [hqi] at c4
                have hq1 : 1 ≤ q := by omega
                have hq2 : q ≤ M := by omega
                clear hcs hpk hq hqi hkM
                have b6 : Below wx.heap.size wx (wx.alloc (.cells #[.int .u8 1, .int .u8 1, .int .u8 0, .int .u32 0, .int .u32 q, .string b] 39)) := (Below.refl _ _).alloc (Nat.le_refl _) _
                have P6 : Hid (PkAt (wx.alloc (.cells #[.int .u8 1, .int .u8 1, .int .u8 0, .int .u32 0, .int .u32 q, .string b] 39)) wx.heap.size ⟨1, 1, 0, 0, q, b⟩) := hid (heap_alloc_new wx _)
                have KT := hid (ktake_c (KX.out.later b6) TX.out.1 ⟨1, 1, 0, 0, q, b⟩ ⟨(show (0 : Int) ≤ 1 ∧ (1 : Int) < 256 by decide), (show (0 : Int) ≤ 1 ∧ (1 : Int) < 256 by decide), (show (0 : Int) ≤ 0 ∧ (0 : Int) < 256 by decide), (show (0 : Int) ≤ 0 ∧ (0 : Int) < 4294967296 by decide), by simp only; omega⟩ (by unfold maxLen; simp only; omega))
                have I6 := hid (IX.out.later b6)
                have O6 := hid (OX.out.trans (Ou.of b6))
                rw [show Fr.val ⟨1, 1, 0, 0, q, b⟩ = .agg #[.int .u8 1, .int .u8 1, .int .u8 0, .int .u32 0, .int .u32 q, .string b] from rfl] at KT
                clear b6
                go_wp2_with fail
                refine KT.out.mono ?_
                rintro _ w7 ⟨rfl, hK7, ho7⟩
                clear KT
                have P7 := hid (P6.out.out ho7 (by have := KX.out.lt; omega))
                have I7 := hid (I6.out.out ho7 (by omega))
                have O7 := hid (O6.out.trans ho7)
                have K7 := hid hK7
                have T7 := hid (on_take TX.out q b hq1 hq2 hM12 hbs)
                clear hK7 ho7 P6 I6 O6 c0 c1 c2 c3 c4 c5 hcj
                generalize ktPk F ⟨1, 1, 0, 0, (q : Int), b⟩ = X at *
                generalize ktIs F ⟨1, 1, 0, 0, (q : Int), b⟩ = ib at *
                obtain ⟨xk, xf, xt, xe, xs, xb⟩ := X
                rw [show Fr.val ⟨xk, xf, xt, xe, xs, xb⟩ = .agg #[.int .u8 xk, .int .u8 xf, .int .u8 xt, .int .u32 xe, .int .u32 xs, .string xb] from rfl]
                have b8 : Below w7.heap.size w7 (w7.alloc (.cells #[.int .u8 xk, .int .u8 xf, .int .u8 xt, .int .u32 xe, .int .u32 xs, .string xb] 39)) := (Below.refl _ _).alloc (Nat.le_refl _) _
                have K8 := hid (K7.out.later b8)
                have I8 := hid (I7.out.later b8)
                have O8 := hid (O7.out.trans (Ou.of b8))
                have P8 := hid (P7.out.later b8)
                clear b8 K7 I7 O7 P7
                rcases T7.out with ⟨e1, e2, hf0, hT8⟩ | ⟨e1, hT8⟩
                · have T8 := hid hT8
                  have HF0 := hid hf0
                  rw [e1, e2]
                  clear T7 e1 e2 hT8 hf0
                  generalize ktS F ⟨1, 1, 0, 0, (q : Int), b⟩ = F' at *
                  have hqa : ¬ (q : Int) < 1 := by omega
                  have hqb : ¬ (M : Int) < (q : Int) := by omega
                  have hqc : (q : Int) < (M : Int) + 1 := by omega
                  obtain ⟨p0, p1, p2, p3, p4, p5, _⟩ := P8.out.cells
                  simp only at p0 p1 p2 p3 p4 p5
                  have hic := I8.out.cell (j := q) (by omega)
                  rw [HF0.out] at hic
                  obtain ⟨hic1, hic2⟩ := hic
                  have I9 := hid (I8.out.set (j := q) (by omega) 1)
                  have s9 : Ou (fun k => k = g) (w7.alloc (.cells #[.int .u8 xk, .int .u8 xf, .int .u8 xt, .int .u32 xe, .int .u32 xs, .string xb] 39)) ((w7.alloc (.cells #[.int .u8 xk, .int .u8 xf, .int .u8 xt, .int .u32 xe, .int .u32 xs, .string xb] 39)).setCell ⟨g, q, none⟩ (.int .i64 1)) := Ou.set (S := fun k => k = g) (Ou.refl _ _) rfl
                  have K9 := hid (K8.out.out s9 (by omega))
                  have O9 : Hid (Ou (fun k => k = s) wo ((w7.alloc (.cells #[.int .u8 xk, .int .u8 xf, .int .u8 xt, .int .u32 xe, .int .u32 xs, .string xb] 39)).setCell ⟨g, q, none⟩ (.int .i64 1))) := hid ⟨O8.out.os, O8.out.tape, O8.out.output, Nat.le_trans O8.out.size s9.size, fun k hk hn => by rw [s9.block k (by have := O8.out.size; omega) (by omega)]; exact O8.out.block k hk hn⟩
                  have B9 := hid (BA.out.trans (O9.out.below BA.out.size (fun k e => by omega)))
                  have hcj9 := HCX.out _ B9.out
                  have RP := hid (reply_c K9.out 1 ⟨#[100, 111, 110, 101]⟩)
                  have T9 := hid (on_reply T8.out ⟨#[100, 111, 110, 101]⟩ (by decide))
                  clear s9
                  by_cases h3 : x % 3 = 0
                  · have h3b : (x % 3 == 0) = true := by rw [h3]; rfl
                    go_wp2_with (go_at_call 18; refine RP.out.mono ?_; rintro _ w10 ⟨rfl, hK10, ho10⟩)
                    have I10 := hid (I9.out.out ho10 (by omega))
                    have O10 := hid (O9.out.trans ho10)
                    have K10 := hid hK10
                    go_roundw
                    case rel => exact ⟨j2 + 1, _, _, by omega, rfl, by go_num, K10, I10, T9, O10⟩
                    case measure => simp [intOf]; omega
                  · have h3b : (x % 3 == 0) = false := by rw [beq_eq_false_iff_ne]; exact h3
                    clear RP T9
                    go_wp2
                    go_roundw
                    case rel => exact ⟨j2 + 1, _, _, by omega, rfl, by go_num, K9, I9, T8, O9⟩
                    case measure => simp [intOf]; omega
                · have T8 := hid hT8
                  rw [e1]
                  clear T7 e1 hT8
                  go_wp2
                  go_roundw
                  case rel => exact ⟨j2 + 1, _, f, by omega, rfl, by go_num, K8, I8, T8, O8⟩
                  case measure => simp [intOf]; omega
              · have g3' : ¬ (0 : Int) < (M : Int) := by omega
                have g3d : decide ((0 : Int) < (M : Int)) = false := decide_eq_false g3'
                go_wp2
                go_loopw [4, 18] (fun rs i wy => ∃ j3 : Nat, j3 ≤ M + 1 ∧ rs = .bool false ∧ i = .int .i64 j3 ∧ wy = wx) (fun _ i _ => ((M : Int) + 1 - intOf i).toNat)
                case atStart => exact ⟨0, by omega, rfl, rfl, rfl⟩
                case round =>
                  obtain ⟨j3, hj3, rfl, rfl, rfl⟩ := hrel
                  by_cases e1 : j3 < M + 1
                  · have e1' : (j3 : Int) < (M : Int) + 1 := by omega
                    have hc3 := (IX.out.cell e1).1
                    have hf3 : ¬ (1 : Int) < f j3 := by have := (TX.out.2.2.2.2 j3).1; omega
                    have hf3d : decide ((1 : Int) < f j3) = false := decide_eq_false hf3
                    go_wp2
                    go_roundw
                    case rel => exact ⟨j3 + 1, by omega, rfl, by go_num, by first | rfl | trivial⟩
                    case measure => simp [intOf]; omega
                  · have e1' : ¬ (j3 : Int) < (M : Int) + 1 := by omega
                    have e1d : decide ((j3 : Int) < (M : Int) + 1) = false := decide_eq_false e1'
                    go_wp2_with fail
                    refine (rlive_c _).mono ?_
                    rintro _ w9 ⟨rfl, hb9⟩
                    go_wp2
                    go_ret
                    exact ⟨rfl, BX.out.trans (hb9.mono BX.out.size)⟩
            · have g2' : ¬ (j2 : Int) < 60 := by omega
              have g2d : decide ((j2 : Int) < 60) = false := decide_eq_false g2'
              go_wp2
              go_loopw [4, 18] (fun rs i wy => ∃ j3 : Nat, j3 ≤ M + 1 ∧ rs = .bool false ∧ i = .int .i64 j3 ∧ wy = wx) (fun _ i _ => ((M : Int) + 1 - intOf i).toNat)
              case atStart => exact ⟨0, by omega, rfl, rfl, rfl⟩
              case round =>
                obtain ⟨j3, hj3, rfl, rfl, rfl⟩ := hrel
                by_cases e1 : j3 < M + 1
                · have e1' : (j3 : Int) < (M : Int) + 1 := by omega
                  have hc3 := (IX.out.cell e1).1
                  have hf3 : ¬ (1 : Int) < f j3 := by have := (TX.out.2.2.2.2 j3).1; omega
                  have hf3d : decide ((1 : Int) < f j3) = false := decide_eq_false hf3
                  go_wp2
                  go_roundw
                  case rel => exact ⟨j3 + 1, by omega, rfl, by go_num, by first | rfl | trivial⟩
                  case measure => simp [intOf]; omega
                · have e1' : ¬ (j3 : Int) < (M : Int) + 1 := by omega
                  have e1d : decide ((j3 : Int) < (M : Int) + 1) = false := decide_eq_false e1'
                  go_wp2_with fail
                  refine (rlive_c _).mono ?_
                  rintro _ w9 ⟨rfl, hb9⟩
                  go_wp2
                  go_ret
                  exact ⟨rfl, BX.out.trans (hb9.mono BX.out.size)⟩
          · have g1' : ¬ (j2 : Int) < (len1 : Int) := by omega
            have g1d : decide ((j2 : Int) < (len1 : Int)) = false := decide_eq_false g1'
            go_wp2
            go_loopw [4, 18] (fun rs i wy => ∃ j3 : Nat, j3 ≤ M + 1 ∧ rs = .bool false ∧ i = .int .i64 j3 ∧ wy = wx) (fun _ i _ => ((M : Int) + 1 - intOf i).toNat)
            case atStart => exact ⟨0, by omega, rfl, rfl, rfl⟩
            case round =>
              obtain ⟨j3, hj3, rfl, rfl, rfl⟩ := hrel
              by_cases e1 : j3 < M + 1
              · have e1' : (j3 : Int) < (M : Int) + 1 := by omega
                have hc3 := (IX.out.cell e1).1
                have hf3 : ¬ (1 : Int) < f j3 := by have := (TX.out.2.2.2.2 j3).1; omega
                have hf3d : decide ((1 : Int) < f j3) = false := decide_eq_false hf3
                go_wp2
                go_roundw
                case rel => exact ⟨j3 + 1, by omega, rfl, by go_num, by first | rfl | trivial⟩
                case measure => simp [intOf]; omega
              · have e1' : ¬ (j3 : Int) < (M : Int) + 1 := by omega
                have e1d : decide ((j3 : Int) < (M : Int) + 1) = false := decide_eq_false e1'
                go_wp2_with fail
                refine (rlive_c _).mono ?_
                rintro _ w9 ⟨rfl, hb9⟩
                go_wp2
                go_ret
                exact ⟨rfl, BX.out.trans (hb9.mono BX.out.size)⟩
    · have h1' : ¬ (j : Int) < (len0 : Int) := by omega
      have h1d : decide ((j : Int) < (len0 : Int)) = false := decide_eq_false h1'
      obtain ⟨wo, hwo⟩ : ∃ wo, wo = wr := ⟨_, rfl⟩
      subst hwo
      obtain ⟨M, hMn⟩ : ∃ M, M = n := ⟨_, rfl⟩
      subst hMn
      have hM12 : M ≤ 12 := by omega
      have HM := hid hn
      have MK := make_ints M (by omega)
      clear hn
      have IN := hid (ints_new wo (M + 1))
      have RO' := hid RO.out
      have bN : Below wo.heap.size wo (wo.alloc (.cells (Array.replicate (M + 1) (.int .i64 0)) 3)) := (Below.refl _ _).alloc (Nat.le_refl _) _
      have ON := hid (Ou.of (S := fun k => k = s) bN)
      have KN := hid (KA.out.later bN)
      clear bN CA HT
      generalize hg : wo.heap.size = g at *
      have HMK := hid (MK wo)
      clear MK
      go_wp2
      rw [HMK.out]
      clear HMK
      rw [hg]
      generalize hW5 : wo.alloc (.cells (Array.replicate (M + 1) (.int .i64 0)) 3) = w5 at *
      clear hW5
      go_wp2
      go_loopw [4, 12] (fun rs i wx => ∃ (j2 : Nat) (F : Nat → Tk) (f : Nat → Int), j2 ≤ 60 ∧ rs = .bool false ∧ i = .int .i64 j2 ∧ Hid (IsK wx s F) ∧ Hid (IntsAt wx g (M + 1) f) ∧ Hid (Tkn F f M) ∧ Hid (Ou (fun k => k = s) wo wx)) (fun _ i _ => (60 - intOf i).toNat)
      case atStart => exact ⟨0, _, _, by omega, rfl, rfl, KN, IN, hid (tkn0 M), ON⟩
      case round =>
        obtain ⟨j2, F, f, hj2, rfl, rfl, KX, IX, TX, OX⟩ := hrel
        obtain ⟨wx, hwx⟩ : ∃ wx, wx = wr := ⟨_, rfl⟩
        subst hwx
        clear KN IN ON
        have BX := hid (BA.out.trans (OX.out.below BA.out.size (fun k e => by omega)))
        have hzx := OX.out.size
        by_cases g1 : j2 < len1
        · have g1' : (j2 : Int) < (len1 : Int) := by omega
          by_cases g2 : j2 < 60
          · have g2' : (j2 : Int) < 60 := by omega
            by_cases g3 : 0 < M
            · have g3' : (0 : Int) < (M : Int) := by omega
              have g3n : ((M : Int) == 0) = false := by simp; omega
              obtain ⟨bo, oo, rfl, hcell⟩ := HI.out.2.2.1 (by omega)
              have hcj := cell_later BX.out (hcell j2 g1)
              have hz := HI.out.2.2.2 j2
              have HCX : Hid (∀ W, Below w.heap.size w W → W.cell? ⟨bo, oo + j2, none⟩ = some (.int .u8 (zs.getD j2 0))) := hid (fun W hW => cell_later hW (hcell j2 g1))
              clear hcell
              generalize zs.getD j2 0 = x at *
              have RX := hid (RO.out.out OX.out (fun k e => by omega))
              obtain ⟨gr, cr, hv, hbgr, hlcr, hcs⟩ := RX.out.cells (by rw [HM.out]; exact g3)
              rw [HM.out] at hv
              cases hv
              have hk0 := Int.emod_nonneg x (show (M : Int) ≠ 0 by omega)
              have hk1 := Int.emod_lt_of_pos x g3'
              have hkM : (x % (M : Int)).toNat < M := by omega
              obtain ⟨b, hpk, hbs⟩ := SE.out (x % (M : Int)).toNat (by rw [HM.out]; exact hkM)
              obtain ⟨c0, c1, c2, c3, c4, c5⟩ := hcs (x % (M : Int)).toNat (by rw [HM.out]; exact hkM)
              rw [hpk] at c0 c1 c2 c3 c4 c5
              simp only at c0 c1 c2 c3 c4 c5
              obtain ⟨q, hq⟩ : ∃ q : Nat, (x % (M : Int)).toNat + 1 = q := ⟨_, rfl⟩
              have hqi : (((x % (M : Int)).toNat : Nat) : Int) + 1 = (q : Int) := by omega
              rw [hqi] at c4
              have hq1 : 1 ≤ q := by omega
              have hq2 : q ≤ M := by omega
              clear hcs hpk hq hqi hkM
              have b6 : Below wx.heap.size wx (wx.alloc (.cells #[.int .u8 1, .int .u8 1, .int .u8 0, .int .u32 0, .int .u32 q, .string b] 39)) := (Below.refl _ _).alloc (Nat.le_refl _) _
              have P6 : Hid (PkAt (wx.alloc (.cells #[.int .u8 1, .int .u8 1, .int .u8 0, .int .u32 0, .int .u32 q, .string b] 39)) wx.heap.size ⟨1, 1, 0, 0, q, b⟩) := hid (heap_alloc_new wx _)
              have KT := hid (ktake_c (KX.out.later b6) TX.out.1 ⟨1, 1, 0, 0, q, b⟩ ⟨(show (0 : Int) ≤ 1 ∧ (1 : Int) < 256 by decide), (show (0 : Int) ≤ 1 ∧ (1 : Int) < 256 by decide), (show (0 : Int) ≤ 0 ∧ (0 : Int) < 256 by decide), (show (0 : Int) ≤ 0 ∧ (0 : Int) < 4294967296 by decide), by simp only; omega⟩ (by unfold maxLen; simp only; omega))
              have I6 := hid (IX.out.later b6)
              have O6 := hid (OX.out.trans (Ou.of b6))
              rw [show Fr.val ⟨1, 1, 0, 0, q, b⟩ = .agg #[.int .u8 1, .int .u8 1, .int .u8 0, .int .u32 0, .int .u32 q, .string b] from rfl] at KT
              clear b6
              go_wp2_with fail
              refine KT.out.mono ?_
              rintro _ w7 ⟨rfl, hK7, ho7⟩
              clear KT
              have P7 := hid (P6.out.out ho7 (by have := KX.out.lt; omega))
              have I7 := hid (I6.out.out ho7 (by omega))
              have O7 := hid (O6.out.trans ho7)
              have K7 := hid hK7
              have T7 := hid (on_take TX.out q b hq1 hq2 hM12 hbs)
              clear hK7 ho7 P6 I6 O6 c0 c1 c2 c3 c4 c5 hcj
              generalize ktPk F ⟨1, 1, 0, 0, (q : Int), b⟩ = X at *
              generalize ktIs F ⟨1, 1, 0, 0, (q : Int), b⟩ = ib at *
              obtain ⟨xk, xf, xt, xe, xs, xb⟩ := X
              rw [show Fr.val ⟨xk, xf, xt, xe, xs, xb⟩ = .agg #[.int .u8 xk, .int .u8 xf, .int .u8 xt, .int .u32 xe, .int .u32 xs, .string xb] from rfl]
              have b8 : Below w7.heap.size w7 (w7.alloc (.cells #[.int .u8 xk, .int .u8 xf, .int .u8 xt, .int .u32 xe, .int .u32 xs, .string xb] 39)) := (Below.refl _ _).alloc (Nat.le_refl _) _
              have K8 := hid (K7.out.later b8)
              have I8 := hid (I7.out.later b8)
              have O8 := hid (O7.out.trans (Ou.of b8))
              have P8 := hid (P7.out.later b8)
              clear b8 K7 I7 O7 P7
              rcases T7.out with ⟨e1, e2, hf0, hT8⟩ | ⟨e1, hT8⟩
              · have T8 := hid hT8
                have HF0 := hid hf0
                rw [e1, e2]
                clear T7 e1 e2 hT8 hf0
                generalize ktS F ⟨1, 1, 0, 0, (q : Int), b⟩ = F' at *
                have hqa : ¬ (q : Int) < 1 := by omega
                have hqb : ¬ (M : Int) < (q : Int) := by omega
                have hqc : (q : Int) < (M : Int) + 1 := by omega
                obtain ⟨p0, p1, p2, p3, p4, p5, _⟩ := P8.out.cells
                simp only at p0 p1 p2 p3 p4 p5
                have hic := I8.out.cell (j := q) (by omega)
                rw [HF0.out] at hic
                obtain ⟨hic1, hic2⟩ := hic
                have I9 := hid (I8.out.set (j := q) (by omega) 1)
                have s9 : Ou (fun k => k = g) (w7.alloc (.cells #[.int .u8 xk, .int .u8 xf, .int .u8 xt, .int .u32 xe, .int .u32 xs, .string xb] 39)) ((w7.alloc (.cells #[.int .u8 xk, .int .u8 xf, .int .u8 xt, .int .u32 xe, .int .u32 xs, .string xb] 39)).setCell ⟨g, q, none⟩ (.int .i64 1)) := Ou.set (S := fun k => k = g) (Ou.refl _ _) rfl
                have K9 := hid (K8.out.out s9 (by omega))
                have O9 : Hid (Ou (fun k => k = s) wo ((w7.alloc (.cells #[.int .u8 xk, .int .u8 xf, .int .u8 xt, .int .u32 xe, .int .u32 xs, .string xb] 39)).setCell ⟨g, q, none⟩ (.int .i64 1))) := hid ⟨O8.out.os, O8.out.tape, O8.out.output, Nat.le_trans O8.out.size s9.size, fun k hk hn => by rw [s9.block k (by have := O8.out.size; omega) (by omega)]; exact O8.out.block k hk hn⟩
                have B9 := hid (BA.out.trans (O9.out.below BA.out.size (fun k e => by omega)))
                have hcj9 := HCX.out _ B9.out
                have RP := hid (reply_c K9.out 1 ⟨#[100, 111, 110, 101]⟩)
                have T9 := hid (on_reply T8.out ⟨#[100, 111, 110, 101]⟩ (by decide))
                clear s9
                by_cases h3 : x % 3 = 0
                · have h3b : (x % 3 == 0) = true := by rw [h3]; rfl
                  go_wp2_with (go_at_call 18; refine RP.out.mono ?_; rintro _ w10 ⟨rfl, hK10, ho10⟩)
                  have I10 := hid (I9.out.out ho10 (by omega))
                  have O10 := hid (O9.out.trans ho10)
                  have K10 := hid hK10
                  go_roundw
                  case rel => exact ⟨j2 + 1, _, _, by omega, rfl, by go_num, K10, I10, T9, O10⟩
                  case measure => simp [intOf]; omega
                · have h3b : (x % 3 == 0) = false := by rw [beq_eq_false_iff_ne]; exact h3
                  clear RP T9
                  go_wp2
                  go_roundw
                  case rel => exact ⟨j2 + 1, _, _, by omega, rfl, by go_num, K9, I9, T8, O9⟩
                  case measure => simp [intOf]; omega
              · have T8 := hid hT8
                rw [e1]
                clear T7 e1 hT8
                go_wp2
                go_roundw
                case rel => exact ⟨j2 + 1, _, f, by omega, rfl, by go_num, K8, I8, T8, O8⟩
                case measure => simp [intOf]; omega
            · have g3' : ¬ (0 : Int) < (M : Int) := by omega
              have g3d : decide ((0 : Int) < (M : Int)) = false := decide_eq_false g3'
              go_wp2
              go_loopw [4, 18] (fun rs i wy => ∃ j3 : Nat, j3 ≤ M + 1 ∧ rs = .bool false ∧ i = .int .i64 j3 ∧ wy = wx) (fun _ i _ => ((M : Int) + 1 - intOf i).toNat)
              case atStart => exact ⟨0, by omega, rfl, rfl, rfl⟩
              case round =>
                obtain ⟨j3, hj3, rfl, rfl, rfl⟩ := hrel
                by_cases e1 : j3 < M + 1
                · have e1' : (j3 : Int) < (M : Int) + 1 := by omega
                  have hc3 := (IX.out.cell e1).1
                  have hf3 : ¬ (1 : Int) < f j3 := by have := (TX.out.2.2.2.2 j3).1; omega
                  have hf3d : decide ((1 : Int) < f j3) = false := decide_eq_false hf3
                  go_wp2
                  go_roundw
                  case rel => exact ⟨j3 + 1, by omega, rfl, by go_num, by first | rfl | trivial⟩
                  case measure => simp [intOf]; omega
                · have e1' : ¬ (j3 : Int) < (M : Int) + 1 := by omega
                  have e1d : decide ((j3 : Int) < (M : Int) + 1) = false := decide_eq_false e1'
                  go_wp2_with fail
                  refine (rlive_c _).mono ?_
                  rintro _ w9 ⟨rfl, hb9⟩
                  go_wp2
                  go_ret
                  exact ⟨rfl, BX.out.trans (hb9.mono BX.out.size)⟩
          · have g2' : ¬ (j2 : Int) < 60 := by omega
            have g2d : decide ((j2 : Int) < 60) = false := decide_eq_false g2'
            go_wp2
            go_loopw [4, 18] (fun rs i wy => ∃ j3 : Nat, j3 ≤ M + 1 ∧ rs = .bool false ∧ i = .int .i64 j3 ∧ wy = wx) (fun _ i _ => ((M : Int) + 1 - intOf i).toNat)
            case atStart => exact ⟨0, by omega, rfl, rfl, rfl⟩
            case round =>
              obtain ⟨j3, hj3, rfl, rfl, rfl⟩ := hrel
              by_cases e1 : j3 < M + 1
              · have e1' : (j3 : Int) < (M : Int) + 1 := by omega
                have hc3 := (IX.out.cell e1).1
                have hf3 : ¬ (1 : Int) < f j3 := by have := (TX.out.2.2.2.2 j3).1; omega
                have hf3d : decide ((1 : Int) < f j3) = false := decide_eq_false hf3
                go_wp2
                go_roundw
                case rel => exact ⟨j3 + 1, by omega, rfl, by go_num, by first | rfl | trivial⟩
                case measure => simp [intOf]; omega
              · have e1' : ¬ (j3 : Int) < (M : Int) + 1 := by omega
                have e1d : decide ((j3 : Int) < (M : Int) + 1) = false := decide_eq_false e1'
                go_wp2_with fail
                refine (rlive_c _).mono ?_
                rintro _ w9 ⟨rfl, hb9⟩
                go_wp2
                go_ret
                exact ⟨rfl, BX.out.trans (hb9.mono BX.out.size)⟩
        · have g1' : ¬ (j2 : Int) < (len1 : Int) := by omega
          have g1d : decide ((j2 : Int) < (len1 : Int)) = false := decide_eq_false g1'
          go_wp2
          go_loopw [4, 18] (fun rs i wy => ∃ j3 : Nat, j3 ≤ M + 1 ∧ rs = .bool false ∧ i = .int .i64 j3 ∧ wy = wx) (fun _ i _ => ((M : Int) + 1 - intOf i).toNat)
          case atStart => exact ⟨0, by omega, rfl, rfl, rfl⟩
          case round =>
            obtain ⟨j3, hj3, rfl, rfl, rfl⟩ := hrel
            by_cases e1 : j3 < M + 1
            · have e1' : (j3 : Int) < (M : Int) + 1 := by omega
              have hc3 := (IX.out.cell e1).1
              have hf3 : ¬ (1 : Int) < f j3 := by have := (TX.out.2.2.2.2 j3).1; omega
              have hf3d : decide ((1 : Int) < f j3) = false := decide_eq_false hf3
              go_wp2
              go_roundw
              case rel => exact ⟨j3 + 1, by omega, rfl, by go_num, by first | rfl | trivial⟩
              case measure => simp [intOf]; omega
            · have e1' : ¬ (j3 : Int) < (M : Int) + 1 := by omega
              have e1d : decide ((j3 : Int) < (M : Int) + 1) = false := decide_eq_false e1'
              go_wp2_with fail
              refine (rlive_c _).mono ?_
              rintro _ w9 ⟨rfl, hb9⟩
              go_wp2
              go_ret
              exact ⟨rfl, BX.out.trans (hb9.mono BX.out.size)⟩
/-! ### The row of RpcOnce -/
theorem rpcOnce_own : ownKnob Try.prog.godebug = none := by kernel_rfl
theorem rpcOnce_laidOut : laidOutB Try.prog = true := by kernel_rfl
set_option maxRecDepth 100000 in
theorem rpcOnce_lifted (os : Os) (started : os.Started) (H : Type) (enc : TypeId × Value → H) :
    ReturnsInHanded {} Try.checked os 4 .any (Rows.rpcOnceSpec.pre6 enc Try.prog Try.f4 Rows.rpcOnceRow.domain false) (Rows.rpcOnceSpec.post enc Try.prog Try.f4 false true false false) := by
  refine returnsInHanded_of_change (C := Try.checked) rpcOnce_own started (by kernel_rfl) Try.func4
    (ChangeSpec.witness6 (enc := enc) (C := Try.checked) false ⟨#[], #[.slice none 0 0, .slice none 0 0], []⟩ 8 (by kernel_rfl) (by kernel_rfl) (by kernel_rfl) (by kernel_rfl)) ?_
  intro W base args ds gs before hval0 hW hcnd _
  have hval : ∀ (j : Nat) t v, Try.f4.params[j]? = some t → args[j]? = some v → Value.okWide Try.prog W .any base t v := hval0
  have hW' := hW
  obtain ⟨p, q, hA0, hV, rfl, hfz, hnd⟩ := hW
  have hA : DataW.TrodAll enc Try.prog W 0 (fun _ => true) true Try.f4.params.toList args.toList ds p := hA0
  rw [Try.params4] at hA hval
  obtain ⟨v0, vs0, d0, ds0, p0, q0, hargs, rfl, rfl, h0, r0⟩ := trodAll_cons hA
  obtain ⟨v1, vs1, d1, ds1, p1, q1, rfl, rfl, rfl, h1, r1⟩ := trodAll_cons r0
  obtain ⟨rfl, rfl, rfl⟩ := trodAll_nil r1
  obtain rfl : args = #[v0, v1] := by cases args; simp_all
  obtain ⟨rfl, rfl⟩ := trodVars_none hV
  have k0 := h0
  have lt0 : ∀ x ∈ p0, x.block < W.heap.size := by obtain ⟨m, hm⟩ := k0; exact DataW.trod_lt m _ _ _ hm
  obtain ⟨a0, len0, cap0, rfl⟩ := okWide_slice Try.underlying27 (hval 0 27 v0 rfl rfl)
  obtain ⟨z0, w0⟩ := isTx_of Try.underlying27 Try.underlying9 (by kernel_rfl) h0
  have k1 := h1
  have lt1 : ∀ x ∈ p1, x.block < W.heap.size := by obtain ⟨m, hm⟩ := k1; exact DataW.trod_lt m _ _ _ hm
  obtain ⟨a1, len1, cap1, rfl⟩ := okWide_slice Try.underlying28 (hval 1 28 v1 rfl rfl)
  obtain ⟨z1, w1, lc1⟩ := isB_of Try.underlying28 Try.underlying5 (by kernel_rfl) h1
  clear hA0 hval0
  refine (rpcOnce_walk a0 len0 cap0 z0 a1 len1 cap1 z1 lc1 W w0 w1).mono fun e W' ⟨he, bel⟩ => ?_
  subst he
  exact ⟨_, rfl, _, _, _, [], _, [], hW', trodAll_mk1 (shut_bool Try.underlying4 _), (trodAll_cons_mk (Below.trod rpcOnce_laidOut (by kernel_rfl) (of_decide_eq_true (by kernel_rfl)) k0 bel lt0) (trodAll_cons_mk (Below.trod rpcOnce_laidOut (by kernel_rfl) (of_decide_eq_true (by kernel_rfl)) k1 bel lt1) trodAll_mk0)), rfl, bel.frame _, fun h => by cases h⟩
theorem rpcOnce_over : Rows.rpcOnceRow.holds Try.pinned (OpenSpec.ofChange Rows.rpcOnceSpec) :=
  OpenClaim.holds_of_wide 4 Try.f4 rfl rfl rfl rfl rfl rfl rfl ⟨rfl, rfl, rfl, rfl, rfl⟩ rfl rfl rfl rfl rfl (by kernel_rfl) Try.func4 (by kernel_rfl)
    (of_decide_eq_true (by kernel_rfl)) (by unfold Func.isWrapper; first | (rw [if_pos (by decide +kernel)]; kernel_rfl) | (rw [if_neg (by decide +kernel)]; exact ⟨rfl, rfl⟩))
    (fun os started H enc _ => rpcOnce_lifted os started H enc)
/-- The statement. -/
theorem rpcOnce_holds : Rows.RpcOnceSaid := rpcOnce_over
#print axioms rpcOnce_holds

end Go.Proofs.Ytjgpolaogneoaaa
