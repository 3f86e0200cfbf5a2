/-
  Records compared: slices.Equal, Same, Clean of the package cml.
-/
import Derived.Test.YtihgiemgcmpmmaaCPrd
namespace Go.Proofs.Ytihgiemgcmpmmaa
open Go.RowKit Go.ChangeShapes Go.WideShapes Go.ChangeAt Go.Maps Go.Shelf
set_option linter.unusedVariables false
set_option linter.unusedSimpArgs false
set_option maxRecDepth 100000
/-- Whether records, and rows of them, are the same. -/
def eqR (x y : Rec) : Bool := x.k == y.k && (x.fid == y.fid && (x.dir == y.dir && (x.nm.data.toList == y.nm.data.toList && (x.to == y.to && (x.nm2.data.toList == y.nm2.data.toList && (x.md == y.md && (x.dt.data.toList == y.dt.data.toList && x.sn == y.sn)))))))
theorem bytes_ext {a b : ByteArray} (h : a.data.toList = b.data.toList) : a = b := by
  cases a; cases b
  simp only at h
  congr 1
  exact Array.ext' h
theorem eqR_iff {x y : Rec} : eqR x y = true ↔ x = y := by
  constructor
  · intro h
    unfold eqR at h
    simp only [Bool.and_eq_true, beq_iff_eq] at h
    obtain ⟨h1, h2, h3, h4, h5, h6, h7, h8, h9⟩ := h
    cases x; cases y
    simp only at h1 h2 h3 h4 h5 h6 h7 h8 h9
    have e4 := bytes_ext h4
    have e6 := bytes_ext h6
    have e8 := bytes_ext h8
    subst h1 h2 h3 e4 h5 e6 h7 e8 h9
    rfl
  · intro h; subst h; unfold eqR; simp
theorem eqR_t {x y : Rec} (h : x = y) : eqR x y = true := eqR_iff.2 h
theorem eqR_f {x y : Rec} (h : ¬ x = y) : eqR x y = false := by
  cases e : eqR x y with
  | false => rfl
  | true => exact absurd (eqR_iff.1 e) h
def eqL : List Rec → List Rec → Bool
  | [], [] => true
  | x :: l, y :: k => eqR x y && eqL l k
  | [], _ :: _ => false
  | _ :: _, [] => false
theorem eqL_iff : ∀ {l k : List Rec}, eqL l k = true ↔ l = k
  | [], [] => by simp [eqL]
  | x :: l, y :: k => by
    unfold eqL
    rw [Bool.and_eq_true, eqR_iff, eqL_iff, List.cons.injEq]
  | [], _ :: _ => by simp [eqL]
  | _ :: _, [] => by simp [eqL]
theorem eqL_t {l k : List Rec} (h : l = k) : eqL l k = true := eqL_iff.2 h
theorem eqL_f {l k : List Rec} (h : ¬ l = k) : eqL l k = false := by
  cases e : eqL l k with
  | false => rfl
  | true => exact absurd (eqL_iff.1 e) h
theorem rec_inj {x y : Rec} (h : x.val = y.val) : x = y := by
  cases x; cases y; simpa [Rec.val] using h
theorem rec_wide : (match Try.prog.underlying 49 with | some (.array _ _) | some (.struct _) => true | _ => false) = true := by kernel_rfl
theorem rec_law : WideMaps.KeyLaw Try.prog 49 := deep_law_laid (by kernel_rfl) (m := 3) (by omega) (of_decide_eq_true (by kernel_rfl)) (by kernel_rfl) rec_wide
theorem rec_guard : Try.prog.eqGuardType Try.prog.depth 49 = false := by kernel_rfl
theorem rec_key {x : Rec} (h : x.Wf) : ∃ kl, keyOf Try.prog 49 x.val = some kl := by
  obtain ⟨h1, h2, h3, h4, h5, h6, h7, h8, h9⟩ := h
  have w1 : (Lit.int .u8 x.k).wf = true := by simp [Lit.wf, IntKind.min, IntKind.max, IntKind.signed, IntKind.bits]; omega
  have w2 : (Lit.int .u32 x.fid).wf = true := by simp [Lit.wf, IntKind.min, IntKind.max, IntKind.signed, IntKind.bits]; omega
  have w3 : (Lit.int .u32 x.dir).wf = true := by simp [Lit.wf, IntKind.min, IntKind.max, IntKind.signed, IntKind.bits]; omega
  have w4 : (Lit.int .u32 x.to).wf = true := by simp [Lit.wf, IntKind.min, IntKind.max, IntKind.signed, IntKind.bits]; omega
  have w5 : (Lit.int .u16 x.md).wf = true := by simp [Lit.wf, IntKind.min, IntKind.max, IntKind.signed, IntKind.bits]; omega
  have w6 : (Lit.int .u64 x.sn).wf = true := by simp [Lit.wf, IntKind.min, IntKind.max, IntKind.signed, IntKind.bits]; omega
  have : (keyOf Try.prog 49 x.val).isSome = true := by
    have hkt : Try.prog.keyType 49 = true := by kernel_rfl
    have hc : Try.prog.cellsOf 49 = 9 := by kernel_rfl
    have hc0 : Try.prog.cellsOf 46 = 8 := by kernel_rfl
    have hc1 : Try.prog.cellsOf 41 = 1 := by kernel_rfl
    have hc2 : Try.prog.cellsOf 43 = 1 := by kernel_rfl
    have hc3 : Try.prog.cellsOf 44 = 1 := by kernel_rfl
    have hc4 : Try.prog.cellsOf 9 = 1 := by kernel_rfl
    have hc5 : Try.prog.cellsOf 47 = 1 := by kernel_rfl
    have hs : decide (2 ≤ Try.prog.types.size) = true := by kernel_rfl
    obtain ⟨d, hd⟩ : ∃ d, Try.prog.types.size = d + 2 := ⟨Try.prog.types.size - 2, by have := of_decide_eq_true hs; omega⟩
    unfold Rec.val keyOf
    rw [Try.underlying49, hd]
    simp [hkt, Value.formed, Try.underlying49, Try.underlying46, Try.underlying44, Try.underlying9, Try.underlying47, hc, hc0, hc3, hc4, hc5, Value.cells, Program.keyLits, Try.underlying41, Try.underlying43, hc1, hc2, w1, w2, w3, w4, w5, w6, h7, h8, h9]
    rw [if_pos (by decide)]
    rfl
  exact Option.isSome_iff_exists.1 this
theorem rec_equal (w : World) {x y : Rec} (hx : x.Wf) (hy : y.Wf) : (Op.equalIn 10000 49 x.val y.val).run Try.prog w = .ok (eqR x y) w := by
  obtain ⟨lx, ex⟩ := rec_key hx
  obtain ⟨ly, ey⟩ := rec_key hy
  obtain ⟨r, hr, hiff⟩ := run_equal_deep (P := Try.prog) w (m := 3) (by omega) (k := 49) (by kernel_rfl) rec_wide ex ey
  have : r = eqR x y := by
    by_cases q : x = y
    · subst q
      rw [ex] at ey
      cases ey
      rw [eqR_t rfl]
      exact hiff.2 rfl
    · rw [eqR_f q]
      cases r with
      | false => rfl
      | true => exact absurd (rec_inj (rec_law.inj ex (by rw [hiff.1 rfl]; exact ey))) q
  rw [this] at hr
  exact hr
theorem IsL.wf {w : World} {a : Option Addr} {l : List Rec} (h : IsL w a l) {i : Nat} (hi : i < l.length) : (l.getD i Rec.no).Wf := by
  rw [List.getD, List.getElem?_eq_getElem hi]
  exact h.2.1 _ (List.getElem_mem _)
theorem list_same {l k : List Rec} (hn : l.length = k.length) (h : ∀ i, i < l.length → l.getD i Rec.no = k.getD i Rec.no) : l = k := by
  apply List.ext_getElem hn
  intro i h1 h2
  have := h i h1
  simpa [List.getD, h1, h2] using this
set_option maxRecDepth 20000 in
set_option maxHeartbeats 4000000 in
theorem equalR_c (a b : Option Addr) (ca cb : Nat) (l k : List Rec) (w : World) (hl : IsL w a l) (hk : IsL w b k) (hm : l.length ≤ 100000) (hm' : k.length ≤ 100000) :
    Calls Try.prog 49 #[.slice a l.length ca, .slice b k.length cb] w fun e w' => e = .returned (.bool (eqL l k)) ∧ Below w.heap.size w w' := by
  by_cases hn : l.length = k.length
  · have hnI : ((l.length : Int) == (k.length : Int)) = true := by simp; omega
    have hnI2 : ((l.length : Int) != (k.length : Int)) = false := by simp; omega
    have HL := hid hl
    have HK := hid hk
    have HN := hid hn
    have hg := rec_guard
    rw [← hn]
    obtain ⟨R, hR⟩ : ∃ R, R = eqL l k := ⟨_, rfl⟩
    rw [← hR]
    have HR := hid hR
    obtain ⟨n, hnn⟩ : ∃ n, n = l.length := ⟨_, rfl⟩
    rw [← hnn] at hm HN ⊢
    have HNN := hid hnn
    clear hl hk hn hm' hnI hnI2 hR hnn
    go_enter Try.func49, Try.ntmps49
    go_wp2
    go_loopg [13] n (fun g v wr => ∃ m : Nat, m + g = n ∧ v = .int .i64 m ∧ Hid (∀ i, i < m → l.getD i Rec.no = k.getD i Rec.no) ∧ Hid (Below w.heap.size w wr))
    case atStart => exact ⟨0, by omega, rfl, hid (fun i hi => by omega), hid (Below.refl _ _)⟩
    case round =>
      obtain ⟨m, hm2, rfl, HE, HB⟩ := hrel
      by_cases hlt : m < n
      · have hltI : (m : Int) < n := by omega
        have hl1 := HL.out.later HB.out
        have hk1 := HK.out.later HB.out
        obtain ⟨b1, o1, rfl, _⟩ := hl1.2.2 (by rw [← HNN.out]; omega)
        obtain ⟨b2, o2, rfl, _⟩ := hk1.2.2 (by rw [← HN.out]; omega)
        have hx := hl1.at (i := m) (by rw [← HNN.out]; omega)
        have hy := hk1.at (i := m) (by rw [← HN.out]; omega)
        have HQ := hid (fun W => rec_equal W (hl1.wf (i := m) (by rw [← HNN.out]; omega)) (hk1.wf (i := m) (by rw [← HN.out]; omega)))
        clear hl1 hk1
        generalize ex : l.getD m Rec.no = x at *
        generalize ey : k.getD m Rec.no = y at *
        have x0 : wr.cell? ⟨b1, o1 + m * 9, none⟩ = some (.int .u8 x.k) := hx 0 _ rfl
        have x1 : wr.cell? ⟨b1, o1 + m * 9 + 1, none⟩ = some (.int .u32 x.fid) := hx 1 _ rfl
        have x2 : wr.cell? ⟨b1, o1 + m * 9 + 2, none⟩ = some (.int .u32 x.dir) := hx 2 _ rfl
        have x3 : wr.cell? ⟨b1, o1 + m * 9 + 3, none⟩ = some (.string x.nm) := hx 3 _ rfl
        have x4 : wr.cell? ⟨b1, o1 + m * 9 + 4, none⟩ = some (.int .u32 x.to) := hx 4 _ rfl
        have x5 : wr.cell? ⟨b1, o1 + m * 9 + 5, none⟩ = some (.string x.nm2) := hx 5 _ rfl
        have x6 : wr.cell? ⟨b1, o1 + m * 9 + 6, none⟩ = some (.int .u16 x.md) := hx 6 _ rfl
        have x7 : wr.cell? ⟨b1, o1 + m * 9 + 7, none⟩ = some (.string x.dt) := hx 7 _ rfl
        have x8 : wr.cell? ⟨b1, o1 + m * 9 + 8, none⟩ = some (.int .u64 x.sn) := hx 8 _ rfl
        have y0 : wr.cell? ⟨b2, o2 + m * 9, none⟩ = some (.int .u8 y.k) := hy 0 _ rfl
        have y1 : wr.cell? ⟨b2, o2 + m * 9 + 1, none⟩ = some (.int .u32 y.fid) := hy 1 _ rfl
        have y2 : wr.cell? ⟨b2, o2 + m * 9 + 2, none⟩ = some (.int .u32 y.dir) := hy 2 _ rfl
        have y3 : wr.cell? ⟨b2, o2 + m * 9 + 3, none⟩ = some (.string y.nm) := hy 3 _ rfl
        have y4 : wr.cell? ⟨b2, o2 + m * 9 + 4, none⟩ = some (.int .u32 y.to) := hy 4 _ rfl
        have y5 : wr.cell? ⟨b2, o2 + m * 9 + 5, none⟩ = some (.string y.nm2) := hy 5 _ rfl
        have y6 : wr.cell? ⟨b2, o2 + m * 9 + 6, none⟩ = some (.int .u16 y.md) := hy 6 _ rfl
        have y7 : wr.cell? ⟨b2, o2 + m * 9 + 7, none⟩ = some (.string y.dt) := hy 7 _ rfl
        have y8 : wr.cell? ⟨b2, o2 + m * 9 + 8, none⟩ = some (.int .u64 y.sn) := hy 8 _ rfl
        clear hx hy
        by_cases q : x = y
        · have hq := HQ.out
          simp only [eqR_t q] at hq
          subst q
          have HE2 : Hid (∀ i, i < m + 1 → l.getD i Rec.no = k.getD i Rec.no) := hid (fun i hi => by
            by_cases e : i = m
            · rw [e, ex, ey]
            · exact HE.out i (by omega))
          unfold Rec.val at hq
          clear HQ ex ey HE
          go_wp2
          go_region
          go_wp2
          go_roundg (gk - 1)
          case measure => omega
          case rel => exact ⟨m + 1, by omega, by go_num, HE2, hid (Below.drew HB.out)⟩
        · have hq := HQ.out
          simp only [eqR_f q] at hq
          have HE2 : Hid (R = false) := hid (by
            rw [HR.out]
            refine eqL_f ?_
            intro e
            rw [e, ey] at ex
            exact q ex.symm)
          unfold Rec.val at hq
          clear HQ ex ey HE q
          go_wp2
          go_region
          go_wp2
          go_ret
          exact ⟨by rw [HE2.out]; rfl, Below.drew HB.out⟩
      · have em : m = n := by omega
        subst em
        have hge : ¬ (m : Int) < m := by omega
        have HE2 : Hid (R = true) := hid (by
          rw [HR.out]
          refine eqL_t ?_
          exact list_same (by rw [← HN.out, ← HNN.out]) (fun i hi => HE.out i (by rw [← HNN.out] at hi; exact hi)))
        clear HE
        go_wp2
        go_ret
        exact ⟨by rw [HE2.out]; rfl, HB.out⟩
  · have hne : (l.length : Int) ≠ k.length := by omega
    have e : eqL l k = false := eqL_f (fun e => hn (by rw [e]))
    rw [e]
    clear hl hk e hn
    go_enter Try.func49, Try.ntmps49
    go_wp2
    go_ret
    exact ⟨rfl, Below.refl _ _⟩
set_option maxHeartbeats 1000000 in
theorem same_c (a b : Option Addr) (ca cb : Nat) (l k : List Rec) (w : World) (hl : IsL w a l) (hk : IsL w b k) (hm : l.length ≤ 100000) (hm' : k.length ≤ 100000) :
    Calls Try.prog 38 #[.slice a l.length ca, .slice b k.length cb] w fun e w' => e = .returned (.bool (eqL l k)) ∧ Below w.heap.size w w' := by
  have EC := hid (equalR_c a b ca cb l k w hl hk hm hm')
  clear hl hk
  go_enter Try.func38, Try.ntmps38
  go_wp2_with (go_at_call 49; refine EC.out.mono ?_; rintro _ w1 ⟨rfl, hb1⟩)
  go_ret
  exact ⟨rfl, hb1⟩
theorem opt_len (l : List Rec) : (optF l).length ≤ l.length := by
  have h1 := keep_len (pairedG (neededF l)) (neededF l) (neededF l).length
  have h2 := keep_len (needF l) l l.length
  unfold optF
  unfold neededF at h1 ⊢
  omega
theorem opt_wf {l : List Rec} (h : ∀ x ∈ l, x.Wf) : ∀ x ∈ optF l, x.Wf := fun x hx =>
  keep_wf (p := pairedG (neededF l)) (fun y hy => keep_wf (p := needF l) h l.length (Nat.le_refl _) y hy) _ (Nat.le_refl _) x hx
set_option maxHeartbeats 1000000 in
theorem clean_c (a : Option Addr) (cap : Nat) (l : List Rec) (w : World) (h : IsL w a l) (hm : l.length ≤ 100000) :
    Calls Try.prog 21 #[.slice a l.length cap] w fun e w' => e = .returned (.bool (eqL (optF l) l)) ∧ Below w.heap.size w w' := by
  have OC := hid (optimise_c a cap l w h hm)
  have HI := hid h
  have HW := hid (opt_wf h.2.1)
  have HN := hid (Nat.le_trans (opt_len l) hm)
  clear h
  go_enter Try.func21, Try.ntmps21
  go_wp2_with (go_at_call 9; refine OC.out.mono ?_; rintro _ w1 ⟨v, rfl, hO, hb1⟩)
  obtain ⟨a1, c1, rfl, hI1, _, _⟩ := isL_own hO HW.out
  have HB1 := hid hb1
  have SC := hid (same_c a1 a c1 cap (optF l) l w1 hI1 (HI.out.later hb1) HN.out hm)
  clear hO hI1 hb1 OC
  refine SC.out.mono ?_
  rintro _ w2 ⟨rfl, hb2⟩
  go_wp2
  go_ret
  exact ⟨rfl, HB1.out.trans (hb2.mono HB1.out.size)⟩
end Go.Proofs.Ytihgiemgcmpmmaa
