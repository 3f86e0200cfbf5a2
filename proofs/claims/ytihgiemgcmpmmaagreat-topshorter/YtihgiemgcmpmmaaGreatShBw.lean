/-
  Same of the program's tree.
-/
import Derived.Test.YtihgiemgcmpmmaaGreatShBv
namespace Go.Proofs.YtihgiemgcmpmmaaGreat
open Go.RowKit Go.ChangeShapes Go.WideShapes Go.ChangeAt
set_option linter.unusedVariables false
set_option linter.unusedSimpArgs false
set_option maxRecDepth 100000
theorem txI {a b : List Int} (ha : ∀ y ∈ a, 0 ≤ y ∧ y ≤ 255) (hb : ∀ y ∈ b, 0 ≤ y ∧ y ≤ 255) : ((Fr.tx a).toList == (Fr.tx b).toList) = true ↔ a = b := by
 constructor
 · intro h
   have h1 : (Fr.tx a).toList = (Fr.tx b).toList := by simpa using h
   have h2 : Fr.tx a = Fr.tx b := by
     rw [Lib.toList_data, Lib.toList_data] at h1
     have : (Fr.tx a).data = (Fr.tx b).data := Array.ext' h1
     cases hA : Fr.tx a
     cases hB : Fr.tx b
     rw [hA, hB] at this
     simp only at this
     rw [this]
   rw [← Fr.bs_tx a ha, ← Fr.bs_tx b hb, h2]
 · intro h; subst h; simp
theorem isB_all {w : World} {a : Option Addr} {zs : List Int} (h : IsB w a zs.length zs) : ∀ y ∈ zs, 0 ≤ y ∧ y ≤ 255 := by
 intro y hy
 obtain ⟨i, hi, rfl⟩ := List.getElem_of_mem hy
 have := h.2.2.2 i
 rwa [List.getD, List.getElem?_eq_getElem hi] at this
def Yes (p : Prop) (w : World) (e : Ending) (w' : World) : Prop := (∃ r : Bool, e = .returned (.bool r) ∧ (r = true ↔ p)) ∧ Below w.heap.size w w'
theorem Yes.t {p : Prop} {w w' : World} (h : p) (hb : Below w.heap.size w w') : Yes p w (.returned (.bool true)) w' := ⟨⟨true, rfl, ⟨fun _ => h, fun _ => rfl⟩⟩, hb⟩
theorem Yes.f {p : Prop} {w w' : World} (h : ¬ p) (hb : Below w.heap.size w w') : Yes p w (.returned (.bool false)) w' := ⟨⟨false, rfl, ⟨(fun e => by cases e), fun e => absurd e h⟩⟩, hb⟩
set_option maxHeartbeats 1000000 in
theorem bytesEq_c (a b : Option Addr) (ca cb : Nat) (xs ys : List Int) (w : World) (hx : IsB w a xs.length xs) (hy : IsB w b ys.length ys) :
   Calls Tryz.prog 55 #[.slice a xs.length ca, .slice b ys.length cb] w (Yes (xs = ys) w) := by
 have cx := conv_anyN (pc := ca) hx
 have cy := conv_anyN (pc := cb) hy
 have hI := hid (txI (isB_all hx) (isB_all hy))
 clear hx hy
 generalize xs.length = n at *
 generalize ys.length = m at *
 cases hr : ((Fr.tx xs).toList == (Fr.tx ys).toList) with
 | true =>
   have HP := hid (hI.out.1 hr)
   go_enter Tryz.func55, Tryz.ntmps55
   go_wp2
   go_ret
   exact Yes.t HP.out (Below.refl _ _)
 | false =>
   have HP : Hid (¬ xs = ys) := hid (fun e => by rw [hI.out.2 e] at hr; cases hr)
   go_enter Tryz.func55, Tryz.ntmps55
   go_wp2
   go_ret
   exact Yes.f HP.out (Below.refl _ _)
theorem kid_law : WideMaps.KeyLaw Tryz.prog 114 := deep_law_laid (by kernel_rfl) (m := 3) (by omega) (of_decide_eq_true (by kernel_rfl)) (by kernel_rfl) kid_wide
theorem kids_equal {x y : Kd} (hx : x.Wf) (hy : y.Wf) : ∃ r : Bool, (r = true ↔ x = y) ∧ ∀ w : World, (Op.equalIn 10000 114 x.val y.val).run Tryz.prog w = .ok r w := by
 obtain ⟨lx, ex⟩ := kid_key hx
 obtain ⟨ly, ey⟩ := kid_key hy
 have hv : x.val = y.val ↔ x = y := by
   obtain ⟨xn, xf⟩ := x
   obtain ⟨yn, yf⟩ := y
   simp [Kd.val]
 classical
 refine ⟨decide (x.val = y.val), by simp [hv], fun w => ?_⟩
 obtain ⟨r, hr, hiff⟩ := run_equal_deep (P := Tryz.prog) w (m := 3) (by omega) (k := 114) (by kernel_rfl) kid_wide ex ey
 have : r = decide (x.val = y.val) := by
   by_cases q : x.val = y.val
   · rw [q, ey] at ex
     cases ex
     simp [hiff, q]
   · simp only [q, decide_false]
     cases r with
     | false => rfl
     | true => exact absurd (kid_law.inj ex (by rw [hiff.1 rfl]; exact ey)) q
 rw [this] at hr
 exact hr
set_option maxHeartbeats 2000000 in
theorem kidsEq_c (a b : Option Addr) (ca cb : Nat) (xs ys : List Kd) (w : World) (hx : IsKs w a xs) (hy : IsKs w b ys) (hm : xs.length ≤ 100000) (hm' : ys.length ≤ 100000) :
   Calls Tryz.prog 56 #[.slice a xs.length ca, .slice b ys.length cb] w (Yes (xs = ys) w) := by
 by_cases q : xs.length = ys.length
 · have qB : ((xs.length : Int) != (ys.length : Int)) = false := by rw [q]; simp
   have HX := hid hx
   have HY := hid hy
   have HQ := hid q
   obtain ⟨n, hn⟩ : ∃ n, n = xs.length := ⟨_, rfl⟩
   have HN := hid hn
   rw [← q]
   rw [← hn] at hm ⊢
   clear hx hy qB q hm' hn
   have hg := kid_guard
   go_enter Tryz.func56, Tryz.ntmps56
   go_wp2
   go_loopg [13] n (fun gk i wr => ∃ m : Nat, m + gk = n ∧ i = .int .i64 m ∧ Hid (Below w.heap.size w wr) ∧ Hid (∀ i, i < m → xs.getD i Kd.no = ys.getD i Kd.no))
   case atStart => exact ⟨0, by omega, rfl, hid (Below.refl _ _), hid (fun i hi => by omega)⟩
   case round =>
     obtain ⟨m, hm2, rfl, HB, HI⟩ := hrel
     by_cases hlt : m < n
     · have hltI : (m : Int) < n := by omega
       have h1 : m < xs.length := by rw [← HN.out]; exact hlt
       have h2 : m < ys.length := by rw [← HQ.out]; exact h1
       have hx1 := HX.out.later HB.out
       have hy1 := HY.out.later HB.out
       obtain ⟨b1, o1, rfl, _⟩ := hx1.2.2 (by omega)
       obtain ⟨b2, o2, rfl, _⟩ := hy1.2.2 (by omega)
       obtain ⟨p0, p1⟩ := hx1.at (i := m) h1
       obtain ⟨q0, q1⟩ := hy1.at (i := m) h2
       obtain ⟨r, hr, hq⟩ := kids_equal (hx1.wf (i := m) h1) (hy1.wf (i := m) h2)
       have NO : Hid (xs.getD m Kd.no ≠ ys.getD m Kd.no → ¬ xs = ys) := hid (fun h e => h (by rw [e]))
       have NX : Hid (xs.getD m Kd.no = ys.getD m Kd.no → ∀ i, i < m + 1 → xs.getD i Kd.no = ys.getD i Kd.no) := hid (fun h i hi => by
         by_cases e : i = m
         · rw [e]; exact h
         · exact HI.out i (by omega))
       clear hx1 hy1 h1 h2
       generalize xs.getD m Kd.no = x at *
       generalize ys.getD m Kd.no = y at *
       have RR := hid hr
       clear hr
       unfold Kd.val at hq
       have BQ : Hid (∀ k, Below w.heap.size w (wr.drewN k)) := hid (fun k => below_drewN HB.out k)
       cases r with
       | true =>
         have EX := hid (NX.out (RR.out.1 rfl))
         clear NO NX
         go_wp2
         go_region
         go_wp2
         go_roundg (gk - 1)
         case measure => omega
         case rel => exact ⟨m + 1, by omega, by go_num, hid (Below.drew HB.out), EX⟩
       | false =>
         have EX := hid (NO.out (fun e => by have := RR.out.2 e; cases this))
         clear NO NX
         go_wp2
         go_region
         go_wp2
         go_ret
         exact Yes.f EX.out (Below.drew HB.out)
     · have hge : ¬ (m : Int) < n := by omega
       have em : m = n := by omega
       have EF : Hid (xs = ys) := hid (List.ext_getElem HQ.out (fun i h1 h2 => by
         have := HI.out i (by rw [em, HN.out]; exact h1)
         rwa [List.getD, List.getD, List.getElem?_eq_getElem h1, List.getElem?_eq_getElem h2] at this))
       go_wp2
       go_ret
       exact Yes.t EF.out HB.out
 · have qB : ((xs.length : Int) != (ys.length : Int)) = true := by rw [bne_iff_ne]; omega
   have EX : Hid (¬ xs = ys) := hid (fun e => q (by rw [e]))
   clear hx hy
   generalize xs.length = n at *
   generalize ys.length = m at *
   go_enter Tryz.func56, Tryz.ntmps56
   go_wp2
   go_ret
   exact Yes.f EX.out (Below.refl _ _)
theorem er_eq {x y : Nd} : x.er = y.er ↔ x.fid = y.fid ∧ x.k = y.k ∧ x.md = y.md ∧ x.ln = y.ln ∧ x.zs = y.zs ∧ x.ks = y.ks := by
 obtain ⟨a1, a2, a3, a4, a5, a6, a7, a8, a9, a10⟩ := x
 obtain ⟨b1, b2, b3, b4, b5, b6, b7, b8, b9, b10⟩ := y
 simp only [Nd.er, Nd.lie, Nd.mk.injEq, true_and]
set_option maxHeartbeats 4000000 in
theorem sameNd_c (x y : Nd) (w : World) (hx : x.Ok w) (hy : y.Ok w) (hm : x.ks.length ≤ 100000) (hm' : y.ks.length ≤ 100000) :
   Calls Tryz.prog 29 #[x.val, y.val] w (Yes (x.er = y.er) w) := by
 have b0 := below_1 w (.cells x.cells.toArray 55)
 have h0 := heap_alloc_new w (.cells x.cells.toArray 55)
 have b1 := below_1 (w.alloc (.cells x.cells.toArray 55)) (.cells y.cells.toArray 55)
 have h1 := heap_alloc_new (w.alloc (.cells x.cells.toArray 55)) (.cells y.cells.toArray 55)
 rw [show (w.alloc (.cells x.cells.toArray 55)).heap.size = w.heap.size + 1 by simp] at h1
 have h0' := (b1.block _ (lt_blkR h0)).trans h0
 have bV := b0.trans (b1.mono b0.size)
 have hxV := hx.later bV
 have hyV := hy.later bV
 have BE := hid (bytesEq_c x.da y.da x.dc y.dc x.zs y.zs _ hxV.2.2.2.2.1 hyV.2.2.2.2.1)
 have KE : Hid (∀ W, Below ((w.alloc (.cells x.cells.toArray 55)).alloc (.cells y.cells.toArray 55)).heap.size ((w.alloc (.cells x.cells.toArray 55)).alloc (.cells y.cells.toArray 55)) W → Calls Tryz.prog 56 #[.slice x.ka x.ks.length x.kc, .slice y.ka y.ks.length y.kc] W (Yes (x.ks = y.ks) W)) := hid (fun W hW => kidsEq_c x.ka y.ka x.kc y.kc x.ks y.ks W (hxV.later hW).2.2.2.2.2 (hyV.later hW).2.2.2.2.2 hm hm')
 have BV := hid bV
 have HE := hid (er_eq (x := x) (y := y))
 have CX : Hid (∀ W, Below ((w.alloc (.cells x.cells.toArray 55)).alloc (.cells y.cells.toArray 55)).heap.size ((w.alloc (.cells x.cells.toArray 55)).alloc (.cells y.cells.toArray 55)) W → W.heap[w.heap.size]? = some (.cells x.cells.toArray 55) ∧ W.heap[w.heap.size + 1]? = some (.cells y.cells.toArray 55)) := hid (fun W hW => ⟨(hW.block _ (lt_blkR h0')).trans h0', (hW.block _ (lt_blkR h1)).trans h1⟩)
 clear hx hy b0 b1 h0 h1 h0' bV hxV hyV hm hm'
 obtain ⟨fid, k, md, ln, da, dc, zs, ka, kc, ks⟩ := x
 obtain ⟨fid', k', md', ln', da', dc', zs', ka', kc', ks'⟩ := y
 simp only [Nd.val, Nd.cells] at *
 by_cases q0 : fid = fid'
 · have qb0 : (fid == fid') = true := by rw [q0]; simp
   have Q0 := hid q0
   clear q0
   by_cases q1 : k = k'
   · have qb1 : (k == k') = true := by rw [q1]; simp
     have Q1 := hid q1
     clear q1
     by_cases q2 : md = md'
     · have qb2 : (md == md') = true := by rw [q2]; simp
       have Q2 := hid q2
       clear q2
       by_cases q3 : ln = ln'
       · have qb3 : (ln == ln') = true := by rw [q3]; simp
         have Q3 := hid q3
         clear q3
         go_enter Tryz.func29, Tryz.ntmps29
         go_upto_region 1 with fail
         change Code.wp _ _ _ _ ((w.alloc (.cells #[.int .u32 fid, .int .u8 k, .int .u16 md, .int .u16 ln, .slice da zs.length dc, .slice ka ks.length kc] 55)).alloc (.cells #[.int .u32 fid', .int .u8 k', .int .u16 md', .int .u16 ln', .slice da' zs'.length dc', .slice ka' ks'.length kc'] 55))
         generalize ((w.alloc (.cells #[.int .u32 fid, .int .u8 k, .int .u16 md, .int .u16 ln, .slice da zs.length dc, .slice ka ks.length kc] 55)).alloc (.cells #[.int .u32 fid', .int .u8 k', .int .u16 md', .int .u16 ln', .slice da' zs'.length dc', .slice ka' ks'.length kc'] 55)) = V at *
         obtain ⟨c0, c1⟩ := CX.out V (Below.refl _ _)
         obtain ⟨y0, y1, y2, y3, y4, y5⟩ := nd_cells (x := ⟨fid, k, md, ln, da, dc, zs, ka, kc, ks⟩) c0
         obtain ⟨x0, x1, x2, x3, x4, x5⟩ := nd_cells (x := ⟨fid', k', md', ln', da', dc', zs', ka', kc', ks'⟩) c1
         dsimp only at y0 y1 y2 y3 y4 y5 x0 x1 x2 x3 x4 x5
         clear c0 c1
         go_wp2_with (first
           | (go_at_call 56; refine (KE.out w3 B3.out).mono ?_; rintro _ w4 ⟨⟨r2, rfl, hr2⟩, hb4⟩; have R2 := hid hr2; have B4 := hid (B3.out.trans (hb4.mono B3.out.size)); clear hr2 hb4)
           | (go_at_call 55; refine BE.out.mono ?_; rintro _ w3 ⟨⟨r, rfl, hr⟩, hb3⟩; have R1 := hid hr; have B3 := hid hb3; clear hr hb3; obtain ⟨c0, c1⟩ := CX.out w3 B3.out; have z5 := (nd_cells (x := ⟨fid, k, md, ln, da, dc, zs, ka, kc, ks⟩) c0).2.2.2.2.2; have z6 := (nd_cells (x := ⟨fid', k', md', ln', da', dc', zs', ka', kc', ks'⟩) c1).2.2.2.2.2; dsimp only at z5 z6; clear c0 c1; cases r))
         · go_ret
           exact Yes.f (fun e => by have := R1.out.2 (HE.out.1 e).2.2.2.2.1; cases this) (BV.out.trans (B3.out.mono BV.out.size))
         · go_ret
           refine ⟨⟨r2, rfl, R2.out.trans ⟨fun e => HE.out.2 ⟨Q0.out, Q1.out, Q2.out, Q3.out, R1.out.1 (by simp), e⟩, fun e => (HE.out.1 e).2.2.2.2.2⟩⟩, BV.out.trans (B4.out.mono BV.out.size)⟩
       · have qb3 : (ln == ln') = false := beq_eq_false_iff_ne.2 q3
         have EX : Hid (¬ (⟨fid, k, md, ln, da, dc, zs, ka, kc, ks⟩ : Nd).er = (⟨fid', k', md', ln', da', dc', zs', ka', kc', ks'⟩ : Nd).er) := hid (fun e => q3 (HE.out.1 e).2.2.2.1)
         clear BE KE HE
         go_enter Tryz.func29, Tryz.ntmps29
         go_upto_region 1 with fail
         change Code.wp _ _ _ _ ((w.alloc (.cells #[.int .u32 fid, .int .u8 k, .int .u16 md, .int .u16 ln, .slice da zs.length dc, .slice ka ks.length kc] 55)).alloc (.cells #[.int .u32 fid', .int .u8 k', .int .u16 md', .int .u16 ln', .slice da' zs'.length dc', .slice ka' ks'.length kc'] 55))
         generalize ((w.alloc (.cells #[.int .u32 fid, .int .u8 k, .int .u16 md, .int .u16 ln, .slice da zs.length dc, .slice ka ks.length kc] 55)).alloc (.cells #[.int .u32 fid', .int .u8 k', .int .u16 md', .int .u16 ln', .slice da' zs'.length dc', .slice ka' ks'.length kc'] 55)) = V at *
         obtain ⟨c0, c1⟩ := CX.out V (Below.refl _ _)
         obtain ⟨y0, y1, y2, y3, y4, y5⟩ := nd_cells (x := ⟨fid, k, md, ln, da, dc, zs, ka, kc, ks⟩) c0
         obtain ⟨x0, x1, x2, x3, x4, x5⟩ := nd_cells (x := ⟨fid', k', md', ln', da', dc', zs', ka', kc', ks'⟩) c1
         dsimp only at y0 y1 y2 y3 y4 y5 x0 x1 x2 x3 x4 x5
         clear c0 c1
         go_wp2
         go_ret
         exact Yes.f EX.out BV.out
     · have qb2 : (md == md') = false := beq_eq_false_iff_ne.2 q2
       have EX : Hid (¬ (⟨fid, k, md, ln, da, dc, zs, ka, kc, ks⟩ : Nd).er = (⟨fid', k', md', ln', da', dc', zs', ka', kc', ks'⟩ : Nd).er) := hid (fun e => q2 (HE.out.1 e).2.2.1)
       clear BE KE HE
       go_enter Tryz.func29, Tryz.ntmps29
       go_upto_region 1 with fail
       change Code.wp _ _ _ _ ((w.alloc (.cells #[.int .u32 fid, .int .u8 k, .int .u16 md, .int .u16 ln, .slice da zs.length dc, .slice ka ks.length kc] 55)).alloc (.cells #[.int .u32 fid', .int .u8 k', .int .u16 md', .int .u16 ln', .slice da' zs'.length dc', .slice ka' ks'.length kc'] 55))
       generalize ((w.alloc (.cells #[.int .u32 fid, .int .u8 k, .int .u16 md, .int .u16 ln, .slice da zs.length dc, .slice ka ks.length kc] 55)).alloc (.cells #[.int .u32 fid', .int .u8 k', .int .u16 md', .int .u16 ln', .slice da' zs'.length dc', .slice ka' ks'.length kc'] 55)) = V at *
       obtain ⟨c0, c1⟩ := CX.out V (Below.refl _ _)
       obtain ⟨y0, y1, y2, y3, y4, y5⟩ := nd_cells (x := ⟨fid, k, md, ln, da, dc, zs, ka, kc, ks⟩) c0
       obtain ⟨x0, x1, x2, x3, x4, x5⟩ := nd_cells (x := ⟨fid', k', md', ln', da', dc', zs', ka', kc', ks'⟩) c1
       dsimp only at y0 y1 y2 y3 y4 y5 x0 x1 x2 x3 x4 x5
       clear c0 c1
       go_wp2
       go_ret
       exact Yes.f EX.out BV.out
   · have qb1 : (k == k') = false := beq_eq_false_iff_ne.2 q1
     have EX : Hid (¬ (⟨fid, k, md, ln, da, dc, zs, ka, kc, ks⟩ : Nd).er = (⟨fid', k', md', ln', da', dc', zs', ka', kc', ks'⟩ : Nd).er) := hid (fun e => q1 (HE.out.1 e).2.1)
     clear BE KE HE
     go_enter Tryz.func29, Tryz.ntmps29
     go_upto_region 1 with fail
     change Code.wp _ _ _ _ ((w.alloc (.cells #[.int .u32 fid, .int .u8 k, .int .u16 md, .int .u16 ln, .slice da zs.length dc, .slice ka ks.length kc] 55)).alloc (.cells #[.int .u32 fid', .int .u8 k', .int .u16 md', .int .u16 ln', .slice da' zs'.length dc', .slice ka' ks'.length kc'] 55))
     generalize ((w.alloc (.cells #[.int .u32 fid, .int .u8 k, .int .u16 md, .int .u16 ln, .slice da zs.length dc, .slice ka ks.length kc] 55)).alloc (.cells #[.int .u32 fid', .int .u8 k', .int .u16 md', .int .u16 ln', .slice da' zs'.length dc', .slice ka' ks'.length kc'] 55)) = V at *
     obtain ⟨c0, c1⟩ := CX.out V (Below.refl _ _)
     obtain ⟨y0, y1, y2, y3, y4, y5⟩ := nd_cells (x := ⟨fid, k, md, ln, da, dc, zs, ka, kc, ks⟩) c0
     obtain ⟨x0, x1, x2, x3, x4, x5⟩ := nd_cells (x := ⟨fid', k', md', ln', da', dc', zs', ka', kc', ks'⟩) c1
     dsimp only at y0 y1 y2 y3 y4 y5 x0 x1 x2 x3 x4 x5
     clear c0 c1
     go_wp2
     go_ret
     exact Yes.f EX.out BV.out
 · have qb0 : (fid == fid') = false := beq_eq_false_iff_ne.2 q0
   have EX : Hid (¬ (⟨fid, k, md, ln, da, dc, zs, ka, kc, ks⟩ : Nd).er = (⟨fid', k', md', ln', da', dc', zs', ka', kc', ks'⟩ : Nd).er) := hid (fun e => q0 (HE.out.1 e).1)
   clear BE KE HE
   go_enter Tryz.func29, Tryz.ntmps29
   go_upto_region 1 with fail
   change Code.wp _ _ _ _ ((w.alloc (.cells #[.int .u32 fid, .int .u8 k, .int .u16 md, .int .u16 ln, .slice da zs.length dc, .slice ka ks.length kc] 55)).alloc (.cells #[.int .u32 fid', .int .u8 k', .int .u16 md', .int .u16 ln', .slice da' zs'.length dc', .slice ka' ks'.length kc'] 55))
   generalize ((w.alloc (.cells #[.int .u32 fid, .int .u8 k, .int .u16 md, .int .u16 ln, .slice da zs.length dc, .slice ka ks.length kc] 55)).alloc (.cells #[.int .u32 fid', .int .u8 k', .int .u16 md', .int .u16 ln', .slice da' zs'.length dc', .slice ka' ks'.length kc'] 55)) = V at *
   obtain ⟨c0, c1⟩ := CX.out V (Below.refl _ _)
   obtain ⟨y0, y1, y2, y3, y4, y5⟩ := nd_cells (x := ⟨fid, k, md, ln, da, dc, zs, ka, kc, ks⟩) c0
   obtain ⟨x0, x1, x2, x3, x4, x5⟩ := nd_cells (x := ⟨fid', k', md', ln', da', dc', zs', ka', kc', ks'⟩) c1
   dsimp only at y0 y1 y2 y3 y4 y5 x0 x1 x2 x3 x4 x5
   clear c0 c1
   go_wp2
   go_ret
   exact Yes.f EX.out BV.out
set_option maxHeartbeats 4000000 in
theorem sameF_c (a b : Option Addr) (ca cb : Nat) (xs ys : List Nd) (w : World) (hx : IsNs w a xs) (hy : IsNs w b ys) (hm : xs.length ≤ 100000) (hm' : ys.length ≤ 100000) (hk : ∀ x ∈ xs, x.ks.length ≤ 100000) (hk' : ∀ x ∈ ys, x.ks.length ≤ 100000) :
   Calls Tryz.prog 28 #[.slice a xs.length ca, .slice b ys.length cb, .func (.func 29) #[] #[]] w (Yes (xs.map Nd.er = ys.map Nd.er) w) := by
 by_cases q : xs.length = ys.length
 · have qB : ((xs.length : Int) != (ys.length : Int)) = false := by rw [q]; simp
   have HX := hid hx
   have HY := hid hy
   have HQ := hid q
   have HK := hid hk
   have HK' := hid hk'
   obtain ⟨n, hn⟩ : ∃ n, n = xs.length := ⟨_, rfl⟩
   have HN := hid hn
   rw [← q]
   rw [← hn] at hm ⊢
   clear hx hy qB q hm' hn hk hk'
   go_enter Tryz.func28, Tryz.ntmps28
   go_wp2
   go_loopg [17] n (fun gk i wr => ∃ m : Nat, m + gk = n ∧ i = .int .i64 m ∧ Hid (Below w.heap.size w wr) ∧ Hid (∀ i, i < m → (xs.getD i Nd.no).er = (ys.getD i Nd.no).er))
   case atStart => exact ⟨0, by omega, rfl, hid (Below.refl _ _), hid (fun i hi => by omega)⟩
   case round =>
     obtain ⟨m, hm2, rfl, HB, HI⟩ := hrel
     by_cases hlt : m < n
     · have hltI : (m : Int) < n := by omega
       have h1 : m < xs.length := by rw [← HN.out]; exact hlt
       have h2 : m < ys.length := by rw [← HQ.out]; exact h1
       obtain ⟨b1, o1, rfl, _⟩ := HX.out.2.2 (by omega)
       obtain ⟨b2, o2, rfl, _⟩ := HY.out.2.2 (by omega)
       obtain ⟨y0, y1, y2, y3, y4, y5⟩ := ((HX.out.later HB.out).at (i := m) h1).all
       obtain ⟨z0, z1, z2, z3, z4, z5⟩ := ((HY.out.later HB.out).at (i := m) h2).all
       have okx := (HX.out.later HB.out).ok (i := m) h1
       have oky := (HY.out.later HB.out).ok (i := m) h2
       have kx := HK.out _ (getD_mem xs Nd.no h1)
       have ky := HK'.out _ (getD_mem ys Nd.no h2)
       have NO : Hid ((xs.getD m Nd.no).er ≠ (ys.getD m Nd.no).er → ¬ xs.map Nd.er = ys.map Nd.er) := hid (fun h e => h (by
         have e1 : (xs.map Nd.er)[m]? = (ys.map Nd.er)[m]? := by rw [e]
         rw [List.getElem?_map, List.getElem?_map, List.getElem?_eq_getElem h1, List.getElem?_eq_getElem h2] at e1
         rw [List.getD, List.getD, List.getElem?_eq_getElem h1, List.getElem?_eq_getElem h2]
         simpa using e1))
       have NX : Hid ((xs.getD m Nd.no).er = (ys.getD m Nd.no).er → ∀ i, i < m + 1 → (xs.getD i Nd.no).er = (ys.getD i Nd.no).er) := hid (fun h i hi => by
         by_cases e : i = m
         · rw [e]; exact h
         · exact HI.out i (by omega))
       clear h1 h2
       generalize xs.getD m Nd.no = x at *
       generalize ys.getD m Nd.no = s at *
       have bA := below_1 wr (.cells x.cells.toArray 55)
       have hA := heap_alloc_new wr (.cells x.cells.toArray 55)
       have bB := below_1 (wr.alloc (.cells x.cells.toArray 55)) (.cells s.cells.toArray 55)
       have hB := heap_alloc_new (wr.alloc (.cells x.cells.toArray 55)) (.cells s.cells.toArray 55)
       rw [show (wr.alloc (.cells x.cells.toArray 55)).heap.size = wr.heap.size + 1 by simp] at hB
       have hA2 := (bB.block _ (lt_blkR hA)).trans hA
       have bC := bA.trans (bB.mono bA.size)
       have RC := hid (sameNd_c x s _ (okx.later bC) (oky.later bC) kx ky)
       obtain ⟨p0, p1, p2, p3, p4, p5⟩ := nd_cells hA2
       obtain ⟨r0, r1, r2, r3, r4, r5⟩ := nd_cells hB
       have w0 := cell_later bA z0
       have w1 := cell_later bA z1
       have w2 := cell_later bA z2
       have w3 := cell_later bA z3
       have w4 := cell_later bA z4
       have w5 := cell_later bA z5
       have HB2 := hid (HB.out.trans (bC.mono HB.out.size))
       clear bA bB bC hA hB hA2 z0 z1 z2 z3 z4 z5 okx oky kx ky
       obtain ⟨fid, k, md, ln, da, dc, zs, ka, kc, ks⟩ := x
       obtain ⟨fid', k', md', ln', da', dc', zs', ka', kc', ks'⟩ := s
       simp only [Nd.val, Nd.cells] at *
       go_wp2_with (go_at_call 29; refine RC.out.mono ?_; rintro _ w9 ⟨⟨r, rfl, hr⟩, hb9⟩; have RR := hid hr; have B9 := hid (HB2.out.trans (hb9.mono HB2.out.size)); clear hr hb9; cases r)
       · go_ret
         exact Yes.f (NO.out (fun e => by have := RR.out.2 e; cases this)) B9.out
       · go_roundg (gk - 1)
         case measure => omega
         case rel => exact ⟨m + 1, by omega, by go_num, B9, hid (NX.out (RR.out.1 (by simp)))⟩
     · have hge : ¬ (m : Int) < n := by omega
       have em : m = n := by omega
       have EF : Hid (xs.map Nd.er = ys.map Nd.er) := hid (List.ext_getElem (by rw [List.length_map, List.length_map]; exact HQ.out) (fun i h1 h2 => by
         rw [List.length_map] at h1 h2
         have := HI.out i (by rw [em, HN.out]; exact h1)
         rw [List.getD, List.getD, List.getElem?_eq_getElem h1, List.getElem?_eq_getElem h2] at this
         simpa using this))
       go_wp2
       go_ret
       exact Yes.t EF.out HB.out
 · have qB : ((xs.length : Int) != (ys.length : Int)) = true := by rw [bne_iff_ne]; omega
   have EX : Hid (¬ xs.map Nd.er = ys.map Nd.er) := hid (fun e => q (by rw [← List.length_map (f := Nd.er), e, List.length_map]))
   clear hx hy hk hk'
   generalize xs.length = n at *
   generalize ys.length = m at *
   go_enter Tryz.func28, Tryz.ntmps28
   go_wp2
   go_ret
   exact Yes.f EX.out (Below.refl _ _)
set_option maxHeartbeats 1000000 in
theorem tSame_c (a b : Option Addr) (ca cb : Nat) (xs ys : List Nd) (w : World) (hx : Tr w a xs) (hy : Tr w b ys) (hm : xs.length ≤ 100000) (hm' : ys.length ≤ 100000) :
   Calls Tryz.prog 12 #[.slice a xs.length ca, .slice b ys.length cb] w (Yes (xs.map Nd.er = ys.map Nd.er) w) := by
 have SC := hid (sameF_c a b ca cb xs ys w hx.1 hy.1 hm hm' (fun x h => by have := (hx.2 x h).2.2; omega) (fun x h => by have := (hy.2 x h).2.2; omega))
 clear hx hy
 generalize xs.length = n at *
 generalize ys.length = m at *
 go_enter Tryz.func12, Tryz.ntmps12
 go_wp2_with (go_at_call 28; refine SC.out.mono ?_; rintro _ w1 ⟨⟨r, rfl, hr⟩, hb⟩)
 go_ret
 exact ⟨⟨r, rfl, hr⟩, hb⟩
end Go.Proofs.YtihgiemgcmpmmaaGreat
