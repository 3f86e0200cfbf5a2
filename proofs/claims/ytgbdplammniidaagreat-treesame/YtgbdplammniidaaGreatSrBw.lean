/-
  Same of nodes of any size: of the program and of the document, both answers.
-/
import Derived.Test.YtgbdplammniidaaGreatSrBu
import Derived.Test.YtgbdplammniidaaGreatSrAo
namespace Go.Proofs.YtgbdplammniidaaGreat
open Go.RowKit Go.ChangeShapes Go.WideShapes Go.ChangeAt Go.Maps Go.Shelf
set_option linter.unusedVariables false
set_option linter.unusedSimpArgs false
set_option maxRecDepth 100000
set_option maxHeartbeats 2000000 in
theorem kidsEqL_c (a b : Option Addr) (ca cb : Nat) (xs ys : List Kd) (w : World) (hx : IsKs w a xs) (hy : IsKs w b ys) (hm : xs.length ≤ 9223372036854775807) (hm' : ys.length ≤ 9223372036854775807) :
   Calls Tryz.prog 37 #[.slice a xs.length ca, .slice b ys.length cb] w (Yes (xs = ys) w) := by
 by_cases q : xs.length = ys.length
 · have qB : ((xs.length : Int) != (ys.length : Int)) = false := by rw [q]; simp
   have HX := hid hx
   have HY := hid hy
   have HQ := hid q
   obtain ⟨n, hn⟩ : ∃ n, n = xs.length := ⟨_, rfl⟩
   have HN := hid hn
   rw [← q]
   rw [← hn] at hm ⊢
   clear hx hy qB q hm' hn
   have hg := kid_guard
   go_enter Tryz.func37, Tryz.ntmps37
   go_wp2
   go_loopg [13] n (fun gk i wr => ∃ m : Nat, m + gk = n ∧ i = .int .i64 m ∧ Hid (Below w.heap.size w wr) ∧ Hid (∀ i, i < m → xs.getD i Kd.no = ys.getD i Kd.no))
   case atStart => exact ⟨0, by omega, rfl, hid (Below.refl _ _), hid (fun i hi => by omega)⟩
   case round =>
     obtain ⟨m, hm2, rfl, HB, HI⟩ := hrel
     by_cases hlt : m < n
     · have hltI : (m : Int) < n := by omega
       have h1 : m < xs.length := by rw [← HN.out]; exact hlt
       have h2 : m < ys.length := by rw [← HQ.out]; exact h1
       have hx1 := HX.out.later HB.out
       have hy1 := HY.out.later HB.out
       obtain ⟨b1, o1, rfl, _⟩ := hx1.2.2 (by omega)
       obtain ⟨b2, o2, rfl, _⟩ := hy1.2.2 (by omega)
       obtain ⟨p0, p1⟩ := hx1.at (i := m) h1
       obtain ⟨q0, q1⟩ := hy1.at (i := m) h2
       obtain ⟨r, hr, hq⟩ := kids_equal (hx1.wf (i := m) h1) (hy1.wf (i := m) h2)
       have NO : Hid (xs.getD m Kd.no ≠ ys.getD m Kd.no → ¬ xs = ys) := hid (fun h e => h (by rw [e]))
       have NX : Hid (xs.getD m Kd.no = ys.getD m Kd.no → ∀ i, i < m + 1 → xs.getD i Kd.no = ys.getD i Kd.no) := hid (fun h i hi => by
         by_cases e : i = m
         · rw [e]; exact h
         · exact HI.out i (by omega))
       clear hx1 hy1 h1 h2
       generalize xs.getD m Kd.no = x at *
       generalize ys.getD m Kd.no = y at *
       have RR := hid hr
       clear hr
       unfold Kd.val at hq
       have BQ : Hid (∀ k, Below w.heap.size w (wr.drewN k)) := hid (fun k => below_drewN HB.out k)
       cases r with
       | true =>
         have EX := hid (NX.out (RR.out.1 rfl))
         clear NO NX
         go_wp2
         go_region
         go_wp2
         go_roundg (gk - 1)
         case measure => omega
         case rel => exact ⟨m + 1, by omega, by go_num, hid (Below.drew HB.out), EX⟩
       | false =>
         have EX := hid (NO.out (fun e => by have := RR.out.2 e; cases this))
         clear NO NX
         go_wp2
         go_region
         go_wp2
         go_ret
         exact Yes.f EX.out (Below.drew HB.out)
     · have hge : ¬ (m : Int) < n := by omega
       have em : m = n := by omega
       have EF : Hid (xs = ys) := hid (List.ext_getElem HQ.out (fun i h1 h2 => by
         have := HI.out i (by rw [em, HN.out]; exact h1)
         rwa [List.getD, List.getD, List.getElem?_eq_getElem h1, List.getElem?_eq_getElem h2] at this))
       go_wp2
       go_ret
       exact Yes.t EF.out HB.out
 · have qB : ((xs.length : Int) != (ys.length : Int)) = true := by rw [bne_iff_ne]; omega
   have EX : Hid (¬ xs = ys) := hid (fun e => q (by rw [e]))
   clear hx hy
   generalize xs.length = n at *
   generalize ys.length = m at *
   go_enter Tryz.func37, Tryz.ntmps37
   go_wp2
   go_ret
   exact Yes.f EX.out (Below.refl _ _)
set_option maxHeartbeats 4000000 in
theorem sameNdL_c (x y : Nd) (w : World) (hx : x.Ok w) (hy : y.Ok w) (hm : x.ks.length ≤ 9223372036854775807) (hm' : y.ks.length ≤ 9223372036854775807) :
   Calls Tryz.prog 19 #[x.val, y.val] w (Yes (x.er = y.er) w) := by
 have b0 := below_1 w (.cells x.cells.toArray 38)
 have h0 := heap_alloc_new w (.cells x.cells.toArray 38)
 have b1 := below_1 (w.alloc (.cells x.cells.toArray 38)) (.cells y.cells.toArray 38)
 have h1 := heap_alloc_new (w.alloc (.cells x.cells.toArray 38)) (.cells y.cells.toArray 38)
 rw [show (w.alloc (.cells x.cells.toArray 38)).heap.size = w.heap.size + 1 by simp] at h1
 have h0' := (b1.block _ (lt_blkR h0)).trans h0
 have bV := b0.trans (b1.mono b0.size)
 have hxV := hx.later bV
 have hyV := hy.later bV
 have BE := hid (bytesEq_c x.da y.da x.dc y.dc x.zs y.zs _ hxV.2.2.2.2.1 hyV.2.2.2.2.1)
 have KE : Hid (∀ W, Below ((w.alloc (.cells x.cells.toArray 38)).alloc (.cells y.cells.toArray 38)).heap.size ((w.alloc (.cells x.cells.toArray 38)).alloc (.cells y.cells.toArray 38)) W → Calls Tryz.prog 37 #[.slice x.ka x.ks.length x.kc, .slice y.ka y.ks.length y.kc] W (Yes (x.ks = y.ks) W)) := hid (fun W hW => kidsEqL_c x.ka y.ka x.kc y.kc x.ks y.ks W (hxV.later hW).2.2.2.2.2 (hyV.later hW).2.2.2.2.2 hm hm')
 have BV := hid bV
 have HE := hid (er_eq (x := x) (y := y))
 have CX : Hid (∀ W, Below ((w.alloc (.cells x.cells.toArray 38)).alloc (.cells y.cells.toArray 38)).heap.size ((w.alloc (.cells x.cells.toArray 38)).alloc (.cells y.cells.toArray 38)) W → W.heap[w.heap.size]? = some (.cells x.cells.toArray 38) ∧ W.heap[w.heap.size + 1]? = some (.cells y.cells.toArray 38)) := hid (fun W hW => ⟨(hW.block _ (lt_blkR h0')).trans h0', (hW.block _ (lt_blkR h1)).trans h1⟩)
 clear hx hy b0 b1 h0 h1 h0' bV hxV hyV hm hm'
 obtain ⟨fid, k, md, ln, da, dc, zs, ka, kc, ks⟩ := x
 obtain ⟨fid', k', md', ln', da', dc', zs', ka', kc', ks'⟩ := y
 simp only [Nd.val, Nd.cells] at *
 by_cases q0 : fid = fid'
 · have qb0 : (fid == fid') = true := by rw [q0]; simp
   have Q0 := hid q0
   clear q0
   by_cases q1 : k = k'
   · have qb1 : (k == k') = true := by rw [q1]; simp
     have Q1 := hid q1
     clear q1
     by_cases q2 : md = md'
     · have qb2 : (md == md') = true := by rw [q2]; simp
       have Q2 := hid q2
       clear q2
       by_cases q3 : ln = ln'
       · have qb3 : (ln == ln') = true := by rw [q3]; simp
         have Q3 := hid q3
         clear q3
         go_enter Tryz.func19, Tryz.ntmps19
         go_upto_region 1 with fail
         change Code.wp _ _ _ _ ((w.alloc (.cells #[.int .u32 fid, .int .u8 k, .int .u16 md, .int .u16 ln, .slice da zs.length dc, .slice ka ks.length kc] 38)).alloc (.cells #[.int .u32 fid', .int .u8 k', .int .u16 md', .int .u16 ln', .slice da' zs'.length dc', .slice ka' ks'.length kc'] 38))
         generalize ((w.alloc (.cells #[.int .u32 fid, .int .u8 k, .int .u16 md, .int .u16 ln, .slice da zs.length dc, .slice ka ks.length kc] 38)).alloc (.cells #[.int .u32 fid', .int .u8 k', .int .u16 md', .int .u16 ln', .slice da' zs'.length dc', .slice ka' ks'.length kc'] 38)) = V at *
         obtain ⟨c0, c1⟩ := CX.out V (Below.refl _ _)
         obtain ⟨y0, y1, y2, y3, y4, y5⟩ := nd_cells (x := ⟨fid, k, md, ln, da, dc, zs, ka, kc, ks⟩) c0
         obtain ⟨x0, x1, x2, x3, x4, x5⟩ := nd_cells (x := ⟨fid', k', md', ln', da', dc', zs', ka', kc', ks'⟩) c1
         dsimp only at y0 y1 y2 y3 y4 y5 x0 x1 x2 x3 x4 x5
         clear c0 c1
         go_wp2_with (first
           | (go_at_call 37; refine (KE.out w3 B3.out).mono ?_; rintro _ w4 ⟨⟨r2, rfl, hr2⟩, hb4⟩; have R2 := hid hr2; have B4 := hid (B3.out.trans (hb4.mono B3.out.size)); clear hr2 hb4)
           | (go_at_call 36; refine BE.out.mono ?_; rintro _ w3 ⟨⟨r, rfl, hr⟩, hb3⟩; have R1 := hid hr; have B3 := hid hb3; clear hr hb3; obtain ⟨c0, c1⟩ := CX.out w3 B3.out; have z5 := (nd_cells (x := ⟨fid, k, md, ln, da, dc, zs, ka, kc, ks⟩) c0).2.2.2.2.2; have z6 := (nd_cells (x := ⟨fid', k', md', ln', da', dc', zs', ka', kc', ks'⟩) c1).2.2.2.2.2; dsimp only at z5 z6; clear c0 c1; cases r))
         · go_ret
           exact Yes.f (fun e => by have := R1.out.2 (HE.out.1 e).2.2.2.2.1; cases this) (BV.out.trans (B3.out.mono BV.out.size))
         · go_ret
           refine ⟨⟨r2, rfl, R2.out.trans ⟨fun e => HE.out.2 ⟨Q0.out, Q1.out, Q2.out, Q3.out, R1.out.1 (by simp), e⟩, fun e => (HE.out.1 e).2.2.2.2.2⟩⟩, BV.out.trans (B4.out.mono BV.out.size)⟩
       · have qb3 : (ln == ln') = false := beq_eq_false_iff_ne.2 q3
         have EX : Hid (¬ (⟨fid, k, md, ln, da, dc, zs, ka, kc, ks⟩ : Nd).er = (⟨fid', k', md', ln', da', dc', zs', ka', kc', ks'⟩ : Nd).er) := hid (fun e => q3 (HE.out.1 e).2.2.2.1)
         clear BE KE HE
         go_enter Tryz.func19, Tryz.ntmps19
         go_upto_region 1 with fail
         change Code.wp _ _ _ _ ((w.alloc (.cells #[.int .u32 fid, .int .u8 k, .int .u16 md, .int .u16 ln, .slice da zs.length dc, .slice ka ks.length kc] 38)).alloc (.cells #[.int .u32 fid', .int .u8 k', .int .u16 md', .int .u16 ln', .slice da' zs'.length dc', .slice ka' ks'.length kc'] 38))
         generalize ((w.alloc (.cells #[.int .u32 fid, .int .u8 k, .int .u16 md, .int .u16 ln, .slice da zs.length dc, .slice ka ks.length kc] 38)).alloc (.cells #[.int .u32 fid', .int .u8 k', .int .u16 md', .int .u16 ln', .slice da' zs'.length dc', .slice ka' ks'.length kc'] 38)) = V at *
         obtain ⟨c0, c1⟩ := CX.out V (Below.refl _ _)
         obtain ⟨y0, y1, y2, y3, y4, y5⟩ := nd_cells (x := ⟨fid, k, md, ln, da, dc, zs, ka, kc, ks⟩) c0
         obtain ⟨x0, x1, x2, x3, x4, x5⟩ := nd_cells (x := ⟨fid', k', md', ln', da', dc', zs', ka', kc', ks'⟩) c1
         dsimp only at y0 y1 y2 y3 y4 y5 x0 x1 x2 x3 x4 x5
         clear c0 c1
         go_wp2
         go_ret
         exact Yes.f EX.out BV.out
     · have qb2 : (md == md') = false := beq_eq_false_iff_ne.2 q2
       have EX : Hid (¬ (⟨fid, k, md, ln, da, dc, zs, ka, kc, ks⟩ : Nd).er = (⟨fid', k', md', ln', da', dc', zs', ka', kc', ks'⟩ : Nd).er) := hid (fun e => q2 (HE.out.1 e).2.2.1)
       clear BE KE HE
       go_enter Tryz.func19, Tryz.ntmps19
       go_upto_region 1 with fail
       change Code.wp _ _ _ _ ((w.alloc (.cells #[.int .u32 fid, .int .u8 k, .int .u16 md, .int .u16 ln, .slice da zs.length dc, .slice ka ks.length kc] 38)).alloc (.cells #[.int .u32 fid', .int .u8 k', .int .u16 md', .int .u16 ln', .slice da' zs'.length dc', .slice ka' ks'.length kc'] 38))
       generalize ((w.alloc (.cells #[.int .u32 fid, .int .u8 k, .int .u16 md, .int .u16 ln, .slice da zs.length dc, .slice ka ks.length kc] 38)).alloc (.cells #[.int .u32 fid', .int .u8 k', .int .u16 md', .int .u16 ln', .slice da' zs'.length dc', .slice ka' ks'.length kc'] 38)) = V at *
       obtain ⟨c0, c1⟩ := CX.out V (Below.refl _ _)
       obtain ⟨y0, y1, y2, y3, y4, y5⟩ := nd_cells (x := ⟨fid, k, md, ln, da, dc, zs, ka, kc, ks⟩) c0
       obtain ⟨x0, x1, x2, x3, x4, x5⟩ := nd_cells (x := ⟨fid', k', md', ln', da', dc', zs', ka', kc', ks'⟩) c1
       dsimp only at y0 y1 y2 y3 y4 y5 x0 x1 x2 x3 x4 x5
       clear c0 c1
       go_wp2
       go_ret
       exact Yes.f EX.out BV.out
   · have qb1 : (k == k') = false := beq_eq_false_iff_ne.2 q1
     have EX : Hid (¬ (⟨fid, k, md, ln, da, dc, zs, ka, kc, ks⟩ : Nd).er = (⟨fid', k', md', ln', da', dc', zs', ka', kc', ks'⟩ : Nd).er) := hid (fun e => q1 (HE.out.1 e).2.1)
     clear BE KE HE
     go_enter Tryz.func19, Tryz.ntmps19
     go_upto_region 1 with fail
     change Code.wp _ _ _ _ ((w.alloc (.cells #[.int .u32 fid, .int .u8 k, .int .u16 md, .int .u16 ln, .slice da zs.length dc, .slice ka ks.length kc] 38)).alloc (.cells #[.int .u32 fid', .int .u8 k', .int .u16 md', .int .u16 ln', .slice da' zs'.length dc', .slice ka' ks'.length kc'] 38))
     generalize ((w.alloc (.cells #[.int .u32 fid, .int .u8 k, .int .u16 md, .int .u16 ln, .slice da zs.length dc, .slice ka ks.length kc] 38)).alloc (.cells #[.int .u32 fid', .int .u8 k', .int .u16 md', .int .u16 ln', .slice da' zs'.length dc', .slice ka' ks'.length kc'] 38)) = V at *
     obtain ⟨c0, c1⟩ := CX.out V (Below.refl _ _)
     obtain ⟨y0, y1, y2, y3, y4, y5⟩ := nd_cells (x := ⟨fid, k, md, ln, da, dc, zs, ka, kc, ks⟩) c0
     obtain ⟨x0, x1, x2, x3, x4, x5⟩ := nd_cells (x := ⟨fid', k', md', ln', da', dc', zs', ka', kc', ks'⟩) c1
     dsimp only at y0 y1 y2 y3 y4 y5 x0 x1 x2 x3 x4 x5
     clear c0 c1
     go_wp2
     go_ret
     exact Yes.f EX.out BV.out
 · have qb0 : (fid == fid') = false := beq_eq_false_iff_ne.2 q0
   have EX : Hid (¬ (⟨fid, k, md, ln, da, dc, zs, ka, kc, ks⟩ : Nd).er = (⟨fid', k', md', ln', da', dc', zs', ka', kc', ks'⟩ : Nd).er) := hid (fun e => q0 (HE.out.1 e).1)
   clear BE KE HE
   go_enter Tryz.func19, Tryz.ntmps19
   go_upto_region 1 with fail
   change Code.wp _ _ _ _ ((w.alloc (.cells #[.int .u32 fid, .int .u8 k, .int .u16 md, .int .u16 ln, .slice da zs.length dc, .slice ka ks.length kc] 38)).alloc (.cells #[.int .u32 fid', .int .u8 k', .int .u16 md', .int .u16 ln', .slice da' zs'.length dc', .slice ka' ks'.length kc'] 38))
   generalize ((w.alloc (.cells #[.int .u32 fid, .int .u8 k, .int .u16 md, .int .u16 ln, .slice da zs.length dc, .slice ka ks.length kc] 38)).alloc (.cells #[.int .u32 fid', .int .u8 k', .int .u16 md', .int .u16 ln', .slice da' zs'.length dc', .slice ka' ks'.length kc'] 38)) = V at *
   obtain ⟨c0, c1⟩ := CX.out V (Below.refl _ _)
   obtain ⟨y0, y1, y2, y3, y4, y5⟩ := nd_cells (x := ⟨fid, k, md, ln, da, dc, zs, ka, kc, ks⟩) c0
   obtain ⟨x0, x1, x2, x3, x4, x5⟩ := nd_cells (x := ⟨fid', k', md', ln', da', dc', zs', ka', kc', ks'⟩) c1
   dsimp only at y0 y1 y2 y3 y4 y5 x0 x1 x2 x3 x4 x5
   clear c0 c1
   go_wp2
   go_ret
   exact Yes.f EX.out BV.out
set_option maxHeartbeats 4000000 in
theorem sameFL_c (a b : Option Addr) (ca cb : Nat) (xs ys : List Nd) (w : World) (hx : IsNs w a xs) (hy : IsNs w b ys) (hm : xs.length ≤ 100000) (hm' : ys.length ≤ 100000) (hk : ∀ x ∈ xs, x.ks.length ≤ 9223372036854775807) (hk' : ∀ x ∈ ys, x.ks.length ≤ 9223372036854775807) :
   Calls Tryz.prog 18 #[.slice a xs.length ca, .slice b ys.length cb, .func (.func 19) #[] #[]] w (Yes (xs.map Nd.er = ys.map Nd.er) w) := by
 by_cases q : xs.length = ys.length
 · have qB : ((xs.length : Int) != (ys.length : Int)) = false := by rw [q]; simp
   have HX := hid hx
   have HY := hid hy
   have HQ := hid q
   have HK := hid hk
   have HK' := hid hk'
   obtain ⟨n, hn⟩ : ∃ n, n = xs.length := ⟨_, rfl⟩
   have HN := hid hn
   rw [← q]
   rw [← hn] at hm ⊢
   clear hx hy qB q hm' hn hk hk'
   go_enter Tryz.func18, Tryz.ntmps18
   go_wp2
   go_loopg [17] n (fun gk i wr => ∃ m : Nat, m + gk = n ∧ i = .int .i64 m ∧ Hid (Below w.heap.size w wr) ∧ Hid (∀ i, i < m → (xs.getD i Nd.no).er = (ys.getD i Nd.no).er))
   case atStart => exact ⟨0, by omega, rfl, hid (Below.refl _ _), hid (fun i hi => by omega)⟩
   case round =>
     obtain ⟨m, hm2, rfl, HB, HI⟩ := hrel
     by_cases hlt : m < n
     · have hltI : (m : Int) < n := by omega
       have h1 : m < xs.length := by rw [← HN.out]; exact hlt
       have h2 : m < ys.length := by rw [← HQ.out]; exact h1
       obtain ⟨b1, o1, rfl, _⟩ := HX.out.2.2 (by omega)
       obtain ⟨b2, o2, rfl, _⟩ := HY.out.2.2 (by omega)
       obtain ⟨y0, y1, y2, y3, y4, y5⟩ := ((HX.out.later HB.out).at (i := m) h1).all
       obtain ⟨z0, z1, z2, z3, z4, z5⟩ := ((HY.out.later HB.out).at (i := m) h2).all
       have okx := (HX.out.later HB.out).ok (i := m) h1
       have oky := (HY.out.later HB.out).ok (i := m) h2
       have kx := HK.out _ (getD_mem xs Nd.no h1)
       have ky := HK'.out _ (getD_mem ys Nd.no h2)
       have NO : Hid ((xs.getD m Nd.no).er ≠ (ys.getD m Nd.no).er → ¬ xs.map Nd.er = ys.map Nd.er) := hid (fun h e => h (by
         have e1 : (xs.map Nd.er)[m]? = (ys.map Nd.er)[m]? := by rw [e]
         rw [List.getElem?_map, List.getElem?_map, List.getElem?_eq_getElem h1, List.getElem?_eq_getElem h2] at e1
         rw [List.getD, List.getD, List.getElem?_eq_getElem h1, List.getElem?_eq_getElem h2]
         simpa using e1))
       have NX : Hid ((xs.getD m Nd.no).er = (ys.getD m Nd.no).er → ∀ i, i < m + 1 → (xs.getD i Nd.no).er = (ys.getD i Nd.no).er) := hid (fun h i hi => by
         by_cases e : i = m
         · rw [e]; exact h
         · exact HI.out i (by omega))
       clear h1 h2
       generalize xs.getD m Nd.no = x at *
       generalize ys.getD m Nd.no = s at *
       have bA := below_1 wr (.cells x.cells.toArray 38)
       have hA := heap_alloc_new wr (.cells x.cells.toArray 38)
       have bB := below_1 (wr.alloc (.cells x.cells.toArray 38)) (.cells s.cells.toArray 38)
       have hB := heap_alloc_new (wr.alloc (.cells x.cells.toArray 38)) (.cells s.cells.toArray 38)
       rw [show (wr.alloc (.cells x.cells.toArray 38)).heap.size = wr.heap.size + 1 by simp] at hB
       have hA2 := (bB.block _ (lt_blkR hA)).trans hA
       have bC := bA.trans (bB.mono bA.size)
       have RC := hid (sameNdL_c x s _ (okx.later bC) (oky.later bC) kx ky)
       obtain ⟨p0, p1, p2, p3, p4, p5⟩ := nd_cells hA2
       obtain ⟨r0, r1, r2, r3, r4, r5⟩ := nd_cells hB
       have w0 := cell_later bA z0
       have w1 := cell_later bA z1
       have w2 := cell_later bA z2
       have w3 := cell_later bA z3
       have w4 := cell_later bA z4
       have w5 := cell_later bA z5
       have HB2 := hid (HB.out.trans (bC.mono HB.out.size))
       clear bA bB bC hA hB hA2 z0 z1 z2 z3 z4 z5 okx oky kx ky
       obtain ⟨fid, k, md, ln, da, dc, zs, ka, kc, ks⟩ := x
       obtain ⟨fid', k', md', ln', da', dc', zs', ka', kc', ks'⟩ := s
       simp only [Nd.val, Nd.cells] at *
       go_wp2_with (go_at_call 19; refine RC.out.mono ?_; rintro _ w9 ⟨⟨r, rfl, hr⟩, hb9⟩; have RR := hid hr; have B9 := hid (HB2.out.trans (hb9.mono HB2.out.size)); clear hr hb9; cases r)
       · go_ret
         exact Yes.f (NO.out (fun e => by have := RR.out.2 e; cases this)) B9.out
       · go_roundg (gk - 1)
         case measure => omega
         case rel => exact ⟨m + 1, by omega, by go_num, B9, hid (NX.out (RR.out.1 (by simp)))⟩
     · have hge : ¬ (m : Int) < n := by omega
       have em : m = n := by omega
       have EF : Hid (xs.map Nd.er = ys.map Nd.er) := hid (List.ext_getElem (by rw [List.length_map, List.length_map]; exact HQ.out) (fun i h1 h2 => by
         rw [List.length_map] at h1 h2
         have := HI.out i (by rw [em, HN.out]; exact h1)
         rw [List.getD, List.getD, List.getElem?_eq_getElem h1, List.getElem?_eq_getElem h2] at this
         simpa using this))
       go_wp2
       go_ret
       exact Yes.t EF.out HB.out
 · have qB : ((xs.length : Int) != (ys.length : Int)) = true := by rw [bne_iff_ne]; omega
   have EX : Hid (¬ xs.map Nd.er = ys.map Nd.er) := hid (fun e => q (by rw [← List.length_map (f := Nd.er), e, List.length_map]))
   clear hx hy hk hk'
   generalize xs.length = n at *
   generalize ys.length = m at *
   go_enter Tryz.func18, Tryz.ntmps18
   go_wp2
   go_ret
   exact Yes.f EX.out (Below.refl _ _)
set_option maxHeartbeats 4000000 in
theorem rsameNd_c (x y : Nd) (w : World) (hx : x.Ok w) (hy : y.Ok w) :
   Calls Tryz.prog 20 #[x.val, y.val] w (Yes (x.er = y.er) w) := by
 have b0 := below_1 w (.cells x.cells.toArray 38)
 have h0 := heap_alloc_new w (.cells x.cells.toArray 38)
 have b1 := below_1 (w.alloc (.cells x.cells.toArray 38)) (.cells y.cells.toArray 38)
 have h1 := heap_alloc_new (w.alloc (.cells x.cells.toArray 38)) (.cells y.cells.toArray 38)
 rw [show (w.alloc (.cells x.cells.toArray 38)).heap.size = w.heap.size + 1 by simp] at h1
 have h0' := (b1.block _ (lt_blkR h0)).trans h0
 have bV := b0.trans (b1.mono b0.size)
 have hxV := hx.later bV
 have hyV := hy.later bV
 have cx := conv_anyN (pc := x.dc) hxV.2.2.2.2.1
 have cy := conv_anyN (pc := y.dc) hyV.2.2.2.2.1
 have TX := hid (txI (isB_all hxV.2.2.2.2.1) (isB_all hyV.2.2.2.2.1))
 have KX := hid hxV.2.2.2.2.2
 have KY := hid hyV.2.2.2.2.2
 have BV := hid bV
 have HE := hid (er_eq (x := x) (y := y))
 have CX : Hid (∀ W, Below ((w.alloc (.cells x.cells.toArray 38)).alloc (.cells y.cells.toArray 38)).heap.size ((w.alloc (.cells x.cells.toArray 38)).alloc (.cells y.cells.toArray 38)) W → W.heap[w.heap.size]? = some (.cells x.cells.toArray 38) ∧ W.heap[w.heap.size + 1]? = some (.cells y.cells.toArray 38)) := hid (fun W hW => ⟨(hW.block _ (lt_blkR h0')).trans h0', (hW.block _ (lt_blkR h1)).trans h1⟩)
 clear hx hy b0 b1 h0 h1 h0' bV hxV hyV
 obtain ⟨fid, k, md, ln, da, dc, zs, ka, kc, ks⟩ := x
 obtain ⟨fid', k', md', ln', da', dc', zs', ka', kc', ks'⟩ := y
 simp only [Nd.val, Nd.cells] at *
 by_cases q0 : fid = fid'
 · have qb0 : (fid != fid') = false := by rw [q0]; simp
   have Q0 := hid q0
   clear q0
   by_cases q1 : k = k'
   · have qb1 : (k != k') = false := by rw [q1]; simp
     have Q1 := hid q1
     clear q1
     by_cases q2 : md = md'
     · have qb2 : (md != md') = false := by rw [q2]; simp
       have Q2 := hid q2
       clear q2
       by_cases q3 : ln = ln'
       · have qb3 : (ln != ln') = false := by rw [q3]; simp
         have Q3 := hid q3
         clear q3
         by_cases q4 : zs = zs'
         · have qb4 : ((Fr.tx zs).toList == (Fr.tx zs').toList) = true := TX.out.2 q4
           have Q4 := hid q4
           clear q4
           by_cases q5 : ks.length = ks'.length
           · have qb5 : ((ks.length : Int) != (ks'.length : Int)) = false := by rw [q5]; simp
             have Q5 := hid q5
             clear q5
             go_enter Tryz.func20, Tryz.ntmps20
             go_upto_region 1 with fail
             change Code.wp _ _ _ _ ((w.alloc (.cells #[.int .u32 fid, .int .u8 k, .int .u16 md, .int .u16 ln, .slice da zs.length dc, .slice ka ks.length kc] 38)).alloc (.cells #[.int .u32 fid', .int .u8 k', .int .u16 md', .int .u16 ln', .slice da' zs'.length dc', .slice ka' ks'.length kc'] 38))
             generalize ((w.alloc (.cells #[.int .u32 fid, .int .u8 k, .int .u16 md, .int .u16 ln, .slice da zs.length dc, .slice ka ks.length kc] 38)).alloc (.cells #[.int .u32 fid', .int .u8 k', .int .u16 md', .int .u16 ln', .slice da' zs'.length dc', .slice ka' ks'.length kc'] 38)) = V at *
             obtain ⟨c0, c1⟩ := CX.out V (Below.refl _ _)
             obtain ⟨y0, y1, y2, y3, y4, y5⟩ := nd_cells (x := ⟨fid, k, md, ln, da, dc, zs, ka, kc, ks⟩) c0
             obtain ⟨x0, x1, x2, x3, x4, x5⟩ := nd_cells (x := ⟨fid', k', md', ln', da', dc', zs', ka', kc', ks'⟩) c1
             dsimp only at y0 y1 y2 y3 y4 y5 x0 x1 x2 x3 x4 x5
             clear c0 c1
             go_wp2
             clear y0 y1 y2 y3 y4 y5 x0 x1 x2 x3 x4 x5 cx cy qb0 qb1 qb2 qb3 qb4 qb5
             have hg := kid_guard
             obtain ⟨n, hn⟩ : ∃ n, n = ks.length := ⟨_, rfl⟩
             have HN := hid hn
             have HL : n ≤ 9223372036854775807 := by rw [hn]; exact KX.out.1
             clear hn
             go_loopg [5] n (fun gk i wr => ∃ m : Nat, m + gk = n ∧ i = .int .i64 m ∧ Hid (Below V.heap.size V wr) ∧ Hid (∀ i, i < m → ks.getD i Kd.no = ks'.getD i Kd.no))
             case atStart => exact ⟨0, by omega, rfl, hid (Below.refl _ _), hid (fun i hi => by omega)⟩
             case round =>
               obtain ⟨m, hm2, rfl, HB, HI⟩ := hrel
               obtain ⟨c0, c1⟩ := CX.out wr HB.out
               have z5 := (nd_cells (x := ⟨fid, k, md, ln, da, dc, zs, ka, kc, ks⟩) c0).2.2.2.2.2
               have z6 := (nd_cells (x := ⟨fid', k', md', ln', da', dc', zs', ka', kc', ks'⟩) c1).2.2.2.2.2
               dsimp only at z5 z6
               rw [← HN.out] at z5
               rw [← Q5.out, ← HN.out] at z6
               clear c0 c1
               by_cases hlt : m < n
               · have hltI : (m : Int) < n := by omega
                 have h1 : m < ks.length := by rw [← HN.out]; exact hlt
                 have h2 : m < ks'.length := by rw [← Q5.out]; exact h1
                 have hx1 := KX.out.later HB.out
                 have hy1 := KY.out.later HB.out
                 obtain ⟨b1, o1, rfl, _⟩ := hx1.2.2 (by omega)
                 obtain ⟨b2, o2, rfl, _⟩ := hy1.2.2 (by omega)
                 obtain ⟨p0, p1⟩ := hx1.at (i := m) h1
                 obtain ⟨q0, q1⟩ := hy1.at (i := m) h2
                 obtain ⟨r, hr, hq⟩ := kids_equal (hx1.wf (i := m) h1) (hy1.wf (i := m) h2)
                 have NO : Hid (ks.getD m Kd.no ≠ ks'.getD m Kd.no → ¬ ks = ks') := hid (fun h e => h (by rw [e]))
                 have NX : Hid (ks.getD m Kd.no = ks'.getD m Kd.no → ∀ i, i < m + 1 → ks.getD i Kd.no = ks'.getD i Kd.no) := hid (fun h i hi => by
                   by_cases e : i = m
                   · rw [e]; exact h
                   · exact HI.out i (by omega))
                 clear hx1 hy1 h1 h2
                 generalize ks.getD m Kd.no = x at *
                 generalize ks'.getD m Kd.no = y at *
                 have RR := hid hr
                 clear hr
                 unfold Kd.val at hq
                 cases r with
                 | true =>
                   have EX := hid (NX.out (RR.out.1 rfl))
                   clear NO NX
                   go_wp2
                   go_region
                   go_wp2
                   go_roundg (gk - 1)
                   case measure => omega
                   case rel => exact ⟨m + 1, by omega, by go_num, hid (Below.drew HB.out), EX⟩
                 | false =>
                   have EX := hid (NO.out (fun e => by have := RR.out.2 e; cases this))
                   clear NO NX
                   go_wp2
                   go_region
                   go_wp2
                   go_ret
                   exact Yes.f (fun e => EX.out (HE.out.1 e).2.2.2.2.2) (BV.out.trans (HB.out.drew.mono BV.out.size))
               · have hge : ¬ (m : Int) < n := by omega
                 have em : m = n := by omega
                 have EF : Hid (ks = ks') := hid (List.ext_getElem Q5.out (fun i h1 h2 => by
                   have := HI.out i (by rw [em, HN.out]; exact h1)
                   rwa [List.getD, List.getD, List.getElem?_eq_getElem h1, List.getElem?_eq_getElem h2] at this))
                 go_wp2
                 go_ret
                 exact Yes.t (HE.out.2 ⟨Q0.out, Q1.out, Q2.out, Q3.out, Q4.out, EF.out⟩) (BV.out.trans (HB.out.mono BV.out.size))
           · have qb5 : ((ks.length : Int) != (ks'.length : Int)) = true := by rw [bne_iff_ne]; omega
             have EX : Hid (¬ (⟨fid, k, md, ln, da, dc, zs, ka, kc, ks⟩ : Nd).er = (⟨fid', k', md', ln', da', dc', zs', ka', kc', ks'⟩ : Nd).er) := hid (fun e => q5 (by rw [(HE.out.1 e).2.2.2.2.2]))
             clear HE KX KY
             go_enter Tryz.func20, Tryz.ntmps20
             go_upto_region 1 with fail
             change Code.wp _ _ _ _ ((w.alloc (.cells #[.int .u32 fid, .int .u8 k, .int .u16 md, .int .u16 ln, .slice da zs.length dc, .slice ka ks.length kc] 38)).alloc (.cells #[.int .u32 fid', .int .u8 k', .int .u16 md', .int .u16 ln', .slice da' zs'.length dc', .slice ka' ks'.length kc'] 38))
             generalize ((w.alloc (.cells #[.int .u32 fid, .int .u8 k, .int .u16 md, .int .u16 ln, .slice da zs.length dc, .slice ka ks.length kc] 38)).alloc (.cells #[.int .u32 fid', .int .u8 k', .int .u16 md', .int .u16 ln', .slice da' zs'.length dc', .slice ka' ks'.length kc'] 38)) = V at *
             obtain ⟨c0, c1⟩ := CX.out V (Below.refl _ _)
             obtain ⟨y0, y1, y2, y3, y4, y5⟩ := nd_cells (x := ⟨fid, k, md, ln, da, dc, zs, ka, kc, ks⟩) c0
             obtain ⟨x0, x1, x2, x3, x4, x5⟩ := nd_cells (x := ⟨fid', k', md', ln', da', dc', zs', ka', kc', ks'⟩) c1
             dsimp only at y0 y1 y2 y3 y4 y5 x0 x1 x2 x3 x4 x5
             clear c0 c1
             go_wp2
             go_ret
             exact Yes.f EX.out BV.out
         · have qb4 : ((Fr.tx zs).toList == (Fr.tx zs').toList) = false := by
             cases h9 : ((Fr.tx zs).toList == (Fr.tx zs').toList) with
             | false => rfl
             | true => exact absurd (TX.out.1 h9) q4
           have EX : Hid (¬ (⟨fid, k, md, ln, da, dc, zs, ka, kc, ks⟩ : Nd).er = (⟨fid', k', md', ln', da', dc', zs', ka', kc', ks'⟩ : Nd).er) := hid (fun e => q4 (HE.out.1 e).2.2.2.2.1)
           clear HE KX KY
           go_enter Tryz.func20, Tryz.ntmps20
           go_upto_region 1 with fail
           change Code.wp _ _ _ _ ((w.alloc (.cells #[.int .u32 fid, .int .u8 k, .int .u16 md, .int .u16 ln, .slice da zs.length dc, .slice ka ks.length kc] 38)).alloc (.cells #[.int .u32 fid', .int .u8 k', .int .u16 md', .int .u16 ln', .slice da' zs'.length dc', .slice ka' ks'.length kc'] 38))
           generalize ((w.alloc (.cells #[.int .u32 fid, .int .u8 k, .int .u16 md, .int .u16 ln, .slice da zs.length dc, .slice ka ks.length kc] 38)).alloc (.cells #[.int .u32 fid', .int .u8 k', .int .u16 md', .int .u16 ln', .slice da' zs'.length dc', .slice ka' ks'.length kc'] 38)) = V at *
           obtain ⟨c0, c1⟩ := CX.out V (Below.refl _ _)
           obtain ⟨y0, y1, y2, y3, y4, y5⟩ := nd_cells (x := ⟨fid, k, md, ln, da, dc, zs, ka, kc, ks⟩) c0
           obtain ⟨x0, x1, x2, x3, x4, x5⟩ := nd_cells (x := ⟨fid', k', md', ln', da', dc', zs', ka', kc', ks'⟩) c1
           dsimp only at y0 y1 y2 y3 y4 y5 x0 x1 x2 x3 x4 x5
           clear c0 c1
           go_wp2
           go_ret
           exact Yes.f EX.out BV.out
       · have qb3 : (ln != ln') = true := by rw [bne_iff_ne]; exact q3
         have EX : Hid (¬ (⟨fid, k, md, ln, da, dc, zs, ka, kc, ks⟩ : Nd).er = (⟨fid', k', md', ln', da', dc', zs', ka', kc', ks'⟩ : Nd).er) := hid (fun e => q3 (HE.out.1 e).2.2.2.1)
         clear HE KX KY
         go_enter Tryz.func20, Tryz.ntmps20
         go_upto_region 1 with fail
         change Code.wp _ _ _ _ ((w.alloc (.cells #[.int .u32 fid, .int .u8 k, .int .u16 md, .int .u16 ln, .slice da zs.length dc, .slice ka ks.length kc] 38)).alloc (.cells #[.int .u32 fid', .int .u8 k', .int .u16 md', .int .u16 ln', .slice da' zs'.length dc', .slice ka' ks'.length kc'] 38))
         generalize ((w.alloc (.cells #[.int .u32 fid, .int .u8 k, .int .u16 md, .int .u16 ln, .slice da zs.length dc, .slice ka ks.length kc] 38)).alloc (.cells #[.int .u32 fid', .int .u8 k', .int .u16 md', .int .u16 ln', .slice da' zs'.length dc', .slice ka' ks'.length kc'] 38)) = V at *
         obtain ⟨c0, c1⟩ := CX.out V (Below.refl _ _)
         obtain ⟨y0, y1, y2, y3, y4, y5⟩ := nd_cells (x := ⟨fid, k, md, ln, da, dc, zs, ka, kc, ks⟩) c0
         obtain ⟨x0, x1, x2, x3, x4, x5⟩ := nd_cells (x := ⟨fid', k', md', ln', da', dc', zs', ka', kc', ks'⟩) c1
         dsimp only at y0 y1 y2 y3 y4 y5 x0 x1 x2 x3 x4 x5
         clear c0 c1
         go_wp2
         go_ret
         exact Yes.f EX.out BV.out
     · have qb2 : (md != md') = true := by rw [bne_iff_ne]; exact q2
       have EX : Hid (¬ (⟨fid, k, md, ln, da, dc, zs, ka, kc, ks⟩ : Nd).er = (⟨fid', k', md', ln', da', dc', zs', ka', kc', ks'⟩ : Nd).er) := hid (fun e => q2 (HE.out.1 e).2.2.1)
       clear HE KX KY
       go_enter Tryz.func20, Tryz.ntmps20
       go_upto_region 1 with fail
       change Code.wp _ _ _ _ ((w.alloc (.cells #[.int .u32 fid, .int .u8 k, .int .u16 md, .int .u16 ln, .slice da zs.length dc, .slice ka ks.length kc] 38)).alloc (.cells #[.int .u32 fid', .int .u8 k', .int .u16 md', .int .u16 ln', .slice da' zs'.length dc', .slice ka' ks'.length kc'] 38))
       generalize ((w.alloc (.cells #[.int .u32 fid, .int .u8 k, .int .u16 md, .int .u16 ln, .slice da zs.length dc, .slice ka ks.length kc] 38)).alloc (.cells #[.int .u32 fid', .int .u8 k', .int .u16 md', .int .u16 ln', .slice da' zs'.length dc', .slice ka' ks'.length kc'] 38)) = V at *
       obtain ⟨c0, c1⟩ := CX.out V (Below.refl _ _)
       obtain ⟨y0, y1, y2, y3, y4, y5⟩ := nd_cells (x := ⟨fid, k, md, ln, da, dc, zs, ka, kc, ks⟩) c0
       obtain ⟨x0, x1, x2, x3, x4, x5⟩ := nd_cells (x := ⟨fid', k', md', ln', da', dc', zs', ka', kc', ks'⟩) c1
       dsimp only at y0 y1 y2 y3 y4 y5 x0 x1 x2 x3 x4 x5
       clear c0 c1
       go_wp2
       go_ret
       exact Yes.f EX.out BV.out
   · have qb1 : (k != k') = true := by rw [bne_iff_ne]; exact q1
     have EX : Hid (¬ (⟨fid, k, md, ln, da, dc, zs, ka, kc, ks⟩ : Nd).er = (⟨fid', k', md', ln', da', dc', zs', ka', kc', ks'⟩ : Nd).er) := hid (fun e => q1 (HE.out.1 e).2.1)
     clear HE KX KY
     go_enter Tryz.func20, Tryz.ntmps20
     go_upto_region 1 with fail
     change Code.wp _ _ _ _ ((w.alloc (.cells #[.int .u32 fid, .int .u8 k, .int .u16 md, .int .u16 ln, .slice da zs.length dc, .slice ka ks.length kc] 38)).alloc (.cells #[.int .u32 fid', .int .u8 k', .int .u16 md', .int .u16 ln', .slice da' zs'.length dc', .slice ka' ks'.length kc'] 38))
     generalize ((w.alloc (.cells #[.int .u32 fid, .int .u8 k, .int .u16 md, .int .u16 ln, .slice da zs.length dc, .slice ka ks.length kc] 38)).alloc (.cells #[.int .u32 fid', .int .u8 k', .int .u16 md', .int .u16 ln', .slice da' zs'.length dc', .slice ka' ks'.length kc'] 38)) = V at *
     obtain ⟨c0, c1⟩ := CX.out V (Below.refl _ _)
     obtain ⟨y0, y1, y2, y3, y4, y5⟩ := nd_cells (x := ⟨fid, k, md, ln, da, dc, zs, ka, kc, ks⟩) c0
     obtain ⟨x0, x1, x2, x3, x4, x5⟩ := nd_cells (x := ⟨fid', k', md', ln', da', dc', zs', ka', kc', ks'⟩) c1
     dsimp only at y0 y1 y2 y3 y4 y5 x0 x1 x2 x3 x4 x5
     clear c0 c1
     go_wp2
     go_ret
     exact Yes.f EX.out BV.out
 · have qb0 : (fid != fid') = true := by rw [bne_iff_ne]; exact q0
   have EX : Hid (¬ (⟨fid, k, md, ln, da, dc, zs, ka, kc, ks⟩ : Nd).er = (⟨fid', k', md', ln', da', dc', zs', ka', kc', ks'⟩ : Nd).er) := hid (fun e => q0 (HE.out.1 e).1)
   clear HE KX KY
   go_enter Tryz.func20, Tryz.ntmps20
   go_upto_region 1 with fail
   change Code.wp _ _ _ _ ((w.alloc (.cells #[.int .u32 fid, .int .u8 k, .int .u16 md, .int .u16 ln, .slice da zs.length dc, .slice ka ks.length kc] 38)).alloc (.cells #[.int .u32 fid', .int .u8 k', .int .u16 md', .int .u16 ln', .slice da' zs'.length dc', .slice ka' ks'.length kc'] 38))
   generalize ((w.alloc (.cells #[.int .u32 fid, .int .u8 k, .int .u16 md, .int .u16 ln, .slice da zs.length dc, .slice ka ks.length kc] 38)).alloc (.cells #[.int .u32 fid', .int .u8 k', .int .u16 md', .int .u16 ln', .slice da' zs'.length dc', .slice ka' ks'.length kc'] 38)) = V at *
   obtain ⟨c0, c1⟩ := CX.out V (Below.refl _ _)
   obtain ⟨y0, y1, y2, y3, y4, y5⟩ := nd_cells (x := ⟨fid, k, md, ln, da, dc, zs, ka, kc, ks⟩) c0
   obtain ⟨x0, x1, x2, x3, x4, x5⟩ := nd_cells (x := ⟨fid', k', md', ln', da', dc', zs', ka', kc', ks'⟩) c1
   dsimp only at y0 y1 y2 y3 y4 y5 x0 x1 x2 x3 x4 x5
   clear c0 c1
   go_wp2
   go_ret
   exact Yes.f EX.out BV.out
open Classical in
theorem Yes.is {p : Prop} {w : World} {e : Ending} {w' : World} (h : Yes p w e w') : e = .returned (.bool (decide p)) ∧ Below w.heap.size w w' := by
 obtain ⟨⟨r, rfl, hr⟩, hb⟩ := h
 refine ⟨?_, hb⟩
 cases r with
 | true => rw [decide_eq_true (hr.1 rfl)]
 | false => rw [decide_eq_false (fun hp => by have := hr.2 hp; cases this)]
open Classical in
set_option maxHeartbeats 2000000 in
theorem rsame_c (a b : Option Addr) (ca cb : Nat) (L M : List Nd) (w : World) (ha : IsNs w a L) (hb : IsNs w b M) :
   Calls Tryz.prog 9 #[.slice a L.length ca, .slice b M.length cb] w (Yes (L.map Nd.er = M.map Nd.er) w) := by
 by_cases q : L.length = M.length
 · have qB : ((L.length : Int) != (M.length : Int)) = false := by rw [q]; simp
   have HA := hid ha
   have HB := hid hb
   have HL := hid q
   have HM : L.length ≤ 9223372036854775807 := ha.1
   obtain ⟨n, hn⟩ : ∃ n, n = L.length := ⟨_, rfl⟩
   have HN := hid hn
   rw [← q]
   rw [← hn] at HM ⊢
   clear ha hb qB q hn
   go_enter Tryz.func9, Tryz.ntmps9
   go_wp2
   go_loopg [5] n (fun gk i wr => ∃ m : Nat, m + gk = n ∧ i = .int .i64 m ∧ Hid (Below w.heap.size w wr) ∧ Hid (∀ i, i < m → (L.getD i Nd.no).er = (M.getD i Nd.no).er))
   case atStart => exact ⟨0, by omega, rfl, hid (Below.refl _ _), hid (fun i hi => by omega)⟩
   case round =>
     obtain ⟨m, hm2, rfl, HW, HI⟩ := hrel
     by_cases hlt : m < n
     · have hltI : (m : Int) < n := by omega
       have h1 : m < L.length := by rw [← HN.out]; exact hlt
       have h2 : m < M.length := by rw [← HL.out]; exact h1
       obtain ⟨b1, o1, rfl, _⟩ := HA.out.2.2 (by omega)
       obtain ⟨b2, o2, rfl, _⟩ := HB.out.2.2 (by omega)
       have hX := HA.out.later HW.out
       have hY := HB.out.later HW.out
       have oX := hX.ok h1
       have oY := hY.ok h2
       have cX := hX.at (i := m) h1
       have cY := hY.at (i := m) h2
       have NO : Hid ((L.getD m Nd.no).er ≠ (M.getD m Nd.no).er → ¬ L.map Nd.er = M.map Nd.er) := hid (fun h e => h (er_at e m))
       have NX : Hid ((L.getD m Nd.no).er = (M.getD m Nd.no).er → ∀ i, i < m + 1 → (L.getD i Nd.no).er = (M.getD i Nd.no).er) := hid (fun h i hi => by
         by_cases e : i = m
         · rw [e]; exact h
         · exact HI.out i (by omega))
       clear h1 h2 hX hY
       generalize L.getD m Nd.no = x at *
       generalize M.getD m Nd.no = y at *
       have SN := hid (fun w' (h : Below wr.heap.size wr w') => (rsameNd_c x y w' (oX.later h) (oY.later h)).mono (fun e w2 hh => hh.is))
       obtain ⟨r, HR⟩ : ∃ r : Bool, Hid (decide (x.er = y.er) = r) := ⟨_, hid rfl⟩
       rw [HR.out] at SN
       obtain ⟨fid, k, md, ln, da, dc, zs, ka, kc, ks⟩ := x
       obtain ⟨fid', k', md', ln', da', dc', zs', ka', kc', ks'⟩ := y
       simp only [Nd.val] at SN
       have x0 : ∀ w', Below wr.heap.size wr w' → w'.cell? ⟨b1, o1 + m * 6, none⟩ = some (.int .u32 fid) := fun w' h => (cX.later h).all.1
       have x1 : ∀ w', Below wr.heap.size wr w' → w'.cell? ⟨b1, o1 + m * 6 + 1, none⟩ = some (.int .u8 k) := fun w' h => (cX.later h).all.2.1
       have x2 : ∀ w', Below wr.heap.size wr w' → w'.cell? ⟨b1, o1 + m * 6 + 2, none⟩ = some (.int .u16 md) := fun w' h => (cX.later h).all.2.2.1
       have x3 : ∀ w', Below wr.heap.size wr w' → w'.cell? ⟨b1, o1 + m * 6 + 3, none⟩ = some (.int .u16 ln) := fun w' h => (cX.later h).all.2.2.2.1
       have x4 : ∀ w', Below wr.heap.size wr w' → w'.cell? ⟨b1, o1 + m * 6 + 4, none⟩ = some (.slice da zs.length dc) := fun w' h => (cX.later h).all.2.2.2.2.1
       have x5 : ∀ w', Below wr.heap.size wr w' → w'.cell? ⟨b1, o1 + m * 6 + 5, none⟩ = some (.slice ka ks.length kc) := fun w' h => (cX.later h).all.2.2.2.2.2
       have y0 : ∀ w', Below wr.heap.size wr w' → w'.cell? ⟨b2, o2 + m * 6, none⟩ = some (.int .u32 fid') := fun w' h => (cY.later h).all.1
       have y1 : ∀ w', Below wr.heap.size wr w' → w'.cell? ⟨b2, o2 + m * 6 + 1, none⟩ = some (.int .u8 k') := fun w' h => (cY.later h).all.2.1
       have y2 : ∀ w', Below wr.heap.size wr w' → w'.cell? ⟨b2, o2 + m * 6 + 2, none⟩ = some (.int .u16 md') := fun w' h => (cY.later h).all.2.2.1
       have y3 : ∀ w', Below wr.heap.size wr w' → w'.cell? ⟨b2, o2 + m * 6 + 3, none⟩ = some (.int .u16 ln') := fun w' h => (cY.later h).all.2.2.2.1
       have y4 : ∀ w', Below wr.heap.size wr w' → w'.cell? ⟨b2, o2 + m * 6 + 4, none⟩ = some (.slice da' zs'.length dc') := fun w' h => (cY.later h).all.2.2.2.2.1
       have y5 : ∀ w', Below wr.heap.size wr w' → w'.cell? ⟨b2, o2 + m * 6 + 5, none⟩ = some (.slice ka' ks'.length kc') := fun w' h => (cY.later h).all.2.2.2.2.2
       clear cX cY oX oY
       cases r with
       | true =>
         have EX := hid (NX.out (of_decide_eq_true HR.out))
         clear NO NX
         go_wp2
         refine wp_region_class (by kernel_rfl) (by kernel_rfl) ?_
         repeat (first
           | go_big_quiet_skip
           | (go_big_quiet_want
              apply quiet_by
              · intro w1 hw1
                go_simp
                first
                  | rfl
                  | (go_at_call 20; exact class_of hw1 (SN.out _ hw1))
              · go_simp; rfl
              go_big_quiet_on))
         refine wpQuiet_nil ?_
         intro w9 hw9
         go_wp2
         go_roundg (gk - 1)
         case measure => omega
         case rel => exact ⟨m + 1, by omega, by go_num, hid (HW.out.trans (hw9.mono HW.out.size)), EX⟩
       | false =>
         have EX := hid (NO.out (of_decide_eq_false HR.out))
         clear NO NX
         go_wp2
         refine wp_region_class (by kernel_rfl) (by kernel_rfl) ?_
         repeat (first
           | go_big_quiet_skip
           | (go_big_quiet_want
              apply quiet_by
              · intro w1 hw1
                go_simp
                first
                  | rfl
                  | (go_at_call 20; exact class_of hw1 (SN.out _ hw1))
              · go_simp; rfl
              go_big_quiet_on))
         refine wpQuiet_nil ?_
         intro w9 hw9
         go_wp2
         go_ret
         exact Yes.f EX.out (HW.out.trans (hw9.mono HW.out.size))
     · have hge : ¬ (m : Int) < n := by omega
       have em : m = n := by omega
       have EF : Hid (L.map Nd.er = M.map Nd.er) := hid (List.ext_getElem (by rw [List.length_map, List.length_map]; exact HL.out) (fun i h1 h2 => by
         rw [List.length_map] at h1 h2
         have := HI.out i (by rw [em, HN.out]; exact h1)
         rw [List.getD, List.getD, List.getElem?_eq_getElem h1, List.getElem?_eq_getElem h2] at this
         simpa using this))
       go_wp2
       go_ret
       exact Yes.t EF.out HW.out
 · have qB : ((L.length : Int) != (M.length : Int)) = true := by rw [bne_iff_ne]; omega
   have EX : Hid (¬ L.map Nd.er = M.map Nd.er) := hid (fun e => q (by rw [← List.length_map (f := Nd.er), e, List.length_map]))
   clear ha hb
   generalize L.length = n at *
   generalize M.length = m at *
   go_enter Tryz.func9, Tryz.ntmps9
   go_wp2
   go_ret
   exact Yes.f EX.out (Below.refl _ _)
set_option maxHeartbeats 1000000 in
theorem tSameL_c (a b : Option Addr) (ca cb : Nat) (xs ys : List Nd) (w : World) (hx : IsNs w a xs) (hy : IsNs w b ys) (hm : xs.length ≤ 100000) (hm' : ys.length ≤ 100000) :
   Calls Tryz.prog 8 #[.slice a xs.length ca, .slice b ys.length cb] w (Yes (xs.map Nd.er = ys.map Nd.er) w) := by
 have SC := hid (sameFL_c a b ca cb xs ys w hx hy hm hm' (fun x h => (hx.2.1 x h).2.2.2.2.2.1) (fun x h => (hy.2.1 x h).2.2.2.2.2.1))
 clear hx hy
 generalize xs.length = n at *
 generalize ys.length = m at *
 go_enter Tryz.func8, Tryz.ntmps8
 go_wp2_with (go_at_call 18; refine SC.out.mono ?_; rintro _ w1 ⟨⟨r, rfl, hr⟩, hb⟩)
 go_ret
 exact ⟨⟨r, rfl, hr⟩, hb⟩
end Go.Proofs.YtgbdplammniidaaGreat
