/-
  
-/
import Derived.Test.YtpolbbdaippclaaGreatNsBh
import Derived.Test.YtpolbbdaippclaaGreatNsBj
namespace Go.Proofs.YtpolbbdaippclaaGreat
open Go.RowKit Go.ChangeShapes Go.WideShapes Go.ChangeAt Go.Maps Go.Shelf
set_option linter.unusedVariables false
set_option linter.unusedSimpArgs false
set_option maxRecDepth 100000
def IsVs (w : World) (ve : Value) (vs : List Vd) : Prop := (vs = [] ∧ ve = .slice none 0 0) ∨ ∃ x g c cur, vs = [x] ∧ ve = .slice (some ⟨g, 0, none⟩) 1 c ∧ w.heap[g]? = some (.cells cur 58 (0, 0)) ∧ ∀ (k : Nat) (u : Value), x.cells[k]? = some u → cur[k]? = some u
theorem IsVs.later {w w' : World} {ve : Value} {vs : List Vd} (h : IsVs w ve vs) (hb : Below w.heap.size w w') : IsVs w' ve vs := by
 rcases h with h | ⟨x, g, c, cur, h1, h2, h3, h4⟩
 · exact .inl h
 · exact .inr ⟨x, g, c, cur, h1, h2, (hb.block _ (lt_blkR h3)).trans h3, h4⟩
theorem IsVs.shape {w : World} {ve : Value} {vs : List Vd} (h : IsVs w ve vs) : ∃ a n c, ve = .slice a n c := by
 rcases h with ⟨_, rfl⟩ | ⟨x, g, c, cur, _, rfl, _⟩
 · exact ⟨_, _, _, rfl⟩
 · exact ⟨_, _, _, rfl⟩
theorem OwVs.is {w : World} {base : Nat} {ve : Value} {vs : List Vd} (h : OwVs w base ve vs) : IsVs w ve vs := by
 rcases h with h | ⟨x, h1, h2⟩
 · exact .inl h
 · obtain ⟨g, c, cur, e, _, _, hg, hx⟩ := h2.one
   exact .inr ⟨x, g, c, cur, h1, e, hg, hx⟩
def StV (w : World) (b off : Nat) (tv vv ve : Value) (ver d0 d1 d2 : Int) : Prop :=
 w.cell? ⟨b, off, none⟩ = some tv ∧ w.cell? ⟨b, off + 1, none⟩ = some vv ∧ w.cell? ⟨b, off + 2, none⟩ = some (.int .u64 ver) ∧ w.cell? ⟨b, off + 3, none⟩ = some (.int .u32 d0) ∧ w.cell? ⟨b, off + 4, none⟩ = some (.int .u32 d1) ∧ w.cell? ⟨b, off + 5, none⟩ = some (.int .u32 d2) ∧ w.cell? ⟨b, off + 6, none⟩ = some ve
theorem StV.later {w w' : World} {b off : Nat} {tv vv ve : Value} {ver d0 d1 d2 : Int} (h : StV w b off tv vv ve ver d0 d1 d2) (hb : Below w.heap.size w w') : StV w' b off tv vv ve ver d0 d1 d2 := by
 obtain ⟨h0, h1, h2, h3, h4, h5, h6⟩ := h
 exact ⟨cell_later hb h0, cell_later hb h1, cell_later hb h2, cell_later hb h3, cell_later hb h4, cell_later hb h5, cell_later hb h6⟩
def GrpV (sb ns vb : List Int) (w : World) (e : Ending) (w' : World) : Prop := ∃ g v1 v2, e = .returned (.slice (some ⟨g, 0, none⟩) 2 2) ∧ w.heap.size ≤ g ∧ w'.heap[g]? = some (.cells #[v1, v2] 49 (0, 0)) ∧ OwY w' w.heap.size v1 sb ∧ OwY w' w.heap.size v2 (ns ++ vb) ∧ Below w.heap.size w w'
theorem vsB_in {vs : List Vd} (hl : vs.length ≤ 255) (hok : ∀ x ∈ vs, x.Ok) : ∀ y ∈ vsB vs, 0 ≤ y ∧ y ≤ 255 := fun y hy => by
 unfold vsB at hy
 rcases List.mem_cons.1 hy with rfl | hy
 · omega
 · obtain ⟨x, hx, hy⟩ := List.mem_flatMap.1 hy
   obtain ⟨o1, o2, o3, o4, o5⟩ := hok x hx
   unfold vdB rec1B recB opB at hy
   simp only [List.mem_append, List.mem_singleton] at hy
   rcases hy with ((rfl | h) | rfl) | h | h | ((((((h | h) | h) | h) | h) | h) | h) | h
   · omega
   · exact be4_in o4.1 o4.2 y h
   · omega
   all_goals first | exact beF_in _ _ y h | exact txS_in _ y h
theorem numV_in {vs : List Vd} {ver d0 d1 d2 : Int} (hl : vs.length ≤ 255) (hok : ∀ x ∈ vs, x.Ok) (hv : 0 ≤ ver ∧ ver < 72057594037927936) (h0 : 0 ≤ d0 ∧ d0 < 4294967296) (h1 : 0 ≤ d1 ∧ d1 < 4294967296) (h2 : 0 ≤ d2 ∧ d2 < 4294967296) : ∀ y ∈ numB ver d0 d1 d2 ++ vsB vs, 0 ≤ y ∧ y ≤ 255 := fun y hy => by
 rcases List.mem_append.1 hy with h | h
 · exact numB_in ⟨hv.1, by omega⟩ h0 h1 h2 y (List.mem_append.2 (.inl h))
 · exact vsB_in hl hok y h
theorem IsVs.len {w : World} {ve : Value} {vs : List Vd} (h : IsVs w ve vs) : vs.length ≤ 255 := by
 rcases h with ⟨rfl, _⟩ | ⟨x, g, c, cur, rfl, _⟩
 · simp
 · simp
set_option maxHeartbeats 4000000 in
theorem wone_c (base : Nat) (v : Value) (zt : List Int) (y : Vd) (g c : Nat) (cur : Array Value) (w : World) (hg : w.heap[g]? = some (.cells cur 58 (0, 0))) (hx : ∀ (k : Nat) (u : Value), y.cells[k]? = some u → cur[k]? = some u) (ho : OwY w base v (0 :: zt)) (hb : base ≤ w.heap.size) (hz : zt.length ≤ 80000) (hy : y.Ok) :
   Calls Tryz.prog 80 #[v, .slice (some ⟨g, 0, none⟩) 1 c] w fun e w' => ∃ v', e = .returned v' ∧ OwY w' base v' (0 :: zt ++ vsB [y]) ∧ Below base w w' := by
 obtain ⟨a, m, k0, rfl⟩ := own_sliceY ho
 have HO := hid ho
 have HG := hid hg
 have NU : Hid (NotU8 (.cells cur 58 (0, 0))) := hid (fun cs fr e => by injection e with e1 e2; cases e2)
 have WV := hid (fun (v : Value) (W : World) (hW : OwY W base v (0 :: (zt ++ [1]))) (hbW : base ≤ W.heap.size) => wverd_c base v (zt ++ [1]) y W hW hbW (by simp; omega) hy)
 have EQ : Hid (0 :: zt ++ vsB [y] = 0 :: (zt ++ [1]) ++ vdB y) := hid (by unfold vsB; simp)
 rw [EQ.out]
 clear EQ ho hy
 obtain ⟨q, hq⟩ : ∃ q, q = vdB y := ⟨_, rfl⟩
 rw [← hq]
 rw [← hq] at WV
 clear hq
 obtain ⟨cl, num, er, k, fid, dir, nm, tof, nm2, md, dt, sn⟩ := y
 simp only [Vd.val, Vd.cells] at *
 go_enter Tryz.func80, Tryz.ntmps80
 go_upto_region 3 with (at_builtin; refine wpList_appY _ rfl _ _ rfl base _ (0 :: zt) [1] rfl (HO.out.later (below_1 _ _)) w.heap.size 1 1 rfl rfl (heap_alloc_new w _) (by simp; omega) (by decide) (by simp; omega) ?_; intro v' w' ho' hg'; have O' := hid ho'; have B' := hid (below_grownY ((below_1 w _).mono hb) (HO.out.later (below_1 w _)) (Nat.le_refl _) (by simp; omega) hg'); have HG' := own_stays (HO.out.later (below_1 w _)) hg' (((below_1 w _).block _ (lt_blkR HG.out)).trans HG.out) NU.out; clear ho' hg')
 obtain ⟨a', m', c', rfl⟩ := own_sliceY O'.out
 have y0 : w'.cell? ⟨g, 0, none⟩ = some (.int .u8 cl) := by rw [cell_of_row w' g 0 cur _ (0, 0) HG']; exact hx 0 _ rfl
 have y1 : w'.cell? ⟨g, 1, none⟩ = some (.int .u32 num) := by rw [cell_of_row w' g 1 cur _ (0, 0) HG']; exact hx 1 _ rfl
 have y2 : w'.cell? ⟨g, 2, none⟩ = some (.int .i64 er) := by rw [cell_of_row w' g 2 cur _ (0, 0) HG']; exact hx 2 _ rfl
 have y3 : w'.cell? ⟨g, 3, none⟩ = some (.int .u8 k) := by rw [cell_of_row w' g 3 cur _ (0, 0) HG']; exact hx 3 _ rfl
 have y4 : w'.cell? ⟨g, 4, none⟩ = some (.int .u32 fid) := by rw [cell_of_row w' g 4 cur _ (0, 0) HG']; exact hx 4 _ rfl
 have y5 : w'.cell? ⟨g, 5, none⟩ = some (.int .u32 dir) := by rw [cell_of_row w' g 5 cur _ (0, 0) HG']; exact hx 5 _ rfl
 have y6 : w'.cell? ⟨g, 6, none⟩ = some (.string nm) := by rw [cell_of_row w' g 6 cur _ (0, 0) HG']; exact hx 6 _ rfl
 have y7 : w'.cell? ⟨g, 7, none⟩ = some (.int .u32 tof) := by rw [cell_of_row w' g 7 cur _ (0, 0) HG']; exact hx 7 _ rfl
 have y8 : w'.cell? ⟨g, 8, none⟩ = some (.string nm2) := by rw [cell_of_row w' g 8 cur _ (0, 0) HG']; exact hx 8 _ rfl
 have y9 : w'.cell? ⟨g, 9, none⟩ = some (.int .u16 md) := by rw [cell_of_row w' g 9 cur _ (0, 0) HG']; exact hx 9 _ rfl
 have y10 : w'.cell? ⟨g, 10, none⟩ = some (.string dt) := by rw [cell_of_row w' g 10 cur _ (0, 0) HG']; exact hx 10 _ rfl
 have y11 : w'.cell? ⟨g, 11, none⟩ = some (.int .u64 sn) := by rw [cell_of_row w' g 11 cur _ (0, 0) HG']; exact hx 11 _ rfl
 have Z' : Hid (base ≤ w'.heap.size) := hid (by have := B'.out.size; omega)
 have WV2 := hid (WV.out _ (w'.alloc (.cells #[.int .u8 cl, .int .u32 num, .int .i64 er, .int .u8 k, .int .u32 fid, .int .u32 dir, .string nm, .int .u32 tof, .string nm2, .int .u16 md, .string dt, .int .u64 sn] 58)) (O'.out.later (below_1 w' _)) (Nat.le_trans Z'.out (below_1 w' _).size))
 clear HG' WV hx
 refine wp_loop_rounds 2 ?_
 rw [rounds_succ]
 go_wp2_with (go_at_call 121; refine WV2.out.mono ?_; rintro _ w4 ⟨v4, rfl, ho4, hb4⟩; obtain ⟨a4, n4, k4, rfl⟩ := own_sliceY ho4; have O4 := hid ho4; have B4 := hid ((B'.out.trans ((below_1 w' (.cells #[.int .u8 cl, .int .u32 num, .int .i64 er, .int .u8 k, .int .u32 fid, .int .u32 dir, .string nm, .int .u32 tof, .string nm2, .int .u16 md, .string dt, .int .u64 sn] 58)).mono Z'.out)).trans hb4); clear ho4 hb4)
 rw [rounds_succ]
 go_wp2
 go_ret
 exact ⟨_, rfl, O4.out, B4.out⟩
theorem wvs_c (vs : List Vd) (ve : Value) (base : Nat) (v : Value) (zs : List Int) (w : World) (hvs : IsVs w ve vs) (hok : ∀ x ∈ vs, x.Ok) (ho : OwY w base v zs) (hb : base ≤ w.heap.size) (hz : zs.length ≤ 80000) (hh : zs.head? = some 0) :
   Calls Tryz.prog 80 #[v, ve] w fun e w' => ∃ v', e = .returned v' ∧ OwY w' base v' (zs ++ vsB vs) ∧ Below base w w' := by
 rcases hvs with ⟨rfl, rfl⟩ | ⟨x, g, c, cur, rfl, rfl, hg, hx⟩
 · exact wnone_c base v zs w ho hb (by omega)
 · cases zs with
   | nil => cases hh
   | cons z zt =>
     have : z = 0 := by simpa using hh
     subst this
     exact wone_c base v zt x g c cur w hg hx ho hb (by simp at hz; omega) (hok x (List.mem_singleton.2 rfl))
set_option maxHeartbeats 4000000 in
theorem groupV_c (b off : Nat) (tv vv ve : Value) (vs : List Vd) (ver d0 d1 d2 : Int) (sb : List Int) (w : World) (hs : StV w b off tv vv ve ver d0 d1 d2) (ht : (∃ a n c, tv = .slice a n c) ∧ ∃ a n c, vv = .slice a n c)
   (hvs : IsVs w ve vs) (hok : ∀ x ∈ vs, x.Ok) (hv : 0 ≤ ver ∧ ver < 72057594037927936) (h0 : 0 ≤ d0 ∧ d0 < 4294967296) (h1 : 0 ≤ d1 ∧ d1 < 4294967296) (h2 : 0 ≤ d2 ∧ d2 < 4294967296)
   (hc : Calls Tryz.prog 51 #[.agg #[tv, vv]] w fun e w' => ∃ v, e = .returned (.tuple #[v, .int .i64 0]) ∧ OwY w' w.heap.size v sb ∧ Below w.heap.size w w') :
   Calls Tryz.prog 50 #[.pointer (some ⟨b, off, none⟩)] w (GrpV sb (numB ver d0 d1 d2) (vsB vs) w) := by
 obtain ⟨⟨ta, tn, tc, rfl⟩, va, vn, vc, rfl⟩ := ht
 have WVS := hid (fun (W : World) (hW : Below w.heap.size w W) base v zs ho hb hz hh => wvs_c vs ve base v zs W (hvs.later hW) hok ho hb hz hh)
 obtain ⟨qa, qn, qc, rfl⟩ := hvs.shape
 have SC := hid hc
 have H0 : Hid (ver / 4294967296 / 16777216 = 0) := hid (by omega)
 have HS := hid hs
 obtain ⟨c0, c1, c2, c3, c4, c5, c6⟩ := hs
 obtain ⟨hv0, hv1⟩ := hv
 have UC := hid (fun W => unpack_c ver hv0 (by omega) W)
 have m0 : 0 ≤ ver / 4294967296 := by omega
 have m1 : ver / 4294967296 < 4294967296 := by omega
 have m2 : 0 ≤ ver % 4294967296 := by omega
 have m3 : ver % 4294967296 < 4294967296 := by omega
 have WN := hid (fun (base : Nat) (v : Value) (zs : List Int) (n : Int) (W : World) (ho : OwY W base v zs) (hb : base ≤ W.heap.size) (hz : zs.length ≤ 100000) (q : n = ver / 4294967296 ∨ n = ver % 4294967296 ∨ n = d0 ∨ n = d1 ∨ n = d2) => wnum_c base v zs n W ho hb hz (by omega) (by omega))
 obtain ⟨H, hH⟩ : ∃ H, H = ver / 4294967296 := ⟨_, rfl⟩
 obtain ⟨L, hL⟩ : ∃ L, L = ver % 4294967296 := ⟨_, rfl⟩
 have NB : Hid (numB ver d0 d1 d2 = be4 H ++ be4 L ++ be4 d0 ++ be4 d1 ++ be4 d2) := hid (by rw [hH, hL]; rfl)
 rw [← hH] at H0
 rw [← hH, ← hL] at UC WN
 clear hvs hok hc hv0 hv1 m0 m1 m2 m3 h0 h1 h2 hH hL
 go_enter Tryz.func50, Tryz.ntmps50
 go_upto_region 2 with (go_at_call 51; refine SC.out.mono ?_; rintro _ w1 ⟨v1, rfl, ho1, hb1⟩; have O1 := hid ho1; have B1 := hid hb1; clear ho1 hb1)
 obtain ⟨a1, n1, k1, rfl⟩ := own_sliceY O1.out
 obtain ⟨e0, e1, e2, e3, e4, e5, e6⟩ := HS.out.later B1.out
 have OC := hid (OwY.nil w1 w1.heap.size)
 have BC := hid (Below.refl w1.heap.size w1)
 clear c0 c1 c2 c3 c4 c5 c6 SC e0 e1
 go_upto_region 3 with (go_at_call 79; refine (UC.out _).mono ?_; rintro _ w2 ⟨rfl, hb2⟩; have OC := hid (OC.out.later hb2); have BC := hid (BC.out.trans hb2); clear hb2)
 go_upto_region 4 with (go_at_call 52; refine (WN.out w1.heap.size _ _ _ _ OC.out BC.out.size (by simp [be4]) (by simp)).mono ?_; rintro _ w3 ⟨v3, rfl, ho3, hb3⟩; obtain ⟨a3, n3, k3, rfl⟩ := own_sliceY ho3; have OC := hid ho3; have BC := hid (BC.out.trans hb3); clear ho3 hb3)
 obtain ⟨f0, f1, f2, f3, f4, f5, f6⟩ := HS.out.later (B1.out.trans (BC.out.mono B1.out.size))
 clear f0 f1 f2 e2 e3 e4 e5 e6
 go_wp2
 have x0 := uidx0 d0 d1 d2
 have x1 := uidx1 d0 d1 d2
 have x2 := uidx2 d0 d1 d2
 refine wp_loop_rounds 4 ?_
 rw [rounds_succ]
 go_wp2_with (go_at_call 52; refine (WN.out w1.heap.size _ _ _ _ OC.out BC.out.size (by simp [be4]) (by simp)).mono ?_; rintro _ w3 ⟨v3, rfl, ho3, hb3⟩; obtain ⟨a3, n3, k3, rfl⟩ := own_sliceY ho3; have OC := hid ho3; have BC := hid (BC.out.trans hb3); clear ho3 hb3)
 rw [rounds_succ]
 go_wp2_with (go_at_call 52; refine (WN.out w1.heap.size _ _ _ _ OC.out BC.out.size (by simp [be4]) (by simp)).mono ?_; rintro _ w3 ⟨v3, rfl, ho3, hb3⟩; obtain ⟨a3, n3, k3, rfl⟩ := own_sliceY ho3; have OC := hid ho3; have BC := hid (BC.out.trans hb3); clear ho3 hb3)
 rw [rounds_succ]
 go_wp2_with (go_at_call 52; refine (WN.out w1.heap.size _ _ _ _ OC.out BC.out.size (by simp [be4]) (by simp)).mono ?_; rintro _ w3 ⟨v3, rfl, ho3, hb3⟩; obtain ⟨a3, n3, k3, rfl⟩ := own_sliceY ho3; have OC := hid ho3; have BC := hid (BC.out.trans hb3); clear ho3 hb3)
 obtain ⟨g0, g1, g2, g3, g4, g5, g6⟩ := HS.out.later (B1.out.trans (BC.out.mono B1.out.size))
 clear g0 g1 g2 g3 g4 g5 f3 f4 f5 f6
 rw [rounds_succ]
 go_wp2_with (go_at_call 80; refine (WVS.out _ (B1.out.trans (BC.out.mono B1.out.size)) w1.heap.size _ _ OC.out BC.out.size (by simp [be4]) (by simp [be4, H0.out])).mono ?_; rintro _ w4 ⟨v4, rfl, ho4, hb4⟩; obtain ⟨a4, n4, k4, rfl⟩ := own_sliceY ho4; have OC := hid ho4; have BC := hid (BC.out.trans hb4); clear ho4 hb4)
 go_ret
 have b9 := below_1 w4 (.cells #[.slice a1 n1 k1, .slice a4 n4 k4] 49)
 have B9 := (B1.out.trans (BC.out.mono B1.out.size)).trans (b9.mono (Nat.le_trans B1.out.size BC.out.size))
 refine ⟨_, _, _, rfl, Nat.le_trans B1.out.size BC.out.size, heap_alloc_new w4 _, O1.out.later (BC.out.trans (b9.mono BC.out.size)), ?_, B9⟩
 have h9 := (OC.out.later b9).low B1.out.size
 rw [NB.out]
 simpa using h9
set_option maxHeartbeats 4000000 in
theorem keepV_c {base j N : Nat} {t : Int} {w : World} (hJ : JH base w j N t) (hbz : base ≤ w.heap.size) (ad bd : Addr) (ca cb : Nat) (lw : List Nd) (ss : List St) (ver d0 d1 d2 : Int) (h : IsNs w (some ad) lw) (hs : IsSs w (some bd) ss) (hm : lw.length ≤ 900) (hm' : ss.length ≤ 900)
   (hR : RSnap lw ss) (hwf : ∀ x ∈ lw, x.Wf) (qa : Option Addr) (qn qc : Nat) (vs : List Vd) (hvs : IsVs w (.slice qa qn qc) vs) (hok : ∀ x ∈ vs, x.Ok) (hv : 0 ≤ ver ∧ ver < 72057594037927936) (h0 : 0 ≤ d0 ∧ d0 < 4294967296) (h1 : 0 ≤ d1 ∧ d1 < 4294967296) (h2 : 0 ≤ d2 ∧ d2 < 4294967296)
   (ho : Jo.okG [snapB lw ss, numB ver d0 d1 d2 ++ vsB vs] = true) (hn : Jo.needF [snapB lw ss, numB ver d0 d1 d2 ++ vsB vs] ≤ asz N) (ht : t ≠ 4294967295) :
   Calls Tryz.prog 44 #[.agg #[pB j], .agg #[.slice (some ad) lw.length ca, .slice (some bd) ss.length cb, .int .u64 ver, .int .u32 d0, .int .u32 d1, .int .u32 d2, .slice qa qn qc]] w fun e w' => e = .returned (.int .i64 0) ∧ JH base w' j N (t + 1) ∧ Stay w w' ∧ Below base w w' ∧ w.heap.size ≤ w'.heap.size := by
 have b1 := below_1 w (.cells #[pB j] 73)
 have g1 := heap_alloc_new w (.cells #[pB j] 73)
 have b2 := below_1 (w.alloc (.cells #[pB j] 73)) (.cells #[.slice (some ad) lw.length ca, .slice (some bd) ss.length cb, .int .u64 ver, .int .u32 d0, .int .u32 d1, .int .u32 d2, .slice qa qn qc] 76)
 have g2 := heap_alloc_new (w.alloc (.cells #[pB j] 73)) (.cells #[.slice (some ad) lw.length ca, .slice (some bd) ss.length cb, .int .u64 ver, .int .u32 d0, .int .u32 d1, .int .u32 d2, .slice qa qn qc] 76)
 rw [show (w.alloc (.cells #[pB j] 73)).heap.size = w.heap.size + 1 by simp] at g2
 have g1' := (b2.block _ (lt_blkR g1)).trans g1
 have BV := hid (b1.trans (b2.mono b1.size))
 have HJ := hid (hJ.later BV.out)
 have NV := hid (h.later BV.out)
 have TV := hid (hs.later BV.out)
 have QV := hid (hvs.later BV.out)
 have GI := hid (fun (W : World) (g b : Nat) (v1 v2 : Value) hg h1' h2' => gr_is (w := W) (g := g) (base := b) (v1 := v1) (v2 := v2) hg h1' h2' (snapB_inS lw ss) (numV_in hvs.len hok hv h0 h1 h2))
 have RS := hid (fun (W : World) (hj : JH base W j N t) (hb : base ≤ W.heap.size) (g : Nat) hG => jkeep_c hj hb (some ⟨g, 0, none⟩) 2 2 [snapB lw ss, numB ver d0 d1 d2 ++ vsB vs] hG ho hn ht)
 have BZ := hid hbz
 have GC := hid (fun (W : World) (b : Nat) (hV : IsVs W (.slice qa qn qc) vs) (hS : StV W b 0 (.slice (some ad) lw.length ca) (.slice (some bd) ss.length cb) (.slice qa qn qc) ver d0 d1 d2) (hN : IsNs W (some ad) lw) (hT : IsSs W (some bd) ss) => groupV_c b 0 _ _ _ vs ver d0 d1 d2 (snapB lw ss) W hS ⟨⟨_, _, _, rfl⟩, _, _, _, rfl⟩ hV hok hv h0 h1 h2 ((snapshot_c (some ad) (some bd) ca cb lw ss W hN hT (by omega) (by omega) (fun _ => hwf)).mono (fun e w' hp => by
   obtain ⟨hp1, hb⟩ := hp
   rcases hp1 with ⟨_, v, e1, e2⟩ | ⟨h9, _⟩
   · exact ⟨v, e1, e2, hb⟩
   · exact absurd hR h9)))
 clear hvs hok b1 b2 g1 hJ h hs hR hwf hv h0 h1 h2 ho hn ht
 go_enter Tryz.func44, Tryz.ntmps44
 go_upto_region 1 with fail
 generalize ((w.alloc (.cells #[pB j] 73)).alloc (.cells #[.slice (some ad) lw.length ca, .slice (some bd) ss.length cb, .int .u64 ver, .int .u32 d0, .int .u32 d1, .int .u32 d2, .slice qa qn qc] 76)) = V at *
 have HS2 := hid g2
 have D0 : Below V.heap.size V V.drew := Below.drew (Below.refl _ _)
 have hS0 : V.drew.cell? ⟨w.heap.size, 0, none⟩ = some (pB j) := cell_of_row2 (show V.drew.heap[w.heap.size]? = _ from g1') 0 rfl
 have SV : StV V.drew (w.heap.size + 1) 0 (.slice (some ad) lw.length ca) (.slice (some bd) ss.length cb) (.slice qa qn qc) ver d0 d1 d2 := ⟨cell_of_row2 (show V.drew.heap[w.heap.size + 1]? = _ from g2) 0 rfl, cell_of_row2 (show V.drew.heap[w.heap.size + 1]? = _ from g2) 1 rfl, cell_of_row2 (show V.drew.heap[w.heap.size + 1]? = _ from g2) 2 rfl, cell_of_row2 (show V.drew.heap[w.heap.size + 1]? = _ from g2) 3 rfl, cell_of_row2 (show V.drew.heap[w.heap.size + 1]? = _ from g2) 4 rfl, cell_of_row2 (show V.drew.heap[w.heap.size + 1]? = _ from g2) 5 rfl, cell_of_row2 (show V.drew.heap[w.heap.size + 1]? = _ from g2) 6 rfl⟩
 have GV := hid (GC.out V.drew (w.heap.size + 1) (QV.out.later D0) SV (NV.out.later D0) (TV.out.later D0))
 have DD := hid D0
 clear g1' g2 SV D0
 go_wp2_with fail
 refine wp_region_held_drew (S := fun w' => w'.cell? ⟨w.heap.size, 0, none⟩ = some (pB j)) (by kernel_rfl) hS0 (fun hHeld => ?_)
 refine take_l 0 (v := ?_) rfl (by kernel_rfl) (by kernel_rfl) (by kernel_rfl) (fun _ _ _ h => h) (Or.inl ⟨by rfl, ?_⟩) (by assumption) ?_
 rotate_left
 · (intro w' hSw; clear hSw; go_simp; first | done | with_reducible rfl)
 try simp only [Act.put, List.setIfInBounds_toArray, List.set_cons_zero, List.set_cons_succ]
 refine take_l 1 (v := ?_) rfl (by kernel_rfl) (by kernel_rfl) (by kernel_rfl) (fun _ _ _ h => h) (Or.inl ⟨by rfl, ?_⟩) (by assumption) ?_
 rotate_left
 · (intro w' hSw; (have kq : w'.cell? ⟨w.heap.size, 0, none⟩ = some (pB j) := hSw); clear hSw; go_simp; first | done | with_reducible rfl)
 try simp only [Act.put, List.setIfInBounds_toArray, List.set_cons_zero, List.set_cons_succ]
 refine cons_l 2 rfl (by kernel_rfl) (fun K hK => ?_)
 go_simp
 refine GV.out.mono ?_; rintro _ w1 ⟨g, v1, v2, rfl, hgb, hgr, ho1, ho2, hb1⟩
 have D1 := hid (DD.out.trans (hb1.mono DD.out.size))
 have hS1 : w1.cell? ⟨w.heap.size, 0, none⟩ = some (pB j) := cell_later hb1 hS0
 have B1 := hid (BV.out.trans (D1.out.mono BV.out.size))
 have RV := hid (RS.out w1 (HJ.out.later D1.out) (Nat.le_trans BZ.out B1.out.size) g (GI.out w1 g _ v1 v2 hgr ho1 ho2))
 clear hgb hgr ho1 ho2 hb1 hS0
 go_simp
 refine hK.out _ _ hS1 (fun hHeld => ?_)
 clear hK K
 try simp only [Act.put, List.setIfInBounds_toArray, List.set_cons_zero, List.set_cons_succ]
 refine cons_l 3 rfl (by kernel_rfl) (fun K hK => ?_)
 go_simp
 refine RV.out.mono ?_; rintro _ w2 ⟨rfl, hj2, hst2, hb2, hz2⟩
 have J2 := hid hj2
 have S2 := hid ((Stay.of B1.out).trans hst2)
 have B2 := hid ((B1.out.mono BZ.out).trans hb2)
 have Z2 := hid (Nat.le_trans B1.out.size hz2)
 have hS2 : w2.cell? ⟨w.heap.size, 0, none⟩ = some (pB j) := hst2.cell hS1
 clear hj2 hst2 hb2 hz2 hS1
 go_simp
 refine hK.out _ _ hS2 (fun hHeld => ?_)
 clear hK K
 try simp only [Act.put, List.setIfInBounds_toArray, List.set_cons_zero, List.set_cons_succ]
 refine take_l 4 (v := ?_) rfl (by kernel_rfl) (by kernel_rfl) (by kernel_rfl) (fun _ _ _ h => h) (Or.inl ⟨by rfl, ?_⟩) (by assumption) ?_
 rotate_left
 · (intro w' hSw; clear hSw; go_simp; first | done | with_reducible rfl)
 try simp only [Act.put, List.setIfInBounds_toArray, List.set_cons_zero, List.set_cons_succ]
 refine wpAnyH_done (by kernel_rfl) ?_ _
 clear hS2 hHeld
 go_wp2
 go_ret
 exact ⟨rfl, J2.out, S2.out, B2.out, Z2.out⟩
end Go.Proofs.YtpolbbdaippclaaGreat
