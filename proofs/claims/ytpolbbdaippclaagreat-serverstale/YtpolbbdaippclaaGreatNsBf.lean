/-
  
-/
import Derived.Test.YtpolbbdaippclaaGreatNsAs
import Derived.Test.YtpolbbdaippclaaGreatNsAt
import Derived.Test.YtpolbbdaippclaaGreatNsBe
namespace Go.Proofs.YtpolbbdaippclaaGreat
open Go.RowKit Go.ChangeShapes Go.WideShapes Go.ChangeAt Go.Maps Go.Shelf
set_option linter.unusedVariables false
set_option linter.unusedSimpArgs false
set_option maxRecDepth 100000
set_option maxHeartbeats 8000000 in
theorem copySnap_c (ad bd : Addr) (ca cb : Nat) (l : List Nd) (ss : List St) (w : World) (h : Tr w (some ad) l) (hs : IsSs w (some bd) ss) (hm : l.length ≤ 900) (hm' : ss.length ≤ 900) :
   Calls Tryz.prog 23 #[.agg #[.slice (some ad) l.length ca, .slice (some bd) ss.length cb]] w fun e w' => ∃ v u L, e = .returned (.agg #[v, u]) ∧ OwN w' w.heap.size v L ∧ L.map Nd.er = l.map Nd.er ∧ (∀ x ∈ L, NdR w' w.heap.size x) ∧ OwT w' w.heap.size u ss ∧ Below w.heap.size w w' := by
 have HT := hid h
 have HS := hid hs
 obtain ⟨n, hn⟩ : ∃ n, n = l.length := ⟨_, rfl⟩
 rw [← hn] at hm ⊢
 have HN := hid hn
 clear h hs hn
 have b1 := below_1 w (.cells #[.slice (some ad) n ca, .slice (some bd) ss.length cb] 44)
 have g1 := heap_alloc_new w (.cells #[.slice (some ad) n ca, .slice (some bd) ss.length cb] 44)
 have b2 := below_1 (w.alloc (.cells #[.slice (some ad) n ca, .slice (some bd) ss.length cb] 44)) (.cells #[.slice none 0 0, .slice none 0 0] 44)
 have g2 := heap_alloc_new (w.alloc (.cells #[.slice (some ad) n ca, .slice (some bd) ss.length cb] 44)) (.cells #[.slice none 0 0, .slice none 0 0] 44)
 rw [show (w.alloc (.cells #[.slice (some ad) n ca, .slice (some bd) ss.length cb] 44)).heap.size = w.heap.size + 1 by simp] at g2
 have g1' := (b2.block _ (lt_blkR g1)).trans g1
 have BV := hid (b1.trans (b2.mono b1.size))
 have LV : Hid (((w.alloc (.cells #[.slice (some ad) n ca, .slice (some bd) ss.length cb] 44)).alloc (.cells #[.slice none 0 0, .slice none 0 0] 44)).heap.size = w.heap.size + 2) := hid (by simp)
 clear b1 b2 g1
 go_enter Tryz.func23, Tryz.ntmps23
 go_upto_region 1 with fail
 generalize ((w.alloc (.cells #[.slice (some ad) n ca, .slice (some bd) ss.length cb] 44)).alloc (.cells #[.slice none 0 0, .slice none 0 0] 44)) = V at *
 have HB1 := hid g1'
 have HR1 := hid g2
 have s0 : V.cell? ⟨w.heap.size, 0, none⟩ = some (.slice (some ad) n ca) := cell_of_row2 g1' 0 rfl
 have CN : Hid (Calls Tryz.prog 45 #[.slice (some ad) n ca] V fun e w' => ∃ v, e = .returned v ∧ OwN w' V.heap.size v l ∧ Below V.heap.size V w') := hid (by rw [HN.out]; exact cloneNd_c ad ca l V (HT.out.later BV.out).1 (by have := HN.out; omega))
 clear g1' g2
 go_upto_region 3 with (go_at_call 45; refine CN.out.mono ?_; rintro _ w1 ⟨v1, rfl, ho1, hb1⟩; obtain ⟨a1, c1, rfl⟩ := OwN.shape ho1; have O1 := hid ho1; have B1 := hid hb1; rw [← HN.out]; clear ho1 hb1)
 go_loopg [11] n (fun gk j wr => ∃ (m : Nat) (L : List Nd), m + gk = n ∧ j = .int .i64 m ∧ Hid (L.length = n) ∧ Hid (L.map Nd.er = l.map Nd.er) ∧ Hid (OwN wr V.heap.size (.slice a1 L.length c1) L) ∧ Hid (∀ k, k < m → NdR wr V.heap.size (L.getD k Nd.no)) ∧ Hid (∀ k, m ≤ k → k < n → L.getD k Nd.no = l.getD k Nd.no) ∧ Hid (Below V.heap.size V wr))
 case atStart => exact ⟨0, l, by omega, rfl, hid HN.out.symm, hid rfl, O1, hid (fun k hk => by omega), hid (fun k _ _ => rfl), B1⟩
 case round =>
   obtain ⟨m, L, hm2, rfl, HL, HE, HO, HR, HX, HB⟩ := hrel
   clear s0
   by_cases hlt : m < n
   · have hltI : (m : Int) < n := by omega
     have hln : m < l.length := by rw [← HN.out]; exact hlt
     have hlL : m < L.length := by rw [HL.out]; exact hlt
     obtain ⟨g, cap, cur, eg, hgb, hgc, hgg, hcur⟩ := own_block HO.out (by omega)
     have hrow : ∀ (j : Nat) v, j < 6 → (L.getD m Nd.no).cells[j]? = some v → wr.cell? ⟨g, m * 6 + j, none⟩ = some v := fun j v hj hv => by
       rw [cell_of_row wr g _ _ _ _ hgg]
       exact hcur _ _ (by rw [ncells_get L m j hlL hj]; exact hv)
     have hga : a1 = some ⟨g, 0, none⟩ := by cases eg; rfl
     subst hga
     have hx0 : L.getD m Nd.no = l.getD m Nd.no := HX.out m (Nat.le_refl _) hlt
     have SE : Hid (∀ y : Nd, y.er = (l.getD m Nd.no).er → (L.set m y).map Nd.er = l.map Nd.er) := hid (fun y hy => by rw [map_set_er L m hlL y (by rw [hx0]; exact hy)]; exact HE.out)
     have SP : Hid (∀ (W : World) (y : Nd), OwN W V.heap.size (.slice (some ⟨g, 0, none⟩) L.length c1) L → y.fid = (l.getD m Nd.no).fid → y.k = (l.getD m Nd.no).k → y.md = (l.getD m Nd.no).md → y.ln = (l.getD m Nd.no).ln → OwN ((W.setCell ⟨g, m * 6 + 4, none⟩ (.slice y.da y.zs.length y.dc)).setCell ⟨g, m * 6 + 5, none⟩ (.slice y.ka y.ks.length y.kc)) V.heap.size (.slice (some ⟨g, 0, none⟩) L.length c1) (L.set m y)) := hid (fun W y hW q0 q1 q2 q3 => hW.put m hlL y (by rw [hx0]; exact q0) (by rw [hx0]; exact q1) (by rw [hx0]; exact q2) (by rw [hx0]; exact q3))
     have XP := hid (((HT.out.later BV.out).later ((HB.out.mono (Nat.le_refl _)))).nd (getD_mem l Nd.no hln))
     rw [hx0] at hrow
     clear hln hx0 hcur eg
     have HGG := hid hgg
     have HGB := hid hgb
     have hgl : g < wr.heap.size := lt_blkR hgg
     clear hgg hgb
     generalize l.getD m Nd.no = x at *
     obtain ⟨xf, xk, xm, xl, xda, xdc, xzs, xka, xkc, xks⟩ := x
     have y0 : wr.cell? ⟨g, m * 6, none⟩ = some (.int .u32 xf) := hrow 0 _ (by omega) rfl
     have y1 : wr.cell? ⟨g, m * 6 + 1, none⟩ = some (.int .u8 xk) := hrow 1 _ (by omega) rfl
     have y2 : wr.cell? ⟨g, m * 6 + 2, none⟩ = some (.int .u16 xm) := hrow 2 _ (by omega) rfl
     have y3 : wr.cell? ⟨g, m * 6 + 3, none⟩ = some (.int .u16 xl) := hrow 3 _ (by omega) rfl
     have y4 : wr.cell? ⟨g, m * 6 + 4, none⟩ = some (.slice xda xzs.length xdc) := hrow 4 _ (by omega) rfl
     have y5 : wr.cell? ⟨g, m * 6 + 5, none⟩ = some (.slice xka xks.length xkc) := hrow 5 _ (by omega) rfl
     clear hrow
     go_upto_region 5 with fail
     have b5 := below_1 wr (.cells #[.int .u32 xf, .int .u8 xk, .int .u16 xm, .int .u16 xl, .slice xda xzs.length xdc, .slice xka xks.length xkc] 52)
     have h5 := heap_alloc_new wr (.cells #[.int .u32 xf, .int .u8 xk, .int .u16 xm, .int .u16 xl, .slice xda xzs.length xdc, .slice xka xks.length xkc] 52)
     have D5 := hid b5
     have x4 : (wr.alloc (.cells #[.int .u32 xf, .int .u8 xk, .int .u16 xm, .int .u16 xl, .slice xda xzs.length xdc, .slice xka xks.length xkc] 52)).cell? ⟨g, m * 6 + 4, none⟩ = some (.slice xda xzs.length xdc) := cell_later b5 y4
     have x5 : (wr.alloc (.cells #[.int .u32 xf, .int .u8 xk, .int .u16 xm, .int .u16 xl, .slice xda xzs.length xdc, .slice xka xks.length xkc] 52)).cell? ⟨g, m * 6 + 5, none⟩ = some (.slice xka xks.length xkc) := cell_later b5 y5
     have G5 : Hid ((wr.alloc (.cells #[.int .u32 xf, .int .u8 xk, .int .u16 xm, .int .u16 xl, .slice xda xzs.length xdc, .slice xka xks.length xkc] 52)).heap[g]? = some (.cells cur 52 (0, 0))) := hid ((b5.block _ hgl).trans HGG.out)
     have LW : Hid ((wr.alloc (.cells #[.int .u32 xf, .int .u8 xk, .int .u16 xm, .int .u16 xl, .slice xda xzs.length xdc, .slice xka xks.length xkc] 52)).heap.size = wr.heap.size + 1) := hid (by simp)
     clear b5 y0 y1 y2 y3 y4 y5
     generalize (wr.alloc (.cells #[.int .u32 xf, .int .u8 xk, .int .u16 xm, .int .u16 xl, .slice xda xzs.length xdc, .slice xka xks.length xkc] 52)) = V5 at *
     obtain ⟨g0, hg0⟩ : ∃ g0, g0 = wr.heap.size := ⟨_, rfl⟩
     rw [← hg0] at h5 hgl LW
     have HG0 := hid hg0
     have hne : g ≠ g0 := by omega
     have E0 : Below V5.heap.size V5 V5.drew := Below.drew (Below.refl _ _)
     have D6 := hid E0
     have O4 : ∀ w' : World, w'.heap[g0]? = some (.cells #[.int .u32 xf, .int .u8 xk, .int .u16 xm, .int .u16 xl, .slice xda xzs.length xdc, .slice xka xks.length xkc] 52 (0, 0)) → w'.cell? ⟨g0, 4, none⟩ = some (.slice xda xzs.length xdc) := fun w' h => cell_of_row2 h 4 rfl
     have O5 : ∀ w' : World, w'.heap[g0]? = some (.cells #[.int .u32 xf, .int .u8 xk, .int .u16 xm, .int .u16 xl, .slice xda xzs.length xdc, .slice xka xks.length xkc] 52 (0, 0)) → w'.cell? ⟨g0, 5, none⟩ = some (.slice xka xks.length xkc) := fun w' h => cell_of_row2 h 5 rfl
     have HX5 := hid h5
     have hS0 : V5.drew.heap[g0]? = some (.cells #[.int .u32 xf, .int .u8 xk, .int .u16 xm, .int .u16 xl, .slice xda xzs.length xdc, .slice xka xks.length xkc] 52 (0, 0)) := h5
     clear hg0 h5 E0
     rw [← HG0.out]
     go_wp2_with fail
     refine wp_region_held_drew (S := fun w' => w'.heap[g0]? = some (.cells #[.int .u32 xf, .int .u8 xk, .int .u16 xm, .int .u16 xl, .slice xda xzs.length xdc, .slice xka xks.length xkc] 52 (0, 0))) (by kernel_rfl) hS0 (fun hHeld => ?_)
     refine take_l 0 (v := ?_) rfl (by kernel_rfl) (by kernel_rfl) (by kernel_rfl) (fun _ _ _ h => h) (Or.inl ⟨by rfl, ?_⟩) (by assumption) ?_
     rotate_left
     · (intro w' hSw; clear hSw; go_simp; first | done | with_reducible rfl)
     try simp only [Act.put, List.setIfInBounds_toArray, List.set_cons_zero, List.set_cons_succ]
     refine take_l 1 (v := ?_) rfl (by kernel_rfl) (by kernel_rfl) (by kernel_rfl) (fun _ _ _ h => h) (Or.inl ⟨by rfl, ?_⟩) (by assumption) ?_
     rotate_left
     · (intro w' hSw; clear hSw; go_simp; first | done | with_reducible rfl)
     try simp only [Act.put, List.setIfInBounds_toArray, List.set_cons_zero, List.set_cons_succ]
     refine take_l 2 (v := ?_) rfl (by kernel_rfl) (by kernel_rfl) (by kernel_rfl) (fun _ _ _ h => h) (Or.inl ⟨by rfl, ?_⟩) (by assumption) ?_
     rotate_left
     · (intro w' hSw; clear hSw; go_simp; first | done | with_reducible rfl)
     try simp only [Act.put, List.setIfInBounds_toArray, List.set_cons_zero, List.set_cons_succ]
     refine take_l 3 (v := ?_) rfl (by kernel_rfl) (by kernel_rfl) (by kernel_rfl) (fun _ _ _ h => h) (Or.inl ⟨by rfl, ?_⟩) (by assumption) ?_
     rotate_left
     · (intro w' hSw; clear hSw; go_simp; first | done | with_reducible rfl)
     try simp only [Act.put, List.setIfInBounds_toArray, List.set_cons_zero, List.set_cons_succ]
     refine take_l 4 (v := ?_) rfl (by kernel_rfl) (by kernel_rfl) (by kernel_rfl) (fun _ _ _ h => h) (Or.inl ⟨by rfl, ?_⟩) (by assumption) ?_
     rotate_left
     · (intro w' hSw; clear hSw; go_simp; first | done | with_reducible rfl)
     try simp only [Act.put, List.setIfInBounds_toArray, List.set_cons_zero, List.set_cons_succ]
     refine take_l 5 (v := ?_) rfl (by kernel_rfl) (by kernel_rfl) (by kernel_rfl) (fun _ _ _ h => h) (Or.inl ⟨by rfl, ?_⟩) (by assumption) ?_
     rotate_left
     · (intro w' hSw; (have k4 := O4 _ hSw); clear hSw; go_simp; first | done | with_reducible rfl)
     try simp only [Act.put, List.setIfInBounds_toArray, List.set_cons_zero, List.set_cons_succ]
     refine take_l 7 (v := ?_) rfl (by kernel_rfl) (by kernel_rfl) (by kernel_rfl) (fun _ _ _ h => h) (Or.inl ⟨by rfl, ?_⟩) (by assumption) ?_
     rotate_left
     · (intro w' hSw; clear hSw; go_simp; first | done | with_reducible rfl)
     try simp only [Act.put, List.setIfInBounds_toArray, List.set_cons_zero, List.set_cons_succ]
     refine take_l 8 (v := ?_) rfl (by kernel_rfl) (by kernel_rfl) (by kernel_rfl) (fun _ _ _ h => h) (Or.inl ⟨by rfl, ?_⟩) (by assumption) ?_
     rotate_left
     · (intro w' hSw; (have k5 := O5 _ hSw); clear hSw; go_simp; first | done | with_reducible rfl)
     try simp only [Act.put, List.setIfInBounds_toArray, List.set_cons_zero, List.set_cons_succ]
     have PP := hid (XP.out.later (D5.out.trans (D6.out.mono D5.out.size)))
     have CB := hid (cloneB_c xda xdc xzs V5.drew PP.out.1.2.2.2.2.1 PP.out.2.1.1 PP.out.2.2.1)
     refine cons_l 6 rfl (by kernel_rfl) (fun K hK => ?_)
     go_simp
     refine CB.out.mono ?_; rintro _ w6 ⟨da1, dc1, rfl, hn6, hr6, hb6⟩
     have K6 := hid (D6.out.trans (hb6.mono D6.out.size))
     have R6 := hid hr6
     have N6 := hid hn6
     have hS6 : w6.heap[g0]? = some (.cells #[.int .u32 xf, .int .u8 xk, .int .u16 xm, .int .u16 xl, .slice xda xzs.length xdc, .slice xka xks.length xkc] 52 (0, 0)) := (hb6.block _ (lt_blkR hS0)).trans hS0
     have PQ := hid (PP.out.later hb6)
     have CK := hid (cloneK_c xka xkc xks w6 PQ.out.1.2.2.2.2.2 PQ.out.2.1.2 PQ.out.2.2.2)
     clear hn6 hr6 hb6 hS0
     go_simp
     refine hK.out _ _ hS6 (fun hHeld => ?_)
     clear hK K
     try simp only [Act.put, List.setIfInBounds_toArray, List.set_cons_zero, List.set_cons_succ]
     refine cons_l 9 rfl (by kernel_rfl) (fun K hK => ?_)
     go_simp
     refine CK.out.mono ?_; rintro _ w7 ⟨ka1, kc1, rfl, ho7, hn7, hb7⟩
     have K7 := hid (K6.out.trans (hb7.mono K6.out.size))
     have R7 := hid (R6.out.later hb7)
     have O7 := hid ho7
     have N7 := hid hn7
     have hS7 : w7.heap[g0]? = some (.cells #[.int .u32 xf, .int .u8 xk, .int .u16 xm, .int .u16 xl, .slice xda xzs.length xdc, .slice xka xks.length xkc] 52 (0, 0)) := (hb7.block _ (lt_blkR hS6)).trans hS6
     have z4 : w7.cell? ⟨g, m * 6 + 4, none⟩ = some (.slice xda xzs.length xdc) := cell_later K7.out x4
     have z5 : w7.cell? ⟨g, m * 6 + 5, none⟩ = some (.slice xka xks.length xkc) := cell_later K7.out x5
     have G7 : w7.heap[g]? = some (.cells cur 52 (0, 0)) := (K7.out.block _ (lt_blkR G5.out)).trans G5.out
     have fz : ∀ i, w7.frozen? ⟨g, i, none⟩ = false := fun i => by simp [World.frozen?, G7]
     clear ho7 hn7 hb7 hS6 x4 x5
     go_simp
     refine hK.out _ _ hS7 (fun hHeld => ?_)
     clear hK K
     try simp only [Act.put, List.setIfInBounds_toArray, List.set_cons_zero, List.set_cons_succ]
     refine take_l 10 (v := ?_) rfl (by kernel_rfl) (by kernel_rfl) (by kernel_rfl) (fun _ _ _ h => h) (Or.inl ⟨by rfl, ?_⟩) (by assumption) ?_
     rotate_left
     · (intro w' hSw; clear hSw; go_simp; first | done | with_reducible rfl)
     try simp only [Act.put, List.setIfInBounds_toArray, List.set_cons_zero, List.set_cons_succ]
     refine take_l 11 (v := ?_) rfl (by kernel_rfl) (by kernel_rfl) (by kernel_rfl) (fun _ _ _ h => h) (Or.inl ⟨by rfl, ?_⟩) (by assumption) ?_
     rotate_left
     · (intro w' hSw; clear hSw; go_simp; first | done | with_reducible rfl)
     try simp only [Act.put, List.setIfInBounds_toArray, List.set_cons_zero, List.set_cons_succ]
     refine cons_l 12 rfl (by kernel_rfl) (fun K hK => ?_)
     go_simp
     have hS8 : (w7.setCell ⟨g, m * 6 + 4, none⟩ (.slice da1 xzs.length dc1)).heap[g0]? = some (.cells #[.int .u32 xf, .int .u8 xk, .int .u16 xm, .int .u16 xl, .slice xda xzs.length xdc, .slice xka xks.length xkc] 52 (0, 0)) := (heap_setCell_other w7 ⟨g, m * 6 + 4, none⟩ g0 _ hne.symm).trans hS7
     have G8 := heap_setCell_same w7 g (m * 6 + 4) cur 52 (.slice da1 xzs.length dc1) G7
     have z5' : (w7.setCell ⟨g, m * 6 + 4, none⟩ (.slice da1 xzs.length dc1)).cell? ⟨g, m * 6 + 5, none⟩ = some (.slice xka xks.length xkc) := (World.cell?_setCell_other w7 _ _ _ (by intro e; have := congrArg Addr.off e; simp at this)).trans z5
     have fz8 : ∀ i, (w7.setCell ⟨g, m * 6 + 4, none⟩ (.slice da1 xzs.length dc1)).frozen? ⟨g, i, none⟩ = false := fun i => by simp [World.frozen?, G8]
     refine hK.out _ _ hS8 (fun hHeld => ?_)
     clear hK K
     try simp only [Act.put, List.setIfInBounds_toArray, List.set_cons_zero, List.set_cons_succ]
     refine take_l 13 (v := ?_) rfl (by kernel_rfl) (by kernel_rfl) (by kernel_rfl) (fun _ _ _ h => h) (Or.inl ⟨by rfl, ?_⟩) (by assumption) ?_
     rotate_left
     · (intro w' hSw; clear hSw; go_simp; first | done | with_reducible rfl)
     try simp only [Act.put, List.setIfInBounds_toArray, List.set_cons_zero, List.set_cons_succ]
     refine take_l 14 (v := ?_) rfl (by kernel_rfl) (by kernel_rfl) (by kernel_rfl) (fun _ _ _ h => h) (Or.inl ⟨by rfl, ?_⟩) (by assumption) ?_
     rotate_left
     · (intro w' hSw; clear hSw; go_simp; first | done | with_reducible rfl)
     try simp only [Act.put, List.setIfInBounds_toArray, List.set_cons_zero, List.set_cons_succ]
     refine cons_l 15 rfl (by kernel_rfl) (fun K hK => ?_)
     go_simp
     have hS9 : ((w7.setCell ⟨g, m * 6 + 4, none⟩ (.slice da1 xzs.length dc1)).setCell ⟨g, m * 6 + 5, none⟩ (.slice ka1 xks.length kc1)).heap[g0]? = some (.cells #[.int .u32 xf, .int .u8 xk, .int .u16 xm, .int .u16 xl, .slice xda xzs.length xdc, .slice xka xks.length xkc] 52 (0, 0)) := (heap_setCell_other _ ⟨g, m * 6 + 5, none⟩ g0 _ hne.symm).trans hS8
     refine hK.out _ _ hS9 (fun hHeld => ?_)
     clear hK K
     try simp only [Act.put, List.setIfInBounds_toArray, List.set_cons_zero, List.set_cons_succ]
     refine wpAnyH_done (by kernel_rfl) ?_ _
     have KB := hid (HB.out.trans ((D5.out.trans (K7.out.mono D5.out.size)).mono HB.out.size))
     have OP := hid (SP.out w7 ⟨xf, xk, xm, xl, da1, dc1, xzs, ka1, kc1, xks⟩ (HO.out.later (D5.out.trans (K7.out.mono D5.out.size))) rfl rfl rfl rfl)
     have EP := hid (SE.out ⟨xf, xk, xm, xl, da1, dc1, xzs, ka1, kc1, xks⟩ rfl)
     have KS : Hid (Below V.heap.size V ((w7.setCell ⟨g, m * 6 + 4, none⟩ (.slice da1 xzs.length dc1)).setCell ⟨g, m * 6 + 5, none⟩ (.slice ka1 xks.length kc1))) := hid ((KB.out.setCell (p := ⟨g, m * 6 + 4, none⟩) HGB.out _).setCell (p := ⟨g, m * 6 + 5, none⟩) HGB.out _)
     have NP : Hid (NdR ((w7.setCell ⟨g, m * 6 + 4, none⟩ (.slice da1 xzs.length dc1)).setCell ⟨g, m * 6 + 5, none⟩ (.slice ka1 xks.length kc1)) V.heap.size ⟨xf, xk, xm, xl, da1, dc1, xzs, ka1, kc1, xks⟩) := hid (by
       have hz5 := Nat.le_trans HB.out.size D5.out.size
       refine ⟨XP.out.fit, ⟨N6.out, N7.out⟩, ?_, ?_⟩
       · exact ((R7.out.lowR (Nat.le_trans hz5 D6.out.size)).setR (q := ⟨g, m * 6 + 4, none⟩) G7 (by decide) _).setR (q := ⟨g, m * 6 + 5, none⟩) G8 (by decide) _
       · have h9 := own_setQ (own_setQ O7.out (q := ⟨g, m * 6 + 4, none⟩) G7 (by decide) (.slice da1 xzs.length dc1)) (q := ⟨g, m * 6 + 5, none⟩) G8 (by decide) (.slice ka1 xks.length kc1)
         exact RowAt.own (own_low h9 (Nat.le_trans hz5 K6.out.size)) rfl (fun e => by rw [List.eq_nil_of_length_eq_zero e]; rfl))
     have NO : Hid (∀ k, k < m + 1 → NdR ((w7.setCell ⟨g, m * 6 + 4, none⟩ (.slice da1 xzs.length dc1)).setCell ⟨g, m * 6 + 5, none⟩ (.slice ka1 xks.length kc1)) V.heap.size ((L.set m ⟨xf, xk, xm, xl, da1, dc1, xzs, ka1, kc1, xks⟩).getD k Nd.no)) := hid (fun k hk => by
       by_cases q : k = m
       · subst q
         rw [show (L.set k (⟨xf, xk, xm, xl, da1, dc1, xzs, ka1, kc1, xks⟩ : Nd)).getD k Nd.no = ⟨xf, xk, xm, xl, da1, dc1, xzs, ka1, kc1, xks⟩ by simp [List.getD, hlL]]
         exact NP.out
       · rw [show (L.set m (⟨xf, xk, xm, xl, da1, dc1, xzs, ka1, kc1, xks⟩ : Nd)).getD k Nd.no = L.getD k Nd.no by simp only [List.getD, List.getElem?_set]; rw [if_neg (by omega)]]
         have h8 := (HR.out k (by omega)).later (D5.out.trans (K7.out.mono D5.out.size))
         exact ⟨h8.1, h8.2.1, (h8.2.2.1.setR (q := ⟨g, m * 6 + 4, none⟩) G7 (by decide) _).setR (q := ⟨g, m * 6 + 5, none⟩) G8 (by decide) _, (h8.2.2.2.setR (q := ⟨g, m * 6 + 4, none⟩) G7 (by decide) _).setR (q := ⟨g, m * 6 + 5, none⟩) G8 (by decide) _⟩)
     have NX : Hid (∀ k, m + 1 ≤ k → k < n → (L.set m (⟨xf, xk, xm, xl, da1, dc1, xzs, ka1, kc1, xks⟩ : Nd)).getD k Nd.no = l.getD k Nd.no) := hid (fun k h1 h2 => by
       rw [show (L.set m (⟨xf, xk, xm, xl, da1, dc1, xzs, ka1, kc1, xks⟩ : Nd)).getD k Nd.no = L.getD k Nd.no by simp only [List.getD, List.getElem?_set]; rw [if_neg (by omega)]]
       exact HX.out k (by omega) h2)
     have OL : Hid (OwN ((w7.setCell ⟨g, m * 6 + 4, none⟩ (.slice da1 xzs.length dc1)).setCell ⟨g, m * 6 + 5, none⟩ (.slice ka1 xks.length kc1)) V.heap.size (.slice (some ⟨g, 0, none⟩) (L.set m (⟨xf, xk, xm, xl, da1, dc1, xzs, ka1, kc1, xks⟩ : Nd)).length c1) (L.set m ⟨xf, xk, xm, xl, da1, dc1, xzs, ka1, kc1, xks⟩)) := hid (by rw [List.length_set]; exact OP.out)
     have LL : Hid ((L.set m (⟨xf, xk, xm, xl, da1, dc1, xzs, ka1, kc1, xks⟩ : Nd)).length = n) := hid (by rw [List.length_set]; exact HL.out)
     clear hS7 hS8 hS9 z4 z5 z5' fz fz8 G7 G8 O4 O5 hHeld
     generalize ((w7.setCell ⟨g, m * 6 + 4, none⟩ (.slice da1 xzs.length dc1)).setCell ⟨g, m * 6 + 5, none⟩ (.slice ka1 xks.length kc1)) = W9 at *
     go_wp2
     go_roundg (gk - 1)
     case measure => omega
     case rel => exact ⟨m + 1, _, by omega, by go_num, LL, EP, OL, NO, NX, KS⟩
   · have em : m = n := by omega
     subst em
     have hge : ¬ (m : Int) < m := by omega
     have BW := hid (BV.out.trans (HB.out.mono (by have := LV.out; omega)))
     have hb1 := (HB.out.block _ (lt_blkR HB1.out)).trans HB1.out
     have hr1 := (HB.out.block _ (lt_blkR HR1.out)).trans HR1.out
     have s1 : wr.cell? ⟨w.heap.size, 1, none⟩ = some (.slice (some bd) ss.length cb) := cell_of_row2 hb1 1 rfl
     have HR2 := hid hr1
     have CS := hid (cloneSt_c bd cb ss wr (HS.out.later BW.out) (by omega))
     clear hb1 hr1
     go_wp2_with (go_at_call 48; refine CS.out.mono ?_; rintro _ w2 ⟨v2, rfl, ho2, hb2⟩; obtain ⟨a2, n2, c2, rfl⟩ := own_sliceY ho2; have O2 := hid ho2; have B2 := hid hb2; have R2 := (hb2.block _ (lt_blkR HR2.out)).trans HR2.out; have r0 : w2.cell? ⟨w.heap.size + 1, 0, none⟩ = some (.slice none 0 0) := cell_of_row2 R2 0 rfl; have r1 : w2.cell? ⟨w.heap.size + 1, 1, none⟩ = some (.slice none 0 0) := cell_of_row2 R2 1 rfl; have fz : ∀ i, w2.frozen? ⟨w.heap.size + 1, i, none⟩ = false := fun i => (by simp [World.frozen?, R2]); clear ho2 hb2)
     have Q9 := two_cells R2 (.slice a1 m c1) (.slice a2 n2 c2)
     have B9 := hid (((BW.out.trans (B2.out.mono BW.out.size)).setCell (p := ⟨w.heap.size + 1, 0, none⟩) (Nat.le_succ _) (.slice a1 m c1)).setCell (p := ⟨w.heap.size + 1, 1, none⟩) (Nat.le_succ _) (.slice a2 n2 c2))
     have G9 := heap_setCell_same w2 (w.heap.size + 1) 0 _ _ (.slice a1 m c1) R2
     have hzV : w.heap.size ≤ V.heap.size := by have := LV.out; omega
     have O9 : Hid (OwN ((w2.setCell ⟨w.heap.size + 1, 0, none⟩ (.slice a1 m c1)).setCell ⟨w.heap.size + 1, 1, none⟩ (.slice a2 n2 c2)) w.heap.size (.slice a1 m c1) L) := hid (by
       have h9 := own_setQ (own_setQ (HO.out.later B2.out) (q := ⟨w.heap.size + 1, 0, none⟩) R2 (by decide) (.slice a1 m c1)) (q := ⟨w.heap.size + 1, 1, none⟩) G9 (by decide) (.slice a2 n2 c2)
       rw [HL.out] at h9
       unfold OwN
       rw [HL.out]
       exact own_low h9 hzV)
     have T9 : Hid (OwT ((w2.setCell ⟨w.heap.size + 1, 0, none⟩ (.slice a1 m c1)).setCell ⟨w.heap.size + 1, 1, none⟩ (.slice a2 n2 c2)) w.heap.size (.slice a2 n2 c2) ss) := hid (own_low (own_setQ (own_setQ O2.out (q := ⟨w.heap.size + 1, 0, none⟩) R2 (by decide) (.slice a1 m c1)) (q := ⟨w.heap.size + 1, 1, none⟩) G9 (by decide) (.slice a2 n2 c2)) BW.out.size)
     have N9 : Hid (∀ x ∈ L, NdR ((w2.setCell ⟨w.heap.size + 1, 0, none⟩ (.slice a1 m c1)).setCell ⟨w.heap.size + 1, 1, none⟩ (.slice a2 n2 c2)) w.heap.size x) := hid (fun x hx => by
       obtain ⟨k, hk, rfl⟩ := List.getElem_of_mem hx
       have h7 := HR.out k (by have := HL.out; omega)
       rw [show L.getD k Nd.no = L[k] by simp [List.getD, List.getElem?_eq_getElem hk]] at h7
       have h8 := (h7.later B2.out).low hzV
       exact ⟨h8.1, h8.2.1, (h8.2.2.1.setR (q := ⟨w.heap.size + 1, 0, none⟩) R2 (by decide) _).setR (q := ⟨w.heap.size + 1, 1, none⟩) G9 (by decide) _, (h8.2.2.2.setR (q := ⟨w.heap.size + 1, 0, none⟩) R2 (by decide) _).setR (q := ⟨w.heap.size + 1, 1, none⟩) G9 (by decide) _⟩)
     clear r0 r1 fz R2 G9
     generalize ((w2.setCell ⟨w.heap.size + 1, 0, none⟩ (.slice a1 m c1)).setCell ⟨w.heap.size + 1, 1, none⟩ (.slice a2 n2 c2)) = W9 at *
     have r0 : W9.cell? ⟨w.heap.size + 1, 0, none⟩ = some (.slice a1 m c1) := cell_of_row2 Q9 0 rfl
     have r1 : W9.cell? ⟨w.heap.size + 1, 1, none⟩ = some (.slice a2 n2 c2) := cell_of_row2 Q9 1 rfl
     refine bodyPost_ret (v := .agg #[.slice a1 m c1, .slice a2 n2 c2]) (by simp [results, Tryz.results23, go_sem, r0, r1]) rfl ⟨_, _, L, rfl, O9.out, HE.out, N9.out, T9.out, B9.out⟩
theorem seven_cells {W : World} {A T : Nat} {u0 u1 u2 u3 u4 u5 u6 : Value} (h : W.heap[A]? = some (.cells #[u0, u1, u2, u3, u4, u5, u6] T (0, 0))) (v0 v1 v2 v3 v4 v5 v6 : Value) :
   (((((((W.setCell ⟨A, 0, none⟩ (v0)).setCell ⟨A, 1, none⟩ (v1)).setCell ⟨A, 2, none⟩ (v2)).setCell ⟨A, 3, none⟩ (v3)).setCell ⟨A, 4, none⟩ (v4)).setCell ⟨A, 5, none⟩ (v5)).setCell ⟨A, 6, none⟩ (v6)).heap[A]? = some (.cells #[v0, v1, v2, v3, v4, v5, v6] T (0, 0)) := by
 simp only [World.setCell]
 simp [Array.getElem?_modify, h]
set_option maxHeartbeats 4000000 in
theorem firstState_c (w : World) : Calls Tryz.prog 38 #[] w fun e w' => ∃ g s, e = .returned (.agg #[.slice (some ⟨g, 0, none⟩) 1 1, .slice (some ⟨s, 0, none⟩) 1 1, .int .u64 1, .int .u32 0, .int .u32 0, .int .u32 0, .slice none 0 0]) ∧ w.heap.size ≤ g ∧ w.heap.size ≤ s ∧ w'.heap[g]? = some (.cells #[.int .u32 1, .int .u8 2, .int .u16 0, .int .u16 0, .slice none 0 0, .slice none 0 0] 52 (0, 0)) ∧ w'.heap[s]? = some (.cells #[.int .u32 1, .int .u64 1, .int .u8 0] 47 (0, 0)) ∧ Below w.heap.size w w' := by
 have FC := hid (fun W => firstSnap_c W)
 have b1 := below_1 w (.cells #[.slice none 0 0, .slice none 0 0, .int .u64 0, .int .u32 0, .int .u32 0, .int .u32 0, .slice none 0 0] 76)
 have hR := heap_alloc_new w (.cells #[.slice none 0 0, .slice none 0 0, .int .u64 0, .int .u32 0, .int .u32 0, .int .u32 0, .slice none 0 0] 76)
 have B1 := hid b1
 have HR : Hid (∀ W, Below (w.alloc (.cells #[.slice none 0 0, .slice none 0 0, .int .u64 0, .int .u32 0, .int .u32 0, .int .u32 0, .slice none 0 0] 76)).heap.size (w.alloc (.cells #[.slice none 0 0, .slice none 0 0, .int .u64 0, .int .u32 0, .int .u32 0, .int .u32 0, .slice none 0 0] 76)) W → W.heap[w.heap.size]? = some (.cells #[.slice none 0 0, .slice none 0 0, .int .u64 0, .int .u32 0, .int .u32 0, .int .u32 0, .slice none 0 0] 76 (0, 0))) := hid (fun W h => (h.block _ (lt_blkR hR)).trans hR)
 have SZ : Hid ((w.alloc (.cells #[.slice none 0 0, .slice none 0 0, .int .u64 0, .int .u32 0, .int .u32 0, .int .u32 0, .slice none 0 0] 76)).heap.size = w.heap.size + 1) := hid (by simp)
 clear b1 hR
 go_enter Tryz.func38, Tryz.ntmps38
 go_wp2_with (go_at_call 62; refine (FC.out _).mono ?_; rintro _ w1 ⟨g, s, rfl, hg, hs, rg, rs, hb1⟩; have D1 := hid hb1; have HG := hid hg; have HS := hid hs; have RG := hid rg; have RS := hid rs; have R1 := HR.out _ hb1; have r0 : w1.cell? ⟨w.heap.size, 0, none⟩ = some (.slice none 0 0) := cell_of_row2 R1 0 rfl; have r1 : w1.cell? ⟨w.heap.size, 1, none⟩ = some (.slice none 0 0) := cell_of_row2 R1 1 rfl; have r2 : w1.cell? ⟨w.heap.size, 2, none⟩ = some (.int .u64 0) := cell_of_row2 R1 2 rfl; have r3 : w1.cell? ⟨w.heap.size, 3, none⟩ = some (.int .u32 0) := cell_of_row2 R1 3 rfl; have r4 : w1.cell? ⟨w.heap.size, 4, none⟩ = some (.int .u32 0) := cell_of_row2 R1 4 rfl; have r5 : w1.cell? ⟨w.heap.size, 5, none⟩ = some (.int .u32 0) := cell_of_row2 R1 5 rfl; have r6 : w1.cell? ⟨w.heap.size, 6, none⟩ = some (.slice none 0 0) := cell_of_row2 R1 6 rfl; have fz : ∀ i, w1.frozen? ⟨w.heap.size, i, none⟩ = false := fun i => (by simp [World.frozen?, R1]); clear hg hs rg rs hb1)
 have Q9 := seven_cells R1 (.slice (some ⟨g, 0, none⟩) 1 1) (.slice (some ⟨s, 0, none⟩) 1 1) (.int .u64 1) (.int .u32 0) (.int .u32 0) (.int .u32 0) (.slice none 0 0)
 have sz := SZ.out
 have lg := HG.out
 have ls := HS.out
 rw [sz] at lg ls
 have X1 := hid ((Below.heap_setCell ((((((w1.setCell ⟨w.heap.size, 0, none⟩ (.slice (some ⟨g, 0, none⟩) 1 1)).setCell ⟨w.heap.size, 1, none⟩ (.slice (some ⟨s, 0, none⟩) 1 1)).setCell ⟨w.heap.size, 2, none⟩ (.int .u64 1)).setCell ⟨w.heap.size, 3, none⟩ (.int .u32 0)).setCell ⟨w.heap.size, 4, none⟩ (.int .u32 0)).setCell ⟨w.heap.size, 5, none⟩ (.int .u32 0)) ⟨w.heap.size, 6, none⟩ (.slice none 0 0) g (by simp; omega)).trans ((Below.heap_setCell (((((w1.setCell ⟨w.heap.size, 0, none⟩ (.slice (some ⟨g, 0, none⟩) 1 1)).setCell ⟨w.heap.size, 1, none⟩ (.slice (some ⟨s, 0, none⟩) 1 1)).setCell ⟨w.heap.size, 2, none⟩ (.int .u64 1)).setCell ⟨w.heap.size, 3, none⟩ (.int .u32 0)).setCell ⟨w.heap.size, 4, none⟩ (.int .u32 0)) ⟨w.heap.size, 5, none⟩ (.int .u32 0) g (by simp; omega)).trans ((Below.heap_setCell ((((w1.setCell ⟨w.heap.size, 0, none⟩ (.slice (some ⟨g, 0, none⟩) 1 1)).setCell ⟨w.heap.size, 1, none⟩ (.slice (some ⟨s, 0, none⟩) 1 1)).setCell ⟨w.heap.size, 2, none⟩ (.int .u64 1)).setCell ⟨w.heap.size, 3, none⟩ (.int .u32 0)) ⟨w.heap.size, 4, none⟩ (.int .u32 0) g (by simp; omega)).trans ((Below.heap_setCell (((w1.setCell ⟨w.heap.size, 0, none⟩ (.slice (some ⟨g, 0, none⟩) 1 1)).setCell ⟨w.heap.size, 1, none⟩ (.slice (some ⟨s, 0, none⟩) 1 1)).setCell ⟨w.heap.size, 2, none⟩ (.int .u64 1)) ⟨w.heap.size, 3, none⟩ (.int .u32 0) g (by simp; omega)).trans ((Below.heap_setCell ((w1.setCell ⟨w.heap.size, 0, none⟩ (.slice (some ⟨g, 0, none⟩) 1 1)).setCell ⟨w.heap.size, 1, none⟩ (.slice (some ⟨s, 0, none⟩) 1 1)) ⟨w.heap.size, 2, none⟩ (.int .u64 1) g (by simp; omega)).trans ((Below.heap_setCell (w1.setCell ⟨w.heap.size, 0, none⟩ (.slice (some ⟨g, 0, none⟩) 1 1)) ⟨w.heap.size, 1, none⟩ (.slice (some ⟨s, 0, none⟩) 1 1) g (by simp; omega)).trans ((Below.heap_setCell w1 ⟨w.heap.size, 0, none⟩ (.slice (some ⟨g, 0, none⟩) 1 1) g (by simp; omega)).trans RG.out)))))))
 have X2 := hid ((Below.heap_setCell ((((((w1.setCell ⟨w.heap.size, 0, none⟩ (.slice (some ⟨g, 0, none⟩) 1 1)).setCell ⟨w.heap.size, 1, none⟩ (.slice (some ⟨s, 0, none⟩) 1 1)).setCell ⟨w.heap.size, 2, none⟩ (.int .u64 1)).setCell ⟨w.heap.size, 3, none⟩ (.int .u32 0)).setCell ⟨w.heap.size, 4, none⟩ (.int .u32 0)).setCell ⟨w.heap.size, 5, none⟩ (.int .u32 0)) ⟨w.heap.size, 6, none⟩ (.slice none 0 0) s (by simp; omega)).trans ((Below.heap_setCell (((((w1.setCell ⟨w.heap.size, 0, none⟩ (.slice (some ⟨g, 0, none⟩) 1 1)).setCell ⟨w.heap.size, 1, none⟩ (.slice (some ⟨s, 0, none⟩) 1 1)).setCell ⟨w.heap.size, 2, none⟩ (.int .u64 1)).setCell ⟨w.heap.size, 3, none⟩ (.int .u32 0)).setCell ⟨w.heap.size, 4, none⟩ (.int .u32 0)) ⟨w.heap.size, 5, none⟩ (.int .u32 0) s (by simp; omega)).trans ((Below.heap_setCell ((((w1.setCell ⟨w.heap.size, 0, none⟩ (.slice (some ⟨g, 0, none⟩) 1 1)).setCell ⟨w.heap.size, 1, none⟩ (.slice (some ⟨s, 0, none⟩) 1 1)).setCell ⟨w.heap.size, 2, none⟩ (.int .u64 1)).setCell ⟨w.heap.size, 3, none⟩ (.int .u32 0)) ⟨w.heap.size, 4, none⟩ (.int .u32 0) s (by simp; omega)).trans ((Below.heap_setCell (((w1.setCell ⟨w.heap.size, 0, none⟩ (.slice (some ⟨g, 0, none⟩) 1 1)).setCell ⟨w.heap.size, 1, none⟩ (.slice (some ⟨s, 0, none⟩) 1 1)).setCell ⟨w.heap.size, 2, none⟩ (.int .u64 1)) ⟨w.heap.size, 3, none⟩ (.int .u32 0) s (by simp; omega)).trans ((Below.heap_setCell ((w1.setCell ⟨w.heap.size, 0, none⟩ (.slice (some ⟨g, 0, none⟩) 1 1)).setCell ⟨w.heap.size, 1, none⟩ (.slice (some ⟨s, 0, none⟩) 1 1)) ⟨w.heap.size, 2, none⟩ (.int .u64 1) s (by simp; omega)).trans ((Below.heap_setCell (w1.setCell ⟨w.heap.size, 0, none⟩ (.slice (some ⟨g, 0, none⟩) 1 1)) ⟨w.heap.size, 1, none⟩ (.slice (some ⟨s, 0, none⟩) 1 1) s (by simp; omega)).trans ((Below.heap_setCell w1 ⟨w.heap.size, 0, none⟩ (.slice (some ⟨g, 0, none⟩) 1 1) s (by simp; omega)).trans RS.out)))))))
 have B9 := hid ((((((((B1.out.trans (D1.out.mono B1.out.size)).setCell (p := ⟨w.heap.size, 0, none⟩) (Nat.le_refl _) (.slice (some ⟨g, 0, none⟩) 1 1)).setCell (p := ⟨w.heap.size, 1, none⟩) (Nat.le_refl _) (.slice (some ⟨s, 0, none⟩) 1 1)).setCell (p := ⟨w.heap.size, 2, none⟩) (Nat.le_refl _) (.int .u64 1)).setCell (p := ⟨w.heap.size, 3, none⟩) (Nat.le_refl _) (.int .u32 0)).setCell (p := ⟨w.heap.size, 4, none⟩) (Nat.le_refl _) (.int .u32 0)).setCell (p := ⟨w.heap.size, 5, none⟩) (Nat.le_refl _) (.int .u32 0)).setCell (p := ⟨w.heap.size, 6, none⟩) (Nat.le_refl _) (.slice none 0 0))
 clear r0 r1 r2 r3 r4 r5 r6 fz R1
 generalize (((((((w1.setCell ⟨w.heap.size, 0, none⟩ (.slice (some ⟨g, 0, none⟩) 1 1)).setCell ⟨w.heap.size, 1, none⟩ (.slice (some ⟨s, 0, none⟩) 1 1)).setCell ⟨w.heap.size, 2, none⟩ (.int .u64 1)).setCell ⟨w.heap.size, 3, none⟩ (.int .u32 0)).setCell ⟨w.heap.size, 4, none⟩ (.int .u32 0)).setCell ⟨w.heap.size, 5, none⟩ (.int .u32 0)).setCell ⟨w.heap.size, 6, none⟩ (.slice none 0 0)) = W9 at *
 have r0 : W9.cell? ⟨w.heap.size, 0, none⟩ = some (.slice (some ⟨g, 0, none⟩) 1 1) := cell_of_row2 Q9 0 rfl
 have r1 : W9.cell? ⟨w.heap.size, 1, none⟩ = some (.slice (some ⟨s, 0, none⟩) 1 1) := cell_of_row2 Q9 1 rfl
 have r2 : W9.cell? ⟨w.heap.size, 2, none⟩ = some (.int .u64 1) := cell_of_row2 Q9 2 rfl
 have r3 : W9.cell? ⟨w.heap.size, 3, none⟩ = some (.int .u32 0) := cell_of_row2 Q9 3 rfl
 have r4 : W9.cell? ⟨w.heap.size, 4, none⟩ = some (.int .u32 0) := cell_of_row2 Q9 4 rfl
 have r5 : W9.cell? ⟨w.heap.size, 5, none⟩ = some (.int .u32 0) := cell_of_row2 Q9 5 rfl
 have r6 : W9.cell? ⟨w.heap.size, 6, none⟩ = some (.slice none 0 0) := cell_of_row2 Q9 6 rfl
 refine bodyPost_ret (v := .agg #[.slice (some ⟨g, 0, none⟩) 1 1, .slice (some ⟨s, 0, none⟩) 1 1, .int .u64 1, .int .u32 0, .int .u32 0, .int .u32 0, .slice none 0 0]) (by simp [results, Tryz.results38, go_sem, r0, r1, r2, r3, r4, r5, r6]) rfl ⟨g, s, rfl, by omega, by omega, X1.out, X2.out, B9.out⟩
theorem two_cells2 {W : World} {A T : Nat} {u0 u1 u2 u3 u4 u5 u6 : Value} (h : W.heap[A]? = some (.cells #[u0, u1, u2, u3, u4, u5, u6] T (0, 0))) (v0 v1 : Value) :
   ((W.setCell ⟨A, 0, none⟩ v0).setCell ⟨A, 1, none⟩ v1).heap[A]? = some (.cells #[v0, v1, u2, u3, u4, u5, u6] T (0, 0)) := by
 simp only [World.setCell]
 simp [Array.getElem?_modify, h]
set_option maxHeartbeats 1000000 in
theorem cloneV_nil (w : World) : Calls Tryz.prog 24 #[.slice none 0 0] w fun e w' => e = .returned (.slice none 0 0) ∧ w' = w := by
 have hq : ∀ w, (binOp .eql 55 (.slice none 0 0) (.slice none 0 0)).run Tryz.prog w = .ok (.bool true) w := fun w => Lib.run_eql_slice_nil w _ _ _ _ _ _ _ Tryz.underlying55
 go_enter Tryz.func24, Tryz.ntmps24
 go_wp2
 go_ret
 exact ⟨rfl, rfl⟩
set_option maxHeartbeats 8000000 in
theorem copied_c (p j : Nat) (ad bd : Addr) (ca cb : Nat) (l : List Nd) (ss : List St) (ver d0 d1 d2 : Int) (w : World) (hrow : w.heap[p]? = some (.cells #[pB j, .slice (some ad) l.length ca, .slice (some bd) ss.length cb, .int .u64 ver, .int .u32 d0, .int .u32 d1, .int .u32 d2, .slice none 0 0] 79 (0, 0))) (h : Tr w (some ad) l) (hs : IsSs w (some bd) ss) (hm : l.length ≤ 900) (hm' : ss.length ≤ 900) :
   Calls Tryz.prog 34 #[.pointer (some ⟨p, 1, none⟩)] w fun e w' => ∃ v u L, e = .returned (.agg #[v, u, .int .u64 ver, .int .u32 d0, .int .u32 d1, .int .u32 d2, .slice none 0 0]) ∧ OwN w' w.heap.size v L ∧ L.map Nd.er = l.map Nd.er ∧ (∀ x ∈ L, NdR w' w.heap.size x) ∧ OwT w' w.heap.size u ss ∧ Below w.heap.size w w' := by
 have k1 : w.cell? ⟨p, 1, none⟩ = some (.slice (some ad) l.length ca) := cell_of_row2 hrow 1 rfl
 have k2 : w.cell? ⟨p, 2, none⟩ = some (.slice (some bd) ss.length cb) := cell_of_row2 hrow 2 rfl
 have k3 : w.cell? ⟨p, 3, none⟩ = some (.int .u64 ver) := cell_of_row2 hrow 3 rfl
 have k4 : w.cell? ⟨p, 4, none⟩ = some (.int .u32 d0) := cell_of_row2 hrow 4 rfl
 have k5 : w.cell? ⟨p, 5, none⟩ = some (.int .u32 d1) := cell_of_row2 hrow 5 rfl
 have k6 : w.cell? ⟨p, 6, none⟩ = some (.int .u32 d2) := cell_of_row2 hrow 6 rfl
 have k7 : w.cell? ⟨p, 7, none⟩ = some (.slice none 0 0) := cell_of_row2 hrow 7 rfl
 have hpl : p < w.heap.size := lt_blkR hrow
 have HROW := hid hrow
 have HT := hid h
 have HS := hid hs
 have b1 := below_1 w (.cells #[.slice none 0 0, .slice none 0 0, .int .u64 0, .int .u32 0, .int .u32 0, .int .u32 0, .slice none 0 0] 76)
 have g1 := heap_alloc_new w (.cells #[.slice none 0 0, .slice none 0 0, .int .u64 0, .int .u32 0, .int .u32 0, .int .u32 0, .slice none 0 0] 76)
 have b2 := below_1 (w.alloc (.cells #[.slice none 0 0, .slice none 0 0, .int .u64 0, .int .u32 0, .int .u32 0, .int .u32 0, .slice none 0 0] 76)) (.cells #[.slice (some ad) l.length ca, .slice (some bd) ss.length cb, .int .u64 ver, .int .u32 d0, .int .u32 d1, .int .u32 d2, .slice none 0 0] 76)
 have g2 := heap_alloc_new (w.alloc (.cells #[.slice none 0 0, .slice none 0 0, .int .u64 0, .int .u32 0, .int .u32 0, .int .u32 0, .slice none 0 0] 76)) (.cells #[.slice (some ad) l.length ca, .slice (some bd) ss.length cb, .int .u64 ver, .int .u32 d0, .int .u32 d1, .int .u32 d2, .slice none 0 0] 76)
 rw [show (w.alloc (.cells #[.slice none 0 0, .slice none 0 0, .int .u64 0, .int .u32 0, .int .u32 0, .int .u32 0, .slice none 0 0] 76)).heap.size = w.heap.size + 1 by simp] at g2
 have g1' := (b2.block _ (lt_blkR g1)).trans g1
 have BV := hid (b1.trans (b2.mono b1.size))
 have LV : Hid (((w.alloc (.cells #[.slice none 0 0, .slice none 0 0, .int .u64 0, .int .u32 0, .int .u32 0, .int .u32 0, .slice none 0 0] 76)).alloc (.cells #[.slice (some ad) l.length ca, .slice (some bd) ss.length cb, .int .u64 ver, .int .u32 d0, .int .u32 d1, .int .u32 d2, .slice none 0 0] 76)).heap.size = w.heap.size + 2) := hid (by simp)
 clear b2 g1 h hs hrow
 go_enter Tryz.func34, Tryz.ntmps34
 go_upto_region 1 with fail
 have m1 : (w.alloc (.cells #[.slice none 0 0, .slice none 0 0, .int .u64 0, .int .u32 0, .int .u32 0, .int .u32 0, .slice none 0 0] 76)).cell? ⟨p, 1, none⟩ = some (.slice (some ad) l.length ca) := cell_later b1 k1
 have m2 : (w.alloc (.cells #[.slice none 0 0, .slice none 0 0, .int .u64 0, .int .u32 0, .int .u32 0, .int .u32 0, .slice none 0 0] 76)).cell? ⟨p, 2, none⟩ = some (.slice (some bd) ss.length cb) := cell_later b1 k2
 have m3 : (w.alloc (.cells #[.slice none 0 0, .slice none 0 0, .int .u64 0, .int .u32 0, .int .u32 0, .int .u32 0, .slice none 0 0] 76)).cell? ⟨p, 3, none⟩ = some (.int .u64 ver) := cell_later b1 k3
 have m4 : (w.alloc (.cells #[.slice none 0 0, .slice none 0 0, .int .u64 0, .int .u32 0, .int .u32 0, .int .u32 0, .slice none 0 0] 76)).cell? ⟨p, 4, none⟩ = some (.int .u32 d0) := cell_later b1 k4
 have m5 : (w.alloc (.cells #[.slice none 0 0, .slice none 0 0, .int .u64 0, .int .u32 0, .int .u32 0, .int .u32 0, .slice none 0 0] 76)).cell? ⟨p, 5, none⟩ = some (.int .u32 d1) := cell_later b1 k5
 have m6 : (w.alloc (.cells #[.slice none 0 0, .slice none 0 0, .int .u64 0, .int .u32 0, .int .u32 0, .int .u32 0, .slice none 0 0] 76)).cell? ⟨p, 6, none⟩ = some (.int .u32 d2) := cell_later b1 k6
 have m7 : (w.alloc (.cells #[.slice none 0 0, .slice none 0 0, .int .u64 0, .int .u32 0, .int .u32 0, .int .u32 0, .slice none 0 0] 76)).cell? ⟨p, 7, none⟩ = some (.slice none 0 0) := cell_later b1 k7
 clear k1 k2 k3 k4 k5 k6 k7 b1
 have z1 : (w.alloc (.cells #[.slice none 0 0, .slice none 0 0, .int .u64 0, .int .u32 0, .int .u32 0, .int .u32 0, .slice none 0 0] 76)).heap.size = w.heap.size + 1 := by simp
 generalize (w.alloc (.cells #[.slice none 0 0, .slice none 0 0, .int .u64 0, .int .u32 0, .int .u32 0, .int .u32 0, .slice none 0 0] 76)) = V1 at *
 go_upto_region 2 with fail
 clear m1 m2 m3 m4 m5 m6 m7
 generalize (V1.alloc (.cells #[.slice (some ad) l.length ca, .slice (some bd) ss.length cb, .int .u64 ver, .int .u32 d0, .int .u32 d1, .int .u32 d2, .slice none 0 0] 76)) = V at *
 clear z1
 have HZ := hid g1'
 have HR := hid g2
 have hp2 := (BV.out.block p hpl).trans HROW.out
 have m1 : V.cell? ⟨p, 1, none⟩ = some (.slice (some ad) l.length ca) := cell_of_row2 hp2 1 rfl
 have m2 : V.cell? ⟨p, 2, none⟩ = some (.slice (some bd) ss.length cb) := cell_of_row2 hp2 2 rfl
 have CS := hid (copySnap_c ad bd ca cb l ss V (HT.out.later BV.out) (HS.out.later BV.out) hm hm')
 clear g1' g2 hp2
 go_upto_region 3 with (go_at_call 23; refine CS.out.mono ?_; rintro _ w1 ⟨v1, u1, L, rfl, ho1, he1, hn1, ht1, hb1⟩; obtain ⟨va, vc, rfl⟩ := OwN.shape ho1; obtain ⟨ua, un, uc, rfl⟩ := own_sliceY ht1; have O1 := hid ho1; have E1 := hid he1; have N1 := hid hn1; have T1 := hid ht1; have B1 := hid hb1; have R1 := (hb1.block _ (lt_blkR HR.out)).trans HR.out; have q0 : w1.cell? ⟨w.heap.size + 1, 0, none⟩ = some (.slice (some ad) l.length ca) := cell_of_row2 R1 0 rfl; have q1 : w1.cell? ⟨w.heap.size + 1, 1, none⟩ = some (.slice (some bd) ss.length cb) := cell_of_row2 R1 1 rfl; have fz : ∀ i, w1.frozen? ⟨w.heap.size + 1, i, none⟩ = false := fun i => (by simp [World.frozen?, R1]); clear ho1 he1 hn1 ht1 hb1)
 obtain ⟨vn, hvn⟩ : ∃ vn, vn = L.length := ⟨_, rfl⟩
 rw [← hvn]
 have HVN := hid hvn
 clear hvn m1 m2
 have R2 := two_cells2 R1 (.slice va vn vc) (.slice ua un uc)
 have S1 := heap_setCell_same w1 (w.heap.size + 1) 0 _ _ (.slice va vn vc) R1
 have LW : Hid (w.heap.size ≤ V.heap.size) := hid (by have := LV.out; omega)
 have KW : Hid (w.heap.size + 1 < V.heap.size) := hid (by have := LV.out; omega)
 have B2 : Hid (Below w.heap.size w ((w1.setCell ⟨w.heap.size + 1, 0, none⟩ (.slice va vn vc)).setCell ⟨w.heap.size + 1, 1, none⟩ (.slice ua un uc))) := hid (((BV.out.trans (B1.out.mono LW.out)).setCell (p := ⟨w.heap.size + 1, 0, none⟩) (Nat.le_succ _) _).setCell (p := ⟨w.heap.size + 1, 1, none⟩) (Nat.le_succ _) _)
 have K2 : Hid (KeepB V.heap.size w1 ((w1.setCell ⟨w.heap.size + 1, 0, none⟩ (.slice va vn vc)).setCell ⟨w.heap.size + 1, 1, none⟩ (.slice ua un uc))) := hid (((KeepB.stay (Stay.refl w1)).set KW.out).set KW.out)
 have hp3 := (B2.out.block p hpl).trans HROW.out
 have Z2 : Hid (((w1.setCell ⟨w.heap.size + 1, 0, none⟩ (.slice va vn vc)).setCell ⟨w.heap.size + 1, 1, none⟩ (.slice ua un uc)).heap[w.heap.size]? = some (.cells #[.slice none 0 0, .slice none 0 0, .int .u64 0, .int .u32 0, .int .u32 0, .int .u32 0, .slice none 0 0] 76 (0, 0))) := hid (by
   rw [heap_setCell_other _ _ w.heap.size _ (by show w.heap.size ≠ w.heap.size + 1; omega), heap_setCell_other _ _ w.heap.size _ (by show w.heap.size ≠ w.heap.size + 1; omega)]
   exact (B1.out.block _ (lt_blkR HZ.out)).trans HZ.out)
 clear q0 q1 fz R1 S1
 generalize ((w1.setCell ⟨w.heap.size + 1, 0, none⟩ (.slice va vn vc)).setCell ⟨w.heap.size + 1, 1, none⟩ (.slice ua un uc)) = w2 at *
 have m7 : w2.cell? ⟨p, 7, none⟩ = some (.slice none 0 0) := cell_of_row2 hp3 7 rfl
 have q6 : w2.cell? ⟨w.heap.size + 1, 6, none⟩ = some (.slice none 0 0) := cell_of_row2 R2 6 rfl
 have fz : ∀ i, w2.frozen? ⟨w.heap.size + 1, i, none⟩ = false := fun i => by simp [World.frozen?, R2]
 have HR2 := hid R2
 clear hp3 R2
 go_upto_region 4 with (go_at_call 24; refine (cloneV_nil _).mono ?_; rintro _ wz ⟨rfl, hwz⟩; rw [hwz]; clear hwz)
 have R3 := heap_setCell_same w2 (w.heap.size + 1) 6 _ _ (.slice none 0 0) HR2.out
 have Z3 : (w2.setCell ⟨w.heap.size + 1, 6, none⟩ (.slice none 0 0)).heap[w.heap.size]? = some (.cells #[.slice none 0 0, .slice none 0 0, .int .u64 0, .int .u32 0, .int .u32 0, .int .u32 0, .slice none 0 0] 76 (0, 0)) := (heap_setCell_other _ ⟨w.heap.size + 1, 6, none⟩ w.heap.size _ (by show w.heap.size ≠ w.heap.size + 1; omega)).trans Z2.out
 have B3 := hid (B2.out.setCell (p := ⟨w.heap.size + 1, 6, none⟩) (Nat.le_succ _) (.slice none 0 0))
 have K3 := hid (K2.out.set (o := 6) (v := .slice none 0 0) KW.out)
 clear m7 q6 fz
 generalize (w2.setCell ⟨w.heap.size + 1, 6, none⟩ (.slice none 0 0)) = w3 at *
 have q0 : w3.cell? ⟨w.heap.size + 1, 0, none⟩ = some (.slice va vn vc) := cell_of_row2 R3 0 rfl
 have q1 : w3.cell? ⟨w.heap.size + 1, 1, none⟩ = some (.slice ua un uc) := cell_of_row2 R3 1 rfl
 have q2 : w3.cell? ⟨w.heap.size + 1, 2, none⟩ = some (.int .u64 ver) := cell_of_row2 R3 2 rfl
 have q3 : w3.cell? ⟨w.heap.size + 1, 3, none⟩ = some (.int .u32 d0) := cell_of_row2 R3 3 rfl
 have q4 : w3.cell? ⟨w.heap.size + 1, 4, none⟩ = some (.int .u32 d1) := cell_of_row2 R3 4 rfl
 have q5 : w3.cell? ⟨w.heap.size + 1, 5, none⟩ = some (.int .u32 d2) := cell_of_row2 R3 5 rfl
 have q6 : w3.cell? ⟨w.heap.size + 1, 6, none⟩ = some (.slice none 0 0) := cell_of_row2 R3 6 rfl
 have r0 : w3.cell? ⟨w.heap.size, 0, none⟩ = some (.slice none 0 0) := cell_of_row2 Z3 0 rfl
 have r1 : w3.cell? ⟨w.heap.size, 1, none⟩ = some (.slice none 0 0) := cell_of_row2 Z3 1 rfl
 have r2 : w3.cell? ⟨w.heap.size, 2, none⟩ = some (.int .u64 0) := cell_of_row2 Z3 2 rfl
 have r3 : w3.cell? ⟨w.heap.size, 3, none⟩ = some (.int .u32 0) := cell_of_row2 Z3 3 rfl
 have r4 : w3.cell? ⟨w.heap.size, 4, none⟩ = some (.int .u32 0) := cell_of_row2 Z3 4 rfl
 have r5 : w3.cell? ⟨w.heap.size, 5, none⟩ = some (.int .u32 0) := cell_of_row2 Z3 5 rfl
 have r6 : w3.cell? ⟨w.heap.size, 6, none⟩ = some (.slice none 0 0) := cell_of_row2 Z3 6 rfl
 have fz : ∀ i, w3.frozen? ⟨w.heap.size, i, none⟩ = false := fun i => by simp [World.frozen?, Z3]
 have HZ3 := hid Z3
 clear R3 Z3
 go_wp2
 have Q9 := seven_cells HZ3.out (.slice va vn vc) (.slice ua un uc) (.int .u64 ver) (.int .u32 d0) (.int .u32 d1) (.int .u32 d2) (.slice none 0 0)
 have LZ : w.heap.size < V.heap.size := by have := LV.out; omega
 have B9 := hid (((((((B3.out.setCell (p := ⟨w.heap.size, 0, none⟩) (Nat.le_refl _) (.slice va vn vc)).setCell (p := ⟨w.heap.size, 1, none⟩) (Nat.le_refl _) (.slice ua un uc)).setCell (p := ⟨w.heap.size, 2, none⟩) (Nat.le_refl _) (.int .u64 ver)).setCell (p := ⟨w.heap.size, 3, none⟩) (Nat.le_refl _) (.int .u32 d0)).setCell (p := ⟨w.heap.size, 4, none⟩) (Nat.le_refl _) (.int .u32 d1)).setCell (p := ⟨w.heap.size, 5, none⟩) (Nat.le_refl _) (.int .u32 d2)).setCell (p := ⟨w.heap.size, 6, none⟩) (Nat.le_refl _) (.slice none 0 0))
 have K9 := hid (((((((K3.out.set (o := 0) (v := .slice va vn vc) LZ).set (o := 1) (v := .slice ua un uc) LZ).set (o := 2) (v := .int .u64 ver) LZ).set (o := 3) (v := .int .u32 d0) LZ).set (o := 4) (v := .int .u32 d1) LZ).set (o := 5) (v := .int .u32 d2) LZ).set (o := 6) (v := .slice none 0 0) LZ)
 clear q0 q1 q2 q3 q4 q5 q6 r0 r1 r2 r3 r4 r5 r6 fz
 generalize (((((((w3.setCell ⟨w.heap.size, 0, none⟩ (.slice va vn vc)).setCell ⟨w.heap.size, 1, none⟩ (.slice ua un uc)).setCell ⟨w.heap.size, 2, none⟩ (.int .u64 ver)).setCell ⟨w.heap.size, 3, none⟩ (.int .u32 d0)).setCell ⟨w.heap.size, 4, none⟩ (.int .u32 d1)).setCell ⟨w.heap.size, 5, none⟩ (.int .u32 d2)).setCell ⟨w.heap.size, 6, none⟩ (.slice none 0 0)) = W9 at *
 have r0 : W9.cell? ⟨w.heap.size, 0, none⟩ = some (.slice va vn vc) := cell_of_row2 Q9 0 rfl
 have r1 : W9.cell? ⟨w.heap.size, 1, none⟩ = some (.slice ua un uc) := cell_of_row2 Q9 1 rfl
 have r2 : W9.cell? ⟨w.heap.size, 2, none⟩ = some (.int .u64 ver) := cell_of_row2 Q9 2 rfl
 have r3 : W9.cell? ⟨w.heap.size, 3, none⟩ = some (.int .u32 d0) := cell_of_row2 Q9 3 rfl
 have r4 : W9.cell? ⟨w.heap.size, 4, none⟩ = some (.int .u32 d1) := cell_of_row2 Q9 4 rfl
 have r5 : W9.cell? ⟨w.heap.size, 5, none⟩ = some (.int .u32 d2) := cell_of_row2 Q9 5 rfl
 have r6 : W9.cell? ⟨w.heap.size, 6, none⟩ = some (.slice none 0 0) := cell_of_row2 Q9 6 rfl
 have NF : NsO W9 V.heap.size (.slice va L.length vc) L := NsO.kb ⟨O1.out, N1.out⟩ K9.out
 have TF : OwT W9 V.heap.size (.slice ua un uc) ss := OwT.kb T1.out K9.out
 have NF2 := hid (NF.low LW.out)
 have TF2 := hid (own_low TF LW.out)
 refine bodyPost_ret (v := .agg #[.slice va vn vc, .slice ua un uc, .int .u64 ver, .int .u32 d0, .int .u32 d1, .int .u32 d2, .slice none 0 0]) (by simp [results, Tryz.results34, go_sem, r0, r1, r2, r3, r4, r5, r6]) rfl ⟨_, _, L, rfl, ?_, E1.out, fun x hx => NF2.out.2 x hx, TF2.out, B9.out⟩
 rw [HVN.out]
 exact NF2.out.1
end Go.Proofs.YtpolbbdaippclaaGreat
