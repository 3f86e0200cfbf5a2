/-
  
-/
import Derived.Test.YtpolbbdaippclaaGreatNsAp
import Derived.Lib.UnsafeStr
import Derived.Deep.RegionHeld3
namespace Go.Proofs.YtpolbbdaippclaaGreat
open Go.RowKit Go.ChangeShapes Go.WideShapes Go.ChangeAt Go.Maps Go.Shelf
set_option linter.unusedVariables false
set_option linter.unusedSimpArgs false
set_option maxRecDepth 100000
def NdW (w : World) (base : Nat) (x : Nd) : Prop := x.Fit ∧ x.Nil ∧ RowAt w base 5 x.da (x.zs.map u8V) ∧ OwK w base (.slice x.ka x.ks.length x.kc) x.ks
theorem NdW.later {w w' : World} {base : Nat} {x : Nd} (h : NdW w base x) (hb : Below w.heap.size w w') : NdW w' base x := ⟨h.1, h.2.1, h.2.2.1.later hb, h.2.2.2.later hb⟩
theorem NdW.low {w : World} {base b : Nat} {x : Nd} (h : NdW w base x) (hb : b ≤ base) : NdW w b x := ⟨h.1, h.2.1, h.2.2.1.lowR hb, own_low h.2.2.2 hb⟩
theorem NdW.r {w : World} {base : Nat} {x : Nd} (h : NdW w base x) : NdR w base x := ⟨h.1, h.2.1, h.2.2.1, RowAt.own h.2.2.2 rfl (fun e => by rw [List.eq_nil_of_length_eq_zero e]; rfl)⟩
theorem NdP.fit {w : World} {x : Nd} (h : NdP w x) : x.Fit := by
 obtain ⟨⟨h1, h2, h3, h4, h5, h6⟩, _, h7, h8⟩ := h
 exact ⟨h1, h2, h3, h4, h5.2.2.2, h6.2.1, h7, h8⟩
set_option maxHeartbeats 1000000 in
theorem cloneB_c (a : Option Addr) (c : Nat) (zs : List Int) (w : World) (h : IsB w a zs.length zs) (hc : a = none → c = 0) (hm : zs.length ≤ 1000) :
   Calls Tryz.prog 46 #[.slice a zs.length c] w fun e w' => ∃ a' c', e = .returned (.slice a' zs.length c') ∧ (a' = none → c' = 0) ∧ RowAt w' w.heap.size 5 a' (zs.map u8V) ∧ Below w.heap.size w w' := by
 have H := hid h
 have HC := hid hc
 cases a with
 | none =>
   have hz : zs = [] := by
     cases zs with
     | nil => rfl
     | cons y ys => obtain ⟨b, off, e, _⟩ := h.2.2.1 (by simp); cases e
   have hc0 := hc rfl
   subst hz hc0
   clear h hc
   have hq : ∀ w, (binOp .eql 49 (.slice none 0 0) (.slice none 0 0)).run Tryz.prog w = .ok (.bool true) w := fun w => Lib.run_eql_slice_nil w _ _ _ _ _ _ _ Tryz.underlying49
   go_enter Tryz.func46, Tryz.ntmps46
   go_wp2
   go_ret
   exact ⟨none, 0, rfl, fun _ => rfl, .inl rfl, Below.refl _ _⟩
 | some ad =>
   obtain ⟨n, hn⟩ : ∃ n, n = zs.length := ⟨_, rfl⟩
   have HN := hid hn
   rw [← hn] at H hm ⊢
   clear h hc hn
   have hq : ∀ w, (binOp .eql 49 (.slice (some ad) n c) (.slice none 0 0)).run Tryz.prog w = .ok (.bool false) w := fun w => Lib.run_eql_slice_nil w _ _ _ _ _ _ _ Tryz.underlying49
   go_enter Tryz.func46, Tryz.ntmps46
   go_wp2_with (at_builtin; refine wpList_cpB _ rfl _ _ rfl w.heap.size rfl (heap_alloc_new w _) (some ad) n c zs rfl (H.out.later (below_1 _ _)) HC.out (by omega) ?_; intro v3 w3 hO3 hg3)
   go_ret
   obtain ⟨a3, c3, hv3, hn3, hr3⟩ := hO3.shapeR
   exact ⟨a3, c3, by rw [hv3, HN.out]; rfl, hn3, hr3, (below_1 w _).grown hg3 (below_1 w _).size (fun k hk => by cases hk; exact Nat.le_refl _)⟩
set_option maxHeartbeats 1000000 in
theorem cloneK_c (a : Option Addr) (c : Nat) (l : List Kd) (w : World) (h : IsKs w a l) (hc : a = none → c = 0) (hm : l.length ≤ 1000) :
   Calls Tryz.prog 47 #[.slice a l.length c] w fun e w' => ∃ a' c', e = .returned (.slice a' l.length c') ∧ OwK w' w.heap.size (.slice a' l.length c') l ∧ (a' = none → c' = 0) ∧ Below w.heap.size w w' := by
 have H := hid h
 have HC := hid hc
 cases a with
 | none =>
   have hz : l = [] := by
     cases l with
     | nil => rfl
     | cons y ys => obtain ⟨b, off, e, _⟩ := h.2.2 (by simp); cases e
   have hc0 := hc rfl
   subst hz hc0
   clear h hc
   have hq : ∀ w, (binOp .eql 50 (.slice none 0 0) (.slice none 0 0)).run Tryz.prog w = .ok (.bool true) w := fun w => Lib.run_eql_slice_nil w _ _ _ _ _ _ _ Tryz.underlying50
   go_enter Tryz.func47, Tryz.ntmps47
   go_wp2
   go_ret
   exact ⟨none, 0, rfl, OwK.nil _ _, fun _ => rfl, Below.refl _ _⟩
 | some ad =>
   obtain ⟨n, hn⟩ : ∃ n, n = l.length := ⟨_, rfl⟩
   have HN := hid hn
   rw [← hn] at hm ⊢
   clear h hc hn
   have hq : ∀ w, (binOp .eql 50 (.slice (some ad) n c) (.slice none 0 0)).run Tryz.prog w = .ok (.bool false) w := fun w => Lib.run_eql_slice_nil w _ _ _ _ _ _ _ Tryz.underlying50
   go_enter Tryz.func47, Tryz.ntmps47
   go_wp2_with (at_builtin; refine wpList_cpK _ rfl _ _ rfl w.heap.size rfl (heap_alloc_new w _) (some ad) n c l rfl (H.out.later (below_1 _ _)) HN.out HC.out (by omega) ?_; intro v3 w3 hO3 hg3)
   go_ret
   obtain ⟨a3, c3, hv3, hn3, _⟩ := hO3.shapeR
   subst hv3
   exact ⟨a3, c3, by rw [HN.out]; rfl, by rw [HN.out]; exact hO3, hn3, (below_1 w _).grown hg3 (below_1 w _).size (fun k hk => by cases hk; exact Nat.le_refl _)⟩
set_option maxHeartbeats 2000000 in
theorem copyOf_c (x : Nd) (w : World) (h : NdP w x) :
   Calls Tryz.prog 183 #[x.val] w fun e w' => ∃ da dc ka kc, e = .returned (x.lie da dc ka kc).val ∧ NdW w' w.heap.size (x.lie da dc ka kc) ∧ Below w.heap.size w w' := by
 have FT := hid h.fit
 obtain ⟨fid, k, md, ln, da, dc, zs, ka, kc, ks⟩ := x
 have b0 := below_1 w (.cells (⟨fid, k, md, ln, da, dc, zs, ka, kc, ks⟩ : Nd).cells.toArray 52)
 have h0 := heap_alloc_new w (.cells (⟨fid, k, md, ln, da, dc, zs, ka, kc, ks⟩ : Nd).cells.toArray 52)
 have b1 := below_1 (w.alloc (.cells (⟨fid, k, md, ln, da, dc, zs, ka, kc, ks⟩ : Nd).cells.toArray 52)) (.cells Nd.no.cells.toArray 52)
 have h1 := heap_alloc_new (w.alloc (.cells (⟨fid, k, md, ln, da, dc, zs, ka, kc, ks⟩ : Nd).cells.toArray 52)) (.cells Nd.no.cells.toArray 52)
 have hsz : (w.alloc (.cells (⟨fid, k, md, ln, da, dc, zs, ka, kc, ks⟩ : Nd).cells.toArray 52)).heap.size = w.heap.size + 1 := by simp
 rw [hsz] at h1
 have h0' := (b1.block _ (lt_blkR h0)).trans h0
 have bV := b0.trans (b1.mono b0.size)
 have hP := h.later bV
 have CB := hid (cloneB_c da dc zs _ hP.1.2.2.2.2.1 hP.2.1.1 hP.2.2.1)
 have KK := hid h.1.2.2.2.2.2
 have NK : Hid (ka = none → kc = 0) := hid h.2.1.2
 have LK : Hid (ks.length ≤ 1000) := hid h.2.2.2
 have LV : Hid (((w.alloc (.cells (⟨fid, k, md, ln, da, dc, zs, ka, kc, ks⟩ : Nd).cells.toArray 52)).alloc (.cells Nd.no.cells.toArray 52)).heap.size = w.heap.size + 2) := hid (by simp)
 have BV := hid bV
 simp only at KK
 simp only [Nd.val, Nd.cells, Nd.no, List.length_nil, Nd.lie] at *
 clear b0 b1 h0 h hP hsz bV
 have H0 := hid h0'
 have H1 := hid h1
 go_enter Tryz.func183, Tryz.ntmps183
 go_upto_region 1 with fail
 generalize ((w.alloc (.cells #[.int .u32 fid, .int .u8 k, .int .u16 md, .int .u16 ln, .slice da zs.length dc, .slice ka ks.length kc] 52)).alloc (.cells #[.int .u32 0, .int .u8 0, .int .u16 0, .int .u16 0, .slice none 0 0, .slice none 0 0] 52)) = V at *
 obtain ⟨B, hB⟩ : ∃ B, w.heap.size = B := ⟨_, rfl⟩
 have HBB := hid hB
 rw [hB] at h0' h1 H0 H1 LV BV ⊢
 clear hB
 have x4 : V.cell? ⟨B, 4, none⟩ = some (.slice da zs.length dc) := cell_of_row2 h0' 4 rfl
 clear h0' h1
 go_upto_region 2 with (go_at_call 46; refine CB.out.mono ?_; rintro _ w1 ⟨da1, dc1, rfl, hn1, hr1, hb1⟩
                        have bx := (hb1.block _ (lt_blkR H0.out)).trans H0.out
                        have fz : ∀ i, w1.frozen? ⟨B, i, none⟩ = false := fun i => by simp [World.frozen?, bx]
                        have y4 : w1.cell? ⟨B, 4, none⟩ = some (.slice da zs.length dc) := cell_of_row2 bx 4 rfl
                        have BX := hid bx
                        have R1 := hid hr1
                        have N1 := hid hn1
                        have K1 := hid hb1
                        clear bx hr1 hn1 hb1 x4)
 have bx2 : (w1.setCell ⟨B, 4, none⟩ (.slice da1 zs.length dc1)).heap[B]? = some (.cells #[.int .u32 fid, .int .u8 k, .int .u16 md, .int .u16 ln, .slice da1 zs.length dc1, .slice ka ks.length kc] 52) := heap_setCell_same w1 B 4 _ _ _ BX.out
 have rx2 : (w1.setCell ⟨B, 4, none⟩ (.slice da1 zs.length dc1)).heap[B + 1]? = some (.cells #[.int .u32 0, .int .u8 0, .int .u16 0, .int .u16 0, .slice none 0 0, .slice none 0 0] 52) := (Below.heap_setCell _ _ _ _ (by simp)).trans ((K1.out.block _ (lt_blkR H1.out)).trans H1.out)
 have R2 := hid (R1.out.setR (q := ⟨B, 4, none⟩) BX.out (by decide) (.slice da1 zs.length dc1))
 have C2 : Hid (Below B w (w1.setCell ⟨B, 4, none⟩ (.slice da1 zs.length dc1))) := hid ((BV.out.trans (K1.out.mono (by have := LV.out; omega))).setCell (p := ⟨B, 4, none⟩) (Nat.le_refl _) _)
 have hl2 : B < (w1.setCell ⟨B, 4, none⟩ (.slice da1 zs.length dc1)).heap.size := lt_blkR bx2
 have BX2 := hid bx2
 have RX2 := hid rx2
 have SZ2 : Hid (B + 2 ≤ (w1.setCell ⟨B, 4, none⟩ (.slice da1 zs.length dc1)).heap.size) := hid (by have := lt_blkR rx2; omega)
 have KW : Hid (IsKs (w1.setCell ⟨B, 4, none⟩ (.slice da1 zs.length dc1)) ka ks) := hid (KK.out.later (by rw [HBB.out]; exact C2.out))
 clear fz y4 BX R1 K1 CB rx2
 generalize w1.setCell ⟨B, 4, none⟩ (.slice da1 zs.length dc1) = V2 at *
 have CK2 := hid (cloneK_c ka kc ks V2 KW.out NK.out LK.out)
 have x5 : V2.cell? ⟨B, 5, none⟩ = some (.slice ka ks.length kc) := cell_of_row2 bx2 5 rfl
 clear bx2
 go_upto_region 3 with (go_at_call 47; refine CK2.out.mono ?_; rintro _ w3 ⟨ka3, kc3, rfl, ho3, hn3, hb3⟩
                        have bx := (hb3.block _ (lt_blkR BX2.out)).trans BX2.out
                        have fz : ∀ i, w3.frozen? ⟨B, i, none⟩ = false := fun i => by simp [World.frozen?, bx]
                        have y5 : w3.cell? ⟨B, 5, none⟩ = some (.slice ka ks.length kc) := cell_of_row2 bx 5 rfl
                        have BX := hid bx
                        have RX := hid ((hb3.block _ (lt_blkR RX2.out)).trans RX2.out)
                        have O3 := hid ho3
                        have N3 := hid hn3
                        have R3 := hid (R2.out.later hb3)
                        have C3 := hid (C2.out.trans (hb3.mono (by have := SZ2.out; omega)))
                        clear bx ho3 hn3 hb3 x5)
 have bx4 : (w3.setCell ⟨B, 5, none⟩ (.slice ka3 ks.length kc3)).heap[B]? = some (.cells #[.int .u32 fid, .int .u8 k, .int .u16 md, .int .u16 ln, .slice da1 zs.length dc1, .slice ka3 ks.length kc3] 52) := heap_setCell_same w3 B 5 _ _ _ BX.out
 have rx4 : (w3.setCell ⟨B, 5, none⟩ (.slice ka3 ks.length kc3)).heap[B + 1]? = some (.cells #[.int .u32 0, .int .u8 0, .int .u16 0, .int .u16 0, .slice none 0 0, .slice none 0 0] 52) := (Below.heap_setCell _ _ _ _ (by simp)).trans RX.out
 have R4 := hid (R3.out.setR (q := ⟨B, 5, none⟩) BX.out (by decide) (.slice ka3 ks.length kc3))
 have O4 := hid (own_set O3.out (p := ⟨B, 5, none⟩) (by show B < _; exact hl2) (.slice ka3 ks.length kc3))
 have C4 := hid (C3.out.setCell (p := ⟨B, 5, none⟩) (Nat.le_refl _) (.slice ka3 ks.length kc3))
 clear fz y5 BX RX R3 O3 C3 CK2 KW
 generalize w3.setCell ⟨B, 5, none⟩ (.slice ka3 ks.length kc3) = V4 at *
 have x0 : V4.cell? ⟨B, 0, none⟩ = some (.int .u32 fid) := cell_of_row2 bx4 0 rfl
 have x1 : V4.cell? ⟨B, 1, none⟩ = some (.int .u8 k) := cell_of_row2 bx4 1 rfl
 have x2 : V4.cell? ⟨B, 2, none⟩ = some (.int .u16 md) := cell_of_row2 bx4 2 rfl
 have x3 : V4.cell? ⟨B, 3, none⟩ = some (.int .u16 ln) := cell_of_row2 bx4 3 rfl
 have x4 : V4.cell? ⟨B, 4, none⟩ = some (.slice da1 zs.length dc1) := cell_of_row2 bx4 4 rfl
 have x5 : V4.cell? ⟨B, 5, none⟩ = some (.slice ka3 ks.length kc3) := cell_of_row2 bx4 5 rfl
 have r0 : V4.cell? ⟨B + 1, 0, none⟩ = some (.int .u32 0) := cell_of_row2 rx4 0 rfl
 have r1 : V4.cell? ⟨B + 1, 1, none⟩ = some (.int .u8 0) := cell_of_row2 rx4 1 rfl
 have r2 : V4.cell? ⟨B + 1, 2, none⟩ = some (.int .u16 0) := cell_of_row2 rx4 2 rfl
 have r3 : V4.cell? ⟨B + 1, 3, none⟩ = some (.int .u16 0) := cell_of_row2 rx4 3 rfl
 have r4 : V4.cell? ⟨B + 1, 4, none⟩ = some (.slice none 0 0) := cell_of_row2 rx4 4 rfl
 have r5 : V4.cell? ⟨B + 1, 5, none⟩ = some (.slice none 0 0) := cell_of_row2 rx4 5 rfl
 have fz : ∀ i, V4.frozen? ⟨B + 1, i, none⟩ = false := fun i => by simp [World.frozen?, rx4]
 have RX4 := hid rx4
 clear bx4 rx4
 go_wp2
 have e0 := RX4.out
 have e1 := heap_setCell_same _ (B + 1) 0 _ _ (.int .u32 fid) e0
 have e2 := heap_setCell_same _ (B + 1) 1 _ _ (.int .u8 k) e1
 have e3 := heap_setCell_same _ (B + 1) 2 _ _ (.int .u16 md) e2
 have e4 := heap_setCell_same _ (B + 1) 3 _ _ (.int .u16 ln) e3
 have e5 := heap_setCell_same _ (B + 1) 4 _ _ (.slice da1 zs.length dc1) e4
 have e6 := heap_setCell_same _ (B + 1) 5 _ _ (.slice ka3 ks.length kc3) e5
 refine bodyPost_ret (v := .agg #[.int .u32 fid, .int .u8 k, .int .u16 md, .int .u16 ln, .slice da1 zs.length dc1, .slice ka3 ks.length kc3]) (by simp [results, Tryz.results183, go_sem, r0, r1, r2, r3, r4, r5]) rfl ⟨da1, dc1, ka3, kc3, rfl, ?_, ?_⟩
 · rw [HBB.out]
   refine ⟨FT.out, ⟨N1.out, N3.out⟩, ?_, ?_⟩
   · exact RowAt.lowR ((((((R4.out.setR (q := ⟨B + 1, 0, none⟩) e0 (by decide) (.int .u32 fid)).setR (q := ⟨B + 1, 1, none⟩) e1 (by decide) (.int .u8 k)).setR (q := ⟨B + 1, 2, none⟩) e2 (by decide) (.int .u16 md)).setR (q := ⟨B + 1, 3, none⟩) e3 (by decide) (.int .u16 ln)).setR (q := ⟨B + 1, 4, none⟩) e4 (by decide) (.slice da1 zs.length dc1)).setR (q := ⟨B + 1, 5, none⟩) e5 (by decide) (.slice ka3 ks.length kc3)) (by have := LV.out; omega)
   · exact own_low (own_set (own_set (own_set (own_set (own_set (own_set O4.out (p := ⟨B + 1, 0, none⟩) (by show B + 1 < _; have := SZ2.out; omega) (.int .u32 fid)) (p := ⟨B + 1, 1, none⟩) (by show B + 1 < _; have := SZ2.out; omega) (.int .u8 k)) (p := ⟨B + 1, 2, none⟩) (by show B + 1 < _; have := SZ2.out; omega) (.int .u16 md)) (p := ⟨B + 1, 3, none⟩) (by show B + 1 < _; have := SZ2.out; omega) (.int .u16 ln)) (p := ⟨B + 1, 4, none⟩) (by show B + 1 < _; have := SZ2.out; omega) (.slice da1 zs.length dc1)) (p := ⟨B + 1, 5, none⟩) (by show B + 1 < _; have := SZ2.out; omega) (.slice ka3 ks.length kc3)) (by have := SZ2.out; omega)
 · rw [HBB.out]
   exact ((((((C4.out.setCell (p := ⟨B + 1, 0, none⟩) (Nat.le_succ _) (.int .u32 fid)).setCell (p := ⟨B + 1, 1, none⟩) (Nat.le_succ _) (.int .u8 k)).setCell (p := ⟨B + 1, 2, none⟩) (Nat.le_succ _) (.int .u16 md)).setCell (p := ⟨B + 1, 3, none⟩) (Nat.le_succ _) (.int .u16 ln)).setCell (p := ⟨B + 1, 4, none⟩) (Nat.le_succ _) (.slice da1 zs.length dc1)).setCell (p := ⟨B + 1, 5, none⟩) (Nat.le_succ _) (.slice ka3 ks.length kc3))
def kb (x : Nd) : Option Nat := x.ka.map (·.block)
def KAp (L : List Nd) : Prop := L.Pairwise fun x y => ∀ b, kb x = some b → kb y ≠ some b
theorem NdW.kblk {w : World} {base : Nat} {x : Nd} (h : NdW w base x) {b : Nat} (hb : kb x = some b) : base ≤ b ∧ b < w.heap.size := by
 unfold kb at hb
 cases ha : x.ka with
 | none => rw [ha] at hb; cases hb
 | some p =>
   rw [ha] at hb
   cases hb
   obtain ⟨_, _, _, hk⟩ := h
   rw [ha] at hk
   rcases hk.2 with ⟨hv, hn⟩ | ⟨g, cap, cur, hv, hg, hh, hr⟩
   · cases hv
   · cases hv
     exact ⟨hg, lt_blkR hh⟩
theorem NdW.grown {w w' : World} {base b : Nat} {x : Nd} {v : Value} {L : List Nd} (h : NdW w base x) (hown : OwN w b v L) (hg : w.grownBy w' v.ownBlock) : NdW w' base x :=
 ⟨h.1, h.2.1, h.2.2.1.grown hown (by decide) hg, own_other h.2.2.2 hown (by decide) hg⟩
set_option maxHeartbeats 4000000 in
theorem copyAll_c (a : Option Addr) (cap : Nat) (l : List Nd) (w : World) (h : Tr w a l) (hm : l.length ≤ 1000) :
   Calls Tryz.prog 150 #[.slice a l.length cap] w fun e w' => ∃ v L, e = .returned v ∧ OwN w' w.heap.size v L ∧ L.map Nd.er = l.map Nd.er ∧ (∀ x ∈ L, NdW w' w.heap.size x) ∧ KAp L ∧ Below w.heap.size w w' := by
 have H := hid h
 obtain ⟨i0, hi, hz0, hz1, hz2⟩ := info_nd
 obtain ⟨n, hn⟩ : ∃ n, n = l.length := ⟨_, rfl⟩
 rw [← hn] at hm ⊢
 have HN := hid hn
 clear h hn
 go_enter Tryz.func150, Tryz.ntmps150
 go_wp2_with (at_make; refine wpList_make_own _ rfl _ _ 41 rfl w.heap.size 52 i0 _ 6 Tryz.underlying41 hi hz0 hz1 _ _ _ n rfl rfl (by omega) (by rw [hz2]; omega) (by unfold maxLen; omega) (Nat.le_refl _) ?_; intro w1 hown0 hgr0)
 have O0 : Hid (OwN w1 w.heap.size (.slice (some ⟨w.heap.size, 0, none⟩) 0 n) []) := hid hown0
 have B0 : Hid (Below w.heap.size w w1) := hid ((Below.refl _ _).grown hgr0 (Nat.le_refl _) (fun k hk => by cases hk))
 clear hown0 hgr0
 go_loopg [3, 11] n (fun gk v j wr => ∃ (m : Nat) (L : List Nd), m + gk = n ∧ Hid (L.length = m) ∧ j = .int .i64 m ∧ Hid (OwN wr w.heap.size v L) ∧ Hid (L.map Nd.er = (l.take m).map Nd.er) ∧ Hid (∀ x ∈ L, NdW wr w.heap.size x) ∧ Hid (KAp L) ∧ Hid (Below w.heap.size w wr))
 case atStart => exact ⟨0, [], by omega, hid rfl, rfl, O0, hid rfl, hid (fun x hx => by cases hx), hid List.Pairwise.nil, B0⟩
 case round =>
   obtain ⟨m, L, hm2, HL, rfl, HO, HE, HR, HA, HB⟩ := hrel
   obtain ⟨va, vc, rfl⟩ := HO.out.shape
   by_cases hlt : m < n
   · have hltI : (m : Int) < n := by omega
     have hln : m < l.length := by rw [← HN.out]; exact hlt
     have hL1000 : L.length ≤ 1000 := by have := HL.out; omega
     obtain ⟨b, off, rfl, _⟩ := H.out.1.2.2 (by omega)
     have hI := H.out.later HB.out
     obtain ⟨y0, y1, y2, y3, y4, y5⟩ := (hI.1.at (i := m) hln).all
     have XP := hid (hI.nd (getD_mem l Nd.no hln))
     have TK : Hid ((l.take (m + 1)).map Nd.er = (l.take m).map Nd.er ++ [(l.getD m Nd.no).er]) := hid (by
       rw [List.take_add_one, List.getElem?_eq_getElem hln, List.map_append]
       simp [List.getD, hln])
     clear hI hln
     generalize l.getD m Nd.no = x at *
     obtain ⟨xf, xk, xm, xl, xda, xdc, xzs, xka, xkc, xks⟩ := x
     simp only at y0 y1 y2 y3 y4 y5
     go_upto_region 5 with fail
     have b1 := below_1 wr (.cells #[.int .u32 xf, .int .u8 xk, .int .u16 xm, .int .u16 xl, .slice xda xzs.length xdc, .slice xka xks.length xkc] 52)
     have bx := heap_alloc_new wr (.cells #[.int .u32 xf, .int .u8 xk, .int .u16 xm, .int .u16 xl, .slice xda xzs.length xdc, .slice xka xks.length xkc] 52)
     have CC := hid (copyOf_c ⟨xf, xk, xm, xl, xda, xdc, xzs, xka, xkc, xks⟩ _ (XP.out.later b1))
     simp only [Nd.val, Nd.lie] at CC
     have B1 := hid b1
     clear b1 y0 y1 y2 y3 y4 y5
     generalize (wr.alloc (.cells #[.int .u32 xf, .int .u8 xk, .int .u16 xm, .int .u16 xl, .slice xda xzs.length xdc, .slice xka xks.length xkc] 52)) = V at *
     generalize hgg : wr.heap.size = g0 at *
     have HG := hid hgg
     clear hgg
     have x0 : V.cell? ⟨g0, 0, none⟩ = some (.int .u32 xf) := cell_of_row2 bx 0 rfl
     have x1 : V.cell? ⟨g0, 1, none⟩ = some (.int .u8 xk) := cell_of_row2 bx 1 rfl
     have x2 : V.cell? ⟨g0, 2, none⟩ = some (.int .u16 xm) := cell_of_row2 bx 2 rfl
     have x3 : V.cell? ⟨g0, 3, none⟩ = some (.int .u16 xl) := cell_of_row2 bx 3 rfl
     have x4 : V.cell? ⟨g0, 4, none⟩ = some (.slice xda xzs.length xdc) := cell_of_row2 bx 4 rfl
     have x5 : V.cell? ⟨g0, 5, none⟩ = some (.slice xka xks.length xkc) := cell_of_row2 bx 5 rfl
     clear bx
     go_wp2_with (first
       | (at_builtin; refine wpList_appNd _ rfl _ _ rfl w.heap.size _ L rfl O8.out w3.heap.size _ ⟨xf, xk, xm, xl, da3, dc3, xzs, ka3, kc3, xks⟩ rfl N8.out (by omega) B8.out.size ?_; intro v9 w9 hown9 hgrow9)
       | (go_at_call 183; refine CC.out.mono ?_; rintro _ w3 ⟨da3, dc3, ka3, kc3, rfl, hw3, hb3⟩
          have C3 := hid (B1.out.trans (hb3.mono (by have := B1.out.size; have := HG.out; omega)))
          rw [← HG.out] at C3
          have b8 := below_1 w3 (.cells (⟨xf, xk, xm, xl, da3, dc3, xzs, ka3, kc3, xks⟩ : Nd).cells.toArray 52)
          have N8 := hid (heap_alloc_new w3 (.cells (⟨xf, xk, xm, xl, da3, dc3, xzs, ka3, kc3, xks⟩ : Nd).cells.toArray 52))
          have C8 := hid (C3.out.trans (b8.mono C3.out.size))
          have O8 := hid (HO.out.later C8.out)
          have B8 := hid (HB.out.trans (C8.out.mono HB.out.size))
          have W8 := hid (hw3.later b8)
          have SV : Hid (wr.heap.size ≤ V.heap.size) := hid (by have := B1.out.size; have := HG.out; omega)
          clear hw3 hb3 b8))
     have HB9 := hid (below_grownN B8.out O8.out (Nat.le_refl _) B8.out.size hgrow9)
     have HO9 := hid hown9
     have HR9 : Hid (∀ x ∈ L ++ [⟨xf, xk, xm, xl, da3, dc3, xzs, ka3, kc3, xks⟩], NdW w9 w.heap.size x) := hid (fun x hx => by
       rcases List.mem_append.1 hx with hx | hx
       · exact ((HR.out x hx).later C8.out).grown O8.out hgrow9
       · rw [List.mem_singleton] at hx
         subst hx
         exact (W8.out.low (Nat.le_trans HB.out.size SV.out)).grown O8.out hgrow9)
     have HA9 : Hid (KAp (L ++ [(⟨xf, xk, xm, xl, da3, dc3, xzs, ka3, kc3, xks⟩ : Nd)])) := hid (by
       unfold KAp
       rw [List.pairwise_append]
       refine ⟨HA.out, List.pairwise_singleton _ _, fun x hx y hy b hb hy2 => ?_⟩
       rw [List.mem_singleton] at hy
       subst hy
       have h1 := ((HR.out x hx).kblk hb).2
       have h2 := (W8.out.kblk hy2).1
       have := SV.out
       omega)
     have EL : Hid ((L ++ [(⟨xf, xk, xm, xl, da3, dc3, xzs, ka3, kc3, xks⟩ : Nd)]).map Nd.er = (l.take (m + 1)).map Nd.er) := hid (by rw [TK.out, List.map_append, HE.out]; rfl)
     clear hown9 hgrow9
     go_roundg (gk - 1)
     case measure => omega
     case rel => exact ⟨m + 1, _, by omega, hid (by rw [List.length_append, HL.out]; rfl), by go_num, HO9, EL, HR9, HA9, HB9⟩
   · have em : m = n := by omega
     subst em
     have hge : ¬ (m : Int) < m := by omega
     have EF : Hid (L.map Nd.er = l.map Nd.er) := hid (by rw [HE.out, List.take_of_length_le (by rw [← HN.out]; exact Nat.le_refl _)])
     go_wp2
     go_ret
     exact ⟨_, rfl, L, HO.out, EF.out, HR.out, HA.out, HB.out⟩
def plI (l : List Nd) (f : Int) : Int := match l.findIdx? (fun x => x.fid == f) with
 | some i => i
 | none => -1
def enI (l : List Kd) (s : ByteArray) : Int := match l.findIdx? (fun k => decide (k.nm = s)) with
 | some i => i
 | none => -1
theorem findIdx_at {α : Type} {p : α → Bool} {d : α} : ∀ {l : List α} {m : Nat}, m < l.length → (∀ i, i < m → p (l.getD i d) = false) → p (l.getD m d) = true → l.findIdx? p = some m
 | [], m, hm, _, _ => by cases hm
 | x :: t, 0, _, _, h1 => by
   have : p x = true := h1
   simp [List.findIdx?_cons, this]
 | x :: t, m + 1, hm, h0, h1 => by
   have hx : p x = false := h0 0 (by omega)
   rw [List.findIdx?_cons, hx]
   have := findIdx_at (l := t) (m := m) (p := p) (d := d) (by simpa using hm) (fun i hi => h0 (i + 1) (by omega)) h1
   simp [this]
theorem findIdx_no {α : Type} {p : α → Bool} {d : α} {l : List α} (h : ∀ i, i < l.length → p (l.getD i d) = false) : l.findIdx? p = none := by
 rw [List.findIdx?_eq_none_iff]
 intro x hx
 obtain ⟨i, hi, rfl⟩ := List.getElem_of_mem hx
 have := h i hi
 rwa [List.getD, List.getElem?_eq_getElem hi] at this
set_option maxHeartbeats 2000000 in
theorem enIx_c (g : Nat) (a : Option Addr) (cap : Nat) (l : List Kd) (s : ByteArray) (w : World) (h : IsKs w a l) (hg : w.heap[g]? = some (.cells #[.string s] 9)) (hm : l.length ≤ 100000) :
   Calls Tryz.prog 233 #[.slice a l.length cap, .func (.func 234) #[] #[.pointer (some ⟨g, 0, none⟩)]] w fun e w' => e = .returned (.int .i64 (enI l s)) ∧ Below w.heap.size w w' := by
 have H := hid h
 have HG := hid hg
 obtain ⟨R, hR⟩ : ∃ R, R = enI l s := ⟨_, rfl⟩
 rw [← hR]
 have HR := hid hR
 obtain ⟨n, hn⟩ : ∃ n, n = l.length := ⟨_, rfl⟩
 have HN := hid hn
 rw [← hn] at hm ⊢
 clear h hg hR hn
 go_enter Tryz.func233, Tryz.ntmps233
 go_wp2
 go_loopg [8] n (fun gk i wr => ∃ m : Nat, m + gk = n ∧ i = .int .i64 m ∧ Hid (Below w.heap.size w wr) ∧ Hid (∀ i, i < m → (decide ((l.getD i Kd.no).nm = s)) = false))
 case atStart => exact ⟨0, by omega, rfl, hid (Below.refl _ _), hid (fun i hi => by omega)⟩
 case round =>
   obtain ⟨m, hm2, rfl, HB, HF⟩ := hrel
   by_cases hlt : m < n
   · have hltI : (m : Int) < n := by omega
     have hln : m < l.length := by rw [← HN.out]; exact hlt
     obtain ⟨b, off, rfl, _⟩ := H.out.2.2 (by omega)
     obtain ⟨k0, k1⟩ := (H.out.later HB.out).at (i := m) hln
     have YES : Hid ((decide ((l.getD m Kd.no).nm = s)) = true → R = m) := hid (fun e => by rw [HR.out]; unfold enI; rw [findIdx_at (d := Kd.no) hln HF.out e])
     have NX : Hid ((decide ((l.getD m Kd.no).nm = s)) = false → ∀ i, i < m + 1 → (decide ((l.getD i Kd.no).nm = s)) = false) := hid (fun e i hi => by
       by_cases q : i = m
       · rw [q]; exact e
       · exact HF.out i (by omega))
     have c0 : wr.cell? ⟨g, 0, none⟩ = some (.string s) := cell_of_row2 ((HB.out.block _ (lt_blkR HG.out)).trans HG.out) 0 rfl
     have hgl : g < wr.heap.size := lt_blkR ((HB.out.block _ (lt_blkR HG.out)).trans HG.out)
     clear hln
     generalize l.getD m Kd.no = x at *
     have BX := hid (HB.out.trans ((below_1 wr (.cells #[.string x.nm, .int .u32 x.fid] 117)).mono HB.out.size))
     cases q : (decide ((x).nm = s)) with
     | true =>
       have ET := hid (YES.out q)
       clear YES NX HF
       rw [← ba_eq] at q
       go_wp2
       go_ret
       exact ⟨by rw [ET.out]; rfl, BX.out⟩
     | false =>
       have EX := hid (NX.out q)
       clear YES NX HF
       rw [← ba_eq] at q
       go_wp2
       go_roundg (gk - 1)
       case measure => omega
       case rel => exact ⟨m + 1, by omega, by go_num, BX, EX⟩
   · have hge : ¬ (m : Int) < n := by omega
     have EF : Hid (R = -1) := hid (by rw [HR.out]; unfold enI; rw [findIdx_no (d := Kd.no) (fun i hi => HF.out i (by have := HN.out; omega))])
     go_wp2
     go_ret
     exact ⟨by rw [EF.out]; rfl, HB.out⟩
set_option maxHeartbeats 1000000 in
theorem entryOf_c (b o : Nat) (x : Nd) (s : ByteArray) (w : World) (hc : w.cell? ⟨b, o + 5, none⟩ = some (.slice x.ka x.ks.length x.kc)) (h : IsKs w x.ka x.ks) (hm : x.ks.length ≤ 100000) :
   Calls Tryz.prog 221 #[.pointer (some ⟨b, o, none⟩), .string s] w fun e w' => e = .returned (.int .i64 (enI x.ks s)) ∧ Below w.heap.size w w' := by
 have b0 := below_1 w (.cells #[.string s] 9)
 have IC := hid (enIx_c w.heap.size x.ka x.kc x.ks s _ (h.later b0) (heap_alloc_new w _) hm)
 have c5 : (w.alloc (.cells #[.string s] 9)).cell? ⟨b, o + 5, none⟩ = some (.slice x.ka x.ks.length x.kc) := cell_later b0 hc
 have B0 := hid b0
 clear h b0 hc
 go_enter Tryz.func221, Tryz.ntmps221
 go_upto_region 1 with fail
 generalize w.alloc (.cells #[.string s] 9) = V at *
 go_wp2_with (go_at_call 233; refine IC.out.mono ?_; rintro _ w1 ⟨rfl, hb1⟩)
 go_ret
 exact ⟨rfl, B0.out.trans (hb1.mono B0.out.size)⟩
set_option maxHeartbeats 2000000 in
theorem splIx_c (g : Nat) (a : Option Addr) (cap : Nat) (l : List Nd) (f : Int) (w : World) (h : IsNs w a l) (hg : w.heap[g]? = some (.cells #[.int .u32 f] 33)) (hm : l.length ≤ 100000) :
   Calls Tryz.prog 153 #[.slice a l.length cap, .func (.func 154) #[] #[.pointer (some ⟨g, 0, none⟩)]] w fun e w' => e = .returned (.int .i64 (plI l f)) ∧ Below w.heap.size w w' := by
 have H := hid h
 have HG := hid hg
 obtain ⟨R, hR⟩ : ∃ R, R = plI l f := ⟨_, rfl⟩
 rw [← hR]
 have HR := hid hR
 obtain ⟨n, hn⟩ : ∃ n, n = l.length := ⟨_, rfl⟩
 have HN := hid hn
 rw [← hn] at hm ⊢
 clear h hg hR hn
 go_enter Tryz.func153, Tryz.ntmps153
 go_wp2
 go_loopg [8] n (fun gk i wr => ∃ m : Nat, m + gk = n ∧ i = .int .i64 m ∧ Hid (Below w.heap.size w wr) ∧ Hid (∀ i, i < m → ((l.getD i Nd.no).fid == f) = false))
 case atStart => exact ⟨0, by omega, rfl, hid (Below.refl _ _), hid (fun i hi => by omega)⟩
 case round =>
   obtain ⟨m, hm2, rfl, HB, HF⟩ := hrel
   by_cases hlt : m < n
   · have hltI : (m : Int) < n := by omega
     have hln : m < l.length := by rw [← HN.out]; exact hlt
     obtain ⟨b, off, rfl, _⟩ := H.out.2.2 (by omega)
     obtain ⟨y0, y1, y2, y3, y4, y5⟩ := ((H.out.later HB.out).at (i := m) hln).all
     have YES : Hid (((l.getD m Nd.no).fid == f) = true → R = m) := hid (fun e => by rw [HR.out]; unfold plI; rw [findIdx_at (d := Nd.no) hln HF.out e])
     have NX : Hid (((l.getD m Nd.no).fid == f) = false → ∀ i, i < m + 1 → ((l.getD i Nd.no).fid == f) = false) := hid (fun e i hi => by
       by_cases q : i = m
       · rw [q]; exact e
       · exact HF.out i (by omega))
     have c0 : wr.cell? ⟨g, 0, none⟩ = some (.int .u32 f) := cell_of_row2 ((HB.out.block _ (lt_blkR HG.out)).trans HG.out) 0 rfl
     have hgl : g < wr.heap.size := lt_blkR ((HB.out.block _ (lt_blkR HG.out)).trans HG.out)
     clear hln
     generalize l.getD m Nd.no = x at *
     have BX := hid (HB.out.trans ((below_1 wr (.cells #[.int .u32 x.fid, .int .u8 x.k, .int .u16 x.md, .int .u16 x.ln, .slice x.da x.zs.length x.dc, .slice x.ka x.ks.length x.kc] 52)).mono HB.out.size))
     cases q : ((x).fid == f) with
     | true =>
       have ET := hid (YES.out q)
       clear YES NX HF
       skip
       go_wp2
       go_ret
       exact ⟨by rw [ET.out]; rfl, BX.out⟩
     | false =>
       have EX := hid (NX.out q)
       clear YES NX HF
       skip
       go_wp2
       go_roundg (gk - 1)
       case measure => omega
       case rel => exact ⟨m + 1, by omega, by go_num, BX, EX⟩
   · have hge : ¬ (m : Int) < n := by omega
     have EF : Hid (R = -1) := hid (by rw [HR.out]; unfold plI; rw [findIdx_no (d := Nd.no) (fun i hi => HF.out i (by have := HN.out; omega))])
     go_wp2
     go_ret
     exact ⟨by rw [EF.out]; rfl, HB.out⟩
set_option maxHeartbeats 1000000 in
theorem splaceOf_c (a : Option Addr) (cap : Nat) (l : List Nd) (f : Int) (w : World) (h : IsNs w a l) (hm : l.length ≤ 100000) :
   Calls Tryz.prog 111 #[.slice a l.length cap, .int .u32 f] w fun e w' => e = .returned (.int .i64 (plI l f)) ∧ Below w.heap.size w w' := by
 have b0 := below_1 w (.cells #[.int .u32 f] 33)
 have IC := hid (splIx_c w.heap.size a cap l f _ (h.later b0) (heap_alloc_new w _) hm)
 have B0 := hid b0
 clear h b0
 go_enter Tryz.func111, Tryz.ntmps111
 go_wp2_with (go_at_call 153; refine IC.out.mono ?_; rintro _ w1 ⟨rfl, hb1⟩)
 go_ret
 exact ⟨rfl, B0.out.trans (hb1.mono B0.out.size)⟩
end Go.Proofs.YtpolbbdaippclaaGreat
