/-
  The package tree: copies of nodes (copyOf, slices.Clone), where a fid, an entry stands (placeOf, entryOf, slices.IndexFunc), New.
-/
import Derived.Test.YtkokjkaclcjnjaaGreatDoorPtBc
import Derived.Lib.UnsafeStr
namespace Go.Proofs.YtkokjkaclcjnjaaGreatDoor
open Go.RowKit Go.ChangeShapes Go.WideShapes Go.ChangeAt Go.Maps Go.Shelf
set_option linter.unusedVariables false
set_option linter.unusedSimpArgs false
set_option maxRecDepth 100000
def NdW (w : World) (base : Nat) (x : Nd) : Prop := x.Fit ∧ x.Nil ∧ RowAt w base 5 x.da (x.zs.map u8V) ∧ OwK w base (.slice x.ka x.ks.length x.kc) x.ks
theorem NdW.later {w w' : World} {base : Nat} {x : Nd} (h : NdW w base x) (hb : Below w.heap.size w w') : NdW w' base x := ⟨h.1, h.2.1, h.2.2.1.later hb, h.2.2.2.later hb⟩
theorem NdW.low {w : World} {base b : Nat} {x : Nd} (h : NdW w base x) (hb : b ≤ base) : NdW w b x := ⟨h.1, h.2.1, h.2.2.1.lowR hb, own_low h.2.2.2 hb⟩
theorem NdW.r {w : World} {base : Nat} {x : Nd} (h : NdW w base x) : NdR w base x := ⟨h.1, h.2.1, h.2.2.1, RowAt.own h.2.2.2 rfl (fun e => by rw [List.eq_nil_of_length_eq_zero e]; rfl)⟩
theorem NdP.fit {w : World} {x : Nd} (h : NdP w x) : x.Fit := by
 obtain ⟨⟨h1, h2, h3, h4, h5, h6⟩, _, h7, h8⟩ := h
 exact ⟨h1, h2, h3, h4, h5.2.2.2, h6.2.1, h7, h8⟩
set_option maxHeartbeats 1000000 in
theorem cloneB_c (a : Option Addr) (c : Nat) (zs : List Int) (w : World) (h : IsB w a zs.length zs) (hc : a = none → c = 0) (hm : zs.length ≤ 1000) :
   Calls Tryz.prog 69 #[.slice a zs.length c] w fun e w' => ∃ a' c', e = .returned (.slice a' zs.length c') ∧ (a' = none → c' = 0) ∧ RowAt w' w.heap.size 5 a' (zs.map u8V) ∧ Below w.heap.size w w' := by
 have H := hid h
 have HC := hid hc
 cases a with
 | none =>
   have hz : zs = [] := by
     cases zs with
     | nil => rfl
     | cons y ys => obtain ⟨b, off, e, _⟩ := h.2.2.1 (by simp); cases e
   have hc0 := hc rfl
   subst hz hc0
   clear h hc
   have hq : ∀ w, (binOp .eql 34 (.slice none 0 0) (.slice none 0 0)).run Tryz.prog w = .ok (.bool true) w := fun w => Lib.run_eql_slice_nil w _ _ _ _ _ _ _ Tryz.underlying34
   go_enter Tryz.func69, Tryz.ntmps69
   go_wp2
   go_ret
   exact ⟨none, 0, rfl, fun _ => rfl, .inl rfl, Below.refl _ _⟩
 | some ad =>
   obtain ⟨n, hn⟩ : ∃ n, n = zs.length := ⟨_, rfl⟩
   have HN := hid hn
   rw [← hn] at H hm ⊢
   clear h hc hn
   have hq : ∀ w, (binOp .eql 34 (.slice (some ad) n c) (.slice none 0 0)).run Tryz.prog w = .ok (.bool false) w := fun w => Lib.run_eql_slice_nil w _ _ _ _ _ _ _ Tryz.underlying34
   go_enter Tryz.func69, Tryz.ntmps69
   go_wp2_with (at_builtin; refine wpList_cpB _ rfl _ _ rfl w.heap.size rfl (heap_alloc_new w _) (some ad) n c zs rfl (H.out.later (below_1 _ _)) HC.out (by omega) ?_; intro v3 w3 hO3 hg3)
   go_ret
   obtain ⟨a3, c3, hv3, hn3, hr3⟩ := hO3.shapeR
   exact ⟨a3, c3, by rw [hv3, HN.out]; rfl, hn3, hr3, (below_1 w _).grown hg3 (below_1 w _).size (fun k hk => by cases hk; exact Nat.le_refl _)⟩
set_option maxHeartbeats 1000000 in
theorem cloneK_c (a : Option Addr) (c : Nat) (l : List Kd) (w : World) (h : IsKs w a l) (hc : a = none → c = 0) (hm : l.length ≤ 1000) :
   Calls Tryz.prog 70 #[.slice a l.length c] w fun e w' => ∃ a' c', e = .returned (.slice a' l.length c') ∧ OwK w' w.heap.size (.slice a' l.length c') l ∧ (a' = none → c' = 0) ∧ Below w.heap.size w w' := by
 have H := hid h
 have HC := hid hc
 cases a with
 | none =>
   have hz : l = [] := by
     cases l with
     | nil => rfl
     | cons y ys => obtain ⟨b, off, e, _⟩ := h.2.2 (by simp); cases e
   have hc0 := hc rfl
   subst hz hc0
   clear h hc
   have hq : ∀ w, (binOp .eql 35 (.slice none 0 0) (.slice none 0 0)).run Tryz.prog w = .ok (.bool true) w := fun w => Lib.run_eql_slice_nil w _ _ _ _ _ _ _ Tryz.underlying35
   go_enter Tryz.func70, Tryz.ntmps70
   go_wp2
   go_ret
   exact ⟨none, 0, rfl, OwK.nil _ _, fun _ => rfl, Below.refl _ _⟩
 | some ad =>
   obtain ⟨n, hn⟩ : ∃ n, n = l.length := ⟨_, rfl⟩
   have HN := hid hn
   rw [← hn] at hm ⊢
   clear h hc hn
   have hq : ∀ w, (binOp .eql 35 (.slice (some ad) n c) (.slice none 0 0)).run Tryz.prog w = .ok (.bool false) w := fun w => Lib.run_eql_slice_nil w _ _ _ _ _ _ _ Tryz.underlying35
   go_enter Tryz.func70, Tryz.ntmps70
   go_wp2_with (at_builtin; refine wpList_cpK _ rfl _ _ rfl w.heap.size rfl (heap_alloc_new w _) (some ad) n c l rfl (H.out.later (below_1 _ _)) HN.out HC.out (by omega) ?_; intro v3 w3 hO3 hg3)
   go_ret
   obtain ⟨a3, c3, hv3, hn3, _⟩ := hO3.shapeR
   subst hv3
   exact ⟨a3, c3, by rw [HN.out]; rfl, by rw [HN.out]; exact hO3, hn3, (below_1 w _).grown hg3 (below_1 w _).size (fun k hk => by cases hk; exact Nat.le_refl _)⟩
set_option maxHeartbeats 2000000 in
theorem copyOf_c (x : Nd) (w : World) (h : NdP w x) :
   Calls Tryz.prog 54 #[x.val] w fun e w' => ∃ da dc ka kc, e = .returned (x.lie da dc ka kc).val ∧ NdW w' w.heap.size (x.lie da dc ka kc) ∧ Below w.heap.size w w' := by
 have FT := hid h.fit
 obtain ⟨fid, k, md, ln, da, dc, zs, ka, kc, ks⟩ := x
 have b0 := below_1 w (.cells (⟨fid, k, md, ln, da, dc, zs, ka, kc, ks⟩ : Nd).cells.toArray 37)
 have h0 := heap_alloc_new w (.cells (⟨fid, k, md, ln, da, dc, zs, ka, kc, ks⟩ : Nd).cells.toArray 37)
 have b1 := below_1 (w.alloc (.cells (⟨fid, k, md, ln, da, dc, zs, ka, kc, ks⟩ : Nd).cells.toArray 37)) (.cells Nd.no.cells.toArray 37)
 have h1 := heap_alloc_new (w.alloc (.cells (⟨fid, k, md, ln, da, dc, zs, ka, kc, ks⟩ : Nd).cells.toArray 37)) (.cells Nd.no.cells.toArray 37)
 have hsz : (w.alloc (.cells (⟨fid, k, md, ln, da, dc, zs, ka, kc, ks⟩ : Nd).cells.toArray 37)).heap.size = w.heap.size + 1 := by simp
 rw [hsz] at h1
 have h0' := (b1.block _ (lt_blkR h0)).trans h0
 have bV := b0.trans (b1.mono b0.size)
 have hP := h.later bV
 have CB := hid (cloneB_c da dc zs _ hP.1.2.2.2.2.1 hP.2.1.1 hP.2.2.1)
 have KK := hid h.1.2.2.2.2.2
 have NK : Hid (ka = none → kc = 0) := hid h.2.1.2
 have LK : Hid (ks.length ≤ 1000) := hid h.2.2.2
 have LV : Hid (((w.alloc (.cells (⟨fid, k, md, ln, da, dc, zs, ka, kc, ks⟩ : Nd).cells.toArray 37)).alloc (.cells Nd.no.cells.toArray 37)).heap.size = w.heap.size + 2) := hid (by simp)
 have BV := hid bV
 simp only at KK
 simp only [Nd.val, Nd.cells, Nd.no, List.length_nil, Nd.lie] at *
 clear b0 b1 h0 h hP hsz bV
 have H0 := hid h0'
 have H1 := hid h1
 go_enter Tryz.func54, Tryz.ntmps54
 go_upto_region 1 with fail
 generalize ((w.alloc (.cells #[.int .u32 fid, .int .u8 k, .int .u16 md, .int .u16 ln, .slice da zs.length dc, .slice ka ks.length kc] 37)).alloc (.cells #[.int .u32 0, .int .u8 0, .int .u16 0, .int .u16 0, .slice none 0 0, .slice none 0 0] 37)) = V at *
 obtain ⟨B, hB⟩ : ∃ B, w.heap.size = B := ⟨_, rfl⟩
 have HBB := hid hB
 rw [hB] at h0' h1 H0 H1 LV BV ⊢
 clear hB
 have x4 : V.cell? ⟨B, 4, none⟩ = some (.slice da zs.length dc) := cell_of_row2 h0' 4 rfl
 clear h0' h1
 go_upto_region 2 with (go_at_call 69; refine CB.out.mono ?_; rintro _ w1 ⟨da1, dc1, rfl, hn1, hr1, hb1⟩
                        have bx := (hb1.block _ (lt_blkR H0.out)).trans H0.out
                        have fz : ∀ i, w1.frozen? ⟨B, i, none⟩ = false := fun i => by simp [World.frozen?, bx]
                        have y4 : w1.cell? ⟨B, 4, none⟩ = some (.slice da zs.length dc) := cell_of_row2 bx 4 rfl
                        have BX := hid bx
                        have R1 := hid hr1
                        have N1 := hid hn1
                        have K1 := hid hb1
                        clear bx hr1 hn1 hb1 x4)
 have bx2 : (w1.setCell ⟨B, 4, none⟩ (.slice da1 zs.length dc1)).heap[B]? = some (.cells #[.int .u32 fid, .int .u8 k, .int .u16 md, .int .u16 ln, .slice da1 zs.length dc1, .slice ka ks.length kc] 37) := heap_setCell_same w1 B 4 _ _ _ BX.out
 have rx2 : (w1.setCell ⟨B, 4, none⟩ (.slice da1 zs.length dc1)).heap[B + 1]? = some (.cells #[.int .u32 0, .int .u8 0, .int .u16 0, .int .u16 0, .slice none 0 0, .slice none 0 0] 37) := (Below.heap_setCell _ _ _ _ (by simp)).trans ((K1.out.block _ (lt_blkR H1.out)).trans H1.out)
 have R2 := hid (R1.out.setR (q := ⟨B, 4, none⟩) BX.out (by decide) (.slice da1 zs.length dc1))
 have C2 : Hid (Below B w (w1.setCell ⟨B, 4, none⟩ (.slice da1 zs.length dc1))) := hid ((BV.out.trans (K1.out.mono (by have := LV.out; omega))).setCell (p := ⟨B, 4, none⟩) (Nat.le_refl _) _)
 have hl2 : B < (w1.setCell ⟨B, 4, none⟩ (.slice da1 zs.length dc1)).heap.size := lt_blkR bx2
 have BX2 := hid bx2
 have RX2 := hid rx2
 have SZ2 : Hid (B + 2 ≤ (w1.setCell ⟨B, 4, none⟩ (.slice da1 zs.length dc1)).heap.size) := hid (by have := lt_blkR rx2; omega)
 have KW : Hid (IsKs (w1.setCell ⟨B, 4, none⟩ (.slice da1 zs.length dc1)) ka ks) := hid (KK.out.later (by rw [HBB.out]; exact C2.out))
 clear fz y4 BX R1 K1 CB rx2
 generalize w1.setCell ⟨B, 4, none⟩ (.slice da1 zs.length dc1) = V2 at *
 have CK2 := hid (cloneK_c ka kc ks V2 KW.out NK.out LK.out)
 have x5 : V2.cell? ⟨B, 5, none⟩ = some (.slice ka ks.length kc) := cell_of_row2 bx2 5 rfl
 clear bx2
 go_upto_region 3 with (go_at_call 70; refine CK2.out.mono ?_; rintro _ w3 ⟨ka3, kc3, rfl, ho3, hn3, hb3⟩
                        have bx := (hb3.block _ (lt_blkR BX2.out)).trans BX2.out
                        have fz : ∀ i, w3.frozen? ⟨B, i, none⟩ = false := fun i => by simp [World.frozen?, bx]
                        have y5 : w3.cell? ⟨B, 5, none⟩ = some (.slice ka ks.length kc) := cell_of_row2 bx 5 rfl
                        have BX := hid bx
                        have RX := hid ((hb3.block _ (lt_blkR RX2.out)).trans RX2.out)
                        have O3 := hid ho3
                        have N3 := hid hn3
                        have R3 := hid (R2.out.later hb3)
                        have C3 := hid (C2.out.trans (hb3.mono (by have := SZ2.out; omega)))
                        clear bx ho3 hn3 hb3 x5)
 have bx4 : (w3.setCell ⟨B, 5, none⟩ (.slice ka3 ks.length kc3)).heap[B]? = some (.cells #[.int .u32 fid, .int .u8 k, .int .u16 md, .int .u16 ln, .slice da1 zs.length dc1, .slice ka3 ks.length kc3] 37) := heap_setCell_same w3 B 5 _ _ _ BX.out
 have rx4 : (w3.setCell ⟨B, 5, none⟩ (.slice ka3 ks.length kc3)).heap[B + 1]? = some (.cells #[.int .u32 0, .int .u8 0, .int .u16 0, .int .u16 0, .slice none 0 0, .slice none 0 0] 37) := (Below.heap_setCell _ _ _ _ (by simp)).trans RX.out
 have R4 := hid (R3.out.setR (q := ⟨B, 5, none⟩) BX.out (by decide) (.slice ka3 ks.length kc3))
 have O4 := hid (own_set O3.out (p := ⟨B, 5, none⟩) (by show B < _; exact hl2) (.slice ka3 ks.length kc3))
 have C4 := hid (C3.out.setCell (p := ⟨B, 5, none⟩) (Nat.le_refl _) (.slice ka3 ks.length kc3))
 clear fz y5 BX RX R3 O3 C3 CK2 KW
 generalize w3.setCell ⟨B, 5, none⟩ (.slice ka3 ks.length kc3) = V4 at *
 have x0 : V4.cell? ⟨B, 0, none⟩ = some (.int .u32 fid) := cell_of_row2 bx4 0 rfl
 have x1 : V4.cell? ⟨B, 1, none⟩ = some (.int .u8 k) := cell_of_row2 bx4 1 rfl
 have x2 : V4.cell? ⟨B, 2, none⟩ = some (.int .u16 md) := cell_of_row2 bx4 2 rfl
 have x3 : V4.cell? ⟨B, 3, none⟩ = some (.int .u16 ln) := cell_of_row2 bx4 3 rfl
 have x4 : V4.cell? ⟨B, 4, none⟩ = some (.slice da1 zs.length dc1) := cell_of_row2 bx4 4 rfl
 have x5 : V4.cell? ⟨B, 5, none⟩ = some (.slice ka3 ks.length kc3) := cell_of_row2 bx4 5 rfl
 have r0 : V4.cell? ⟨B + 1, 0, none⟩ = some (.int .u32 0) := cell_of_row2 rx4 0 rfl
 have r1 : V4.cell? ⟨B + 1, 1, none⟩ = some (.int .u8 0) := cell_of_row2 rx4 1 rfl
 have r2 : V4.cell? ⟨B + 1, 2, none⟩ = some (.int .u16 0) := cell_of_row2 rx4 2 rfl
 have r3 : V4.cell? ⟨B + 1, 3, none⟩ = some (.int .u16 0) := cell_of_row2 rx4 3 rfl
 have r4 : V4.cell? ⟨B + 1, 4, none⟩ = some (.slice none 0 0) := cell_of_row2 rx4 4 rfl
 have r5 : V4.cell? ⟨B + 1, 5, none⟩ = some (.slice none 0 0) := cell_of_row2 rx4 5 rfl
 have fz : ∀ i, V4.frozen? ⟨B + 1, i, none⟩ = false := fun i => by simp [World.frozen?, rx4]
 have RX4 := hid rx4
 clear bx4 rx4
 go_wp2
 have e0 := RX4.out
 have e1 := heap_setCell_same _ (B + 1) 0 _ _ (.int .u32 fid) e0
 have e2 := heap_setCell_same _ (B + 1) 1 _ _ (.int .u8 k) e1
 have e3 := heap_setCell_same _ (B + 1) 2 _ _ (.int .u16 md) e2
 have e4 := heap_setCell_same _ (B + 1) 3 _ _ (.int .u16 ln) e3
 have e5 := heap_setCell_same _ (B + 1) 4 _ _ (.slice da1 zs.length dc1) e4
 have e6 := heap_setCell_same _ (B + 1) 5 _ _ (.slice ka3 ks.length kc3) e5
 refine bodyPost_ret (v := .agg #[.int .u32 fid, .int .u8 k, .int .u16 md, .int .u16 ln, .slice da1 zs.length dc1, .slice ka3 ks.length kc3]) (by simp [results, Tryz.results54, go_sem, r0, r1, r2, r3, r4, r5]) rfl ⟨da1, dc1, ka3, kc3, rfl, ?_, ?_⟩
 · rw [HBB.out]
   refine ⟨FT.out, ⟨N1.out, N3.out⟩, ?_, ?_⟩
   · exact RowAt.lowR ((((((R4.out.setR (q := ⟨B + 1, 0, none⟩) e0 (by decide) (.int .u32 fid)).setR (q := ⟨B + 1, 1, none⟩) e1 (by decide) (.int .u8 k)).setR (q := ⟨B + 1, 2, none⟩) e2 (by decide) (.int .u16 md)).setR (q := ⟨B + 1, 3, none⟩) e3 (by decide) (.int .u16 ln)).setR (q := ⟨B + 1, 4, none⟩) e4 (by decide) (.slice da1 zs.length dc1)).setR (q := ⟨B + 1, 5, none⟩) e5 (by decide) (.slice ka3 ks.length kc3)) (by have := LV.out; omega)
   · exact own_low (own_set (own_set (own_set (own_set (own_set (own_set O4.out (p := ⟨B + 1, 0, none⟩) (by show B + 1 < _; have := SZ2.out; omega) (.int .u32 fid)) (p := ⟨B + 1, 1, none⟩) (by show B + 1 < _; have := SZ2.out; omega) (.int .u8 k)) (p := ⟨B + 1, 2, none⟩) (by show B + 1 < _; have := SZ2.out; omega) (.int .u16 md)) (p := ⟨B + 1, 3, none⟩) (by show B + 1 < _; have := SZ2.out; omega) (.int .u16 ln)) (p := ⟨B + 1, 4, none⟩) (by show B + 1 < _; have := SZ2.out; omega) (.slice da1 zs.length dc1)) (p := ⟨B + 1, 5, none⟩) (by show B + 1 < _; have := SZ2.out; omega) (.slice ka3 ks.length kc3)) (by have := SZ2.out; omega)
 · rw [HBB.out]
   exact ((((((C4.out.setCell (p := ⟨B + 1, 0, none⟩) (Nat.le_succ _) (.int .u32 fid)).setCell (p := ⟨B + 1, 1, none⟩) (Nat.le_succ _) (.int .u8 k)).setCell (p := ⟨B + 1, 2, none⟩) (Nat.le_succ _) (.int .u16 md)).setCell (p := ⟨B + 1, 3, none⟩) (Nat.le_succ _) (.int .u16 ln)).setCell (p := ⟨B + 1, 4, none⟩) (Nat.le_succ _) (.slice da1 zs.length dc1)).setCell (p := ⟨B + 1, 5, none⟩) (Nat.le_succ _) (.slice ka3 ks.length kc3))
end Go.Proofs.YtkokjkaclcjnjaaGreatDoor
