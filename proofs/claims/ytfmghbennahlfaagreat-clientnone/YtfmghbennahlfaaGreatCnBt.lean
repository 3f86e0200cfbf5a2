/-
  
-/
import Derived.Test.YtfmghbennahlfaaGreatCnBn
import Derived.Test.YtfmghbennahlfaaGreatCnBr
import Derived.Test.YtfmghbennahlfaaGreatCnBs
namespace Go.Proofs.YtfmghbennahlfaaGreat
open Go.RowKit Go.ChangeShapes Go.WideShapes Go.ChangeAt
set_option linter.unusedVariables false
set_option linter.unusedSimpArgs false
set_option maxRecDepth 100000
def GtP (o : Option Nd) (w : World) (e : Ending) (w' : World) : Prop := (match o with
 | none => e = .returned (.tuple #[Nd.no.val, .bool false])
 | some x => ∃ y : Nd, e = .returned (.tuple #[y.val, .bool true]) ∧ y.er = x.er ∧ NdP w' y) ∧ Below w.heap.size w w'
set_option maxHeartbeats 2000000 in
theorem tGet_c (a : Option Addr) (cap : Nat) (l : List Nd) (f : Int) (w : World) (h : Tr w a l) (hm : l.length ≤ 100000) :
   Calls Tryz.prog 28 #[.slice a l.length cap, .int .u32 f] w (GtP (getF l f) w) := by
 have b0 := below_1 w (.cells Nd.no.cells.toArray 40)
 have h0 := heap_alloc_new w (.cells Nd.no.cells.toArray 40)
 have hV := h.later b0
 have PC := hid (placeOf_c a cap l f _ hV.1 hm)
 have B0 := hid b0
 have H0 := hid h0
 have hsV : w.heap.size < (w.alloc (.cells Nd.no.cells.toArray 40)).heap.size := lt_blkR h0
 have H := hid hV
 clear b0 h0 h hV
 cases hx : getF l f with
 | none =>
   rw [pl_none hx] at PC
   clear H hx
   generalize l.length = n at *
   go_enter Tryz.func28, Tryz.ntmps28
   go_upto_region 1 with fail
   change Code.wp _ _ _ _ (w.alloc (.cells Nd.no.cells.toArray 40))
   generalize (w.alloc (.cells Nd.no.cells.toArray 40)) = V at *
   go_wp2_with (go_at_call 60; refine PC.out.mono ?_; rintro _ w1 ⟨rfl, hb1⟩; have h1 := (hb1.block _ hsV).trans H0.out; have fz : ∀ i, w1.frozen? ⟨w.heap.size, i, none⟩ = false := (fun i => by simp [World.frozen?, h1]); obtain ⟨q0, q1, q2, q3, q4, q5⟩ := nd_cells h1; simp only [Nd.no, List.length_nil] at q0 q1 q2 q3 q4 q5; have B1 := hid (B0.out.trans (hb1.mono B0.out.size)); clear hb1 h1)
   refine bodyPost_ret (v := .tuple #[Nd.no.val, .bool false]) (by simp [results, Tryz.results28, go_sem, Nd.val, Nd.no, q0, q1, q2, q3, q4, q5]) rfl ⟨rfl, ?_⟩
   exact (((((B1.out.setCell (p := ⟨w.heap.size, 0, none⟩) (Nat.le_refl _) _).setCell (p := ⟨w.heap.size, 1, none⟩) (Nat.le_refl _) _).setCell (p := ⟨w.heap.size, 2, none⟩) (Nat.le_refl _) _).setCell (p := ⟨w.heap.size, 3, none⟩) (Nat.le_refl _) _).setCell (p := ⟨w.heap.size, 4, none⟩) (Nat.le_refl _) _).setCell (p := ⟨w.heap.size, 5, none⟩) (Nat.le_refl _) _
 | some x =>
   obtain ⟨i, e1, e2, e3⟩ := pl_some hx
   rw [e1] at PC
   obtain ⟨b, off, rfl, _⟩ := H.out.1.2.2 (by omega)
   have hxm : x ∈ l := by rw [← e3]; exact getD_mem _ _ e2
   have NP := hid (H.out.nd hxm)
   have HA := hid (H.out.1.at (i := i) e2)
   rw [e3] at HA
   have e2I : (i : Int) < l.length := by omega
   clear H hx e1 e3 hxm
   generalize l.length = n at *
   go_enter Tryz.func28, Tryz.ntmps28
   go_upto_region 1 with fail
   change Code.wp _ _ _ _ (w.alloc (.cells Nd.no.cells.toArray 40))
   generalize (w.alloc (.cells Nd.no.cells.toArray 40)) = V at *
   obtain ⟨xf, xk, xm, xl, xda, xdc, xzs, xka, xkc, xks⟩ := x
   have CO : Hid (∀ W, Below V.heap.size V W → Calls Tryz.prog 63 #[.agg #[.int .u32 xf, .int .u8 xk, .int .u16 xm, .int .u16 xl, .slice xda xzs.length xdc, .slice xka xks.length xkc]] W fun e w' => ∃ da dc ka kc, e = .returned (.agg #[.int .u32 xf, .int .u8 xk, .int .u16 xm, .int .u16 xl, .slice da xzs.length dc, .slice ka xks.length kc]) ∧ NdW w' W.heap.size ⟨xf, xk, xm, xl, da, dc, xzs, ka, kc, xks⟩ ∧ Below W.heap.size W w') := hid (fun W hW => copyOf_c ⟨xf, xk, xm, xl, xda, xdc, xzs, xka, xkc, xks⟩ W (NP.out.later hW))
   have CC : Hid (∀ W, Below V.heap.size V W → NdC W b (off + i * 6) ⟨xf, xk, xm, xl, xda, xdc, xzs, xka, xkc, xks⟩) := hid (fun W hW => HA.out.later hW)
   clear NP HA
   go_wp2_with (first
     | (go_at_call 60; refine PC.out.mono ?_; rintro _ w1 ⟨rfl, hb1⟩; have B1 := hid hb1; clear hb1; obtain ⟨y0, y1, y2, y3, y4, y5⟩ := (CC.out w1 B1.out).all; have E1 := hid (CO.out w1 B1.out))
     | (go_at_call 63; refine E1.out.mono ?_; rintro _ w2 ⟨da, dc, ka, kc, rfl, hW2, hb2⟩; have B2 := hid (B1.out.trans (hb2.mono B1.out.size)); have W2 := hid hW2.r; clear hb2 hW2; have h1 := (B2.out.block _ hsV).trans H0.out; have fz : ∀ i, w2.frozen? ⟨w.heap.size, i, none⟩ = false := (fun i => by simp [World.frozen?, h1]); obtain ⟨q0, q1, q2, q3, q4, q5⟩ := nd_cells h1; simp only [Nd.no, List.length_nil] at q0 q1 q2 q3 q4 q5; clear h1))
   have hs1 : w.heap.size < w1.heap.size := Nat.lt_of_lt_of_le hsV B1.out.size
   have B3 : Below w.heap.size w w2 := B0.out.trans (B2.out.mono B0.out.size)
   refine bodyPost_ret (v := .tuple #[(⟨xf, xk, xm, xl, da, dc, xzs, ka, kc, xks⟩ : Nd).val, .bool true]) (by simp [results, Tryz.results28, go_sem, Nd.val, q0, q1, q2, q3, q4, q5]) rfl ⟨⟨⟨xf, xk, xm, xl, da, dc, xzs, ka, kc, xks⟩, rfl, rfl, ?_⟩, ?_⟩
   · exact ((((((W2.out.setLow hs1).setLow hs1).setLow hs1).setLow hs1).setLow hs1).setLow hs1).p
   · exact (((((B3.setCell (p := ⟨w.heap.size, 0, none⟩) (Nat.le_refl _) _).setCell (p := ⟨w.heap.size, 1, none⟩) (Nat.le_refl _) _).setCell (p := ⟨w.heap.size, 2, none⟩) (Nat.le_refl _) _).setCell (p := ⟨w.heap.size, 3, none⟩) (Nat.le_refl _) _).setCell (p := ⟨w.heap.size, 4, none⟩) (Nat.le_refl _) _).setCell (p := ⟨w.heap.size, 5, none⟩) (Nat.le_refl _) _
end Go.Proofs.YtfmghbennahlfaaGreat
namespace Go.Proofs.YtfmghbennahlfaaGreat
open Go.RowKit Go.ChangeShapes Go.WideShapes Go.ChangeAt Go.Maps Go.Shelf
set_option linter.unusedVariables false
set_option linter.unusedSimpArgs false
set_option maxRecDepth 100000
theorem getM_c {a : Option Addr} {l : List Nd} {w : World} (cap : Nat) (h : Tr w a l) (he : l.map Nd.er = vwL []) : Calls Tryz.prog 28 #[.slice a l.length cap, .int .u32 16777217] w fun e w' => e = .returned (.tuple #[.agg #[.int .u32 0, .int .u8 0, .int .u16 0, .int .u16 0, .slice none 0 0, .slice none 0 0], .bool false]) ∧ Below w.heap.size w w' := by
 have hl : l.length ≤ 100000 := by
   have : (l.map Nd.er).length = 1 := by rw [he]; exact vw_len (.inl rfl)
   rw [List.length_map] at this; omega
 have hg : getF l 16777217 = none := by
   have := getF_erM l 16777217
   rw [he, vw_getM] at this
   cases hx : getF l 16777217 with
   | none => rfl
   | some x => rw [hx] at this; cases this
 refine (tGet_c a cap l 16777217 w h hl).mono ?_
 intro e w' hq
 unfold GtP at hq
 rw [hg] at hq
 exact hq
theorem get1_c {a : Option Addr} {l : List Nd} {w : World} (cap : Nat) (h : Tr w a l) (he : l.map Nd.er = vwL []) : Calls Tryz.prog 28 #[.slice a l.length cap, .int .u32 1] w fun e w' => ∃ da dc ka kc, e = .returned (.tuple #[.agg #[.int .u32 1, .int .u8 2, .int .u16 0, .int .u16 0, .slice da 0 dc, .slice ka 0 kc], .bool true]) ∧ Below w.heap.size w w' := by
 have hl : l.length ≤ 100000 := by
   have : (l.map Nd.er).length = 1 := by rw [he]; exact vw_len (.inl rfl)
   rw [List.length_map] at this; omega
 have hn : getF (vwL []) 1 = some ⟨1, 2, 0, 0, none, 0, [], none, 0, []⟩ := by rw [vw_0]; rfl
 cases hx : getF l 1 with
 | none =>
   have := getF_erM l 1
   rw [he, hn, hx] at this
   cases this
 | some x =>
   have hxe : x.er = ⟨1, 2, 0, 0, none, 0, [], none, 0, []⟩ := by
     have := getF_erM l 1
     rw [he, hn, hx] at this
     exact (Option.some.inj this).symm
   refine (tGet_c a cap l 1 w h hl).mono ?_
   intro e w' hq
   unfold GtP at hq
   rw [hx] at hq
   obtain ⟨⟨y, rfl, hy, _⟩, hb⟩ := hq
   rw [hxe] at hy
   obtain ⟨fid, k, md, ln, da, dc, zs, ka, kc, ks⟩ := y
   unfold Nd.er Nd.lie at hy
   simp only [Nd.mk.injEq] at hy
   obtain ⟨e1, e2, e3, e4, _, _, e5, _, _, e6⟩ := hy
   subst e1; subst e2; subst e3; subst e4; subst e5; subst e6
   exact ⟨da, dc, ka, kc, rfl, hb⟩
theorem nil_log {w : World} {lv : Value} {L : List Rec} (h : LgM w lv L) (hL : L = []) : lv = .slice none 0 0 := by
 subst hL
 rcases h with ⟨h, _⟩ | ⟨lb, cap, cur, o, _, h, _⟩
 · exact h
 · cases h
theorem names_M : nameL oM = [16777217, 1] := by decide +kernel
theorem names2_c (W : World) : Calls Tryz.prog 79 #[.agg #[.int .u8 2, .int .u32 16777217, .int .u32 1, .string ⟨#[97]⟩, .int .u32 0, .string ⟨#[]⟩, .int .u16 0, .string ⟨#[]⟩]] W fun e w' => ∃ g cap, e = .returned (.slice (some ⟨g, 0, none⟩) 2 cap) ∧ w'.cell? ⟨g, 0, none⟩ = some (.int .u32 16777217) ∧ w'.cell? ⟨g, 1, none⟩ = some (.int .u32 1) ∧ Below W.heap.size W w' := (tnames_c oM W).mono (fun e w' q => by
   obtain ⟨v, rfl, ho, hb⟩ := q
   rw [names_M] at ho
   obtain ⟨va, vn, vc, rfl⟩ := own_sliceY ho
   rcases ho.2 with ⟨_, hn⟩ | ⟨g, cap, cur, h1, _, _, _, _, _, _⟩
   · exact absurd hn (by decide)
   · cases h1
     obtain ⟨_, e1, c1⟩ := own_at32 ho (k := 0) (by decide)
     obtain ⟨_, e2, c2⟩ := own_at32 ho (k := 1) (by decide)
     cases e1; cases e2
     exact ⟨g, vc, rfl, c1, c2, hb⟩)
set_option maxHeartbeats 4000000 in
theorem cfau_c {base : Nat} {w : World} {c : Cv} (h : CvM base w c) (hL : c.L = []) (hk : CaK c.ca) (hp : c.ca.has 1 = false → c.lk = true → (∀ i, c.ca.f i = none) ∧ c.ca.m = 0) (a : Option Addr) (cap : Nat) (l : List Nd) (ht : Tr w a l) (he : l.map Nd.er = vwL []) :
   Calls Tryz.prog 75 #[.pointer (some ⟨c.p, 0, none⟩), .slice a l.length cap, .agg #[.int .u8 2, .int .u32 16777217, .int .u32 1, .string ⟨#[97]⟩, .int .u32 0, .string ⟨#[]⟩, .int .u16 0, .string ⟨#[]⟩]] w (RchP base c w) := by
 have b0 := below_1 w (.cells #[.int .u8 2, .int .u32 16777217, .int .u32 1, .string ⟨#[97]⟩, .int .u32 0, .string ⟨#[]⟩, .int .u16 0, .string ⟨#[]⟩] 111)
 have g0 := heap_alloc_new w (.cells #[.int .u8 2, .int .u32 16777217, .int .u32 1, .string ⟨#[97]⟩, .int .u32 0, .string ⟨#[]⟩, .int .u16 0, .string ⟨#[]⟩] 111)
 have B0 := hid b0
 have RO : Hid (∀ W, Calls Tryz.prog 135 #[.agg #[.int .u8 2, .int .u32 16777217, .int .u32 1, .string ⟨#[97]⟩, .int .u32 0, .string ⟨#[]⟩, .int .u16 0, .string ⟨#[]⟩]] W fun e w' => e = .returned (.bool true) ∧ Below W.heap.size W w') := hid (fun W => by have := rightOp_c oM W (by decide) (by decide); rw [oM_right] at this; exact this)
 have NC := hid (fun W => names2_c W)
 have GM := hid (fun W (hW : Below w.heap.size w W) => getM_c cap (ht.later hW) he)
 have G1 := hid (fun W (hW : Below w.heap.size w W) => get1_c cap (ht.later hW) he)
 have H := hid h
 have TRH := hid ht
 have RC := hid (fun W (hW : Below w.heap.size w W) => reach_c (h.later hW) hk hp)
 have AC : Hid (∀ W, Tr W a l → Calls Tryz.prog 141 #[.slice a l.length cap, .agg #[.int .u8 2, .int .u32 16777217, .int .u32 1, .string ⟨#[97]⟩, .int .u32 0, .string ⟨#[]⟩, .int .u16 0, .string ⟨#[]⟩]] W fun e w' => ∃ v, e = .returned (.tuple #[v, .int .i64 0]) ∧ Below W.heap.size W w') := hid (fun W hW => by
   have hE : ApplyL (l.map Nd.er) oM = ApplyL newL oM := by rw [he, vw_0]
   have hz : l.length = 1 := by
     have : (l.map Nd.er).length = 1 := by rw [he]; exact vw_len (.inl rfl)
     rwa [List.length_map] at this
   refine (tApply_c sortC a cap l oM W hW (by omega) oM_wf (by rw [hE, oM_apply.2]; decide) (fun X b tb N hM hR R => ?_)).mono ?_
   · rw [← List.length_map (f := Nd.er)] at hM
     have := tdo_2 oM (l := l.map Nd.er) (by simpa using hM) hR R oM_wf oM_right rfl
     exact this
   · rintro e w' ⟨v, l', rfl, _, _, hb⟩
     rw [hE, oM_apply.1]
     exact ⟨v, rfl, hb⟩)
 have LV : Hid (∀ W c', CvM base W c' → c'.p = c.p → c'.lv = c.lv → W.cell? ⟨c.p, 6, none⟩ = some (.slice none 0 0)) := hid (fun W c' hW e1 e2 => by
   have : W.cell? ⟨c'.p, 6, none⟩ = some c'.lv := cell_of_row2 hW.2.2.1 6 rfl
   rw [e1, e2, nil_log h.2.2.2.2.2.1 hL] at this
   exact this)
 have q0 : (w.alloc (.cells #[.int .u8 2, .int .u32 16777217, .int .u32 1, .string ⟨#[97]⟩, .int .u32 0, .string ⟨#[]⟩, .int .u16 0, .string ⟨#[]⟩] 111)).heap.size = w.heap.size + 1 := by simp
 have KB : Hid (∀ W, Below (w.alloc (.cells #[.int .u8 2, .int .u32 16777217, .int .u32 1, .string ⟨#[97]⟩, .int .u32 0, .string ⟨#[]⟩, .int .u16 0, .string ⟨#[]⟩] 111)).heap.size (w.alloc (.cells #[.int .u8 2, .int .u32 16777217, .int .u32 1, .string ⟨#[97]⟩, .int .u32 0, .string ⟨#[]⟩, .int .u16 0, .string ⟨#[]⟩] 111)) W → W.heap[w.heap.size]? = some (.cells #[.int .u8 2, .int .u32 16777217, .int .u32 1, .string ⟨#[97]⟩, .int .u32 0, .string ⟨#[]⟩, .int .u16 0, .string ⟨#[]⟩] 111 (0, 0))) := hid (fun W hW => (hW.block _ (lt_blkR g0)).trans g0)
 have NT : Hid (¬ Tri c.cb c.cm c.ch w.heap.size) := hid (fun q => by
   obtain ⟨_, _, _, _, _, l1, l2, l3, _⟩ := h.2.1.cells
   rcases q with q | q | q <;> omega)
 have o0 : (w.alloc (.cells #[.int .u8 2, .int .u32 16777217, .int .u32 1, .string ⟨#[97]⟩, .int .u32 0, .string ⟨#[]⟩, .int .u16 0, .string ⟨#[]⟩] 111)).cell? ⟨w.heap.size, 0, none⟩ = some (.int .u8 2) := cell_of_row2 g0 0 rfl
 have o1 : (w.alloc (.cells #[.int .u8 2, .int .u32 16777217, .int .u32 1, .string ⟨#[97]⟩, .int .u32 0, .string ⟨#[]⟩, .int .u16 0, .string ⟨#[]⟩] 111)).cell? ⟨w.heap.size, 1, none⟩ = some (.int .u32 16777217) := cell_of_row2 g0 1 rfl
 have o2 : (w.alloc (.cells #[.int .u8 2, .int .u32 16777217, .int .u32 1, .string ⟨#[97]⟩, .int .u32 0, .string ⟨#[]⟩, .int .u16 0, .string ⟨#[]⟩] 111)).cell? ⟨w.heap.size, 2, none⟩ = some (.int .u32 1) := cell_of_row2 g0 2 rfl
 have o3 : (w.alloc (.cells #[.int .u8 2, .int .u32 16777217, .int .u32 1, .string ⟨#[97]⟩, .int .u32 0, .string ⟨#[]⟩, .int .u16 0, .string ⟨#[]⟩] 111)).cell? ⟨w.heap.size, 3, none⟩ = some (.string ⟨#[97]⟩) := cell_of_row2 g0 3 rfl
 have o4 : (w.alloc (.cells #[.int .u8 2, .int .u32 16777217, .int .u32 1, .string ⟨#[97]⟩, .int .u32 0, .string ⟨#[]⟩, .int .u16 0, .string ⟨#[]⟩] 111)).cell? ⟨w.heap.size, 4, none⟩ = some (.int .u32 0) := cell_of_row2 g0 4 rfl
 have o5 : (w.alloc (.cells #[.int .u8 2, .int .u32 16777217, .int .u32 1, .string ⟨#[97]⟩, .int .u32 0, .string ⟨#[]⟩, .int .u16 0, .string ⟨#[]⟩] 111)).cell? ⟨w.heap.size, 5, none⟩ = some (.string ⟨#[]⟩) := cell_of_row2 g0 5 rfl
 have o6 : (w.alloc (.cells #[.int .u8 2, .int .u32 16777217, .int .u32 1, .string ⟨#[97]⟩, .int .u32 0, .string ⟨#[]⟩, .int .u16 0, .string ⟨#[]⟩] 111)).cell? ⟨w.heap.size, 6, none⟩ = some (.int .u16 0) := cell_of_row2 g0 6 rfl
 have o7 : (w.alloc (.cells #[.int .u8 2, .int .u32 16777217, .int .u32 1, .string ⟨#[97]⟩, .int .u32 0, .string ⟨#[]⟩, .int .u16 0, .string ⟨#[]⟩] 111)).cell? ⟨w.heap.size, 7, none⟩ = some (.string ⟨#[]⟩) := cell_of_row2 g0 7 rfl
 have BVW := hid (show Below w.heap.size w (w.alloc (.cells #[.int .u8 2, .int .u32 16777217, .int .u32 1, .string ⟨#[97]⟩, .int .u32 0, .string ⟨#[]⟩, .int .u16 0, .string ⟨#[]⟩] 111)) from b0)
 unfold RchP at RC ⊢
 clear h ht b0 g0 q0 hk hp
 go_enter Tryz.func75, Tryz.ntmps75
 go_upto_region 1 with fail
 generalize (w.alloc (.cells #[.int .u8 2, .int .u32 16777217, .int .u32 1, .string ⟨#[97]⟩, .int .u32 0, .string ⟨#[]⟩, .int .u16 0, .string ⟨#[]⟩] 111)) = V at *
 go_wp2_with (first
   | (go_at_call 79; refine (NC.out _).mono ?_; rintro _ w2 ⟨g, nc, rfl, n0, n1, hb2⟩; have B2 := hid (B1.out.trans (hb2.mono B1.out.size)); clear hb2)
   | (go_at_call 135; refine (RO.out _).mono ?_; rintro _ w1 ⟨rfl, hb1⟩; have B1 := hid hb1; have R1 := KB.out _ hb1; have oo0 : w1.cell? ⟨w.heap.size, 0, none⟩ = some (.int .u8 2) := cell_of_row2 R1 0 rfl; have oo1 : w1.cell? ⟨w.heap.size, 1, none⟩ = some (.int .u32 16777217) := cell_of_row2 R1 1 rfl; have oo2 : w1.cell? ⟨w.heap.size, 2, none⟩ = some (.int .u32 1) := cell_of_row2 R1 2 rfl; have oo3 : w1.cell? ⟨w.heap.size, 3, none⟩ = some (.string ⟨#[97]⟩) := cell_of_row2 R1 3 rfl; have oo4 : w1.cell? ⟨w.heap.size, 4, none⟩ = some (.int .u32 0) := cell_of_row2 R1 4 rfl; have oo5 : w1.cell? ⟨w.heap.size, 5, none⟩ = some (.string ⟨#[]⟩) := cell_of_row2 R1 5 rfl; have oo6 : w1.cell? ⟨w.heap.size, 6, none⟩ = some (.int .u16 0) := cell_of_row2 R1 6 rfl; have oo7 : w1.cell? ⟨w.heap.size, 7, none⟩ = some (.string ⟨#[]⟩) := cell_of_row2 R1 7 rfl; clear hb1 R1))
 have n0 := n0
 refine wp_loop_rounds 3 ?_
 rw [rounds_succ]
 have DV := hid (BVW.out.trans (B2.out.mono BVW.out.size))
 go_wp2_with (first
   | (go_at_call 28; refine (GM.out _ DV.out).mono ?_; rintro _ w3 ⟨rfl, hb3⟩; have B3 := hid (B2.out.trans (hb3.mono B2.out.size)); have D3 := hid (DV.out.trans (hb3.mono DV.out.size)); have m1 := cell_later hb3 n1; clear hb3))
 have bx := below_1 w3 (.cells #[.int .u32 0, .int .u8 0, .int .u16 0, .int .u16 0, .slice none 0 0, .slice none 0 0] 40)
 have D4 := hid (D3.out.trans (bx.mono D3.out.size))
 have B4 := hid (B3.out.trans (bx.mono B3.out.size))
 have m4 := cell_later bx m1
 clear n0 n1 m1 bx
 generalize (w3.alloc (.cells #[.int .u32 0, .int .u8 0, .int .u16 0, .int .u16 0, .slice none 0 0, .slice none 0 0] 40)) = X at *
 have R5C := hid (fun W (hW : Below V.heap.size V W) (W' : World) (ho : Ou (Tri c.cb c.cm c.ch) W W') => (ho.block _ (lt_blkR (KB.out W hW)) NT.out).trans (KB.out W hW))
 by_cases hr : rchB c = true
 · have HR := hid hr
   have RC1 : Hid (∀ W, Below w.heap.size w W → Calls Tryz.prog 27 #[.pointer (some ⟨c.p, 0, none⟩), .int .u32 1] W fun e w' => e = .returned (.int .i64 0) ∧ CvM base w' (rchC c) ∧ Ou (Tri c.cb c.cm c.ch) W w') := hid (fun W hW => by have := RC.out W hW; rw [if_pos hr] at this; exact this)
   have TR5 := hid (fun W (hW : Below w.heap.size w W) (W' : World) (ho : Ou (Tri c.cb c.cm c.ch) W W') => (TRH.out.later hW).cst (Cst.of (H.out.later hW).2.1 ho))
   clear RC hr
   rw [rounds_succ]
   go_wp2_with (first
     | (go_at_call 27; refine (RC1.out _ D6.out).mono ?_; rintro _ w5 ⟨rfl, hc5, ho5⟩; have C5 := hid hc5; have O5 := hid ho5; have T5 := hid (TR5.out _ D6.out _ ho5); have r5 := R5C.out _ B6.out _ ho5; have oo0 : w5.cell? ⟨w.heap.size, 0, none⟩ = some (.int .u8 2) := cell_of_row2 r5 0 rfl; have oo1 : w5.cell? ⟨w.heap.size, 1, none⟩ = some (.int .u32 16777217) := cell_of_row2 r5 1 rfl; have oo2 : w5.cell? ⟨w.heap.size, 2, none⟩ = some (.int .u32 1) := cell_of_row2 r5 2 rfl; have oo3 : w5.cell? ⟨w.heap.size, 3, none⟩ = some (.string ⟨#[97]⟩) := cell_of_row2 r5 3 rfl; have oo4 : w5.cell? ⟨w.heap.size, 4, none⟩ = some (.int .u32 0) := cell_of_row2 r5 4 rfl; have oo5 : w5.cell? ⟨w.heap.size, 5, none⟩ = some (.string ⟨#[]⟩) := cell_of_row2 r5 5 rfl; have oo6 : w5.cell? ⟨w.heap.size, 6, none⟩ = some (.int .u16 0) := cell_of_row2 r5 6 rfl; have oo7 : w5.cell? ⟨w.heap.size, 7, none⟩ = some (.string ⟨#[]⟩) := cell_of_row2 r5 7 rfl; clear hc5 ho5 r5)
     | (go_at_call 28; refine (G1.out _ D4.out).mono ?_; rintro _ w4 ⟨da, dc, ka, kc, rfl, hb4⟩; have D6 := hid ((D4.out.trans (hb4.mono D4.out.size)).trans ((below_1 w4 (.cells #[.int .u32 1, .int .u8 2, .int .u16 0, .int .u16 0, .slice da 0 dc, .slice ka 0 kc] 40)).mono (Nat.le_trans D4.out.size hb4.size))); have B6 := hid ((B4.out.trans (hb4.mono B4.out.size)).trans ((below_1 w4 (.cells #[.int .u32 1, .int .u8 2, .int .u16 0, .int .u16 0, .slice da 0 dc, .slice ka 0 kc] 40)).mono (Nat.le_trans B4.out.size hb4.size))); clear hb4))
   rw [rounds_succ]
   go_wp2_with (go_at_call 141; refine (AC.out _ T5.out).mono ?_; rintro _ w6 ⟨v6, rfl, hb6⟩; have C6 := hid (C5.out.later hb6); have O6 := hid (((Ou.of D6.out).trans O5.out).trans (Ou.of hb6)); have l6 := LV.out w6 (rchC c) C6.out rfl rfl; clear hb6)
   go_ret
   exact ⟨rfl, C6.out, O6.out⟩
 · have HR := hid hr
   have RC1 : Hid (∀ W, Below w.heap.size w W → Calls Tryz.prog 27 #[.pointer (some ⟨c.p, 0, none⟩), .int .u32 1] W fun e w' => e = .returned (.int .i64 11) ∧ CvM base w' (rchC c) ∧ Ou (Tri c.cb c.cm c.ch) W w') := hid (fun W hW => by have := RC.out W hW; rw [if_neg hr] at this; exact this)
   clear RC hr
   rw [rounds_succ]
   go_wp2_with (first
     | (go_at_call 27; refine (RC1.out _ D6.out).mono ?_; rintro _ w5 ⟨rfl, hc5, ho5⟩; have C5 := hid hc5; have O5 := hid ((Ou.of D6.out).trans ho5); clear hc5 ho5)
     | (go_at_call 28; refine (G1.out _ D4.out).mono ?_; rintro _ w4 ⟨da, dc, ka, kc, rfl, hb4⟩; have D6 := hid ((D4.out.trans (hb4.mono D4.out.size)).trans ((below_1 w4 (.cells #[.int .u32 1, .int .u8 2, .int .u16 0, .int .u16 0, .slice da 0 dc, .slice ka 0 kc] 40)).mono (Nat.le_trans D4.out.size hb4.size))); clear hb4))
   go_ret
   exact ⟨rfl, C5.out, O5.out⟩
end Go.Proofs.YtfmghbennahlfaaGreat
