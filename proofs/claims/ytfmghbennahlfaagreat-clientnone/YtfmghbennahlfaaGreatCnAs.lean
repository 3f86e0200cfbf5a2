/-
  
-/
import Derived.Test.YtfmghbennahlfaaGreatCnAr
import Derived.Deep.RegionHeld3
import Derived.Test.YtfmghbennahlfaaGreatCnAa
import Derived.Deep.RegionWith
namespace Go.Proofs.YtfmghbennahlfaaGreat
open Go.RowKit Go.ChangeShapes Go.WideShapes Go.ChangeAt Go.Maps Go.Shelf
set_option linter.unusedVariables false
set_option linter.unusedSimpArgs false
set_option maxRecDepth 100000
def kb (x : Nd) : Option Nat := x.ka.map (·.block)
def KAp (L : List Nd) : Prop := L.Pairwise fun x y => ∀ b, kb x = some b → kb y ≠ some b
theorem NdW.kblk {w : World} {base : Nat} {x : Nd} (h : NdW w base x) {b : Nat} (hb : kb x = some b) : base ≤ b ∧ b < w.heap.size := by
 unfold kb at hb
 cases ha : x.ka with
 | none => rw [ha] at hb; cases hb
 | some p =>
   rw [ha] at hb
   cases hb
   obtain ⟨_, _, _, hk⟩ := h
   rw [ha] at hk
   rcases hk.2 with ⟨hv, hn⟩ | ⟨g, cap, cur, hv, hg, hh, hr⟩
   · cases hv
   · cases hv
     exact ⟨hg, lt_blkR hh⟩
theorem NdW.grown {w w' : World} {base b : Nat} {x : Nd} {v : Value} {L : List Nd} (h : NdW w base x) (hown : OwN w b v L) (hg : w.grownBy w' v.ownBlock) : NdW w' base x :=
 ⟨h.1, h.2.1, h.2.2.1.grown hown (by decide) hg, own_other h.2.2.2 hown (by decide) hg⟩
set_option maxHeartbeats 4000000 in
theorem copyAll_c (a : Option Addr) (cap : Nat) (l : List Nd) (w : World) (h : Tr w a l) (hm : l.length ≤ 1000) :
   Calls Tryz.prog 109 #[.slice a l.length cap] w fun e w' => ∃ v L, e = .returned v ∧ OwN w' w.heap.size v L ∧ L.map Nd.er = l.map Nd.er ∧ (∀ x ∈ L, NdW w' w.heap.size x) ∧ KAp L ∧ Below w.heap.size w w' := by
 have H := hid h
 obtain ⟨i0, hi, hz0, hz1, hz2⟩ := info_nd
 obtain ⟨n, hn⟩ : ∃ n, n = l.length := ⟨_, rfl⟩
 rw [← hn] at hm ⊢
 have HN := hid hn
 clear h hn
 go_enter Tryz.func109, Tryz.ntmps109
 go_wp2_with (at_make; refine wpList_make_own _ rfl _ _ 49 rfl w.heap.size 40 i0 _ 6 Tryz.underlying49 hi hz0 hz1 _ _ _ n rfl rfl (by omega) (by rw [hz2]; omega) (by unfold maxLen; omega) (Nat.le_refl _) ?_; intro w1 hown0 hgr0)
 have O0 : Hid (OwN w1 w.heap.size (.slice (some ⟨w.heap.size, 0, none⟩) 0 n) []) := hid hown0
 have B0 : Hid (Below w.heap.size w w1) := hid ((Below.refl _ _).grown hgr0 (Nat.le_refl _) (fun k hk => by cases hk))
 clear hown0 hgr0
 go_loopg [3, 11] n (fun gk v j wr => ∃ (m : Nat) (L : List Nd), m + gk = n ∧ Hid (L.length = m) ∧ j = .int .i64 m ∧ Hid (OwN wr w.heap.size v L) ∧ Hid (L.map Nd.er = (l.take m).map Nd.er) ∧ Hid (∀ x ∈ L, NdW wr w.heap.size x) ∧ Hid (KAp L) ∧ Hid (Below w.heap.size w wr))
 case atStart => exact ⟨0, [], by omega, hid rfl, rfl, O0, hid rfl, hid (fun x hx => by cases hx), hid List.Pairwise.nil, B0⟩
 case round =>
   obtain ⟨m, L, hm2, HL, rfl, HO, HE, HR, HA, HB⟩ := hrel
   obtain ⟨va, vc, rfl⟩ := HO.out.shape
   by_cases hlt : m < n
   · have hltI : (m : Int) < n := by omega
     have hln : m < l.length := by rw [← HN.out]; exact hlt
     have hL1000 : L.length ≤ 1000 := by have := HL.out; omega
     obtain ⟨b, off, rfl, _⟩ := H.out.1.2.2 (by omega)
     have hI := H.out.later HB.out
     obtain ⟨y0, y1, y2, y3, y4, y5⟩ := (hI.1.at (i := m) hln).all
     have XP := hid (hI.nd (getD_mem l Nd.no hln))
     have TK : Hid ((l.take (m + 1)).map Nd.er = (l.take m).map Nd.er ++ [(l.getD m Nd.no).er]) := hid (by
       rw [List.take_add_one, List.getElem?_eq_getElem hln, List.map_append]
       simp [List.getD, hln])
     clear hI hln
     generalize l.getD m Nd.no = x at *
     obtain ⟨xf, xk, xm, xl, xda, xdc, xzs, xka, xkc, xks⟩ := x
     simp only at y0 y1 y2 y3 y4 y5
     go_upto_region 5 with fail
     have b1 := below_1 wr (.cells #[.int .u32 xf, .int .u8 xk, .int .u16 xm, .int .u16 xl, .slice xda xzs.length xdc, .slice xka xks.length xkc] 40)
     have bx := heap_alloc_new wr (.cells #[.int .u32 xf, .int .u8 xk, .int .u16 xm, .int .u16 xl, .slice xda xzs.length xdc, .slice xka xks.length xkc] 40)
     have CC := hid (copyOf_c ⟨xf, xk, xm, xl, xda, xdc, xzs, xka, xkc, xks⟩ _ (XP.out.later b1))
     simp only [Nd.val, Nd.lie] at CC
     have B1 := hid b1
     clear b1 y0 y1 y2 y3 y4 y5
     generalize (wr.alloc (.cells #[.int .u32 xf, .int .u8 xk, .int .u16 xm, .int .u16 xl, .slice xda xzs.length xdc, .slice xka xks.length xkc] 40)) = V at *
     generalize hgg : wr.heap.size = g0 at *
     have HG := hid hgg
     clear hgg
     have x0 : V.cell? ⟨g0, 0, none⟩ = some (.int .u32 xf) := cell_of_row2 bx 0 rfl
     have x1 : V.cell? ⟨g0, 1, none⟩ = some (.int .u8 xk) := cell_of_row2 bx 1 rfl
     have x2 : V.cell? ⟨g0, 2, none⟩ = some (.int .u16 xm) := cell_of_row2 bx 2 rfl
     have x3 : V.cell? ⟨g0, 3, none⟩ = some (.int .u16 xl) := cell_of_row2 bx 3 rfl
     have x4 : V.cell? ⟨g0, 4, none⟩ = some (.slice xda xzs.length xdc) := cell_of_row2 bx 4 rfl
     have x5 : V.cell? ⟨g0, 5, none⟩ = some (.slice xka xks.length xkc) := cell_of_row2 bx 5 rfl
     clear bx
     go_wp2_with (first
       | (at_builtin; refine wpList_appNd _ rfl _ _ rfl w.heap.size _ L rfl O8.out w3.heap.size _ ⟨xf, xk, xm, xl, da3, dc3, xzs, ka3, kc3, xks⟩ rfl N8.out (by omega) B8.out.size ?_; intro v9 w9 hown9 hgrow9)
       | (go_at_call 63; refine CC.out.mono ?_; rintro _ w3 ⟨da3, dc3, ka3, kc3, rfl, hw3, hb3⟩
          have C3 := hid (B1.out.trans (hb3.mono (by have := B1.out.size; have := HG.out; omega)))
          rw [← HG.out] at C3
          have b8 := below_1 w3 (.cells (⟨xf, xk, xm, xl, da3, dc3, xzs, ka3, kc3, xks⟩ : Nd).cells.toArray 40)
          have N8 := hid (heap_alloc_new w3 (.cells (⟨xf, xk, xm, xl, da3, dc3, xzs, ka3, kc3, xks⟩ : Nd).cells.toArray 40))
          have C8 := hid (C3.out.trans (b8.mono C3.out.size))
          have O8 := hid (HO.out.later C8.out)
          have B8 := hid (HB.out.trans (C8.out.mono HB.out.size))
          have W8 := hid (hw3.later b8)
          have SV : Hid (wr.heap.size ≤ V.heap.size) := hid (by have := B1.out.size; have := HG.out; omega)
          clear hw3 hb3 b8))
     have HB9 := hid (below_grownN B8.out O8.out (Nat.le_refl _) B8.out.size hgrow9)
     have HO9 := hid hown9
     have HR9 : Hid (∀ x ∈ L ++ [⟨xf, xk, xm, xl, da3, dc3, xzs, ka3, kc3, xks⟩], NdW w9 w.heap.size x) := hid (fun x hx => by
       rcases List.mem_append.1 hx with hx | hx
       · exact ((HR.out x hx).later C8.out).grown O8.out hgrow9
       · rw [List.mem_singleton] at hx
         subst hx
         exact (W8.out.low (Nat.le_trans HB.out.size SV.out)).grown O8.out hgrow9)
     have HA9 : Hid (KAp (L ++ [(⟨xf, xk, xm, xl, da3, dc3, xzs, ka3, kc3, xks⟩ : Nd)])) := hid (by
       unfold KAp
       rw [List.pairwise_append]
       refine ⟨HA.out, List.pairwise_singleton _ _, fun x hx y hy b hb hy2 => ?_⟩
       rw [List.mem_singleton] at hy
       subst hy
       have h1 := ((HR.out x hx).kblk hb).2
       have h2 := (W8.out.kblk hy2).1
       have := SV.out
       omega)
     have EL : Hid ((L ++ [(⟨xf, xk, xm, xl, da3, dc3, xzs, ka3, kc3, xks⟩ : Nd)]).map Nd.er = (l.take (m + 1)).map Nd.er) := hid (by rw [TK.out, List.map_append, HE.out]; rfl)
     clear hown9 hgrow9
     go_roundg (gk - 1)
     case measure => omega
     case rel => exact ⟨m + 1, _, by omega, hid (by rw [List.length_append, HL.out]; rfl), by go_num, HO9, EL, HR9, HA9, HB9⟩
   · have em : m = n := by omega
     subst em
     have hge : ¬ (m : Int) < m := by omega
     have EF : Hid (L.map Nd.er = l.map Nd.er) := hid (by rw [HE.out, List.take_of_length_le (by rw [← HN.out]; exact Nat.le_refl _)])
     go_wp2
     go_ret
     exact ⟨_, rfl, L, HO.out, EF.out, HR.out, HA.out, HB.out⟩
def plI (l : List Nd) (f : Int) : Int := match l.findIdx? (fun x => x.fid == f) with
 | some i => i
 | none => -1
def enI (l : List Kd) (s : ByteArray) : Int := match l.findIdx? (fun k => decide (k.nm = s)) with
 | some i => i
 | none => -1
theorem findIdx_at {α : Type} {p : α → Bool} {d : α} : ∀ {l : List α} {m : Nat}, m < l.length → (∀ i, i < m → p (l.getD i d) = false) → p (l.getD m d) = true → l.findIdx? p = some m
 | [], m, hm, _, _ => by cases hm
 | x :: t, 0, _, _, h1 => by
   have : p x = true := h1
   simp [List.findIdx?_cons, this]
 | x :: t, m + 1, hm, h0, h1 => by
   have hx : p x = false := h0 0 (by omega)
   rw [List.findIdx?_cons, hx]
   have := findIdx_at (l := t) (m := m) (p := p) (d := d) (by simpa using hm) (fun i hi => h0 (i + 1) (by omega)) h1
   simp [this]
theorem findIdx_no {α : Type} {p : α → Bool} {d : α} {l : List α} (h : ∀ i, i < l.length → p (l.getD i d) = false) : l.findIdx? p = none := by
 rw [List.findIdx?_eq_none_iff]
 intro x hx
 obtain ⟨i, hi, rfl⟩ := List.getElem_of_mem hx
 have := h i hi
 rwa [List.getD, List.getElem?_eq_getElem hi] at this
set_option maxHeartbeats 2000000 in
theorem plIx_c (g : Nat) (a : Option Addr) (cap : Nat) (l : List Nd) (f : Int) (w : World) (h : IsNs w a l) (hg : w.heap[g]? = some (.cells #[.int .u32 f] 35)) (hm : l.length ≤ 100000) :
   Calls Tryz.prog 122 #[.slice a l.length cap, .func (.func 123) #[] #[.pointer (some ⟨g, 0, none⟩)]] w fun e w' => e = .returned (.int .i64 (plI l f)) ∧ Below w.heap.size w w' := by
 have H := hid h
 have HG := hid hg
 obtain ⟨R, hR⟩ : ∃ R, R = plI l f := ⟨_, rfl⟩
 rw [← hR]
 have HR := hid hR
 obtain ⟨n, hn⟩ : ∃ n, n = l.length := ⟨_, rfl⟩
 have HN := hid hn
 rw [← hn] at hm ⊢
 clear h hg hR hn
 go_enter Tryz.func122, Tryz.ntmps122
 go_wp2
 go_loopg [8] n (fun gk i wr => ∃ m : Nat, m + gk = n ∧ i = .int .i64 m ∧ Hid (Below w.heap.size w wr) ∧ Hid (∀ i, i < m → ((l.getD i Nd.no).fid == f) = false))
 case atStart => exact ⟨0, by omega, rfl, hid (Below.refl _ _), hid (fun i hi => by omega)⟩
 case round =>
   obtain ⟨m, hm2, rfl, HB, HF⟩ := hrel
   by_cases hlt : m < n
   · have hltI : (m : Int) < n := by omega
     have hln : m < l.length := by rw [← HN.out]; exact hlt
     obtain ⟨b, off, rfl, _⟩ := H.out.2.2 (by omega)
     obtain ⟨y0, y1, y2, y3, y4, y5⟩ := ((H.out.later HB.out).at (i := m) hln).all
     have YES : Hid (((l.getD m Nd.no).fid == f) = true → R = m) := hid (fun e => by rw [HR.out]; unfold plI; rw [findIdx_at (d := Nd.no) hln HF.out e])
     have NX : Hid (((l.getD m Nd.no).fid == f) = false → ∀ i, i < m + 1 → ((l.getD i Nd.no).fid == f) = false) := hid (fun e i hi => by
       by_cases q : i = m
       · rw [q]; exact e
       · exact HF.out i (by omega))
     have c0 : wr.cell? ⟨g, 0, none⟩ = some (.int .u32 f) := cell_of_row2 ((HB.out.block _ (lt_blkR HG.out)).trans HG.out) 0 rfl
     have hgl : g < wr.heap.size := lt_blkR ((HB.out.block _ (lt_blkR HG.out)).trans HG.out)
     clear hln
     generalize l.getD m Nd.no = x at *
     have BX := hid (HB.out.trans ((below_1 wr (.cells #[.int .u32 x.fid, .int .u8 x.k, .int .u16 x.md, .int .u16 x.ln, .slice x.da x.zs.length x.dc, .slice x.ka x.ks.length x.kc] 40)).mono HB.out.size))
     cases q : ((x).fid == f) with
     | true =>
       have ET := hid (YES.out q)
       clear YES NX HF
       skip
       go_wp2
       go_ret
       exact ⟨by rw [ET.out]; rfl, BX.out⟩
     | false =>
       have EX := hid (NX.out q)
       clear YES NX HF
       skip
       go_wp2
       go_roundg (gk - 1)
       case measure => omega
       case rel => exact ⟨m + 1, by omega, by go_num, BX, EX⟩
   · have hge : ¬ (m : Int) < n := by omega
     have EF : Hid (R = -1) := hid (by rw [HR.out]; unfold plI; rw [findIdx_no (d := Nd.no) (fun i hi => HF.out i (by have := HN.out; omega))])
     go_wp2
     go_ret
     exact ⟨by rw [EF.out]; rfl, HB.out⟩
set_option maxHeartbeats 2000000 in
theorem enIx_c (g : Nat) (a : Option Addr) (cap : Nat) (l : List Kd) (s : ByteArray) (w : World) (h : IsKs w a l) (hg : w.heap[g]? = some (.cells #[.string s] 9)) (hm : l.length ≤ 100000) :
   Calls Tryz.prog 185 #[.slice a l.length cap, .func (.func 186) #[] #[.pointer (some ⟨g, 0, none⟩)]] w fun e w' => e = .returned (.int .i64 (enI l s)) ∧ Below w.heap.size w w' := by
 have H := hid h
 have HG := hid hg
 obtain ⟨R, hR⟩ : ∃ R, R = enI l s := ⟨_, rfl⟩
 rw [← hR]
 have HR := hid hR
 obtain ⟨n, hn⟩ : ∃ n, n = l.length := ⟨_, rfl⟩
 have HN := hid hn
 rw [← hn] at hm ⊢
 clear h hg hR hn
 go_enter Tryz.func185, Tryz.ntmps185
 go_wp2
 go_loopg [8] n (fun gk i wr => ∃ m : Nat, m + gk = n ∧ i = .int .i64 m ∧ Hid (Below w.heap.size w wr) ∧ Hid (∀ i, i < m → (decide ((l.getD i Kd.no).nm = s)) = false))
 case atStart => exact ⟨0, by omega, rfl, hid (Below.refl _ _), hid (fun i hi => by omega)⟩
 case round =>
   obtain ⟨m, hm2, rfl, HB, HF⟩ := hrel
   by_cases hlt : m < n
   · have hltI : (m : Int) < n := by omega
     have hln : m < l.length := by rw [← HN.out]; exact hlt
     obtain ⟨b, off, rfl, _⟩ := H.out.2.2 (by omega)
     obtain ⟨k0, k1⟩ := (H.out.later HB.out).at (i := m) hln
     have YES : Hid ((decide ((l.getD m Kd.no).nm = s)) = true → R = m) := hid (fun e => by rw [HR.out]; unfold enI; rw [findIdx_at (d := Kd.no) hln HF.out e])
     have NX : Hid ((decide ((l.getD m Kd.no).nm = s)) = false → ∀ i, i < m + 1 → (decide ((l.getD i Kd.no).nm = s)) = false) := hid (fun e i hi => by
       by_cases q : i = m
       · rw [q]; exact e
       · exact HF.out i (by omega))
     have c0 : wr.cell? ⟨g, 0, none⟩ = some (.string s) := cell_of_row2 ((HB.out.block _ (lt_blkR HG.out)).trans HG.out) 0 rfl
     have hgl : g < wr.heap.size := lt_blkR ((HB.out.block _ (lt_blkR HG.out)).trans HG.out)
     clear hln
     generalize l.getD m Kd.no = x at *
     have BX := hid (HB.out.trans ((below_1 wr (.cells #[.string x.nm, .int .u32 x.fid] 66)).mono HB.out.size))
     cases q : (decide ((x).nm = s)) with
     | true =>
       have ET := hid (YES.out q)
       clear YES NX HF
       rw [← ba_eq] at q
       go_wp2
       go_ret
       exact ⟨by rw [ET.out]; rfl, BX.out⟩
     | false =>
       have EX := hid (NX.out q)
       clear YES NX HF
       rw [← ba_eq] at q
       go_wp2
       go_roundg (gk - 1)
       case measure => omega
       case rel => exact ⟨m + 1, by omega, by go_num, BX, EX⟩
   · have hge : ¬ (m : Int) < n := by omega
     have EF : Hid (R = -1) := hid (by rw [HR.out]; unfold enI; rw [findIdx_no (d := Kd.no) (fun i hi => HF.out i (by have := HN.out; omega))])
     go_wp2
     go_ret
     exact ⟨by rw [EF.out]; rfl, HB.out⟩
set_option maxHeartbeats 1000000 in
theorem placeOf_c (a : Option Addr) (cap : Nat) (l : List Nd) (f : Int) (w : World) (h : IsNs w a l) (hm : l.length ≤ 100000) :
   Calls Tryz.prog 60 #[.slice a l.length cap, .int .u32 f] w fun e w' => e = .returned (.int .i64 (plI l f)) ∧ Below w.heap.size w w' := by
 have b0 := below_1 w (.cells #[.int .u32 f] 35)
 have IC := hid (plIx_c w.heap.size a cap l f _ (h.later b0) (heap_alloc_new w _) hm)
 have B0 := hid b0
 clear h b0
 go_enter Tryz.func60, Tryz.ntmps60
 go_wp2_with (go_at_call 122; refine IC.out.mono ?_; rintro _ w1 ⟨rfl, hb1⟩)
 go_ret
 exact ⟨rfl, B0.out.trans (hb1.mono B0.out.size)⟩
set_option maxHeartbeats 1000000 in
theorem entryOf_c (b o : Nat) (x : Nd) (s : ByteArray) (w : World) (hc : w.cell? ⟨b, o + 5, none⟩ = some (.slice x.ka x.ks.length x.kc)) (h : IsKs w x.ka x.ks) (hm : x.ks.length ≤ 100000) :
   Calls Tryz.prog 121 #[.pointer (some ⟨b, o, none⟩), .string s] w fun e w' => e = .returned (.int .i64 (enI x.ks s)) ∧ Below w.heap.size w w' := by
 have b0 := below_1 w (.cells #[.string s] 9)
 have IC := hid (enIx_c w.heap.size x.ka x.kc x.ks s _ (h.later b0) (heap_alloc_new w _) hm)
 have c5 : (w.alloc (.cells #[.string s] 9)).cell? ⟨b, o + 5, none⟩ = some (.slice x.ka x.ks.length x.kc) := cell_later b0 hc
 have B0 := hid b0
 clear h b0 hc
 go_enter Tryz.func121, Tryz.ntmps121
 go_upto_region 1 with fail
 generalize w.alloc (.cells #[.string s] 9) = V at *
 go_wp2_with (go_at_call 185; refine IC.out.mono ?_; rintro _ w1 ⟨rfl, hb1⟩)
 go_ret
 exact ⟨rfl, B0.out.trans (hb1.mono B0.out.size)⟩
end Go.Proofs.YtfmghbennahlfaaGreat
namespace Go.Proofs.YtfmghbennahlfaaGreat
open Go.RowKit Go.ChangeShapes Go.WideShapes Go.ChangeAt
set_option linter.unusedVariables false
set_option maxRecDepth 100000
theorem at_drop {l r : List Oper} {i : Nat} {o : Oper} (h : l.drop i = o :: r) : l.toArray[i]? = some o := by
 have := congrArg (fun x : List Oper => x[0]?) h
 simpa using this
theorem take_l {P : Program} {md : Region.Mode} {l r : List Oper} {Q : Exit → Act → World → Prop} {S : World → Prop} (i : Nat) {oi : Oper} {v : Value} {fuel : Nat} {listed : Array Bool} {a : Act} {w : World} (hi : l.drop i = oi :: r)
   (hs : Region.noSelect l.toArray = true) (hf : Region.free md l.toArray listed i = true) (hr : (Region.ready md l.toArray listed).contains i = true)
   (hQ : ∀ c a w, Q (.panic c) (a.put oi.dst v) w → Q (.panic c) a w) (hy : YieldsIf P l.toArray S oi v a) (hS : S w)
   (h : wpAnyH P md l.toArray Q S fuel (listed.setIfInBounds i true) (a.put oi.dst v) w) : wpAnyH P md l.toArray Q S (fuel + 1) listed a w :=
 wpAnyH_take (at_drop hi) hs hf hr hQ hy hS h
theorem cons_l {P : Program} {md : Region.Mode} {l r : List Oper} {Q : Exit → Act → World → Prop} {S : World → Prop} (i : Nat) {fuel : Nat} {listed : Array Bool} {a : Act} {w : World} {o : Oper} (ho : l.drop i = o :: r)
   (hr : Region.ready md l.toArray listed = [i])
   (h : ∀ K' : Act → World → Prop, Shut (∀ a w, S w → (S w → wpAnyH P md l.toArray Q S fuel (listed.setIfInBounds i true) a w) → K' a w) → if Region.wanted o (yielded l.toArray a.tmps) = true then Oper.wp P o a w K' Q else K' (a.put o.dst undef) w) :
   wpAnyH P md l.toArray Q S (fuel + 1) listed a w :=
 wpAnyH_ready hr (by simp) (AllReadyH.cons (at_drop ho) h AllReadyH.nil)
end Go.Proofs.YtfmghbennahlfaaGreat
namespace Go.Proofs.YtfmghbennahlfaaGreat
open Go.RowKit Go.ChangeShapes Go.WideShapes Go.ChangeAt Go.Maps Go.Shelf
set_option linter.unusedVariables false
set_option linter.unusedSimpArgs false
set_option maxRecDepth 100000
theorem cons_2 {P : Program} {md : Region.Mode} {l r r' : List Oper} {Q : Exit → Act → World → Prop} {S : World → Prop} (i j : Nat) {fuel : Nat} {listed : Array Bool} {a : Act} {w : World} {o o' : Oper} (ho : l.drop i = o :: r) (ho' : l.drop j = o' :: r')
   (hr : Region.ready md l.toArray listed = [i, j])
   (h : ∀ K' : Act → World → Prop, Shut (∀ a w, S w → (S w → wpAnyH P md l.toArray Q S fuel (listed.setIfInBounds i true) a w) → K' a w) → if Region.wanted o (yielded l.toArray a.tmps) = true then Oper.wp P o a w K' Q else K' (a.put o.dst undef) w)
   (h' : ∀ K' : Act → World → Prop, Shut (∀ a w, S w → (S w → wpAnyH P md l.toArray Q S fuel (listed.setIfInBounds j true) a w) → K' a w) → if Region.wanted o' (yielded l.toArray a.tmps) = true then Oper.wp P o' a w K' Q else K' (a.put o'.dst undef) w) :
   wpAnyH P md l.toArray Q S (fuel + 1) listed a w :=
 wpAnyH_ready hr (by simp) (AllReadyH.cons (at_drop ho) h (AllReadyH.cons (at_drop ho') h' AllReadyH.nil))
theorem two_cells {W : World} {A T : Nat} {u0 u1 : Value} (h : W.heap[A]? = some (.cells #[u0, u1] T (0, 0))) (v0 v1 : Value) :
   ((W.setCell ⟨A, 0, none⟩ v0).setCell ⟨A, 1, none⟩ v1).heap[A]? = some (.cells #[v0, v1] T (0, 0)) := by
 simp only [World.setCell]
 simp [Array.getElem?_modify, h]
theorem newTr {w : World} {g : Nat} (h : w.heap[g]? = some (.cells #[.int .u32 1, .int .u8 2, .int .u16 0, .int .u16 0, .slice none 0 0, .slice none 0 0] 40 (0, 0))) : Tr w (some ⟨g, 0, none⟩) newL := by
 refine ⟨⟨by show 1 ≤ maxLen; unfold maxLen; omega, fun x hx => ?_, fun _ => ⟨_, 0, rfl, fun i hi => ?_⟩⟩, fun x hx => ?_⟩
 · rw [newL, List.mem_singleton] at hx
   subst hx
   exact ⟨⟨by decide, by decide⟩, ⟨by decide, by decide⟩, ⟨by decide, by decide⟩, ⟨by decide, by decide⟩, (no_ok _).2.2.2.2.1, (no_ok _).2.2.2.2.2⟩
 · have e : i = 0 := by simp [newL] at hi; omega
   subst e
   intro j v hv
   rw [Nat.zero_add, cell_of_row _ _ _ _ _ _ h, ← Array.getElem?_toList]
   exact hv
 · rw [newL, List.mem_singleton] at hx
   subst hx
   exact ⟨⟨fun _ => rfl, fun _ => rfl⟩, Nat.zero_le _, Nat.zero_le _⟩
set_option maxHeartbeats 1000000 in
theorem newRow_c (w : World) : Calls Tryz.prog 224 #[] w fun e w' => ∃ g, e = .returned (.slice (some ⟨g, 0, none⟩) 1 1) ∧ w.heap.size ≤ g ∧ w'.heap[g]? = some (.cells #[.int .u32 1, .int .u8 2, .int .u16 0, .int .u16 0, .slice none 0 0, .slice none 0 0] 40 (0, 0)) ∧ Below w.heap.size w w' := by
 have b1 := below_1 w (.cells #[.int .u32 1, .int .u8 2, .int .u16 0, .int .u16 0, .slice none 0 0, .slice none 0 0] 40)
 have h1 := heap_alloc_new w (.cells #[.int .u32 1, .int .u8 2, .int .u16 0, .int .u16 0, .slice none 0 0, .slice none 0 0] 40)
 go_enter Tryz.func224, Tryz.ntmps224
 go_wp2
 go_ret
 exact ⟨_, rfl, Nat.le_refl _, h1, b1⟩
set_option maxHeartbeats 4000000 in
theorem firstSnap_c (w : World) : Calls Tryz.prog 169 #[] w fun e w' => ∃ g s, e = .returned (.agg #[.slice (some ⟨g, 0, none⟩) 1 1, .slice (some ⟨s, 0, none⟩) 1 1]) ∧ w.heap.size ≤ g ∧ w.heap.size ≤ s ∧ w'.heap[g]? = some (.cells #[.int .u32 1, .int .u8 2, .int .u16 0, .int .u16 0, .slice none 0 0, .slice none 0 0] 40 (0, 0)) ∧ w'.heap[s]? = some (.cells #[.int .u32 1, .int .u64 1, .int .u8 0] 200 (0, 0)) ∧ Below w.heap.size w w' := by
 have NC := hid (fun W => newRow_c W)
 go_enter Tryz.func169, Tryz.ntmps169
 go_upto_region 2 with fail
 have b1 := (below_1 w (.cells #[.slice none 0 0, .slice none 0 0] 75))
 have b2 := below_1 (w.alloc (.cells #[.slice none 0 0, .slice none 0 0] 75)) (.cells #[.int .u32 1, .int .u64 1, .int .u8 0] 200)
 have hS := heap_alloc_new (w.alloc (.cells #[.slice none 0 0, .slice none 0 0] 75)) (.cells #[.int .u32 1, .int .u64 1, .int .u8 0] 200)
 have hR := (b2.block _ (lt_blkR (heap_alloc_new w _))).trans (heap_alloc_new w (.cells #[.slice none 0 0, .slice none 0 0] 75))
 have B1 := hid (b1.trans (b2.mono b1.size))
 have hz1 : (w.alloc (.cells #[.slice none 0 0, .slice none 0 0] 75)).heap.size = w.heap.size + 1 := by simp
 rw [hz1] at hS
 clear b1 b2 hz1
 generalize (w.alloc (.cells #[.slice none 0 0, .slice none 0 0] 75)).alloc (.cells #[.int .u32 1, .int .u64 1, .int .u8 0] 200) = V at *
 have HK : Hid (∀ W, Below V.heap.size V W → W.heap[w.heap.size + 1]? = some (.cells #[.int .u32 1, .int .u64 1, .int .u8 0] 200 (0, 0))) := hid (fun W h => (h.block _ (lt_blkR hS)).trans hS)
 have HR : Hid (∀ W, Below V.heap.size V W → W.heap[w.heap.size]? = some (.cells #[.slice none 0 0, .slice none 0 0] 75 (0, 0))) := hid (fun W h => (h.block _ (lt_blkR hR)).trans hR)
 have LR : Hid (w.heap.size < V.heap.size) := hid (lt_blkR hR)
 have D1 := hid (Below.drew (Below.refl V.heap.size V))
 have O0 : ∀ w' : World, w'.heap[w.heap.size + 1]? = some (.cells #[.int .u32 1, .int .u64 1, .int .u8 0] 200 (0, 0)) → w'.cell? ⟨w.heap.size + 1, 0, none⟩ = some (.int .u32 1) := fun w' h => cell_of_row2 h 0 rfl
 have O1 : ∀ w' : World, w'.heap[w.heap.size + 1]? = some (.cells #[.int .u32 1, .int .u64 1, .int .u8 0] 200 (0, 0)) → w'.cell? ⟨w.heap.size + 1, 1, none⟩ = some (.int .u64 1) := fun w' h => cell_of_row2 h 1 rfl
 have O2 : ∀ w' : World, w'.heap[w.heap.size + 1]? = some (.cells #[.int .u32 1, .int .u64 1, .int .u8 0] 200 (0, 0)) → w'.cell? ⟨w.heap.size + 1, 2, none⟩ = some (.int .u8 0) := fun w' h => cell_of_row2 h 2 rfl
 clear hS hR
 go_wp2_with fail
 refine wp_region_held_drew (S := fun w' => w'.heap[w.heap.size + 1]? = some (.cells #[.int .u32 1, .int .u64 1, .int .u8 0] 200 (0, 0))) (by kernel_rfl) (HK.out _ D1.out) (fun hHeld => ?_)
 refine take_l 1 (v := ?_) rfl (by kernel_rfl) (by kernel_rfl) (by kernel_rfl) (fun _ _ _ h => h) (Or.inl ⟨by rfl, ?_⟩) (by assumption) ?_
 rotate_left
 · (intro w' hSw; (have k0 := O0 _ hSw); (have k1 := O1 _ hSw); (have k2 := O2 _ hSw); clear hSw; go_simp; first | done | with_reducible rfl)
 try simp only [Act.put, List.setIfInBounds_toArray, List.set_cons_zero, List.set_cons_succ]
 refine cons_2 0 2 rfl rfl (by kernel_rfl) (fun K hK => ?_) (fun K hK => ?_)
 · skip
   go_simp
   refine (NC.out _).mono ?_; rintro _ w2 ⟨g2, rfl, hg2, hr2, hb2⟩
   have T2 := hid hr2
   have D2 := hid (D1.out.trans (hb2.mono D1.out.size))
   have G2 := hid (show V.heap.size ≤ g2 from Nat.le_trans D1.out.size hg2)
   clear hr2 hb2 hg2
   go_simp
   refine hK.out _ _ (HK.out _ D2.out) (fun hHeld => ?_)
   clear hK K
   try simp only [Act.put, List.setIfInBounds_toArray, List.set_cons_zero, List.set_cons_succ]
   refine cons_l 2 rfl (by kernel_rfl) (fun K hK => ?_)
   go_simp
   have b3 := below_1 w2 (.cells #[.int .u32 1, .int .u64 1, .int .u8 0] 200)
   have N3 := hid (heap_alloc_new w2 (.cells #[.int .u32 1, .int .u64 1, .int .u8 0] 200))
   have D3 := hid (D2.out.trans (b3.mono D2.out.size))
   have T3 := hid ((b3.block _ (lt_blkR T2.out)).trans T2.out)
   have G3 := hid (show V.heap.size ≤ w2.heap.size from D2.out.size)
   generalize w2.heap.size = s3 at *
   generalize w2.alloc (.cells #[.int .u32 1, .int .u64 1, .int .u8 0] 200) = W3 at *
   clear b3
   refine hK.out _ _ (HK.out _ D3.out) (fun hHeld => ?_)
   clear hK K
   try simp only [Act.put, List.setIfInBounds_toArray, List.set_cons_zero, List.set_cons_succ]
   refine take_l 3 (v := ?_) rfl (by kernel_rfl) (by kernel_rfl) (by kernel_rfl) (fun _ _ _ h => h) (Or.inl ⟨by rfl, ?_⟩) (by assumption) ?_
   rotate_left
   · (intro w' hSw; clear hSw; go_simp; first | done | with_reducible rfl)
   try simp only [Act.put, List.setIfInBounds_toArray, List.set_cons_zero, List.set_cons_succ]
   have R3 := HR.out _ D3.out
   have r0 : W3.cell? ⟨w.heap.size, 0, none⟩ = some (.slice none 0 0) := cell_of_row2 R3 0 rfl
   have r1 : W3.cell? ⟨w.heap.size, 1, none⟩ = some (.slice none 0 0) := cell_of_row2 R3 1 rfl
   have fz : ∀ i, W3.frozen? ⟨w.heap.size, i, none⟩ = false := fun i => by simp [World.frozen?, R3]
   refine cons_l 4 rfl (by kernel_rfl) (fun K hK => ?_)
   go_simp
   have Q9 := hid (two_cells R3 (.slice (some ⟨g2, 0, none⟩) 1 1) (.slice (some ⟨s3, 0, none⟩) 1 1))
   have S9 := (Below.heap_setCell (W3.setCell ⟨w.heap.size, 0, none⟩ (.slice (some ⟨g2, 0, none⟩) 1 1)) ⟨w.heap.size, 1, none⟩ (.slice (some ⟨s3, 0, none⟩) 1 1) (w.heap.size + 1) (by simp)).trans ((Below.heap_setCell W3 ⟨w.heap.size, 0, none⟩ (.slice (some ⟨g2, 0, none⟩) 1 1) (w.heap.size + 1) (by simp)).trans (HK.out _ D3.out))
   refine hK.out _ _ S9 (fun hHeld => ?_)
   clear hK K
   try simp only [Act.put, List.setIfInBounds_toArray, List.set_cons_zero, List.set_cons_succ]
   refine wpAnyH_done (by kernel_rfl) ?_ _
   have l9 := LR.out
   have l8 := G2.out
   have l7 := G3.out
   have X1 := (Below.heap_setCell (W3.setCell ⟨w.heap.size, 0, none⟩ (.slice (some ⟨g2, 0, none⟩) 1 1)) ⟨w.heap.size, 1, none⟩ (.slice (some ⟨s3, 0, none⟩) 1 1) g2 (by simp; omega)).trans ((Below.heap_setCell W3 ⟨w.heap.size, 0, none⟩ (.slice (some ⟨g2, 0, none⟩) 1 1) g2 (by simp; omega)).trans T3.out)
   have X2 := (Below.heap_setCell (W3.setCell ⟨w.heap.size, 0, none⟩ (.slice (some ⟨g2, 0, none⟩) 1 1)) ⟨w.heap.size, 1, none⟩ (.slice (some ⟨s3, 0, none⟩) 1 1) s3 (by simp; omega)).trans ((Below.heap_setCell W3 ⟨w.heap.size, 0, none⟩ (.slice (some ⟨g2, 0, none⟩) 1 1) s3 (by simp; omega)).trans N3.out)
   have B9 := hid ((((B1.out.trans (D3.out.mono B1.out.size)).setCell (p := ⟨w.heap.size, 0, none⟩) (Nat.le_refl _) (.slice (some ⟨g2, 0, none⟩) 1 1)).setCell (p := ⟨w.heap.size, 1, none⟩) (Nat.le_refl _) (.slice (some ⟨s3, 0, none⟩) 1 1)))
   have X1h := hid X1
   have X2h := hid X2
   have q9 := Q9.out
   clear X1 X2 S9 r0 r1 fz R3
   generalize ((W3.setCell ⟨w.heap.size, 0, none⟩ (.slice (some ⟨g2, 0, none⟩) 1 1)).setCell ⟨w.heap.size, 1, none⟩ (.slice (some ⟨s3, 0, none⟩) 1 1)) = W9 at *
   have r0 : W9.cell? ⟨w.heap.size, 0, none⟩ = some (.slice (some ⟨g2, 0, none⟩) 1 1) := cell_of_row2 q9 0 rfl
   have r1 : W9.cell? ⟨w.heap.size, 1, none⟩ = some (.slice (some ⟨s3, 0, none⟩) 1 1) := cell_of_row2 q9 1 rfl
   go_wp2
   refine bodyPost_ret (v := .agg #[.slice (some ⟨g2, 0, none⟩) 1 1, .slice (some ⟨s3, 0, none⟩) 1 1]) (by simp [results, Tryz.results169, go_sem, r0, r1]) rfl ⟨_, _, rfl, by omega, by omega, X1h.out, X2h.out, B9.out⟩
 · skip
   go_simp
   have N2 : Hid ((V.alloc (.cells #[.int .u32 1, .int .u64 1, .int .u8 0] 200)).drew.heap[V.heap.size]? = some (.cells #[.int .u32 1, .int .u64 1, .int .u8 0] 200 (0, 0))) := hid (heap_alloc_new V (.cells #[.int .u32 1, .int .u64 1, .int .u8 0] 200))
   have D2 : Hid (Below V.heap.size V (V.alloc (.cells #[.int .u32 1, .int .u64 1, .int .u8 0] 200)).drew) := hid (Below.drew (below_1 V (.cells #[.int .u32 1, .int .u64 1, .int .u8 0] 200)))
   obtain ⟨s3, hs3⟩ : ∃ s3, s3 = V.heap.size := ⟨_, rfl⟩
   have G3 : Hid (V.heap.size ≤ s3) := hid (by omega)
   have HS3 := hid hs3
   generalize (V.alloc (.cells #[.int .u32 1, .int .u64 1, .int .u8 0] 200)).drew = W2 at *
   refine hK.out _ _ (HK.out _ D2.out) (fun hHeld => ?_)
   clear hK K
   try simp only [Act.put, List.setIfInBounds_toArray, List.set_cons_zero, List.set_cons_succ]
   refine cons_l 0 rfl (by kernel_rfl) (fun K hK => ?_)
   go_simp
   refine (NC.out _).mono ?_; rintro _ W3 ⟨g2, rfl, hg2, hr2, hb2⟩
   have T3 := hid hr2
   have D3 := hid (D2.out.trans (hb2.mono D2.out.size))
   have G2 := hid (show V.heap.size ≤ g2 from Nat.le_trans D2.out.size hg2)
   have N3 : Hid (W3.heap[s3]? = some (.cells #[.int .u32 1, .int .u64 1, .int .u8 0] 200 (0, 0))) := hid (by rw [HS3.out]; exact (hb2.block _ (lt_blkR N2.out)).trans N2.out)
   clear hr2 hb2 hg2 N2
   rw [← hs3]
   clear hs3
   go_simp
   refine hK.out _ _ (HK.out _ D3.out) (fun hHeld => ?_)
   clear hK K
   try simp only [Act.put, List.setIfInBounds_toArray, List.set_cons_zero, List.set_cons_succ]
   refine take_l 3 (v := ?_) rfl (by kernel_rfl) (by kernel_rfl) (by kernel_rfl) (fun _ _ _ h => h) (Or.inl ⟨by rfl, ?_⟩) (by assumption) ?_
   rotate_left
   · (intro w' hSw; clear hSw; go_simp; first | done | with_reducible rfl)
   try simp only [Act.put, List.setIfInBounds_toArray, List.set_cons_zero, List.set_cons_succ]
   have R3 := HR.out _ D3.out
   have r0 : W3.cell? ⟨w.heap.size, 0, none⟩ = some (.slice none 0 0) := cell_of_row2 R3 0 rfl
   have r1 : W3.cell? ⟨w.heap.size, 1, none⟩ = some (.slice none 0 0) := cell_of_row2 R3 1 rfl
   have fz : ∀ i, W3.frozen? ⟨w.heap.size, i, none⟩ = false := fun i => by simp [World.frozen?, R3]
   refine cons_l 4 rfl (by kernel_rfl) (fun K hK => ?_)
   go_simp
   have Q9 := hid (two_cells R3 (.slice (some ⟨g2, 0, none⟩) 1 1) (.slice (some ⟨s3, 0, none⟩) 1 1))
   have S9 := (Below.heap_setCell (W3.setCell ⟨w.heap.size, 0, none⟩ (.slice (some ⟨g2, 0, none⟩) 1 1)) ⟨w.heap.size, 1, none⟩ (.slice (some ⟨s3, 0, none⟩) 1 1) (w.heap.size + 1) (by simp)).trans ((Below.heap_setCell W3 ⟨w.heap.size, 0, none⟩ (.slice (some ⟨g2, 0, none⟩) 1 1) (w.heap.size + 1) (by simp)).trans (HK.out _ D3.out))
   refine hK.out _ _ S9 (fun hHeld => ?_)
   clear hK K
   try simp only [Act.put, List.setIfInBounds_toArray, List.set_cons_zero, List.set_cons_succ]
   refine wpAnyH_done (by kernel_rfl) ?_ _
   have l9 := LR.out
   have l8 := G2.out
   have l7 := G3.out
   have X1 := (Below.heap_setCell (W3.setCell ⟨w.heap.size, 0, none⟩ (.slice (some ⟨g2, 0, none⟩) 1 1)) ⟨w.heap.size, 1, none⟩ (.slice (some ⟨s3, 0, none⟩) 1 1) g2 (by simp; omega)).trans ((Below.heap_setCell W3 ⟨w.heap.size, 0, none⟩ (.slice (some ⟨g2, 0, none⟩) 1 1) g2 (by simp; omega)).trans T3.out)
   have X2 := (Below.heap_setCell (W3.setCell ⟨w.heap.size, 0, none⟩ (.slice (some ⟨g2, 0, none⟩) 1 1)) ⟨w.heap.size, 1, none⟩ (.slice (some ⟨s3, 0, none⟩) 1 1) s3 (by simp; omega)).trans ((Below.heap_setCell W3 ⟨w.heap.size, 0, none⟩ (.slice (some ⟨g2, 0, none⟩) 1 1) s3 (by simp; omega)).trans N3.out)
   have B9 := hid ((((B1.out.trans (D3.out.mono B1.out.size)).setCell (p := ⟨w.heap.size, 0, none⟩) (Nat.le_refl _) (.slice (some ⟨g2, 0, none⟩) 1 1)).setCell (p := ⟨w.heap.size, 1, none⟩) (Nat.le_refl _) (.slice (some ⟨s3, 0, none⟩) 1 1)))
   have X1h := hid X1
   have X2h := hid X2
   have q9 := Q9.out
   clear X1 X2 S9 r0 r1 fz R3
   generalize ((W3.setCell ⟨w.heap.size, 0, none⟩ (.slice (some ⟨g2, 0, none⟩) 1 1)).setCell ⟨w.heap.size, 1, none⟩ (.slice (some ⟨s3, 0, none⟩) 1 1)) = W9 at *
   have r0 : W9.cell? ⟨w.heap.size, 0, none⟩ = some (.slice (some ⟨g2, 0, none⟩) 1 1) := cell_of_row2 q9 0 rfl
   have r1 : W9.cell? ⟨w.heap.size, 1, none⟩ = some (.slice (some ⟨s3, 0, none⟩) 1 1) := cell_of_row2 q9 1 rfl
   go_wp2
   refine bodyPost_ret (v := .agg #[.slice (some ⟨g2, 0, none⟩) 1 1, .slice (some ⟨s3, 0, none⟩) 1 1]) (by simp [results, Tryz.results169, go_sem, r0, r1]) rfl ⟨_, _, rfl, by omega, by omega, X1h.out, X2h.out, B9.out⟩
theorem seven_cells {W : World} {A T : Nat} {u0 u1 u2 u3 u4 u5 u6 : Value} (h : W.heap[A]? = some (.cells #[u0, u1, u2, u3, u4, u5, u6] T (0, 0))) (v0 v1 v2 v3 v4 v5 v6 : Value) :
   (((((((W.setCell ⟨A, 0, none⟩ (v0)).setCell ⟨A, 1, none⟩ (v1)).setCell ⟨A, 2, none⟩ (v2)).setCell ⟨A, 3, none⟩ (v3)).setCell ⟨A, 4, none⟩ (v4)).setCell ⟨A, 5, none⟩ (v5)).setCell ⟨A, 6, none⟩ (v6)).heap[A]? = some (.cells #[v0, v1, v2, v3, v4, v5, v6] T (0, 0)) := by
 simp only [World.setCell]
 simp [Array.getElem?_modify, h]
set_option maxHeartbeats 4000000 in
theorem firstState_c (w : World) : Calls Tryz.prog 106 #[] w fun e w' => ∃ g s, e = .returned (.agg #[.slice (some ⟨g, 0, none⟩) 1 1, .slice (some ⟨s, 0, none⟩) 1 1, .slice none 0 0, .int .i64 0, .int .u32 0, .int .u32 1, .slice none 0 0]) ∧ w.heap.size ≤ g ∧ w.heap.size ≤ s ∧ w'.heap[g]? = some (.cells #[.int .u32 1, .int .u8 2, .int .u16 0, .int .u16 0, .slice none 0 0, .slice none 0 0] 40 (0, 0)) ∧ w'.heap[s]? = some (.cells #[.int .u32 1, .int .u64 1, .int .u8 0] 200 (0, 0)) ∧ Below w.heap.size w w' := by
 have FC := hid (fun W => firstSnap_c W)
 have b1 := below_1 w (.cells #[.slice none 0 0, .slice none 0 0, .slice none 0 0, .int .i64 0, .int .u32 0, .int .u32 0, .slice none 0 0] 77)
 have hR := heap_alloc_new w (.cells #[.slice none 0 0, .slice none 0 0, .slice none 0 0, .int .i64 0, .int .u32 0, .int .u32 0, .slice none 0 0] 77)
 have B1 := hid b1
 have HR : Hid (∀ W, Below (w.alloc (.cells #[.slice none 0 0, .slice none 0 0, .slice none 0 0, .int .i64 0, .int .u32 0, .int .u32 0, .slice none 0 0] 77)).heap.size (w.alloc (.cells #[.slice none 0 0, .slice none 0 0, .slice none 0 0, .int .i64 0, .int .u32 0, .int .u32 0, .slice none 0 0] 77)) W → W.heap[w.heap.size]? = some (.cells #[.slice none 0 0, .slice none 0 0, .slice none 0 0, .int .i64 0, .int .u32 0, .int .u32 0, .slice none 0 0] 77 (0, 0))) := hid (fun W h => (h.block _ (lt_blkR hR)).trans hR)
 have SZ : Hid ((w.alloc (.cells #[.slice none 0 0, .slice none 0 0, .slice none 0 0, .int .i64 0, .int .u32 0, .int .u32 0, .slice none 0 0] 77)).heap.size = w.heap.size + 1) := hid (by simp)
 clear b1 hR
 go_enter Tryz.func106, Tryz.ntmps106
 go_wp2_with (go_at_call 169; refine (FC.out _).mono ?_; rintro _ w1 ⟨g, s, rfl, hg, hs, rg, rs, hb1⟩; have D1 := hid hb1; have HG := hid hg; have HS := hid hs; have RG := hid rg; have RS := hid rs; have R1 := HR.out _ hb1; have r0 : w1.cell? ⟨w.heap.size, 0, none⟩ = some (.slice none 0 0) := cell_of_row2 R1 0 rfl; have r1 : w1.cell? ⟨w.heap.size, 1, none⟩ = some (.slice none 0 0) := cell_of_row2 R1 1 rfl; have r2 : w1.cell? ⟨w.heap.size, 2, none⟩ = some (.slice none 0 0) := cell_of_row2 R1 2 rfl; have r3 : w1.cell? ⟨w.heap.size, 3, none⟩ = some (.int .i64 0) := cell_of_row2 R1 3 rfl; have r4 : w1.cell? ⟨w.heap.size, 4, none⟩ = some (.int .u32 0) := cell_of_row2 R1 4 rfl; have r5 : w1.cell? ⟨w.heap.size, 5, none⟩ = some (.int .u32 0) := cell_of_row2 R1 5 rfl; have r6 : w1.cell? ⟨w.heap.size, 6, none⟩ = some (.slice none 0 0) := cell_of_row2 R1 6 rfl; have fz : ∀ i, w1.frozen? ⟨w.heap.size, i, none⟩ = false := fun i => (by simp [World.frozen?, R1]); clear hg hs rg rs hb1)
 have Q9 := seven_cells R1 (.slice (some ⟨g, 0, none⟩) 1 1) (.slice (some ⟨s, 0, none⟩) 1 1) (.slice none 0 0) (.int .i64 0) (.int .u32 0) (.int .u32 1) (.slice none 0 0)
 have sz := SZ.out
 have lg := HG.out
 have ls := HS.out
 rw [sz] at lg ls
 have X1 := hid ((Below.heap_setCell ((((((w1.setCell ⟨w.heap.size, 0, none⟩ (.slice (some ⟨g, 0, none⟩) 1 1)).setCell ⟨w.heap.size, 1, none⟩ (.slice (some ⟨s, 0, none⟩) 1 1)).setCell ⟨w.heap.size, 2, none⟩ (.slice none 0 0)).setCell ⟨w.heap.size, 3, none⟩ (.int .i64 0)).setCell ⟨w.heap.size, 4, none⟩ (.int .u32 0)).setCell ⟨w.heap.size, 5, none⟩ (.int .u32 1)) ⟨w.heap.size, 6, none⟩ (.slice none 0 0) g (by simp; omega)).trans ((Below.heap_setCell (((((w1.setCell ⟨w.heap.size, 0, none⟩ (.slice (some ⟨g, 0, none⟩) 1 1)).setCell ⟨w.heap.size, 1, none⟩ (.slice (some ⟨s, 0, none⟩) 1 1)).setCell ⟨w.heap.size, 2, none⟩ (.slice none 0 0)).setCell ⟨w.heap.size, 3, none⟩ (.int .i64 0)).setCell ⟨w.heap.size, 4, none⟩ (.int .u32 0)) ⟨w.heap.size, 5, none⟩ (.int .u32 1) g (by simp; omega)).trans ((Below.heap_setCell ((((w1.setCell ⟨w.heap.size, 0, none⟩ (.slice (some ⟨g, 0, none⟩) 1 1)).setCell ⟨w.heap.size, 1, none⟩ (.slice (some ⟨s, 0, none⟩) 1 1)).setCell ⟨w.heap.size, 2, none⟩ (.slice none 0 0)).setCell ⟨w.heap.size, 3, none⟩ (.int .i64 0)) ⟨w.heap.size, 4, none⟩ (.int .u32 0) g (by simp; omega)).trans ((Below.heap_setCell (((w1.setCell ⟨w.heap.size, 0, none⟩ (.slice (some ⟨g, 0, none⟩) 1 1)).setCell ⟨w.heap.size, 1, none⟩ (.slice (some ⟨s, 0, none⟩) 1 1)).setCell ⟨w.heap.size, 2, none⟩ (.slice none 0 0)) ⟨w.heap.size, 3, none⟩ (.int .i64 0) g (by simp; omega)).trans ((Below.heap_setCell ((w1.setCell ⟨w.heap.size, 0, none⟩ (.slice (some ⟨g, 0, none⟩) 1 1)).setCell ⟨w.heap.size, 1, none⟩ (.slice (some ⟨s, 0, none⟩) 1 1)) ⟨w.heap.size, 2, none⟩ (.slice none 0 0) g (by simp; omega)).trans ((Below.heap_setCell (w1.setCell ⟨w.heap.size, 0, none⟩ (.slice (some ⟨g, 0, none⟩) 1 1)) ⟨w.heap.size, 1, none⟩ (.slice (some ⟨s, 0, none⟩) 1 1) g (by simp; omega)).trans ((Below.heap_setCell w1 ⟨w.heap.size, 0, none⟩ (.slice (some ⟨g, 0, none⟩) 1 1) g (by simp; omega)).trans RG.out)))))))
 have X2 := hid ((Below.heap_setCell ((((((w1.setCell ⟨w.heap.size, 0, none⟩ (.slice (some ⟨g, 0, none⟩) 1 1)).setCell ⟨w.heap.size, 1, none⟩ (.slice (some ⟨s, 0, none⟩) 1 1)).setCell ⟨w.heap.size, 2, none⟩ (.slice none 0 0)).setCell ⟨w.heap.size, 3, none⟩ (.int .i64 0)).setCell ⟨w.heap.size, 4, none⟩ (.int .u32 0)).setCell ⟨w.heap.size, 5, none⟩ (.int .u32 1)) ⟨w.heap.size, 6, none⟩ (.slice none 0 0) s (by simp; omega)).trans ((Below.heap_setCell (((((w1.setCell ⟨w.heap.size, 0, none⟩ (.slice (some ⟨g, 0, none⟩) 1 1)).setCell ⟨w.heap.size, 1, none⟩ (.slice (some ⟨s, 0, none⟩) 1 1)).setCell ⟨w.heap.size, 2, none⟩ (.slice none 0 0)).setCell ⟨w.heap.size, 3, none⟩ (.int .i64 0)).setCell ⟨w.heap.size, 4, none⟩ (.int .u32 0)) ⟨w.heap.size, 5, none⟩ (.int .u32 1) s (by simp; omega)).trans ((Below.heap_setCell ((((w1.setCell ⟨w.heap.size, 0, none⟩ (.slice (some ⟨g, 0, none⟩) 1 1)).setCell ⟨w.heap.size, 1, none⟩ (.slice (some ⟨s, 0, none⟩) 1 1)).setCell ⟨w.heap.size, 2, none⟩ (.slice none 0 0)).setCell ⟨w.heap.size, 3, none⟩ (.int .i64 0)) ⟨w.heap.size, 4, none⟩ (.int .u32 0) s (by simp; omega)).trans ((Below.heap_setCell (((w1.setCell ⟨w.heap.size, 0, none⟩ (.slice (some ⟨g, 0, none⟩) 1 1)).setCell ⟨w.heap.size, 1, none⟩ (.slice (some ⟨s, 0, none⟩) 1 1)).setCell ⟨w.heap.size, 2, none⟩ (.slice none 0 0)) ⟨w.heap.size, 3, none⟩ (.int .i64 0) s (by simp; omega)).trans ((Below.heap_setCell ((w1.setCell ⟨w.heap.size, 0, none⟩ (.slice (some ⟨g, 0, none⟩) 1 1)).setCell ⟨w.heap.size, 1, none⟩ (.slice (some ⟨s, 0, none⟩) 1 1)) ⟨w.heap.size, 2, none⟩ (.slice none 0 0) s (by simp; omega)).trans ((Below.heap_setCell (w1.setCell ⟨w.heap.size, 0, none⟩ (.slice (some ⟨g, 0, none⟩) 1 1)) ⟨w.heap.size, 1, none⟩ (.slice (some ⟨s, 0, none⟩) 1 1) s (by simp; omega)).trans ((Below.heap_setCell w1 ⟨w.heap.size, 0, none⟩ (.slice (some ⟨g, 0, none⟩) 1 1) s (by simp; omega)).trans RS.out)))))))
 have B9 := hid ((((((((B1.out.trans (D1.out.mono B1.out.size)).setCell (p := ⟨w.heap.size, 0, none⟩) (Nat.le_refl _) (.slice (some ⟨g, 0, none⟩) 1 1)).setCell (p := ⟨w.heap.size, 1, none⟩) (Nat.le_refl _) (.slice (some ⟨s, 0, none⟩) 1 1)).setCell (p := ⟨w.heap.size, 2, none⟩) (Nat.le_refl _) (.slice none 0 0)).setCell (p := ⟨w.heap.size, 3, none⟩) (Nat.le_refl _) (.int .i64 0)).setCell (p := ⟨w.heap.size, 4, none⟩) (Nat.le_refl _) (.int .u32 0)).setCell (p := ⟨w.heap.size, 5, none⟩) (Nat.le_refl _) (.int .u32 1)).setCell (p := ⟨w.heap.size, 6, none⟩) (Nat.le_refl _) (.slice none 0 0))
 clear r0 r1 r2 r3 r4 r5 r6 fz R1
 generalize (((((((w1.setCell ⟨w.heap.size, 0, none⟩ (.slice (some ⟨g, 0, none⟩) 1 1)).setCell ⟨w.heap.size, 1, none⟩ (.slice (some ⟨s, 0, none⟩) 1 1)).setCell ⟨w.heap.size, 2, none⟩ (.slice none 0 0)).setCell ⟨w.heap.size, 3, none⟩ (.int .i64 0)).setCell ⟨w.heap.size, 4, none⟩ (.int .u32 0)).setCell ⟨w.heap.size, 5, none⟩ (.int .u32 1)).setCell ⟨w.heap.size, 6, none⟩ (.slice none 0 0)) = W9 at *
 have r0 : W9.cell? ⟨w.heap.size, 0, none⟩ = some (.slice (some ⟨g, 0, none⟩) 1 1) := cell_of_row2 Q9 0 rfl
 have r1 : W9.cell? ⟨w.heap.size, 1, none⟩ = some (.slice (some ⟨s, 0, none⟩) 1 1) := cell_of_row2 Q9 1 rfl
 have r2 : W9.cell? ⟨w.heap.size, 2, none⟩ = some (.slice none 0 0) := cell_of_row2 Q9 2 rfl
 have r3 : W9.cell? ⟨w.heap.size, 3, none⟩ = some (.int .i64 0) := cell_of_row2 Q9 3 rfl
 have r4 : W9.cell? ⟨w.heap.size, 4, none⟩ = some (.int .u32 0) := cell_of_row2 Q9 4 rfl
 have r5 : W9.cell? ⟨w.heap.size, 5, none⟩ = some (.int .u32 1) := cell_of_row2 Q9 5 rfl
 have r6 : W9.cell? ⟨w.heap.size, 6, none⟩ = some (.slice none 0 0) := cell_of_row2 Q9 6 rfl
 refine bodyPost_ret (v := .agg #[.slice (some ⟨g, 0, none⟩) 1 1, .slice (some ⟨s, 0, none⟩) 1 1, .slice none 0 0, .int .i64 0, .int .u32 0, .int .u32 1, .slice none 0 0]) (by simp [results, Tryz.results106, go_sem, r0, r1, r2, r3, r4, r5, r6]) rfl ⟨g, s, rfl, by omega, by omega, X1.out, X2.out, B9.out⟩
end Go.Proofs.YtfmghbennahlfaaGreat
