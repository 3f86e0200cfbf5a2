/-
  
-/
import Derived.Test.YtpolbbdaippclaaGreatNsBx
import Derived.Test.YtpolbbdaippclaaGreatNsBi
import Derived.Test.YtpolbbdaippclaaGreatNsBy
import Derived.Test.YtpolbbdaippclaaGreatNsBz
import Derived.Test.YtpolbbdaippclaaGreatNsAi
namespace Go.Proofs.YtpolbbdaippclaaGreat
open Go.RowKit Go.ChangeShapes Go.WideShapes Go.ChangeAt Go.Maps Go.Shelf
set_option linter.unusedVariables false
set_option linter.unusedSimpArgs false
set_option maxRecDepth 100000
theorem changes8_c (w : World) : Calls Tryz.prog 110 #[.int .u8 8] w fun e w' => e = .returned (.bool true) ∧ w' = w := by
 go_enter Tryz.func110, Tryz.ntmps110
 go_wp2
 go_ret
 exact ⟨rfl, rfl⟩
theorem doG_ok (o : Rec) (num cl : Int) (l0 : List Nd) (ss : List St) (ver d0 d1 d2 e0 e1 e2 : Int) (LF : List Nd) (SS : List St)
   (hcl : (cl = 1 ∧ e0 = num ∧ e1 = d1 ∧ e2 = d2) ∨ (cl = 2 ∧ e0 = d0 ∧ e1 = num ∧ e2 = d2) ∨ (cl = 3 ∧ e0 = d0 ∧ e1 = d1 ∧ e2 = num)) (hsw : ∀ s ∈ ss, s.Wf) (hll : ss.length = l0.length) (hl0 : 0 < l0.length) (hm : l0.length ≤ 900) (hv0 : 0 ≤ ver) (hv1 : ver + 1 < 18446744073709551616) (ho : o.Wf)
   (CH : ∀ W, Calls Tryz.prog 110 #[.int .u8 o.k] W fun e w' => e = .returned (.bool true) ∧ w' = W)
   (ST : ∀ (W : World) (nb g g2 cap cap2 : Nat) (L : List Nd) (x0 x1 x2 : Int), W.heap[nb]? = some (.cells #[.slice (some ⟨g, 0, none⟩) L.length cap, .slice (some ⟨g2, 0, none⟩) ss.length cap2, .int .u64 ver, .int .u32 x0, .int .u32 x1, .int .u32 x2, .slice none 0 0] 76 (0, 0)) → IsNs W (some ⟨g, 0, none⟩) L → IsSs W (some ⟨g2, 0, none⟩) ss → L.map Nd.er = l0 → Calls Tryz.prog 107 #[.pointer (some ⟨nb, 0, none⟩), .int .u8 cl, o.recV] W fun e w' => e = .returned (.bool false) ∧ Below W.heap.size W w')
   (AP : ∀ (W : World) (a : Option Addr) (c : Nat) (lw : List Nd), Tr W a lw → lw.map Nd.er = l0 → Calls Tryz.prog 108 #[.slice a lw.length c, o.opV] W (ResO W (0, LF)))
   (hL0 : 0 < LF.length) (hL : LF.length ≤ 900) (hp : 0 ≤ plI LF o.fid) (hSS : stampsS l0 ss LF o.fid (ver + 1) cl = SS) :
   ∀ (W : World) (nb base g g2 cap cap2 : Nat) (L : List Nd), base ≤ W.heap.size → W.heap[nb]? = some (.cells #[.slice (some ⟨g, 0, none⟩) L.length cap, .slice (some ⟨g2, 0, none⟩) ss.length cap2, .int .u64 ver, .int .u32 d0, .int .u32 d1, .int .u32 d2, .slice none 0 0] 76 (0, 0)) → NsO W base (.slice (some ⟨g, 0, none⟩) L.length cap) L → OwT W base (.slice (some ⟨g2, 0, none⟩) ss.length cap2) ss → L.map Nd.er = l0 → Calls Tryz.prog 43 #[.pointer (some ⟨nb, 0, none⟩), .int .u8 cl, .int .u32 num, o.recV] W (DoG 0 LF SS (ver + 1) e0 e1 e2 [] base nb W) := by
 intro W nb base g g2 cap cap2 L hb hrow hN hT he
 have hLl : L.length = l0.length := by rw [← he, List.length_map]
 have hSQ : ∀ L' : List Nd, L'.map Nd.er = LF → stampsS L ss L' o.fid (ver + 1) cl = SS := fun L' e => by rw [← stampsS_er, he, e, hSS]
 rcases hcl with ⟨rfl, h0, h1, h2⟩ | ⟨rfl, h0, h1, h2⟩ | ⟨rfl, h0, h1, h2⟩ <;> rw [h0, h1, h2] <;> clear h0 h1 h2
 · refine (do1_s o num ⟨g, 0, none⟩ ⟨g2, 0, none⟩ cap cap2 L ss ver d0 d1 d2 (.slice none 0 0) LF hrow hN hT hsw (by omega) (by omega) (by omega) hv0 hv1 ho CH (fun X h1 h2 h3 => ST X nb g g2 cap cap2 L _ _ _ h1 h2 h3 he) (fun X h1 => AP X _ cap L h1 he) hL0 hL hp).mono ?_
   rintro e w' ⟨rfl, g5, cap5, g6, cap6, L', hr, hn, hel, ht, hu⟩
   rw [hSQ L' hel] at hr ht
   exact ⟨rfl, g5, cap5, g6, cap6, L', none, 0, 0, hr, hn.low hb, hel, own_low ht hb, .inl ⟨rfl, rfl⟩, hu⟩
 · refine (do2_s o num ⟨g, 0, none⟩ ⟨g2, 0, none⟩ cap cap2 L ss ver d0 d1 d2 (.slice none 0 0) LF hrow hN hT hsw (by omega) (by omega) (by omega) hv0 hv1 ho CH (fun X h1 h2 h3 => ST X nb g g2 cap cap2 L _ _ _ h1 h2 h3 he) (fun X h1 => AP X _ cap L h1 he) hL0 hL hp).mono ?_
   rintro e w' ⟨rfl, g5, cap5, g6, cap6, L', hr, hn, hel, ht, hu⟩
   rw [hSQ L' hel] at hr ht
   exact ⟨rfl, g5, cap5, g6, cap6, L', none, 0, 0, hr, hn.low hb, hel, own_low ht hb, .inl ⟨rfl, rfl⟩, hu⟩
 · refine (do3_s o num ⟨g, 0, none⟩ ⟨g2, 0, none⟩ cap cap2 L ss ver d0 d1 d2 (.slice none 0 0) LF hrow hN hT hsw (by omega) (by omega) (by omega) hv0 hv1 ho CH (fun X h1 h2 h3 => ST X nb g g2 cap cap2 L _ _ _ h1 h2 h3 he) (fun X h1 => AP X _ cap L h1 he) hL0 hL hp).mono ?_
   rintro e w' ⟨rfl, g5, cap5, g6, cap6, L', hr, hn, hel, ht, hu⟩
   rw [hSQ L' hel] at hr ht
   exact ⟨rfl, g5, cap5, g6, cap6, L', none, 0, 0, hr, hn.low hb, hel, own_low ht hb, .inl ⟨rfl, rfl⟩, hu⟩
theorem doG_stale (o : Rec) (num cl : Int) (hcl : cl = 2) (l0 : List Nd) (ss : List St) (ver d0 d1 d2 : Int) (hsw : ∀ s ∈ ss, s.Wf) (hll : ss.length = l0.length) (hl0 : 0 < l0.length) (hm : l0.length ≤ 900)
   (ST : ∀ (W : World) (nb g g2 cap cap2 : Nat) (L : List Nd) (x0 x1 x2 : Int), W.heap[nb]? = some (.cells #[.slice (some ⟨g, 0, none⟩) L.length cap, .slice (some ⟨g2, 0, none⟩) ss.length cap2, .int .u64 ver, .int .u32 x0, .int .u32 x1, .int .u32 x2, .slice none 0 0] 76 (0, 0)) → IsNs W (some ⟨g, 0, none⟩) L → IsSs W (some ⟨g2, 0, none⟩) ss → L.map Nd.er = l0 → Calls Tryz.prog 107 #[.pointer (some ⟨nb, 0, none⟩), .int .u8 cl, o.recV] W fun e w' => e = .returned (.bool true) ∧ Below W.heap.size W w') :
   ∀ (W : World) (nb base g g2 cap cap2 : Nat) (L : List Nd), base ≤ W.heap.size → W.heap[nb]? = some (.cells #[.slice (some ⟨g, 0, none⟩) L.length cap, .slice (some ⟨g2, 0, none⟩) ss.length cap2, .int .u64 ver, .int .u32 d0, .int .u32 d1, .int .u32 d2, .slice none 0 0] 76 (0, 0)) → NsO W base (.slice (some ⟨g, 0, none⟩) L.length cap) L → OwT W base (.slice (some ⟨g2, 0, none⟩) ss.length cap2) ss → L.map Nd.er = l0 → Calls Tryz.prog 43 #[.pointer (some ⟨nb, 0, none⟩), .int .u8 cl, .int .u32 num, o.recV] W (DoG 12 l0 ss ver d0 num d2 [⟨2, num, 12, o⟩] base nb W) := by
 intro W nb base g g2 cap cap2 L hb hrow hN hT he
 subst hcl
 have hLl : L.length = l0.length := by rw [← he, List.length_map]
 refine (do2_stale o num ⟨g, 0, none⟩ ⟨g2, 0, none⟩ cap cap2 L ss ver d0 d1 d2 hrow hN hT hsw (by omega) (by omega) (by omega) (fun X h1 h2 h3 => ST X nb g g2 cap cap2 L _ _ _ h1 h2 h3 he)).mono ?_
 rintro e w' ⟨rfl, va, vn, vc, hr, hn, ht, hv, hu⟩
 exact ⟨rfl, g, cap, g2, cap2, L, va, vn, vc, hr, hn, he, ht, .inr ⟨_, rfl, own_low hv hb⟩, hu⟩
def SvG (base : Nat) (w : World) (p N : Nat) (t : Int) (l0 : List Nd) (ss : List St) (ver d0 d1 d2 : Int) (vs : List Vd) : Prop :=
 ∃ (j : Nat) (a b : Addr) (ca cb : Nat) (l : List Nd) (qa : Option Addr) (qn qc : Nat), JH base w j N t ∧ base ≤ p ∧ w.heap[p]? = some (.cells #[pB j, .slice (some a) l.length ca, .slice (some b) ss.length cb, .int .u64 ver, .int .u32 d0, .int .u32 d1, .int .u32 d2, .slice qa qn qc] 79 (0, 0)) ∧ Tr w (some a) l ∧ l.map Nd.er = l0 ∧ IsSs w (some b) ss ∧ ss.length = l.length ∧ 0 < l.length ∧ l.length ≤ 12 ∧ IsVs w (.slice qa qn qc) vs
theorem SvI.g {base : Nat} {w : World} {p N : Nat} {t : Int} {l0 : List Nd} {ss : List St} {ver d0 : Int} (h : SvI base w p N t l0 ss ver d0) : SvG base w p N t l0 ss ver d0 0 0 [] := by
 obtain ⟨j, a, b, ca, cb, l, h1, h2, h3, h4, h5, h6, h7, h8, h9⟩ := h
 exact ⟨j, a, b, ca, cb, l, none, 0, 0, h1, h2, h3, h4, h5, h6, h7, h8, h9, .inl ⟨rfl, rfl⟩⟩
theorem SvG.later {base : Nat} {w w' : World} {p N : Nat} {t : Int} {l0 : List Nd} {ss : List St} {ver d0 d1 d2 : Int} {vs : List Vd} (h : SvG base w p N t l0 ss ver d0 d1 d2 vs) (hb : Below w.heap.size w w') : SvG base w' p N t l0 ss ver d0 d1 d2 vs := by
 obtain ⟨j, a, b, ca, cb, l, qa, qn, qc, h1, h2, h3, h4, h5, h6, h7, h8, h9, h10⟩ := h
 exact ⟨j, a, b, ca, cb, l, qa, qn, qc, h1.later hb, h2, (hb.block _ (lt_blkR h3)).trans h3, h4.later hb, h5, h6.later hb, h7, h8, h9, h10.later hb⟩
theorem shipZ_c {base : Nat} {w : World} {p : Nat} {t : Int} {l0 : List Nd} {ss : List St} {ver d0 d1 d2 : Int} (h : SvG base w p 300 t l0 ss ver d0 d1 d2 []) (lb lc : Nat) (o : Rec) (hlb : w.heap[lb]? = some (.cells #[.int .u8 o.k, .int .u32 o.fid, .int .u32 o.dir, .string o.nm, .int .u32 o.to, .string o.nm2, .int .u16 o.md, .string o.dt, .int .u64 o.sn] 39 (0, 0))) (hw : o.Wf) (hr : rightF o = true) (cl num : Int) (hcl : (cl = 1 ∧ num = d0 + 1) ∨ (cl = 2 ∧ num = d1 + 1) ∨ (cl = 3 ∧ num = d2 + 1)) (hd0 : 0 ≤ d0 ∧ d0 < 100) (hd1 : 0 ≤ d1 ∧ d1 < 100) (hd2 : 0 ≤ d2 ∧ d2 < 100)
   (er : Int) (zs : List Int) (v c ver2 e0 e1 e2 : Int) (vs : List Vd) (hzs : zs.length ≤ 64) (hzw : ∀ x ∈ zL zs, x.Wf) (hvc : (0 ≤ v ∧ v < 100) ∧ (0 ≤ c ∧ c ≤ 3))
   (DOP : ∀ (W : World) (nb base g g2 cap cap2 : Nat) (L : List Nd), base ≤ W.heap.size → W.heap[nb]? = some (.cells #[.slice (some ⟨g, 0, none⟩) L.length cap, .slice (some ⟨g2, 0, none⟩) ss.length cap2, .int .u64 ver, .int .u32 d0, .int .u32 d1, .int .u32 d2, .slice none 0 0] 76 (0, 0)) → NsO W base (.slice (some ⟨g, 0, none⟩) L.length cap) L → OwT W base (.slice (some ⟨g2, 0, none⟩) ss.length cap2) ss → L.map Nd.er = l0 → Calls Tryz.prog 43 #[.pointer (some ⟨nb, 0, none⟩), .int .u8 cl, .int .u32 num, o.recV] W (DoG er (zL zs) (zSt v c) ver2 e0 e1 e2 vs base nb W))
   (hok : ∀ x ∈ vs, x.Ok) (hvl : (vsB vs).length ≤ 200) (hv2 : 0 ≤ ver2 ∧ ver2 < 100) (hle : ver ≤ ver2) (he0 : 0 ≤ e0 ∧ e0 < 101) (he1 : 0 ≤ e1 ∧ e1 < 101) (he2 : 0 ≤ e2 ∧ e2 < 101) (hne : (e0 == d0 && (e1 == d1 && e2 == d2)) = false) (ht : t ≠ 4294967295) :
   Calls Tryz.prog 9 #[.pointer (some ⟨p, 0, none⟩), .int .u8 cl, .int .u32 num, .slice (some ⟨lb, 0, none⟩) 1 lc] w fun e w' => ∃ ve, e = .returned (.tuple #[ve, .int .i64 0]) ∧ OwE w' w.heap.size ve [er] ∧ SvG base w' p 300 (t + 1) (zL zs) (zSt v c) ver2 e0 e1 e2 vs ∧ KeepP p w w' ∧ Below base w w' := by
 obtain ⟨j, a, b, ca, cb, l, qa, qn, qc, hJ, hbp, hrow, hT, he, hS, hll, hl0, hl12, hV⟩ := h
 have hq : (.slice qa qn qc : Value) = .slice none 0 0 := by
   rcases hV with ⟨_, e⟩ | ⟨x, _, _, _, e, _⟩
   · exact e
   · cases e
 rw [hq] at hrow
 subst he
 refine (shipG_c hJ hbp a b ca cb l ss ver d0 d1 d2 hrow hT hS hl0 (by omega) hll lb lc o hlb hw hr cl num hcl (by omega) (by omega) (by omega) er (zL zs) (zSt v c) ver2 e0 e1 e2 vs (zSt_wf (by omega) (by omega)) rfl (by show 0 < 2; omega) (by show 2 ≤ 900; omega) DOP hok (by omega) hle (by omega) (by omega) (by omega) hne (fun lw hlw => ⟨?_, ?_⟩) (fun lw hlw x hxm => ?_) (fun lw hlw => ?_) ht).mono ?_
 · rw [rightD_iff, ← rightD_er, hlw]; exact zL_right hzs
 · rw [← stOk_er, hlw]; exact zSt_ok zs (by omega)
 · exact hzw x.er (by rw [← hlw]; exact List.mem_map.2 ⟨x, hxm, rfl⟩)
 · have e1' : snapB lw (zSt v c) = snapB (zL zs) (zSt v c) := by rw [← snapB_er, hlw]
   rw [e1']
   exact keptZ hzs v c ver2 e0 e1 e2 (vsB vs) hvl
 · rintro e w' ⟨ve, g, cap, g2, cap2, L2, xa, xn, xc, rfl, hoe, hj, hr', htr, hel, hst, hvv, hkp, hb⟩
   have hlen : L2.length = 2 := by have := congrArg List.length hel; simpa [zL] using this
   exact ⟨ve, rfl, hoe, ⟨j, _, _, cap, cap2, L2, xa, xn, xc, hj, hbp, hr', htr, hel, hst, (by rw [hlen]; rfl), by omega, by omega, hvv⟩, hkp, hb⟩
theorem plI_zL {L : List Nd} {zs : List Int} (h : L.map Nd.er = zL zs) : plI L 16777217 = 1 := by
 rw [← plI_er, h]
 kernel_rfl
theorem apZ_c (o : Rec) (l0 LF : List Nd) (hw : o.Wf) (hr : rightF o = true) (hk : o.k = 1 ∨ o.k = 8) (hl : l0.length ≤ 900) (hA : ApplyL l0 o = (0, LF)) (hLF : LF.length ≤ 12) (W : World) (a : Option Addr) (c : Nat) (lw : List Nd) (h : Tr W a lw) (he : lw.map Nd.er = l0) : Calls Tryz.prog 108 #[.slice a lw.length c, o.opV] W (ResO W (0, LF)) := by
 have h1 := tApply_c sort12 a c lw o W h (by have := congrArg List.length he; simp only [List.length_map] at this; omega) hw (by rw [he, hA]; exact hLF) (fun W' base tb N' hM hR hRt => by
   rcases hk with hk | hk
   · exact tdo_1 o hM hR hRt hw hr hk
   · exact tdo_8 o hM hR hRt hw hr hk)
 rw [he, hA] at h1
 exact h1
theorem zst_c (a : ByteArray) (zs : List Int) (v c ver : Int) (cl : Int) (r : Bool) (hr : (v != 2 && c != cl) = r) (W : World) (nb g g2 cap cap2 : Nat) (L : List Nd) (x0 x1 x2 : Int) (hrow : W.heap[nb]? = some (.cells #[.slice (some ⟨g, 0, none⟩) L.length cap, .slice (some ⟨g2, 0, none⟩) (zSt v c).length cap2, .int .u64 ver, .int .u32 x0, .int .u32 x1, .int .u32 x2, .slice none 0 0] 76 (0, 0))) (hN : IsNs W (some ⟨g, 0, none⟩) L) (hS : IsSs W (some ⟨g2, 0, none⟩) (zSt v c)) (he : L.map Nd.er = zL zs) :
   Calls Tryz.prog 107 #[.pointer (some ⟨nb, 0, none⟩), .int .u8 cl, (zS a 2).recV] W fun e w' => e = .returned (.bool r) ∧ Below W.heap.size W w' := by
 have hlen : L.length = 2 := by have := congrArg List.length he; simpa [zL] using this
 have h := stale8_c (zS a 2) rfl nb cl W ⟨g, 0, none⟩ ⟨g2, 0, none⟩ cap cap2 L (zSt v c) ver x0 x1 x2 (.slice none 0 0) hrow hN hS (by rw [hlen]; rfl) (by omega) (by show (2 : Int) ≠ 0; omega) 1 (plI_zL he) (by omega)
 have q : (((zSt v c).getD 1 St.no).ver != (zS a 2).sn && ((zSt v c).getD 1 St.no).wr != cl) = (v != 2 && c != cl) := rfl
 rw [q, hr] at h
 exact h
theorem shipC_c {base : Nat} {w : World} {p : Nat} {t : Int} (h : SvG base w p 300 t newL firstSs 1 0 0 0 []) (lb lc : Nat) (hlb : w.heap[lb]? = some (.cells #[.int .u8 1, .int .u32 16777217, .int .u32 1, .string zNm, .int .u32 0, .string ⟨#[]⟩, .int .u16 0, .string ⟨#[]⟩, .int .u64 0] 39 (0, 0))) (ht : t ≠ 4294967295) :
   Calls Tryz.prog 9 #[.pointer (some ⟨p, 0, none⟩), .int .u8 1, .int .u32 1, .slice (some ⟨lb, 0, none⟩) 1 lc] w fun e w' => ∃ ve, e = .returned (.tuple #[ve, .int .i64 0]) ∧ OwE w' w.heap.size ve [0] ∧ SvG base w' p 300 (t + 1) (zL []) (zSt 2 1) 2 1 0 0 [] ∧ KeepP p w w' ∧ Below base w w' := by
 refine shipZ_c h lb lc zC hlb zC_wf zC_right 1 1 (.inl ⟨rfl, rfl⟩) (by omega) (by omega) (by omega) 0 [] 2 1 2 1 0 0 [] (by simp) zL_wf0 (by omega) (doG_ok zC 1 1 newL firstSs 1 0 0 0 1 0 0 (zL []) (zSt 2 1) (.inl ⟨rfl, rfl, rfl, rfl⟩) (fun s hs => ?_) rfl (by decide) (by decide) (by omega) (by omega) zC_wf (fun W => changes_c 1 (.inl rfl) W) (fun W nb g g2 cap cap2 L x0 x1 x2 _ _ _ _ => stale_no zC (.inl rfl) nb 1 W) (fun W a c lw hT he => apZ_c zC newL (zL []) zC_wf zC_right (.inl rfl) (by decide) zC_apply (by decide) W a c lw hT he) (by decide) (by decide) (by decide +kernel) zSt_0) (fun x hx => by cases hx) (by decide) (by omega) (by omega) (by omega) (by omega) (by omega) (by decide) ht
 rw [firstSs, List.mem_singleton] at hs
 subst hs
 exact ⟨⟨by decide, by decide⟩, ⟨by decide, by decide⟩, by decide, by decide⟩
theorem shipA_c {base : Nat} {w : World} {p : Nat} {t : Int} (h : SvG base w p 300 t (zL []) (zSt 2 1) 2 1 0 0 []) (lb lc : Nat) (a : ByteArray) (ha : a.size ≤ 64) (cl e1 e2 : Int) (hcl : (cl = 2 ∧ e1 = 1 ∧ e2 = 0) ∨ (cl = 3 ∧ e1 = 0 ∧ e2 = 1)) (hlb : w.heap[lb]? = some (.cells #[.int .u8 8, .int .u32 16777217, .int .u32 0, .string ⟨#[]⟩, .int .u32 0, .string ⟨#[]⟩, .int .u16 0, .string a, .int .u64 2] 39 (0, 0))) (ht : t ≠ 4294967295) :
   Calls Tryz.prog 9 #[.pointer (some ⟨p, 0, none⟩), .int .u8 cl, .int .u32 1, .slice (some ⟨lb, 0, none⟩) 1 lc] w fun e w' => ∃ ve, e = .returned (.tuple #[ve, .int .i64 0]) ∧ OwE w' w.heap.size ve [0] ∧ SvG base w' p 300 (t + 1) (zL (txB a)) (zSt 3 cl) 3 1 e1 e2 [] ∧ KeepP p w w' ∧ Below base w w' := by
 have hal : (txB a).length ≤ 64 := by rw [txB_len]; exact ha
 have hne : ((1 : Int) == 1 && (e1 == 0 && e2 == 0)) = false := by
   rcases hcl with ⟨_, rfl, rfl⟩ | ⟨_, rfl, rfl⟩ <;> rfl
 refine shipZ_c h lb lc (zS a 2) hlb (zS_wf ha (by omega)) (zS_right ha 2) cl 1 (by omega) (by omega) (by omega) (by omega) 0 (txB a) 3 cl 3 1 e1 e2 [] hal (zL_wf ha) (by omega) (doG_ok (zS a 2) 1 cl (zL []) (zSt 2 1) 2 1 0 0 1 e1 e2 (zL (txB a)) (zSt 3 cl) (by omega) (zSt_wf (by omega) (by omega)) rfl (by decide) (by decide) (by omega) (by omega) (zS_wf ha (by omega)) (fun W => changes8_c W) (fun W nb g g2 cap cap2 L x0 x1 x2 h1 h2 h3 h4 => zst_c a [] 2 1 2 cl false (by simp) W nb g g2 cap cap2 L x0 x1 x2 h1 h2 h3 h4) (fun W a' c lw hT he => apZ_c (zS a 2) (zL []) (zL (txB a)) (zS_wf ha (by omega)) (zS_right ha 2) (.inr rfl) (by decide) (zS_apply (by simp) ha 2) (by show 2 ≤ 12; omega) W a' c lw hT he) (by show 0 < 2; omega) (by show 2 ≤ 900; omega) ?_ (zSt_1 [] (txB a) 2 1 3 cl)) (fun x hx => by cases hx) (by decide) (by omega) (by omega) (by omega) (by omega) (by omega) hne ht
 show 0 ≤ plI (zL (txB a)) 16777217
 rw [plI_zL (L := zL (txB a)) (zs := txB a) (by kernel_rfl)]
 omega
theorem shipB_c {base : Nat} {w : World} {p : Nat} {t : Int} (a : ByteArray) (ha : a.size ≤ 64) (h : SvG base w p 300 t (zL (txB a)) (zSt 3 3) 3 1 0 1 []) (lb lc : Nat) (b : ByteArray) (hb : b.size ≤ 64) (hlb : w.heap[lb]? = some (.cells #[.int .u8 8, .int .u32 16777217, .int .u32 0, .string ⟨#[]⟩, .int .u32 0, .string ⟨#[]⟩, .int .u16 0, .string b, .int .u64 2] 39 (0, 0))) (ht : t ≠ 4294967295) :
   Calls Tryz.prog 9 #[.pointer (some ⟨p, 0, none⟩), .int .u8 2, .int .u32 1, .slice (some ⟨lb, 0, none⟩) 1 lc] w fun e w' => ∃ ve, e = .returned (.tuple #[ve, .int .i64 0]) ∧ OwE w' w.heap.size ve [12] ∧ SvG base w' p 300 (t + 1) (zL (txB a)) (zSt 3 3) 3 1 1 1 [⟨2, 1, 12, zS b 2⟩] ∧ KeepP p w w' ∧ Below base w w' := by
 have hal : (txB a).length ≤ 64 := by rw [txB_len]; exact ha
 refine shipZ_c h lb lc (zS b 2) hlb (zS_wf hb (by omega)) (zS_right hb 2) 2 1 (.inr (.inl ⟨rfl, rfl⟩)) (by omega) (by omega) (by omega) 12 (txB a) 3 3 3 1 1 1 [⟨2, 1, 12, zS b 2⟩] hal (zL_wf ha) (by omega) (doG_stale (zS b 2) 1 2 rfl (zL (txB a)) (zSt 3 3) 3 1 0 1 (zSt_wf (by omega) (by omega)) rfl (by show 0 < 2; omega) (by show 2 ≤ 900; omega) (fun W nb g g2 cap cap2 L x0 x1 x2 h1 h2 h3 h4 => zst_c b (txB a) 3 3 3 2 true (by decide) W nb g g2 cap cap2 L x0 x1 x2 h1 h2 h3 h4)) (fun x hx => ?_) ?_ (by omega) (by omega) (by omega) (by omega) (by omega) (by decide) ht
 · rw [List.mem_singleton] at hx
   subst hx
   exact ⟨zS_wf hb (by omega), zS_right hb 2, (by show (0 : Int) ≤ 2 ∧ (2 : Int) < 256; omega), (by show (0 : Int) ≤ 1 ∧ (1 : Int) < 4294967296; omega), (by show (0 : Int) ≤ 12 ∧ (12 : Int) < 256; omega)⟩
 · unfold vsB vdB rec1B recB
   simp only [List.flatMap_cons, List.flatMap_nil, List.append_nil, List.length_cons, List.length_append, beF_len, opB_len]
   have e1 : (zS b 2).dt.size = b.size := rfl
   have e2 : (zS b 2).nm.size = 0 := rfl
   have e3 : (zS b 2).nm2.size = 0 := rfl
   rw [e1, e2, e3]
   simp [be4]
   omega
theorem vd_news {w : World} {g : Nat} {cur : Array Value} {t : TypeId} {y : Vd} (hg : w.heap[g]? = some (.cells cur t (0, 0))) (hx : ∀ (k : Nat) (u : Value), y.cells[k]? = some u → cur[k]? = some u) : ∀ j u, y.cells[j]? = some u → w.cell? ((⟨g, 0, none⟩ : Addr).add j) = some u := fun j u hu => by
 have e : (⟨g, 0, none⟩ : Addr).add j = ⟨g, 0 + j, none⟩ := by unfold Addr.add; split <;> simp_all
 rw [e, Nat.zero_add, cell_of_row w g _ cur t (0, 0) hg]
 exact hx j u hu
set_option maxHeartbeats 1000000 in
theorem cloneV1_c (g c : Nat) (cur : Array Value) (y : Vd) (w : World) (hg : w.heap[g]? = some (.cells cur 58 (0, 0))) (hx : ∀ (k : Nat) (u : Value), y.cells[k]? = some u → cur[k]? = some u) :
   Calls Tryz.prog 24 #[.slice (some ⟨g, 0, none⟩) 1 c] w fun e w' => ∃ v, e = .returned v ∧ OwV w' w.heap.size v y ∧ Below w.heap.size w w' := by
 have H := hid hg
 have hq : ∀ w, (binOp .eql 55 (.slice (some ⟨g, 0, none⟩) 1 c) (.slice none 0 0)).run Tryz.prog w = .ok (.bool false) w := fun w => Lib.run_eql_slice_nil w _ _ _ _ _ _ _ Tryz.underlying55
 obtain ⟨i0, z0, hi, hz0, hz3, hz1, hz2⟩ := info_vd
 have hg2 := ((below_1 w (.cells #[] 58)).block _ (lt_blkR H.out)).trans H.out
 have hn := hid (vd_news hg2 hx)
 clear hg hg2 hx
 go_enter Tryz.func24, Tryz.ntmps24
 go_wp2_with (at_builtin; refine wpList_append_own _ rfl _ _ 55 rfl w.heap.size 58 i0 z0 12 104 Tryz.underlying55 hi hz0 hz1 hz2 hz3 (by decide) _ 0 [] rfl (own_empty_at (heap_alloc_new w _) (Nat.le_refl _)) ⟨g, 0, none⟩ 1 c y.cells rfl rfl hn.out y.one (by unfold maxLen; omega) (by omega) (by simp) ?_; intro v3 w3 hO3 hg3 _)
 go_ret
 exact ⟨_, rfl, hO3, (below_1 w _).grown hg3 (below_1 w _).size (fun k hk => by cases hk; exact Nat.le_refl _)⟩
theorem cloneVs_c (ve : Value) (vs : List Vd) (w : World) (h : IsVs w ve vs) :
   Calls Tryz.prog 24 #[ve] w fun e w' => ∃ v, e = .returned v ∧ OwVs w' w.heap.size v vs ∧ Below w.heap.size w w' := by
 rcases h with ⟨rfl, rfl⟩ | ⟨x, g, c, cur, rfl, rfl, hg, hx⟩
 · refine (cloneV_nil w).mono ?_
   rintro e w' ⟨rfl, rfl⟩
   exact ⟨_, rfl, .inl ⟨rfl, rfl⟩, Below.refl _ _⟩
 · refine (cloneV1_c g c cur x w hg hx).mono ?_
   rintro e w' ⟨v, rfl, ho, hb⟩
   exact ⟨v, rfl, .inr ⟨x, rfl, ho⟩, hb⟩
set_option maxHeartbeats 1000000 in
theorem rejG_c {base : Nat} {w : World} {p N : Nat} {t : Int} {l0 : List Nd} {ss : List St} {ver d0 d1 d2 : Int} {vs : List Vd} (h : SvG base w p N t l0 ss ver d0 d1 d2 vs) :
   Calls Tryz.prog 12 #[.pointer (some ⟨p, 0, none⟩)] w fun e w' => ∃ v, e = .returned v ∧ OwVs w' w.heap.size v vs ∧ Below w.heap.size w w' := by
 obtain ⟨j, a, b, ca, cb, l, qa, qn, qc, hJ, hbp, hrow, hT, he, hS, hll, hl0, hl12, hV⟩ := h
 have CL := hid (cloneVs_c (.slice qa qn qc) vs w hV)
 have k7 : w.cell? ⟨p, 7, none⟩ = some (.slice qa qn qc) := cell_of_row2 hrow 7 rfl
 clear hJ hrow hT he hS hV
 go_enter Tryz.func12, Tryz.ntmps12
 go_wp2_with (go_at_call 24; refine CL.out.mono ?_; rintro _ w1 ⟨v1, rfl, ho1, hb1⟩; obtain ⟨va, vc, rfl⟩ := ho1.shape)
 go_ret
 exact ⟨_, rfl, ho1, hb1⟩
set_option maxHeartbeats 2000000 in
theorem snapG_c {base : Nat} {w : World} {p N : Nat} {t : Int} {l0 : List Nd} {ss : List St} {ver d0 d1 d2 : Int} {vs : List Vd} (h : SvG base w p N t l0 ss ver d0 d1 d2 vs) :
   Calls Tryz.prog 10 #[.pointer (some ⟨p, 0, none⟩)] w fun e w' => ∃ g c g2 d L, e = .returned (.agg #[.slice (some ⟨g, 0, none⟩) l0.length c, .slice (some ⟨g2, 0, none⟩) ss.length d]) ∧ L.length = l0.length ∧ IsNs w' (some ⟨g, 0, none⟩) L ∧ L.map Nd.er = l0 ∧ IsSs w' (some ⟨g2, 0, none⟩) ss ∧ w.heap.size ≤ g2 ∧ Below w.heap.size w w' := by
 obtain ⟨j, a, b, ca, cb, l, qa, qn, qc, hJ, hbp, hrow, hT, he, hS, hll, hl0, hl12, hV⟩ := h
 have ln : Hid (l0.length = l.length) := hid (by rw [← he, List.length_map])
 have b0 := below_1 w (.cells #[.slice none 0 0, .slice none 0 0] 44)
 have g0 := hid (heap_alloc_new w (.cells #[.slice none 0 0, .slice none 0 0] 44))
 have B0 := hid b0
 have hr0 := (b0.block _ (lt_blkR hrow)).trans hrow
 have CS := hid (copySnap_c a b ca cb l ss _ (hT.later b0) (hS.later b0) (by omega) (by omega))
 have HE := hid he
 have SW := hid hS.2.1
 have HL := hid hll
 have H0 := hid hl0
 have H12 := hid hl12
 have ZZ : Hid (w.heap.size < (w.alloc (.cells #[.slice none 0 0, .slice none 0 0] 44)).heap.size) := hid (by simp)
 clear hJ he hS hT hrow b0 hll hl0 hl12 hbp hV
 go_enter Tryz.func10, Tryz.ntmps10
 go_upto_region 1 with fail
 generalize (w.alloc (.cells #[.slice none 0 0, .slice none 0 0] 44)) = V at *
 have m1 : V.cell? ⟨p, 1, none⟩ = some (.slice (some a) l.length ca) := cell_of_row2 hr0 1 rfl
 have m2 : V.cell? ⟨p, 2, none⟩ = some (.slice (some b) ss.length cb) := cell_of_row2 hr0 2 rfl
 clear hr0
 go_wp2_with (go_at_call 23; refine CS.out.mono ?_; rintro _ w1 ⟨v1, u1, L, rfl, ho1, he1, hn1, ht1, hb1⟩; have LE : Hid (L.length = l.length) := hid (by have := congrArg List.length he1; simpa using this); obtain ⟨g, cap, rfl, hgb, htr⟩ := OwN.trN ho1 hn1 (by rw [LE.out]; exact H0.out) (by rw [LE.out]; have := H12.out; omega); obtain ⟨g2, cap2, rfl, hgb2, hst⟩ := OwT.is ht1 SW.out (by rw [HL.out]; exact H0.out) (by rw [HL.out]; have := H12.out; omega); have E1 := hid he1; have NR : Hid (NsO w1 V.heap.size (.slice (some ⟨g, 0, none⟩) L.length cap) L) := hid ⟨ho1, hn1⟩; have TR := hid ht1; have B1 := hid (B0.out.trans (hb1.mono B0.out.size)); have R1 := (hb1.block _ (lt_blkR g0.out)).trans g0.out; have r0 : w1.cell? ⟨w.heap.size, 0, none⟩ = some (.slice none 0 0) := cell_of_row2 R1 0 rfl; have r1 : w1.cell? ⟨w.heap.size, 1, none⟩ = some (.slice none 0 0) := cell_of_row2 R1 1 rfl; have fz : ∀ i, w1.frozen? ⟨w.heap.size, i, none⟩ = false := fun i => (by simp [World.frozen?, R1]); clear ho1 he1 hn1 ht1 hb1 htr hst hgb hgb2)
 have Q9 := two_cells R1 (.slice (some ⟨g, 0, none⟩) L.length cap) (.slice (some ⟨g2, 0, none⟩) ss.length cap2)
 have B9 := hid ((B1.out.setCell (p := ⟨w.heap.size, 0, none⟩) (Nat.le_refl _) (.slice (some ⟨g, 0, none⟩) L.length cap)).setCell (p := ⟨w.heap.size, 1, none⟩) (Nat.le_refl _) (.slice (some ⟨g2, 0, none⟩) ss.length cap2))
 have K9 : Hid (KeepB V.heap.size w1 ((w1.setCell ⟨w.heap.size, 0, none⟩ (.slice (some ⟨g, 0, none⟩) L.length cap)).setCell ⟨w.heap.size, 1, none⟩ (.slice (some ⟨g2, 0, none⟩) ss.length cap2))) := hid (((KeepB.stay (Stay.refl w1)).set (o := 0) (v := .slice (some ⟨g, 0, none⟩) L.length cap) ZZ.out).set (o := 1) (v := .slice (some ⟨g2, 0, none⟩) ss.length cap2) ZZ.out)
 clear r0 r1 fz R1 m1 m2
 generalize ((w1.setCell ⟨w.heap.size, 0, none⟩ (.slice (some ⟨g, 0, none⟩) L.length cap)).setCell ⟨w.heap.size, 1, none⟩ (.slice (some ⟨g2, 0, none⟩) ss.length cap2)) = W9 at *
 have r0 : W9.cell? ⟨w.heap.size, 0, none⟩ = some (.slice (some ⟨g, 0, none⟩) L.length cap) := cell_of_row2 Q9 0 rfl
 have r1 : W9.cell? ⟨w.heap.size, 1, none⟩ = some (.slice (some ⟨g2, 0, none⟩) ss.length cap2) := cell_of_row2 Q9 1 rfl
 have N9 := NR.out.kb K9.out
 have T9 := TR.out.kb K9.out
 obtain ⟨gx, cx, ex, _, htr⟩ := OwN.trN N9.1 (fun x hx => N9.2 x hx) (by rw [LE.out]; exact H0.out) (by rw [LE.out]; have := H12.out; omega)
 obtain ⟨gy, cy, ey, hgy, hst⟩ := OwT.is T9 SW.out (by rw [HL.out]; exact H0.out) (by rw [HL.out]; have := H12.out; omega)
 obtain ⟨q8, q9⟩ : gx = g ∧ cx = cap := by simp only [Value.slice.injEq, Option.some.injEq, Addr.mk.injEq] at ex; exact ⟨ex.1.1.symm, ex.2.2.symm⟩
 subst q8 q9
 obtain ⟨q8, q9⟩ : gy = g2 ∧ cy = cap2 := by simp only [Value.slice.injEq, Option.some.injEq, Addr.mk.injEq] at ey; exact ⟨ey.1.1.symm, ey.2.2.symm⟩
 subst q8 q9
 refine bodyPost_ret (v := .agg #[.slice (some ⟨gx, 0, none⟩) L.length cx, .slice (some ⟨gy, 0, none⟩) ss.length cy]) (by simp [results, Tryz.results10, go_sem, r0, r1]) rfl ⟨gx, cx, gy, cy, L, by rw [ln.out, LE.out], by rw [ln.out, LE.out], htr.1, by rw [E1.out, HE.out], hst, by have := ZZ.out; omega, B9.out⟩
theorem getZ_c (a : Option Addr) (c : Nat) (L : List Nd) (zs : List Int) (w : World) (h : IsNs w a L) (he : L.map Nd.er = zL zs) :
   Calls Tryz.prog 11 #[.slice a 2 c, .int .u32 16777217] w fun e w' => ∃ da dc ka kc, e = .returned (.tuple #[.agg #[.int .u32 16777217, .int .u8 1, .int .u16 0, .int .u16 1, .slice da zs.length dc, .slice ka 0 kc], .bool true]) ∧ IsB w' da zs.length zs ∧ Below w.heap.size w w' := by
 have hlen : L.length = 2 := by have := congrArg List.length he; simpa [zL] using this
 match L, hlen, he, h with
 | [x0, x1], _, he, h =>
   simp only [List.map_cons, List.map_nil, zL, List.cons.injEq, and_true] at he
   obtain ⟨h0, h1⟩ := he
   have f0 : x0.fid = 1 := congrArg Nd.fid h0
   have e1 : x1.fid = 16777217 := congrArg Nd.fid h1
   have e2 : x1.k = 1 := congrArg Nd.k h1
   have e3 : x1.md = 0 := congrArg Nd.md h1
   have e4 : x1.ln = 1 := congrArg Nd.ln h1
   have e5 : x1.zs = zs := congrArg Nd.zs h1
   have e6 : x1.ks = [] := congrArg Nd.ks h1
   have hg : getF [x0, x1] 16777217 = some x1 := by simp [getF, List.find?, f0, e1]
   have hok := getF_ok h hg
   refine (get2_c a c [x0, x1] 16777217 w h (by simp)).mono ?_
   rintro e w' ⟨rfl, hb⟩
   obtain ⟨xf, xk, xm, xl, xda, xdc, xzs, xka, xkc, xks⟩ := x1
   simp only at e1 e2 e3 e4 e5 e6
   subst e1 e2 e3 e4 e5 e6
   rw [hg]
   exact ⟨xda, xdc, xka, xkc, rfl, hok.2.2.2.2.1.later hb, hb⟩
def opA : Rec := ⟨2, 9, 1, ⟨#[97]⟩, 0, ⟨#[]⟩, 0, ⟨#[]⟩, 0⟩
theorem opA_step : stepB newL firstSs 1 0 opA 200 = true := by decide +kernel
theorem opA_right : rightF opA = true := by decide +kernel
theorem opA_len : (ApplyL newL opA).2.length = 2 := by decide +kernel
theorem opA_wf : opA.Wf := by
 refine ⟨?_, ?_, ?_, ?_, ?_, ?_, ?_, ?_, ?_⟩
 all_goals first | (show (_ : Int) ≤ _ ∧ _ < _; constructor <;> decide) | (show _ ≤ maxLen; decide)
theorem rec_wideS : (match Tryz.prog.underlying 39 with | some (.array _ _) | some (.struct _) => true | _ => false) = true := by kernel_rfl
theorem rec_keyS {x : Rec} (h : x.Wf) : ∃ kl, keyOf Tryz.prog 39 x.recV = some kl := by
 obtain ⟨h1, h2, h3, h4, h5, h6, h7, h8, h9⟩ := h
 have w1 : (Lit.int .u8 x.k).wf = true := by simp [Lit.wf, IntKind.min, IntKind.max, IntKind.signed, IntKind.bits]; omega
 have w2 : (Lit.int .u32 x.fid).wf = true := by simp [Lit.wf, IntKind.min, IntKind.max, IntKind.signed, IntKind.bits]; omega
 have w3 : (Lit.int .u32 x.dir).wf = true := by simp [Lit.wf, IntKind.min, IntKind.max, IntKind.signed, IntKind.bits]; omega
 have w4 : (Lit.int .u32 x.to).wf = true := by simp [Lit.wf, IntKind.min, IntKind.max, IntKind.signed, IntKind.bits]; omega
 have w5 : (Lit.int .u16 x.md).wf = true := by simp [Lit.wf, IntKind.min, IntKind.max, IntKind.signed, IntKind.bits]; omega
 have w6 : (Lit.int .u64 x.sn).wf = true := by simp [Lit.wf, IntKind.min, IntKind.max, IntKind.signed, IntKind.bits]; omega
 have : (keyOf Tryz.prog 39 x.recV).isSome = true := by
   have hkt : Tryz.prog.keyType 39 = true := by kernel_rfl
   have hc : Tryz.prog.cellsOf 39 = 9 := by kernel_rfl
   have hc0 : Tryz.prog.cellsOf 36 = 8 := by kernel_rfl
   have hc1 : Tryz.prog.cellsOf 32 = 1 := by kernel_rfl
   have hc2 : Tryz.prog.cellsOf 33 = 1 := by kernel_rfl
   have hc3 : Tryz.prog.cellsOf 34 = 1 := by kernel_rfl
   have hc4 : Tryz.prog.cellsOf 9 = 1 := by kernel_rfl
   have hc5 : Tryz.prog.cellsOf 37 = 1 := by kernel_rfl
   have hs : decide (2 ≤ Tryz.prog.types.size) = true := by kernel_rfl
   obtain ⟨d, hd⟩ : ∃ d, Tryz.prog.types.size = d + 2 := ⟨Tryz.prog.types.size - 2, by have := of_decide_eq_true hs; omega⟩
   unfold Rec.recV keyOf
   rw [Tryz.underlying39, hd]
   simp [hkt, Value.formed, Tryz.underlying39, Tryz.underlying36, Tryz.underlying34, Tryz.underlying9, Tryz.underlying37, hc, hc0, hc3, hc4, hc5, Value.cells, Program.keyLits, Tryz.underlying32, Tryz.underlying33, hc1, hc2, w1, w2, w3, w4, w5, w6, h7, h8, h9]
   rw [if_pos (by decide)]
   rfl
 exact Option.isSome_iff_exists.1 this
theorem rec_same (w : World) {x : Rec} (hx : x.Wf) : (Op.equalIn 10000 39 x.recV x.recV).run Tryz.prog w = .ok true w := by
 obtain ⟨lx, ex⟩ := rec_keyS hx
 obtain ⟨r, hr, hiff⟩ := run_equal_deep (P := Tryz.prog) w (m := 3) (by omega) (k := 39) (by kernel_rfl) rec_wideS ex ex
 rw [hiff.2 rfl] at hr
 exact hr
theorem KeepP.cellK {p : Nat} {w w' : World} (h : KeepP p w w') {q : Addr} {v : Value} (hq : q.block ≠ p) (hc : w.cell? q = some v) : w'.cell? q = some v := by
 unfold World.cell? at hc ⊢
 cases hb : w.heap[q.block]? with
 | none => rw [hb] at hc; cases hc
 | some o =>
   rw [hb] at hc
   cases o with
   | cells cs t fr => rw [h _ _ _ _ hq hb]; exact hc
   | _ => simp at hc
theorem field_snapV (a : Option Addr) (n c : Nat) (b : Option Addr) (m d : Nat) (w : World) : (Instr.field 44 (.agg #[.slice a n c, .slice b m d]) 1).run Tryz.prog w = .ok (.slice b m d) w := by kernel_rfl
theorem snapZ_c {base : Nat} {w : World} {p N : Nat} {t : Int} {zs : List Int} {v c ver d0 d1 d2 : Int} {vs : List Vd} (h : SvG base w p N t (zL zs) (zSt v c) ver d0 d1 d2 vs) :
   Calls Tryz.prog 10 #[.pointer (some ⟨p, 0, none⟩)] w fun e w' => ∃ g c1 g2 d L, e = .returned (.agg #[.slice (some ⟨g, 0, none⟩) 2 c1, .slice (some ⟨g2, 0, none⟩) 2 d]) ∧ IsNs w' (some ⟨g, 0, none⟩) L ∧ L.map Nd.er = zL zs ∧ w'.cell? ⟨g2, 4, none⟩ = some (.int .u64 v) ∧ g2 ≠ p ∧ Below w.heap.size w w' := by
 have hp : p < w.heap.size := by obtain ⟨_, _, _, _, _, _, _, _, _, _, _, hr, _⟩ := h; exact lt_blkR hr
 refine (snapG_c h).mono ?_
 rintro e w' ⟨g, c1, g2, d, L, rfl, _, hn, he, hs, hg, hb⟩
 obtain ⟨b, off, q, hc⟩ := hs.2.2 (by show 0 < 2; omega)
 cases q
 exact ⟨g, c1, g2, d, L, rfl, hn, he, (hc 1 (by show 1 < 2; omega)).2.1, by omega, hb⟩
theorem ship_mkG {base : Nat} {w : World} {p N : Nat} {t : Int} {l0 : List Nd} {ss : List St} {ver d0 : Int} (h : SvI base w p N t l0 ss ver d0) (lb cl : Nat) (o : Rec) (hlb : w.heap[lb]? = some (.cells #[.int .u8 o.k, .int .u32 o.fid, .int .u32 o.dir, .string o.nm, .int .u32 o.to, .string o.nm2, .int .u16 o.md, .string o.dt, .int .u64 o.sn] 39 (0, 0)))
   (hw : o.Wf) (hr : rightF o = true) (hk : o.k = 2) (hd : 0 ≤ d0 ∧ d0 < 4294967294) (hv : 0 ≤ ver ∧ ver + 1 < 72057594037927936) (hs : stepB l0 ss ver d0 o N = true) (ht : t ≠ 4294967295) :
   Calls Tryz.prog 9 #[.pointer (some ⟨p, 0, none⟩), .int .u8 1, .int .u32 (d0 + 1), .slice (some ⟨lb, 0, none⟩) 1 cl] w fun e w' => ∃ ve, e = .returned (.tuple #[ve, .int .i64 0]) ∧ OwE w' w.heap.size ve [0] ∧ SvI base w' p N (t + 1) (ApplyL l0 o).2 (stepS l0 ss ver o) (ver + 1) (d0 + 1) ∧ KeepP p w w' ∧ Below base w w' := by
 obtain ⟨j, a, b, ca, cb, l, hJ, hbp, hrow, hT, he, hS, hll, hl0, hl12⟩ := h
 unfold stepB at hs
 simp only [Bool.and_eq_true, decide_eq_true_eq, beq_iff_eq] at hs
 obtain ⟨⟨⟨⟨⟨⟨⟨⟨s1, s2⟩, s3⟩, s4⟩, s5⟩, s6⟩, s7⟩, s8⟩, s9⟩ := hs
 have eA : ApplyL l0 o = (0, (ApplyL l0 o).2) := Prod.ext s1 rfl
 subst he
 have hx : ∀ lw : List Nd, lw.map Nd.er = (ApplyL (l.map Nd.er) o).2 → snapB lw (stepS (l.map Nd.er) ss ver o) = snapB (ApplyL (l.map Nd.er) o).2 (stepS (l.map Nd.er) ss ver o) := fun lw e => by rw [← e, snapB_er]
 have hml : (l.map Nd.er).length = l.length := List.length_map ..
 have hne : (d0 + 1 == d0 && ((0 : Int) == 0 && (0 : Int) == 0)) = false := by
   have : (d0 + 1 == d0) = false := beq_eq_false_iff_ne.2 (by omega)
   rw [this]; rfl
 refine (shipG_c hJ hbp a b ca cb l ss ver d0 0 0 hrow hT hS hl0 (by omega) hll lb cl o hlb hw hr 1 (d0 + 1) (.inl ⟨rfl, rfl⟩) hd (by omega) (by omega) 0 (ApplyL (l.map Nd.er) o).2 (stepS (l.map Nd.er) ss ver o) (ver + 1) (d0 + 1) 0 0 []
   (stampsS_wf hS.2.1 _ ⟨hw.2.1, ⟨(by show (0 : Int) ≤ ver + 1; omega), (by show ver + 1 < 18446744073709551616; omega)⟩, (by show (0 : Int) ≤ 1 ∧ (1 : Int) < 256; omega)⟩) (stampsS_len _ _ _ _ _ _) s2 (by omega)
   (doG_ok o (d0 + 1) 1 (l.map Nd.er) ss ver d0 0 0 (d0 + 1) 0 0 (ApplyL (l.map Nd.er) o).2 (stepS (l.map Nd.er) ss ver o) (.inl ⟨rfl, rfl, rfl, rfl⟩) hS.2.1 (by omega) (by omega) (by omega) hv.1 (by omega) hw (fun W => changes_c o.k (.inr hk) W) (fun W nb g g2 cap cap2 L x0 x1 x2 _ _ _ _ => stale_no o (.inr hk) nb 1 W) (fun W a' c lw hlw hel => ?_) s2 (by omega) s4 rfl)
   (fun x hx => by cases hx) ⟨by omega, hv.2⟩ (by omega) (by omega) (by omega) (by omega) hne (fun lw hlw => ⟨?_, ?_⟩) (fun lw hlw x hxm => ?_) (fun lw hlw => ?_) ht).mono ?_
 · have h1 := tApply_c sort12 a' c lw o W hlw (by have := congrArg List.length hel; simp only [List.length_map] at this; omega) hw (by rw [hel]; exact s3) (fun W' base tb N' hM hR hRt => tdo_2 o hM hR hRt hw hr hk)
   rw [hel, eA] at h1
   exact h1
 · rw [rightD_iff, ← rightD_er, hlw]; exact s5
 · rw [← stOk_er, hlw]; exact s6
 · exact wfB_wf (List.all_eq_true.1 s7 x.er (by rw [← hlw]; exact List.mem_map.2 ⟨x, hxm, rfl⟩))
 · rw [hx lw hlw]
   exact ⟨s8, s9⟩
 · rintro e w' ⟨ve, g, cap, g2, cap2, L2, xa, xn, xc, rfl, hoe, hj, hr', htr, hel, hst, hvv, hkp, hb⟩
   have hq : (.slice xa xn xc : Value) = .slice none 0 0 := by
     rcases hvv with ⟨_, e⟩ | ⟨x, _, _, _, e, _⟩
     · exact e
     · cases e
   rw [hq] at hr'
   refine ⟨ve, rfl, hoe, ⟨j, _, _, cap, cap2, L2, hj, hbp, hr', htr, hel, hst, ?_, ?_, ?_⟩, hkp, hb⟩
   · show (stampsS _ _ _ _ _ _).length = _
     rw [stampsS_len, ← hel, List.length_map]
   · have := congrArg List.length hel; simp only [List.length_map] at this; omega
   · have := congrArg List.length hel; simp only [List.length_map] at this; omega
set_option maxHeartbeats 4000000 in
theorem live12g_c (w : World) : Calls Tryz.prog 6 #[] w fun e w' => e = .returned (.bool true) ∧ Below w.heap.size w w' := by
 have NC0 := new_c 200 w (by omega) (by omega)
 have NC := hid (show Calls Tryz.prog 8 #[.int .i64 200] w _ from NC0)
 clear NC0
 go_enter Tryz.func6, Tryz.ntmps6
 go_upto_region 2 with (first
   | (go_at_call 7; refine OC.out.mono ?_; rintro _ w2 ⟨p, rfl, hsv, hb2⟩; have SV := hid hsv; have B2 := hid (B1.out.trans (hb2.mono B1.out.size)); clear hsv hb2)
   | (go_at_call 8; refine NC.out.mono ?_; rintro _ w1 ⟨rfl, hd1, hb1, hz1⟩; have OC := hid (sopenI_c hd1 (by omega)); have B1 := hid hb1; clear hd1 hb1 hz1))
 go_upto_region 3 with fail
 have b3 := below_1 w2 (.cells #[.int .u8 2, .int .u32 9, .int .u32 1, .string ⟨#[97]⟩, .int .u32 0, .string ⟨#[]⟩, .int .u16 0, .string ⟨#[]⟩, .int .u64 0] 39)
 have g3 := heap_alloc_new w2 (.cells #[.int .u8 2, .int .u32 9, .int .u32 1, .string ⟨#[97]⟩, .int .u32 0, .string ⟨#[]⟩, .int .u16 0, .string ⟨#[]⟩, .int .u64 0] 39)
 have B3 := hid (B2.out.trans (b3.mono B2.out.size))
 have SV3 := SV.out.later b3
 have S1 : Hid (Calls Tryz.prog 9 #[.pointer (some ⟨p, 0, none⟩), .int .u8 1, .int .u32 1, .slice (some ⟨w2.heap.size, 0, none⟩) 1 1] (w2.alloc (.cells #[.int .u8 2, .int .u32 9, .int .u32 1, .string ⟨#[97]⟩, .int .u32 0, .string ⟨#[]⟩, .int .u16 0, .string ⟨#[]⟩, .int .u64 0] 39)) _) := hid (ship_mkG SV3 w2.heap.size 1 opA g3 opA_wf opA_right rfl (by omega) (by omega) opA_step (by decide))
 have G3 := hid g3
 have len1 := opA_len
 generalize (ApplyL newL opA).2 = L1 at S1 len1
 generalize stepS newL firstSs 1 opA = SS1 at S1
 have LEN := hid len1
 clear g3 b3 SV3 len1
 have BZ := hid B1.out.size
 generalize (w2.alloc (.cells #[.int .u8 2, .int .u32 9, .int .u32 1, .string ⟨#[97]⟩, .int .u32 0, .string ⟨#[]⟩, .int .u16 0, .string ⟨#[]⟩, .int .u64 0] 39)) = V3 at *
 have PG : Hid (w2.heap.size ≠ p) := hid (by
   obtain ⟨j, a, b, ca, cb, l, _, _, hr, _⟩ := SV.out
   have := lt_blkR hr
   omega)
 go_upto_region 4 with (go_at_call 9; refine S1.out.mono ?_; rintro _ w4 ⟨v4, rfl, ho4, hs4, hk4, hb4⟩; obtain ⟨g4, c4, rfl, hg4, hc4⟩ := ho4.one; have SV4 := hid hs4; have B4 := hid (B3.out.trans (hb4.mono BZ.out)); have C4 := hid hc4; have G4 := hid (hk4 _ _ _ _ PG.out G3.out); clear ho4 hs4 hb4 hg4 hc4 hk4)
 have S2 : Hid (Calls Tryz.prog 9 #[.pointer (some ⟨p, 0, none⟩), .int .u8 1, .int .u32 1, .slice (some ⟨w2.heap.size, 0, none⟩) 1 1] w4 _) := hid (ship_late SV4.out w2.heap.size 1 opA G4.out opA_wf opA_right 1 (by omega) (by omega) (by omega))
 go_upto_region 5 with (go_at_call 9; refine S2.out.mono ?_; rintro _ w5 ⟨v5, rfl, ho5, hb5⟩; obtain ⟨g5, c5, rfl, hg5, hc5⟩ := ho5.one; have SV5 := hid (SV4.out.later hb5); have B5 := hid (B4.out.trans (hb5.mono B4.out.size)); have a5 : w5.cell? ⟨g5, 0, none⟩ = some (.int .i64 0) := hc5; have a4 : w5.cell? ⟨g4, 0, none⟩ = some (.int .i64 0) := cell_later hb5 C4.out; clear ho5 hb5 hg5 hc5)
 have AC := hid (by
   obtain ⟨j, a, b, ca, cb, l, _, _, hr, _⟩ := SV5.out
   exact applied1_c hr : Calls Tryz.prog 14 #[.pointer (some ⟨p, 0, none⟩), .int .u8 1] w5 fun e w' => e = .returned (.int .u32 (0 + 1)) ∧ w' = w5)
 simp only [Int.zero_add] at AC
 have SC0 := ssnap_c SV5.out
 rw [LEN.out] at SC0
 have SC := hid SC0
 clear SC0
 have FS := field_snap
 go_wp2_with (first
   | (go_at_call 10; refine SC.out.mono ?_; rintro _ w7 ⟨sa, sc, sb, sn, sd, rfl, hb7⟩; have B7 := hid (B5.out.trans (hb7.mono B5.out.size)); clear hb7)
   | (go_at_call 14; refine AC.out.mono ?_; rintro _ wz ⟨rfl, hwz⟩; rw [hwz]; clear hwz))
 go_ret
 exact ⟨rfl, B7.out⟩
end Go.Proofs.YtpolbbdaippclaaGreat
