/-
  For every operations: a log of those that can be done, made shorter, written as bytes, read and done elsewhere makes the same tree.
-/
import Derived.Test.YtihgiemgcmpmmaaGreatShBy
namespace Go.Proofs.YtihgiemgcmpmmaaGreat
open Go.RowKit Go.ChangeShapes Go.WideShapes Go.ChangeAt Go.Maps Go.Shelf
open Go.ChangeMaps (open_string shut_string)
set_option linter.unusedVariables false
set_option linter.unusedSimpArgs false
theorem es_zero {w : World} {b : Option Addr} {n : Nat} (h : IsEs w b (List.replicate n 0)) (hp : 0 < n) : ∃ g off, b = some ⟨g, off, none⟩ ∧ ∀ i, i < n → w.cell? ⟨g, off + i, none⟩ = some (.int .i64 0) := by
 obtain ⟨g, off, e, hc⟩ := h (by rw [List.length_replicate]; exact hp)
 refine ⟨g, off, e, fun i hi => ?_⟩
 have := hc i (by rw [List.length_replicate]; exact hi)
 rw [this, List.getD, List.getElem?_replicate, if_pos hi]
 rfl
set_option maxRecDepth 20000 in
set_option maxHeartbeats 8000000 in
theorem topShorter_walk (a0 : Option Addr) (len0 cap0 : Nat) (ops : List Rec) (lz0 : ops.length = len0) (lc0 : len0 ≤ cap0) (w : World) (h0 : IsOs w a0 ops) :
   Calls Tryz.prog 3 #[.slice a0 len0 cap0] w fun e w' => e = .returned (.bool true) ∧ Below w.heap.size w w' := by
 obtain ⟨i0, hi, hz0, hz1, hz2⟩ := info_rec
 have hm63 := h0.1
 unfold maxLen at hm63
 have SA := hid (fun m (h1 : m ≤ ops.length ∧ m ≤ 1000) => sh_all h0.2.1 m h1.1 h1.2)
 have HO := hid h0
 have NC := hid (tNew_c w)
 have HN : Hid (ops.length = len0) := hid lz0
 rw [lz0] at hm63
 clear h0 lc0 lz0
 go_enter Tryz.func3, Tryz.ntmps3
 go_wp2_with (go_at_call 5; refine NC.out.mono ?_; rintro _ w1 ⟨a1, c1, rfl, ht1, hb1⟩; have T1 := hid ht1; have B1 := hid hb1; have HO1 := hid (HO.out.later hb1); clear ht1 hb1)
 clear NC HO
 go_loopg [4, 5, 6] 202 (fun gk v4 v5 v6 wr => ∃ (m : Nat) (ar : Option Addr) (cr : Nat) (X : List Nd), m + gk = 202 ∧ 0 < gk ∧ m ≤ len0 ∧ v6 = .int .i64 m ∧ v4 = .slice ar X.length cr ∧ Hid ((ar = a1 ∧ cr = c1 ∧ X = newL) ∨ NsO wr w1.heap.size (.slice ar X.length cr) X) ∧ Hid (X.map Nd.er = (shP ops m).1) ∧ Hid (wr.ownsRow w1.heap.size 37 9 v5 (shP ops m).2.length (rcells (shP ops m).2)) ∧ Hid ((shP ops m).2.length ≤ 24) ∧ Hid (Below w1.heap.size w1 wr))
 case atStart => exact ⟨0, a1, c1, newL, by omega, by omega, by omega, rfl, rfl, hid (.inl ⟨rfl, rfl, rfl⟩), hid rfl, hid (World.ownsRow_nil _ _ 37 9), hid (by show 0 ≤ 24; omega), hid (Below.refl _ _)⟩
 case round =>
   obtain ⟨m, ar, cr, X, hm2, hg0, hmn, rfl, rfl, TR, ER, OE, L24, HB⟩ := hrel
   obtain ⟨va, vc, rfl⟩ := own_shapeR OE.out
   have TRT : Hid (Tr wr ar X) := hid (by
     rcases TR.out with ⟨e1, e2, e3⟩ | hN
     · rw [e1, e3]; exact T1.out.later HB.out
     · obtain ⟨r, L, eP, _, _, q3, _⟩ := SA.out m ⟨by rw [HN.out]; exact hmn, by omega⟩
       have hX : X.length ≤ 40 := by have := congrArg List.length ER.out; rw [List.length_map, eP] at this; simp only at this; omega
       obtain ⟨a7, c7, e7, t7⟩ := hN.tr (by omega)
       simp only [Value.slice.injEq] at e7
       rw [e7.1]; exact t7)
   by_cases hlt : m < len0
   · have hltI : (m : Int) < len0 := by omega
     by_cases hlog : (shP ops m).2.length < 24
     · have hlogI : ((shP ops m).2.length : Int) < 24 := by omega
       have hln : m < ops.length := by rw [HN.out]; exact hlt
       obtain ⟨b', off, rfl, _⟩ := HO1.out.2.2 (by omega)
       have hO := HO1.out.later HB.out
       have hc := hO.at (i := m) hln
       have hw := hO.wf (i := m) hln
       have hX : X.length ≤ 40 := by
         obtain ⟨r, L, eP, _, _, q3, _⟩ := SA.out m ⟨by rw [HN.out]; exact hmn, by omega⟩
         have := congrArg List.length ER.out
         rw [List.length_map, eP] at this
         simp only at this
         omega
       have AC := hid (tApply_c sortOK ar cr X (snR (ops.getD m Rec.no) m) wr TRT.out (by omega) (snR_wf hw (by omega)))
       rw [ER.out] at AC
       have HPS : Hid (shP ops (m + 1) = doneS (shP ops m) (snR (ops.getD m Rec.no) m)) := hid rfl
       clear hw hO hln
       generalize ops.getD m Rec.no = x at *
       unfold doneS at HPS
       generalize ApplyL (shP ops m).1 (snR x m) = rr at *
       obtain ⟨re, rl⟩ := rr
       simp only [snR, Rec.opV] at AC HPS
       have HC := hid hc
       have k0 : wr.cell? ⟨b', off + m * 8, none⟩ = some (.int .u8 x.k) := hc 0 _ rfl
       have k1 : wr.cell? ⟨b', off + m * 8 + 1, none⟩ = some (.int .u32 x.fid) := hc 1 _ rfl
       have k2 : wr.cell? ⟨b', off + m * 8 + 2, none⟩ = some (.int .u32 x.dir) := hc 2 _ rfl
       have k3 : wr.cell? ⟨b', off + m * 8 + 3, none⟩ = some (.string x.nm) := hc 3 _ rfl
       have k4 : wr.cell? ⟨b', off + m * 8 + 4, none⟩ = some (.int .u32 x.to) := hc 4 _ rfl
       have k5 : wr.cell? ⟨b', off + m * 8 + 5, none⟩ = some (.string x.nm2) := hc 5 _ rfl
       have k6 : wr.cell? ⟨b', off + m * 8 + 6, none⟩ = some (.int .u16 x.md) := hc 6 _ rfl
       have k7 : wr.cell? ⟨b', off + m * 8 + 7, none⟩ = some (.string x.dt) := hc 7 _ rfl
       clear hc
       go_upto_region 8 with (go_at_call 6; refine AC.out.mono ?_; intro e3 w3 h3; obtain ⟨v3, l3, rfl, ht3, he3, hb3⟩ := h3; (obtain ⟨a3, c3, hv3⟩ := ht3.1.shape); subst hv3; have T3 := hid (ht3.low HB.out.size); have E3' := hid he3; have B3 := hid (HB.out.trans (hb3.mono HB.out.size)); have O3 := hid (own_latR OE.out hb3); have K3 := hid hb3; clear ht3 he3 hb3)
       clear AC k0 k1 k2 k3 k4 k5 k6 k7
       by_cases q : re = 0
       · have qB : (re == 0) = true := by rw [q]; rfl
         have EP : Hid (shP ops (m + 1) = (rl, (shP ops m).2 ++ [snR x m])) := hid (by rw [HPS.out, if_pos q]; rfl)
         have hc : ∀ j v, x.ops[j]? = some v → w3.cell? ⟨b', off + m * 8 + j, none⟩ = some v := fun j v hv => cell_later K3.out (HC.out j v hv)
         have k0 : w3.cell? ⟨b', off + m * 8, none⟩ = some (.int .u8 x.k) := hc 0 _ rfl
         have k1 : w3.cell? ⟨b', off + m * 8 + 1, none⟩ = some (.int .u32 x.fid) := hc 1 _ rfl
         have k2 : w3.cell? ⟨b', off + m * 8 + 2, none⟩ = some (.int .u32 x.dir) := hc 2 _ rfl
         have k3 : w3.cell? ⟨b', off + m * 8 + 3, none⟩ = some (.string x.nm) := hc 3 _ rfl
         have k4 : w3.cell? ⟨b', off + m * 8 + 4, none⟩ = some (.int .u32 x.to) := hc 4 _ rfl
         have k5 : w3.cell? ⟨b', off + m * 8 + 5, none⟩ = some (.string x.nm2) := hc 5 _ rfl
         have k6 : w3.cell? ⟨b', off + m * 8 + 6, none⟩ = some (.int .u16 x.md) := hc 6 _ rfl
         have k7 : w3.cell? ⟨b', off + m * 8 + 7, none⟩ = some (.string x.dt) := hc 7 _ rfl
         clear hc HPS q
         have b4 : Below w3.heap.size w3 (w3.alloc (.cells (snR x m).cells.toArray 37)) := (Below.refl _ _).alloc (Nat.le_refl _) _
         have O4 := hid (own_latR O3.out b4)
         have C4 := hid (B3.out.trans (b4.mono B3.out.size))
         have N4 := hid (heap_alloc_new w3 (.cells (snR x m).cells.toArray 37))
         have T4 := hid (T3.out.later b4)
         clear b4
         go_upto_region 11 with (at_builtin; refine wpList_append_own _ rfl _ _ 25 rfl w1.heap.size 37 i0 Rec.no.val 9 88 Tryz.underlying25 hi hz0 hz1 hz2 (by rfl) (by decide) _ _ _ rfl O4.out ⟨w3.heap.size, 0, none⟩ 1 1 (snR x m).cells rfl rfl (rec_news N4.out) (rec_one (snR x m)) (by unfold maxLen; omega) (by omega) C4.out.size ?_; intro v9 w9 hown9 hgrow9 hnil9)
         have HB9 := hid (below_grownR C4.out O4.out (Nat.le_refl _) C4.out.size hgrow9)
         have HT9 : Hid (NsO w9 w1.heap.size (.slice a3 l3.length c3) l3) := hid (T4.out.grownR O4.out hgrow9)
         have HO9 : Hid (w9.ownsRow w1.heap.size 37 9 v9 (shP ops (m + 1)).2.length (rcells (shP ops (m + 1)).2)) := hid (by
           rw [EP.out]
           simp only [List.length_append, List.length_cons, List.length_nil, rcells_snoc]
           exact hown9)
         have HE9 : Hid (l3.map Nd.er = (shP ops (m + 1)).1) := hid (by rw [EP.out]; exact E3'.out)
         have HL9 : Hid ((shP ops (m + 1)).2.length ≤ 24) := hid (by rw [EP.out]; simp only [List.length_append, List.length_cons, List.length_nil]; omega)
         obtain ⟨a9, c9, rfl⟩ := own_shapeR HO9.out
         clear hown9 hgrow9 hnil9 T3 T4 O3 O4 N4 C4 TR ER OE L24 E3' EP
         by_cases hbig : 200 < m
         · have hbI : (200 : Int) < m := by omega
           have TR9 : Hid (Tr w9 a3 l3) := hid (by
             obtain ⟨r, L, eP, _, _, q3, _⟩ := SA.out (m + 1) ⟨by rw [HN.out]; omega, by omega⟩
             have hX : l3.length ≤ 40 := by have := congrArg List.length HE9.out; rw [List.length_map, eP] at this; simp only at this; omega
             obtain ⟨a7, c7, e7, t7⟩ := HT9.out.tr (by omega)
             simp only [Value.slice.injEq] at e7
             rw [e7.1]; exact t7)
           clear HT9
           obtain ⟨r, L, eP, q1, q2, q3, q4, q5, q6⟩ := SA.out (m + 1) ⟨by rw [HN.out]; omega, by omega⟩
           have HE := HE9.out
           have HO := HO9.out
           have HL := HL9.out
           have ln : (shP ops (m + 1)).2.length = L.length := by rw [eP]
           rw [eP] at HE HO HL
           simp only at HE HO HL
           have RK := q6 HL
           clear eP q6
           obtain ⟨va', vc', ev, iL, _, _⟩ := isL_own HO q1
           obtain ⟨rfl, rfl⟩ : a9 = va' ∧ c9 = vc' := by simp only [Value.slice.injEq] at ev; exact ⟨ev.1, ev.2.2⟩
           rw [ln]
           try rw [ln] at hlogI
           clear ev ln HO
           have BX := hid (HB9.out)
           have TX := hid (TR9.out)
           have EX := hid HE
           have HSW := hid q2
           have hS : (optF L).length ≤ 24 := by omega
           have PC := hid (optimise_c a9 c9 L w9 iL (by omega))
           have RC : Hid (∀ (a : Option Addr) (c : Nat) (W : World), IsL W a (optF L) → Calls Tryz.prog 7 #[.slice a (optF L).length c] W fun e w' => (∃ v, e = .returned (.tuple #[v, .int .i64 0]) ∧ w'.ownsRow W.heap.size 5 1 v (recsA (optF L)).length ((recsA (optF L)).map u8V)) ∧ Below W.heap.size W w') := hid (fun a c W h => by have := records_c a c (optF L) W h (by omega); rw [RK] at this; simp only [if_true] at this; exact this)
           have RR : Hid (∀ (a : Option Addr) (c : Nat) (W : World), IsB W a (recsA (optF L)).length (recsA (optF L)) → (recsA (optF L)).length ≤ c → Lies W a c → Calls Tryz.prog 9 #[.slice a (recsA (optF L)).length c] W fun e w' => Below W.heap.size W w' ∧ ∃ v, e = .returned (.tuple #[v, .int .i64 0]) ∧ w'.ownsRow W.heap.size 37 9 v (optF L).length (rcells (optF L))) := hid (fun a c W h1 h2 h3 => by have := readRecords_c a _ c _ W h1 h2 h3; rw [recsAll_recsA _ q2 RK] at this; exact this)
           have ZI := hid (recsA_in (optF L))
           have OC := hid (fun (a : Option Addr) (c : Nat) (W : World) (h : IsL W a (optF L)) => ops_c a c (optF L) W h (by omega))
           have FC : Hid (∀ (b : Option Addr) (cb : Nat) (W : World), Tr W a1 newL → IsOs W b (optF L) → Calls Tryz.prog 10 #[.slice a1 1 c1, .slice b (optF L).length cb] W (FoP W (r, List.replicate (optF L).length 0))) := hid (fun b cb W hT hO => by have := tFold_c a1 b c1 cb newL (optF L) W hT hO (by decide) (by omega); rw [newEr, q5] at this; exact this)
           have q4I : ((optF L).length : Int) ≤ L.length := by omega
           have hXl : l3.length ≤ 40 := by have := congrArg List.length HE; rw [List.length_map] at this; omega
           clear HE iL q1 q2 q4 q5 RK HL
           generalize recsA (optF L) = zs at *
           generalize optF L = S at *
           go_wp2_with (first
             | (go_at_call 10; refine FV.out.mono ?_; intro e6 w6 h6; obtain ⟨a6, c6, Y, b6, d6, rfl, tY, eY, zY, hb6⟩ := h6; have TY := hid tY; have EY := hid eY; have ZY := hid zY; have B6 := hid (B5.out.trans (hb6.mono B5.out.size)); clear tY eY zY hb6 FV)
             | (go_at_call 11; refine OV.out.mono ?_; intro e5 w5 h5; obtain ⟨v5, rfl, hO5, hb5⟩ := h5; obtain ⟨a5, c5, rfl, i5⟩ := isOs_own hO5 HSW.out; have B5 := hid (B4.out.trans (hb5.mono B4.out.size)); have FV := hid (FC.out a5 c5 w5 (T1.out.later (BX.out.trans (B5.out.mono BX.out.size))) i5); clear hO5 i5 hb5 OV)
             | (go_at_call 9; refine RV.out.mono ?_; rintro _ w4 ⟨hb4, v4, rfl, hO4⟩; obtain ⟨a4, c4, rfl, i4, _, _⟩ := isL_own hO4 HSW.out; have B4 := hid (B3.out.trans (hb4.mono B3.out.size)); have OV := hid (OC.out a4 c4 w4 i4); clear hO4 i4 hb4 RV)
             | (go_at_call 7; refine CV.out.mono ?_; rintro _ w3 ⟨⟨v3, rfl, hO3⟩, hb3⟩; obtain ⟨az, cz, rfl, hI3, hcz, hL3⟩ := isB_ownR hO3 ZI.out; have B3 := hid (B2.out.trans (hb3.mono B2.out.size)); have RV := hid (RR.out az cz w3 hI3 hcz hL3); clear hO3 hI3 hL3 hb3 CV)
             | (go_at_call 8; refine PC.out.mono ?_; rintro _ w2 ⟨v2, rfl, hO2, hb2⟩; obtain ⟨a2, c2, rfl, i2, _, _⟩ := isL_own hO2 HSW.out; have B2 := hid hb2; have CV := hid (RC.out a2 c2 w2 i2); clear hO2 i2 hb2 PC))
           go_loopg [15] S.length (fun gk i wr2 => ∃ m2 : Nat, m2 + gk = S.length ∧ i = .int .i64 m2 ∧ Hid (wr2 = w6))
           case atStart => exact ⟨0, by omega, rfl, hid rfl⟩
           case round =>
             obtain ⟨m2, hm3, rfl, HW2⟩ := hrel
             have hwr2 := HW2.out.symm
             subst hwr2
             by_cases hlt2 : m2 < S.length
             · have hltI2 : (m2 : Int) < S.length := by omega
               obtain ⟨g, off, rfl, hc2⟩ := es_zero ZY.out (by omega)
               have z0 := hc2 m2 hlt2
               clear hc2
               go_wp2
               go_roundg (gk - 1)
               case measure => omega
               case rel => exact ⟨m2 + 1, by omega, by go_num, hid rfl⟩
             · have hge2 : ¬ (m2 : Int) < S.length := by omega
               have SC := hid (tSame_c a3 a6 c3 c6 l3 Y w6 (TX.out.later B6.out) TY.out (by omega) (by have := congrArg List.length EY.out; rw [List.length_map] at this; (try simp only at this); omega))
               have SE : l3.map Nd.er = Y.map Nd.er := EX.out.trans EY.out.symm
               go_wp2_with (go_at_call 12; refine SC.out.mono ?_; rintro _ w7 ⟨⟨rb, rfl, hrb⟩, hb7⟩; have hrb2 := hrb.2 SE; subst hrb2; have B7 := hid (B6.out.trans (hb7.mono B6.out.size)); clear hb7 hrb)
               go_ret
               exact ⟨by first | rfl | simp, (B1.out.trans (BX.out.mono B1.out.size)).trans (B7.out.mono (B1.out.trans (BX.out.mono B1.out.size)).size)⟩
         · have hbI : ¬ (200 : Int) < m := by omega
           go_wp2
           go_roundg (gk - 1)
           case measure => omega
           case rel => exact ⟨m + 1, a3, c3, l3, by omega, by omega, by omega, by go_num, rfl, hid (.inr HT9.out), HE9, HO9, HL9, HB9⟩
       · have qB : (re == 0) = false := beq_eq_false_iff_ne.2 q
         have EP : Hid (shP ops (m + 1) = shP ops m) := hid (by rw [HPS.out, if_neg q])
         clear HPS q
         have TR3 : Hid ((ar = a1 ∧ cr = c1 ∧ X = newL) ∨ NsO w3 w1.heap.size (.slice ar X.length cr) X) := hid (TR.out.imp id (fun h => h.later K3.out))
         have HE9 : Hid (X.map Nd.er = (shP ops (m + 1)).1) := hid (by rw [EP.out]; exact ER.out)
         have HL9 : Hid ((shP ops (m + 1)).2.length ≤ 24) := hid (by rw [EP.out]; exact L24.out)
         have HO9 : Hid (w3.ownsRow w1.heap.size 37 9 (.slice va (shP ops m).2.length vc) (shP ops (m + 1)).2.length (rcells (shP ops (m + 1)).2)) := hid (by rw [EP.out]; exact O3.out)
         by_cases hbig : 200 < m
         · have hbI : (200 : Int) < m := by omega
           have TR9 : Hid (Tr w3 ar X) := hid (TRT.out.later K3.out)
           clear HE9 HL9 HO9 TR3
           obtain ⟨r, L, eP, q1, q2, q3, q4, q5, q6⟩ := SA.out (m) ⟨by rw [HN.out]; exact hmn, by omega⟩
           have HE := ER.out
           have HO := O3.out
           have HL := L24.out
           have ln : (shP ops (m)).2.length = L.length := by rw [eP]
           rw [eP] at HE HO HL
           simp only at HE HO HL
           have RK := q6 HL
           clear eP q6
           obtain ⟨va', vc', ev, iL, _, _⟩ := isL_own HO q1
           obtain ⟨rfl, rfl⟩ : va = va' ∧ vc = vc' := by simp only [Value.slice.injEq] at ev; exact ⟨ev.1, ev.2.2⟩
           rw [ln]
           try rw [ln] at hlogI
           clear ev ln HO
           have BX := hid (B3.out)
           have TX := hid (TR9.out)
           have EX := hid HE
           have HSW := hid q2
           have hS : (optF L).length ≤ 24 := by omega
           have PC := hid (optimise_c va vc L w3 iL (by omega))
           have RC : Hid (∀ (a : Option Addr) (c : Nat) (W : World), IsL W a (optF L) → Calls Tryz.prog 7 #[.slice a (optF L).length c] W fun e w' => (∃ v, e = .returned (.tuple #[v, .int .i64 0]) ∧ w'.ownsRow W.heap.size 5 1 v (recsA (optF L)).length ((recsA (optF L)).map u8V)) ∧ Below W.heap.size W w') := hid (fun a c W h => by have := records_c a c (optF L) W h (by omega); rw [RK] at this; simp only [if_true] at this; exact this)
           have RR : Hid (∀ (a : Option Addr) (c : Nat) (W : World), IsB W a (recsA (optF L)).length (recsA (optF L)) → (recsA (optF L)).length ≤ c → Lies W a c → Calls Tryz.prog 9 #[.slice a (recsA (optF L)).length c] W fun e w' => Below W.heap.size W w' ∧ ∃ v, e = .returned (.tuple #[v, .int .i64 0]) ∧ w'.ownsRow W.heap.size 37 9 v (optF L).length (rcells (optF L))) := hid (fun a c W h1 h2 h3 => by have := readRecords_c a _ c _ W h1 h2 h3; rw [recsAll_recsA _ q2 RK] at this; exact this)
           have ZI := hid (recsA_in (optF L))
           have OC := hid (fun (a : Option Addr) (c : Nat) (W : World) (h : IsL W a (optF L)) => ops_c a c (optF L) W h (by omega))
           have FC : Hid (∀ (b : Option Addr) (cb : Nat) (W : World), Tr W a1 newL → IsOs W b (optF L) → Calls Tryz.prog 10 #[.slice a1 1 c1, .slice b (optF L).length cb] W (FoP W (r, List.replicate (optF L).length 0))) := hid (fun b cb W hT hO => by have := tFold_c a1 b c1 cb newL (optF L) W hT hO (by decide) (by omega); rw [newEr, q5] at this; exact this)
           have q4I : ((optF L).length : Int) ≤ L.length := by omega
           have hXl : X.length ≤ 40 := by have := congrArg List.length HE; rw [List.length_map] at this; omega
           clear HE iL q1 q2 q4 q5 RK HL
           generalize recsA (optF L) = zs at *
           generalize optF L = S at *
           go_wp2_with (first
             | (go_at_call 10; refine FV.out.mono ?_; intro e6 w6 h6; obtain ⟨a6, c6, Y, b6, d6, rfl, tY, eY, zY, hb6⟩ := h6; have TY := hid tY; have EY := hid eY; have ZY := hid zY; have B6 := hid (B5.out.trans (hb6.mono B5.out.size)); clear tY eY zY hb6 FV)
             | (go_at_call 11; refine OV.out.mono ?_; intro e5 w5 h5; obtain ⟨v5, rfl, hO5, hb5⟩ := h5; obtain ⟨a5, c5, rfl, i5⟩ := isOs_own hO5 HSW.out; have B5 := hid (B4.out.trans (hb5.mono B4.out.size)); have FV := hid (FC.out a5 c5 w5 (T1.out.later (BX.out.trans (B5.out.mono BX.out.size))) i5); clear hO5 i5 hb5 OV)
             | (go_at_call 9; refine RV.out.mono ?_; rintro _ w4 ⟨hb4, v4, rfl, hO4⟩; obtain ⟨a4, c4, rfl, i4, _, _⟩ := isL_own hO4 HSW.out; have B4 := hid (B3.out.trans (hb4.mono B3.out.size)); have OV := hid (OC.out a4 c4 w4 i4); clear hO4 i4 hb4 RV)
             | (go_at_call 7; refine CV.out.mono ?_; rintro _ w3 ⟨⟨v3, rfl, hO3⟩, hb3⟩; obtain ⟨az, cz, rfl, hI3, hcz, hL3⟩ := isB_ownR hO3 ZI.out; have B3 := hid (B2.out.trans (hb3.mono B2.out.size)); have RV := hid (RR.out az cz w3 hI3 hcz hL3); clear hO3 hI3 hL3 hb3 CV)
             | (go_at_call 8; refine PC.out.mono ?_; rintro _ w2 ⟨v2, rfl, hO2, hb2⟩; obtain ⟨a2, c2, rfl, i2, _, _⟩ := isL_own hO2 HSW.out; have B2 := hid hb2; have CV := hid (RC.out a2 c2 w2 i2); clear hO2 i2 hb2 PC))
           go_loopg [15] S.length (fun gk i wr2 => ∃ m2 : Nat, m2 + gk = S.length ∧ i = .int .i64 m2 ∧ Hid (wr2 = w6))
           case atStart => exact ⟨0, by omega, rfl, hid rfl⟩
           case round =>
             obtain ⟨m2, hm3, rfl, HW2⟩ := hrel
             have hwr2 := HW2.out.symm
             subst hwr2
             by_cases hlt2 : m2 < S.length
             · have hltI2 : (m2 : Int) < S.length := by omega
               obtain ⟨g, off, rfl, hc2⟩ := es_zero ZY.out (by omega)
               have z0 := hc2 m2 hlt2
               clear hc2
               go_wp2
               go_roundg (gk - 1)
               case measure => omega
               case rel => exact ⟨m2 + 1, by omega, by go_num, hid rfl⟩
             · have hge2 : ¬ (m2 : Int) < S.length := by omega
               have SC := hid (tSame_c ar a6 cr c6 X Y w6 (TX.out.later B6.out) TY.out (by omega) (by have := congrArg List.length EY.out; rw [List.length_map] at this; (try simp only at this); omega))
               have SE : X.map Nd.er = Y.map Nd.er := EX.out.trans EY.out.symm
               go_wp2_with (go_at_call 12; refine SC.out.mono ?_; rintro _ w7 ⟨⟨rb, rfl, hrb⟩, hb7⟩; have hrb2 := hrb.2 SE; subst hrb2; have B7 := hid (B6.out.trans (hb7.mono B6.out.size)); clear hb7 hrb)
               go_ret
               exact ⟨by first | rfl | simp, (B1.out.trans (BX.out.mono B1.out.size)).trans (B7.out.mono (B1.out.trans (BX.out.mono B1.out.size)).size)⟩
         · have hbI : ¬ (200 : Int) < m := by omega
           go_wp2
           go_roundg (gk - 1)
           case measure => omega
           case rel => exact ⟨m + 1, ar, cr, X, by omega, by omega, by omega, by go_num, rfl, TR3, HE9, HO9, HL9, B3⟩
     · have hlogI : ¬ ((shP ops m).2.length : Int) < 24 := by omega
       obtain ⟨r, L, eP, q1, q2, q3, q4, q5, q6⟩ := SA.out (m) ⟨by rw [HN.out]; exact hmn, by omega⟩
       have HE := ER.out
       have HO := OE.out
       have HL := L24.out
       have ln : (shP ops (m)).2.length = L.length := by rw [eP]
       rw [eP] at HE HO HL
       simp only at HE HO HL
       have RK := q6 HL
       clear eP q6
       obtain ⟨va', vc', ev, iL, _, _⟩ := isL_own HO q1
       obtain ⟨rfl, rfl⟩ : va = va' ∧ vc = vc' := by simp only [Value.slice.injEq] at ev; exact ⟨ev.1, ev.2.2⟩
       rw [ln]
       try rw [ln] at hlogI
       clear ev ln HO
       have BX := hid (HB.out)
       have TX := hid (TRT.out)
       have EX := hid HE
       have HSW := hid q2
       have hS : (optF L).length ≤ 24 := by omega
       have PC := hid (optimise_c va vc L wr iL (by omega))
       have RC : Hid (∀ (a : Option Addr) (c : Nat) (W : World), IsL W a (optF L) → Calls Tryz.prog 7 #[.slice a (optF L).length c] W fun e w' => (∃ v, e = .returned (.tuple #[v, .int .i64 0]) ∧ w'.ownsRow W.heap.size 5 1 v (recsA (optF L)).length ((recsA (optF L)).map u8V)) ∧ Below W.heap.size W w') := hid (fun a c W h => by have := records_c a c (optF L) W h (by omega); rw [RK] at this; simp only [if_true] at this; exact this)
       have RR : Hid (∀ (a : Option Addr) (c : Nat) (W : World), IsB W a (recsA (optF L)).length (recsA (optF L)) → (recsA (optF L)).length ≤ c → Lies W a c → Calls Tryz.prog 9 #[.slice a (recsA (optF L)).length c] W fun e w' => Below W.heap.size W w' ∧ ∃ v, e = .returned (.tuple #[v, .int .i64 0]) ∧ w'.ownsRow W.heap.size 37 9 v (optF L).length (rcells (optF L))) := hid (fun a c W h1 h2 h3 => by have := readRecords_c a _ c _ W h1 h2 h3; rw [recsAll_recsA _ q2 RK] at this; exact this)
       have ZI := hid (recsA_in (optF L))
       have OC := hid (fun (a : Option Addr) (c : Nat) (W : World) (h : IsL W a (optF L)) => ops_c a c (optF L) W h (by omega))
       have FC : Hid (∀ (b : Option Addr) (cb : Nat) (W : World), Tr W a1 newL → IsOs W b (optF L) → Calls Tryz.prog 10 #[.slice a1 1 c1, .slice b (optF L).length cb] W (FoP W (r, List.replicate (optF L).length 0))) := hid (fun b cb W hT hO => by have := tFold_c a1 b c1 cb newL (optF L) W hT hO (by decide) (by omega); rw [newEr, q5] at this; exact this)
       have q4I : ((optF L).length : Int) ≤ L.length := by omega
       have hXl : X.length ≤ 40 := by have := congrArg List.length HE; rw [List.length_map] at this; omega
       clear HE iL q1 q2 q4 q5 RK HL
       generalize recsA (optF L) = zs at *
       generalize optF L = S at *
       go_wp2_with (first
         | (go_at_call 10; refine FV.out.mono ?_; intro e6 w6 h6; obtain ⟨a6, c6, Y, b6, d6, rfl, tY, eY, zY, hb6⟩ := h6; have TY := hid tY; have EY := hid eY; have ZY := hid zY; have B6 := hid (B5.out.trans (hb6.mono B5.out.size)); clear tY eY zY hb6 FV)
         | (go_at_call 11; refine OV.out.mono ?_; intro e5 w5 h5; obtain ⟨v5, rfl, hO5, hb5⟩ := h5; obtain ⟨a5, c5, rfl, i5⟩ := isOs_own hO5 HSW.out; have B5 := hid (B4.out.trans (hb5.mono B4.out.size)); have FV := hid (FC.out a5 c5 w5 (T1.out.later (BX.out.trans (B5.out.mono BX.out.size))) i5); clear hO5 i5 hb5 OV)
         | (go_at_call 9; refine RV.out.mono ?_; rintro _ w4 ⟨hb4, v4, rfl, hO4⟩; obtain ⟨a4, c4, rfl, i4, _, _⟩ := isL_own hO4 HSW.out; have B4 := hid (B3.out.trans (hb4.mono B3.out.size)); have OV := hid (OC.out a4 c4 w4 i4); clear hO4 i4 hb4 RV)
         | (go_at_call 7; refine CV.out.mono ?_; rintro _ w3 ⟨⟨v3, rfl, hO3⟩, hb3⟩; obtain ⟨az, cz, rfl, hI3, hcz, hL3⟩ := isB_ownR hO3 ZI.out; have B3 := hid (B2.out.trans (hb3.mono B2.out.size)); have RV := hid (RR.out az cz w3 hI3 hcz hL3); clear hO3 hI3 hL3 hb3 CV)
         | (go_at_call 8; refine PC.out.mono ?_; rintro _ w2 ⟨v2, rfl, hO2, hb2⟩; obtain ⟨a2, c2, rfl, i2, _, _⟩ := isL_own hO2 HSW.out; have B2 := hid hb2; have CV := hid (RC.out a2 c2 w2 i2); clear hO2 i2 hb2 PC))
       go_loopg [15] S.length (fun gk i wr2 => ∃ m2 : Nat, m2 + gk = S.length ∧ i = .int .i64 m2 ∧ Hid (wr2 = w6))
       case atStart => exact ⟨0, by omega, rfl, hid rfl⟩
       case round =>
         obtain ⟨m2, hm3, rfl, HW2⟩ := hrel
         have hwr2 := HW2.out.symm
         subst hwr2
         by_cases hlt2 : m2 < S.length
         · have hltI2 : (m2 : Int) < S.length := by omega
           obtain ⟨g, off, rfl, hc2⟩ := es_zero ZY.out (by omega)
           have z0 := hc2 m2 hlt2
           clear hc2
           go_wp2
           go_roundg (gk - 1)
           case measure => omega
           case rel => exact ⟨m2 + 1, by omega, by go_num, hid rfl⟩
         · have hge2 : ¬ (m2 : Int) < S.length := by omega
           have SC := hid (tSame_c ar a6 cr c6 X Y w6 (TX.out.later B6.out) TY.out (by omega) (by have := congrArg List.length EY.out; rw [List.length_map] at this; (try simp only at this); omega))
           have SE : X.map Nd.er = Y.map Nd.er := EX.out.trans EY.out.symm
           go_wp2_with (go_at_call 12; refine SC.out.mono ?_; rintro _ w7 ⟨⟨rb, rfl, hrb⟩, hb7⟩; have hrb2 := hrb.2 SE; subst hrb2; have B7 := hid (B6.out.trans (hb7.mono B6.out.size)); clear hb7 hrb)
           go_ret
           exact ⟨by first | rfl | simp, (B1.out.trans (BX.out.mono B1.out.size)).trans (B7.out.mono (B1.out.trans (BX.out.mono B1.out.size)).size)⟩
   · have hltI : ¬ (m : Int) < len0 := by omega
     obtain ⟨r, L, eP, q1, q2, q3, q4, q5, q6⟩ := SA.out (m) ⟨by rw [HN.out]; exact hmn, by omega⟩
     have HE := ER.out
     have HO := OE.out
     have HL := L24.out
     have ln : (shP ops (m)).2.length = L.length := by rw [eP]
     rw [eP] at HE HO HL
     simp only at HE HO HL
     have RK := q6 HL
     clear eP q6
     obtain ⟨va', vc', ev, iL, _, _⟩ := isL_own HO q1
     obtain ⟨rfl, rfl⟩ : va = va' ∧ vc = vc' := by simp only [Value.slice.injEq] at ev; exact ⟨ev.1, ev.2.2⟩
     rw [ln]
     try rw [ln] at hlogI
     clear ev ln HO
     have BX := hid (HB.out)
     have TX := hid (TRT.out)
     have EX := hid HE
     have HSW := hid q2
     have hS : (optF L).length ≤ 24 := by omega
     have PC := hid (optimise_c va vc L wr iL (by omega))
     have RC : Hid (∀ (a : Option Addr) (c : Nat) (W : World), IsL W a (optF L) → Calls Tryz.prog 7 #[.slice a (optF L).length c] W fun e w' => (∃ v, e = .returned (.tuple #[v, .int .i64 0]) ∧ w'.ownsRow W.heap.size 5 1 v (recsA (optF L)).length ((recsA (optF L)).map u8V)) ∧ Below W.heap.size W w') := hid (fun a c W h => by have := records_c a c (optF L) W h (by omega); rw [RK] at this; simp only [if_true] at this; exact this)
     have RR : Hid (∀ (a : Option Addr) (c : Nat) (W : World), IsB W a (recsA (optF L)).length (recsA (optF L)) → (recsA (optF L)).length ≤ c → Lies W a c → Calls Tryz.prog 9 #[.slice a (recsA (optF L)).length c] W fun e w' => Below W.heap.size W w' ∧ ∃ v, e = .returned (.tuple #[v, .int .i64 0]) ∧ w'.ownsRow W.heap.size 37 9 v (optF L).length (rcells (optF L))) := hid (fun a c W h1 h2 h3 => by have := readRecords_c a _ c _ W h1 h2 h3; rw [recsAll_recsA _ q2 RK] at this; exact this)
     have ZI := hid (recsA_in (optF L))
     have OC := hid (fun (a : Option Addr) (c : Nat) (W : World) (h : IsL W a (optF L)) => ops_c a c (optF L) W h (by omega))
     have FC : Hid (∀ (b : Option Addr) (cb : Nat) (W : World), Tr W a1 newL → IsOs W b (optF L) → Calls Tryz.prog 10 #[.slice a1 1 c1, .slice b (optF L).length cb] W (FoP W (r, List.replicate (optF L).length 0))) := hid (fun b cb W hT hO => by have := tFold_c a1 b c1 cb newL (optF L) W hT hO (by decide) (by omega); rw [newEr, q5] at this; exact this)
     have q4I : ((optF L).length : Int) ≤ L.length := by omega
     have hXl : X.length ≤ 40 := by have := congrArg List.length HE; rw [List.length_map] at this; omega
     clear HE iL q1 q2 q4 q5 RK HL
     generalize recsA (optF L) = zs at *
     generalize optF L = S at *
     go_wp2_with (first
       | (go_at_call 10; refine FV.out.mono ?_; intro e6 w6 h6; obtain ⟨a6, c6, Y, b6, d6, rfl, tY, eY, zY, hb6⟩ := h6; have TY := hid tY; have EY := hid eY; have ZY := hid zY; have B6 := hid (B5.out.trans (hb6.mono B5.out.size)); clear tY eY zY hb6 FV)
       | (go_at_call 11; refine OV.out.mono ?_; intro e5 w5 h5; obtain ⟨v5, rfl, hO5, hb5⟩ := h5; obtain ⟨a5, c5, rfl, i5⟩ := isOs_own hO5 HSW.out; have B5 := hid (B4.out.trans (hb5.mono B4.out.size)); have FV := hid (FC.out a5 c5 w5 (T1.out.later (BX.out.trans (B5.out.mono BX.out.size))) i5); clear hO5 i5 hb5 OV)
       | (go_at_call 9; refine RV.out.mono ?_; rintro _ w4 ⟨hb4, v4, rfl, hO4⟩; obtain ⟨a4, c4, rfl, i4, _, _⟩ := isL_own hO4 HSW.out; have B4 := hid (B3.out.trans (hb4.mono B3.out.size)); have OV := hid (OC.out a4 c4 w4 i4); clear hO4 i4 hb4 RV)
       | (go_at_call 7; refine CV.out.mono ?_; rintro _ w3 ⟨⟨v3, rfl, hO3⟩, hb3⟩; obtain ⟨az, cz, rfl, hI3, hcz, hL3⟩ := isB_ownR hO3 ZI.out; have B3 := hid (B2.out.trans (hb3.mono B2.out.size)); have RV := hid (RR.out az cz w3 hI3 hcz hL3); clear hO3 hI3 hL3 hb3 CV)
       | (go_at_call 8; refine PC.out.mono ?_; rintro _ w2 ⟨v2, rfl, hO2, hb2⟩; obtain ⟨a2, c2, rfl, i2, _, _⟩ := isL_own hO2 HSW.out; have B2 := hid hb2; have CV := hid (RC.out a2 c2 w2 i2); clear hO2 i2 hb2 PC))
     go_loopg [15] S.length (fun gk i wr2 => ∃ m2 : Nat, m2 + gk = S.length ∧ i = .int .i64 m2 ∧ Hid (wr2 = w6))
     case atStart => exact ⟨0, by omega, rfl, hid rfl⟩
     case round =>
       obtain ⟨m2, hm3, rfl, HW2⟩ := hrel
       have hwr2 := HW2.out.symm
       subst hwr2
       by_cases hlt2 : m2 < S.length
       · have hltI2 : (m2 : Int) < S.length := by omega
         obtain ⟨g, off, rfl, hc2⟩ := es_zero ZY.out (by omega)
         have z0 := hc2 m2 hlt2
         clear hc2
         go_wp2
         go_roundg (gk - 1)
         case measure => omega
         case rel => exact ⟨m2 + 1, by omega, by go_num, hid rfl⟩
       · have hge2 : ¬ (m2 : Int) < S.length := by omega
         have SC := hid (tSame_c ar a6 cr c6 X Y w6 (TX.out.later B6.out) TY.out (by omega) (by have := congrArg List.length EY.out; rw [List.length_map] at this; (try simp only at this); omega))
         have SE : X.map Nd.er = Y.map Nd.er := EX.out.trans EY.out.symm
         go_wp2_with (go_at_call 12; refine SC.out.mono ?_; rintro _ w7 ⟨⟨rb, rfl, hrb⟩, hb7⟩; have hrb2 := hrb.2 SE; subst hrb2; have B7 := hid (B6.out.trans (hb7.mono B6.out.size)); clear hb7 hrb)
         go_ret
         exact ⟨by first | rfl | simp, (B1.out.trans (BX.out.mono B1.out.size)).trans (B7.out.mono (B1.out.trans (BX.out.mono B1.out.size)).size)⟩
/-! ### The row of TopShorter -/
theorem topShorter_own : ownKnob Tryz.prog.godebug = none := by kernel_rfl
theorem topShorter_laidOut : laidOutB Tryz.prog = true := by kernel_rfl
set_option maxRecDepth 100000 in
theorem topShorter_lifted (os : Os) (started : os.Started) (H : Type) (enc : TypeId × Value → H) :
   ReturnsInHanded {} Tryz.checked os 3 .any (Rows.topShorterSpec.pre6 enc Tryz.prog Tryz.f3 Rows.topShorterRow.domain false) (Rows.topShorterSpec.post enc Tryz.prog Tryz.f3 false true false false) := by
 refine returnsInHanded_of_change (C := Tryz.checked) topShorter_own started (by kernel_rfl) Tryz.func3
   (ChangeSpec.witness6 (enc := enc) (C := Tryz.checked) false ⟨#[], #[.slice none 0 0], []⟩ 8 (by kernel_rfl) (by kernel_rfl) (by kernel_rfl) (by kernel_rfl)) ?_
 intro W base args ds gs before hval0 hW hcnd _
 have hval : ∀ (j : Nat) t v, Tryz.f3.params[j]? = some t → args[j]? = some v → Value.okWide Tryz.prog W .any base t v := hval0
 have hW' := hW
 obtain ⟨p, q, hA0, hV, rfl, hfz, hnd⟩ := hW
 have hA : DataW.TrodAll enc Tryz.prog W 0 (fun _ => true) true Tryz.f3.params.toList args.toList ds p := hA0
 rw [Tryz.params3] at hA hval
 obtain ⟨v0, vs0, d0, ds0, p0, q0, hargs, rfl, rfl, h0, r0⟩ := trodAll_cons hA
 obtain ⟨rfl, rfl, rfl⟩ := trodAll_nil r0
 obtain rfl : args = #[v0] := by cases args; simp_all
 obtain ⟨rfl, rfl⟩ := trodVars_none hV
 have k0 := h0
 have lt0 : ∀ x ∈ p0, x.block < W.heap.size := by obtain ⟨m, hm⟩ := k0; exact DataW.trod_lt m _ _ _ hm
 obtain ⟨a0, len0, cap0, rfl⟩ := okWide_slice Tryz.underlying22 (hval 0 22 v0 rfl rfl)
 obtain ⟨z0, lz0, w0, lc0⟩ := isOs_of Tryz.underlying22 h0
 clear hA0 hval0
 refine (topShorter_walk a0 len0 cap0 z0 lz0 lc0 W w0).mono fun e W' ⟨he, bel⟩ => ?_
 subst he
 exact ⟨_, rfl, _, _, _, [], _, [], hW', trodAll_mk1 (shut_bool Tryz.underlying4 _), (trodAll_cons_mk (Below.trod topShorter_laidOut (by kernel_rfl) (of_decide_eq_true (by kernel_rfl)) k0 bel lt0) trodAll_mk0), rfl, bel.frame _, fun h => by cases h⟩
theorem topShorter_over : Rows.topShorterRow.holds Tryz.pinned (OpenSpec.ofChange Rows.topShorterSpec) :=
 OpenClaim.holds_of_wide 3 Tryz.f3 rfl rfl rfl rfl rfl rfl rfl ⟨rfl, rfl, rfl, rfl, rfl⟩ rfl rfl rfl rfl rfl (by kernel_rfl) Tryz.func3 (by kernel_rfl)
   (of_decide_eq_true (by kernel_rfl)) (by unfold Func.isWrapper; first | (rw [if_pos (by decide +kernel)]; kernel_rfl) | (rw [if_neg (by decide +kernel)]; exact ⟨rfl, rfl⟩))
   (fun os started H enc _ => topShorter_lifted os started H enc)
theorem topShorter_holds : Rows.TopShorterSaid := topShorter_over
#print axioms topShorter_holds
end Go.Proofs.YtihgiemgcmpmmaaGreat
