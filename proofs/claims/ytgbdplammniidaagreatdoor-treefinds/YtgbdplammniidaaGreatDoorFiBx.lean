/-
  The document's Fold once more: the tree that it answers is the call's own.
  What the tree's laws share: a tree of operations.
  Find, gone on by a name.
  Same of the program's tree.
  What the tree's laws share: a tree that holds no places; trees compared.
  What is made and removed leaves all as it was; what is stored last is what is there.
  Get of the program's tree.
  What is stored last is what is there; nothing else changes by it. A pair of texts that comes in.
  A file with two entries is one file; a directory is never put below itself.
  Get and Look of a tree whose contents are known.
-/
import Derived.Test.YtgbdplammniidaaGreatDoorFiAp
import Derived.Test.YtgbdplammniidaaGreatDoorFiBw
namespace Go.Proofs.YtgbdplammniidaaGreatDoor
open Go.RowKit Go.ChangeShapes Go.WideShapes Go.ChangeAt
set_option linter.unusedVariables false
set_option linter.unusedSimpArgs false
set_option maxRecDepth 100000
def FoN (w : World) (r : List Nd × List Int) (e : Ending) (w' : World) : Prop := ∃ a c l b d, e = .returned (.tuple #[.slice a l.length c, .slice b r.2.length d]) ∧ NsO w' w.heap.size (.slice a l.length c) l ∧ l.map Nd.er = r.1 ∧ IsEs w' b r.2 ∧ Below w.heap.size w w'
set_option maxHeartbeats 8000000 in
theorem rFoldN_c (a b : Option Addr) (cap cb : Nat) (l : List Nd) (ops : List Rec) (w : World) (h : Tr w a l) (ho : IsOs w b ops) (hm : l.length ≤ 900) (hn : ops.length ≤ 1000) :
   Calls Tryz.prog 11 #[.slice a l.length cap, .slice b ops.length cb] w (FoN w (FoldL (l.map Nd.er) ops)) := by
 obtain ⟨R, hR⟩ : ∃ R, R = FoldL (l.map Nd.er) ops := ⟨_, rfl⟩
 rw [← hR]
 unfold FoldL at hR
 rw [rightD_er] at hR
 have RC := hid (rRight_c a cap l w h.1 (by omega))
 have HT := hid h
 have HO := hid ho
 have HR := hid hR
 have HF : Hid (rightD l = true → l.length ≤ 40) := hid (fun e => (rightD_tok e).1.few)
 obtain ⟨n, hnn⟩ : ∃ n, n = ops.length := ⟨_, rfl⟩
 have HN := hid hnn
 rw [← hnn] at hn ⊢
 clear h ho hR hnn
 generalize rightD l = br at *
 cases br with
 | false =>
   have RE : Hid (R = ([], List.replicate n 3)) := hid (by rw [HN.out]; exact HR.out.trans (if_neg (by simp)))
   clear HR HF
   go_enter Tryz.func11, Tryz.ntmps11
   go_wp2_with (go_at_call 22; refine RC.out.mono ?_; rintro _ w1 ⟨rfl, hb1⟩; have B1 := hid hb1; clear hb1)
   go_loopg [6, 7] n (fun gk v i wr => ∃ m : Nat, m + gk = n ∧ i = .int .i64 m ∧ Hid (OwE wr w.heap.size v (List.replicate m 3)) ∧ Hid (Below w.heap.size w wr))
   case atStart => exact ⟨0, by omega, rfl, hid (OwE.nil _ _), B1⟩
   case round =>
     obtain ⟨m, hm2, rfl, OE, HB⟩ := hrel
     obtain ⟨va, vc, rfl⟩ := OE.out.shape
     by_cases hlt : m < n
     · have hltI : (m : Int) < n := by omega
       have b1 := below_1 wr (.cells #[.int .i64 3] 27)
       have O1 := hid (OE.out.later b1)
       have C1 := hid (HB.out.trans (b1.mono HB.out.size))
       have N1 := hid (heap_alloc_new wr (.cells #[.int .i64 3] 27))
       clear b1
       go_wp2_with (at_builtin; refine wpList_appE _ rfl _ _ rfl w.heap.size _ (List.replicate m 3) rfl O1.out wr.heap.size _ 3 rfl N1.out (by rw [List.length_replicate]; omega) C1.out.size ?_; intro v9 w9 hown9 hgrow9)
       have HB9 := hid (below_grownE C1.out O1.out (Nat.le_refl _) C1.out.size hgrow9)
       have HO9 : Hid (OwE w9 w.heap.size v9 (List.replicate (m + 1) 3)) := hid (by rw [List.replicate_succ']; exact hown9)
       obtain ⟨a9, c9, rfl⟩ := hown9.shape
       clear hown9 hgrow9
       go_roundg (gk - 1)
       case measure => omega
       case rel => exact ⟨m + 1, by omega, by go_num, HO9, HB9⟩
     · have em : m = n := by omega
       subst em
       have hge : ¬ (m : Int) < m := by omega
       obtain ⟨a5, c5, e5, i5⟩ := OE.out.is
       have EE := hid e5
       have IE := hid i5
       clear e5 i5
       go_wp2
       refine bodyPost_ret (v := .tuple #[.slice none 0 0, .slice va (List.replicate m (3 : Int)).length vc]) (by simp [results, Tryz.results11, go_sem]) rfl ⟨none, 0, [], a5, c5, ?_, NsO.nil _ _, by rw [RE.out]; rfl, by rw [RE.out]; exact IE.out, HB.out⟩
       rw [RE.out, EE.out]
       rfl
 | true =>
   have RE : Hid (R = ops.foldl foldS (l.map Nd.er, [])) := hid (HR.out.trans (if_pos rfl))
   have hl40 := HF.out rfl
   clear HR HF
   obtain ⟨P, hP⟩ : ∃ P : Nat → List Nd × List Int, P = fun m => (ops.take m).foldl foldS (l.map Nd.er, []) := ⟨_, rfl⟩
   have P0 : Hid (P 0 = (l.map Nd.er, [])) := hid (by rw [hP]; rfl)
   have PS : Hid (∀ m, m < n → P (m + 1) = foldS (P m) (ops.getD m Rec.no)) := hid (fun m hm => by rw [hP]; exact fold_take _ _ _ Rec.no (by rw [← HN.out]; exact hm))
   have PL : Hid (∀ m, m ≤ n → (P m).2.length = m) := hid (fun m hm => by rw [hP]; exact foldS_len _ ops m (by rw [← HN.out]; exact hm))
   have PF : Hid (∀ m, (P m).1.length ≤ 43) := hid (fun m => by rw [hP]; exact foldS_few _ (by rw [List.length_map]; omega) ops m)
   have PE : Hid (R = P n) := hid (by rw [RE.out, hP, HN.out]; simp only; rw [List.take_length])
   clear hP RE
   go_enter Tryz.func11, Tryz.ntmps11
   go_upto_region 8 with (go_at_call 22; refine RC.out.mono ?_; rintro _ w1 ⟨rfl, hb1⟩; have B1 := hid hb1; clear hb1)
   have CC := hid (rcopied_c a cap l w1 (HT.out.later B1.out).1 (by omega) HT.out.2)
   clear RC
   go_wp2_with (go_at_call 23; refine CC.out.mono ?_; intro e2 w2 h2; obtain ⟨v2, L2, rfl, ho2, he2, hr2, hb2⟩ := h2
                obtain ⟨a2, c2, hv2⟩ := ho2.shape
                subst hv2
                have T2 := hid ((show NsO w2 w1.heap.size _ L2 from ⟨ho2, hr2⟩).low B1.out.size)
                have E2 := hid he2
                have B2 := hid (B1.out.trans (hb2.mono B1.out.size))
                clear he2 hr2 hb2 ho2)
   go_loopg [6, 8, 9] n (fun gk v6 v8 v9 wr => ∃ (m : Nat) (ar : Option Addr) (cr : Nat) (L : List Nd), m + gk = n ∧ v9 = .int .i64 m ∧ v8 = .slice ar L.length cr ∧ Hid (NsO wr w.heap.size (.slice ar L.length cr) L) ∧ Hid (L.map Nd.er = (P m).1) ∧ Hid (OwE wr w.heap.size v6 (P m).2) ∧ Hid (Below w.heap.size w wr))
   case atStart => exact ⟨0, a2, c2, L2, by omega, rfl, rfl, T2, hid (by rw [P0.out]; exact E2.out), hid (by rw [P0.out]; exact OwE.nil _ _), B2⟩
   case round =>
     obtain ⟨m, ar, cr, L, hm2, rfl, rfl, TR, ER, OE, HB⟩ := hrel
     obtain ⟨va, vc, rfl⟩ := OE.out.shape
     by_cases hlt : m < n
     · have hltI : (m : Int) < n := by omega
       have hln : m < ops.length := by rw [← HN.out]; exact hlt
       obtain ⟨b', off, rfl, _⟩ := HO.out.2.2 (by omega)
       have hO := HO.out.later HB.out
       have hc := hO.at (i := m) hln
       have hw := hO.wf (i := m) hln
       have hps := PS.out m hlt
       have hpl := PL.out m (by omega)
       have hpf := PF.out m
       have hpf2 := ApplyL_gd (P m).1 (ops.getD m Rec.no)
       have hLl : L.length ≤ 43 := by have := congrArg List.length ER.out; rw [List.length_map] at this; omega
       have TRT : Tr wr ar L := by
         obtain ⟨a7, c7, e7, t7⟩ := TR.out.tr (by omega)
         simp only [Value.slice.injEq] at e7
         rw [e7.1]; exact t7
       have AC := hid (rApply_c ar cr L (ops.getD m Rec.no) wr TRT (by omega) hw)
       clear TRT
       rw [ER.out] at AC
       have HPS := hid hps
       have HPL := hid hpl
       clear hO hw hps hpl hpf hpf2 hln
       generalize ops.getD m Rec.no = x at *
       have o0 : wr.cell? ⟨b', off + m * 8, none⟩ = some (.int .u8 x.k) := hc 0 _ rfl
       have o1 : wr.cell? ⟨b', off + m * 8 + 1, none⟩ = some (.int .u32 x.fid) := hc 1 _ rfl
       have o2 : wr.cell? ⟨b', off + m * 8 + 2, none⟩ = some (.int .u32 x.dir) := hc 2 _ rfl
       have o3 : wr.cell? ⟨b', off + m * 8 + 3, none⟩ = some (.string x.nm) := hc 3 _ rfl
       have o4 : wr.cell? ⟨b', off + m * 8 + 4, none⟩ = some (.int .u32 x.to) := hc 4 _ rfl
       have o5 : wr.cell? ⟨b', off + m * 8 + 5, none⟩ = some (.string x.nm2) := hc 5 _ rfl
       have o6 : wr.cell? ⟨b', off + m * 8 + 6, none⟩ = some (.int .u16 x.md) := hc 6 _ rfl
       have o7 : wr.cell? ⟨b', off + m * 8 + 7, none⟩ = some (.string x.dt) := hc 7 _ rfl
       clear hc
       unfold foldS at HPS
       generalize ApplyL (P m).1 x = r at *
       obtain ⟨re, rl⟩ := r
       simp only [Rec.opV] at AC HPS
       go_upto_region 13 with (go_at_call 24; refine AC.out.mono ?_; intro e3 w3 h3; obtain ⟨v3, l3, rfl, ht3, he3, hb3⟩ := h3; (obtain ⟨a3, c3, hv3⟩ := ht3.1.shape); subst hv3; have T3 := hid (ht3.low HB.out.size); have E3 := hid he3; have B3 := hid (HB.out.trans (hb3.mono HB.out.size)); have O3 := hid (OE.out.later hb3); have K3 := hid hb3; clear ht3 he3 hb3)
       clear AC o0 o1 o2 o3 o4 o5 o6 o7
       have b1 := below_1 w3 (.cells #[.int .i64 re] 27)
       have O4 := hid (O3.out.later b1)
       have C4 := hid (B3.out.trans (b1.mono B3.out.size))
       have N4 := hid (heap_alloc_new w3 (.cells #[.int .i64 re] 27))
       have K4 := hid (K3.out.trans (b1.mono K3.out.size))
       have Q4 := hid b1
       clear b1
       by_cases q : re = 0
       · have qB : (re == 0) = true := by rw [q]; rfl
         have EP : Hid (P (m + 1) = (rl, (P m).2 ++ [re])) := hid (by rw [HPS.out, if_pos q])
         clear HPS q
         go_wp2_with (at_builtin; refine wpList_appE _ rfl _ _ rfl w.heap.size _ (P m).2 rfl O4.out w3.heap.size _ re rfl N4.out (by rw [HPL.out]; omega) C4.out.size ?_; intro v9 w9 hown9 hgrow9)
         have HB9 := hid (below_grownE C4.out O4.out (Nat.le_refl _) C4.out.size hgrow9)
         have HT9 : Hid (NsO w9 w.heap.size (.slice a3 l3.length c3) l3) := hid ((T3.out.later Q4.out).grownE O4.out hgrow9)
         have HO9 : Hid (OwE w9 w.heap.size v9 (P (m + 1)).2) := hid (by rw [EP.out]; exact hown9)
         obtain ⟨a9, c9, rfl⟩ := hown9.shape
         clear hown9 hgrow9
         go_roundg (gk - 1)
         case measure => omega
         case rel => exact ⟨m + 1, a3, c3, l3, by omega, by go_num, rfl, HT9, hid (by rw [EP.out]; exact E3.out), HO9, HB9⟩
       · have qB : (re == 0) = false := beq_eq_false_iff_ne.2 q
         have EP : Hid (P (m + 1) = ((P m).1, (P m).2 ++ [re])) := hid (by rw [HPS.out, if_neg q])
         clear HPS q
         go_wp2_with (at_builtin; refine wpList_appE _ rfl _ _ rfl w.heap.size _ (P m).2 rfl O4.out w3.heap.size _ re rfl N4.out (by rw [HPL.out]; omega) C4.out.size ?_; intro v9 w9 hown9 hgrow9)
         have HB9 := hid (below_grownE C4.out O4.out (Nat.le_refl _) C4.out.size hgrow9)
         have HT9 : Hid (NsO w9 w.heap.size (.slice ar L.length cr) L) := hid ((TR.out.later K4.out).grownE O4.out hgrow9)
         have HO9 : Hid (OwE w9 w.heap.size v9 (P (m + 1)).2) := hid (by rw [EP.out]; exact hown9)
         obtain ⟨a9, c9, rfl⟩ := hown9.shape
         clear hown9 hgrow9
         go_roundg (gk - 1)
         case measure => omega
         case rel => exact ⟨m + 1, ar, cr, L, by omega, by go_num, rfl, HT9, hid (by rw [EP.out]; exact ER.out), HO9, HB9⟩
     · have em : m = n := by omega
       subst em
       have hge : ¬ (m : Int) < m := by omega
       obtain ⟨a5, c5, e5, i5⟩ := OE.out.is
       have EE := hid e5
       have IE := hid i5
       clear e5 i5
       go_wp2
       refine bodyPost_ret (v := .tuple #[.slice ar L.length cr, .slice va (P m).2.length vc]) (by simp [results, Tryz.results11, go_sem]) rfl ⟨ar, cr, L, a5, c5, ?_, TR.out, by rw [PE.out]; exact ER.out, by rw [PE.out]; exact IE.out, HB.out⟩
       rw [PE.out, EE.out]
theorem foldS_rtm {l : List Nd} (h : Rt l) {ops : List Rec} (hw : ∀ x ∈ ops, x.Wf) (m : Nat) (e : List Int) : Rt ((ops.take m).foldl foldS (l, e)).1 := by
 induction m with
 | zero => exact h
 | succ m ih =>
   by_cases hm : m < ops.length
   · rw [fold_take _ _ _ Rec.no hm]
     simp only [foldS]
     split
     · rename_i q
       exact ApplyL_rt (hw _ (getD_mem _ _ hm)) q
     · exact ih
   · rw [List.take_of_length_le (by omega)] at ih ⊢
     exact ih
def PmL (ops : List Rec) (m : Nat) : List Nd := ((ops.take m).foldl foldS (newL, [])).1
theorem pm_rt {ops : List Rec} (hw : ∀ x ∈ ops, x.Wf) (m : Nat) : Rt (PmL ops m) := foldS_rtm newRt hw m []
theorem pm_fold (ops : List Rec) : (FoldL newL ops).1 = PmL ops ops.length := by
 unfold FoldL PmL
 rw [if_pos (rightD_rt.2 newRt), List.take_length]
theorem pm_take (ops : List Rec) {n m : Nat} (h : m ≤ n) : PmL (ops.take n) m = PmL ops m := by
 unfold PmL
 rw [List.take_take, Nat.min_eq_left h]
theorem newEr : newL.map Nd.er = newL := rfl
def TrE (w : World) (a : Option Addr) (L l : List Nd) : Prop := Tr w a L ∧ L.map Nd.er = l
theorem TrE.later {w w' : World} {a : Option Addr} {L l : List Nd} (h : TrE w a L l) (hb : Below w.heap.size w w') : TrE w' a L l := ⟨h.1.later hb, h.2⟩
theorem TrE.len {w : World} {a : Option Addr} {L l : List Nd} (h : TrE w a L l) : L.length = l.length := er_len h.2
def TrO (w : World) (base : Nat) (a : Option Addr) (c : Nat) (L l : List Nd) : Prop := NsO w base (.slice a L.length c) L ∧ L.map Nd.er = l
theorem TrO.tre {w : World} {base : Nat} {a : Option Addr} {c : Nat} {L l : List Nd} (h : TrO w base a c L l) (hm : l.length ≤ 100000) : TrE w a L l := by
 obtain ⟨a7, c7, e7, t7⟩ := h.1.tr (by rw [er_len h.2]; exact hm)
 simp only [Value.slice.injEq] at e7
 exact ⟨by rw [e7.1]; exact t7, h.2⟩
set_option maxHeartbeats 2000000 in
theorem made_c (a : Option Addr) (len cap : Nat) (ops : List Rec) (w : World) (lz : ops.length = len) (lc : len ≤ cap) (h : IsOs w a ops) :
   Calls Tryz.prog 4 #[.slice a len cap] w fun e w' => ∃ a' c' L, e = .returned (.slice a' L.length c') ∧ TrO w' w.heap.size a' c' L (PmL ops 40) ∧ Below w.heap.size w w' := by
 have hw := h.2.1
 have NC := hid (rNew_c w)
 by_cases q : 40 < len
 · have qI : (40 : Int) < (len : Int) := by omega
   have qc : (40 : Int) ≤ (cap : Int) := by omega
   have FC : Hid (∀ (b : Option Addr) (c : Nat) (W : World), Below w.heap.size w W → Tr W b newL → Calls Tryz.prog 11 #[.slice b 1 c, .slice a 40 cap] W (FoN W (FoldL newL (ops.take 40)))) := hid (fun b c W hW hT => by
     have := rFoldN_c b a c cap newL (ops.take 40) W hT ((h.later hW).take 40) (by decide) (by rw [List.length_take]; omega)
     rw [newEr, List.length_take, Nat.min_eq_left (by omega)] at this
     exact this)
   have PE : Hid ((FoldL newL (ops.take 40)).1 = PmL ops 40) := hid (by rw [pm_fold, List.length_take, Nat.min_eq_left (by omega), pm_take _ (Nat.le_refl _)])
   clear h hw lz
   go_enter Tryz.func4, Tryz.ntmps4
   go_wp2_with (first
     | (go_at_call 11; refine (FC.out a1 c1 w1 B1.out T1.out).mono ?_; rintro _ w2 ⟨a2, c2, L2, b2, d2, rfl, t2, e2, z2, hb2⟩; have T2 := hid (t2.low B1.out.size); have E2 := hid e2; have B2 := hid (B1.out.trans (hb2.mono B1.out.size)); clear t2 e2 z2 hb2)
     | (go_at_call 12; refine NC.out.mono ?_; rintro _ w1 ⟨a1, c1, rfl, t1, hb1⟩; have T1 := hid t1; have B1 := hid hb1; clear t1 hb1))
   go_ret
   exact ⟨a2, c2, L2, rfl, ⟨T2.out, E2.out.trans PE.out⟩, B2.out⟩
 · have qI : ¬ (40 : Int) < (len : Int) := by omega
   have qd : decide ((40 : Int) < (len : Int)) = false := decide_eq_false qI
   have FC : Hid (∀ (b : Option Addr) (c : Nat) (W : World), Below w.heap.size w W → Tr W b newL → Calls Tryz.prog 11 #[.slice b 1 c, .slice a len cap] W (FoN W (FoldL newL ops))) := hid (fun b c W hW hT => by
     have := rFoldN_c b a c cap newL ops W hT (h.later hW) (by decide) (by omega)
     rw [newEr, lz] at this
     exact this)
   have PE : Hid ((FoldL newL ops).1 = PmL ops 40) := hid (by rw [pm_fold, lz]; unfold PmL; rw [List.take_of_length_le (by omega), List.take_of_length_le (by omega)])
   clear h hw lz
   go_enter Tryz.func4, Tryz.ntmps4
   go_wp2_with (first
     | (go_at_call 11; refine (FC.out a1 c1 w1 B1.out T1.out).mono ?_; rintro _ w2 ⟨a2, c2, L2, b2, d2, rfl, t2, e2, z2, hb2⟩; have T2 := hid (t2.low B1.out.size); have E2 := hid e2; have B2 := hid (B1.out.trans (hb2.mono B1.out.size)); clear t2 e2 z2 hb2)
     | (go_at_call 12; refine NC.out.mono ?_; rintro _ w1 ⟨a1, c1, rfl, t1, hb1⟩; have T1 := hid t1; have B1 := hid hb1; clear t1 hb1))
   go_ret
   exact ⟨a2, c2, L2, rfl, ⟨T2.out, E2.out.trans PE.out⟩, B2.out⟩
end Go.Proofs.YtgbdplammniidaaGreatDoor
namespace Go.Proofs.YtgbdplammniidaaGreatDoor
open Go.RowKit Go.ChangeShapes Go.WideShapes Go.ChangeAt
set_option linter.unusedVariables false
set_option linter.unusedSimpArgs false
def GoOn (l : List Nd) (b : List UInt8) (r r' : Int × Int) : Prop := (r.2 ≠ 0 ∧ r' = r) ∨ (r.2 = 0 ∧ ∃ K, r' = fnK l K r.1 [b])
theorem fnS_on (l : List Nd) (b : List UInt8) (K : Nat) (hx : ∀ ns, GoOn l b (nxK l K ns) (nxK l K (ns ++ [b]))) : ∀ (ns : List (List UInt8)) (at_ : Int), GoOn l b (fnS l (nxK l K) at_ ns) (fnS l (nxK l K) at_ (ns ++ [b]))
 | [], at_ => .inr ⟨rfl, K, by rw [fnK_S]; rfl⟩
 | nm :: ns, at_ => by
   rw [List.cons_append, fnS, fnS]
   by_cases he : plkE (getF l at_) (baF nm) = 0
   · rw [if_pos he, if_pos he]
     by_cases hk : ((getF l (plkI (getF l at_) (baF nm))).getD Nd.no).k = 3
     · rw [if_pos hk, if_pos hk]
       cases Pa.splitF (Fr.tx ((getF l (plkI (getF l at_) (baF nm))).getD Nd.no).zs).data.toList with
       | none => exact .inl ⟨by show (5 : Int) ≠ 0; decide, rfl⟩
       | some tg =>
         have := hx (tg ++ ns)
         rw [List.append_assoc] at this
         exact this
     · rw [if_neg hk, if_neg hk]
       exact fnS_on l b K hx ns _
   · rw [if_neg he, if_neg he]
     exact .inl ⟨he, rfl⟩
theorem nxK_on (l : List Nd) (b : List UInt8) : ∀ (K : Nat) (ns : List (List UInt8)), GoOn l b (nxK l K ns) (nxK l K (ns ++ [b]))
 | 0, ns => .inl ⟨by show (14 : Int) ≠ 0; decide, rfl⟩
 | K + 1, ns => by
   show GoOn l b (fnK l K 1 ns) (fnK l K 1 (ns ++ [b]))
   rw [fnK_S]
   exact fnS_on l b K (nxK_on l b K) ns 1
theorem fnK_on (l : List Nd) (b : List UInt8) (K : Nat) (at_ : Int) (ns : List (List UInt8)) : GoOn l b (fnK l K at_ ns) (fnK l K at_ (ns ++ [b])) := by
 rw [fnK_S]
 exact fnS_on l b K (nxK_on l b K) ns at_
theorem fnK_one (l : List Nd) (b : List UInt8) (K : Nat) (at_ : Int) :
   (plkE (getF l at_) (baF b) ≠ 0 → fnK l K at_ [b] = (0, plkE (getF l at_) (baF b))) ∧
   (plkE (getF l at_) (baF b) = 0 → ((getF l (plkI (getF l at_) (baF b))).getD Nd.no).k ≠ 3 → fnK l K at_ [b] = (plkI (getF l at_) (baF b), 0)) := by
 rw [fnK_S, fnS]
 refine ⟨fun h => if_neg h, fun h hk => ?_⟩
 rw [if_pos h, if_neg hk]
 rfl
theorem fnS_er (l : List Nd) (nx nx' : List (List UInt8) → Int × Int) (hx : ∀ ns, nx ns = nx' ns) : ∀ (ns : List (List UInt8)) (at_ : Int), fnS (l.map Nd.er) nx at_ ns = fnS l nx' at_ ns
 | [], _ => rfl
 | nm :: ns, at_ => by
   have e1 : plkI (getF (l.map Nd.er) at_) (baF nm) = plkI (getF l at_) (baF nm) := by rw [getF_er, (plk_er _ _).1]
   have e2 : plkE (getF (l.map Nd.er) at_) (baF nm) = plkE (getF l at_) (baF nm) := by rw [getF_er, (plk_er _ _).2]
   have e3 : ∀ f, ((getF (l.map Nd.er) f).getD Nd.no).k = ((getF l f).getD Nd.no).k ∧ ((getF (l.map Nd.er) f).getD Nd.no).zs = ((getF l f).getD Nd.no).zs := fun f => by
     rw [getF_er]
     cases getF l f <;> exact ⟨rfl, rfl⟩
   unfold fnS
   rw [e1, e2, (e3 _).1, (e3 _).2, fnS_er l nx nx' hx ns]
   simp only [hx]
theorem fnK_er (l : List Nd) : ∀ (K : Nat) (at_ : Int) (ns : List (List UInt8)), fnK (l.map Nd.er) K at_ ns = fnK l K at_ ns
 | 0, at_, ns => fnS_er l _ _ (fun _ => rfl) ns at_
 | K + 1, at_, ns => fnS_er l _ _ (fun ns => fnK_er l K 1 ns) ns at_
theorem findT_c {a : Option Addr} {L l : List Nd} (c : Nat) {s : ByteArray} {ns : List (List UInt8)} (w : World) (h : TrE w a L l) (R : Rt l) (hs : s.size ≤ maxLen) (hsp : Pa.splitF s.data.toList = some ns) :
   Calls Tryz.prog 5 #[.slice a L.length c, .string s] w (FnP (fnK l 8 1 ns) w) := by
 have he := h.2
 have := tFindK_c a c L s ns w h.1.1 (by rw [er_len he]; exact R.few) (fun x hx => by have := (h.1.2 x hx).2.2; omega) (by rw [← rightD_er, he]; exact rightD_rt.2 R) (Leads.er (by rw [he]; exact R.leads)) hs hsp
 rw [← fnK_er, he] at this
 exact this
end Go.Proofs.YtgbdplammniidaaGreatDoor
namespace Go.Proofs.YtgbdplammniidaaGreatDoor
open Go.RowKit Go.ChangeShapes Go.WideShapes Go.ChangeAt
set_option linter.unusedVariables false
set_option linter.unusedSimpArgs false
set_option maxRecDepth 100000
theorem er_eq {x y : Nd} : x.er = y.er ↔ x.fid = y.fid ∧ x.k = y.k ∧ x.md = y.md ∧ x.ln = y.ln ∧ x.zs = y.zs ∧ x.ks = y.ks := by
 obtain ⟨a1, a2, a3, a4, a5, a6, a7, a8, a9, a10⟩ := x
 obtain ⟨b1, b2, b3, b4, b5, b6, b7, b8, b9, b10⟩ := y
 simp only [Nd.er, Nd.lie, Nd.mk.injEq, true_and]
end Go.Proofs.YtgbdplammniidaaGreatDoor
namespace Go.Proofs.YtgbdplammniidaaGreatDoor
open Go.RowKit Go.ChangeShapes Go.WideShapes Go.ChangeAt
set_option linter.unusedVariables false
set_option linter.unusedSimpArgs false
end Go.Proofs.YtgbdplammniidaaGreatDoor
namespace Go.Proofs.YtgbdplammniidaaGreatDoor
set_option linter.unusedVariables false
set_option linter.unusedSimpArgs false
end Go.Proofs.YtgbdplammniidaaGreatDoor
namespace Go.Proofs.YtgbdplammniidaaGreatDoor
open Go.RowKit Go.ChangeShapes Go.WideShapes Go.ChangeAt
set_option linter.unusedVariables false
set_option linter.unusedSimpArgs false
set_option maxRecDepth 100000
def GtP (o : Option Nd) (w : World) (e : Ending) (w' : World) : Prop := (match o with
 | none => e = .returned (.tuple #[Nd.no.val, .bool false])
 | some x => ∃ y : Nd, e = .returned (.tuple #[y.val, .bool true]) ∧ y.er = x.er ∧ NdP w' y) ∧ Below w.heap.size w w'
set_option maxHeartbeats 2000000 in
theorem tGet_c (a : Option Addr) (cap : Nat) (l : List Nd) (f : Int) (w : World) (h : Tr w a l) (hm : l.length ≤ 100000) :
   Calls Tryz.prog 10 #[.slice a l.length cap, .int .u32 f] w (GtP (getF l f) w) := by
 have b0 := below_1 w (.cells Nd.no.cells.toArray 39)
 have h0 := heap_alloc_new w (.cells Nd.no.cells.toArray 39)
 have hV := h.later b0
 have PC := hid (placeOf_c a cap l f _ hV.1 hm)
 have B0 := hid b0
 have H0 := hid h0
 have hsV : w.heap.size < (w.alloc (.cells Nd.no.cells.toArray 39)).heap.size := lt_blkR h0
 have H := hid hV
 clear b0 h0 h hV
 cases hx : getF l f with
 | none =>
   rw [pl_none hx] at PC
   clear H hx
   generalize l.length = n at *
   go_enter Tryz.func10, Tryz.ntmps10
   go_upto_region 1 with fail
   change Code.wp _ _ _ _ (w.alloc (.cells Nd.no.cells.toArray 39))
   generalize (w.alloc (.cells Nd.no.cells.toArray 39)) = V at *
   go_wp2_with (go_at_call 15; refine PC.out.mono ?_; rintro _ w1 ⟨rfl, hb1⟩; have h1 := (hb1.block _ hsV).trans H0.out; have fz : ∀ i, w1.frozen? ⟨w.heap.size, i, none⟩ = false := (fun i => by simp [World.frozen?, h1]); obtain ⟨q0, q1, q2, q3, q4, q5⟩ := nd_cells h1; simp only [Nd.no, List.length_nil] at q0 q1 q2 q3 q4 q5; have B1 := hid (B0.out.trans (hb1.mono B0.out.size)); clear hb1 h1)
   refine bodyPost_ret (v := .tuple #[Nd.no.val, .bool false]) (by simp [results, Tryz.results10, go_sem, Nd.val, Nd.no, q0, q1, q2, q3, q4, q5]) rfl ⟨rfl, ?_⟩
   exact (((((B1.out.setCell (p := ⟨w.heap.size, 0, none⟩) (Nat.le_refl _) _).setCell (p := ⟨w.heap.size, 1, none⟩) (Nat.le_refl _) _).setCell (p := ⟨w.heap.size, 2, none⟩) (Nat.le_refl _) _).setCell (p := ⟨w.heap.size, 3, none⟩) (Nat.le_refl _) _).setCell (p := ⟨w.heap.size, 4, none⟩) (Nat.le_refl _) _).setCell (p := ⟨w.heap.size, 5, none⟩) (Nat.le_refl _) _
 | some x =>
   obtain ⟨i, e1, e2, e3⟩ := pl_some hx
   rw [e1] at PC
   obtain ⟨b, off, rfl, _⟩ := H.out.1.2.2 (by omega)
   have hxm : x ∈ l := by rw [← e3]; exact getD_mem _ _ e2
   have NP := hid (H.out.nd hxm)
   have HA := hid (H.out.1.at (i := i) e2)
   rw [e3] at HA
   have e2I : (i : Int) < l.length := by omega
   clear H hx e1 e3 hxm
   generalize l.length = n at *
   go_enter Tryz.func10, Tryz.ntmps10
   go_upto_region 1 with fail
   change Code.wp _ _ _ _ (w.alloc (.cells Nd.no.cells.toArray 39))
   generalize (w.alloc (.cells Nd.no.cells.toArray 39)) = V at *
   obtain ⟨xf, xk, xm, xl, xda, xdc, xzs, xka, xkc, xks⟩ := x
   have CO : Hid (∀ W, Below V.heap.size V W → Calls Tryz.prog 21 #[.agg #[.int .u32 xf, .int .u8 xk, .int .u16 xm, .int .u16 xl, .slice xda xzs.length xdc, .slice xka xks.length xkc]] W fun e w' => ∃ da dc ka kc, e = .returned (.agg #[.int .u32 xf, .int .u8 xk, .int .u16 xm, .int .u16 xl, .slice da xzs.length dc, .slice ka xks.length kc]) ∧ NdW w' W.heap.size ⟨xf, xk, xm, xl, da, dc, xzs, ka, kc, xks⟩ ∧ Below W.heap.size W w') := hid (fun W hW => copyOf_c ⟨xf, xk, xm, xl, xda, xdc, xzs, xka, xkc, xks⟩ W (NP.out.later hW))
   have CC : Hid (∀ W, Below V.heap.size V W → NdC W b (off + i * 6) ⟨xf, xk, xm, xl, xda, xdc, xzs, xka, xkc, xks⟩) := hid (fun W hW => HA.out.later hW)
   clear NP HA
   go_wp2_with (first
     | (go_at_call 15; refine PC.out.mono ?_; rintro _ w1 ⟨rfl, hb1⟩; have B1 := hid hb1; clear hb1; obtain ⟨y0, y1, y2, y3, y4, y5⟩ := (CC.out w1 B1.out).all; have E1 := hid (CO.out w1 B1.out))
     | (go_at_call 21; refine E1.out.mono ?_; rintro _ w2 ⟨da, dc, ka, kc, rfl, hW2, hb2⟩; have B2 := hid (B1.out.trans (hb2.mono B1.out.size)); have W2 := hid hW2.r; clear hb2 hW2; have h1 := (B2.out.block _ hsV).trans H0.out; have fz : ∀ i, w2.frozen? ⟨w.heap.size, i, none⟩ = false := (fun i => by simp [World.frozen?, h1]); obtain ⟨q0, q1, q2, q3, q4, q5⟩ := nd_cells h1; simp only [Nd.no, List.length_nil] at q0 q1 q2 q3 q4 q5; clear h1))
   have hs1 : w.heap.size < w1.heap.size := Nat.lt_of_lt_of_le hsV B1.out.size
   have B3 : Below w.heap.size w w2 := B0.out.trans (B2.out.mono B0.out.size)
   refine bodyPost_ret (v := .tuple #[(⟨xf, xk, xm, xl, da, dc, xzs, ka, kc, xks⟩ : Nd).val, .bool true]) (by simp [results, Tryz.results10, go_sem, Nd.val, q0, q1, q2, q3, q4, q5]) rfl ⟨⟨⟨xf, xk, xm, xl, da, dc, xzs, ka, kc, xks⟩, rfl, rfl, ?_⟩, ?_⟩
   · exact ((((((W2.out.setLow hs1).setLow hs1).setLow hs1).setLow hs1).setLow hs1).setLow hs1).p
   · exact (((((B3.setCell (p := ⟨w.heap.size, 0, none⟩) (Nat.le_refl _) _).setCell (p := ⟨w.heap.size, 1, none⟩) (Nat.le_refl _) _).setCell (p := ⟨w.heap.size, 2, none⟩) (Nat.le_refl _) _).setCell (p := ⟨w.heap.size, 3, none⟩) (Nat.le_refl _) _).setCell (p := ⟨w.heap.size, 4, none⟩) (Nat.le_refl _) _).setCell (p := ⟨w.heap.size, 5, none⟩) (Nat.le_refl _) _
end Go.Proofs.YtgbdplammniidaaGreatDoor
namespace Go.Proofs.YtgbdplammniidaaGreatDoor
open Go.RowKit Go.ChangeShapes Go.WideShapes Go.ChangeAt
set_option linter.unusedVariables false
set_option linter.unusedSimpArgs false
end Go.Proofs.YtgbdplammniidaaGreatDoor
namespace Go.Proofs.YtgbdplammniidaaGreatDoor
set_option linter.unusedVariables false
set_option linter.unusedSimpArgs false
end Go.Proofs.YtgbdplammniidaaGreatDoor
namespace Go.Proofs.YtgbdplammniidaaGreatDoor
open Go.RowKit Go.ChangeShapes Go.WideShapes Go.ChangeAt
set_option linter.unusedVariables false
set_option linter.unusedSimpArgs false
def GeP (l : List Nd) (f : Int) (w : World) (e : Ending) (w' : World) : Prop := ∃ (fid k md ln : Int) (da : Option Addr) (dc : Nat) (zs : List Int) (ka : Option Addr) (kc : Nat) (ks : List Kd) (b : Bool), e = .returned (.tuple #[.agg #[.int .u32 fid, .int .u8 k, .int .u16 md, .int .u16 ln, .slice da zs.length dc, .slice ka ks.length kc], .bool b]) ∧
 (∀ n, getF l f = some n → b = true ∧ fid = n.fid ∧ k = n.k ∧ ln = n.ln ∧ zs = n.zs ∧ ks = n.ks) ∧ (getF l f = none → k = 0) ∧ (⟨fid, k, md, ln, da, dc, zs, ka, kc, ks⟩ : Nd).Ok w' ∧ Below w.heap.size w w'
theorem getE_c {a : Option Addr} {L l : List Nd} (c : Nat) (f : Int) (w : World) (h : TrE w a L l) (hm : l.length ≤ 100000) :
   Calls Tryz.prog 10 #[.slice a L.length c, .int .u32 f] w (GeP l f w) := by
 have hh := tGet_c a c L f w h.1 (by rw [h.len]; exact hm)
 have e1 := getF_er L f
 rw [h.2] at e1
 refine hh.mono ?_
 rintro e w' ⟨h1, hb⟩
 cases q : getF L f with
 | none =>
   rw [q] at h1 e1
   rw [h1]
   exact ⟨0, 0, 0, 0, none, 0, [], none, 0, [], false, rfl, (fun n hn => by rw [e1] at hn; cases hn), fun _ => rfl, no_ok w', hb⟩
 | some y =>
   rw [q] at h1 e1
   obtain ⟨z, rfl, ez, hz⟩ := h1
   obtain ⟨fid, k, md, ln, da, dc, zs, ka, kc, ks⟩ := z
   refine ⟨fid, k, md, ln, da, dc, zs, ka, kc, ks, true, rfl, fun n hn => ?_, (fun hn => by rw [e1] at hn; cases hn), hz.1, hb⟩
   rw [e1] at hn
   have e2 : y.er = n := Option.some.inj hn
   rw [← e2]
   have e3 := er_eq.1 ez
   exact ⟨rfl, e3.1, e3.2.1, e3.2.2.2.1, e3.2.2.2.2.1, e3.2.2.2.2.2⟩
theorem lookE_c {a : Option Addr} {L l : List Nd} (c : Nat) (d : Int) (s : ByteArray) (w : World) (h : TrE w a L l) (hm : l.length ≤ 100000) :
   Calls Tryz.prog 9 #[.slice a L.length c, .int .u32 d, .string s] w fun e w' => e = .returned (.tuple #[.int .u32 (plkI (getF l d) s), .int .i64 (plkE (getF l d) s)]) ∧ Below w.heap.size w w' := by
 have hh := tLook_c a c L d s w h.1.1 (by rw [h.len]; exact hm) (fun x hx => by have := (h.1.2 x hx).2.2; omega)
 have e1 := getF_er L d
 rw [h.2] at e1
 rw [← (plk_er (getF L d) s).1, ← (plk_er (getF L d) s).2, ← e1] at hh
 exact hh
end Go.Proofs.YtgbdplammniidaaGreatDoor
