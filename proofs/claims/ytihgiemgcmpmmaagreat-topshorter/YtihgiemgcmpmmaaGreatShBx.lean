/-
  The document's Fold once more: the tree that it answers is the call's own.
  What the tree's laws share: a tree of operations.
  Fold of the program's tree.
-/
import Derived.Test.YtihgiemgcmpmmaaGreatShAr
import Derived.Test.YtihgiemgcmpmmaaGreatShBv
import Derived.Deep.OwnRows
namespace Go.Proofs.YtihgiemgcmpmmaaGreat
open Go.RowKit Go.ChangeShapes Go.WideShapes Go.ChangeAt
set_option linter.unusedVariables false
set_option linter.unusedSimpArgs false
set_option maxRecDepth 100000
theorem foldS_rtm {l : List Nd} (h : Rt l) {ops : List Rec} (hw : ∀ x ∈ ops, x.Wf) (m : Nat) (e : List Int) : Rt ((ops.take m).foldl foldS (l, e)).1 := by
 induction m with
 | zero => exact h
 | succ m ih =>
   by_cases hm : m < ops.length
   · rw [fold_take _ _ _ Rec.no hm]
     simp only [foldS]
     split
     · rename_i q
       exact ApplyL_rt (hw _ (getD_mem _ _ hm)) q
     · exact ih
   · rw [List.take_of_length_le (by omega)] at ih ⊢
     exact ih
theorem newEr : newL.map Nd.er = newL := rfl
theorem infoErr : (Tryz.prog.info? 26).map (fun i => (i.zero, i.size, i.bytes)) = some (some (.int .i64 0), 1, 8) := by kernel_rfl
theorem made_repE (n : Nat) (z : Value) : madeCells #[z] n = Array.replicate n z := by
 apply Array.ext
 · simp [size_madeCells]
 · intro i h1 h2
   simp [madeCells, Nat.mod_one]
def ErR (w : World) (g : Nat) (es : List Int) : Prop := w.heap[g]? = some (.cells (es.map erV).toArray 26 (0, 0))
theorem make_errs (n : Nat) (hn : n ≤ 1000) (W : World) : (Instr.makeSlice 44 (.int .i64 (n : Int)) (.int .i64 (n : Int))).run Tryz.prog W = .ok (.slice (some ⟨W.heap.size, 0, none⟩) n n) (W.alloc (.cells ((List.replicate n (0 : Int)).map erV).toArray 26)) := by
 have := run_make_row' (P := Tryz.prog) 44 26 (.int .i64 0) 8 Tryz.underlying44 infoErr rfl .i64 .i64 n (by omega) (by omega) W
 rw [made_repE] at this
 have e : ((List.replicate n (0 : Int)).map erV).toArray = Array.replicate n (Value.int .i64 0) := by
   rw [List.map_replicate]
   simp [erV]
 rw [e]
 exact this
theorem ErR.later {w w' : World} {g : Nat} {es : List Int} (h : ErR w g es) {B : Nat} (hg : g < B) (hb : Below B w w') : ErR w' g es := (hb.block _ hg).trans h
theorem ErR.lt {w : World} {g : Nat} {es : List Int} (h : ErR w g es) : g < w.heap.size := lt_blkR h
theorem ErR.set {w : World} {g : Nat} {es : List Int} (h : ErR w g es) {i : Nat} {c : Int} (hi : i < es.length) : ErR (w.setCell ⟨g, i, none⟩ (.int .i64 c)) g (es.set i c) := by
 unfold ErR at *
 simp only [World.setCell]
 rw [Array.getElem?_modify, if_pos rfl, h]
 simp [List.map_set, erV]
theorem ErR.cell {w : World} {g : Nat} {es : List Int} (h : ErR w g es) {i : Nat} (hi : i < es.length) : w.cell? ⟨g, i, none⟩ = some (.int .i64 (es.getD i 0)) ∧ w.frozen? ⟨g, i, none⟩ = false := by
 unfold ErR at h
 constructor
 · simp [World.cell?, h, erV, List.getD, List.getElem?_eq_getElem hi]
 · simp [World.frozen?, h]
theorem ErR.es {w : World} {g : Nat} {es : List Int} (h : ErR w g es) : IsEs w (some ⟨g, 0, none⟩) es := fun hp => ⟨g, 0, rfl, fun i hi => by
 have := (h.cell hi).1
 rw [Nat.zero_add]
 exact this⟩
theorem set_rep (es : List Int) (k : Nat) (c : Int) : (es ++ List.replicate (k + 1) 0).set es.length c = (es ++ [c]) ++ List.replicate k 0 := by
 rw [List.set_append_right _ _ (Nat.le_refl _), Nat.sub_self, List.replicate_succ, List.set_cons_zero, List.append_assoc]
 rfl
set_option maxHeartbeats 8000000 in
theorem tFold_c (a b : Option Addr) (cap cb : Nat) (l : List Nd) (ops : List Rec) (w : World) (h : Tr w a l) (ho : IsOs w b ops) (hm : l.length ≤ 900) (hn : ops.length ≤ 1000) :
   Calls Tryz.prog 10 #[.slice a l.length cap, .slice b ops.length cb] w (FoP w (FoldL (l.map Nd.er) ops)) := by
 obtain ⟨R, hR⟩ : ∃ R, R = FoldL (l.map Nd.er) ops := ⟨_, rfl⟩
 rw [← hR]
 unfold FoldL at hR
 rw [rightD_er] at hR
 have HT := hid h
 have HO := hid ho
 have HR := hid hR
 obtain ⟨n, hnn⟩ : ∃ n, n = ops.length := ⟨_, rfl⟩
 have HN := hid hnn
 have MK := make_errs n (by omega) w
 have bV := below_1 w (.cells ((List.replicate n (0 : Int)).map erV).toArray 26)
 have EV : Hid (ErR (w.alloc (.cells ((List.replicate n (0 : Int)).map erV).toArray 26)) w.heap.size (List.replicate n 0)) := hid (heap_alloc_new w _)
 have RV := hid (rightT_c a cap l _ (h.later bV).1 (by omega))
 have BV := hid bV
 rw [← hnn] at hn ⊢
 clear h ho hR hnn bV
 generalize hV : w.alloc (.cells ((List.replicate n (0 : Int)).map erV).toArray 26) = V at *
 clear hV
 cases br : rightD l with
 | false =>
   have RE : Hid (R = ([], List.replicate n 3)) := hid (by rw [HN.out]; exact HR.out.trans (if_neg (by rw [br]; simp)))
   rw [br] at RV
   clear HR br
   go_enter Tryz.func10, Tryz.ntmps10
   go_wp2_with (go_at_call 14; refine RV.out.mono ?_; rintro _ w1 ⟨rfl, hb1⟩; have B1 := hid (BV.out.trans (hb1.mono BV.out.size)); have E1 := hid (EV.out.later EV.out.lt hb1); clear hb1)
   go_loopg [19] n (fun gk i wr => ∃ m : Nat, m + gk = n ∧ i = .int .i64 m ∧ Hid (ErR wr w.heap.size (List.replicate m 3 ++ List.replicate gk 0)) ∧ Hid (Below w.heap.size w wr))
   case atStart => exact ⟨0, by omega, rfl, E1, B1⟩
   case round =>
     obtain ⟨m, hm2, rfl, EX, BX⟩ := hrel
     by_cases hlt : m < n
     · have hltI : (m : Int) < n := by omega
       obtain ⟨gk', rfl⟩ : ∃ gk', gk = gk' + 1 := ⟨gk - 1, by omega⟩
       obtain ⟨c0, z0⟩ := EX.out.cell (i := m) (by simp)
       have EX9 := hid (EX.out.set (i := m) (c := 3) (by simp))
       have EN9 : Hid (ErR (wr.setCell ⟨w.heap.size, m, none⟩ (.int .i64 3)) w.heap.size (List.replicate (m + 1) 3 ++ List.replicate gk' 0)) := hid (by
         have h1 := EX9.out
         have h2 := set_rep (List.replicate m 3) gk' 3
         rw [List.length_replicate] at h2
         rw [h2] at h1
         rw [List.replicate_succ']
         exact h1)
       have B9 := hid (BX.out.setCell (p := ⟨w.heap.size, m, none⟩) (Nat.le_refl _) (.int .i64 3))
       clear EX9
       generalize (List.replicate m (3 : Int) ++ List.replicate (gk' + 1) 0).getD m 0 = z at *
       go_wp2
       go_roundg gk'
       case measure => omega
       case rel => exact ⟨m + 1, by omega, by go_num, EN9, B9⟩
     · have em : m = n := by omega
       obtain rfl : gk = 0 := by omega
       have hge : ¬ (m : Int) < n := by omega
       have ES : Hid (IsEs wr (some ⟨w.heap.size, 0, none⟩) R.2) := hid (by rw [RE.out]; have := EX.out.es; rw [List.replicate_zero, List.append_nil, em] at this; exact this)
       have LE : Hid (n = R.2.length) := hid (by rw [RE.out]; simp)
       go_wp2
       refine bodyPost_ret (v := .tuple #[.slice none 0 0, .slice (some ⟨w.heap.size, 0, none⟩) n n]) (by simp [results, Tryz.results10, go_sem]) rfl ⟨none, 0, [], some ⟨w.heap.size, 0, none⟩, n, ?_, Tr.nil _, by rw [RE.out]; rfl, ES.out, BX.out⟩
       rw [← LE.out]
       rfl
 | true =>
   have RE : Hid (R = ops.foldl foldS (l.map Nd.er, [])) := hid (HR.out.trans (if_pos br))
   have HRT : Hid (Rt (l.map Nd.er)) := hid (rightD_rt.1 (by rw [rightD_er]; exact br))
   rw [br] at RV
   clear HR br
   obtain ⟨P, hP⟩ : ∃ P : Nat → List Nd × List Int, P = fun m => (ops.take m).foldl foldS (l.map Nd.er, []) := ⟨_, rfl⟩
   have P0 : Hid (P 0 = (l.map Nd.er, [])) := hid (by rw [hP]; rfl)
   have PS : Hid (∀ m, m < n → P (m + 1) = foldS (P m) (ops.getD m Rec.no)) := hid (fun m hm => by rw [hP]; exact fold_take _ _ _ Rec.no (by rw [← HN.out]; exact hm))
   have PL : Hid (∀ m, m ≤ n → (P m).2.length = m) := hid (fun m hm => by rw [hP]; exact foldS_len _ ops m (by rw [← HN.out]; exact hm))
   have PR : Hid (∀ m, Rt (P m).1) := hid (fun m => by rw [hP]; exact foldS_rtm HRT.out HO.out.2.1 m [])
   have PE : Hid (R = P n) := hid (by rw [RE.out, hP, HN.out]; simp only; rw [List.take_length])
   clear hP RE
   go_enter Tryz.func10, Tryz.ntmps10
   go_wp2_with (first
     | (go_at_call 15; refine TO1.out.mono ?_; rintro _ w3 ⟨rfl, ht3, hb3⟩
        have M3 := hid (mt_of O2.out NW2.out KA2.out D2.out Z2.out hb3 ht3)
        have B3 := hid (B2.out.trans (hb3.mono B2.out.size))
        have E3 := hid (E2.out.later E2.out.lt hb3)
        have R3 := hid (ndF_rel a2 ER2.out D2.out)
        have Z3 := hid (Nat.le_trans Z2.out hb3.size)
        clear ht3 hb3)
     | (go_at_call 16; refine CP1.out.mono ?_; rintro _ w2 ⟨v2, L2, rfl, ho2, he2, hn2, hk2, hb2⟩
        obtain ⟨a2, c2, rfl⟩ := ho2.shape
        have hL2 : L2.length = l.length := by have := congrArg List.length he2; simpa using this
        have LL2 : Hid (L2.length = (l.map Nd.er).length) := hid (by rw [List.length_map]; exact hL2)
        have O2 := hid ho2
        have NW2 := hid hn2
        have KA2 := hid hk2
        have ER2 := hid he2
        have D2 := hid (dis_of he2 HRT.out.srt)
        have Z2 := hid hb2.size
        have B2 := hid (B1.out.trans (hb2.mono B1.out.size))
        have E2 := hid (E1.out.later E1.out.lt hb2)
        have TO1 := hid (tableOf_c a2 c2 L2 w2 (by
          obtain ⟨a', c', e', h'⟩ := ho2.is (fun x hx => (hn2 x hx).r.ok) (by omega)
          cases e'
          exact h') (by have := HRT.out.few; rw [List.length_map] at this; omega))
        clear ho2 he2 hn2 hk2 hb2 hL2)
     | (go_at_call 14; refine RV.out.mono ?_; rintro _ w1 ⟨rfl, hb1⟩; have B1 := hid (BV.out.trans (hb1.mono BV.out.size)); have E1 := hid (EV.out.later EV.out.lt hb1)
        have CP1 := hid (copyAll_c a cap l w1 (HT.out.later (BV.out.trans (hb1.mono BV.out.size))) (by omega))
        have GB : Hid (w.heap.size < w1.heap.size) := hid E1.out.lt
        clear hb1))
   clear RV CP1 TO1 EV BV MK
   obtain ⟨base, Hbase⟩ : ∃ base, Hid (base = w1.heap.size) := ⟨_, hid rfl⟩
   have M3' : Hid (∃ N, MT w3 base w2.heap.size (P 0).1.length N ∧ Rel N (P 0).1) := hid (by rw [Hbase.out, P0.out]; exact ⟨_, by rw [← LL2.out]; exact M3.out, R3.out⟩)
   have GB' : Hid (w.heap.size < base) := hid (by rw [Hbase.out]; exact GB.out)
   clear M3 R3 O2 NW2 KA2 ER2 D2 LL2 E1 E2 B1 B2 HRT GB
   generalize w2.heap.size = tb at *
   go_loopg [32] n (fun gk i wr => ∃ m : Nat, m + gk = n ∧ i = .int .i64 m ∧ Hid (ErR wr w.heap.size ((P m).2 ++ List.replicate gk 0)) ∧ Hid (∃ N, MT wr base tb (P m).1.length N ∧ Rel N (P m).1) ∧ Hid (base ≤ wr.heap.size) ∧ Hid (Below w.heap.size w wr))
   case atStart => exact ⟨0, by omega, rfl, hid (by rw [P0.out]; exact E3.out), M3', hid (by rw [Hbase.out]; exact Z3.out), B3⟩
   case round =>
     clear M3' E3 B3 Z3
     obtain ⟨m, hm2, rfl, EX, MX, ZX, BX⟩ := hrel
     by_cases hlt : m < n
     · have hltI : (m : Int) < n := by omega
       have hln : m < ops.length := by rw [← HN.out]; exact hlt
       obtain ⟨gk', rfl⟩ : ∃ gk', gk = gk' + 1 := ⟨gk - 1, by omega⟩
       obtain ⟨b', off, rfl, _⟩ := HO.out.2.2 (by omega)
       have hO := HO.out.later BX.out
       have hc := hO.at (i := m) hln
       have hw := hO.wf (i := m) hln
       have HPS := hid (PS.out m hlt)
       have HPL := hid (PL.out m (by omega))
       have WF := hid hw
       clear hO hw hln
       generalize ops.getD m Rec.no = o at *
       obtain ⟨k, fid, dir, nm, tof, nm2, md, dt, sn⟩ := o
       have c0 := hc 0 _ rfl
       rw [Nat.add_zero] at c0
       have c1 := hc 1 _ rfl
       have c2 := hc 2 _ rfl
       have c3 := hc 3 _ rfl
       have c4 := hc 4 _ rfl
       have c5 := hc 5 _ rfl
       have c6 := hc 6 _ rfl
       have c7 := hc 7 _ rfl
       clear hc
       obtain ⟨N, hM, hR⟩ := MX.out
       have bo := below_1 wr (.cells #[.int .u8 k, .int .u32 fid, .int .u32 dir, .string nm, .int .u32 tof, .string nm2, .int .u16 md, .string dt] 34)
       have hbox := heap_alloc_new wr (.cells #[.int .u8 k, .int .u32 fid, .int .u32 dir, .string nm, .int .u32 tof, .string nm2, .int .u16 md, .string dt] 34)
       have TC := hid (ttry_c ⟨k, fid, dir, nm, tof, nm2, md, dt, sn⟩ (hM.later bo) hR (PR.out m) WF.out)
       have EB := hid (EX.out.later EX.out.lt bo)
       have MB := hid (hM.later bo)
       have RB := hid hR
       have BO := hid (BX.out.trans (bo.mono BX.out.size))
       have ZO := hid (Nat.le_trans ZX.out bo.size)
       have u0 : (wr.alloc (.cells #[.int .u8 k, .int .u32 fid, .int .u32 dir, .string nm, .int .u32 tof, .string nm2, .int .u16 md, .string dt] 34)).cell? ⟨wr.heap.size, 0, none⟩ = some (.int .u8 k) := cell_of_row2 hbox 0 rfl
       have u1 : (wr.alloc (.cells #[.int .u8 k, .int .u32 fid, .int .u32 dir, .string nm, .int .u32 tof, .string nm2, .int .u16 md, .string dt] 34)).cell? ⟨wr.heap.size, 1, none⟩ = some (.int .u32 fid) := cell_of_row2 hbox 1 rfl
       have u2 : (wr.alloc (.cells #[.int .u8 k, .int .u32 fid, .int .u32 dir, .string nm, .int .u32 tof, .string nm2, .int .u16 md, .string dt] 34)).cell? ⟨wr.heap.size, 2, none⟩ = some (.int .u32 dir) := cell_of_row2 hbox 2 rfl
       have u3 : (wr.alloc (.cells #[.int .u8 k, .int .u32 fid, .int .u32 dir, .string nm, .int .u32 tof, .string nm2, .int .u16 md, .string dt] 34)).cell? ⟨wr.heap.size, 3, none⟩ = some (.string nm) := cell_of_row2 hbox 3 rfl
       have u4 : (wr.alloc (.cells #[.int .u8 k, .int .u32 fid, .int .u32 dir, .string nm, .int .u32 tof, .string nm2, .int .u16 md, .string dt] 34)).cell? ⟨wr.heap.size, 4, none⟩ = some (.int .u32 tof) := cell_of_row2 hbox 4 rfl
       have u5 : (wr.alloc (.cells #[.int .u8 k, .int .u32 fid, .int .u32 dir, .string nm, .int .u32 tof, .string nm2, .int .u16 md, .string dt] 34)).cell? ⟨wr.heap.size, 5, none⟩ = some (.string nm2) := cell_of_row2 hbox 5 rfl
       have u6 : (wr.alloc (.cells #[.int .u8 k, .int .u32 fid, .int .u32 dir, .string nm, .int .u32 tof, .string nm2, .int .u16 md, .string dt] 34)).cell? ⟨wr.heap.size, 6, none⟩ = some (.int .u16 md) := cell_of_row2 hbox 6 rfl
       have u7 : (wr.alloc (.cells #[.int .u8 k, .int .u32 fid, .int .u32 dir, .string nm, .int .u32 tof, .string nm2, .int .u16 md, .string dt] 34)).cell? ⟨wr.heap.size, 7, none⟩ = some (.string dt) := cell_of_row2 hbox 7 rfl
       clear bo hbox hM hR MX
       simp only [Rec.opV] at TC
       obtain ⟨⟨c, L⟩, HC⟩ : ∃ r, Hid (ApplyL (P m).1 ⟨k, fid, dir, nm, tof, nm2, md, dt, sn⟩ = r) := ⟨_, hid rfl⟩
       rw [HC.out] at TC
       have PN : Hid (P (m + 1) = (if c = 0 then L else (P m).1, (P m).2 ++ [c])) := hid (by rw [HPS.out]; unfold foldS; rw [HC.out])
       go_upto_region 13 with fail
       change Code.wp _ _ _ _ (wr.alloc (.cells #[.int .u8 k, .int .u32 fid, .int .u32 dir, .string nm, .int .u32 tof, .string nm2, .int .u16 md, .string dt] 34))
       generalize wr.alloc (.cells #[.int .u8 k, .int .u32 fid, .int .u32 dir, .string nm, .int .u32 tof, .string nm2, .int .u16 md, .string dt] 34) = W at *
       clear c0 c1 c2 c3 c4 c5 c6 c7
       go_wp2_with (first
         | (go_at_call 17; refine TC.out.mono ?_; rintro _ w5 ⟨rfl, h5⟩
            have G5 : Hid (ErR w5 w.heap.size ((P m).2 ++ List.replicate (gk' + 1) 0) ∧ (∃ N, MT w5 base tb (P (m + 1)).1.length N ∧ Rel N (P (m + 1)).1) ∧ base ≤ w5.heap.size ∧ Below w.heap.size w w5) := hid (by
              rw [PN.out]
              rcases h5 with ⟨h6, h7, h8⟩ | ⟨h6, h7⟩
              · simp only at h6 h7
                rw [if_pos h6]
                exact ⟨EB.out.later GB'.out h8, h7, Nat.le_trans ZO.out h8.size, BO.out.trans (h8.mono (Nat.le_of_lt GB'.out))⟩
              · simp only at h6
                rw [if_neg h6]
                exact ⟨EB.out.later EB.out.lt h7, ⟨_, MB.out.later h7, RB.out⟩, Nat.le_trans ZO.out h7.size, BO.out.trans (h7.mono BO.out.size)⟩)
            obtain ⟨z1, z2⟩ := G5.out.1.cell (i := m) (by have := HPL.out; simp; omega)
            clear h5 TC))
       have EX9 : Hid (ErR (w5.setCell ⟨w.heap.size, m, none⟩ (.int .i64 c)) w.heap.size ((P (m + 1)).2 ++ List.replicate gk' 0)) := hid (by
         have h1 := G5.out.1.set (i := m) (c := c) (by have := HPL.out; simp; omega)
         have h2 := set_rep (P m).2 gk' c
         rw [HPL.out] at h2
         rw [h2] at h1
         rw [PN.out]
         exact h1)
       have MX9 : Hid (∃ N, MT (w5.setCell ⟨w.heap.size, m, none⟩ (.int .i64 c)) base tb (P (m + 1)).1.length N ∧ Rel N (P (m + 1)).1) := hid (by
         obtain ⟨N, h1, h2⟩ := G5.out.2.1
         exact ⟨N, h1.setE (q := ⟨w.heap.size, m, none⟩) G5.out.1 _, h2⟩)
       have B9 := hid (G5.out.2.2.2.setCell (p := ⟨w.heap.size, m, none⟩) (Nat.le_refl _) (.int .i64 c))
       have Z9 : Hid (base ≤ (w5.setCell ⟨w.heap.size, m, none⟩ (.int .i64 c)).heap.size) := hid (by have := G5.out.2.2.1; simpa [World.setCell] using this)
       go_roundg gk'
       case measure => omega
       case rel => exact ⟨m + 1, by omega, by go_num, EX9, MX9, Z9, B9⟩
     · have em : m = n := by omega
       obtain rfl : gk = 0 := by omega
       have hge : ¬ (m : Int) < n := by omega
       subst em
       obtain ⟨N, hM, hR⟩ := MX.out
       have LS := hid (tlist_c sortOK hM hR (PR.out m).srt (PR.out m).few)
       have LE : Hid (m = R.2.length) := hid (by rw [PE.out]; exact (PL.out m (Nat.le_refl _)).symm)
       clear hM hR MX
       go_wp2_with (first
         | (go_at_call 18; refine LS.out.mono ?_; rintro _ w6 ⟨v6, L6, rfl, ho6, he6, hn6, hb6⟩
            have B6 := hid (BX.out.trans (hb6.mono BX.out.size))
            have E6 := hid (EX.out.later EX.out.lt hb6)
            have H6 := hid he6
            have T6 : Hid (∃ a c, v6 = .slice a L6.length c ∧ Tr w6 a L6) := hid (Tr.of ho6 (fun x hx => (hn6 x hx).r.p) (by have := congrArg List.length he6; rw [List.length_map] at this; have := (PR.out m).few; omega))
            clear ho6 he6 hn6 hb6))
       obtain ⟨a6, c6, rfl, t6⟩ := T6.out
       refine bodyPost_ret (v := .tuple #[.slice a6 L6.length c6, .slice (some ⟨w.heap.size, 0, none⟩) m m]) (by simp [results, Tryz.results10, go_sem]) rfl ⟨a6, c6, L6, some ⟨w.heap.size, 0, none⟩, m, ?_, t6, by rw [PE.out]; exact H6.out, ?_, B6.out⟩
       · rw [← LE.out]
       · rw [PE.out]
         have := E6.out.es
         rw [List.replicate_zero, List.append_nil] at this
         exact this
end Go.Proofs.YtihgiemgcmpmmaaGreat
