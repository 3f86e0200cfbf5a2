/-
  
-/
import Derived.Test.YtfmghbennahlfaaGreatCnBm
import Derived.Test.YtfmghbennahlfaaGreatCnBn
import Derived.Test.YtfmghbennahlfaaGreatCnAr
import Derived.Deep.OwnRows
import Derived.Test.YtfmghbennahlfaaGreatCnBe
import Derived.Test.YtfmghbennahlfaaGreatCnBd
import Derived.Test.YtfmghbennahlfaaGreatCnBr
namespace Go.Proofs.YtfmghbennahlfaaGreat
open Go.RowKit Go.ChangeShapes Go.WideShapes Go.ChangeAt
set_option linter.unusedVariables false
set_option linter.unusedSimpArgs false
set_option maxRecDepth 100000
theorem foldS_rtm {l : List Nd} (h : Rt l) {ops : List Rec} (hw : ∀ x ∈ ops, x.Wf) (m : Nat) (e : List Int) : Rt ((ops.take m).foldl foldS (l, e)).1 := by
 induction m with
 | zero => exact h
 | succ m ih =>
   by_cases hm : m < ops.length
   · rw [fold_take _ _ _ Rec.no hm]
     simp only [foldS]
     split
     · rename_i q
       exact ApplyL_rt (hw _ (getD_mem _ _ hm)) q
     · exact ih
   · rw [List.take_of_length_le (by omega)] at ih ⊢
     exact ih
theorem infoErr : (Tryz.prog.info? 28).map (fun i => (i.zero, i.size, i.bytes)) = some (some (.int .i64 0), 1, 8) := by kernel_rfl
theorem made_repE (n : Nat) (z : Value) : madeCells #[z] n = Array.replicate n z := by
 apply Array.ext
 · simp [size_madeCells]
 · intro i h1 h2
   simp [madeCells, Nat.mod_one]
def ErR (w : World) (g : Nat) (es : List Int) : Prop := w.heap[g]? = some (.cells (es.map erV).toArray 28 (0, 0))
theorem make_errs (n : Nat) (hn : n ≤ 1000) (W : World) : (Instr.makeSlice 97 (.int .i64 (n : Int)) (.int .i64 (n : Int))).run Tryz.prog W = .ok (.slice (some ⟨W.heap.size, 0, none⟩) n n) (W.alloc (.cells ((List.replicate n (0 : Int)).map erV).toArray 28)) := by
 have := run_make_row' (P := Tryz.prog) 97 28 (.int .i64 0) 8 Tryz.underlying97 infoErr rfl .i64 .i64 n (by omega) (by omega) W
 rw [made_repE] at this
 have e : ((List.replicate n (0 : Int)).map erV).toArray = Array.replicate n (Value.int .i64 0) := by
   rw [List.map_replicate]
   simp [erV]
 rw [e]
 exact this
theorem ErR.later {w w' : World} {g : Nat} {es : List Int} (h : ErR w g es) {B : Nat} (hg : g < B) (hb : Below B w w') : ErR w' g es := (hb.block _ hg).trans h
theorem ErR.lt {w : World} {g : Nat} {es : List Int} (h : ErR w g es) : g < w.heap.size := lt_blkR h
theorem ErR.set {w : World} {g : Nat} {es : List Int} (h : ErR w g es) {i : Nat} {c : Int} (hi : i < es.length) : ErR (w.setCell ⟨g, i, none⟩ (.int .i64 c)) g (es.set i c) := by
 unfold ErR at *
 simp only [World.setCell]
 rw [Array.getElem?_modify, if_pos rfl, h]
 simp [List.map_set, erV]
theorem ErR.cell {w : World} {g : Nat} {es : List Int} (h : ErR w g es) {i : Nat} (hi : i < es.length) : w.cell? ⟨g, i, none⟩ = some (.int .i64 (es.getD i 0)) ∧ w.frozen? ⟨g, i, none⟩ = false := by
 unfold ErR at h
 constructor
 · simp [World.cell?, h, erV, List.getD, List.getElem?_eq_getElem hi]
 · simp [World.frozen?, h]
theorem ErR.es {w : World} {g : Nat} {es : List Int} (h : ErR w g es) : IsEs w (some ⟨g, 0, none⟩) es := fun hp => ⟨g, 0, rfl, fun i hi => by
 have := (h.cell hi).1
 rw [Nat.zero_add]
 exact this⟩
theorem set_rep (es : List Int) (k : Nat) (c : Int) : (es ++ List.replicate (k + 1) 0).set es.length c = (es ++ [c]) ++ List.replicate k 0 := by
 rw [List.set_append_right _ _ (Nat.le_refl _), Nat.sub_self, List.replicate_succ, List.set_cons_zero, List.append_assoc]
 rfl
set_option maxHeartbeats 8000000 in
theorem tFold_c (a b : Option Addr) (cap cb : Nat) (l : List Nd) (ops : List Rec) (w : World) (h : Tr w a l) (ho : IsOs w b ops) (hm : l.length ≤ 900) (hn : ops.length ≤ 1000) (SO : SortOK) (h12 : ((l.map Nd.er).length ≤ 12) ∧ (rightD (l.map Nd.er) = true → (ops.foldl foldS (l.map Nd.er, [])).1.length ≤ 12)) (DO : ∀ o ∈ ops, ∀ (W : World) (base tb : Nat) (N : Tab) (l : List Nd), MT W base tb l.length N → Rel N l → Rt l → o.Wf → Calls Tryz.prog 176 #[.map (some tb), o.opV] W (DoP W base tb (ApplyL l o))) :
   Calls Tryz.prog 55 #[.slice a l.length cap, .slice b ops.length cb] w (FoP w (FoldL (l.map Nd.er) ops)) := by
 obtain ⟨R, hR⟩ : ∃ R, R = FoldL (l.map Nd.er) ops := ⟨_, rfl⟩
 rw [← hR]
 unfold FoldL at hR
 rw [rightD_er] at hR
 have HT := hid h
 have HO := hid ho
 have HR := hid hR
 have HD := hid DO
 have H12 := hid h12
 clear DO h12
 obtain ⟨n, hnn⟩ : ∃ n, n = ops.length := ⟨_, rfl⟩
 have HN := hid hnn
 have MK := make_errs n (by omega) w
 have bV := below_1 w (.cells ((List.replicate n (0 : Int)).map erV).toArray 28)
 have EV : Hid (ErR (w.alloc (.cells ((List.replicate n (0 : Int)).map erV).toArray 28)) w.heap.size (List.replicate n 0)) := hid (heap_alloc_new w _)
 have RV := hid (rightT_c a cap l _ (h.later bV).1 (by omega))
 have BV := hid bV
 rw [← hnn] at hn ⊢
 clear h ho hR hnn bV
 generalize hV : w.alloc (.cells ((List.replicate n (0 : Int)).map erV).toArray 28) = V at *
 clear hV
 cases br : rightD l with
 | false =>
   have RE : Hid (R = ([], List.replicate n 3)) := hid (by rw [HN.out]; exact HR.out.trans (if_neg (by rw [br]; simp)))
   rw [br] at RV
   clear HR br
   go_enter Tryz.func55, Tryz.ntmps55
   go_wp2_with (go_at_call 58; refine RV.out.mono ?_; rintro _ w1 ⟨rfl, hb1⟩; have B1 := hid (BV.out.trans (hb1.mono BV.out.size)); have E1 := hid (EV.out.later EV.out.lt hb1); clear hb1)
   go_loopg [19] n (fun gk i wr => ∃ m : Nat, m + gk = n ∧ i = .int .i64 m ∧ Hid (ErR wr w.heap.size (List.replicate m 3 ++ List.replicate gk 0)) ∧ Hid (Below w.heap.size w wr))
   case atStart => exact ⟨0, by omega, rfl, E1, B1⟩
   case round =>
     obtain ⟨m, hm2, rfl, EX, BX⟩ := hrel
     by_cases hlt : m < n
     · have hltI : (m : Int) < n := by omega
       obtain ⟨gk', rfl⟩ : ∃ gk', gk = gk' + 1 := ⟨gk - 1, by omega⟩
       obtain ⟨c0, z0⟩ := EX.out.cell (i := m) (by simp)
       have EX9 := hid (EX.out.set (i := m) (c := 3) (by simp))
       have EN9 : Hid (ErR (wr.setCell ⟨w.heap.size, m, none⟩ (.int .i64 3)) w.heap.size (List.replicate (m + 1) 3 ++ List.replicate gk' 0)) := hid (by
         have h1 := EX9.out
         have h2 := set_rep (List.replicate m 3) gk' 3
         rw [List.length_replicate] at h2
         rw [h2] at h1
         rw [List.replicate_succ']
         exact h1)
       have B9 := hid (BX.out.setCell (p := ⟨w.heap.size, m, none⟩) (Nat.le_refl _) (.int .i64 3))
       clear EX9
       generalize (List.replicate m (3 : Int) ++ List.replicate (gk' + 1) 0).getD m 0 = z at *
       go_wp2
       go_roundg gk'
       case measure => omega
       case rel => exact ⟨m + 1, by omega, by go_num, EN9, B9⟩
     · have em : m = n := by omega
       obtain rfl : gk = 0 := by omega
       have hge : ¬ (m : Int) < n := by omega
       have ES : Hid (IsEs wr (some ⟨w.heap.size, 0, none⟩) R.2) := hid (by rw [RE.out]; have := EX.out.es; rw [List.replicate_zero, List.append_nil, em] at this; exact this)
       have LE : Hid (n = R.2.length) := hid (by rw [RE.out]; simp)
       go_wp2
       refine bodyPost_ret (v := .tuple #[.slice none 0 0, .slice (some ⟨w.heap.size, 0, none⟩) n n]) (by simp [results, Tryz.results55, go_sem]) rfl ⟨none, 0, [], some ⟨w.heap.size, 0, none⟩, n, ?_, Tr.nil _, by rw [RE.out]; rfl, ES.out, BX.out⟩
       rw [← LE.out]
       rfl
 | true =>
   have RE : Hid (R = ops.foldl foldS (l.map Nd.er, [])) := hid (HR.out.trans (if_pos br))
   have BR := hid br
   have HRT : Hid (Rt (l.map Nd.er)) := hid (rightD_rt.1 (by rw [rightD_er]; exact br))
   rw [br] at RV
   clear HR br
   obtain ⟨P, hP⟩ : ∃ P : Nat → List Nd × List Int, P = fun m => (ops.take m).foldl foldS (l.map Nd.er, []) := ⟨_, rfl⟩
   have P0 : Hid (P 0 = (l.map Nd.er, [])) := hid (by rw [hP]; rfl)
   have PS : Hid (∀ m, m < n → P (m + 1) = foldS (P m) (ops.getD m Rec.no)) := hid (fun m hm => by rw [hP]; exact fold_take _ _ _ Rec.no (by rw [← HN.out]; exact hm))
   have PL : Hid (∀ m, m ≤ n → (P m).2.length = m) := hid (fun m hm => by rw [hP]; exact foldS_len _ ops m (by rw [← HN.out]; exact hm))
   have PR : Hid (∀ m, Rt (P m).1) := hid (fun m => by rw [hP]; exact foldS_rtm HRT.out HO.out.2.1 m [])
   have PE : Hid (R = P n) := hid (by rw [RE.out, hP, HN.out]; simp only; rw [List.take_length])
   have P12 : Hid ((P n).1.length ≤ 12) := hid (by rw [← PE.out, RE.out]; exact H12.out.2 (by rw [rightD_er]; exact BR.out))
   clear hP RE
   go_enter Tryz.func55, Tryz.ntmps55
   go_wp2_with (first
     | (go_at_call 108; refine TO1.out.mono ?_; rintro _ w3 ⟨rfl, ht3, hb3⟩
        have M3 := hid (mt_of O2.out NW2.out KA2.out D2.out Z2.out hb3 ht3)
        have B3 := hid (B2.out.trans (hb3.mono B2.out.size))
        have E3 := hid (E2.out.later E2.out.lt hb3)
        have R3 := hid (ndF_rel a2 ER2.out D2.out)
        have Z3 := hid (Nat.le_trans Z2.out hb3.size)
        clear ht3 hb3)
     | (go_at_call 109; refine CP1.out.mono ?_; rintro _ w2 ⟨v2, L2, rfl, ho2, he2, hn2, hk2, hb2⟩
        obtain ⟨a2, c2, rfl⟩ := ho2.shape
        have hL2 : L2.length = l.length := by have := congrArg List.length he2; simpa using this
        have LL2 : Hid (L2.length = (l.map Nd.er).length) := hid (by rw [List.length_map]; exact hL2)
        have O2 := hid ho2
        have NW2 := hid hn2
        have KA2 := hid hk2
        have ER2 := hid he2
        have D2 := hid (dis_of he2 HRT.out.srt)
        have Z2 := hid hb2.size
        have B2 := hid (B1.out.trans (hb2.mono B1.out.size))
        have E2 := hid (E1.out.later E1.out.lt hb2)
        have TO1 := hid (tableOf_c a2 c2 L2 w2 (by
          obtain ⟨a', c', e', h'⟩ := ho2.is (fun x hx => (hn2 x hx).r.ok) (by omega)
          cases e'
          exact h') (by have := HRT.out.few; rw [List.length_map] at this; omega))
        clear ho2 he2 hn2 hk2 hb2 hL2)
     | (go_at_call 58; refine RV.out.mono ?_; rintro _ w1 ⟨rfl, hb1⟩; have B1 := hid (BV.out.trans (hb1.mono BV.out.size)); have E1 := hid (EV.out.later EV.out.lt hb1)
        have CP1 := hid (copyAll_c a cap l w1 (HT.out.later (BV.out.trans (hb1.mono BV.out.size))) (by omega))
        have GB : Hid (w.heap.size < w1.heap.size) := hid E1.out.lt
        clear hb1))
   clear RV CP1 TO1 EV BV MK
   obtain ⟨base, Hbase⟩ : ∃ base, Hid (base = w1.heap.size) := ⟨_, hid rfl⟩
   have M3' : Hid (∃ N, MT w3 base w2.heap.size (P 0).1.length N ∧ Rel N (P 0).1) := hid (by rw [Hbase.out, P0.out]; exact ⟨_, by rw [← LL2.out]; exact M3.out, R3.out⟩)
   have GB' : Hid (w.heap.size < base) := hid (by rw [Hbase.out]; exact GB.out)
   clear M3 R3 O2 NW2 KA2 ER2 D2 LL2 E1 E2 B1 B2 HRT GB
   generalize w2.heap.size = tb at *
   go_loopg [32] n (fun gk i wr => ∃ m : Nat, m + gk = n ∧ i = .int .i64 m ∧ Hid (ErR wr w.heap.size ((P m).2 ++ List.replicate gk 0)) ∧ Hid (∃ N, MT wr base tb (P m).1.length N ∧ Rel N (P m).1) ∧ Hid (base ≤ wr.heap.size) ∧ Hid (Below w.heap.size w wr))
   case atStart => exact ⟨0, by omega, rfl, hid (by rw [P0.out]; exact E3.out), M3', hid (by rw [Hbase.out]; exact Z3.out), B3⟩
   case round =>
     clear M3' E3 B3 Z3
     obtain ⟨m, hm2, rfl, EX, MX, ZX, BX⟩ := hrel
     by_cases hlt : m < n
     · have hltI : (m : Int) < n := by omega
       have hln : m < ops.length := by rw [← HN.out]; exact hlt
       obtain ⟨gk', rfl⟩ : ∃ gk', gk = gk' + 1 := ⟨gk - 1, by omega⟩
       obtain ⟨b', off, rfl, _⟩ := HO.out.2.2 (by omega)
       have hO := HO.out.later BX.out
       have hc := hO.at (i := m) hln
       have hw := hO.wf (i := m) hln
       have HPS := hid (PS.out m hlt)
       have HPL := hid (PL.out m (by omega))
       have WF := hid hw
       have DM := hid (HD.out (ops.getD m Rec.no) (getD_mem _ _ hln))
       clear hO hw hln
       generalize ops.getD m Rec.no = o at *
       obtain ⟨k, fid, dir, nm, tof, nm2, md, dt, sn⟩ := o
       have c0 := hc 0 _ rfl
       rw [Nat.add_zero] at c0
       have c1 := hc 1 _ rfl
       have c2 := hc 2 _ rfl
       have c3 := hc 3 _ rfl
       have c4 := hc 4 _ rfl
       have c5 := hc 5 _ rfl
       have c6 := hc 6 _ rfl
       have c7 := hc 7 _ rfl
       clear hc
       obtain ⟨N, hM, hR⟩ := MX.out
       have bo := below_1 wr (.cells #[.int .u8 k, .int .u32 fid, .int .u32 dir, .string nm, .int .u32 tof, .string nm2, .int .u16 md, .string dt] 111)
       have hbox := heap_alloc_new wr (.cells #[.int .u8 k, .int .u32 fid, .int .u32 dir, .string nm, .int .u32 tof, .string nm2, .int .u16 md, .string dt] 111)
       have TC := hid (ttry_c ⟨k, fid, dir, nm, tof, nm2, md, dt, sn⟩ (hM.later bo) hR (PR.out m) WF.out (fun W hW => DM.out W _ _ _ _ hW hR (PR.out m) WF.out))
       have EB := hid (EX.out.later EX.out.lt bo)
       have MB := hid (hM.later bo)
       have RB := hid hR
       have BO := hid (BX.out.trans (bo.mono BX.out.size))
       have ZO := hid (Nat.le_trans ZX.out bo.size)
       have u0 : (wr.alloc (.cells #[.int .u8 k, .int .u32 fid, .int .u32 dir, .string nm, .int .u32 tof, .string nm2, .int .u16 md, .string dt] 111)).cell? ⟨wr.heap.size, 0, none⟩ = some (.int .u8 k) := cell_of_row2 hbox 0 rfl
       have u1 : (wr.alloc (.cells #[.int .u8 k, .int .u32 fid, .int .u32 dir, .string nm, .int .u32 tof, .string nm2, .int .u16 md, .string dt] 111)).cell? ⟨wr.heap.size, 1, none⟩ = some (.int .u32 fid) := cell_of_row2 hbox 1 rfl
       have u2 : (wr.alloc (.cells #[.int .u8 k, .int .u32 fid, .int .u32 dir, .string nm, .int .u32 tof, .string nm2, .int .u16 md, .string dt] 111)).cell? ⟨wr.heap.size, 2, none⟩ = some (.int .u32 dir) := cell_of_row2 hbox 2 rfl
       have u3 : (wr.alloc (.cells #[.int .u8 k, .int .u32 fid, .int .u32 dir, .string nm, .int .u32 tof, .string nm2, .int .u16 md, .string dt] 111)).cell? ⟨wr.heap.size, 3, none⟩ = some (.string nm) := cell_of_row2 hbox 3 rfl
       have u4 : (wr.alloc (.cells #[.int .u8 k, .int .u32 fid, .int .u32 dir, .string nm, .int .u32 tof, .string nm2, .int .u16 md, .string dt] 111)).cell? ⟨wr.heap.size, 4, none⟩ = some (.int .u32 tof) := cell_of_row2 hbox 4 rfl
       have u5 : (wr.alloc (.cells #[.int .u8 k, .int .u32 fid, .int .u32 dir, .string nm, .int .u32 tof, .string nm2, .int .u16 md, .string dt] 111)).cell? ⟨wr.heap.size, 5, none⟩ = some (.string nm2) := cell_of_row2 hbox 5 rfl
       have u6 : (wr.alloc (.cells #[.int .u8 k, .int .u32 fid, .int .u32 dir, .string nm, .int .u32 tof, .string nm2, .int .u16 md, .string dt] 111)).cell? ⟨wr.heap.size, 6, none⟩ = some (.int .u16 md) := cell_of_row2 hbox 6 rfl
       have u7 : (wr.alloc (.cells #[.int .u8 k, .int .u32 fid, .int .u32 dir, .string nm, .int .u32 tof, .string nm2, .int .u16 md, .string dt] 111)).cell? ⟨wr.heap.size, 7, none⟩ = some (.string dt) := cell_of_row2 hbox 7 rfl
       clear bo hbox hM hR MX
       simp only [Rec.opV] at TC
       obtain ⟨⟨c, L⟩, HC⟩ : ∃ r, Hid (ApplyL (P m).1 ⟨k, fid, dir, nm, tof, nm2, md, dt, sn⟩ = r) := ⟨_, hid rfl⟩
       rw [HC.out] at TC
       have PN : Hid (P (m + 1) = (if c = 0 then L else (P m).1, (P m).2 ++ [c])) := hid (by rw [HPS.out]; unfold foldS; rw [HC.out])
       go_upto_region 13 with fail
       change Code.wp _ _ _ _ (wr.alloc (.cells #[.int .u8 k, .int .u32 fid, .int .u32 dir, .string nm, .int .u32 tof, .string nm2, .int .u16 md, .string dt] 111))
       generalize wr.alloc (.cells #[.int .u8 k, .int .u32 fid, .int .u32 dir, .string nm, .int .u32 tof, .string nm2, .int .u16 md, .string dt] 111) = W at *
       clear c0 c1 c2 c3 c4 c5 c6 c7
       go_wp2_with (first
         | (go_at_call 110; refine TC.out.mono ?_; rintro _ w5 ⟨rfl, h5⟩
            have G5 : Hid (ErR w5 w.heap.size ((P m).2 ++ List.replicate (gk' + 1) 0) ∧ (∃ N, MT w5 base tb (P (m + 1)).1.length N ∧ Rel N (P (m + 1)).1) ∧ base ≤ w5.heap.size ∧ Below w.heap.size w w5) := hid (by
              rw [PN.out]
              rcases h5 with ⟨h6, h7, h8⟩ | ⟨h6, h7⟩
              · simp only at h6 h7
                rw [if_pos h6]
                exact ⟨EB.out.later GB'.out h8, h7, Nat.le_trans ZO.out h8.size, BO.out.trans (h8.mono (Nat.le_of_lt GB'.out))⟩
              · simp only at h6
                rw [if_neg h6]
                exact ⟨EB.out.later EB.out.lt h7, ⟨_, MB.out.later h7, RB.out⟩, Nat.le_trans ZO.out h7.size, BO.out.trans (h7.mono BO.out.size)⟩)
            obtain ⟨z1, z2⟩ := G5.out.1.cell (i := m) (by have := HPL.out; simp; omega)
            clear h5 TC))
       have EX9 : Hid (ErR (w5.setCell ⟨w.heap.size, m, none⟩ (.int .i64 c)) w.heap.size ((P (m + 1)).2 ++ List.replicate gk' 0)) := hid (by
         have h1 := G5.out.1.set (i := m) (c := c) (by have := HPL.out; simp; omega)
         have h2 := set_rep (P m).2 gk' c
         rw [HPL.out] at h2
         rw [h2] at h1
         rw [PN.out]
         exact h1)
       have MX9 : Hid (∃ N, MT (w5.setCell ⟨w.heap.size, m, none⟩ (.int .i64 c)) base tb (P (m + 1)).1.length N ∧ Rel N (P (m + 1)).1) := hid (by
         obtain ⟨N, h1, h2⟩ := G5.out.2.1
         exact ⟨N, h1.setE (q := ⟨w.heap.size, m, none⟩) G5.out.1 _, h2⟩)
       have B9 := hid (G5.out.2.2.2.setCell (p := ⟨w.heap.size, m, none⟩) (Nat.le_refl _) (.int .i64 c))
       have Z9 : Hid (base ≤ (w5.setCell ⟨w.heap.size, m, none⟩ (.int .i64 c)).heap.size) := hid (by have := G5.out.2.2.1; simpa [World.setCell] using this)
       go_roundg gk'
       case measure => omega
       case rel => exact ⟨m + 1, by omega, by go_num, EX9, MX9, Z9, B9⟩
     · have em : m = n := by omega
       obtain rfl : gk = 0 := by omega
       have hge : ¬ (m : Int) < n := by omega
       subst em
       obtain ⟨N, hM, hR⟩ := MX.out
       have LS := hid (tlist_c SO hM hR (PR.out m).srt (by have e1 := P12.out; exact e1))
       have LE : Hid (m = R.2.length) := hid (by rw [PE.out]; exact (PL.out m (Nat.le_refl _)).symm)
       clear hM hR MX
       go_wp2_with (first
         | (go_at_call 111; refine LS.out.mono ?_; rintro _ w6 ⟨v6, L6, rfl, ho6, he6, hn6, hb6⟩
            have B6 := hid (BX.out.trans (hb6.mono BX.out.size))
            have E6 := hid (EX.out.later EX.out.lt hb6)
            have H6 := hid he6
            have T6 : Hid (∃ a c, v6 = .slice a L6.length c ∧ Tr w6 a L6) := hid (Tr.of ho6 (fun x hx => (hn6 x hx).r.p) (by have := congrArg List.length he6; rw [List.length_map] at this; have := (PR.out m).few; omega))
            clear ho6 he6 hn6 hb6))
       obtain ⟨a6, c6, rfl, t6⟩ := T6.out
       refine bodyPost_ret (v := .tuple #[.slice a6 L6.length c6, .slice (some ⟨w.heap.size, 0, none⟩) m m]) (by simp [results, Tryz.results55, go_sem]) rfl ⟨a6, c6, L6, some ⟨w.heap.size, 0, none⟩, m, ?_, t6, by rw [PE.out]; exact H6.out, ?_, B6.out⟩
       · rw [← LE.out]
       · rw [PE.out]
         have := E6.out.es
         rw [List.replicate_zero, List.append_nil] at this
         exact this
end Go.Proofs.YtfmghbennahlfaaGreat
namespace Go.Proofs.YtfmghbennahlfaaGreat
open Go.RowKit Go.ChangeShapes Go.WideShapes Go.ChangeAt Go.Maps Go.Shelf
theorem info_fid : ∃ i : TypeInfo, Tryz.prog.info? 35 = some i ∧ i.zero = some (.int .u32 0) ∧ i.size = 1 ∧ i.bytes = 4 := info_fidJ
end Go.Proofs.YtfmghbennahlfaaGreat
namespace Go.Proofs.YtfmghbennahlfaaGreat
open Go.RowKit Go.ChangeShapes Go.WideShapes Go.ChangeAt Go.Maps Go.Shelf
set_option linter.unusedVariables false
set_option linter.unusedSimpArgs false
set_option maxRecDepth 100000
theorem below_grownR {B : Nat} {a w w' : World} {base : Nat} {e size n : Nat} {v : Value} {xs : List Value} (h : Below B a w) (hown : w.ownsRow base e size v n xs) (hB : B ≤ base) (hBw : B ≤ w.heap.size) (hg : w.grownBy w' v.ownBlock) : Below B a w' :=
 Below.grown h hg hBw (fun k hk => by have := (hown.lt k hk).1; omega)
def u32N (x : Int) : Value := .int .u32 x
def nameL (x : Rec) : List Int := (if x.fid != 0 then [x.fid] else []) ++ ((if x.dir != 0 then [x.dir] else []) ++ (if x.to != 0 then [x.to] else []))
theorem own_snoc32 {w : World} {B T : Nat} {v : Value} {zs : List Int} {f : Int} (h : w.ownsRow B T 1 v (zs.length + 1) (zs.map u32N ++ [.int .u32 f])) : w.ownsRow B T 1 v (zs ++ [f]).length ((zs ++ [f]).map u32N) := by
 rw [List.length_append, List.map_append]; exact h
theorem below_one (w : World) (o : Obj) : Below w.heap.size w (w.alloc o) := (Below.refl _ _).alloc (Nat.le_refl _) _
theorem fid_news (w : World) (f : Int) (t : TypeId) (g : Nat) (hg : g = w.heap.size) : ∀ j u, ([.int .u32 f] : List Value)[j]? = some u → (w.alloc (.cells #[.int .u32 f] t)).cell? ((⟨g, 0, none⟩ : Addr).add j) = some u := fun j u hu => by
 subst hg
 have e : (⟨w.heap.size, 0, none⟩ : Addr).add j = ⟨w.heap.size, 0 + j, none⟩ := by unfold Addr.add; split <;> simp_all
 rw [e, cell_of_row _ _ _ _ _ _ (heap_alloc_new w (.cells #[.int .u32 f] t))]
 simpa using hu
theorem fid_one (f : Int) : ∀ u ∈ ([.int .u32 f] : List Value), u.oneCell' = true := fun u hu => by
 rw [List.mem_singleton.1 hu]; rfl
theorem op_box {w : World} {g : Nat} {x : Rec} {t : TypeId} {fr : Nat × Nat} (h : w.heap[g]? = some (.cells x.ops.toArray t fr)) : w.cell? ⟨g, 1, none⟩ = some (.int .u32 x.fid) ∧ w.cell? ⟨g, 2, none⟩ = some (.int .u32 x.dir) ∧ w.cell? ⟨g, 4, none⟩ = some (.int .u32 x.to) := by
 refine ⟨?_, ?_, ?_⟩ <;> (rw [cell_of_row w g _ _ t fr h]; rfl)
theorem fidx0 (a b c : Int) (w : World) : (Instr.index 231 (.agg #[.int .u32 a, .int .u32 b, .int .u32 c]) (.int .i64 0)).run Tryz.prog w = .ok (.int .u32 a) w := by
 simp [Instr.index, run_underlying Tryz.underlying231, asIntOf, part, Tryz.sizeOf35, run_underlying Tryz.underlying35, Result.andThen, go_sem]
theorem fidx1 (a b c : Int) (w : World) : (Instr.index 231 (.agg #[.int .u32 a, .int .u32 b, .int .u32 c]) (.int .i64 1)).run Tryz.prog w = .ok (.int .u32 b) w := by
 simp [Instr.index, run_underlying Tryz.underlying231, asIntOf, part, Tryz.sizeOf35, run_underlying Tryz.underlying35, Result.andThen, go_sem]
theorem fidx2 (a b c : Int) (w : World) : (Instr.index 231 (.agg #[.int .u32 a, .int .u32 b, .int .u32 c]) (.int .i64 2)).run Tryz.prog w = .ok (.int .u32 c) w := by
 simp [Instr.index, run_underlying Tryz.underlying231, asIntOf, part, Tryz.sizeOf35, run_underlying Tryz.underlying35, Result.andThen, go_sem]
set_option maxRecDepth 20000 in
set_option maxHeartbeats 2000000 in
theorem tnames_c (x : Rec) (w : World) :
   Calls Tryz.prog 79 #[x.opV] w fun e w' => ∃ v, e = .returned v ∧ w'.ownsRow w.heap.size 35 1 v (nameL x).length ((nameL x).map u32N) ∧ Below w.heap.size w w' := by
 obtain ⟨i0, hi, hz0, hz1, hz2⟩ := info_fid
 have hx : (w.alloc (.cells x.ops.toArray 111)).heap[w.heap.size]? = some (.cells x.ops.toArray 111 (0, 0)) := heap_alloc_new w _
 have HX := hid hx
 have hb0 := below_one w (.cells x.ops.toArray 111)
 have HB0 := hid hb0
 obtain ⟨y1, y2, y4⟩ := op_box hx
 obtain ⟨B, hB⟩ : ∃ B, B = (w.alloc (.cells x.ops.toArray 111)).heap.size := ⟨_, rfl⟩
 have HB : Hid (Below B (w.alloc (.cells x.ops.toArray 111)) (w.alloc (.cells x.ops.toArray 111))) := hid (Below.refl _ _)
 have HS : Hid (B ≤ (w.alloc (.cells x.ops.toArray 111)).heap.size) := hid (by omega)
 have HO : Hid ((w.alloc (.cells x.ops.toArray 111)).ownsRow B 35 1 (.slice none 0 0) ([] : List Int).length (([] : List Int).map u32N)) := hid (World.ownsRow_nil _ _ _ _)
 have HBB := hid hB
 have HLT : Hid (w.heap.size < B) := hid (by rw [hB]; simp)
 clear hx hb0 hB
 unfold Rec.opV nameL
 cases e1 : (x.fid != 0) <;> cases e2 : (x.dir != 0) <;> cases e3 : (x.to != 0)
 all_goals
   have f1 : (x.fid == 0) = !(x.fid != 0) := by simp [bne]
   have f2 : (x.dir == 0) = !(x.dir != 0) := by simp [bne]
   have f3 : (x.to == 0) = !(x.to != 0) := by simp [bne]
   rw [e1] at f1
   rw [e2] at f2
   rw [e3] at f3
   simp only [Bool.not_true, Bool.not_false] at f1 f2 f3
   have ix0 := fidx0 x.fid x.dir x.to
   have ix1 := fidx1 x.fid x.dir x.to
   have ix2 := fidx2 x.fid x.dir x.to
   go_enter Tryz.func79, Tryz.ntmps79
   go_wp2
   refine wp_loop_rounds 4 ?_
   rw [rounds_succ]
   go_wp2_with (first
     | (at_builtin; refine wpList_append_own _ rfl _ _ 149 rfl B 35 i0 (.int .u32 0) 1 4 Tryz.underlying149 hi hz0 hz1 hz2 (by rfl) (by decide) _ _ _ rfl (own_latR HO.out (below_one _ _)) ⟨_, 0, none⟩ 1 1 [.int .u32 _] rfl rfl (fid_news _ _ _ _ (by simp)) (fid_one _) (by unfold maxLen; simp) (by simp) (Nat.le_trans HS.out (below_one _ _).size) ?_; intro v9 w9 hown9 hgrow9 hnil9
        have HB9 := hid (below_grownR (HB.out.trans ((below_one _ _).mono HS.out)) (own_latR HO.out (below_one _ _)) (Nat.le_refl _) (Nat.le_trans HS.out (below_one _ _).size) hgrow9)
        have HO9 := hid (own_snoc32 hown9)
        have HS9 : Hid (B ≤ w9.heap.size) := hid (Nat.le_trans (Nat.le_of_eq HBB.out) HB9.out.size)
        obtain ⟨z1, z2, z4⟩ := op_box ((HB9.out.block _ HLT.out).trans HX.out)
        obtain ⟨a9, c9, rfl⟩ := own_shapeR hown9
        clear hown9 hgrow9 hnil9 HO HB HS
        have HO := HO9
        have HB := HB9
        have HS := HS9
        clear HO9 HB9 HS9))
   rw [rounds_succ]
   go_wp2_with (first
     | (at_builtin; refine wpList_append_own _ rfl _ _ 149 rfl B 35 i0 (.int .u32 0) 1 4 Tryz.underlying149 hi hz0 hz1 hz2 (by rfl) (by decide) _ _ _ rfl (own_latR HO.out (below_one _ _)) ⟨_, 0, none⟩ 1 1 [.int .u32 _] rfl rfl (fid_news _ _ _ _ (by simp)) (fid_one _) (by unfold maxLen; simp) (by simp) (Nat.le_trans HS.out (below_one _ _).size) ?_; intro v9 w9 hown9 hgrow9 hnil9
        have HB9 := hid (below_grownR (HB.out.trans ((below_one _ _).mono HS.out)) (own_latR HO.out (below_one _ _)) (Nat.le_refl _) (Nat.le_trans HS.out (below_one _ _).size) hgrow9)
        have HO9 := hid (own_snoc32 hown9)
        have HS9 : Hid (B ≤ w9.heap.size) := hid (Nat.le_trans (Nat.le_of_eq HBB.out) HB9.out.size)
        obtain ⟨z1, z2, z4⟩ := op_box ((HB9.out.block _ HLT.out).trans HX.out)
        obtain ⟨a9, c9, rfl⟩ := own_shapeR hown9
        clear hown9 hgrow9 hnil9 HO HB HS
        have HO := HO9
        have HB := HB9
        have HS := HS9
        clear HO9 HB9 HS9))
   rw [rounds_succ]
   go_wp2_with (first
     | (at_builtin; refine wpList_append_own _ rfl _ _ 149 rfl B 35 i0 (.int .u32 0) 1 4 Tryz.underlying149 hi hz0 hz1 hz2 (by rfl) (by decide) _ _ _ rfl (own_latR HO.out (below_one _ _)) ⟨_, 0, none⟩ 1 1 [.int .u32 _] rfl rfl (fid_news _ _ _ _ (by simp)) (fid_one _) (by unfold maxLen; simp) (by simp) (Nat.le_trans HS.out (below_one _ _).size) ?_; intro v9 w9 hown9 hgrow9 hnil9
        have HB9 := hid (below_grownR (HB.out.trans ((below_one _ _).mono HS.out)) (own_latR HO.out (below_one _ _)) (Nat.le_refl _) (Nat.le_trans HS.out (below_one _ _).size) hgrow9)
        have HO9 := hid (own_snoc32 hown9)
        have HS9 : Hid (B ≤ w9.heap.size) := hid (Nat.le_trans (Nat.le_of_eq HBB.out) HB9.out.size)
        obtain ⟨z1, z2, z4⟩ := op_box ((HB9.out.block _ HLT.out).trans HX.out)
        obtain ⟨a9, c9, rfl⟩ := own_shapeR hown9
        clear hown9 hgrow9 hnil9 HO HB HS
        have HO := HO9
        have HB := HB9
        have HS := HS9
        clear HO9 HB9 HS9))
   rw [rounds_succ]
   go_wp2_with (first
     | (at_builtin; refine wpList_append_own _ rfl _ _ 149 rfl B 35 i0 (.int .u32 0) 1 4 Tryz.underlying149 hi hz0 hz1 hz2 (by rfl) (by decide) _ _ _ rfl (own_latR HO.out (below_one _ _)) ⟨_, 0, none⟩ 1 1 [.int .u32 _] rfl rfl (fid_news _ _ _ _ (by simp)) (fid_one _) (by unfold maxLen; simp) (by simp) (Nat.le_trans HS.out (below_one _ _).size) ?_; intro v9 w9 hown9 hgrow9 hnil9
        have HB9 := hid (below_grownR (HB.out.trans ((below_one _ _).mono HS.out)) (own_latR HO.out (below_one _ _)) (Nat.le_refl _) (Nat.le_trans HS.out (below_one _ _).size) hgrow9)
        have HO9 := hid (own_snoc32 hown9)
        have HS9 : Hid (B ≤ w9.heap.size) := hid (Nat.le_trans (Nat.le_of_eq HBB.out) HB9.out.size)
        obtain ⟨z1, z2, z4⟩ := op_box ((HB9.out.block _ HLT.out).trans HX.out)
        obtain ⟨a9, c9, rfl⟩ := own_shapeR hown9
        clear hown9 hgrow9 hnil9 HO HB HS
        have HO := HO9
        have HB := HB9
        have HS := HS9
        clear HO9 HB9 HS9))
   go_ret
   exact ⟨_, rfl, own_low HO.out (Nat.le_of_lt HLT.out), HB0.out.trans (HB.out.mono (Nat.le_of_lt HLT.out))⟩
theorem own_at32 {w : World} {B T n c : Nat} {a : Option Addr} {zs : List Int} (h : w.ownsRow B T 1 (.slice a n c) zs.length (zs.map u32N)) {k : Nat} (hk : k < zs.length) : ∃ g, a = some ⟨g, 0, none⟩ ∧ w.cell? ⟨g, k, none⟩ = some (.int .u32 (zs.getD k 0)) := by
 rcases h.2 with ⟨h1, hn⟩ | ⟨g, cap, cur, h1, hb, hg, hn, hc, hs, ht⟩
 · omega
 · cases h1
   refine ⟨g, rfl, ?_⟩
   rw [cell_of_row w g k cur _ _ hg]
   have : (zs.map u32N)[k]? = some (.int .u32 (zs.getD k 0)) := by simp [List.getD, hk, u32N]
   rw [← ht, List.getElem?_take, if_pos (by omega)] at this
   simpa using this
theorem op_newsC {w : World} {g : Nat} {x : Rec} {t : TypeId} {fr : Nat × Nat} (hb : w.heap[g]? = some (.cells x.ops.toArray t fr)) : ∀ j u, x.ops[j]? = some u → w.cell? ((⟨g, 0, none⟩ : Addr).add j) = some u := fun j u hu => by
 have e : (⟨g, 0, none⟩ : Addr).add j = ⟨g, 0 + j, none⟩ := by unfold Addr.add; split <;> simp_all
 rw [e, cell_of_row w g _ _ t fr hb]
 simpa using hu
theorem op_oneC (x : Rec) : ∀ u ∈ x.ops, u.oneCell' = true := fun u hu => by
 simp [Rec.ops] at hu
 rcases hu with rfl | rfl | rfl | rfl | rfl | rfl | rfl | rfl <;> rfl
theorem info_opC : ∃ i : TypeInfo, Tryz.prog.info? 111 = some i ∧ i.zero = some Rec.no.opV ∧ i.size = 8 ∧ i.bytes = 80 := by
 have h : (Tryz.prog.info? 111).map (fun i => (i.zero, i.size, i.bytes)) = some (some Rec.no.opV, 8, 80) := by kernel_rfl
 cases hi : Tryz.prog.info? 111 with
 | none => rw [hi] at h; cases h
 | some i => rw [hi] at h; simp at h; exact ⟨i, rfl, h.1, h.2.1, h.2.2⟩
theorem isOs_own1 {w : World} {base : Nat} {v : Value} {o : Rec} (h : w.ownsRow base 111 8 v 1 o.ops) (hw : o.Wf) : ∃ a cap, v = .slice a 1 cap ∧ IsOs w a [o] := by
 rcases h.2 with ⟨rfl, hn⟩ | ⟨g, cap, cur, rfl, hb, hg, hn, hc, hs, ht⟩
 · exact absurd hn (by decide)
 · refine ⟨some ⟨g, 0, none⟩, cap, rfl, ⟨by simp [maxLen], fun x hx => by rw [List.mem_singleton] at hx; rw [hx]; exact hw, fun hp => ⟨g, 0, rfl, fun i hi j v hv => ?_⟩⟩⟩
   have e : i = 0 := by simp at hi; omega
   subst e
   have hv : o.ops[j]? = some v := hv
   have hj : j < 8 := (List.getElem?_eq_some_iff.1 hv).1
   rw [show 0 + 0 * 8 + j = j by omega, cell_of_row w g j cur _ _ hg]
   rw [← ht, List.getElem?_take, if_pos (by omega)] at hv
   rw [← Array.getElem?_toList]; exact hv
theorem ops0_c (w : World) : Calls Tryz.prog 56 #[.slice none 0 0] w fun e w' => e = .returned (.slice none 0 0) ∧ w' = w := by
 go_enter Tryz.func56, Tryz.ntmps56
 go_wp2
 refine wp_loop_rounds 1 ?_
 rw [rounds_succ]
 go_wp2
 go_ret
 exact ⟨rfl, rfl⟩
set_option maxHeartbeats 2000000 in
theorem ops1_c {w : World} (lb cap : Nat) (cur : Array Value) (o : Rec) (hlb : w.heap[lb]? = some (.cells cur 113 (0, 0))) (hc : R9 cur o) (ho : o.Wf) :
   Calls Tryz.prog 56 #[.slice (some ⟨lb, 0, none⟩) 1 cap] w fun e w' => ∃ a c, e = .returned (.slice a 1 c) ∧ IsOs w' a [o] ∧ Below w.heap.size w w' := by
 obtain ⟨q0, q1, q2, q3, q4, q5, q6, q7, q8⟩ := hc
 have k0 : w.cell? ⟨lb, 0, none⟩ = some (.int .u8 o.k) := cell_of_row2 hlb 0 q0
 have k1 : w.cell? ⟨lb, 1, none⟩ = some (.int .u32 o.fid) := cell_of_row2 hlb 1 q1
 have k2 : w.cell? ⟨lb, 2, none⟩ = some (.int .u32 o.dir) := cell_of_row2 hlb 2 q2
 have k3 : w.cell? ⟨lb, 3, none⟩ = some (.string o.nm) := cell_of_row2 hlb 3 q3
 have k4 : w.cell? ⟨lb, 4, none⟩ = some (.int .u32 o.to) := cell_of_row2 hlb 4 q4
 have k5 : w.cell? ⟨lb, 5, none⟩ = some (.string o.nm2) := cell_of_row2 hlb 5 q5
 have k6 : w.cell? ⟨lb, 6, none⟩ = some (.int .u16 o.md) := cell_of_row2 hlb 6 q6
 have k7 : w.cell? ⟨lb, 7, none⟩ = some (.string o.dt) := cell_of_row2 hlb 7 q7
 have k8 : w.cell? ⟨lb, 8, none⟩ = some (.int .u64 o.sn) := cell_of_row2 hlb 8 q8
 obtain ⟨i0, hi, hz0, hz1, hz2⟩ := info_opC
 have b1 := below_1 w (.cells #[.int .u8 o.k, .int .u32 o.fid, .int .u32 o.dir, .string o.nm, .int .u32 o.to, .string o.nm2, .int .u16 o.md, .string o.dt, .int .u64 o.sn] 113)
 have b2 := below_1 (w.alloc (.cells #[.int .u8 o.k, .int .u32 o.fid, .int .u32 o.dir, .string o.nm, .int .u32 o.to, .string o.nm2, .int .u16 o.md, .string o.dt, .int .u64 o.sn] 113)) (.cells o.ops.toArray 111)
 have h2 := heap_alloc_new (w.alloc (.cells #[.int .u8 o.k, .int .u32 o.fid, .int .u32 o.dir, .string o.nm, .int .u32 o.to, .string o.nm2, .int .u16 o.md, .string o.dt, .int .u64 o.sn] 113)) (.cells o.ops.toArray 111)
 rw [show (w.alloc (.cells #[.int .u8 o.k, .int .u32 o.fid, .int .u32 o.dir, .string o.nm, .int .u32 o.to, .string o.nm2, .int .u16 o.md, .string o.dt, .int .u64 o.sn] 113)).heap.size = w.heap.size + 1 by simp] at h2
 have N2 := hid h2
 have B2 := hid (b1.trans (b2.mono b1.size))
 have O2 : Hid (((w.alloc (.cells #[.int .u8 o.k, .int .u32 o.fid, .int .u32 o.dir, .string o.nm, .int .u32 o.to, .string o.nm2, .int .u16 o.md, .string o.dt, .int .u64 o.sn] 113)).alloc (.cells o.ops.toArray 111)).ownsRow w.heap.size 111 8 (.slice none 0 0) 0 []) := hid (World.ownsRow_nil _ _ 111 8)
 clear hlb q0 q1 q2 q3 q4 q5 q6 q7 q8 h2 b1 b2
 go_enter Tryz.func56, Tryz.ntmps56
 go_wp2
 refine wp_loop_rounds 2 ?_
 rw [rounds_succ]
 go_wp2_with (at_builtin; refine wpList_append_own _ rfl _ _ 127 rfl w.heap.size 111 i0 Rec.no.opV 8 80 Tryz.underlying127 hi hz0 hz1 hz2 (by rfl) (by decide) _ _ _ rfl O2.out ⟨w.heap.size + 1, 0, none⟩ 1 1 o.ops rfl rfl (op_newsC N2.out) (op_oneC o) (by decide) (by decide) B2.out.size ?_; intro v9 w9 hown9 hgrow9 hnil9)
 have B9 := hid (below_grownR B2.out O2.out (Nat.le_refl _) B2.out.size hgrow9)
 obtain ⟨a9, c9, rfl, hI⟩ := isOs_own1 (o := o) (by simpa using hown9) ho
 have I9 := hid hI
 clear hown9 hgrow9 hnil9 hI
 rw [rounds_succ]
 go_wp2
 go_ret
 exact ⟨_, _, rfl, I9.out, B9.out⟩
theorem opsL_c {w : World} {lv : Value} {L : List Rec} (h : LgM w lv L) (hL : LogM L) : Calls Tryz.prog 56 #[lv] w fun e w' => ∃ a c, e = .returned (.slice a L.length c) ∧ IsOs w' a L ∧ Below w.heap.size w w' := by
 rcases h with ⟨rfl, rfl⟩ | ⟨lb, cap, cur, o, rfl, rfl, h3, h4⟩
 · refine (ops0_c w).mono ?_
   rintro e w' ⟨rfl, rfl⟩
   exact ⟨none, 0, rfl, ⟨Nat.zero_le _, fun x hx => (by cases hx), fun hp => absurd hp (by simp)⟩, Below.refl _ _⟩
 · have e : o = oM := by
     rcases hL with q | q
     · cases q
     · simpa using q
   subst e
   exact ops1_c lb cap cur oM h3 h4 oM_wf
theorem sortC : SortOK := fun g n cap f0 w h hinj hn hcap => sortF_c g n cap f0 w h hinj hn hcap
def VwP (L : List Rec) (w : World) (e : Ending) (w' : World) : Prop := ∃ a c l, e = .returned (.slice a l.length c) ∧ Tr w' a l ∧ l.map Nd.er = vwL L ∧ Below w.heap.size w w'
theorem vw_12 {L : List Rec} (h : LogM L) : ((newL.map Nd.er).length ≤ 12) ∧ (rightD (newL.map Nd.er) = true → (L.foldl foldS (newL.map Nd.er, [])).1.length ≤ 12) := by
 rcases h with rfl | rfl
 · exact ⟨by decide, fun _ => by decide +kernel⟩
 · exact ⟨by decide, fun _ => by decide +kernel⟩
theorem foldM_c {w : World} {g : Nat} {L : List Rec} (hL : LogM L) (hg : w.heap[g]? = some (.cells #[.int .u32 1, .int .u8 2, .int .u16 0, .int .u16 0, .slice none 0 0, .slice none 0 0] 40 (0, 0))) (b : Option Addr) (cb : Nat) (ho : IsOs w b L) :
   Calls Tryz.prog 55 #[.slice (some ⟨g, 0, none⟩) 1 1, .slice b L.length cb] w (FoP w (FoldL newL L)) :=
 tFold_c (some ⟨g, 0, none⟩) b 1 cb newL L w (newTr hg) ho (by decide) (by rcases hL with rfl | rfl <;> decide) sortC (vw_12 hL) (fun o hoL W base tb N l hM hR R hwf => by
   have e : o = oM := by
     rcases hL with rfl | rfl
     · cases hoL
     · simpa using hoL
   subst e
   exact tdo_2 oM hM hR R hwf oM_right rfl)
set_option maxHeartbeats 2000000 in
theorem view_c {base : Nat} {w : World} {c : Cv} (h : CvM base w c) (hL : LogM c.L) : Calls Tryz.prog 25 #[.pointer (some ⟨c.p, 4, none⟩)] w (VwP c.L w) := by
 have row := h.2.2.1
 have H := hid h
 obtain ⟨la, lc, hlv⟩ := h.2.2.2.2.2.1.shape
 have OC : Hid (Calls Tryz.prog 56 #[c.lv] w.drew fun e w' => ∃ a d, e = .returned (.slice a c.L.length d) ∧ IsOs w' a c.L ∧ Below w.drew.heap.size w.drew w') := hid (opsL_c (h.later (Below.drew (Below.refl _ _))).2.2.2.2.2.1 hL)
 have FC := hid (fun W (hW : Below w.heap.size w W) b cb ho => foldM_c (w := W) (g := c.g) hL ((hW.block _ (lt_blkR h.2.2.2.1)).trans h.2.2.2.1) b cb ho)
 have KC : Hid (∀ W, Below w.heap.size w W → W.cell? ⟨c.p, 4, none⟩ = some (.slice (some ⟨c.g, 0, none⟩) 1 1) ∧ W.cell? ⟨c.p, 6, none⟩ = some c.lv) := hid (fun W hW => ⟨cell_later hW (cell_of_row2 row 4 rfl), cell_later hW (cell_of_row2 row 6 rfl)⟩)
 have D0 := hid (Below.drew (Below.refl w.heap.size w))
 clear h row
 rw [hlv] at OC KC
 clear hlv
 go_enter Tryz.func25, Tryz.ntmps25
 go_upto_region 1 with fail
 go_wp2_with fail
 refine wp_region_held_drew (S := fun w' => w'.cell? ⟨c.p, 4, none⟩ = some (.slice (some ⟨c.g, 0, none⟩) 1 1) ∧ w'.cell? ⟨c.p, 6, none⟩ = some (.slice la c.L.length lc)) (by kernel_rfl) (KC.out _ D0.out) (fun hHeld => ?_)
 refine take_l 0 (v := ?_) rfl (by kernel_rfl) (by kernel_rfl) (by kernel_rfl) (fun _ _ _ h => h) (Or.inl ⟨by rfl, ?_⟩) (by assumption) ?_
 rotate_left
 · (intro w' hSw; clear hSw; go_simp; first | done | with_reducible rfl)
 try simp only [Act.put, List.setIfInBounds_toArray, List.set_cons_zero, List.set_cons_succ]
 refine take_l 1 (v := ?_) rfl (by kernel_rfl) (by kernel_rfl) (by kernel_rfl) (fun _ _ _ h => h) (Or.inl ⟨by rfl, ?_⟩) (by assumption) ?_
 rotate_left
 · (intro w' hSw; clear hSw; go_simp; first | done | with_reducible rfl)
 try simp only [Act.put, List.setIfInBounds_toArray, List.set_cons_zero, List.set_cons_succ]
 refine take_l 2 (v := ?_) rfl (by kernel_rfl) (by kernel_rfl) (by kernel_rfl) (fun _ _ _ h => h) (Or.inl ⟨by rfl, ?_⟩) (by assumption) ?_
 rotate_left
 · (intro w' hSw; clear hSw; go_simp; first | done | with_reducible rfl)
 try simp only [Act.put, List.setIfInBounds_toArray, List.set_cons_zero, List.set_cons_succ]
 refine take_l 3 (v := ?_) rfl (by kernel_rfl) (by kernel_rfl) (by kernel_rfl) (fun _ _ _ h => h) (Or.inl ⟨by rfl, ?_⟩) (by assumption) ?_
 rotate_left
 · (intro w' hSw; clear hSw; go_simp; first | done | with_reducible rfl)
 try simp only [Act.put, List.setIfInBounds_toArray, List.set_cons_zero, List.set_cons_succ]
 refine take_l 4 (v := ?_) rfl (by kernel_rfl) (by kernel_rfl) (by kernel_rfl) (fun _ _ _ h => h) (Or.inl ⟨by rfl, ?_⟩) (by assumption) ?_
 rotate_left
 · (intro w' hSw; have y4 := hSw.1; have y6 := hSw.2; clear hSw; go_simp; first | done | with_reducible rfl)
 try simp only [Act.put, List.setIfInBounds_toArray, List.set_cons_zero, List.set_cons_succ]
 refine take_l 5 (v := ?_) rfl (by kernel_rfl) (by kernel_rfl) (by kernel_rfl) (fun _ _ _ h => h) (Or.inl ⟨by rfl, ?_⟩) (by assumption) ?_
 rotate_left
 · (intro w' hSw; clear hSw; go_simp; first | done | with_reducible rfl)
 try simp only [Act.put, List.setIfInBounds_toArray, List.set_cons_zero, List.set_cons_succ]
 refine take_l 6 (v := ?_) rfl (by kernel_rfl) (by kernel_rfl) (by kernel_rfl) (fun _ _ _ h => h) (Or.inl ⟨by rfl, ?_⟩) (by assumption) ?_
 rotate_left
 · (intro w' hSw; clear hSw; go_simp; first | done | with_reducible rfl)
 try simp only [Act.put, List.setIfInBounds_toArray, List.set_cons_zero, List.set_cons_succ]
 refine take_l 7 (v := ?_) rfl (by kernel_rfl) (by kernel_rfl) (by kernel_rfl) (fun _ _ _ h => h) (Or.inl ⟨by rfl, ?_⟩) (by assumption) ?_
 rotate_left
 · (intro w' hSw; clear hSw; go_simp; first | done | with_reducible rfl)
 try simp only [Act.put, List.setIfInBounds_toArray, List.set_cons_zero, List.set_cons_succ]
 refine take_l 8 (v := ?_) rfl (by kernel_rfl) (by kernel_rfl) (by kernel_rfl) (fun _ _ _ h => h) (Or.inl ⟨by rfl, ?_⟩) (by assumption) ?_
 rotate_left
 · (intro w' hSw; have y4 := hSw.1; have y6 := hSw.2; clear hSw; go_simp; first | done | with_reducible rfl)
 try simp only [Act.put, List.setIfInBounds_toArray, List.set_cons_zero, List.set_cons_succ]
 refine cons_l 9 rfl (by kernel_rfl) (fun K hK => ?_)
 go_simp
 refine OC.out.mono ?_; rintro _ w1 ⟨oa, oc, rfl, ho1, hb1⟩
 have D1 := hid (D0.out.trans hb1)
 have F1 := hid (FC.out w1 D1.out oa oc ho1)
 clear ho1 hb1
 go_simp
 refine hK.out _ _ (KC.out _ D1.out) (fun hHeld => ?_)
 clear hK K
 try simp only [Act.put, List.setIfInBounds_toArray, List.set_cons_zero, List.set_cons_succ]
 refine cons_l 10 rfl (by kernel_rfl) (fun K hK => ?_)
 go_simp
 refine F1.out.mono ?_; rintro _ w2 ⟨ta, tc, l, eb, ed, rfl, ht2, he2, hes2, hb2⟩
 have D2 := hid (D1.out.trans (hb2.mono D1.out.size))
 have T2 := hid ht2
 have E2 := hid he2
 clear ht2 he2 hes2 hb2
 go_simp
 refine hK.out _ _ (KC.out _ D2.out) (fun hHeld => ?_)
 clear hK K
 try simp only [Act.put, List.setIfInBounds_toArray, List.set_cons_zero, List.set_cons_succ]
 refine take_l 11 (v := ?_) rfl (by kernel_rfl) (by kernel_rfl) (by kernel_rfl) (fun _ _ _ h => h) (Or.inl ⟨by rfl, ?_⟩) (by assumption) ?_
 rotate_left
 · (intro w' hSw; clear hSw; go_simp; first | done | with_reducible rfl)
 try simp only [Act.put, List.setIfInBounds_toArray, List.set_cons_zero, List.set_cons_succ]
 refine take_l 12 (v := ?_) rfl (by kernel_rfl) (by kernel_rfl) (by kernel_rfl) (fun _ _ _ h => h) (Or.inl ⟨by rfl, ?_⟩) (by assumption) ?_
 rotate_left
 · (intro w' hSw; clear hSw; go_simp; first | done | with_reducible rfl)
 try simp only [Act.put, List.setIfInBounds_toArray, List.set_cons_zero, List.set_cons_succ]
 refine take_l 13 (v := ?_) rfl (by kernel_rfl) (by kernel_rfl) (by kernel_rfl) (fun _ _ _ h => h) (Or.inl ⟨by rfl, ?_⟩) (by assumption) ?_
 rotate_left
 · (intro w' hSw; clear hSw; go_simp; first | done | with_reducible rfl)
 try simp only [Act.put, List.setIfInBounds_toArray, List.set_cons_zero, List.set_cons_succ]
 refine take_l 14 (v := ?_) rfl (by kernel_rfl) (by kernel_rfl) (by kernel_rfl) (fun _ _ _ h => h) (Or.inl ⟨by rfl, ?_⟩) (by assumption) ?_
 rotate_left
 · (intro w' hSw; clear hSw; go_simp; first | done | with_reducible rfl)
 try simp only [Act.put, List.setIfInBounds_toArray, List.set_cons_zero, List.set_cons_succ]
 refine take_l 15 (v := ?_) rfl (by kernel_rfl) (by kernel_rfl) (by kernel_rfl) (fun _ _ _ h => h) (Or.inl ⟨by rfl, ?_⟩) (by assumption) ?_
 rotate_left
 · (intro w' hSw; clear hSw; go_simp; first | done | with_reducible rfl)
 try simp only [Act.put, List.setIfInBounds_toArray, List.set_cons_zero, List.set_cons_succ]
 refine wpAnyH_done (by kernel_rfl) ?_ _
 clear hHeld
 go_wp2
 go_ret
 exact ⟨ta, tc, l, rfl, T2.out, E2.out, D2.out⟩
end Go.Proofs.YtfmghbennahlfaaGreat
