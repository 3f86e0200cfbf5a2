/-
  Fold of the program's tree.
  Nodes of an input, in memory.
  Apply and Fold of nodes that are no tree; the law's few; the document's SameErrs.
-/
import Derived.Test.YtloojakcknnilaaGreatSmBm
import Derived.Deep.OwnRows
import Derived.Test.YtloojakcknnilaaGreatSmAo
namespace Go.Proofs.YtloojakcknnilaaGreat
open Go.RowKit Go.ChangeShapes Go.WideShapes Go.ChangeAt
set_option linter.unusedVariables false
set_option linter.unusedSimpArgs false
set_option maxRecDepth 100000
theorem infoErr : (Tryz.prog.info? 30).map (fun i => (i.zero, i.size, i.bytes)) = some (some (.int .i64 0), 1, 8) := by kernel_rfl
theorem made_repE (n : Nat) (z : Value) : madeCells #[z] n = Array.replicate n z := by
 apply Array.ext
 · simp [size_madeCells]
 · intro i h1 h2
   simp [madeCells, Nat.mod_one]
def ErR (w : World) (g : Nat) (es : List Int) : Prop := w.heap[g]? = some (.cells (es.map erV).toArray 30 (0, 0))
theorem make_errs (n : Nat) (hn : n ≤ 1000) (W : World) : (Instr.makeSlice 42 (.int .i64 (n : Int)) (.int .i64 (n : Int))).run Tryz.prog W = .ok (.slice (some ⟨W.heap.size, 0, none⟩) n n) (W.alloc (.cells ((List.replicate n (0 : Int)).map erV).toArray 30)) := by
 have := run_make_row' (P := Tryz.prog) 42 30 (.int .i64 0) 8 Tryz.underlying42 infoErr rfl .i64 .i64 n (by omega) (by omega) W
 rw [made_repE] at this
 have e : ((List.replicate n (0 : Int)).map erV).toArray = Array.replicate n (Value.int .i64 0) := by
   rw [List.map_replicate]
   simp [erV]
 rw [e]
 exact this
theorem ErR.later {w w' : World} {g : Nat} {es : List Int} (h : ErR w g es) {B : Nat} (hg : g < B) (hb : Below B w w') : ErR w' g es := (hb.block _ hg).trans h
theorem ErR.lt {w : World} {g : Nat} {es : List Int} (h : ErR w g es) : g < w.heap.size := lt_blkR h
theorem ErR.set {w : World} {g : Nat} {es : List Int} (h : ErR w g es) {i : Nat} {c : Int} (hi : i < es.length) : ErR (w.setCell ⟨g, i, none⟩ (.int .i64 c)) g (es.set i c) := by
 unfold ErR at *
 simp only [World.setCell]
 rw [Array.getElem?_modify, if_pos rfl, h]
 simp [List.map_set, erV]
theorem ErR.cell {w : World} {g : Nat} {es : List Int} (h : ErR w g es) {i : Nat} (hi : i < es.length) : w.cell? ⟨g, i, none⟩ = some (.int .i64 (es.getD i 0)) ∧ w.frozen? ⟨g, i, none⟩ = false := by
 unfold ErR at h
 constructor
 · simp [World.cell?, h, erV, List.getD, List.getElem?_eq_getElem hi]
 · simp [World.frozen?, h]
theorem ErR.es {w : World} {g : Nat} {es : List Int} (h : ErR w g es) : IsEs w (some ⟨g, 0, none⟩) es := fun hp => ⟨g, 0, rfl, fun i hi => by
 have := (h.cell hi).1
 rw [Nat.zero_add]
 exact this⟩
theorem set_rep (es : List Int) (k : Nat) (c : Int) : (es ++ List.replicate (k + 1) 0).set es.length c = (es ++ [c]) ++ List.replicate k 0 := by
 rw [List.set_append_right _ _ (Nat.le_refl _), Nat.sub_self, List.replicate_succ, List.set_cons_zero, List.append_assoc]
 rfl
set_option maxHeartbeats 8000000 in
theorem tFold_c (a b : Option Addr) (cap cb : Nat) (l : List Nd) (ops : List Rec) (w : World) (h : Tr w a l) (ho : IsOs w b ops) (hm : l.length ≤ 900) (hn : ops.length ≤ 1000) :
   Calls Tryz.prog 21 #[.slice a l.length cap, .slice b ops.length cb] w (FoP w (FoldL (l.map Nd.er) ops)) := by
 obtain ⟨R, hR⟩ : ∃ R, R = FoldL (l.map Nd.er) ops := ⟨_, rfl⟩
 rw [← hR]
 unfold FoldL at hR
 rw [rightD_er] at hR
 have HT := hid h
 have HO := hid ho
 have HR := hid hR
 obtain ⟨n, hnn⟩ : ∃ n, n = ops.length := ⟨_, rfl⟩
 have HN := hid hnn
 have MK := make_errs n (by omega) w
 have bV := below_1 w (.cells ((List.replicate n (0 : Int)).map erV).toArray 30)
 have EV : Hid (ErR (w.alloc (.cells ((List.replicate n (0 : Int)).map erV).toArray 30)) w.heap.size (List.replicate n 0)) := hid (heap_alloc_new w _)
 have RV := hid (rightT_c a cap l _ (h.later bV).1 (by omega))
 have BV := hid bV
 rw [← hnn] at hn ⊢
 clear h ho hR hnn bV
 generalize hV : w.alloc (.cells ((List.replicate n (0 : Int)).map erV).toArray 30) = V at *
 clear hV
 cases br : rightD l with
 | false =>
   have RE : Hid (R = ([], List.replicate n 3)) := hid (by rw [HN.out]; exact HR.out.trans (if_neg (by rw [br]; simp)))
   rw [br] at RV
   clear HR br
   go_enter Tryz.func21, Tryz.ntmps21
   go_wp2_with (go_at_call 14; refine RV.out.mono ?_; rintro _ w1 ⟨rfl, hb1⟩; have B1 := hid (BV.out.trans (hb1.mono BV.out.size)); have E1 := hid (EV.out.later EV.out.lt hb1); clear hb1)
   go_loopg [19] n (fun gk i wr => ∃ m : Nat, m + gk = n ∧ i = .int .i64 m ∧ Hid (ErR wr w.heap.size (List.replicate m 3 ++ List.replicate gk 0)) ∧ Hid (Below w.heap.size w wr))
   case atStart => exact ⟨0, by omega, rfl, E1, B1⟩
   case round =>
     obtain ⟨m, hm2, rfl, EX, BX⟩ := hrel
     by_cases hlt : m < n
     · have hltI : (m : Int) < n := by omega
       obtain ⟨gk', rfl⟩ : ∃ gk', gk = gk' + 1 := ⟨gk - 1, by omega⟩
       obtain ⟨c0, z0⟩ := EX.out.cell (i := m) (by simp)
       have EX9 := hid (EX.out.set (i := m) (c := 3) (by simp))
       have EN9 : Hid (ErR (wr.setCell ⟨w.heap.size, m, none⟩ (.int .i64 3)) w.heap.size (List.replicate (m + 1) 3 ++ List.replicate gk' 0)) := hid (by
         have h1 := EX9.out
         have h2 := set_rep (List.replicate m 3) gk' 3
         rw [List.length_replicate] at h2
         rw [h2] at h1
         rw [List.replicate_succ']
         exact h1)
       have B9 := hid (BX.out.setCell (p := ⟨w.heap.size, m, none⟩) (Nat.le_refl _) (.int .i64 3))
       clear EX9
       generalize (List.replicate m (3 : Int) ++ List.replicate (gk' + 1) 0).getD m 0 = z at *
       go_wp2
       go_roundg gk'
       case measure => omega
       case rel => exact ⟨m + 1, by omega, by go_num, EN9, B9⟩
     · have em : m = n := by omega
       obtain rfl : gk = 0 := by omega
       have hge : ¬ (m : Int) < n := by omega
       have ES : Hid (IsEs wr (some ⟨w.heap.size, 0, none⟩) R.2) := hid (by rw [RE.out]; have := EX.out.es; rw [List.replicate_zero, List.append_nil, em] at this; exact this)
       have LE : Hid (n = R.2.length) := hid (by rw [RE.out]; simp)
       go_wp2
       refine bodyPost_ret (v := .tuple #[.slice none 0 0, .slice (some ⟨w.heap.size, 0, none⟩) n n]) (by simp [results, Tryz.results21, go_sem]) rfl ⟨none, 0, [], some ⟨w.heap.size, 0, none⟩, n, ?_, Tr.nil _, by rw [RE.out]; rfl, ES.out, BX.out⟩
       rw [← LE.out]
       rfl
 | true =>
   have RE : Hid (R = ops.foldl foldS (l.map Nd.er, [])) := hid (HR.out.trans (if_pos br))
   have HRT : Hid (Rt (l.map Nd.er)) := hid (rightD_rt.1 (by rw [rightD_er]; exact br))
   rw [br] at RV
   clear HR br
   obtain ⟨P, hP⟩ : ∃ P : Nat → List Nd × List Int, P = fun m => (ops.take m).foldl foldS (l.map Nd.er, []) := ⟨_, rfl⟩
   have P0 : Hid (P 0 = (l.map Nd.er, [])) := hid (by rw [hP]; rfl)
   have PS : Hid (∀ m, m < n → P (m + 1) = foldS (P m) (ops.getD m Rec.no)) := hid (fun m hm => by rw [hP]; exact fold_take _ _ _ Rec.no (by rw [← HN.out]; exact hm))
   have PL : Hid (∀ m, m ≤ n → (P m).2.length = m) := hid (fun m hm => by rw [hP]; exact foldS_len _ ops m (by rw [← HN.out]; exact hm))
   have PR : Hid (∀ m, Rt (P m).1) := hid (fun m => by rw [hP]; exact foldS_rtm HRT.out HO.out.2.1 m [])
   have PE : Hid (R = P n) := hid (by rw [RE.out, hP, HN.out]; simp only; rw [List.take_length])
   clear hP RE
   go_enter Tryz.func21, Tryz.ntmps21
   go_wp2_with (first
     | (go_at_call 29; refine TO1.out.mono ?_; rintro _ w3 ⟨rfl, ht3, hb3⟩
        have M3 := hid (mt_of O2.out NW2.out KA2.out D2.out Z2.out hb3 ht3)
        have B3 := hid (B2.out.trans (hb3.mono B2.out.size))
        have E3 := hid (E2.out.later E2.out.lt hb3)
        have R3 := hid (ndF_rel a2 ER2.out D2.out)
        have Z3 := hid (Nat.le_trans Z2.out hb3.size)
        clear ht3 hb3)
     | (go_at_call 30; refine CP1.out.mono ?_; rintro _ w2 ⟨v2, L2, rfl, ho2, he2, hn2, hk2, hb2⟩
        obtain ⟨a2, c2, rfl⟩ := ho2.shape
        have hL2 : L2.length = l.length := by have := congrArg List.length he2; simpa using this
        have LL2 : Hid (L2.length = (l.map Nd.er).length) := hid (by rw [List.length_map]; exact hL2)
        have O2 := hid ho2
        have NW2 := hid hn2
        have KA2 := hid hk2
        have ER2 := hid he2
        have D2 := hid (dis_of he2 HRT.out.srt)
        have Z2 := hid hb2.size
        have B2 := hid (B1.out.trans (hb2.mono B1.out.size))
        have E2 := hid (E1.out.later E1.out.lt hb2)
        have TO1 := hid (tableOf_c a2 c2 L2 w2 (by
          obtain ⟨a', c', e', h'⟩ := ho2.is (fun x hx => (hn2 x hx).r.ok) (by omega)
          cases e'
          exact h') (by have := HRT.out.few; rw [List.length_map] at this; omega))
        clear ho2 he2 hn2 hk2 hb2 hL2)
     | (go_at_call 14; refine RV.out.mono ?_; rintro _ w1 ⟨rfl, hb1⟩; have B1 := hid (BV.out.trans (hb1.mono BV.out.size)); have E1 := hid (EV.out.later EV.out.lt hb1)
        have CP1 := hid (copyAll_c a cap l w1 (HT.out.later (BV.out.trans (hb1.mono BV.out.size))) (by omega))
        have GB : Hid (w.heap.size < w1.heap.size) := hid E1.out.lt
        clear hb1))
   clear RV CP1 TO1 EV BV MK
   obtain ⟨base, Hbase⟩ : ∃ base, Hid (base = w1.heap.size) := ⟨_, hid rfl⟩
   have M3' : Hid (∃ N, MT w3 base w2.heap.size (P 0).1.length N ∧ Rel N (P 0).1) := hid (by rw [Hbase.out, P0.out]; exact ⟨_, by rw [← LL2.out]; exact M3.out, R3.out⟩)
   have GB' : Hid (w.heap.size < base) := hid (by rw [Hbase.out]; exact GB.out)
   clear M3 R3 O2 NW2 KA2 ER2 D2 LL2 E1 E2 B1 B2 HRT GB
   generalize w2.heap.size = tb at *
   go_loopg [32] n (fun gk i wr => ∃ m : Nat, m + gk = n ∧ i = .int .i64 m ∧ Hid (ErR wr w.heap.size ((P m).2 ++ List.replicate gk 0)) ∧ Hid (∃ N, MT wr base tb (P m).1.length N ∧ Rel N (P m).1) ∧ Hid (base ≤ wr.heap.size) ∧ Hid (Below w.heap.size w wr))
   case atStart => exact ⟨0, by omega, rfl, hid (by rw [P0.out]; exact E3.out), M3', hid (by rw [Hbase.out]; exact Z3.out), B3⟩
   case round =>
     clear M3' E3 B3 Z3
     obtain ⟨m, hm2, rfl, EX, MX, ZX, BX⟩ := hrel
     by_cases hlt : m < n
     · have hltI : (m : Int) < n := by omega
       have hln : m < ops.length := by rw [← HN.out]; exact hlt
       obtain ⟨gk', rfl⟩ : ∃ gk', gk = gk' + 1 := ⟨gk - 1, by omega⟩
       obtain ⟨b', off, rfl, _⟩ := HO.out.2.2 (by omega)
       have hO := HO.out.later BX.out
       have hc := hO.at (i := m) hln
       have hw := hO.wf (i := m) hln
       have HPS := hid (PS.out m hlt)
       have HPL := hid (PL.out m (by omega))
       have WF := hid hw
       clear hO hw hln
       generalize ops.getD m Rec.no = o at *
       obtain ⟨k, fid, dir, nm, tof, nm2, md, dt, sn⟩ := o
       have c0 := hc 0 _ rfl
       rw [Nat.add_zero] at c0
       have c1 := hc 1 _ rfl
       have c2 := hc 2 _ rfl
       have c3 := hc 3 _ rfl
       have c4 := hc 4 _ rfl
       have c5 := hc 5 _ rfl
       have c6 := hc 6 _ rfl
       have c7 := hc 7 _ rfl
       clear hc
       obtain ⟨N, hM, hR⟩ := MX.out
       have bo := below_1 wr (.cells #[.int .u8 k, .int .u32 fid, .int .u32 dir, .string nm, .int .u32 tof, .string nm2, .int .u16 md, .string dt] 28)
       have hbox := heap_alloc_new wr (.cells #[.int .u8 k, .int .u32 fid, .int .u32 dir, .string nm, .int .u32 tof, .string nm2, .int .u16 md, .string dt] 28)
       have TC := hid (ttry_c ⟨k, fid, dir, nm, tof, nm2, md, dt, sn⟩ (hM.later bo) hR (PR.out m) WF.out)
       have EB := hid (EX.out.later EX.out.lt bo)
       have MB := hid (hM.later bo)
       have RB := hid hR
       have BO := hid (BX.out.trans (bo.mono BX.out.size))
       have ZO := hid (Nat.le_trans ZX.out bo.size)
       have u0 : (wr.alloc (.cells #[.int .u8 k, .int .u32 fid, .int .u32 dir, .string nm, .int .u32 tof, .string nm2, .int .u16 md, .string dt] 28)).cell? ⟨wr.heap.size, 0, none⟩ = some (.int .u8 k) := cell_of_row2 hbox 0 rfl
       have u1 : (wr.alloc (.cells #[.int .u8 k, .int .u32 fid, .int .u32 dir, .string nm, .int .u32 tof, .string nm2, .int .u16 md, .string dt] 28)).cell? ⟨wr.heap.size, 1, none⟩ = some (.int .u32 fid) := cell_of_row2 hbox 1 rfl
       have u2 : (wr.alloc (.cells #[.int .u8 k, .int .u32 fid, .int .u32 dir, .string nm, .int .u32 tof, .string nm2, .int .u16 md, .string dt] 28)).cell? ⟨wr.heap.size, 2, none⟩ = some (.int .u32 dir) := cell_of_row2 hbox 2 rfl
       have u3 : (wr.alloc (.cells #[.int .u8 k, .int .u32 fid, .int .u32 dir, .string nm, .int .u32 tof, .string nm2, .int .u16 md, .string dt] 28)).cell? ⟨wr.heap.size, 3, none⟩ = some (.string nm) := cell_of_row2 hbox 3 rfl
       have u4 : (wr.alloc (.cells #[.int .u8 k, .int .u32 fid, .int .u32 dir, .string nm, .int .u32 tof, .string nm2, .int .u16 md, .string dt] 28)).cell? ⟨wr.heap.size, 4, none⟩ = some (.int .u32 tof) := cell_of_row2 hbox 4 rfl
       have u5 : (wr.alloc (.cells #[.int .u8 k, .int .u32 fid, .int .u32 dir, .string nm, .int .u32 tof, .string nm2, .int .u16 md, .string dt] 28)).cell? ⟨wr.heap.size, 5, none⟩ = some (.string nm2) := cell_of_row2 hbox 5 rfl
       have u6 : (wr.alloc (.cells #[.int .u8 k, .int .u32 fid, .int .u32 dir, .string nm, .int .u32 tof, .string nm2, .int .u16 md, .string dt] 28)).cell? ⟨wr.heap.size, 6, none⟩ = some (.int .u16 md) := cell_of_row2 hbox 6 rfl
       have u7 : (wr.alloc (.cells #[.int .u8 k, .int .u32 fid, .int .u32 dir, .string nm, .int .u32 tof, .string nm2, .int .u16 md, .string dt] 28)).cell? ⟨wr.heap.size, 7, none⟩ = some (.string dt) := cell_of_row2 hbox 7 rfl
       clear bo hbox hM hR MX
       simp only [Rec.opV] at TC
       obtain ⟨⟨c, L⟩, HC⟩ : ∃ r, Hid (ApplyL (P m).1 ⟨k, fid, dir, nm, tof, nm2, md, dt, sn⟩ = r) := ⟨_, hid rfl⟩
       rw [HC.out] at TC
       have PN : Hid (P (m + 1) = (if c = 0 then L else (P m).1, (P m).2 ++ [c])) := hid (by rw [HPS.out]; unfold foldS; rw [HC.out])
       go_upto_region 13 with fail
       change Code.wp _ _ _ _ (wr.alloc (.cells #[.int .u8 k, .int .u32 fid, .int .u32 dir, .string nm, .int .u32 tof, .string nm2, .int .u16 md, .string dt] 28))
       generalize wr.alloc (.cells #[.int .u8 k, .int .u32 fid, .int .u32 dir, .string nm, .int .u32 tof, .string nm2, .int .u16 md, .string dt] 28) = W at *
       clear c0 c1 c2 c3 c4 c5 c6 c7
       go_wp2_with (first
         | (go_at_call 31; refine TC.out.mono ?_; rintro _ w5 ⟨rfl, h5⟩
            have G5 : Hid (ErR w5 w.heap.size ((P m).2 ++ List.replicate (gk' + 1) 0) ∧ (∃ N, MT w5 base tb (P (m + 1)).1.length N ∧ Rel N (P (m + 1)).1) ∧ base ≤ w5.heap.size ∧ Below w.heap.size w w5) := hid (by
              rw [PN.out]
              rcases h5 with ⟨h6, h7, h8⟩ | ⟨h6, h7⟩
              · simp only at h6 h7
                rw [if_pos h6]
                exact ⟨EB.out.later GB'.out h8, h7, Nat.le_trans ZO.out h8.size, BO.out.trans (h8.mono (Nat.le_of_lt GB'.out))⟩
              · simp only at h6
                rw [if_neg h6]
                exact ⟨EB.out.later EB.out.lt h7, ⟨_, MB.out.later h7, RB.out⟩, Nat.le_trans ZO.out h7.size, BO.out.trans (h7.mono BO.out.size)⟩)
            obtain ⟨z1, z2⟩ := G5.out.1.cell (i := m) (by have := HPL.out; simp; omega)
            clear h5 TC))
       have EX9 : Hid (ErR (w5.setCell ⟨w.heap.size, m, none⟩ (.int .i64 c)) w.heap.size ((P (m + 1)).2 ++ List.replicate gk' 0)) := hid (by
         have h1 := G5.out.1.set (i := m) (c := c) (by have := HPL.out; simp; omega)
         have h2 := set_rep (P m).2 gk' c
         rw [HPL.out] at h2
         rw [h2] at h1
         rw [PN.out]
         exact h1)
       have MX9 : Hid (∃ N, MT (w5.setCell ⟨w.heap.size, m, none⟩ (.int .i64 c)) base tb (P (m + 1)).1.length N ∧ Rel N (P (m + 1)).1) := hid (by
         obtain ⟨N, h1, h2⟩ := G5.out.2.1
         exact ⟨N, h1.setE (q := ⟨w.heap.size, m, none⟩) G5.out.1 _, h2⟩)
       have B9 := hid (G5.out.2.2.2.setCell (p := ⟨w.heap.size, m, none⟩) (Nat.le_refl _) (.int .i64 c))
       have Z9 : Hid (base ≤ (w5.setCell ⟨w.heap.size, m, none⟩ (.int .i64 c)).heap.size) := hid (by have := G5.out.2.2.1; simpa [World.setCell] using this)
       go_roundg gk'
       case measure => omega
       case rel => exact ⟨m + 1, by omega, by go_num, EX9, MX9, Z9, B9⟩
     · have em : m = n := by omega
       obtain rfl : gk = 0 := by omega
       have hge : ¬ (m : Int) < n := by omega
       subst em
       obtain ⟨N, hM, hR⟩ := MX.out
       have LS := hid (tlist_c sortOK hM hR (PR.out m).srt (PR.out m).few)
       have LE : Hid (m = R.2.length) := hid (by rw [PE.out]; exact (PL.out m (Nat.le_refl _)).symm)
       clear hM hR MX
       go_wp2_with (first
         | (go_at_call 32; refine LS.out.mono ?_; rintro _ w6 ⟨v6, L6, rfl, ho6, he6, hn6, hb6⟩
            have B6 := hid (BX.out.trans (hb6.mono BX.out.size))
            have E6 := hid (EX.out.later EX.out.lt hb6)
            have H6 := hid he6
            have T6 : Hid (∃ a c, v6 = .slice a L6.length c ∧ Tr w6 a L6) := hid (Tr.of ho6 (fun x hx => (hn6 x hx).r.p) (by have := congrArg List.length he6; rw [List.length_map] at this; have := (PR.out m).few; omega))
            clear ho6 he6 hn6 hb6))
       obtain ⟨a6, c6, rfl, t6⟩ := T6.out
       refine bodyPost_ret (v := .tuple #[.slice a6 L6.length c6, .slice (some ⟨w.heap.size, 0, none⟩) m m]) (by simp [results, Tryz.results21, go_sem]) rfl ⟨a6, c6, L6, some ⟨w.heap.size, 0, none⟩, m, ?_, t6, by rw [PE.out]; exact H6.out, ?_, B6.out⟩
       · rw [← LE.out]
       · rw [PE.out]
         have := E6.out.es
         rw [List.replicate_zero, List.append_nil] at this
         exact this
end Go.Proofs.YtloojakcknnilaaGreat
namespace Go.Proofs.YtloojakcknnilaaGreat
open Go.RowKit Go.ChangeShapes Go.WideShapes Go.ChangeAt Go.Maps Go.Shelf
set_option linter.unusedVariables false
set_option linter.unusedSimpArgs false
set_option maxRecDepth 100000
theorem slice_nil {H : Type} {enc : TypeId × Value → H} {P : Program} {W : World} {t e : TypeId} {v : Value} {fuel : Nat} {y : DataW H × List MemPlace} {sp : Nat → Bool} {hd : Bool} {b0 : Nat} (ht : P.underlying t = some (.slice e))
   (hf : DataW.trod enc P W b0 sp hd fuel t [v] = some y) {a : Option Addr} {n c : Nat} (hv : v = .slice a n c) : a = none → c = 0 := by
 subst hv
 intro ha
 subst ha
 rcases DataW.trod_slice ht hf with ⟨hcs, _⟩ | ⟨x, len, c', elems, rest, n', _, hcs, _⟩
 · simp at hcs
   exact hcs.2
 · simp at hcs
theorem trod_nodeN {H : Type} {enc : TypeId × Value → H} {W : World} {cs : List Value} {fuel : Nat} {x : DataW H × List MemPlace} {sp : Nat → Bool} {hd : Bool} {b0 : Nat} (hf : DataW.trod enc Tryz.prog W b0 sp hd fuel 58 cs = some x) (hsp : ∀ k, sp k = true) :
   ∃ q : Nd, cs = q.cells ∧ q.Ok W ∧ q.Nil := by
 obtain ⟨xs, m, _, _, hlc, hlen, hel⟩ := DataW.trod_struct Tryz.underlying58 hf
 have hct : Tryz.prog.cellsOf 58 = 6 := by kernel_rfl
 have e1 : Tryz.prog.cellsOf 25 = 1 := by kernel_rfl
 have e2 : Tryz.prog.cellsOf 54 = 1 := by kernel_rfl
 have e3 : Tryz.prog.cellsOf 26 = 1 := by kernel_rfl
 have e4 : Tryz.prog.cellsOf 55 = 1 := by kernel_rfl
 have e5 : Tryz.prog.cellsOf 56 = 1 := by kernel_rfl
 rw [hct] at hlc
 match cs, hlc with
 | [c0, c1, c2, c3, c4, c5], _ =>
   match xs, hlen with
   | [x0, x1, x2, x3, x4, x5], _ =>
     have h0 := hel 0 _ rfl
     have h1 := hel 1 _ rfl
     have h2 := hel 2 _ rfl
     have h3 := hel 3 _ rfl
     have h4 := hel 4 _ rfl
     have h5 := hel 5 _ rfl
     simp [e1, e2, e3, e4, e5] at h0 h1 h2 h3 h4 h5
     obtain ⟨n0, q0, _, w0⟩ := DataW.trod_int Tryz.underlying25 h0
     obtain ⟨n1, q1, _, w1⟩ := DataW.trod_int Tryz.underlying54 h1
     obtain ⟨n2, q2, _, w2⟩ := DataW.trod_int Tryz.underlying26 h2
     obtain ⟨n3, q3, _, w3⟩ := DataW.trod_int Tryz.underlying26 h3
     obtain ⟨da, dc, zs, q4, hz⟩ := isB_trod Tryz.underlying55 Tryz.underlying5 (by kernel_rfl) h4 hsp
     obtain ⟨ka, kc, ks, q5, hk⟩ := isKs_trod Tryz.underlying56 h5 hsp
     have nd := slice_nil Tryz.underlying55 h4 q4
     have nk := slice_nil Tryz.underlying56 h5 q5
     simp at q0 q1 q2 q3
     subst q0 q1 q2 q3 q4 q5
     exact ⟨⟨n0, n1, n2, n3, da, dc, zs, ka, kc, ks⟩, rfl, ⟨bd_u32 w0, bd_u8 w1, bd_u16r w2, bd_u16r w3, hz, hk⟩, nd, nk⟩
theorem isNs_trodN {H : Type} {enc : TypeId × Value → H} {W : World} {t : TypeId} {v : Value} {fuel : Nat} {y : DataW H × List MemPlace} {sp : Nat → Bool} {hd : Bool} {b0 : Nat} (ht : Tryz.prog.underlying t = some (.slice 58))
   (hf : DataW.trod enc Tryz.prog W b0 sp hd fuel t [v] = some y) (hsp : ∀ k, sp k = true) : ∃ a cap, ∃ l : List Nd, v = .slice a l.length cap ∧ IsNs W a l ∧ (∀ x ∈ l, x.Nil) ∧ l.length ≤ cap := by
 have hct : Tryz.prog.cellsOf 58 = 6 := by kernel_rfl
 rcases DataW.trod_slice ht hf with ⟨hcs, _⟩ | ⟨x, len, c, elems, rest, n, _, hcs, _, hb, hl, hm, hlen, hel, _⟩
 · simp at hcs
   exact ⟨none, 0, [], hcs, ⟨Nat.zero_le _, (fun x hx => by cases hx), (fun h => absurd h (by simp))⟩, (fun x hx => by cases hx), by simp⟩
 · simp at hcs
   rw [hct] at hel
   have each : ∀ i, i < len → ∃ q : Nd, (∀ j, j < 6 → W.cell? ((x.add (i * 6)).add j) = (q.cells)[j]?) ∧ q.Ok W ∧ q.Nil := by
     intro i hi
     have h1 := hel i (by omega)
     have h2 : elems[i]? = some elems[i] := List.getElem?_eq_getElem (by omega)
     rw [h2, Option.bind_eq_some_iff] at h1
     obtain ⟨cs, hc, hy⟩ := h1
     obtain ⟨q, hq, hw⟩ := trod_nodeN hy hsp
     obtain ⟨_, hl6, hg⟩ := World.cells?_some hc
     refine ⟨q, fun j hj => ?_, hw⟩
     rw [hg j hj, hq]
   obtain ⟨f, hf'⟩ : ∃ f : Nat → Nd, ∀ i, i < len → (∀ j, j < 6 → W.cell? ((x.add (i * 6)).add j) = ((f i).cells)[j]?) ∧ (f i).Ok W ∧ (f i).Nil := by
     classical
     refine ⟨fun i => if h : i < len then (each i h).choose else Nd.no, fun i hi => ?_⟩
     simp only [hi, dif_pos]
     exact (each i hi).choose_spec
   refine ⟨some x, c, (List.range len).map f, by simpa using hcs, ⟨by simp; omega, fun q hq => ?_, fun hp => ?_⟩, fun q hq => ?_, by simp; omega⟩
   · obtain ⟨i, hi, rfl⟩ := List.mem_map.1 hq
     exact (hf' i (List.mem_range.1 hi)).2.1
   · rw [List.length_map, List.length_range] at hp
     obtain ⟨b, off, spot⟩ := x
     have hc0 := (hf' 0 hp).1 0 (by omega)
     have hspot : spot = none := by
       have e0 : ((f 0).cells)[0]? = some (.int .u32 (f 0).fid) := rfl
       rw [e0] at hc0
       simpa [Addr.add] using World.cell?_spot hc0
     subst hspot
     refine ⟨b, off, rfl, fun i hi => ?_⟩
     rw [List.length_map, List.length_range] at hi
     have hadd : ∀ j, ((⟨b, off, none⟩ : Addr).add (i * 6)).add j = ⟨b, off + i * 6 + j, none⟩ := fun j => by unfold Addr.add; split <;> split <;> simp_all <;> omega
     have key := (hf' i hi).1
     have g : ((List.range len).map f).getD i Nd.no = f i := by simp [List.getD, hi]
     rw [g]
     intro j u hu
     have hj : j < 6 := by
       have := (List.getElem?_eq_some_iff.1 hu).1
       simpa [Nd.cells] using this
     have kj := key j hj
     rw [hadd] at kj
     rw [kj]; exact hu
   · obtain ⟨i, hi, rfl⟩ := List.mem_map.1 hq
     exact (hf' i (List.mem_range.1 hi)).2.2
theorem isNs_of {H : Type} {enc : TypeId × Value → H} {W : World} {t : TypeId} {a : Option Addr} {len cap : Nat} {d : DataW H} {p : List MemPlace} (ht : Tryz.prog.underlying t = some (.slice 58))
   (h : DataW.Trod enc Tryz.prog W 0 (fun _ => true) true t (.slice a len cap) d p) : ∃ l : List Nd, l.length = len ∧ (IsNs W a l ∧ ∀ x ∈ l, x.Nil) ∧ len ≤ cap := by
 obtain ⟨fuel, hf⟩ := h
 obtain ⟨a', cap', l, hv, h1, h2, h3⟩ := isNs_trodN ht hf (fun _ => rfl)
 simp only [Value.slice.injEq] at hv
 obtain ⟨rfl, rfl, rfl⟩ := hv
 exact ⟨l, rfl, ⟨h1, h2⟩, h3⟩
end Go.Proofs.YtloojakcknnilaaGreat
namespace Go.Proofs.YtloojakcknnilaaGreat
open Go.RowKit Go.ChangeShapes Go.WideShapes Go.ChangeAt
set_option linter.unusedVariables false
set_option linter.unusedSimpArgs false
set_option maxRecDepth 100000
def TrI (w : World) (a : Option Addr) (l : List Nd) : Prop := IsNs w a l ∧ ∀ x ∈ l, x.Nil
theorem TrI.later {w w' : World} {a : Option Addr} {l : List Nd} (h : TrI w a l) (hb : Below w.heap.size w w') : TrI w' a l := ⟨h.1.later hb, h.2⟩
theorem TrI.tr {w : World} {a : Option Addr} {l : List Nd} (h : TrI w a l) (hr : rightD l = true) : Tr w a l := by
 refine ⟨h.1, fun x hx => ⟨h.2 x hx, ?_⟩⟩
 have R := rightD_rt.1 hr
 have h1 := (nodeOk_iff x).1 (R.ok x hx).1
 have := h1.2.1
 have := h1.2.2.1
 exact ⟨by omega, by omega⟩
set_option maxHeartbeats 4000000 in
theorem tFold_f (a b : Option Addr) (cap cb : Nat) (l : List Nd) (ops : List Rec) (w : World) (h : IsNs w a l) (hm : l.length ≤ 900) (hn : ops.length ≤ 1000) (hr : rightD l = false) :
   Calls Tryz.prog 21 #[.slice a l.length cap, .slice b ops.length cb] w (FoP w ([], List.replicate ops.length 3)) := by
 obtain ⟨n, hnn⟩ : ∃ n, n = ops.length := ⟨_, rfl⟩
 rw [← hnn] at hn ⊢
 obtain ⟨R, RE⟩ : ∃ R : List Nd × List Int, Hid (R = ([], List.replicate n 3)) := ⟨_, hid rfl⟩
 rw [← RE.out]
 have MK := make_errs n (by omega) w
 have bV := below_1 w (.cells ((List.replicate n (0 : Int)).map erV).toArray 30)
 have EV : Hid (ErR (w.alloc (.cells ((List.replicate n (0 : Int)).map erV).toArray 30)) w.heap.size (List.replicate n 0)) := hid (heap_alloc_new w _)
 have RV := hid (rightT_c a cap l _ (h.later bV) (by omega))
 rw [hr] at RV
 have BV := hid bV
 clear h hnn bV hr
 generalize hV : w.alloc (.cells ((List.replicate n (0 : Int)).map erV).toArray 30) = V at *
 clear hV
 go_enter Tryz.func21, Tryz.ntmps21
 go_wp2_with (go_at_call 14; refine RV.out.mono ?_; rintro _ w1 ⟨rfl, hb1⟩; have B1 := hid (BV.out.trans (hb1.mono BV.out.size)); have E1 := hid (EV.out.later EV.out.lt hb1); clear hb1)
 go_loopg [19] n (fun gk i wr => ∃ m : Nat, m + gk = n ∧ i = .int .i64 m ∧ Hid (ErR wr w.heap.size (List.replicate m 3 ++ List.replicate gk 0)) ∧ Hid (Below w.heap.size w wr))
 case atStart => exact ⟨0, by omega, rfl, E1, B1⟩
 case round =>
   obtain ⟨m, hm2, rfl, EX, BX⟩ := hrel
   by_cases hlt : m < n
   · have hltI : (m : Int) < n := by omega
     obtain ⟨gk', rfl⟩ : ∃ gk', gk = gk' + 1 := ⟨gk - 1, by omega⟩
     obtain ⟨c0, z0⟩ := EX.out.cell (i := m) (by simp)
     have EX9 := hid (EX.out.set (i := m) (c := 3) (by simp))
     have EN9 : Hid (ErR (wr.setCell ⟨w.heap.size, m, none⟩ (.int .i64 3)) w.heap.size (List.replicate (m + 1) 3 ++ List.replicate gk' 0)) := hid (by
       have h1 := EX9.out
       have h2 := set_rep (List.replicate m 3) gk' 3
       rw [List.length_replicate] at h2
       rw [h2] at h1
       rw [List.replicate_succ']
       exact h1)
     have B9 := hid (BX.out.setCell (p := ⟨w.heap.size, m, none⟩) (Nat.le_refl _) (.int .i64 3))
     clear EX9
     generalize (List.replicate m (3 : Int) ++ List.replicate (gk' + 1) 0).getD m 0 = z at *
     go_wp2
     go_roundg gk'
     case measure => omega
     case rel => exact ⟨m + 1, by omega, by go_num, EN9, B9⟩
   · have em : m = n := by omega
     obtain rfl : gk = 0 := by omega
     have hge : ¬ (m : Int) < n := by omega
     have ES : Hid (IsEs wr (some ⟨w.heap.size, 0, none⟩) R.2) := hid (by rw [RE.out]; have := EX.out.es; rw [List.replicate_zero, List.append_nil, em] at this; exact this)
     have LE : Hid (n = R.2.length) := hid (by rw [RE.out]; simp)
     go_wp2
     refine bodyPost_ret (v := .tuple #[.slice none 0 0, .slice (some ⟨w.heap.size, 0, none⟩) n n]) (by simp [results, Tryz.results21, go_sem]) rfl ⟨none, 0, [], some ⟨w.heap.size, 0, none⟩, n, ?_, Tr.nil _, by rw [RE.out]; rfl, ES.out, BX.out⟩
     rw [← LE.out]
     rfl
set_option maxHeartbeats 4000000 in
theorem rFold_f (a b : Option Addr) (cap cb : Nat) (l : List Nd) (ops : List Rec) (w : World) (h : IsNs w a l) (hm : l.length ≤ 900) (hn : ops.length ≤ 1000) (hr : rightD l = false) :
   Calls Tryz.prog 22 #[.slice a l.length cap, .slice b ops.length cb] w (FoP w ([], List.replicate ops.length 3)) := by
 obtain ⟨n, hnn⟩ : ∃ n, n = ops.length := ⟨_, rfl⟩
 rw [← hnn] at hn ⊢
 obtain ⟨R, RE⟩ : ∃ R : List Nd × List Int, Hid (R = ([], List.replicate n 3)) := ⟨_, hid rfl⟩
 rw [← RE.out]
 have RC := hid (rRight_c a cap l w h (by omega))
 rw [hr] at RC
 clear h hnn hr
 go_enter Tryz.func22, Tryz.ntmps22
 go_wp2_with (go_at_call 15; refine RC.out.mono ?_; rintro _ w1 ⟨rfl, hb1⟩; have B1 := hid hb1; clear hb1)
 go_loopg [6, 7] n (fun gk v i wr => ∃ m : Nat, m + gk = n ∧ i = .int .i64 m ∧ Hid (OwE wr w.heap.size v (List.replicate m 3)) ∧ Hid (Below w.heap.size w wr))
 case atStart => exact ⟨0, by omega, rfl, hid (OwE.nil _ _), B1⟩
 case round =>
   obtain ⟨m, hm2, rfl, OE, HB⟩ := hrel
   obtain ⟨va, vc, rfl⟩ := OE.out.shape
   by_cases hlt : m < n
   · have hltI : (m : Int) < n := by omega
     have b1 := below_1 wr (.cells #[.int .i64 3] 30)
     have O1 := hid (OE.out.later b1)
     have C1 := hid (HB.out.trans (b1.mono HB.out.size))
     have N1 := hid (heap_alloc_new wr (.cells #[.int .i64 3] 30))
     clear b1
     go_wp2_with (at_builtin; refine wpList_appE _ rfl _ _ rfl w.heap.size _ (List.replicate m 3) rfl O1.out wr.heap.size _ 3 rfl N1.out (by rw [List.length_replicate]; omega) C1.out.size ?_; intro v9 w9 hown9 hgrow9)
     have HB9 := hid (below_grownE C1.out O1.out (Nat.le_refl _) C1.out.size hgrow9)
     have HO9 : Hid (OwE w9 w.heap.size v9 (List.replicate (m + 1) 3)) := hid (by rw [List.replicate_succ']; exact hown9)
     obtain ⟨a9, c9, rfl⟩ := hown9.shape
     clear hown9 hgrow9
     go_roundg (gk - 1)
     case measure => omega
     case rel => exact ⟨m + 1, by omega, by go_num, HO9, HB9⟩
   · have em : m = n := by omega
     subst em
     have hge : ¬ (m : Int) < m := by omega
     obtain ⟨a5, c5, e5, i5⟩ := OE.out.is
     have EE := hid e5
     have IE := hid i5
     clear e5 i5
     go_wp2
     refine bodyPost_ret (v := .tuple #[.slice none 0 0, .slice va (List.replicate m (3 : Int)).length vc]) (by simp [results, Tryz.results22, go_sem]) rfl ⟨none, 0, [], a5, c5, ?_, Tr.nil _, by rw [RE.out]; rfl, by rw [RE.out]; exact IE.out, HB.out⟩
     rw [RE.out, EE.out]
     rfl
theorem FoldL_few {l : List Nd} {ops : List Rec} (h : l.length ≤ 43) : (FoldL l ops).1.length ≤ 43 := by
 unfold FoldL
 split
 · have h1 := foldS_few l h ops ops.length
   rw [List.take_length] at h1
   exact h1
 · simp
theorem FoldL_f {l : List Nd} {ops : List Rec} (hr : rightD l = false) : FoldL (l.map Nd.er) ops = ([], List.replicate ops.length 3) := by unfold FoldL; rw [rightD_er, hr]; rfl
theorem foldI_c (a b : Option Addr) (cap cb : Nat) (l : List Nd) (ops : List Rec) (w : World) (h : TrI w a l) (ho : IsOs w b ops) (hm : l.length ≤ 900) (hn : ops.length ≤ 1000) :
   Calls Tryz.prog 21 #[.slice a l.length cap, .slice b ops.length cb] w (FoP w (FoldL (l.map Nd.er) ops)) := by
 cases hr : rightD l with
 | false => rw [FoldL_f hr]; exact tFold_f a b cap cb l ops w h.1 hm hn hr
 | true => exact tFold_c a b cap cb l ops w (h.tr hr) ho hm hn
theorem rfoldI_c (a b : Option Addr) (cap cb : Nat) (l : List Nd) (ops : List Rec) (w : World) (h : TrI w a l) (ho : IsOs w b ops) (hm : l.length ≤ 900) (hn : ops.length ≤ 1000) :
   Calls Tryz.prog 22 #[.slice a l.length cap, .slice b ops.length cb] w (FoP w (FoldL (l.map Nd.er) ops)) := by
 cases hr : rightD l with
 | false => rw [FoldL_f hr]; exact rFold_f a b cap cb l ops w h.1 hm hn hr
 | true =>
   refine (rFoldN_c a b cap cb l ops w (h.tr hr) ho hm hn).mono ?_
   rintro e w' ⟨a', c', l', b', d', rfl, hn', he, hz, hb⟩
   have ht : Tr w' a' l' := by
     obtain ⟨a7, c7, e7, t7⟩ := hn'.tr (by
       rw [er_len he]
       have h43 : (l.map Nd.er).length ≤ 43 := by rw [List.length_map]; have := (rightD_rt.1 hr).few; omega
       have := FoldL_few (ops := ops) h43
       omega)
     simp only [Value.slice.injEq] at e7
     rw [e7.1]; exact t7
   exact ⟨a', c', l', b', d', rfl, ht, he, hz, hb⟩
theorem TrI.take {w : World} {a : Option Addr} {l : List Nd} (h : TrI w a l) (n : Nat) : TrI w a (l.take n) := by
 refine ⟨⟨by have := h.1.1; rw [List.length_take]; omega, fun x hx => h.1.2.1 x (List.mem_of_mem_take hx), fun hp => ?_⟩, fun x hx => h.2 x (List.mem_of_mem_take hx)⟩
 rw [List.length_take] at hp
 obtain ⟨b, off, e, hc⟩ := h.1.2.2 (by omega)
 refine ⟨b, off, e, fun i hi => ?_⟩
 rw [List.length_take] at hi
 have := hc i (by omega)
 rwa [show (l.take n).getD i Nd.no = l.getD i Nd.no by simp [List.getD, List.getElem?_take, show i < n by omega]]
set_option maxHeartbeats 1000000 in
theorem few6_c (a : Option Addr) (len cap : Nat) (l : List Nd) (w : World) (lz : l.length = len) (lc : len ≤ cap) :
   Calls Tryz.prog 9 #[.slice a len cap] w fun e w' => e = .returned (.slice a (l.take 42).length cap) ∧ w' = w := by
 by_cases q : 42 < len
 · have q1 : (42 : Int) < (len : Int) := by omega
   have q2 : (42 : Int) ≤ (cap : Int) := by omega
   have e : (l.take 42).length = 42 := by rw [List.length_take]; omega
   rw [e]
   clear e lz
   go_enter Tryz.func9, Tryz.ntmps9
   go_wp2
   go_ret
   exact ⟨rfl, rfl⟩
 · have q1 : decide ((42 : Int) < (len : Int)) = false := decide_eq_false (by omega)
   have e : (l.take 42).length = len := by rw [List.length_take]; omega
   rw [e]
   clear e lz
   go_enter Tryz.func9, Tryz.ntmps9
   go_wp2
   go_ret
   exact ⟨rfl, rfl⟩
set_option maxHeartbeats 2000000 in
theorem sameErrs_c (a b : Option Addr) (ca cb : Nat) (es : List Int) (w : World) (h : IsEs w a es) (k : IsEs w b es) (hm : es.length ≤ 100000) :
   Calls Tryz.prog 23 #[.slice a es.length ca, .slice b es.length cb] w fun e w' => e = .returned (.bool true) ∧ Below w.heap.size w w' := by
 have HX := hid h
 have HY := hid k
 obtain ⟨n, hn⟩ : ∃ n, n = es.length := ⟨_, rfl⟩
 have HN := hid hn
 rw [← hn] at hm ⊢
 clear h k hn
 go_enter Tryz.func23, Tryz.ntmps23
 go_wp2
 go_loopg [5] n (fun gk i wr => ∃ m : Nat, m + gk = n ∧ i = .int .i64 m ∧ Hid (Below w.heap.size w wr))
 case atStart => exact ⟨0, by omega, rfl, hid (Below.refl _ _)⟩
 case round =>
   obtain ⟨m, hm2, rfl, HB⟩ := hrel
   by_cases hlt : m < n
   · have hltI : (m : Int) < n := by omega
     have h1 : m < es.length := by rw [← HN.out]; exact hlt
     obtain ⟨b1, o1, rfl, hc1⟩ := HX.out (by omega)
     obtain ⟨b2, o2, rfl, hc2⟩ := HY.out (by omega)
     have p0 := cell_later HB.out (hc1 m h1)
     have q0 := cell_later HB.out (hc2 m h1)
     clear hc1 hc2 h1
     unfold erV at p0 q0
     generalize es.getD m 0 = x at *
     go_wp2
     go_region
     go_wp2
     go_roundg (gk - 1)
     case measure => omega
     case rel => exact ⟨m + 1, by omega, by go_num, hid (Below.drew HB.out)⟩
   · have hge : ¬ (m : Int) < n := by omega
     go_wp2
     go_ret
     exact ⟨rfl, HB.out⟩
end Go.Proofs.YtloojakcknnilaaGreat
