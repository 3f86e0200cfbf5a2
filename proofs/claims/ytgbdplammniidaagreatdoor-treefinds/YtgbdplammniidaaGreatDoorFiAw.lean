/-
  The package tree: slices.DeleteFunc of the entry of a name.
  The package tree: enter, strike: an entry more, an entry less.
  The package tree: what an operation on a table answers and leaves; store.
-/
import Derived.Test.YtgbdplammniidaaGreatDoorFiAu
import Derived.Test.YtgbdplammniidaaGreatDoorFiAv
namespace Go.Proofs.YtgbdplammniidaaGreatDoor
open Go.RowKit Go.ChangeShapes Go.WideShapes Go.ChangeAt Go.Maps Go.Shelf
set_option linter.unusedVariables false
set_option linter.unusedSimpArgs false
set_option maxRecDepth 100000
set_option maxHeartbeats 2000000 in
theorem stIx_c (g : Nat) (a : Option Addr) (cap : Nat) (l : List Kd) (s : ByteArray) (w : World) (h : IsKs w a l) (hg : w.heap[g]? = some (.cells #[.string s] 9)) (hm : l.length ≤ 100000) :
   Calls Tryz.prog 42 #[.slice a l.length cap, .func (.func 119) #[] #[.pointer (some ⟨g, 0, none⟩)]] w fun e w' => e = .returned (.int .i64 (enI l s)) ∧ Below w.heap.size w w' := by
 have H := hid h
 have HG := hid hg
 obtain ⟨R, hR⟩ : ∃ R, R = enI l s := ⟨_, rfl⟩
 rw [← hR]
 have HR := hid hR
 obtain ⟨n, hn⟩ : ∃ n, n = l.length := ⟨_, rfl⟩
 have HN := hid hn
 rw [← hn] at hm ⊢
 clear h hg hR hn
 go_enter Tryz.func42, Tryz.ntmps42
 go_wp2
 go_loopg [8] n (fun gk i wr => ∃ m : Nat, m + gk = n ∧ i = .int .i64 m ∧ Hid (Below w.heap.size w wr) ∧ Hid (∀ i, i < m → (decide ((l.getD i Kd.no).nm = s)) = false))
 case atStart => exact ⟨0, by omega, rfl, hid (Below.refl _ _), hid (fun i hi => by omega)⟩
 case round =>
   obtain ⟨m, hm2, rfl, HB, HF⟩ := hrel
   by_cases hlt : m < n
   · have hltI : (m : Int) < n := by omega
     have hln : m < l.length := by rw [← HN.out]; exact hlt
     obtain ⟨b, off, rfl, _⟩ := H.out.2.2 (by omega)
     obtain ⟨k0, k1⟩ := (H.out.later HB.out).at (i := m) hln
     have YES : Hid ((decide ((l.getD m Kd.no).nm = s)) = true → R = m) := hid (fun e => by rw [HR.out]; unfold enI; rw [findIdx_at (d := Kd.no) hln HF.out e])
     have NX : Hid ((decide ((l.getD m Kd.no).nm = s)) = false → ∀ i, i < m + 1 → (decide ((l.getD i Kd.no).nm = s)) = false) := hid (fun e i hi => by
       by_cases q : i = m
       · rw [q]; exact e
       · exact HF.out i (by omega))
     have c0 : wr.cell? ⟨g, 0, none⟩ = some (.string s) := cell_of_row2 ((HB.out.block _ (lt_blkR HG.out)).trans HG.out) 0 rfl
     have hgl : g < wr.heap.size := lt_blkR ((HB.out.block _ (lt_blkR HG.out)).trans HG.out)
     clear hln
     generalize l.getD m Kd.no = x at *
     have BX := hid (HB.out.trans ((below_1 wr (.cells #[.string x.nm, .int .u32 x.fid] 61)).mono HB.out.size))
     cases q : (decide ((x).nm = s)) with
     | true =>
       have ET := hid (YES.out q)
       clear YES NX HF
       rw [← ba_eq] at q
       go_wp2
       go_ret
       exact ⟨by rw [ET.out]; rfl, BX.out⟩
     | false =>
       have EX := hid (NX.out q)
       clear YES NX HF
       rw [← ba_eq] at q
       go_wp2
       go_roundg (gk - 1)
       case measure => omega
       case rel => exact ⟨m + 1, by omega, by go_num, BX, EX⟩
   · have hge : ¬ (m : Int) < n := by omega
     have EF : Hid (R = -1) := hid (by rw [HR.out]; unfold enI; rw [findIdx_no (d := Kd.no) (fun i hi => HF.out i (by have := HN.out; omega))])
     go_wp2
     go_ret
     exact ⟨by rw [EF.out]; rfl, HB.out⟩
set_option maxHeartbeats 800000 in
theorem strike1_c (x : Kd) (s : ByteArray) (g : Nat) (w : World) (hg : w.heap[g]? = some (.cells #[.string s] 9)) : Calls Tryz.prog 119 #[x.val, .pointer (some ⟨g, 0, none⟩)] w fun e w' => e = .returned (.bool (decide (x.nm = s))) ∧ Below w.heap.size w w' := by
 have b0 := below_1 w (.cells #[.string x.nm, .int .u32 x.fid] 61)
 have h0 := heap_alloc_new w (.cells #[.string x.nm, .int .u32 x.fid] 61)
 have c0 : (w.alloc (.cells #[.string x.nm, .int .u32 x.fid] 61)).cell? ⟨w.heap.size, 0, none⟩ = some (.string x.nm) := cell_of_row2 h0 0 rfl
 have c1 : (w.alloc (.cells #[.string x.nm, .int .u32 x.fid] 61)).cell? ⟨g, 0, none⟩ = some (.string s) := cell_of_row2 ((b0.block _ (lt_blkR hg)).trans hg) 0 rfl
 have B0 := hid b0
 obtain ⟨d, hd⟩ : ∃ d, d = decide (x.nm = s) := ⟨_, rfl⟩
 rw [← hd]
 rw [← ba_eq] at hd
 have hd2 := hd.symm
 clear b0 h0 hg hd
 unfold Kd.val
 go_enter Tryz.func119, Tryz.ntmps119
 go_wp2
 go_ret
 exact ⟨rfl, B0.out⟩
theorem CRow.set1 {w : World} {g cap : Nat} {xs : List Value} (h : CRow w g cap xs) {o : Nat} (v : Value) : CRow (w.setCell ⟨g, o, none⟩ v) g cap (xs.set o v) := by
 obtain ⟨cur, h1, h2, h3, h4⟩ := h
 refine ⟨_, heap_setCell_same w g o cur _ v h1, h2, by rw [Array.size_setIfInBounds]; exact h3, ?_⟩
 rw [Array.toList_setIfInBounds, List.length_set, List.take_set, h4]
theorem grown_set (w : World) (g o : Nat) (v : Value) : w.grownBy (w.setCell ⟨g, o, none⟩ v) (some g) := ⟨rfl, rfl, rfl, by simp, fun i hi hn => Below.heap_setCell w ⟨g, o, none⟩ v i (fun e => hn (by rw [e]))⟩
theorem kcells_set (L : List Kd) (k : Nat) (x : Kd) : ((kcells L).set (k * 2) (.string x.nm)).set (k * 2 + 1) (.int .u32 x.fid) = kcells (L.set k x) := by
 induction L generalizing k with
 | nil => rfl
 | cons y t ih =>
   cases k with
   | zero => rfl
   | succ k =>
     rw [List.set_cons_succ, kcells_cons, kcells_cons, ← ih k]
     have e1 : (k + 1) * 2 = k * 2 + 1 + 1 := by omega
     rw [e1]
     rfl
theorem set_mid (P R : List Kd) (z x : Kd) : (P ++ z :: R).set P.length x = P ++ x :: R := by simp
theorem srt_names {l : List Kd} (h : KSrt l) {A B : List Kd} {q : Kd} (e : l = A ++ q :: B) : ∀ x ∈ B, x.nm ≠ q.nm := fun x hx e2 => by
 subst e
 have h2 := (List.pairwise_append.1 h).2.1
 have := (List.pairwise_cons.1 h2).1 x hx
 rw [e2, leS_refl] at this
 cases this
theorem srt_split {l : List Kd} (h : KSrt l) {s : ByteArray} {q : Kd} (hq : kq l s = some q) : ∃ A B, l = A ++ q :: B ∧ enI l s = (A.length : Int) ∧ entL l s 0 = A ++ B ∧ ∀ x ∈ B, decide (x.nm = s) = false := by
 obtain ⟨i, e1, e2, e3⟩ := en_some hq
 have hqn := (kq_some hq).2
 refine ⟨l.take i, l.drop (i + 1), ?_, by rw [e1, List.length_take, Nat.min_eq_left (by omega)], ?_, ?_⟩
 · rw [← e3, List.getD, List.getElem?_eq_getElem e2]
   simp
 · have hl : l = l.take i ++ q :: l.drop (i + 1) := by
     rw [← e3, List.getD, List.getElem?_eq_getElem e2]
     simp
   have hB := srt_names h hl
   have hA : ∀ x ∈ l.take i, x.nm ≠ s := fun x hx e => by
     rw [hl] at h
     have := (List.pairwise_append.1 h).2.2 x hx q (List.mem_cons_self ..)
     rw [e, hqn, leS_refl] at this
     cases this
   rw [entL_zero]
   conv => lhs; rw [hl]
   rw [List.filter_append, List.filter_cons]
   have eq : decide (q.nm ≠ s) = false := by rw [hqn]; simp
   rw [eq]
   rw [List.filter_eq_self.2 (fun x hx => by simpa using hA x hx), if_neg (by simp), List.filter_eq_self.2 (fun x hx => by have := hB x hx; rw [hqn] at this; simpa using this)]
 · have hl : l = l.take i ++ q :: l.drop (i + 1) := by
     rw [← e3, List.getD, List.getElem?_eq_getElem e2]
     simp
   intro x hx
   have := srt_names h hl x hx
   rw [hqn] at this
   simpa using this
theorem CRow.clear1 {w : World} {g cap : Nat} {P : List Kd} {z : Kd} (h : CRow w g cap (kcells (P ++ [z]))) (c : Nat) (ty : TypeId) :
   ∃ w', (Builtin.clear_ #[37] ty #[.slice (some ⟨g, P.length * 2, none⟩) 1 c]).run Tryz.prog w = .ok (.tuple #[]) w' ∧ CRow w' g cap (kcells (P ++ [Kd.no])) ∧ w.grownBy w' (some g) := by
 have hle := h.le
 rw [kcells_len] at hle
 simp only [List.length_append, List.length_singleton] at hle
 obtain ⟨cur, hg, hfit, hR, hG, _⟩ := h.write (o := P.length * 2) (cs := Kd.no.cells) (by rw [kcells_len]; simp only [List.length_append, List.length_singleton]; omega) (by show P.length * 2 + 2 ≤ _; omega)
 refine ⟨_, ?_, ?_, hG⟩
 · have hst := run_storeCells_at Tryz.prog g (P.length * 2) 61 Kd.no.cells 0 cur w hg (by simpa using hfit) (kid_one Kd.no)
   obtain ⟨i, hi, hz0, _, _⟩ := info_kid
   have hzv : ∀ W, (zeroValue 61).run Tryz.prog W = .ok Kd.no.val W := fun W => by simp [zeroValue, typeInfo, hi, hz0]
   have hzc : (Builtin.zeroCells Kd.no.val.cells 1).toList = Kd.no.cells := by kernel_rfl
   simp [Builtin.clear_, run_underlying Tryz.underlying37, hzv, hzc, hst]
 · have t1 : (kcells (P ++ [z])).take (P.length * 2) = kcells P := by
     rw [(kcells_split (P ++ [z]) P.length (by simp)).1, List.take_left']
     rfl
   have t2 : (kcells (P ++ [z])).drop (P.length * 2 + Kd.no.cells.length) = [] := List.drop_of_length_le (by rw [kcells_len]; simp only [List.length_append, List.length_singleton]; show _ ≤ P.length * 2 + 2; omega)
   rw [t1, t2, List.append_nil] at hR
   rw [kcells_append]
   exact hR
theorem CRow.less {w : World} {g cap : Nat} {P : List Kd} {z : Kd} (h : CRow w g cap (kcells (P ++ [z]))) : CRow w g cap (kcells P) := by
 obtain ⟨cur, h1, h2, h3, h4⟩ := h
 refine ⟨cur, h1, h2, h3, ?_⟩
 have : (kcells (P ++ [z])).take (kcells P).length = kcells P := by rw [kcells_append, List.take_left']; rfl
 rw [← h4, List.take_take, kcells_len, kcells_len] at this
 rw [kcells_len]
 rw [Nat.min_eq_left (by simp only [List.length_append, List.length_singleton]; omega)] at this
 exact this
set_option maxHeartbeats 1000000 in
theorem delete_none (a : Option Addr) (cap : Nat) (l : List Kd) (s : ByteArray) (w : World) (base gb : Nat) (h : OwK w base (.slice a l.length cap) l) (hw : ∀ q ∈ l, q.Wf) (hg : w.heap[gb]? = some (.cells #[.string s] 9)) (hq : kq l s = none) (hm : l.length ≤ 500) :
   Calls Tryz.prog 118 #[.slice a l.length cap, .func (.func 119) #[] #[.pointer (some ⟨gb, 0, none⟩)]] w (InsP w base (.slice a l.length cap) l) := by
 obtain ⟨a', cap', e', hK, _, hnil⟩ := isKs_own h hw (by omega)
 cases e'
 have IC := hid (stIx_c gb a cap l s w hK hg (by omega))
 rw [en_none hq] at IC
 have FIN : Hid (∀ W, Below w.heap.size w W → InsP w base (.slice a l.length cap) l (.returned (.slice a l.length cap)) W) := hid (fun W hW => ⟨a, cap, rfl, h.later hW, hnil, grown_of hW _, fun b e => .inl (by cases a with | none => cases e | some ad => exact e)⟩)
 clear h hK hg hw hq hnil
 go_enter Tryz.func118, Tryz.ntmps118
 go_wp2_with (go_at_call 42; refine IC.out.mono ?_; rintro _ w1 ⟨rfl, hb1⟩)
 go_ret
 exact FIN.out w1 hb1
set_option maxHeartbeats 4000000 in
theorem delete_some (gr cap : Nat) (l : List Kd) (s : ByteArray) (w : World) (base gb : Nat) (h : OwK w base (.slice (some ⟨gr, 0, none⟩) l.length cap) l) (hs : KSrt l) (hw : ∀ q ∈ l, q.Wf) (hg : w.heap[gb]? = some (.cells #[.string s] 9)) {q : Kd} (hq : kq l s = some q) (hm : l.length ≤ 500) :
   Calls Tryz.prog 118 #[.slice (some ⟨gr, 0, none⟩) l.length cap, .func (.func 119) #[] #[.pointer (some ⟨gb, 0, none⟩)]] w (InsP w base (.slice (some ⟨gr, 0, none⟩) l.length cap) (entL l s 0)) := by
 obtain ⟨a', cap', e', hK, _, hnil⟩ := isKs_own h hw (by omega)
 cases e'
 obtain ⟨hbg, hlc, hR⟩ := h.row
 have hne : gb ≠ gr := fun e => by
   obtain ⟨cur, hc, _⟩ := hR
   rw [e, hc] at hg
   cases hg
 have IC := hid (stIx_c gb _ cap l s w hK hg (by omega))
 obtain ⟨A, B, e1, e2, e3, e4⟩ := srt_split hs hq
 rw [e2] at IC
 have HG := hid hg
 have R0 : Hid (∀ W, Below w.heap.size w W → CRow W gr cap (kcells (A ++ q :: B))) := hid (fun W hW => by rw [← e1]; exact hR.keep (hW.block gr hR.lt))
 have FIN : Hid (∀ W, w.grownBy W (some gr) → CRow W gr cap (kcells (A ++ B)) → InsP w base (.slice (some ⟨gr, 0, none⟩) l.length cap) (entL l s 0) (.returned (.slice (some ⟨gr, 0, none⟩) (A ++ B).length cap)) W) := hid (fun W hG hC => by
   rw [e3]
   exact ⟨_, cap, rfl, hC.own hbg, fun e => (by cases e), hG, fun b e => .inl e⟩)
 have h63 : (cap : Int) ≤ 9223372036854775807 := by
   obtain ⟨cur, _, h5, _⟩ := hR
   unfold maxLen at h5; omega
 have hln : l.length = A.length + 1 + B.length := by rw [e1]; simp; omega
 have SC := hid (fun x W (hW : W.heap[gb]? = some (.cells #[.string s] 9)) => strike1_c x s gb W hW)
 have HE4 := hid e4
 obtain ⟨n, hn⟩ : ∃ n, n = l.length := ⟨_, rfl⟩
 rw [← hn] at hm hlc hln IC FIN ⊢
 generalize entL l s 0 = L' at *
 have HLN := hid hln
 have hA5 : A.length ≤ 500 := by omega
 clear h hK hg hR e1 e2 e3 e4 hs hq hw hn hbg hnil hln
 go_enter Tryz.func118, Tryz.ntmps118
 go_wp2_with (go_at_call 42; refine IC.out.mono ?_; rintro _ w1 ⟨rfl, hb1⟩)
 have R1 := hid (R0.out w1 hb1)
 have G1 := hid (grown_of hb1 (some gr))
 have hAI : ¬ ((A.length : Int) = -1) := by omega
 clear hb1 IC R0
 go_wp2
 go_loopg [5, 6] B.length (fun gk vi vj wr => ∃ (P R : List Kd) (z : Kd) (k : Nat), vi = .int .i64 k ∧ vj = .int .i64 ((k : Int) + 1) ∧ Hid (k = P.length) ∧ Hid (R.length = gk) ∧ Hid (n = k + 1 + gk) ∧ Hid (P ++ R = A ++ B) ∧ Hid (∀ x ∈ R, decide (x.nm = s) = false) ∧ Hid (CRow wr gr cap (kcells (P ++ z :: R))) ∧ Hid (w.grownBy wr (some gr)))
 case atStart => exact ⟨A, B, q, A.length, rfl, by go_num, hid rfl, hid rfl, hid HLN.out, hid rfl, HE4, R1, G1⟩
 case round =>
   obtain ⟨P, R, z, k, rfl, rfl, HK, HRL, HNK, HPR, HNE, HC, HGr⟩ := hrel
   cases R with
   | nil =>
     have hkn : n = k + 1 := by have h1 := HRL.out; have h2 := HNK.out; simp only [List.length_nil] at h1; omega
     have hge : ¬ (k : Int) + 1 < n := by omega
     rw [List.append_nil] at HPR
     obtain ⟨w5, CE, R5, G5⟩ := HC.out.clear1 (cap - k) 0
     rw [← HK.out] at CE
     have FF := hid (FIN.out w5 (grown_trans HGr.out G5) (by rw [← HPR.out]; exact R5.less))
     rw [← HPR.out, ← HK.out] at FF
     clear R5 G5
     subst hkn
     have hck : ¬ (cap = k) := by omega
     have hkI : (k : Int) ≤ (k : Int) + 1 := by omega
     have hkc : (k : Int) ≤ cap := by omega
     clear HLN HNK HRL
     go_wp2
     go_ret
     exact FF.out
   | cons x R' =>
     have hk := HK.out
     have hRl := HRL.out
     have hnk := HNK.out
     simp only [List.length_cons] at hRl
     have hlt : (k : Int) + 1 < n := by omega
     have hgx : (P ++ z :: x :: R').getD (k + 1) Kd.no = x := by
       rw [List.getD, hk, List.getElem?_append_right (by omega)]
       simp
     have hlen : (P ++ z :: x :: R').length = k + 2 + R'.length := by simp [hk]; omega
     have g0 : (kcells (P ++ z :: x :: R'))[(k + 1) * 2]? = some (.string x.nm) := by
       have := kcells_get (P ++ z :: x :: R') (k + 1) 0 (by omega) (by omega)
       rw [hgx] at this
       exact this
     have g1 : (kcells (P ++ z :: x :: R'))[(k + 1) * 2 + 1]? = some (.int .u32 x.fid) := by
       have := kcells_get (P ++ z :: x :: R') (k + 1) 1 (by omega) (by omega)
       rw [hgx] at this
       exact this
     have k0 := HC.out.cell g0
     have k1 := HC.out.cell g1
     have hkc : k + 1 < n := by omega
     have htn : ((k : Int) + 1).toNat = k + 1 := by omega
     have hp0 : (0 : Int) ≤ (k : Int) + 1 := by omega
     have hgk : 0 < gk := by omega
     clear g0 g1 hgx hlen hk hRl hnk
     go_upto_region 8 with fail
     have bV := below_1 wr (.cells #[.string x.nm, .int .u32 x.fid] 61)
     have hV := heap_alloc_new wr (.cells #[.string x.nm, .int .u32 x.fid] 61)
     have hgbw : wr.heap[gb]? = some (.cells #[.string s] 9) := (HGr.out.block gb (lt_blkR HG.out) (fun e => hne (Option.some.inj e))).trans HG.out
     have S1 := hid (SC.out x _ ((bV.block gb (lt_blkR hgbw)).trans hgbw))
     rw [HNE.out x (List.mem_cons_self ..)] at S1
     simp only [Kd.val] at S1
     have RV := hid (HC.out.keep (bV.block gr HC.out.lt))
     have GV := hid (grown_trans HGr.out (grown_of bV (some gr)))
     have hgr : gr < wr.heap.size := HC.out.lt
     clear bV k0 k1 hgbw
     generalize wr.alloc (.cells #[.string x.nm, .int .u32 x.fid] 61) = V at *
     generalize wr.heap.size = g0 at *
     have x0 : V.cell? ⟨g0, 0, none⟩ = some (.string x.nm) := cell_of_row2 hV 0 rfl
     have x1 : V.cell? ⟨g0, 1, none⟩ = some (.int .u32 x.fid) := cell_of_row2 hV 1 rfl
     have HV := hid hV
     clear hV
     go_upto_region 9 with (go_at_call 119; refine S1.out.mono ?_; rintro _ w3 ⟨rfl, hb3⟩
                            have y0 : w3.cell? ⟨g0, 0, none⟩ = some (.string x.nm) := cell_of_row2 ((hb3.block _ (lt_blkR HV.out)).trans HV.out) 0 rfl
                            have y1 : w3.cell? ⟨g0, 1, none⟩ = some (.int .u32 x.fid) := cell_of_row2 ((hb3.block _ (lt_blkR HV.out)).trans HV.out) 1 rfl
                            have R3 := hid (RV.out.keep (hb3.block gr RV.out.lt))
                            have G3 := hid (grown_trans GV.out (grown_of hb3 (some gr)))
                            clear hb3 x0 x1)
     have hgz : (P ++ z :: x :: R').getD k Kd.no = z := by
       rw [List.getD, HK.out, List.getElem?_append_right (Nat.le_refl _)]
       simp
     have hlz : k < (P ++ z :: x :: R').length := by rw [HK.out]; simp
     have z0 : (kcells (P ++ z :: x :: R'))[k * 2]? = some (.string z.nm) := by
       have := kcells_get (P ++ z :: x :: R') k 0 hlz (by omega)
       rw [hgz] at this
       exact this
     have z1 : (kcells (P ++ z :: x :: R'))[k * 2 + 1]? = some (.int .u32 z.fid) := by
       have := kcells_get (P ++ z :: x :: R') k 1 hlz (by omega)
       rw [hgz] at this
       exact this
     have r0 := R3.out.cell z0
     have r1 := R3.out.cell z1
     have fz : ∀ i, w3.frozen? ⟨gr, i, none⟩ = false := R3.out.fz
     have hkN : (k : Int) < n := by omega
     have R4 : Hid (CRow ((w3.setCell ⟨gr, k * 2, none⟩ (.string x.nm)).setCell ⟨gr, k * 2 + 1, none⟩ (.int .u32 x.fid)) gr cap (kcells ((P ++ [x]) ++ x :: R'))) := hid (by
       have := (R3.out.set1 (o := k * 2) (.string x.nm)).set1 (o := k * 2 + 1) (.int .u32 x.fid)
       rw [kcells_set] at this
       have e : (P ++ z :: x :: R').set k x = (P ++ [x]) ++ x :: R' := by rw [HK.out, set_mid]; simp
       rw [e] at this
       exact this)
     have G4 : Hid (w.grownBy ((w3.setCell ⟨gr, k * 2, none⟩ (.string x.nm)).setCell ⟨gr, k * 2 + 1, none⟩ (.int .u32 x.fid)) (some gr)) := hid (grown_trans (grown_trans G3.out (grown_set ..)) (grown_set ..))
     have N4 : Hid (∀ y ∈ R', decide (y.nm = s) = false) := hid (fun y hy => HNE.out y (List.mem_cons_of_mem _ hy))
     have P4 : Hid (P ++ [x] ++ R' = A ++ B) := hid (by rw [← HPR.out]; simp)
     have L4 : Hid (k + 1 = (P ++ [x]).length) := hid (by rw [HK.out]; simp)
     have Q4 : Hid (R'.length = gk - 1) := hid (by have := HRL.out; simp only [List.length_cons] at this; omega)
     have M4 : Hid (n = k + 1 + 1 + (gk - 1)) := hid (by have := HNK.out; omega)
     clear hgz hlz z0 z1
     go_wp2
     go_roundg (gk - 1)
     case measure => omega
     case rel => exact ⟨P ++ [x], R', x, k + 1, by go_num, by go_num, L4, Q4, M4, P4, N4, R4, G4⟩
theorem ins_at (s : ByteArray) (g : Int) : ∀ (l : List Kd) (i : Nat), i ≤ l.length → (∀ j, j < i → ltK (l.getD j Kd.no) s = true) → (∀ j, i ≤ j → j < l.length → ltK (l.getD j Kd.no) s = false) → kq l s = none → insR Kd.nm leS ⟨s, g⟩ l = l.take i ++ ⟨s, g⟩ :: l.drop i
 | [], i, _, _, _, _ => by simp [insR]
 | x :: t, 0, _, _, h2, hq => by
   have h0 : ltK x s = false := h2 0 (Nat.le_refl _) (by simp)
   rw [ltK_leS] at h0
   have h1 : leS s x.nm = true := by cases q : leS s x.nm with | true => rfl | false => rw [q] at h0; cases h0
   unfold insR
   rw [if_pos h1, filter_all Kd.nm (fst_ne hq)]
   rfl
 | x :: t, i + 1, hi, h1, h2, hq => by
   have h0 : ltK x s = true := h1 0 (by omega)
   rw [ltK_leS] at h0
   have h3 : leS s x.nm = false := by cases q : leS s x.nm with | false => rfl | true => rw [q] at h0; cases h0
   have hq' : kq t s = none := by
     unfold kq at hq ⊢
     rw [fnd_cons] at hq
     split at hq
     · cases hq
     · exact hq
   unfold insR
   rw [if_neg (by simp [h3]), ins_at s g t i (by simpa using hi) (fun j hj => h1 (j + 1) (by omega)) (fun j h4 h5 => h2 (j + 1) (by omega) (by simpa using h5)) hq']
   rfl
where fst_ne {l : List Kd} {s : ByteArray} (h : kq l s = none) : ∀ y ∈ l, y.nm ≠ s := fnd_none Kd.nm h
theorem ka_shape {w : World} {base c : Nat} {l : List Kd} {a : Option Addr} (h : OwK w base (.slice a l.length c) l) : a = none ∧ l = [] ∨ ∃ g, a = some ⟨g, 0, none⟩ := by
 rcases h.2 with ⟨e1, e2⟩ | ⟨g, cap, cur, e1, _⟩
 · simp only [Value.slice.injEq] at e1
   exact .inl ⟨e1.1, List.eq_nil_of_length_eq_zero e2⟩
 · simp only [Value.slice.injEq] at e1
   exact .inr ⟨g, e1.1⟩
theorem insert_c (a : Option Addr) (cap : Nat) (l : List Kd) (i : Nat) (y : Kd) (w : World) (base g : Nat) (h : OwK w base (.slice a l.length cap) l) (hg : w.heap[g]? = some (.cells y.cells.toArray 61 (0, 0))) (hne : ∀ gr o s, a = some ⟨gr, o, s⟩ → g ≠ gr) (hb : base ≤ w.heap.size) (hi : i ≤ l.length) (hm : l.length ≤ 500) :
   Calls Tryz.prog 117 #[.slice a l.length cap, .int .i64 i, .slice (some ⟨g, 0, none⟩) 1 1] w (InsP w base (.slice a l.length cap) (l.take i ++ y :: l.drop i)) := by
 by_cases e : i = l.length
 · subst e
   rw [List.take_length, List.drop_length]
   exact insert_end a cap l y w base g h hg hb hm
 · rcases ka_shape h with ⟨_, e2⟩ | ⟨gr, e2⟩
   · subst e2
     simp at hi e
     omega
   · subst e2
     obtain ⟨_, hlc, _⟩ := h.row
     by_cases q : l.length + 1 ≤ cap
     · exact insert_room gr cap l i y w base g h hg (hne gr 0 none rfl) (by omega) q hm
     · have ec : cap = l.length := by omega
       subst ec
       exact insert_grow gr l i y w base g h hg hb (by omega) hm
theorem own_kb (x : Nd) (n c : Nat) : (Value.slice x.ka n c).ownBlock = kb x := by
 unfold kb
 cases x.ka <;> rfl
theorem MT.lie' {w w' : World} {base tb m : Nat} {N : Tab} (h : MT w base tb m N) {f : Int} {p : Addr} {x : Nd} (hN : N f = some (p, x)) (hg : w.grownBy w' (Value.slice x.ka x.ks.length x.kc).ownBlock) : Lie w' p x := by
 obtain ⟨_, h2, h3, _⟩ := h.nd f p x hN
 have h2' := h2
 obtain ⟨_, cs, hb, _⟩ := h2
 exact h2'.keep (hg.block _ (lt_blkR hb) (row_ne (b := 0) h3 hb (fun _ e => by cases e)))
theorem MT.size {w : World} {base tb m : Nat} {N : Tab} (h : MT w base tb m N) : base ≤ w.heap.size := by
 have h1 := h.low
 have h2 := h.map.lt
 omega
def EntP (w : World) (base tb m : Nat) (N : Tab) (f : Int) (p : Addr) (x : Nd) (L : List Kd) (e : Ending) (w' : World) : Prop := e = .returned (.tuple #[]) ∧ (∃ a c, MT w' base tb m (updT N f p (x.kids a c L))) ∧ Below base w w' ∧ KeepT w w'
theorem MT.entP {w w2 w' : World} {base tb m : Nat} {N : Tab} (h : MT w2 base tb m N) {f : Int} {p : Addr} {x : Nd} (hN : N f = some (p, x)) (hb : Below base w w2) (hkp : KeepT w w2) {L : List Kd} {a : Option Addr} {c : Nat} (hw : ∀ q ∈ L, q.Wf) (hl : L.length ≤ 1000)
   (hO : OwK w' base (.slice a L.length c) L) (hn : a = none → c = 0) (hg : w2.grownBy w' (Value.slice x.ka x.ks.length x.kc).ownBlock) (ha : ∀ b, a.map (·.block) = some b → (Value.slice x.ka x.ks.length x.kc).ownBlock = some b ∨ w2.heap.size ≤ b) :
   EntP w base tb m N f p x L (.returned (.tuple #[])) (w'.setCell ⟨p.block, p.off + 5, none⟩ (.slice a L.length c)) := by
 obtain ⟨h1, _, h3, _⟩ := h.nd f p x hN
 have hl3 := h.lie' hN hg
 refine ⟨rfl, ⟨a, c, h.kids hN hg hO hn hw hl (fun b hb2 => by rw [← own_kb x x.ks.length x.kc]; exact ha b hb2)⟩, ?_, ?_⟩
 · exact (below_grownK hb h3.2.2.2 (Nat.le_refl _) h.size hg).setCell (p := ⟨p.block, p.off + 5, none⟩) h1 _
 · obtain ⟨_, cs3, hb3, _⟩ := hl3
   refine KeepT.trans hkp (KeepT.trans ?_ (KeepT.set hb3 _ _))
   intro i cs t fr e h5 h6
   exact (hg.block i (lt_blkR e) (row_ne (b := 0) h3 e (fun cs2 e2 => by cases e2; exact h6 rfl))).trans e
set_option maxHeartbeats 2000000 in
theorem tenter_c {w : World} {base tb m : Nat} {N : Tab} (h : MT w base tb m N) {f : Int} {p : Addr} {x : Nd} (hN : N f = some (p, x)) {s : ByteArray} {g : Int} (hs : KSrt x.ks) (hq : kq x.ks s = none) (hm : x.ks.length ≤ 500) (hsz : s.size ≤ maxLen) (hg0 : g ≠ 0) (hg1 : 0 ≤ g ∧ g < 4294967296) :
   Calls Tryz.prog 99 #[.pointer (some p), .string s, .int .u32 g] w (EntP w base tb m N f p x (entL x.ks s g)) := by
 obtain ⟨_, hl, hw, _⟩ := h.nd f p x hN
 have hsp := hl.1
 obtain ⟨_, _, _, _, _, y5⟩ := hl.ndc.all
 have BC := hid (bsearch_c x.ka x.kc x.ks s w hw.r.ok.2.2.2.2.2 hs (by omega))
 have HQ : Hid (∀ i, i ≤ x.ks.length → (∀ j, j < i → ltK (x.ks.getD j Kd.no) s = true) → (∀ j, i ≤ j → j < x.ks.length → ltK (x.ks.getD j Kd.no) s = false) → x.ks.take i ++ ⟨s, g⟩ :: x.ks.drop i = entL x.ks s g) := hid (fun i h1 h2 h3 => by rw [entL_insR x.ks s hg0, ins_at s g x.ks i h1 h2 h3 hq])
 have HW : Hid (∀ q ∈ entL x.ks s g, q.Wf) := hid (fun q hq2 => by
   rw [entL_insR x.ks s hg0] at hq2
   rcases insR_mem Kd.nm leS hq2 with e | e
   · rw [e]; exact ⟨hsz, hg1⟩
   · exact hw.1.2.2.2.2.2.1 q e)
 have HL : Hid ((entL x.ks s g).length ≤ 1000) := hid (by
   have := klen_ent s g hs
   rw [hq, if_neg hg0] at this
   simp only [Option.elim_none] at this
   omega)
 have H := hid h
 have HN := hid hN
 have HM : Hid (x.ks.length ≤ 500) := hid hm
 have C5 : Hid (∀ W, Below w.heap.size w W → W.cell? ⟨p.block, p.off + 5, none⟩ = some (.slice x.ka x.ks.length x.kc)) := hid (fun W hW => cell_later hW y5)
 obtain ⟨pb, po, ps⟩ := p
 simp only at hsp y5 C5
 subst hsp
 clear h hN hl hw hs hq hsz hg1 hg0 hm
 obtain ⟨n, hn⟩ : ∃ n, n = x.ks.length := ⟨_, rfl⟩
 have HNN := hid hn
 rw [← hn] at y5 BC C5
 clear hn
 go_enter Tryz.func99, Tryz.ntmps99
 go_upto_region 1 with (go_at_call 114; refine BC.out.mono ?_; intro e1 w1 h1; obtain ⟨i, fb, rfl, i1, i2, i3, hb1⟩ := h1; have I1 := hid (HQ.out i i1 i2 i3); have J1 := hid i1; have B1 := hid hb1; have c5 := C5.out w1 hb1; clear i1 i2 i3 hb1)
 clear HQ BC y5
 have b2 := below_1 w1 (.cells #[.string s, .int .u32 g] 61)
 have h2 := heap_alloc_new w1 (.cells #[.string s, .int .u32 g] 61)
 have M2 := hid ((H.out.later B1.out).later b2)
 have B2 := hid (B1.out.trans (b2.mono B1.out.size))
 have NE : Hid (∀ gr o s, x.ka = some ⟨gr, o, s⟩ → w1.heap.size ≠ gr) := hid (fun gr o s e e2 => by
   have hk : kb x = some gr := by unfold kb; rw [e]; rfl
   have := (((H.out.later B1.out).nd f _ x HN.out).2.2.1.kblk hk).2
   omega)
 have IC := hid (insert_c x.ka x.kc x.ks i ⟨s, g⟩ _ base w1.heap.size (M2.out.nd f _ x HN.out).2.2.1.2.2.2 h2 NE.out M2.out.size J1.out HM.out)
 rw [I1.out, ← HNN.out] at IC
 clear h2 b2
 have FN : Hid (∀ a3 c3 w3, OwK w3 base (.slice a3 (entL x.ks s g).length c3) (entL x.ks s g) → (a3 = none → c3 = 0) → (w1.alloc (.cells #[.string s, .int .u32 g] 61)).grownBy w3 (Value.slice x.ka n x.kc).ownBlock → (∀ b, a3.map (·.block) = some b → (Value.slice x.ka n x.kc).ownBlock = some b ∨ (w1.alloc (.cells #[.string s, .int .u32 g] 61)).heap.size ≤ b) → EntP w base tb m N f ⟨pb, po, none⟩ x (entL x.ks s g) (.returned (.tuple #[])) (w3.setCell ⟨pb, po + 5, none⟩ (.slice a3 (entL x.ks s g).length c3))) := hid (fun a3 c3 w3 o3 n3 g3 k3 => by
   rw [HNN.out] at g3 k3
   exact M2.out.entP HN.out (B2.out.mono H.out.size) (KeepT.of B2.out) HW.out HL.out o3 n3 g3 k3)
 have L3 : Hid (∀ w3, (w1.alloc (.cells #[.string s, .int .u32 g] 61)).grownBy w3 (Value.slice x.ka n x.kc).ownBlock → Lie w3 ⟨pb, po, none⟩ x) := hid (fun w3 g3 => by rw [HNN.out] at g3; exact M2.out.lie' HN.out g3)
 have c5' : (w1.alloc (.cells #[.string s, .int .u32 g] 61)).cell? ⟨pb, po + 5, none⟩ = some (.slice x.ka n x.kc) := C5.out _ B2.out
 generalize entL x.ks s g = L at *
 clear M2 B2 H HW HL NE C5
 go_wp2_with (go_at_call 117; refine IC.out.mono ?_; intro e3 w3 h3; obtain ⟨a3, c3, rfl, o3, n3, g3, k3⟩ := h3; have F3 := hid (FN.out a3 c3 w3 o3 n3 g3 k3); have l3 := L3.out w3 g3; have z5 := l3.ndc.all.2.2.2.2.2; have fz := l3.fz; clear o3 n3 g3 k3 l3; simp only at z5 fz)
 exact body_end (by kernel_rfl) rfl F3.out
set_option maxHeartbeats 2000000 in
theorem tstrike_c {w : World} {base tb m : Nat} {N : Tab} (h : MT w base tb m N) {f : Int} {p : Addr} {x : Nd} (hN : N f = some (p, x)) {s : ByteArray} (hs : KSrt x.ks) (hm : x.ks.length ≤ 500) :
   Calls Tryz.prog 101 #[.pointer (some p), .string s] w (EntP w base tb m N f p x (entL x.ks s 0)) := by
 have b1 := below_1 w (.cells #[.string s] 9)
 have h1 := heap_alloc_new w (.cells #[.string s] 9)
 have M1 := h.later b1
 obtain ⟨_, hl, hw, _⟩ := M1.nd f p x hN
 have hsp := hl.1
 obtain ⟨_, _, _, _, _, y5⟩ := hl.ndc.all
 have hmem : ∀ q ∈ entL x.ks s 0, q ∈ x.ks := fun q hq => by rw [entL_zero] at hq; exact (List.mem_filter.1 hq).1
 have IC : Calls Tryz.prog 118 #[.slice x.ka x.ks.length x.kc, .func (.func 119) #[] #[.pointer (some ⟨w.heap.size, 0, none⟩)]] (w.alloc (.cells #[.string s] 9)) (InsP (w.alloc (.cells #[.string s] 9)) base (.slice x.ka x.ks.length x.kc) (entL x.ks s 0)) := by
   cases hq : kq x.ks s with
   | none =>
     have e : entL x.ks s 0 = x.ks := by
       rw [entL_zero]
       exact filter_all Kd.nm (fnd_none Kd.nm hq)
     rw [e]
     exact delete_none x.ka x.kc x.ks s _ base w.heap.size hw.2.2.2 hw.1.2.2.2.2.2.1 h1 hq hm
   | some q =>
     rcases ka_shape hw.2.2.2 with ⟨_, e2⟩ | ⟨gr, e2⟩
     · rw [e2] at hq; cases hq
     · have ho := hw.2.2.2
       rw [e2] at ho ⊢
       exact delete_some gr x.kc x.ks s _ base w.heap.size ho hs hw.1.2.2.2.2.2.1 h1 hq hm
 have HIC := hid IC
 obtain ⟨pb, po, ps⟩ := p
 simp only at hsp y5
 subst hsp
 have FN : Hid (∀ a3 c3 w3, OwK w3 base (.slice a3 (entL x.ks s 0).length c3) (entL x.ks s 0) → (a3 = none → c3 = 0) → (w.alloc (.cells #[.string s] 9)).grownBy w3 (Value.slice x.ka x.ks.length x.kc).ownBlock → (∀ b, a3.map (·.block) = some b → (Value.slice x.ka x.ks.length x.kc).ownBlock = some b ∨ (w.alloc (.cells #[.string s] 9)).heap.size ≤ b) → EntP w base tb m N f ⟨pb, po, none⟩ x (entL x.ks s 0) (.returned (.tuple #[])) (w3.setCell ⟨pb, po + 5, none⟩ (.slice a3 (entL x.ks s 0).length c3))) := hid (fun a3 c3 w3 o3 n3 g3 k3 => M1.entP hN (b1.mono h.size) (KeepT.of b1) (fun q hq => hw.1.2.2.2.2.2.1 q (hmem q hq)) (by have := klen_ent s 0 hs; rw [if_pos rfl] at this; omega) o3 n3 g3 k3)
 have L3 : Hid (∀ w3, (w.alloc (.cells #[.string s] 9)).grownBy w3 (Value.slice x.ka x.ks.length x.kc).ownBlock → Lie w3 ⟨pb, po, none⟩ x) := hid (fun w3 g3 => M1.lie' hN g3)
 generalize entL x.ks s 0 = L at *
 clear h hN hs hm b1 h1 M1 hl hw hmem IC
 go_enter Tryz.func101, Tryz.ntmps101
 go_upto_region 1 with fail
 obtain ⟨n, hn⟩ : ∃ n, n = x.ks.length := ⟨_, rfl⟩
 rw [← hn] at y5 HIC FN L3
 clear hn
 generalize w.heap.size = g0 at *
 go_wp2_with (go_at_call 118; refine HIC.out.mono ?_; intro e3 w3 h3; obtain ⟨a3, c3, rfl, o3, n3, g3, k3⟩ := h3; have F3 := hid (FN.out a3 c3 w3 o3 n3 g3 k3); have l3 := L3.out w3 g3; have z5 := l3.ndc.all.2.2.2.2.2; have fz := l3.fz; clear o3 n3 g3 k3 l3; simp only at z5 fz)
 exact body_end (by kernel_rfl) rfl F3.out
def Keeps (base : Nat) (w w' : World) : Prop := Below base w w' ∧ KeepT w w'
theorem Keeps.of {base : Nat} {w w' : World} (h : Below w.heap.size w w') (hz : base ≤ w.heap.size) : Keeps base w w' := ⟨h.mono hz, KeepT.of h⟩
theorem Keeps.trans {base : Nat} {a b c : World} (h : Keeps base a b) (k : Keeps base b c) : Keeps base a c := ⟨h.1.trans k.1, h.2.trans k.2⟩
theorem Keeps.drew {base : Nat} {a b : World} (h : Keeps base a b) : Keeps base a b.drew := ⟨Below.drew h.1, fun k cs t fr e h1 h2 => h.2 k cs t fr e h1 h2⟩
theorem MT.keeps {w : World} {base tb m : Nat} {N : Tab} (h : MT w base tb m N) {f : Int} {p : Addr} {x : Nd} (hN : N f = some (p, x)) (i : Nat) (v : Value) : Keeps base w (w.setCell ⟨p.block, i, none⟩ v) := by
 obtain ⟨h1, ⟨_, cs, hcs, _⟩, _, _⟩ := h.nd f p x hN
 exact ⟨(Below.refl base _).setCell (p := ⟨p.block, i, none⟩) h1 _, KeepT.set hcs _ _⟩
def DoP (w : World) (base tb : Nat) (r : Int × List Nd) (e : Ending) (w' : World) : Prop :=
 (r.1 = 0 ∧ e = .returned (.tuple #[]) ∧ (∃ N', MT w' base tb r.2.length N' ∧ Rel N' r.2) ∧ Keeps base w w') ∨ (r.1 ≠ 0 ∧ e = PT r.1 ∧ Below w.heap.size w w')
theorem DoP.err {w w' : World} {base tb : Nat} {r : Int × List Nd} {c : Int} (h : r = (c, [])) (hc : c ≠ 0) (hb : Below w.heap.size w w') : DoP w base tb r (PT c) w' := by
 subst h
 exact .inr ⟨hc, rfl, hb⟩
theorem DoP.ok {w w' : World} {base tb m : Nat} {r : Int × List Nd} {L : List Nd} {N' : Tab} (h : r = (0, L)) (hm : m = L.length) (hM : MT w' base tb m N') (hR : Rel N' L) (hb : Keeps base w w') : DoP w base tb r (.returned (.tuple #[])) w' := by
 subst h hm
 exact .inl ⟨rfl, rfl, ⟨N', hM, hR⟩, hb⟩
theorem set_len {l : List Nd} (h : Srt l) {n x : Nd} (hx : getF l n.fid = some x) : (setL l n).length = l.length := by
 have := len_set n h
 rw [hx] at this
 simp only [Option.elim_some] at this
 omega
theorem less_len {l : List Nd} (h : Srt l) {n x : Nd} (hx : getF l n.fid = some x) : (lessL l n).length = lessM l.length n := by
 unfold lessL lessM
 split
 · have := len_out n.fid h
   rw [hx] at this
   simp only [Option.elim_some] at this
   omega
 · exact set_len (n := ⟨n.fid, n.k, n.md, n.ln - 1, n.da, n.dc, n.zs, n.ka, n.kc, n.ks⟩) h hx
theorem write_n {l : List Nd} {o : Rec} (h : getF l o.fid = none) : writeL l o = (5, []) := by
 unfold writeL
 rw [h]
 rfl
theorem write_d {l : List Nd} {o : Rec} {x : Nd} (h : getF l o.fid = some x) (h9 : o.k ≠ 9) (hk : x.k = 2) : writeL l o = (8, []) := by
 unfold writeL
 rw [h]
 simp [h9, hk]
theorem write_l {l : List Nd} {o : Rec} {x : Nd} (h : getF l o.fid = some x) (h9 : o.k ≠ 9) (hk : x.k = 3) : writeL l o = (3, []) := by
 unfold writeL
 rw [h]
 simp [h9, hk]
theorem dirE_n {o : Option Nd} (h : o = none) : dirE o = 5 := by rw [h]; rfl
theorem dirE_k {o : Option Nd} {x : Nd} (h : o = some x) (hk : x.k ≠ 2) : dirE o = 7 := by rw [h]; simp [dirE, hk]
theorem lookE_n {o : Option Nd} (s : ByteArray) (h : o = none) : lookE o s = 5 := by rw [h]; rfl
theorem lookE_k {o : Option Nd} {x : Nd} (s : ByteArray) (h : o = some x) (hk : x.k ≠ 2) : lookE o s = 7 := by rw [h]; simp [lookE, hk]
theorem lookE_q {o : Option Nd} {x : Nd} {s : ByteArray} (h : o = some x) (hk : x.k = 2) (hq : kq x.ks s = none) : lookE o s = 5 := by rw [h]; simp [lookE, hk, kidI_no hq]
theorem conv_tx (W : World) (dt : ByteArray) (hd : dt.size ≤ 1000) : ∃ W' a c, (convert 9 36 (.string dt)).run Tryz.prog W = .ok (.slice a dt.size c) W' ∧ RowAt W' W.heap.size 5 a ((txB dt).map u8V) ∧ Below W.heap.size W W' ∧ (a = none → c = 0) := by
 have kc := run_bytes_of_string (P := Tryz.prog) W 9 36 5 dt Tryz.underlying9 Tryz.underlying36 Tryz.underlying5
 exact ⟨_, _, _, kc, row_text (heap_alloc_new W.drew _) (Nat.le_refl _), (Below.drew (Below.refl _ _)).alloc (Nat.le_refl _) _, fun e => by cases e⟩
theorem NdW.data {w : World} {base : Nat} {x : Nd} (h : NdW w base x) {a : Option Addr} {c : Nat} {dt : ByteArray} (hd : dt.size ≤ 1000) (hr : RowAt w base 5 a ((txB dt).map u8V)) (hn : a = none → c = 0) : NdW w base ⟨x.fid, x.k, x.md, x.ln, a, c, txB dt, x.ka, x.kc, x.ks⟩ := by
 obtain ⟨⟨f1, f2, f3, f4, f5, f6, f7, f8⟩, ⟨n1, n2⟩, r1, r2⟩ := h
 exact ⟨⟨f1, f2, f3, f4, txB_in dt, f6, by show (txB dt).length ≤ 1000; rw [txB_len]; exact hd, f8⟩, ⟨hn, n2⟩, hr, r2⟩
set_option maxHeartbeats 2000000 in
theorem tstore_c {w : World} {base tb : Nat} {N : Tab} {l : List Nd} (o : Rec) (h : MT w base tb l.length N) (hR : Rel N l) (R : Rt l) (ho : o.Wf) (h9 : o.k ≠ 9) (hdt : o.dt.size ≤ 1000) :
   Calls Tryz.prog 79 #[.map (some tb), o.opV] w (DoP w base tb (writeL l o)) := by
 obtain ⟨r, hr⟩ : ∃ r, r = writeL l o := ⟨_, rfl⟩
 rw [← hr]
 have HR := hid hr
 clear hr
 obtain ⟨k, fid, dir, nm, tof, nm2, md, dt, sn⟩ := o
 have b0 := below_1 w (.cells #[.int .u8 k, .int .u32 fid, .int .u32 dir, .string nm, .int .u32 tof, .string nm2, .int .u16 md, .string dt] 58)
 have h0 := heap_alloc_new w (.cells #[.int .u8 k, .int .u32 fid, .int .u32 dir, .string nm, .int .u32 tof, .string nm2, .int .u16 md, .string dt] 58)
 have MV := hid (h.later b0)
 have B0 := hid b0
 have H0 := hid h0
 have OPL : Hid (∀ W, Below (w.alloc (.cells #[.int .u8 k, .int .u32 fid, .int .u32 dir, .string nm, .int .u32 tof, .string nm2, .int .u16 md, .string dt] 58)).heap.size (w.alloc (.cells #[.int .u8 k, .int .u32 fid, .int .u32 dir, .string nm, .int .u32 tof, .string nm2, .int .u16 md, .string dt] 58)) W → W.heap[w.heap.size]? = some (.cells #[.int .u8 k, .int .u32 fid, .int .u32 dir, .string nm, .int .u32 tof, .string nm2, .int .u16 md, .string dt] 58)) := hid (fun W hW => (hW.block _ (lt_blkR h0)).trans h0)
 obtain ⟨_, hf, hdr, hto, hmd, _, hz1, hz2, hz3⟩ := ho
 simp only [Rec.opV] at *
 clear b0 h0
 have HZ := hid h.size
 cases hN : N fid with
 | none =>
   have RE : Hid (r = (5, [])) := hid (by rw [HR.out]; exact write_n (hR.no hN))
   have NC := hid (tnode_n MV.out hf.1 hf.2 hN)
   clear h hR R hN h9 hdt HR HZ OPL MV hf hdr hto hmd hz1 hz2 hz3
   go_enter Tryz.func79, Tryz.ntmps79
   go_upto_region 1 with fail
   generalize w.alloc (.cells #[.int .u8 k, .int .u32 fid, .int .u32 dir, .string nm, .int .u32 tof, .string nm2, .int .u16 md, .string dt] 58) = V at *
   have o1 : V.cell? ⟨w.heap.size, 1, none⟩ = some (.int .u32 fid) := cell_of_row2 H0.out 1 rfl
   go_wp2_with (go_at_call 80; refine NC.out.mono ?_; rintro _ w1 ⟨rfl, hw1⟩; have hw2 := hw1.symm; clear hw1; subst hw2)
   exact ⟨rfl, DoP.err RE.out (by decide) B0.out⟩
 | some z =>
   obtain ⟨p, x⟩ := z
   have hl := hR.got hN
   have NC := hid (tnode_s MV.out hf.1 hf.2 hN)
   obtain ⟨hbp, hli, hw, hfd⟩ := MV.out.nd fid p x hN
   have hsp := hli.1
   obtain ⟨_, y1, _, _, y4, _⟩ := hli.ndc.all
   by_cases q2 : x.k = 2
   · have RE : Hid (r = (8, [])) := hid (by rw [HR.out]; exact write_d hl h9 q2)
     obtain ⟨pb, po, ps⟩ := p
     simp only at hsp y1
     subst hsp
     rw [q2] at y1
     clear h hR R hN h9 hdt HR HZ OPL MV hf hdr hto hmd hz1 hz2 hz3 hl hli hw y4 q2
     go_enter Tryz.func79, Tryz.ntmps79
     go_upto_region 1 with fail
     generalize w.alloc (.cells #[.int .u8 k, .int .u32 fid, .int .u32 dir, .string nm, .int .u32 tof, .string nm2, .int .u16 md, .string dt] 58) = V at *
     have o1 : V.cell? ⟨w.heap.size, 1, none⟩ = some (.int .u32 fid) := cell_of_row2 H0.out 1 rfl
     go_wp2_with (first
       | (go_at_call 72; refine (trefuse_t _ _).mono ?_; rintro _ wz ⟨rfl, hwz⟩; have hwz2 := hwz.symm; clear hwz; subst hwz2)
       | (go_at_call 80; refine NC.out.mono ?_; rintro _ w1 ⟨rfl, hw1⟩; have hw2 := hw1.symm; clear hw1; subst hw2))
     exact ⟨rfl, DoP.err RE.out (by decide) B0.out⟩
   · by_cases q3 : x.k = 3
     · have RE : Hid (r = (3, [])) := hid (by rw [HR.out]; exact write_l hl h9 q3)
       obtain ⟨pb, po, ps⟩ := p
       simp only at hsp y1
       subst hsp
       rw [q3] at y1
       clear h hR R hN h9 hdt HR HZ OPL MV hf hdr hto hmd hz1 hz2 hz3 hl hli hw y4 q2 q3
       go_enter Tryz.func79, Tryz.ntmps79
       go_upto_region 1 with fail
       generalize w.alloc (.cells #[.int .u8 k, .int .u32 fid, .int .u32 dir, .string nm, .int .u32 tof, .string nm2, .int .u16 md, .string dt] 58) = V at *
       have o1 : V.cell? ⟨w.heap.size, 1, none⟩ = some (.int .u32 fid) := cell_of_row2 H0.out 1 rfl
       go_wp2_with (first
         | (go_at_call 72; have K2 := K1.out; refine (trefuse_t _ _).mono ?_; rintro _ wz ⟨rfl, hwz⟩; have hwz2 := hwz.symm; clear hwz; subst hwz2)
         | (go_at_call 72; refine (trefuse_f _ _).mono ?_; rintro _ wz ⟨rfl, hwz⟩; have hwz2 := hwz.symm; clear hwz; subst hwz2; have K1 := hid True.intro)
         | (go_at_call 80; refine NC.out.mono ?_; rintro _ w1 ⟨rfl, hw1⟩; have hw2 := hw1.symm; clear hw1; subst hw2))
       exact ⟨rfl, DoP.err RE.out (by decide) B0.out⟩
     · have RE : Hid (r = (0, setL l (x.er.wr ⟨k, fid, dir, nm, tof, nm2, md, dt, sn⟩))) := hid (by rw [HR.out]; exact write_do hl (.inr ⟨q2, q3⟩))
       obtain ⟨W, ca, cc, CE, CR, CB, CN⟩ := conv_tx (w.alloc (.cells #[.int .u8 k, .int .u32 fid, .int .u32 dir, .string nm, .int .u32 tof, .string nm2, .int .u16 md, .string dt] 58)) dt hdt
       have MW := MV.out.later CB
       have M4 := MW.put hN (i := 4) (by omega) (x' := ⟨x.fid, x.k, x.md, x.ln, ca, cc, txB dt, x.ka, x.kc, x.ks⟩) (v := .slice ca dt.size cc) (by unfold Nd.cells; rw [txB_len]; rfl) hfd ((MW.nd fid p x hN).2.2.1.data hdt (CR.lowR (Nat.le_trans HZ.out B0.out.size)) CN) rfl
       have RL := hR.set (p := p) (x := ⟨x.fid, x.k, x.md, x.ln, ca, cc, txB dt, x.ka, x.kc, x.ks⟩) (y := x.er.wr ⟨k, fid, dir, nm, tof, nm2, md, dt, sn⟩) (f := fid) (by unfold Nd.wr; rw [if_neg h9]; rfl) (by rw [wr_fid]; exact hfd)
       have FIN : Hid (∀ W2, W2 = W.setCell ⟨p.block, p.off + 4, none⟩ (.slice ca dt.size cc) → DoP w base tb r (.returned (.tuple #[])) W2) := hid (fun W2 e => by
         subst e
         refine DoP.ok RE.out (set_len R.srt (by rw [wr_fid]; show getF l x.fid = _; rw [hfd]; exact hl)).symm M4 RL ?_
         exact (Keeps.of (B0.out.trans (CB.mono B0.out.size)) HZ.out).trans (MW.keeps hN _ _))
       have z4 : W.cell? ⟨p.block, p.off + 4, none⟩ = some (.slice x.da x.zs.length x.dc) := cell_later CB y4
       have fz := (MW.nd fid p x hN).2.1.fz
       obtain ⟨pb, po, ps⟩ := p
       simp only at hsp y1 z4 fz FIN
       subst hsp
       have qB2 : (x.k == 2) = false := beq_eq_false_iff_ne.2 q2
       have qB3 : (x.k == 3) = false := beq_eq_false_iff_ne.2 q3
       generalize x.k = xk at *
       clear h hR R hN h9 hdt HR HZ OPL MV MW M4 RL hf hdr hto hmd hz1 hz2 hz3 hl hli hw y4 q2 q3 CR CB CN RE
       go_enter Tryz.func79, Tryz.ntmps79
       go_upto_region 1 with fail
       generalize w.alloc (.cells #[.int .u8 k, .int .u32 fid, .int .u32 dir, .string nm, .int .u32 tof, .string nm2, .int .u16 md, .string dt] 58) = V at *
       have o1 : V.cell? ⟨w.heap.size, 1, none⟩ = some (.int .u32 fid) := cell_of_row2 H0.out 1 rfl
       have o7 : V.cell? ⟨w.heap.size, 7, none⟩ = some (.string dt) := cell_of_row2 H0.out 7 rfl
       go_wp2_with (first
         | (go_at_call 72; refine (trefuse_f _ _).mono ?_; rintro _ wz ⟨rfl, hwz⟩; have hwz2 := hwz.symm; clear hwz; subst hwz2)
         | (go_at_call 80; refine NC.out.mono ?_; rintro _ w1 ⟨rfl, hw1⟩; have hw2 := hw1.symm; clear hw1; subst hw2))
       exact body_end (by kernel_rfl) rfl (FIN.out _ rfl)
end Go.Proofs.YtgbdplammniidaaGreatDoor
