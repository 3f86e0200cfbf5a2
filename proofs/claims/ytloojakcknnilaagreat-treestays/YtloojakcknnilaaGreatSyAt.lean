/-
  The package tree: slices.DeleteFunc of the entry of a name.
-/
import Derived.Test.YtloojakcknnilaaGreatSyAr
import Derived.Test.YtloojakcknnilaaGreatSyAs
namespace Go.Proofs.YtloojakcknnilaaGreat
open Go.RowKit Go.ChangeShapes Go.WideShapes Go.ChangeAt Go.Maps Go.Shelf
set_option linter.unusedVariables false
set_option linter.unusedSimpArgs false
set_option maxRecDepth 100000
set_option maxHeartbeats 2000000 in
theorem stIx_c (g : Nat) (a : Option Addr) (cap : Nat) (l : List Kd) (s : ByteArray) (w : World) (h : IsKs w a l) (hg : w.heap[g]? = some (.cells #[.string s] 9)) (hm : l.length ≤ 100000) :
    Calls Tryz.prog 75 #[.slice a l.length cap, .func (.func 119) #[] #[.pointer (some ⟨g, 0, none⟩)]] w fun e w' => e = .returned (.int .i64 (enI l s)) ∧ Below w.heap.size w w' := by
  have H := hid h
  have HG := hid hg
  obtain ⟨R, hR⟩ : ∃ R, R = enI l s := ⟨_, rfl⟩
  rw [← hR]
  have HR := hid hR
  obtain ⟨n, hn⟩ : ∃ n, n = l.length := ⟨_, rfl⟩
  have HN := hid hn
  rw [← hn] at hm ⊢
  clear h hg hR hn
  go_enter Tryz.func75, Tryz.ntmps75
  go_wp2
  go_loopg [8] n (fun gk i wr => ∃ m : Nat, m + gk = n ∧ i = .int .i64 m ∧ Hid (Below w.heap.size w wr) ∧ Hid (∀ i, i < m → (decide ((l.getD i Kd.no).nm = s)) = false))
  case atStart => exact ⟨0, by omega, rfl, hid (Below.refl _ _), hid (fun i hi => by omega)⟩
  case round =>
    obtain ⟨m, hm2, rfl, HB, HF⟩ := hrel
    by_cases hlt : m < n
    · have hltI : (m : Int) < n := by omega
      have hln : m < l.length := by rw [← HN.out]; exact hlt
      obtain ⟨b, off, rfl, _⟩ := H.out.2.2 (by omega)
      obtain ⟨k0, k1⟩ := (H.out.later HB.out).at (i := m) hln
      have YES : Hid ((decide ((l.getD m Kd.no).nm = s)) = true → R = m) := hid (fun e => by rw [HR.out]; unfold enI; rw [findIdx_at (d := Kd.no) hln HF.out e])
      have NX : Hid ((decide ((l.getD m Kd.no).nm = s)) = false → ∀ i, i < m + 1 → (decide ((l.getD i Kd.no).nm = s)) = false) := hid (fun e i hi => by
        by_cases q : i = m
        · rw [q]; exact e
        · exact HF.out i (by omega))
      have c0 : wr.cell? ⟨g, 0, none⟩ = some (.string s) := cell_of_row2 ((HB.out.block _ (lt_blkR HG.out)).trans HG.out) 0 rfl
      have hgl : g < wr.heap.size := lt_blkR ((HB.out.block _ (lt_blkR HG.out)).trans HG.out)
      clear hln
      generalize l.getD m Kd.no = x at *
      have BX := hid (HB.out.trans ((below_1 wr (.cells #[.string x.nm, .int .u32 x.fid] 72)).mono HB.out.size))
      cases q : (decide ((x).nm = s)) with
      | true =>
        have ET := hid (YES.out q)
        clear YES NX HF
        rw [← ba_eq] at q
        go_wp2
        go_ret
        exact ⟨by rw [ET.out]; rfl, BX.out⟩
      | false =>
        have EX := hid (NX.out q)
        clear YES NX HF
        rw [← ba_eq] at q
        go_wp2
        go_roundg (gk - 1)
        case measure => omega
        case rel => exact ⟨m + 1, by omega, by go_num, BX, EX⟩
    · have hge : ¬ (m : Int) < n := by omega
      have EF : Hid (R = -1) := hid (by rw [HR.out]; unfold enI; rw [findIdx_no (d := Kd.no) (fun i hi => HF.out i (by have := HN.out; omega))])
      go_wp2
      go_ret
      exact ⟨by rw [EF.out]; rfl, HB.out⟩
set_option maxHeartbeats 800000 in
theorem strike1_c (x : Kd) (s : ByteArray) (g : Nat) (w : World) (hg : w.heap[g]? = some (.cells #[.string s] 9)) : Calls Tryz.prog 119 #[x.val, .pointer (some ⟨g, 0, none⟩)] w fun e w' => e = .returned (.bool (decide (x.nm = s))) ∧ Below w.heap.size w w' := by
  have b0 := below_1 w (.cells #[.string x.nm, .int .u32 x.fid] 72)
  have h0 := heap_alloc_new w (.cells #[.string x.nm, .int .u32 x.fid] 72)
  have c0 : (w.alloc (.cells #[.string x.nm, .int .u32 x.fid] 72)).cell? ⟨w.heap.size, 0, none⟩ = some (.string x.nm) := cell_of_row2 h0 0 rfl
  have c1 : (w.alloc (.cells #[.string x.nm, .int .u32 x.fid] 72)).cell? ⟨g, 0, none⟩ = some (.string s) := cell_of_row2 ((b0.block _ (lt_blkR hg)).trans hg) 0 rfl
  have B0 := hid b0
  obtain ⟨d, hd⟩ : ∃ d, d = decide (x.nm = s) := ⟨_, rfl⟩
  rw [← hd]
  rw [← ba_eq] at hd
  have hd2 := hd.symm
  clear b0 h0 hg hd
  unfold Kd.val
  go_enter Tryz.func119, Tryz.ntmps119
  go_wp2
  go_ret
  exact ⟨rfl, B0.out⟩
theorem CRow.set1 {w : World} {g cap : Nat} {xs : List Value} (h : CRow w g cap xs) {o : Nat} (v : Value) : CRow (w.setCell ⟨g, o, none⟩ v) g cap (xs.set o v) := by
  obtain ⟨cur, h1, h2, h3, h4⟩ := h
  refine ⟨_, heap_setCell_same w g o cur _ v h1, h2, by rw [Array.size_setIfInBounds]; exact h3, ?_⟩
  rw [Array.toList_setIfInBounds, List.length_set, List.take_set, h4]
theorem grown_set (w : World) (g o : Nat) (v : Value) : w.grownBy (w.setCell ⟨g, o, none⟩ v) (some g) := ⟨rfl, rfl, rfl, by simp, fun i hi hn => Below.heap_setCell w ⟨g, o, none⟩ v i (fun e => hn (by rw [e]))⟩
theorem kcells_set (L : List Kd) (k : Nat) (x : Kd) : ((kcells L).set (k * 2) (.string x.nm)).set (k * 2 + 1) (.int .u32 x.fid) = kcells (L.set k x) := by
  induction L generalizing k with
  | nil => rfl
  | cons y t ih =>
    cases k with
    | zero => rfl
    | succ k =>
      rw [List.set_cons_succ, kcells_cons, kcells_cons, ← ih k]
      have e1 : (k + 1) * 2 = k * 2 + 1 + 1 := by omega
      rw [e1]
      rfl
theorem set_mid (P R : List Kd) (z x : Kd) : (P ++ z :: R).set P.length x = P ++ x :: R := by simp
theorem srt_names {l : List Kd} (h : KSrt l) {A B : List Kd} {q : Kd} (e : l = A ++ q :: B) : ∀ x ∈ B, x.nm ≠ q.nm := fun x hx e2 => by
  subst e
  have h2 := (List.pairwise_append.1 h).2.1
  have := (List.pairwise_cons.1 h2).1 x hx
  rw [e2, leS_refl] at this
  cases this
theorem srt_split {l : List Kd} (h : KSrt l) {s : ByteArray} {q : Kd} (hq : kq l s = some q) : ∃ A B, l = A ++ q :: B ∧ enI l s = (A.length : Int) ∧ entL l s 0 = A ++ B ∧ ∀ x ∈ B, decide (x.nm = s) = false := by
  obtain ⟨i, e1, e2, e3⟩ := en_some hq
  have hqn := (kq_some hq).2
  refine ⟨l.take i, l.drop (i + 1), ?_, by rw [e1, List.length_take, Nat.min_eq_left (by omega)], ?_, ?_⟩
  · rw [← e3, List.getD, List.getElem?_eq_getElem e2]
    simp
  · have hl : l = l.take i ++ q :: l.drop (i + 1) := by
      rw [← e3, List.getD, List.getElem?_eq_getElem e2]
      simp
    have hB := srt_names h hl
    have hA : ∀ x ∈ l.take i, x.nm ≠ s := fun x hx e => by
      rw [hl] at h
      have := (List.pairwise_append.1 h).2.2 x hx q (List.mem_cons_self ..)
      rw [e, hqn, leS_refl] at this
      cases this
    rw [entL_zero]
    conv => lhs; rw [hl]
    rw [List.filter_append, List.filter_cons]
    have eq : decide (q.nm ≠ s) = false := by rw [hqn]; simp
    rw [eq]
    rw [List.filter_eq_self.2 (fun x hx => by simpa using hA x hx), if_neg (by simp), List.filter_eq_self.2 (fun x hx => by have := hB x hx; rw [hqn] at this; simpa using this)]
  · have hl : l = l.take i ++ q :: l.drop (i + 1) := by
      rw [← e3, List.getD, List.getElem?_eq_getElem e2]
      simp
    intro x hx
    have := srt_names h hl x hx
    rw [hqn] at this
    simpa using this
/-- 'clear' of the last entry of a row. -/
theorem CRow.clear1 {w : World} {g cap : Nat} {P : List Kd} {z : Kd} (h : CRow w g cap (kcells (P ++ [z]))) (c : Nat) (ty : TypeId) :
    ∃ w', (Builtin.clear_ #[56] ty #[.slice (some ⟨g, P.length * 2, none⟩) 1 c]).run Tryz.prog w = .ok (.tuple #[]) w' ∧ CRow w' g cap (kcells (P ++ [Kd.no])) ∧ w.grownBy w' (some g) := by
  have hle := h.le
  rw [kcells_len] at hle
  simp only [List.length_append, List.length_singleton] at hle
  obtain ⟨cur, hg, hfit, hR, hG, _⟩ := h.write (o := P.length * 2) (cs := Kd.no.cells) (by rw [kcells_len]; simp only [List.length_append, List.length_singleton]; omega) (by show P.length * 2 + 2 ≤ _; omega)
  refine ⟨_, ?_, ?_, hG⟩
  · have hst := run_storeCells_at Tryz.prog g (P.length * 2) 72 Kd.no.cells 0 cur w hg (by simpa using hfit) (kid_one Kd.no)
    obtain ⟨i, hi, hz0, _, _⟩ := info_kid
    have hzv : ∀ W, (zeroValue 72).run Tryz.prog W = .ok Kd.no.val W := fun W => by simp [zeroValue, typeInfo, hi, hz0]
    have hzc : (Builtin.zeroCells Kd.no.val.cells 1).toList = Kd.no.cells := by kernel_rfl
    simp [Builtin.clear_, run_underlying Tryz.underlying56, hzv, hzc, hst]
  · have t1 : (kcells (P ++ [z])).take (P.length * 2) = kcells P := by
      rw [(kcells_split (P ++ [z]) P.length (by simp)).1, List.take_left']
      rfl
    have t2 : (kcells (P ++ [z])).drop (P.length * 2 + Kd.no.cells.length) = [] := List.drop_of_length_le (by rw [kcells_len]; simp only [List.length_append, List.length_singleton]; show _ ≤ P.length * 2 + 2; omega)
    rw [t1, t2, List.append_nil] at hR
    rw [kcells_append]
    exact hR
theorem CRow.less {w : World} {g cap : Nat} {P : List Kd} {z : Kd} (h : CRow w g cap (kcells (P ++ [z]))) : CRow w g cap (kcells P) := by
  obtain ⟨cur, h1, h2, h3, h4⟩ := h
  refine ⟨cur, h1, h2, h3, ?_⟩
  have : (kcells (P ++ [z])).take (kcells P).length = kcells P := by rw [kcells_append, List.take_left']; rfl
  rw [← h4, List.take_take, kcells_len, kcells_len] at this
  rw [kcells_len]
  rw [Nat.min_eq_left (by simp only [List.length_append, List.length_singleton]; omega)] at this
  exact this
set_option maxHeartbeats 1000000 in
theorem delete_none (a : Option Addr) (cap : Nat) (l : List Kd) (s : ByteArray) (w : World) (base gb : Nat) (h : OwK w base (.slice a l.length cap) l) (hw : ∀ q ∈ l, q.Wf) (hg : w.heap[gb]? = some (.cells #[.string s] 9)) (hq : kq l s = none) (hm : l.length ≤ 500) :
    Calls Tryz.prog 118 #[.slice a l.length cap, .func (.func 119) #[] #[.pointer (some ⟨gb, 0, none⟩)]] w (InsP w base (.slice a l.length cap) l) := by
  obtain ⟨a', cap', e', hK, _, hnil⟩ := isKs_own h hw (by omega)
  cases e'
  have IC := hid (stIx_c gb a cap l s w hK hg (by omega))
  rw [en_none hq] at IC
  have FIN : Hid (∀ W, Below w.heap.size w W → InsP w base (.slice a l.length cap) l (.returned (.slice a l.length cap)) W) := hid (fun W hW => ⟨a, cap, rfl, h.later hW, hnil, grown_of hW _, fun b e => .inl (by cases a with | none => cases e | some ad => exact e)⟩)
  clear h hK hg hw hq hnil
  go_enter Tryz.func118, Tryz.ntmps118
  go_wp2_with (go_at_call 75; refine IC.out.mono ?_; rintro _ w1 ⟨rfl, hb1⟩)
  go_ret
  exact FIN.out w1 hb1
set_option maxHeartbeats 4000000 in
theorem delete_some (gr cap : Nat) (l : List Kd) (s : ByteArray) (w : World) (base gb : Nat) (h : OwK w base (.slice (some ⟨gr, 0, none⟩) l.length cap) l) (hs : KSrt l) (hw : ∀ q ∈ l, q.Wf) (hg : w.heap[gb]? = some (.cells #[.string s] 9)) {q : Kd} (hq : kq l s = some q) (hm : l.length ≤ 500) :
    Calls Tryz.prog 118 #[.slice (some ⟨gr, 0, none⟩) l.length cap, .func (.func 119) #[] #[.pointer (some ⟨gb, 0, none⟩)]] w (InsP w base (.slice (some ⟨gr, 0, none⟩) l.length cap) (entL l s 0)) := by
  obtain ⟨a', cap', e', hK, _, hnil⟩ := isKs_own h hw (by omega)
  cases e'
  obtain ⟨hbg, hlc, hR⟩ := h.row
  have hne : gb ≠ gr := fun e => by
    obtain ⟨cur, hc, _⟩ := hR
    rw [e, hc] at hg
    cases hg
  have IC := hid (stIx_c gb _ cap l s w hK hg (by omega))
  obtain ⟨A, B, e1, e2, e3, e4⟩ := srt_split hs hq
  rw [e2] at IC
  have HG := hid hg
  have R0 : Hid (∀ W, Below w.heap.size w W → CRow W gr cap (kcells (A ++ q :: B))) := hid (fun W hW => by rw [← e1]; exact hR.keep (hW.block gr hR.lt))
  have FIN : Hid (∀ W, w.grownBy W (some gr) → CRow W gr cap (kcells (A ++ B)) → InsP w base (.slice (some ⟨gr, 0, none⟩) l.length cap) (entL l s 0) (.returned (.slice (some ⟨gr, 0, none⟩) (A ++ B).length cap)) W) := hid (fun W hG hC => by
    rw [e3]
    exact ⟨_, cap, rfl, hC.own hbg, fun e => (by cases e), hG, fun b e => .inl e⟩)
  have h63 : (cap : Int) ≤ 9223372036854775807 := by
    obtain ⟨cur, _, h5, _⟩ := hR
    unfold maxLen at h5; omega
  have hln : l.length = A.length + 1 + B.length := by rw [e1]; simp; omega
  have SC := hid (fun x W (hW : W.heap[gb]? = some (.cells #[.string s] 9)) => strike1_c x s gb W hW)
  have HE4 := hid e4
  obtain ⟨n, hn⟩ : ∃ n, n = l.length := ⟨_, rfl⟩
  rw [← hn] at hm hlc hln IC FIN ⊢
  generalize entL l s 0 = L' at *
  have HLN := hid hln
  have hA5 : A.length ≤ 500 := by omega
  clear h hK hg hR e1 e2 e3 e4 hs hq hw hn hbg hnil hln
  go_enter Tryz.func118, Tryz.ntmps118
  go_wp2_with (go_at_call 75; refine IC.out.mono ?_; rintro _ w1 ⟨rfl, hb1⟩)
  have R1 := hid (R0.out w1 hb1)
  have G1 := hid (grown_of hb1 (some gr))
  have hAI : ¬ ((A.length : Int) = -1) := by omega
  clear hb1 IC R0
  go_wp2
  go_loopg [5, 6] B.length (fun gk vi vj wr => ∃ (P R : List Kd) (z : Kd) (k : Nat), vi = .int .i64 k ∧ vj = .int .i64 ((k : Int) + 1) ∧ Hid (k = P.length) ∧ Hid (R.length = gk) ∧ Hid (n = k + 1 + gk) ∧ Hid (P ++ R = A ++ B) ∧ Hid (∀ x ∈ R, decide (x.nm = s) = false) ∧ Hid (CRow wr gr cap (kcells (P ++ z :: R))) ∧ Hid (w.grownBy wr (some gr)))
  case atStart => exact ⟨A, B, q, A.length, rfl, by go_num, hid rfl, hid rfl, hid HLN.out, hid rfl, HE4, R1, G1⟩
  case round =>
    obtain ⟨P, R, z, k, rfl, rfl, HK, HRL, HNK, HPR, HNE, HC, HGr⟩ := hrel
    cases R with
    | nil =>
      have hkn : n = k + 1 := by have h1 := HRL.out; have h2 := HNK.out; simp only [List.length_nil] at h1; omega
      have hge : ¬ (k : Int) + 1 < n := by omega
      rw [List.append_nil] at HPR
      obtain ⟨w5, CE, R5, G5⟩ := HC.out.clear1 (cap - k) 0
      rw [← HK.out] at CE
      have FF := hid (FIN.out w5 (grown_trans HGr.out G5) (by rw [← HPR.out]; exact R5.less))
      rw [← HPR.out, ← HK.out] at FF
      clear R5 G5
      subst hkn
      have hck : ¬ (cap = k) := by omega
      have hkI : (k : Int) ≤ (k : Int) + 1 := by omega
      have hkc : (k : Int) ≤ cap := by omega
      clear HLN HNK HRL
      go_wp2
      go_ret
      exact FF.out
    | cons x R' =>
      have hk := HK.out
      have hRl := HRL.out
      have hnk := HNK.out
      simp only [List.length_cons] at hRl
      have hlt : (k : Int) + 1 < n := by omega
      have hgx : (P ++ z :: x :: R').getD (k + 1) Kd.no = x := by
        rw [List.getD, hk, List.getElem?_append_right (by omega)]
        simp
      have hlen : (P ++ z :: x :: R').length = k + 2 + R'.length := by simp [hk]; omega
      have g0 : (kcells (P ++ z :: x :: R'))[(k + 1) * 2]? = some (.string x.nm) := by
        have := kcells_get (P ++ z :: x :: R') (k + 1) 0 (by omega) (by omega)
        rw [hgx] at this
        exact this
      have g1 : (kcells (P ++ z :: x :: R'))[(k + 1) * 2 + 1]? = some (.int .u32 x.fid) := by
        have := kcells_get (P ++ z :: x :: R') (k + 1) 1 (by omega) (by omega)
        rw [hgx] at this
        exact this
      have k0 := HC.out.cell g0
      have k1 := HC.out.cell g1
      have hkc : k + 1 < n := by omega
      have htn : ((k : Int) + 1).toNat = k + 1 := by omega
      have hp0 : (0 : Int) ≤ (k : Int) + 1 := by omega
      have hgk : 0 < gk := by omega
      clear g0 g1 hgx hlen hk hRl hnk
      go_upto_region 8 with fail
      have bV := below_1 wr (.cells #[.string x.nm, .int .u32 x.fid] 72)
      have hV := heap_alloc_new wr (.cells #[.string x.nm, .int .u32 x.fid] 72)
      have hgbw : wr.heap[gb]? = some (.cells #[.string s] 9) := (HGr.out.block gb (lt_blkR HG.out) (fun e => hne (Option.some.inj e))).trans HG.out
      have S1 := hid (SC.out x _ ((bV.block gb (lt_blkR hgbw)).trans hgbw))
      rw [HNE.out x (List.mem_cons_self ..)] at S1
      simp only [Kd.val] at S1
      have RV := hid (HC.out.keep (bV.block gr HC.out.lt))
      have GV := hid (grown_trans HGr.out (grown_of bV (some gr)))
      have hgr : gr < wr.heap.size := HC.out.lt
      clear bV k0 k1 hgbw
      generalize wr.alloc (.cells #[.string x.nm, .int .u32 x.fid] 72) = V at *
      generalize wr.heap.size = g0 at *
      have x0 : V.cell? ⟨g0, 0, none⟩ = some (.string x.nm) := cell_of_row2 hV 0 rfl
      have x1 : V.cell? ⟨g0, 1, none⟩ = some (.int .u32 x.fid) := cell_of_row2 hV 1 rfl
      have HV := hid hV
      clear hV
      go_upto_region 9 with (go_at_call 119; refine S1.out.mono ?_; rintro _ w3 ⟨rfl, hb3⟩
                             have y0 : w3.cell? ⟨g0, 0, none⟩ = some (.string x.nm) := cell_of_row2 ((hb3.block _ (lt_blkR HV.out)).trans HV.out) 0 rfl
                             have y1 : w3.cell? ⟨g0, 1, none⟩ = some (.int .u32 x.fid) := cell_of_row2 ((hb3.block _ (lt_blkR HV.out)).trans HV.out) 1 rfl
                             have R3 := hid (RV.out.keep (hb3.block gr RV.out.lt))
                             have G3 := hid (grown_trans GV.out (grown_of hb3 (some gr)))
                             clear hb3 x0 x1)
      have hgz : (P ++ z :: x :: R').getD k Kd.no = z := by
        rw [List.getD, HK.out, List.getElem?_append_right (Nat.le_refl _)]
        simp
      have hlz : k < (P ++ z :: x :: R').length := by rw [HK.out]; simp
      have z0 : (kcells (P ++ z :: x :: R'))[k * 2]? = some (.string z.nm) := by
        have := kcells_get (P ++ z :: x :: R') k 0 hlz (by omega)
        rw [hgz] at this
        exact this
      have z1 : (kcells (P ++ z :: x :: R'))[k * 2 + 1]? = some (.int .u32 z.fid) := by
        have := kcells_get (P ++ z :: x :: R') k 1 hlz (by omega)
        rw [hgz] at this
        exact this
      have r0 := R3.out.cell z0
      have r1 := R3.out.cell z1
      have fz : ∀ i, w3.frozen? ⟨gr, i, none⟩ = false := R3.out.fz
      have hkN : (k : Int) < n := by omega
      have R4 : Hid (CRow ((w3.setCell ⟨gr, k * 2, none⟩ (.string x.nm)).setCell ⟨gr, k * 2 + 1, none⟩ (.int .u32 x.fid)) gr cap (kcells ((P ++ [x]) ++ x :: R'))) := hid (by
        have := (R3.out.set1 (o := k * 2) (.string x.nm)).set1 (o := k * 2 + 1) (.int .u32 x.fid)
        rw [kcells_set] at this
        have e : (P ++ z :: x :: R').set k x = (P ++ [x]) ++ x :: R' := by rw [HK.out, set_mid]; simp
        rw [e] at this
        exact this)
      have G4 : Hid (w.grownBy ((w3.setCell ⟨gr, k * 2, none⟩ (.string x.nm)).setCell ⟨gr, k * 2 + 1, none⟩ (.int .u32 x.fid)) (some gr)) := hid (grown_trans (grown_trans G3.out (grown_set ..)) (grown_set ..))
      have N4 : Hid (∀ y ∈ R', decide (y.nm = s) = false) := hid (fun y hy => HNE.out y (List.mem_cons_of_mem _ hy))
      have P4 : Hid (P ++ [x] ++ R' = A ++ B) := hid (by rw [← HPR.out]; simp)
      have L4 : Hid (k + 1 = (P ++ [x]).length) := hid (by rw [HK.out]; simp)
      have Q4 : Hid (R'.length = gk - 1) := hid (by have := HRL.out; simp only [List.length_cons] at this; omega)
      have M4 : Hid (n = k + 1 + 1 + (gk - 1)) := hid (by have := HNK.out; omega)
      clear hgz hlz z0 z1
      go_wp2
      go_roundg (gk - 1)
      case measure => omega
      case rel => exact ⟨P ++ [x], R', x, k + 1, by go_num, by go_num, L4, Q4, M4, P4, N4, R4, G4⟩
end Go.Proofs.YtloojakcknnilaaGreat
