/-
  
-/
import Derived.Test.YtpolbbdaippclaaGreatNsAe
import Derived.Test.YtpolbbdaippclaaGreatNsAd
import Derived.Test.YtpolbbdaippclaaGreatNsAi
import Derived.Test.YtpolbbdaippclaaGreatNsAp
namespace Go.Proofs.YtpolbbdaippclaaGreat
open Go.RowKit Go.ChangeShapes Go.WideShapes Go.ChangeAt
set_option linter.unusedVariables false
set_option linter.unusedSimpArgs false
set_option maxRecDepth 100000
theorem own_shapeR {w : World} {base e size n : Nat} {v : Value} {xs : List Value} (h : w.ownsRow base e size v n xs) : ∃ a cap, v = .slice a n cap := by
 rcases h.2 with ⟨hv, hn⟩ | ⟨g, cap, cur, hv, _⟩
 · exact ⟨_, _, by rw [hv, hn]⟩
 · exact ⟨_, _, hv⟩
theorem own_baseR {w : World} {base base' e size n : Nat} {v : Value} {xs : List Value} (h : w.ownsRow base e size v n xs) (hB : base' ≤ base) : w.ownsRow base' e size v n xs := by
 refine ⟨h.1, ?_⟩
 rcases h.2 with h | ⟨g, cap, cur, e1, e2, e3, e4⟩
 · exact .inl h
 · exact .inr ⟨g, cap, cur, e1, Nat.le_trans hB e2, e3, e4⟩
theorem tx_size (zs : List Int) : (Fr.tx zs).size = zs.length := by
 show (Fr.tx zs).data.toList.length = _
 unfold Fr.tx
 simp
def kidB (x : Kd) : List Int := txF x.nm ++ beF x.fid 4
def kidsB (l : List Kd) : List Int := l.flatMap kidB
def nodeB (x : Nd) : List Int := beF x.fid 4 ++ beF x.k 1 ++ beF x.md 2 ++ beF x.ln 2 ++ txF (Fr.tx x.zs) ++ (beF x.ks.length 1 ++ kidsB x.ks)
def SmallK (l : List Kd) : Prop := ∀ x ∈ l, x.nm.size ≤ 100
theorem kidB_len (x : Kd) : (kidB x).length = 5 + x.nm.size := by unfold kidB; rw [List.length_append, beF_len, txF_len]; omega
theorem kidsB_snoc (l : List Kd) (x : Kd) : kidsB (l ++ [x]) = kidsB l ++ kidB x := by unfold kidsB; simp
theorem kidsB_le {l : List Kd} (h : SmallK l) : (kidsB l).length ≤ l.length * 105 := by
 unfold kidsB
 induction l with
 | nil => simp
 | cons x t ih =>
   have h1 := h x (by simp)
   have h2 := ih (fun y hy => h y (by simp [hy]))
   rw [List.flatMap_cons, List.length_append, kidB_len, List.length_cons]
   omega
theorem smallK_take {l : List Kd} (h : SmallK l) (m : Nat) : SmallK (l.take m) := fun x hx => h x (List.mem_of_mem_take hx)
theorem kid_notU8 (x : Kd) : NotU8 (.cells #[.string x.nm, .int .u32 x.fid] 117 (0, 0)) := fun cs fr e => by
 injection e with e1 e2
 cases e2
theorem node_notU8 (x : Nd) : NotU8 (.cells x.cells.toArray 52 (0, 0)) := fun cs fr e => by
 injection e with e1 e2
 cases e2
set_option maxHeartbeats 2000000 in
theorem putKid_c (T base g : Nat) (zs : List Int) (x : Kd) (w : World) (hp : Pile w T base g zs) (hn : zs.length < 400000) (hw : x.Wf) (hs : x.nm.size ≤ 100) :
   Calls Tryz.prog 198 #[.pointer (some ⟨g, 0, none⟩), x.val] w fun e w' => e = .returned (.tuple #[]) ∧ Pile w' T base g (zs ++ kidB x) ∧ KpT base g w w' := by
 have hx : (w.alloc (.cells #[.string x.nm, .int .u32 x.fid] 117)).heap[w.heap.size]? = some (.cells #[.string x.nm, .int .u32 x.fid] 117 (0, 0)) := heap_alloc_new w _
 have y0 : (w.alloc (.cells #[.string x.nm, .int .u32 x.fid] 117)).cell? ⟨w.heap.size, 0, none⟩ = some (.string x.nm) := cell_of_row2 hx 0 rfl
 have hne : w.heap.size ≠ g := by have := hp.len; omega
 have HX := hid hx
 have K0 : Hid (KpT base g w (w.alloc (.cells #[.string x.nm, .int .u32 x.fid] 117))) := hid (alloc_kpT _ hp.len.2)
 have TC := hid (wtx_c (s := x.nm) (hp.other (w' := w) (.cells #[.string x.nm, .int .u32 x.fid] 117)) (by omega))
 have NC := hid (fun W (hq : Pile W T base g (zs ++ txF x.nm)) => num4_c (n := x.fid) hq (by rw [List.length_append, txF_len]; omega) hw.2.1 (by have := hw.2.2; omega))
 have u1 : IntKind.u64.wrap x.fid = x.fid := by rw [IntKind.wrap_u64]; have := hw.2; omega
 unfold Kd.val
 clear hx hp hw
 go_enter Tryz.func198, Tryz.ntmps198
 go_wp2_with (first
   | (go_at_call 169; refine (NC.out _ HP1.out).mono ?_; rintro _ w2 ⟨rfl, hp2, hk2⟩)
   | (go_at_call 196; refine TC.out.mono ?_; rintro _ w1 ⟨rfl, hp1, hk1⟩; have HP1 := hid hp1; have K1 := hid (K0.out.trans hk1); have z1 : w1.cell? ⟨w.heap.size, 1, none⟩ = some (.int .u32 x.fid) := cell_of_row2 (hk1.other _ _ HX.out hne (kid_notU8 x)) 1 rfl; clear hp1 hk1))
 refine body_end (by kernel_rfl) rfl ⟨rfl, ?_, K1.out.trans hk2⟩
 unfold kidB
 rw [← List.append_assoc]
 exact hp2
set_option maxHeartbeats 2000000 in
theorem putListK_c (T base g : Nat) (zs : List Int) (a : Option Addr) (cap : Nat) (l : List Kd) (w : World) (hp : Pile w T base g zs) (hn : zs.length < 1000) (hl : ∀ W, KpT base g w W → IsKs W a l) (hm : l.length ≤ 255) (hs : SmallK l) :
   Calls Tryz.prog 197 #[.pointer (some ⟨g, 0, none⟩), .slice a l.length cap, .func (.func 198) #[] #[]] w fun e w' => e = .returned (.tuple #[]) ∧ Pile w' T base g (zs ++ (beF l.length 1 ++ kidsB l)) ∧ KpT base g w w' := by
 have NC := hid (num1_c (n := (l.length : Int)) hp (by omega) (by omega) (by omega))
 have HL := hid hl
 have HS := hid hs
 have ku : IntKind.u64.wrap (l.length : Int) = l.length := by rw [IntKind.wrap_u64]; omega
 clear hp hl hs
 obtain ⟨n, hnn⟩ : ∃ n, n = l.length := ⟨_, rfl⟩
 rw [← hnn] at hm NC ku ⊢
 have HN := hid hnn
 clear hnn
 go_enter Tryz.func197, Tryz.ntmps197
 go_wp2_with (go_at_call 169; refine NC.out.mono ?_; rintro _ w1 ⟨rfl, hp1, hk1⟩; have HP1 := hid hp1; have K1 := hid hk1; clear hp1 hk1)
 clear NC
 go_loopg [15] n (fun k v wr => ∃ m : Nat, m + k = n ∧ v = .int .i64 m ∧ Hid (Pile wr T base g (zs ++ beF n 1 ++ kidsB (l.take m))) ∧ Hid (KpT base g w wr))
 case atStart => exact ⟨0, by omega, rfl, hid (by simpa [kidsB] using HP1.out), K1⟩
 case round =>
   clear HP1 K1
   obtain ⟨m, hmk, rfl, HP, HK⟩ := hrel
   by_cases hlt : m < n
   · have hltI : (m : Int) < n := by omega
     have hln : m < l.length := by rw [← HN.out]; exact hlt
     have hil := HL.out wr HK.out
     obtain ⟨b, off, rfl, _⟩ := hil.2.2 (by omega)
     obtain ⟨k0, k1⟩ := hil.at (i := m) hln
     have hwf := hil.wf (i := m) hln
     have hsz := HS.out (l.getD m Kd.no) (by rw [List.getD, List.getElem?_eq_getElem hln]; exact List.getElem_mem _)
     have HT := hid (take_kid (l := l) (m := m) hln)
     have hlen : (zs ++ beF n 1 ++ kidsB (l.take m)).length < 400000 := by
       have := kidsB_le (smallK_take HS.out m)
       rw [List.length_take] at this
       rw [List.length_append, List.length_append, beF_len]
       omega
     clear hil hln
     generalize l.getD m Kd.no = x at *
     have PC := hid (putKid_c T base g _ x _ (HP.out.other (w' := wr) (.cells #[.string x.nm, .int .u32 x.fid] 117)) hlen hwf hsz)
     have KA : Hid (KpT base g w (wr.alloc (.cells #[.string x.nm, .int .u32 x.fid] 117))) := hid (HK.out.trans (alloc_kpT _ HP.out.len.2))
     unfold Kd.val at PC
     clear hwf hsz hlen
     go_wp2_with (go_at_call 198; refine PC.out.mono ?_; rintro _ w2 ⟨rfl, hp2, hk2⟩)
     go_roundg (gk - 1)
     case measure => omega
     case rel => exact ⟨m + 1, by omega, by go_num, hid (by rw [HT.out, kidsB_snoc, ← List.append_assoc]; exact hp2), hid (KA.out.trans hk2)⟩
   · have em : m = n := by omega
     have hge : ¬ (m : Int) < n := by omega
     have HP2 : Hid (Pile wr T base g (zs ++ (beF n 1 ++ kidsB l))) := hid (by
       have := HP.out
       rw [List.take_of_length_le (by rw [← HN.out]; omega), List.append_assoc] at this
       exact this)
     go_wp2
     exact body_end (by kernel_rfl) rfl ⟨rfl, HP2.out, HK.out⟩
set_option maxHeartbeats 2000000 in
theorem putNode_c (T base g : Nat) (zs : List Int) (x : Nd) (w : World) (hp : Pile w T base g zs) (hn : zs.length < 500) (hl : ∀ W, KpT base g w W → x.Ok W) (hd : x.zs.length ≤ 64) (hm : x.ks.length ≤ 255) (hs : SmallK x.ks) :
   Calls Tryz.prog 171 #[.pointer (some ⟨g, 0, none⟩), x.val] w fun e w' => e = .returned (.tuple #[]) ∧ Pile w' T base g (zs ++ nodeB x) ∧ KpT base g w w' := by
 obtain ⟨h1, h2, h3, h4, _⟩ := hl w (KpT.refl _ _ _)
 have u1 : IntKind.u64.wrap x.fid = x.fid := by rw [IntKind.wrap_u64]; omega
 have u2 : IntKind.u64.wrap x.k = x.k := by rw [IntKind.wrap_u64]; omega
 have u3 : IntKind.u64.wrap x.md = x.md := by rw [IntKind.wrap_u64]; omega
 have u4 : IntKind.u64.wrap x.ln = x.ln := by rw [IntKind.wrap_u64]; omega
 have hx : (w.alloc (.cells x.cells.toArray 52)).heap[w.heap.size]? = some (.cells x.cells.toArray 52 (0, 0)) := heap_alloc_new w _
 obtain ⟨y0, y1, y2, y3, y4, y5⟩ := nd_cells hx
 have hne : w.heap.size ≠ g := by have := hp.len; omega
 have HX := hid hx
 have HP := hid (hp.other (w' := w) (.cells x.cells.toArray 52))
 have HK : Hid (KpT base g w (w.alloc (.cells x.cells.toArray 52))) := hid (alloc_kpT _ hp.len.2)
 have HL := hid hl
 have HS := hid hs
 unfold Nd.val
 clear hx hp hl hs
 go_enter Tryz.func171, Tryz.ntmps171
 clear y1 y2 y3 y4 y5
 have t0 := hid True.intro
 go_wp2_with (first
   | (have _q := t0.out; clear _q; go_at_call 169; refine (num4_c HP.out (by (try simp only [List.length_append, beF_len, txF_len, tx_size, List.length_nil]); omega) (by omega) (by omega)).mono ?_; rintro _ w9 ⟨rfl, hp9, hk9⟩
      have HX9 := hid (hk9.other _ _ HX.out hne (node_notU8 x))
      have HP9 := hid hp9
      have HK9 := hid (HK.out.trans hk9)
      have z1 := (nd_cells HX9.out).2.1
      have t1 := hid True.intro
      clear hp9 hk9 HP HK HX t0
      have HP := HP9
      have HK := HK9
      have HX := HX9
      clear HP9 HK9 HX9)
   | (have _q := t1.out; clear _q; go_at_call 169; refine (num1_c HP.out (by (try simp only [List.length_append, beF_len, txF_len, tx_size, List.length_nil]); omega) (by omega) (by omega)).mono ?_; rintro _ w9 ⟨rfl, hp9, hk9⟩
      have HX9 := hid (hk9.other _ _ HX.out hne (node_notU8 x))
      have HP9 := hid hp9
      have HK9 := hid (HK.out.trans hk9)
      have z2 := (nd_cells HX9.out).2.2.1
      have t2 := hid True.intro
      clear hp9 hk9 HP HK HX t1 z1
      have HP := HP9
      have HK := HK9
      have HX := HX9
      clear HP9 HK9 HX9)
   | (have _q := t2.out; clear _q; go_at_call 169; refine (num2_c HP.out (by (try simp only [List.length_append, beF_len, txF_len, tx_size, List.length_nil]); omega) (by omega) (by omega)).mono ?_; rintro _ w9 ⟨rfl, hp9, hk9⟩
      have HX9 := hid (hk9.other _ _ HX.out hne (node_notU8 x))
      have HP9 := hid hp9
      have HK9 := hid (HK.out.trans hk9)
      have z3 := (nd_cells HX9.out).2.2.2.1
      have t3 := hid True.intro
      clear hp9 hk9 HP HK HX t2 z2
      have HP := HP9
      have HK := HK9
      have HX := HX9
      clear HP9 HK9 HX9)
   | (have _q := t3.out; clear _q; go_at_call 169; refine (num2_c HP.out (by (try simp only [List.length_append, beF_len, txF_len, tx_size, List.length_nil]); omega) (by omega) (by omega)).mono ?_; rintro _ w9 ⟨rfl, hp9, hk9⟩
      have HX9 := hid (hk9.other _ _ HX.out hne (node_notU8 x))
      have HP9 := hid hp9
      have HK9 := hid (HK.out.trans hk9)
      have z4 := (nd_cells HX9.out).2.2.2.2.1
      have cv := conv_anyN (pc := x.dc) (HL.out _ HK9.out).2.2.2.2.1
      have t4 := hid True.intro
      clear hp9 hk9 HP HK HX t3 z3
      have HP := HP9
      have HK := HK9
      have HX := HX9
      clear HP9 HK9 HX9)
   | (have _q := t4.out; clear _q; go_at_call 196; refine (wtx_c HP.out (by (try simp only [List.length_append, beF_len, txF_len, tx_size, List.length_nil]); omega)).mono ?_; rintro _ w9 ⟨rfl, hp9, hk9⟩
      have HX9 := hid (hk9.other _ _ HX.out hne (node_notU8 x))
      have HP9 := hid hp9
      have HK9 := hid (HK.out.trans hk9)
      have z5 := (nd_cells HX9.out).2.2.2.2.2
      have t5 := hid True.intro
      clear hp9 hk9 HP HK HX t4 z4 cv
      have HP := HP9
      have HK := HK9
      have HX := HX9
      clear HP9 HK9 HX9)
   | (have _q := t5.out; clear _q; go_at_call 197; refine (putListK_c T base g _ x.ka x.kc x.ks _ HP.out (by (try simp only [List.length_append, beF_len, txF_len, tx_size, List.length_nil]); omega) (fun W hW => (HL.out W (HK.out.trans hW)).2.2.2.2.2) hm HS.out).mono ?_; rintro _ w9 ⟨rfl, hp9, hk9⟩
      have HX9 := hid (hk9.other _ _ HX.out hne (node_notU8 x))
      have HP9 := hid hp9
      have HK9 := hid (HK.out.trans hk9)
      clear hp9 hk9 HP HK HX t5 z5
      have HP := HP9
      have HK := HK9
      have HX := HX9
      clear HP9 HK9 HX9))
 refine body_end (by kernel_rfl) rfl ⟨rfl, ?_, HK.out⟩
 have := HP.out
 unfold nodeB
 simpa only [List.append_assoc] using this
set_option maxHeartbeats 1000000 in
theorem writtenNode_c (x : Nd) (w : World) (h : x.Ok w) (hd : x.zs.length ≤ 64) (hm : x.ks.length ≤ 255) (hs : SmallK x.ks) :
   Calls Tryz.prog 170 #[x.val, .func (.func 171) #[] #[]] w fun e w' => ∃ v, e = .returned v ∧ w'.ownsRow w.heap.size 5 1 v (nodeB x).length ((nodeB x).map u8V) ∧ Below w.heap.size w w' := by
 have hx : (w.alloc (.cells x.cells.toArray 52)).heap[w.heap.size]? = some (.cells x.cells.toArray 52 (0, 0)) := heap_alloc_new w _
 have b1 := below_1 w (.cells x.cells.toArray 52)
 have hx2 := ((below_1 (w.alloc (.cells x.cells.toArray 52)) (.cells #[.slice none 0 0] 218)).block _ (lt_blkR hx)).trans hx
 obtain ⟨y0, y1, y2, y3, y4, y5⟩ := nd_cells hx2
 have hg2 := heap_alloc_new (w.alloc (.cells x.cells.toArray 52)) (.cells #[.slice none 0 0] 218)
 have hs1 : (w.alloc (.cells x.cells.toArray 52)).heap.size = w.heap.size + 1 := by simp
 have hs2 : ((w.alloc (.cells x.cells.toArray 52)).alloc (.cells #[.slice none 0 0] 218)).heap.size = w.heap.size + 2 := by simp
 rw [hs1] at hg2
 have b2 := b1.trans ((below_1 (w.alloc (.cells x.cells.toArray 52)) (.cells #[.slice none 0 0] 218)).mono b1.size)
 have B2 := hid b2
 have HP : Hid (Pile ((w.alloc (.cells x.cells.toArray 52)).alloc (.cells #[.slice none 0 0] 218)) 218 (w.heap.size + 2) (w.heap.size + 1) []) := hid ⟨by omega, by rw [hs2]; omega, _, hg2, World.ownsRow_nil _ _ _ _⟩
 have PC := hid (putNode_c 218 (w.heap.size + 2) (w.heap.size + 1) [] x _ HP.out (by simp) (fun W hW => h.later (b2.trans (hW.below (by omega) (by omega)))) hd hm hs)
 rw [List.nil_append] at PC
 unfold Nd.val at PC ⊢
 clear hx hx2 hg2 hs1 hs2 b1 HP h b2
 go_enter Tryz.func170, Tryz.ntmps170
 go_wp2_with (first | (go_at_call 171; refine PC.out.mono ?_; rintro _ w1 ⟨rfl, ⟨hg, hbase, v, hbox, hown⟩, hk⟩; have hc := cell_box hbox; obtain ⟨va, vn, vc, rfl⟩ := own_slice hown))
 go_ret
 exact ⟨_, rfl, own_baseR hown (by omega), B2.out.trans (hk.below (by omega) (by omega))⟩
theorem kidsTo_name {l : List Kd} : ∀ m, kidsTo l m = true → ∀ i, i < m → Pa.nameB (l.getD i Kd.no).nm.data.toList = true
 | 0, _, i, hi => by omega
 | m + 1, h, i, hi => by
   simp only [kidsTo, Bool.and_eq_true] at h
   by_cases e : i = m
   · subst e
     have := h.2
     unfold kOk at this
     simp only [Bool.and_eq_true] at this
     exact this.1.1
   · exact kidsTo_name m h.1 i (by omega)
theorem kname_size {s : ByteArray} (h : Pa.nameB s.data.toList = true) : s.size ≤ 12 := by
 by_cases q : 12 < s.size
 · rw [Pa.nameB_long s.data.toList (by show 12 < s.size; exact q)] at h
   cases h
 · omega
theorem node_small {x : Nd} (h : nodeOk x = true) : x.zs.length ≤ 64 ∧ x.ks.length ≤ 12 ∧ SmallK x.ks := by
 unfold nodeOk at h
 simp only [Bool.and_eq_true, Bool.not_eq_true', Bool.or_eq_false_iff, decide_eq_false_iff_not] at h
 obtain ⟨⟨⟨_, h1⟩, h2⟩, h3⟩ := h
 refine ⟨by omega, by omega, fun k hk => ?_⟩
 obtain ⟨i, hi, rfl⟩ := List.getElem_of_mem hk
 have g : x.ks.getD i Kd.no = x.ks[i] := by rw [List.getD, List.getElem?_eq_getElem hi]; rfl
 cases q : (x.k == 1 || x.k == 3) with
 | true =>
   rw [q] at h3
   simp only [cond_true, decide_eq_true_eq] at h3
   omega
 | false =>
   rw [q] at h3
   cases q2 : (x.k == 2) with
   | false => rw [q2] at h3; simp at h3
   | true =>
     rw [q2] at h3
     simp only [cond_false, cond_true, Bool.and_eq_true] at h3
     have := kname_size (kidsTo_name _ h3.2 i hi)
     rw [g] at this
     omega
end Go.Proofs.YtpolbbdaippclaaGreat
namespace Go.Proofs.YtpolbbdaippclaaGreat
open Go.RowKit Go.ChangeShapes Go.WideShapes Go.ChangeAt Go.Maps
set_option linter.unusedVariables false
set_option linter.unusedSimpArgs false
set_option maxRecDepth 100000
structure St where
 fid : Int
 ver : Int
 wr : Int
def St.no : St := ⟨0, 0, 0⟩
def St.cells (x : St) : List Value := [.int .u32 x.fid, .int .u64 x.ver, .int .u8 x.wr]
def St.val (x : St) : Value := .agg #[.int .u32 x.fid, .int .u64 x.ver, .int .u8 x.wr]
def St.Wf (x : St) : Prop := (0 ≤ x.fid ∧ x.fid < 4294967296) ∧ (0 ≤ x.ver ∧ x.ver < 18446744073709551616) ∧ (0 ≤ x.wr ∧ x.wr < 256)
def StC (w : World) (b o : Nat) (x : St) : Prop := w.cell? ⟨b, o, none⟩ = some (.int .u32 x.fid) ∧ w.cell? ⟨b, o + 1, none⟩ = some (.int .u64 x.ver) ∧ w.cell? ⟨b, o + 2, none⟩ = some (.int .u8 x.wr)
def IsSs (w : World) (a : Option Addr) (l : List St) : Prop :=
 l.length ≤ maxLen ∧ (∀ x ∈ l, x.Wf) ∧ (0 < l.length → ∃ b off, a = some ⟨b, off, none⟩ ∧ ∀ i, i < l.length → StC w b (off + i * 3) (l.getD i St.no))
theorem IsSs.later {w w' : World} {a : Option Addr} {l : List St} (h : IsSs w a l) (hb : Below w.heap.size w w') : IsSs w' a l := by
 obtain ⟨h1, h2, h3⟩ := h
 refine ⟨h1, h2, fun hp => ?_⟩
 obtain ⟨b, off, e, hc⟩ := h3 hp
 exact ⟨b, off, e, fun i hi => ⟨cell_later hb (hc i hi).1, cell_later hb (hc i hi).2.1, cell_later hb (hc i hi).2.2⟩⟩
theorem IsSs.at {w : World} {b off : Nat} {l : List St} {i : Nat} (h : IsSs w (some ⟨b, off, none⟩) l) (hi : i < l.length) : StC w b (off + i * 3) (l.getD i St.no) := by
 obtain ⟨b', off', e, hc⟩ := h.2.2 (by omega)
 cases e
 exact hc i hi
theorem IsSs.wf {w : World} {a : Option Addr} {l : List St} (h : IsSs w a l) {i : Nat} (hi : i < l.length) : (l.getD i St.no).Wf := h.2.1 _ (getD_mem l St.no hi)
def stB (x : Nd) (s : St) : Bool := s.fid == x.fid && decide (s.wr ≤ 3)
set_option maxHeartbeats 1000000 in
theorem rightStamp_c (x : Nd) (s : St) (w : World) :
   Calls Tryz.prog 124 #[x.val, s.val] w fun e w' => e = .returned (.bool (stB x s)) ∧ Below w.heap.size w w' := by
 have b0 := below_1 w (.cells x.cells.toArray 52)
 have h0 := heap_alloc_new w (.cells x.cells.toArray 52)
 have b1 := below_1 (w.alloc (.cells x.cells.toArray 52)) (.cells s.cells.toArray 47)
 have h1 := heap_alloc_new (w.alloc (.cells x.cells.toArray 52)) (.cells s.cells.toArray 47)
 rw [show (w.alloc (.cells x.cells.toArray 52)).heap.size = w.heap.size + 1 by simp] at h1
 have h0' := (b1.block _ (lt_blkR h0)).trans h0
 have BV := hid (b0.trans (b1.mono b0.size))
 have y0 := (nd_cells h0').1
 have z0 : ((w.alloc (.cells x.cells.toArray 52)).alloc (.cells s.cells.toArray 47)).cell? ⟨w.heap.size + 1, 0, none⟩ = some (.int .u32 s.fid) := cell_of_row2 h1 0 rfl
 have z2 : ((w.alloc (.cells x.cells.toArray 52)).alloc (.cells s.cells.toArray 47)).cell? ⟨w.heap.size + 1, 2, none⟩ = some (.int .u8 s.wr) := cell_of_row2 h1 2 rfl
 obtain ⟨nk, hnk⟩ : ∃ nk, nk = stB x s := ⟨_, rfl⟩
 rw [← hnk]
 unfold stB at hnk
 have HE := hid hnk
 clear hnk b0 b1 h0 h1 h0'
 obtain ⟨fid, k, md, ln, da, dc, zs, ka, kc, ks⟩ := x
 obtain ⟨sf, sv, sw⟩ := s
 simp only [Nd.val, Nd.cells, St.val, St.cells] at *
 by_cases q1 : sf = fid
 · have q1B : (sf == fid) = true := by rw [q1]; simp
   by_cases q2 : sw ≤ 3
   · have F : Hid (nk = true) := hid (by rw [HE.out, q1B, decide_eq_true q2]; rfl)
     clear HE q1
     go_enter Tryz.func124, Tryz.ntmps124
     go_wp2
     go_ret
     exact ⟨ret_bool' F.out.symm, BV.out⟩
   · have F : Hid (nk = false) := hid (by rw [HE.out, q1B, decide_eq_false q2]; rfl)
     clear HE q1
     go_enter Tryz.func124, Tryz.ntmps124
     go_wp2
     go_ret
     exact ⟨ret_bool' F.out.symm, BV.out⟩
 · have q1B : (sf == fid) = false := beq_eq_false_iff_ne.2 q1
   have F : Hid (nk = false) := hid (by rw [HE.out, q1B]; rfl)
   clear HE
   go_enter Tryz.func124, Tryz.ntmps124
   go_wp2
   go_ret
   exact ⟨ret_bool' F.out.symm, BV.out⟩
def stTo (ns : List Nd) (ss : List St) : Nat → Bool
 | 0 => true
 | m + 1 => stTo ns ss m && stB (ns.getD m Nd.no) (ss.getD m St.no)
def stOk (ns : List Nd) (ss : List St) : Bool := decide (ns.length = ss.length) && stTo ns ss ns.length
theorem st_no (ns : List Nd) (ss : List St) (m : Nat) (h : stB (ns.getD m Nd.no) (ss.getD m St.no) = false) : ∀ d, stTo ns ss (m + 1 + d) = false
 | 0 => by simp only [Nat.add_zero, stTo, h, Bool.and_false]
 | d + 1 => by rw [← Nat.add_assoc]; simp only [stTo, st_no ns ss m h d, Bool.false_and]
theorem stTo_no {ns : List Nd} {ss : List St} {m : Nat} (hm : m < ns.length) (h : stB (ns.getD m Nd.no) (ss.getD m St.no) = false) : stTo ns ss ns.length = false := by
 obtain ⟨d, hd⟩ : ∃ d, ns.length = m + 1 + d := ⟨ns.length - (m + 1), by omega⟩
 rw [hd]; exact st_no ns ss m h d
theorem stTo_er (ns : List Nd) (ss : List St) : ∀ m, stTo (ns.map Nd.er) ss m = stTo ns ss m
 | 0 => rfl
 | m + 1 => by
   simp only [stTo, stTo_er ns ss m, getD_er]
   rfl
theorem stOk_er (ns : List Nd) (ss : List St) : stOk (ns.map Nd.er) ss = stOk ns ss := by
 unfold stOk
 rw [List.length_map, stTo_er]
set_option maxHeartbeats 2000000 in
theorem equalSt_c (a b : Option Addr) (ca cb : Nat) (ns : List Nd) (ss : List St) (w : World) (hn : IsNs w a ns) (hs : IsSs w b ss) (hm : ns.length ≤ 100000) (hm' : ss.length ≤ 100000) :
   Calls Tryz.prog 123 #[.slice a ns.length ca, .slice b ss.length cb, .func (.func 124) #[] #[]] w fun e w' => e = .returned (.bool (stOk ns ss)) ∧ Below w.heap.size w w' := by
 unfold stOk
 by_cases q : ns.length = ss.length
 · have qB : ((ns.length : Int) != (ss.length : Int)) = false := by rw [q]; simp
   rw [decide_eq_true q, Bool.true_and]
   have HN := hid hn
   have HS := hid hs
   have HQ := hid q
   obtain ⟨n, hnn⟩ : ∃ n, n = ns.length := ⟨_, rfl⟩
   have HNN := hid hnn
   rw [← q]
   obtain ⟨R, hR⟩ : ∃ R, R = stTo ns ss ns.length := ⟨_, rfl⟩
   rw [← hR]
   have HR := hid hR
   rw [← hnn] at hm ⊢
   clear hn hs qB q hm' hnn hR
   go_enter Tryz.func123, Tryz.ntmps123
   go_wp2
   go_loopg [17] n (fun gk i wr => ∃ m : Nat, m + gk = n ∧ i = .int .i64 m ∧ Hid (Below w.heap.size w wr) ∧ Hid (stTo ns ss m = true))
   case atStart => exact ⟨0, by omega, rfl, hid (Below.refl _ _), hid rfl⟩
   case round =>
     obtain ⟨m, hm2, rfl, HB, HI⟩ := hrel
     by_cases hlt : m < n
     · have hltI : (m : Int) < n := by omega
       have h1 : m < ns.length := by rw [← HNN.out]; exact hlt
       have h2 : m < ss.length := by rw [← HQ.out]; exact h1
       obtain ⟨b1, o1, rfl, _⟩ := HN.out.2.2 (by omega)
       obtain ⟨b2, o2, rfl, _⟩ := HS.out.2.2 (by omega)
       obtain ⟨y0, y1, y2, y3, y4, y5⟩ := ((HN.out.later HB.out).at (i := m) h1).all
       obtain ⟨z0, z1, z2⟩ := (HS.out.later HB.out).at (i := m) h2
       have NO := hid (stTo_no (ss := ss) h1)
       have NX : Hid (stB (ns.getD m Nd.no) (ss.getD m St.no) = true → stTo ns ss (m + 1) = true) := hid (fun h => by simp only [stTo, HI.out, h, Bool.and_self])
       clear h1 h2
       generalize ns.getD m Nd.no = x at *
       generalize ss.getD m St.no = s at *
       have RC := hid (fun W => rightStamp_c x s W)
       have bA := below_1 wr (.cells x.cells.toArray 52)
       have hA := heap_alloc_new wr (.cells x.cells.toArray 52)
       have bB := below_1 (wr.alloc (.cells x.cells.toArray 52)) (.cells s.cells.toArray 47)
       have hB := heap_alloc_new (wr.alloc (.cells x.cells.toArray 52)) (.cells s.cells.toArray 47)
       rw [show (wr.alloc (.cells x.cells.toArray 52)).heap.size = wr.heap.size + 1 by simp] at hB
       have hA2 := (bB.block _ (lt_blkR hA)).trans hA
       obtain ⟨p0, p1, p2, p3, p4, p5⟩ := nd_cells hA2
       have r0 : ((wr.alloc (.cells x.cells.toArray 52)).alloc (.cells s.cells.toArray 47)).cell? ⟨wr.heap.size + 1, 0, none⟩ = some (.int .u32 s.fid) := cell_of_row2 hB 0 rfl
       have r1 : ((wr.alloc (.cells x.cells.toArray 52)).alloc (.cells s.cells.toArray 47)).cell? ⟨wr.heap.size + 1, 1, none⟩ = some (.int .u64 s.ver) := cell_of_row2 hB 1 rfl
       have r2 : ((wr.alloc (.cells x.cells.toArray 52)).alloc (.cells s.cells.toArray 47)).cell? ⟨wr.heap.size + 1, 2, none⟩ = some (.int .u8 s.wr) := cell_of_row2 hB 2 rfl
       have w0 := cell_later bA z0
       have w1 := cell_later bA z1
       have w2 := cell_later bA z2
       have HB2 := hid (HB.out.trans ((bA.trans (bB.mono bA.size)).mono HB.out.size))
       clear bA bB hA hB hA2 z0 z1 z2
       cases qs : stB x s with
       | false =>
         have EF := hid (HR.out.trans (NO.out qs))
         rw [qs] at RC
         clear NO NX qs
         obtain ⟨fid, k, md, ln, da, dc, zs, ka, kc, ks⟩ := x
         obtain ⟨sf, sv, sw⟩ := s
         simp only [Nd.val, Nd.cells, St.val, St.cells] at *
         go_wp2_with (go_at_call 124; refine (RC.out _).mono ?_; rintro _ w9 ⟨rfl, hb9⟩)
         go_ret
         exact ⟨ret_bool' EF.out.symm, HB2.out.trans (hb9.mono HB2.out.size)⟩
       | true =>
         have ET := hid (NX.out qs)
         rw [qs] at RC
         clear NO NX qs
         obtain ⟨fid, k, md, ln, da, dc, zs, ka, kc, ks⟩ := x
         obtain ⟨sf, sv, sw⟩ := s
         simp only [Nd.val, Nd.cells, St.val, St.cells] at *
         go_wp2_with (go_at_call 124; refine (RC.out _).mono ?_; rintro _ w9 ⟨rfl, hb9⟩)
         go_roundg (gk - 1)
         case measure => omega
         case rel => exact ⟨m + 1, by omega, by go_num, hid (HB2.out.trans (hb9.mono HB2.out.size)), ET⟩
     · have hge : ¬ (m : Int) < n := by omega
       have EF : Hid (R = true) := hid (by rw [HR.out, ← HNN.out, show n = m by omega]; exact HI.out)
       go_wp2
       go_ret
       exact ⟨ret_bool' EF.out.symm, HB.out⟩
 · have qB : ((ns.length : Int) != (ss.length : Int)) = true := by rw [bne_iff_ne]; omega
   rw [decide_eq_false q, Bool.false_and]
   clear hn hs
   go_enter Tryz.func123, Tryz.ntmps123
   go_wp2
   go_ret
   exact ⟨rfl, Below.refl _ _⟩
def RSnap (ns : List Nd) (ss : List St) : Prop := RightP ns ∧ stOk ns ss = true
def RsP2 (ns : List Nd) (ss : List St) (w : World) (e : Ending) (w' : World) : Prop := ∃ b, e = .returned (.bool b) ∧ (b = true ↔ RSnap ns ss) ∧ Below w.heap.size w w'
set_option maxHeartbeats 2000000 in
theorem rightSnapshot_c (a b : Option Addr) (ca cb : Nat) (ns : List Nd) (ss : List St) (w : World) (hn : IsNs w a ns) (hs : IsSs w b ss) (hm : ns.length ≤ 100000) (hm' : ss.length ≤ 100000) :
   Calls Tryz.prog 81 #[.agg #[.slice a ns.length ca, .slice b ss.length cb]] w fun e w' => RsP2 ns ss w e w' := by
 have b0 := below_1 w (.cells #[.slice a ns.length ca, .slice b ss.length cb] 44)
 have h0 := heap_alloc_new w (.cells #[.slice a ns.length ca, .slice b ss.length cb] 44)
 have y0 : (w.alloc (.cells #[.slice a ns.length ca, .slice b ss.length cb] 44)).cell? ⟨w.heap.size, 0, none⟩ = some (.slice a ns.length ca) := cell_of_row2 h0 0 rfl
 have RC := hid (right_c a ca ns _ (hn.later b0) hm)
 have EC := hid (fun W (hW : Below w.heap.size w W) => equalSt_c a b ca cb ns ss W (hn.later hW) (hs.later hW) hm hm')
 have B0 := hid b0
 have H0 := hid h0
 clear b0 h0 hn hs
 unfold RtP at RC
 go_enter Tryz.func81, Tryz.ntmps81
 go_upto_region 1 with fail
 generalize (w.alloc (.cells #[.slice a ns.length ca, .slice b ss.length cb] 44)) = V at *
 go_wp2_with (first
   | (go_at_call 122; refine RC.out.mono ?_; rintro _ w1 ⟨b1, rfl, hq1, hb1⟩
      have Q1 := hid hq1
      have B1 := hid (B0.out.trans (hb1.mono B0.out.size))
      have z0 : w1.cell? ⟨w.heap.size, 0, none⟩ = some (.slice a ns.length ca) := cell_of_row2 ((hb1.block _ (lt_blkR H0.out)).trans H0.out) 0 rfl
      have z1 : w1.cell? ⟨w.heap.size, 1, none⟩ = some (.slice b ss.length cb) := cell_of_row2 ((hb1.block _ (lt_blkR H0.out)).trans H0.out) 1 rfl
      clear hq1 hb1)
   | (go_at_call 123; refine (EC.out _ B1.out).mono ?_; rintro _ w2 ⟨rfl, hb2⟩; have B2 := hid (B1.out.trans (hb2.mono B1.out.size)); clear hb2))
 · rename_i hb
   go_ret
   exact ⟨stOk ns ss, rfl, ⟨fun h => ⟨Q1.out.1 hb, h⟩, fun h => h.2⟩, B2.out⟩
 · rename_i hb
   go_ret
   exact ⟨false, rfl, ⟨(fun h => by cases h), fun h => absurd (Q1.out.2 h.1) hb⟩, B1.out⟩
def stampB (s : St) : List Int := beF s.fid 4 ++ (beF s.ver 8 ++ beF s.wr 1)
def stampsB (l : List St) : List Int := l.flatMap stampB
def measB (x : Nd) : List Int := beF (nodeB x).length 2 ++ nodeB x
def measuresB (l : List Nd) : List Int := l.flatMap measB
def snapB (ns : List Nd) (ss : List St) : List Int := (beF ns.length 1 ++ measuresB ns) ++ (beF ss.length 1 ++ stampsB ss)
theorem measuresB_er (l : List Nd) : measuresB (l.map Nd.er) = measuresB l := by
 unfold measuresB
 rw [List.flatMap_map]
 rfl
theorem snapB_er (ns : List Nd) (ss : List St) : snapB (ns.map Nd.er) ss = snapB ns ss := by
 unfold snapB
 rw [List.length_map, measuresB_er]
theorem nodeB_len {x : Nd} (hw : x.Wf) (ho : nodeOk x = true) : (nodeB x).length ≤ 2000 := by
 obtain ⟨s1, s2, s3⟩ := node_small ho
 have := kidsB_le s3
 unfold nodeB
 simp only [List.length_append, beF_len, txF_len, Fr.tx_size]
 omega
end Go.Proofs.YtpolbbdaippclaaGreat
