/-
  A node's bytes: putKid, putList, putNode, written, Node of the package record.
-/
import Derived.Test.YthoaiapfjbgfhaaDoorLiBg
import Derived.Test.YthoaiapfjbgfhaaDoorLiAk
namespace Go.Proofs.YthoaiapfjbgfhaaDoor
open Go.RowKit Go.ChangeShapes Go.WideShapes Go.ChangeAt
set_option linter.unusedVariables false
set_option linter.unusedSimpArgs false
set_option maxRecDepth 100000
theorem own_shapeR {w : World} {base e size n : Nat} {v : Value} {xs : List Value} (h : w.ownsRow base e size v n xs) : ∃ a cap, v = .slice a n cap := by
 rcases h.2 with ⟨hv, hn⟩ | ⟨g, cap, cur, hv, _⟩
 · exact ⟨_, _, by rw [hv, hn]⟩
 · exact ⟨_, _, hv⟩
theorem own_baseR {w : World} {base base' e size n : Nat} {v : Value} {xs : List Value} (h : w.ownsRow base e size v n xs) (hB : base' ≤ base) : w.ownsRow base' e size v n xs := by
 refine ⟨h.1, ?_⟩
 rcases h.2 with h | ⟨g, cap, cur, e1, e2, e3, e4⟩
 · exact .inl h
 · exact .inr ⟨g, cap, cur, e1, Nat.le_trans hB e2, e3, e4⟩
theorem tx_size (zs : List Int) : (Fr.tx zs).size = zs.length := by
 show (Fr.tx zs).data.toList.length = _
 unfold Fr.tx
 simp
def kidB (x : Kd) : List Int := txF x.nm ++ beF x.fid 4
def kidsB (l : List Kd) : List Int := l.flatMap kidB
def nodeB (x : Nd) : List Int := beF x.fid 4 ++ beF x.k 1 ++ beF x.md 2 ++ beF x.ln 2 ++ txF (Fr.tx x.zs) ++ (beF x.ks.length 1 ++ kidsB x.ks)
def SmallK (l : List Kd) : Prop := ∀ x ∈ l, x.nm.size ≤ 100
theorem kidB_len (x : Kd) : (kidB x).length = 5 + x.nm.size := by unfold kidB; rw [List.length_append, beF_len, txF_len]; omega
theorem kidsB_snoc (l : List Kd) (x : Kd) : kidsB (l ++ [x]) = kidsB l ++ kidB x := by unfold kidsB; simp
theorem kidsB_le {l : List Kd} (h : SmallK l) : (kidsB l).length ≤ l.length * 105 := by
 unfold kidsB
 induction l with
 | nil => simp
 | cons x t ih =>
   have h1 := h x (by simp)
   have h2 := ih (fun y hy => h y (by simp [hy]))
   rw [List.flatMap_cons, List.length_append, kidB_len, List.length_cons]
   omega
theorem smallK_take {l : List Kd} (h : SmallK l) (m : Nat) : SmallK (l.take m) := fun x hx => h x (List.mem_of_mem_take hx)
theorem kid_notU8 (x : Kd) : NotU8 (.cells #[.string x.nm, .int .u32 x.fid] 71 (0, 0)) := fun cs fr e => by
 injection e with e1 e2
 cases e2
theorem node_notU8 (x : Nd) : NotU8 (.cells x.cells.toArray 35 (0, 0)) := fun cs fr e => by
 injection e with e1 e2
 cases e2
set_option maxHeartbeats 2000000 in
theorem putKid_c (T base g : Nat) (zs : List Int) (x : Kd) (w : World) (hp : Pile w T base g zs) (hn : zs.length < 400000) (hw : x.Wf) (hs : x.nm.size ≤ 100) :
   Calls Tryd.prog 84 #[.pointer (some ⟨g, 0, none⟩), x.val] w fun e w' => e = .returned (.tuple #[]) ∧ Pile w' T base g (zs ++ kidB x) ∧ KpT base g w w' := by
 have hx : (w.alloc (.cells #[.string x.nm, .int .u32 x.fid] 71)).heap[w.heap.size]? = some (.cells #[.string x.nm, .int .u32 x.fid] 71 (0, 0)) := heap_alloc_new w _
 have y0 : (w.alloc (.cells #[.string x.nm, .int .u32 x.fid] 71)).cell? ⟨w.heap.size, 0, none⟩ = some (.string x.nm) := cell_of_row2 hx 0 rfl
 have hne : w.heap.size ≠ g := by have := hp.len; omega
 have HX := hid hx
 have K0 : Hid (KpT base g w (w.alloc (.cells #[.string x.nm, .int .u32 x.fid] 71))) := hid (alloc_kpT _ hp.len.2)
 have TC := hid (wtx_c (s := x.nm) (hp.other (w' := w) (.cells #[.string x.nm, .int .u32 x.fid] 71)) (by omega))
 have NC := hid (fun W (hq : Pile W T base g (zs ++ txF x.nm)) => num4_c (n := x.fid) hq (by rw [List.length_append, txF_len]; omega) hw.2.1 (by have := hw.2.2; omega))
 have u1 : IntKind.u64.wrap x.fid = x.fid := by rw [IntKind.wrap_u64]; have := hw.2; omega
 unfold Kd.val
 clear hx hp hw
 go_enter Tryd.func84, Tryd.ntmps84
 go_wp2_with (first
   | (go_at_call 81; refine (NC.out _ HP1.out).mono ?_; rintro _ w2 ⟨rfl, hp2, hk2⟩)
   | (go_at_call 82; refine TC.out.mono ?_; rintro _ w1 ⟨rfl, hp1, hk1⟩; have HP1 := hid hp1; have K1 := hid (K0.out.trans hk1); have z1 : w1.cell? ⟨w.heap.size, 1, none⟩ = some (.int .u32 x.fid) := cell_of_row2 (hk1.other _ _ HX.out hne (kid_notU8 x)) 1 rfl; clear hp1 hk1))
 refine body_end (by kernel_rfl) rfl ⟨rfl, ?_, K1.out.trans hk2⟩
 unfold kidB
 rw [← List.append_assoc]
 exact hp2
set_option maxHeartbeats 2000000 in
theorem putListK_c (T base g : Nat) (zs : List Int) (a : Option Addr) (cap : Nat) (l : List Kd) (w : World) (hp : Pile w T base g zs) (hn : zs.length < 1000) (hl : ∀ W, KpT base g w W → IsKs W a l) (hm : l.length ≤ 255) (hs : SmallK l) :
   Calls Tryd.prog 83 #[.pointer (some ⟨g, 0, none⟩), .slice a l.length cap, .func (.func 84) #[] #[]] w fun e w' => e = .returned (.tuple #[]) ∧ Pile w' T base g (zs ++ (beF l.length 1 ++ kidsB l)) ∧ KpT base g w w' := by
 have NC := hid (num1_c (n := (l.length : Int)) hp (by omega) (by omega) (by omega))
 have HL := hid hl
 have HS := hid hs
 have ku : IntKind.u64.wrap (l.length : Int) = l.length := by rw [IntKind.wrap_u64]; omega
 clear hp hl hs
 obtain ⟨n, hnn⟩ : ∃ n, n = l.length := ⟨_, rfl⟩
 rw [← hnn] at hm NC ku ⊢
 have HN := hid hnn
 clear hnn
 go_enter Tryd.func83, Tryd.ntmps83
 go_wp2_with (go_at_call 81; refine NC.out.mono ?_; rintro _ w1 ⟨rfl, hp1, hk1⟩; have HP1 := hid hp1; have K1 := hid hk1; clear hp1 hk1)
 clear NC
 go_loopg [15] n (fun k v wr => ∃ m : Nat, m + k = n ∧ v = .int .i64 m ∧ Hid (Pile wr T base g (zs ++ beF n 1 ++ kidsB (l.take m))) ∧ Hid (KpT base g w wr))
 case atStart => exact ⟨0, by omega, rfl, hid (by simpa [kidsB] using HP1.out), K1⟩
 case round =>
   clear HP1 K1
   obtain ⟨m, hmk, rfl, HP, HK⟩ := hrel
   by_cases hlt : m < n
   · have hltI : (m : Int) < n := by omega
     have hln : m < l.length := by rw [← HN.out]; exact hlt
     have hil := HL.out wr HK.out
     obtain ⟨b, off, rfl, _⟩ := hil.2.2 (by omega)
     obtain ⟨k0, k1⟩ := hil.at (i := m) hln
     have hwf := hil.wf (i := m) hln
     have hsz := HS.out (l.getD m Kd.no) (by rw [List.getD, List.getElem?_eq_getElem hln]; exact List.getElem_mem _)
     have HT := hid (take_kid (l := l) (m := m) hln)
     have hlen : (zs ++ beF n 1 ++ kidsB (l.take m)).length < 400000 := by
       have := kidsB_le (smallK_take HS.out m)
       rw [List.length_take] at this
       rw [List.length_append, List.length_append, beF_len]
       omega
     clear hil hln
     generalize l.getD m Kd.no = x at *
     have PC := hid (putKid_c T base g _ x _ (HP.out.other (w' := wr) (.cells #[.string x.nm, .int .u32 x.fid] 71)) hlen hwf hsz)
     have KA : Hid (KpT base g w (wr.alloc (.cells #[.string x.nm, .int .u32 x.fid] 71))) := hid (HK.out.trans (alloc_kpT _ HP.out.len.2))
     unfold Kd.val at PC
     clear hwf hsz hlen
     go_wp2_with (go_at_call 84; refine PC.out.mono ?_; rintro _ w2 ⟨rfl, hp2, hk2⟩)
     go_roundg (gk - 1)
     case measure => omega
     case rel => exact ⟨m + 1, by omega, by go_num, hid (by rw [HT.out, kidsB_snoc, ← List.append_assoc]; exact hp2), hid (KA.out.trans hk2)⟩
   · have em : m = n := by omega
     have hge : ¬ (m : Int) < n := by omega
     have HP2 : Hid (Pile wr T base g (zs ++ (beF n 1 ++ kidsB l))) := hid (by
       have := HP.out
       rw [List.take_of_length_le (by rw [← HN.out]; omega), List.append_assoc] at this
       exact this)
     go_wp2
     exact body_end (by kernel_rfl) rfl ⟨rfl, HP2.out, HK.out⟩
set_option maxHeartbeats 2000000 in
theorem putNode_c (T base g : Nat) (zs : List Int) (x : Nd) (w : World) (hp : Pile w T base g zs) (hn : zs.length < 500) (hl : ∀ W, KpT base g w W → x.Ok W) (hd : x.zs.length ≤ 64) (hm : x.ks.length ≤ 255) (hs : SmallK x.ks) :
   Calls Tryd.prog 52 #[.pointer (some ⟨g, 0, none⟩), x.val] w fun e w' => e = .returned (.tuple #[]) ∧ Pile w' T base g (zs ++ nodeB x) ∧ KpT base g w w' := by
 obtain ⟨h1, h2, h3, h4, _⟩ := hl w (KpT.refl _ _ _)
 have u1 : IntKind.u64.wrap x.fid = x.fid := by rw [IntKind.wrap_u64]; omega
 have u2 : IntKind.u64.wrap x.k = x.k := by rw [IntKind.wrap_u64]; omega
 have u3 : IntKind.u64.wrap x.md = x.md := by rw [IntKind.wrap_u64]; omega
 have u4 : IntKind.u64.wrap x.ln = x.ln := by rw [IntKind.wrap_u64]; omega
 have hx : (w.alloc (.cells x.cells.toArray 35)).heap[w.heap.size]? = some (.cells x.cells.toArray 35 (0, 0)) := heap_alloc_new w _
 obtain ⟨y0, y1, y2, y3, y4, y5⟩ := nd_cells hx
 have hne : w.heap.size ≠ g := by have := hp.len; omega
 have HX := hid hx
 have HP := hid (hp.other (w' := w) (.cells x.cells.toArray 35))
 have HK : Hid (KpT base g w (w.alloc (.cells x.cells.toArray 35))) := hid (alloc_kpT _ hp.len.2)
 have HL := hid hl
 have HS := hid hs
 unfold Nd.val
 clear hx hp hl hs
 go_enter Tryd.func52, Tryd.ntmps52
 clear y1 y2 y3 y4 y5
 have t0 := hid True.intro
 go_wp2_with (first
   | (have _q := t0.out; clear _q; go_at_call 81; refine (num4_c HP.out (by (try simp only [List.length_append, beF_len, txF_len, tx_size, List.length_nil]); omega) (by omega) (by omega)).mono ?_; rintro _ w9 ⟨rfl, hp9, hk9⟩
      have HX9 := hid (hk9.other _ _ HX.out hne (node_notU8 x))
      have HP9 := hid hp9
      have HK9 := hid (HK.out.trans hk9)
      have z1 := (nd_cells HX9.out).2.1
      have t1 := hid True.intro
      clear hp9 hk9 HP HK HX t0
      have HP := HP9
      have HK := HK9
      have HX := HX9
      clear HP9 HK9 HX9)
   | (have _q := t1.out; clear _q; go_at_call 81; refine (num1_c HP.out (by (try simp only [List.length_append, beF_len, txF_len, tx_size, List.length_nil]); omega) (by omega) (by omega)).mono ?_; rintro _ w9 ⟨rfl, hp9, hk9⟩
      have HX9 := hid (hk9.other _ _ HX.out hne (node_notU8 x))
      have HP9 := hid hp9
      have HK9 := hid (HK.out.trans hk9)
      have z2 := (nd_cells HX9.out).2.2.1
      have t2 := hid True.intro
      clear hp9 hk9 HP HK HX t1 z1
      have HP := HP9
      have HK := HK9
      have HX := HX9
      clear HP9 HK9 HX9)
   | (have _q := t2.out; clear _q; go_at_call 81; refine (num2_c HP.out (by (try simp only [List.length_append, beF_len, txF_len, tx_size, List.length_nil]); omega) (by omega) (by omega)).mono ?_; rintro _ w9 ⟨rfl, hp9, hk9⟩
      have HX9 := hid (hk9.other _ _ HX.out hne (node_notU8 x))
      have HP9 := hid hp9
      have HK9 := hid (HK.out.trans hk9)
      have z3 := (nd_cells HX9.out).2.2.2.1
      have t3 := hid True.intro
      clear hp9 hk9 HP HK HX t2 z2
      have HP := HP9
      have HK := HK9
      have HX := HX9
      clear HP9 HK9 HX9)
   | (have _q := t3.out; clear _q; go_at_call 81; refine (num2_c HP.out (by (try simp only [List.length_append, beF_len, txF_len, tx_size, List.length_nil]); omega) (by omega) (by omega)).mono ?_; rintro _ w9 ⟨rfl, hp9, hk9⟩
      have HX9 := hid (hk9.other _ _ HX.out hne (node_notU8 x))
      have HP9 := hid hp9
      have HK9 := hid (HK.out.trans hk9)
      have z4 := (nd_cells HX9.out).2.2.2.2.1
      have cv := conv_anyN (pc := x.dc) (HL.out _ HK9.out).2.2.2.2.1
      have t4 := hid True.intro
      clear hp9 hk9 HP HK HX t3 z3
      have HP := HP9
      have HK := HK9
      have HX := HX9
      clear HP9 HK9 HX9)
   | (have _q := t4.out; clear _q; go_at_call 82; refine (wtx_c HP.out (by (try simp only [List.length_append, beF_len, txF_len, tx_size, List.length_nil]); omega)).mono ?_; rintro _ w9 ⟨rfl, hp9, hk9⟩
      have HX9 := hid (hk9.other _ _ HX.out hne (node_notU8 x))
      have HP9 := hid hp9
      have HK9 := hid (HK.out.trans hk9)
      have z5 := (nd_cells HX9.out).2.2.2.2.2
      have t5 := hid True.intro
      clear hp9 hk9 HP HK HX t4 z4 cv
      have HP := HP9
      have HK := HK9
      have HX := HX9
      clear HP9 HK9 HX9)
   | (have _q := t5.out; clear _q; go_at_call 83; refine (putListK_c T base g _ x.ka x.kc x.ks _ HP.out (by (try simp only [List.length_append, beF_len, txF_len, tx_size, List.length_nil]); omega) (fun W hW => (HL.out W (HK.out.trans hW)).2.2.2.2.2) hm HS.out).mono ?_; rintro _ w9 ⟨rfl, hp9, hk9⟩
      have HX9 := hid (hk9.other _ _ HX.out hne (node_notU8 x))
      have HP9 := hid hp9
      have HK9 := hid (HK.out.trans hk9)
      clear hp9 hk9 HP HK HX t5 z5
      have HP := HP9
      have HK := HK9
      have HX := HX9
      clear HP9 HK9 HX9))
 refine body_end (by kernel_rfl) rfl ⟨rfl, ?_, HK.out⟩
 have := HP.out
 unfold nodeB
 simpa only [List.append_assoc] using this
set_option maxHeartbeats 1000000 in
theorem writtenNode_c (x : Nd) (w : World) (h : x.Ok w) (hd : x.zs.length ≤ 64) (hm : x.ks.length ≤ 255) (hs : SmallK x.ks) :
   Calls Tryd.prog 51 #[x.val, .func (.func 52) #[] #[]] w fun e w' => ∃ v, e = .returned v ∧ w'.ownsRow w.heap.size 5 1 v (nodeB x).length ((nodeB x).map u8V) ∧ Below w.heap.size w w' := by
 have hx : (w.alloc (.cells x.cells.toArray 35)).heap[w.heap.size]? = some (.cells x.cells.toArray 35 (0, 0)) := heap_alloc_new w _
 have b1 := below_1 w (.cells x.cells.toArray 35)
 have hx2 := ((below_1 (w.alloc (.cells x.cells.toArray 35)) (.cells #[.slice none 0 0] 113)).block _ (lt_blkR hx)).trans hx
 obtain ⟨y0, y1, y2, y3, y4, y5⟩ := nd_cells hx2
 have hg2 := heap_alloc_new (w.alloc (.cells x.cells.toArray 35)) (.cells #[.slice none 0 0] 113)
 have hs1 : (w.alloc (.cells x.cells.toArray 35)).heap.size = w.heap.size + 1 := by simp
 have hs2 : ((w.alloc (.cells x.cells.toArray 35)).alloc (.cells #[.slice none 0 0] 113)).heap.size = w.heap.size + 2 := by simp
 rw [hs1] at hg2
 have b2 := b1.trans ((below_1 (w.alloc (.cells x.cells.toArray 35)) (.cells #[.slice none 0 0] 113)).mono b1.size)
 have B2 := hid b2
 have HP : Hid (Pile ((w.alloc (.cells x.cells.toArray 35)).alloc (.cells #[.slice none 0 0] 113)) 113 (w.heap.size + 2) (w.heap.size + 1) []) := hid ⟨by omega, by rw [hs2]; omega, _, hg2, World.ownsRow_nil _ _ _ _⟩
 have PC := hid (putNode_c 113 (w.heap.size + 2) (w.heap.size + 1) [] x _ HP.out (by simp) (fun W hW => h.later (b2.trans (hW.below (by omega) (by omega)))) hd hm hs)
 rw [List.nil_append] at PC
 unfold Nd.val at PC ⊢
 clear hx hx2 hg2 hs1 hs2 b1 HP h b2
 go_enter Tryd.func51, Tryd.ntmps51
 go_wp2_with (first | (go_at_call 52; refine PC.out.mono ?_; rintro _ w1 ⟨rfl, ⟨hg, hbase, v, hbox, hown⟩, hk⟩; have hc := cell_box hbox; obtain ⟨va, vn, vc, rfl⟩ := own_slice hown))
 go_ret
 exact ⟨_, rfl, own_baseR hown (by omega), B2.out.trans (hk.below (by omega) (by omega))⟩
theorem kidsTo_name {l : List Kd} : ∀ m, kidsTo l m = true → ∀ i, i < m → Pa.nameB (l.getD i Kd.no).nm.data.toList = true
 | 0, _, i, hi => by omega
 | m + 1, h, i, hi => by
   simp only [kidsTo, Bool.and_eq_true] at h
   by_cases e : i = m
   · subst e
     have := h.2
     unfold kOk at this
     simp only [Bool.and_eq_true] at this
     exact this.1.1
   · exact kidsTo_name m h.1 i (by omega)
theorem kname_size {s : ByteArray} (h : Pa.nameB s.data.toList = true) : s.size ≤ 12 := by
 by_cases q : 12 < s.size
 · rw [Pa.nameB_long s.data.toList (by show 12 < s.size; exact q)] at h
   cases h
 · omega
theorem node_small {x : Nd} (h : nodeOk x = true) : x.zs.length ≤ 64 ∧ x.ks.length ≤ 12 ∧ SmallK x.ks := by
 unfold nodeOk at h
 simp only [Bool.and_eq_true, Bool.not_eq_true', Bool.or_eq_false_iff, decide_eq_false_iff_not] at h
 obtain ⟨⟨⟨_, h1⟩, h2⟩, h3⟩ := h
 refine ⟨by omega, by omega, fun k hk => ?_⟩
 obtain ⟨i, hi, rfl⟩ := List.getElem_of_mem hk
 have g : x.ks.getD i Kd.no = x.ks[i] := by rw [List.getD, List.getElem?_eq_getElem hi]; rfl
 cases q : (x.k == 1 || x.k == 3) with
 | true =>
   rw [q] at h3
   simp only [cond_true, decide_eq_true_eq] at h3
   omega
 | false =>
   rw [q] at h3
   cases q2 : (x.k == 2) with
   | false => rw [q2] at h3; simp at h3
   | true =>
     rw [q2] at h3
     simp only [cond_false, cond_true, Bool.and_eq_true] at h3
     have := kname_size (kidsTo_name _ h3.2 i hi)
     rw [g] at this
     omega
set_option maxHeartbeats 1000000 in
theorem node_c (x : Nd) (w : World) (h : x.Ok w) :
   Calls Tryd.prog 32 #[x.val] w fun e w' => (if nodeOk x then ∃ v, e = .returned (.tuple #[v, .int .i64 0]) ∧ w'.ownsRow w.heap.size 5 1 v (nodeB x).length ((nodeB x).map u8V) else e = .returned (.tuple #[.slice none 0 0, .int .i64 3])) ∧ Below w.heap.size w w' := by
 have hx : (w.alloc (.cells x.cells.toArray 35)).heap[w.heap.size]? = some (.cells x.cells.toArray 35 (0, 0)) := heap_alloc_new w _
 obtain ⟨y0, y1, y2, y3, y4, y5⟩ := nd_cells hx
 have b0 := below_1 w (.cells x.cells.toArray 35)
 have B0 := hid b0
 have HX := hid hx
 have RC := hid (rightNode_c x (w.alloc (.cells x.cells.toArray 35)) (h.later b0))
 have HS := hid (fun (h : nodeOk x = true) => node_small h)
 have WC := hid (fun W (hW : Below w.heap.size w W) h1 h2 h3 => writtenNode_c x W (h.later hW) h1 h2 h3)
 clear hx h b0
 cases hr : nodeOk x with
 | false =>
   rw [hr] at RC
   simp only [Bool.false_eq_true, if_false]
   unfold Nd.val at RC ⊢
   go_enter Tryd.func32, Tryd.ntmps32
   go_wp2_with (go_at_call 50; refine RC.out.mono ?_; rintro _ w1 ⟨rfl, hb1⟩)
   go_ret2
   exact ⟨rfl, B0.out.trans (hb1.mono B0.out.size)⟩
 | true =>
   rw [hr] at RC
   simp only [if_true]
   obtain ⟨s1, s2, s3⟩ := HS.out hr
   have WC2 := hid (fun W hW => WC.out W hW s1 (by omega) s3)
   unfold Nd.val at RC WC2 ⊢
   clear WC HS s1 s2 s3
   go_enter Tryd.func32, Tryd.ntmps32
   go_wp2_with (first
     | (go_at_call 51; refine (WC2.out _ B1.out).mono ?_; rintro _ w2 ⟨v2, rfl, hO2, hb2⟩; obtain ⟨a2, c2, rfl⟩ := own_shapeR hO2)
     | (go_at_call 50; refine RC.out.mono ?_; rintro _ w1 ⟨rfl, hb1⟩; have B1 := hid (B0.out.trans (hb1.mono B0.out.size)); obtain ⟨z0, z1, z2, z3, z4, z5⟩ := nd_cells ((hb1.block _ (lt_blkR HX.out)).trans HX.out); clear hb1))
   go_ret2
   exact ⟨⟨_, rfl, own_baseR hO2 B1.out.size⟩, B1.out.trans (hb2.mono B1.out.size)⟩
end Go.Proofs.YthoaiapfjbgfhaaDoor
