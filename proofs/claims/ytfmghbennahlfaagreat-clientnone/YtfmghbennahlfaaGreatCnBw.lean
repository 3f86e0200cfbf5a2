/-
  
-/
import Derived.Test.YtfmghbennahlfaaGreatCnAr
import Derived.Maps.AppendAt
namespace Go.Proofs.YtfmghbennahlfaaGreat
open Go.RowKit Go.ChangeShapes Go.WideShapes Go.ChangeAt Go.Maps
set_option linter.unusedVariables false
set_option linter.unusedSimpArgs false
set_option maxRecDepth 100000
theorem step_app1q (w : World) {ops : Array Oper} {o : Oper} {a : Act} {K : Act → World → Prop} {Q : Exit → Act → World → Prop} {E : Prop} (hgd : o.guard = none) (s x : Operand)
   (ho : o.op = .call { callee := .builtin .append, args := #[s, x], argTypes := #[37, 37] }) (base : Nat) (v : Value) (n : Nat) (xs : List Value) (hs : a.eval s = v) (hown : w.ownsRow base 5 1 v n xs)
   (g : Nat) (b : Int) (hx : a.eval x = .slice (some ⟨g, 0, none⟩) 1 1) (hb : w.heap[g]? = some (.cells #[.int .u8 b] 5 (0, 0))) (h63 : n ≤ 1000000) (hbase : base ≤ w.heap.size)
   (h : ∀ v' w', w'.ownsRow base 5 1 v' (n + 1) (xs ++ [.int .u8 b]) → w.grownBy w' v.ownBlock → (v'.ownBlock = v.ownBlock ∨ v'.ownBlock = some w.heap.size) → K (a.put o.dst v') w') :
   if Region.wanted o (yielded ops a.tmps) = true then Oper.wp Tryz.prog o a w K Q else E := by
 rw [if_pos (by simp [Region.wanted, hgd])]
 obtain ⟨i0, hi, hz0, hz1, hz2⟩ := info_parts8
 have hnews : ∀ (j : Nat) (u : Value), [Value.int .u8 b][j]? = some u → w.cell? ((⟨g, 0, none⟩ : Addr).add j) = some u := fun j u hu => by
   have e : (⟨g, 0, none⟩ : Addr).add j = ⟨g, 0 + j, none⟩ := by unfold Addr.add; split <;> simp_all
   rw [e, cell_of_row w g _ _ _ _ hb]
   simpa using hu
 obtain ⟨v', w', hr, h2, h3, h4, h5⟩ := run_append_own_at (P := Tryz.prog) w base 37 o.type 5 i0 (.int .u8 0) 1 1 Tryz.underlying37 hi hz0 hz1 hz2 rfl (by decide) v n xs hown ⟨g, 0, none⟩ 1 1 [.int .u8 b] rfl hnews (fun y hy => by simp at hy; subst hy; rfl) (by unfold maxLen; omega) (by omega) hbase
 unfold Oper.wp execOp
 simp only [ho, resolve, invoke, builtin, Sem.run_bind, Sem.run_pure, Result.andThen_ok, List.map_toArray, List.map_cons, List.map_nil, hs, hx, hr]
 exact h v' w' h2 h3 h5
def PileQ (w : World) (T base g q : Nat) (zs : List Int) : Prop :=
 g < base ∧ base ≤ w.heap.size ∧ ∃ v, w.heap[g]? = some (.cells #[v] T (0, 0)) ∧ w.ownsRow base 5 1 v zs.length (zs.map u8V) ∧ v.ownBlock ≠ some q
theorem Pile.q {w w' : World} {T base g q : Nat} {zs : List Int} (h : Pile w T base g zs) (hb : Below w.heap.size w w') (hq : w.heap.size ≤ q) : PileQ w' T base g q zs := by
 obtain ⟨h1, h2, v, h3, h4⟩ := h
 exact ⟨h1, Nat.le_trans h2 hb.size, v, (hb.block _ (lt_blkR h3)).trans h3, own_latR h4 hb, fun e => by have := (h4.lt q e).2; omega⟩
theorem below_kpT {w w' : World} {base g : Nat} (hb : Below w.heap.size w w') (hbase : base ≤ w.heap.size) : KpT base g w w' :=
 ⟨hb.os, hb.tape, hb.output, hb.size, fun k hk _ => hb.block k (by omega), fun k o h _ _ => (hb.block k (lt_blkR h)).trans h⟩
set_option maxRecDepth 20000 in
set_option maxHeartbeats 1000000 in
theorem number_q (T base g q : Nat) (zs : List Int) (n : Int) (s : Nat) (w : World) (hp : PileQ w T base g q zs) (oq : Obj) (hqo : w.heap[q]? = some oq) (hqg : q ≠ g) (hn : zs.length < 900000) (hs : s ≤ 8) (h0 : 0 ≤ n) (h1 : n < 18446744073709551616) :
   Calls Tryz.prog 194 #[.pointer (some ⟨g, 0, none⟩), .int .u64 n, .int .i64 s] w fun e w' => e = .returned (.tuple #[]) ∧ PileQ w' T base g q (zs ++ beF n s) ∧ KpT base g w w' ∧ w'.heap[q]? = some oq := by
 have HP := hid hp
 have HQO := hid hqo
 clear hp hqo
 go_enter Tryz.func194, Tryz.ntmps194
 go_wp2
 go_loopg [8] s (fun k v wr => ∃ i : Nat, i + k = s ∧ v = .int .i64 i ∧ Hid (PileQ wr T base g q (zs ++ (beF n s).take i)) ∧ Hid (KpT base g w wr) ∧ Hid (wr.heap[q]? = some oq))
 case atStart => exact ⟨0, by omega, rfl, hid (by simpa using HP.out), hid (KpT.refl _ _ _), HQO⟩
 case round =>
   obtain ⟨i, hik, rfl, HPi, HK, HQ⟩ := hrel
   by_cases hlt : i < s
   · have hltI : (i : Int) < s := by omega
     obtain ⟨hg, hbase, v, hbox, hown, hvq⟩ := HPi.out
     obtain ⟨va, vn, vc, rfl⟩ := own_slice hown
     have hc := cell_box hbox
     have hgl : g < wr.heap.size := by omega
     have hdown : wr.drew.ownsRow base 5 1 (.slice va vn vc) (zs ++ (beF n s).take i).length ((zs ++ (beF n s).take i).map u8V) := hown
     have hll : (zs ++ (beF n s).take i).length ≤ 1000000 := by rw [List.length_append, List.length_take, beF_len]; omega
     obtain ⟨d, hd⟩ : ∃ d, d = s - 1 - i := ⟨_, rfl⟩
     have HD := hid hd
     have k1 : IntKind.i64.wrap ((s : Int) - 1) = (s : Int) - 1 := by rw [IntKind.wrap_i64]; omega
     have k2 : IntKind.i64.wrap ((s : Int) - 1 - i) = d := by rw [IntKind.wrap_i64]; omega
     have k3 : IntKind.i64.wrap (8 * (d : Int)) = 8 * (d : Int) := by rw [IntKind.wrap_i64]; omega
     have k4 := shr_u64 n d (by omega)
     have HBT := hid (beF_take n s i hlt)
     rw [← hd] at HBT
     clear hd
     go_upto_region 3 with fail
     go_region_law (first | (refine step_app1q _ (by rfl) _ _ (by rfl) base (.slice va vn vc) _ _ (by rfl) (hdown.alloc _) wr.heap.size _ (by rfl) (heap_alloc_new _ _) hll (Nat.le_trans hbase (below_1 _ _).size) ?_; intro v' w5 hown' hgrow5 hat5; (have hbox5 := lay_box (w := wr.drew) hbox hdown hg hgrow5 hgl); (have hc5 := cell_box hbox5); (have hf5 := frozen_box hbox5); obtain ⟨a5, n5, c5, rfl⟩ := own_slice hown'))
     all_goals
       have hqr : q < wr.heap.size := lt_blkR HQ.out
       have HQ2 : Hid ((w5.setCell ⟨g, 0, none⟩ (.slice a5 n5 c5)).heap[q]? = some oq) := hid (by
         rw [heap_setCell_other _ _ _ _ hqg, hgrow5.block q (by simp; omega) (fun e => hvq e.symm)]
         exact (Below.heap_alloc wr _ q hqr).trans HQ.out)
       have HP2 : Hid (PileQ (w5.setCell ⟨g, 0, none⟩ (.slice a5 n5 c5)) T base g q (zs ++ (beF n s).take (i + 1))) := hid (by
         refine ⟨hg, ?_, _, heap_setBox _ hbox5, ?_, ?_⟩
         · have := hgrow5.size; simp at this ⊢; omega
         · rw [HBT.out, ← List.append_assoc]
           have := ownsRow_setCell_below hown' (a := ⟨g, 0, none⟩) hg (.slice a5 n5 c5)
           rw [List.length_append, List.map_append]
           simpa [u8V, IntKind.wrap_u8'] using this
         · intro e
           rcases hat5 with h5 | h5
           · rw [h5] at e; exact hvq e
           · rw [h5] at e
             have e2 := Option.some.inj e
             simp at e2
             omega)
       have HK2 := hid (HK.out.on (lay_kpT (w := wr.drew) (v' := .slice a5 n5 c5) hdown hg hgrow5 hbase))
       go_wp2
       go_roundg (gk - 1)
       case measure => omega
       case rel => exact ⟨i + 1, by omega, by go_num, HP2, HK2, HQ2⟩
   · have em : i = s := by omega
     subst em
     have hge : ¬ (i : Int) < i := by omega
     have HP3 : Hid (PileQ wr T base g q (zs ++ beF n i)) := hid (by have := HPi.out; rw [List.take_of_length_le (by rw [beF_len]; omega)] at this; exact this)
     go_wp2
     exact body_end (by kernel_rfl) rfl ⟨rfl, HP3.out, HK.out, HQ.out⟩
theorem stamp_notU8 (x : St) : NotU8 (.cells x.cells.toArray 200 (0, 0)) := fun cs fr e => by
 injection e with e1 e2
 cases e2
set_option maxHeartbeats 2000000 in
theorem putStamp_c (T base g : Nat) (zs : List Int) (x : St) (w : World) (hp : Pile w T base g zs) (hn : zs.length < 400000) (hw : x.Wf) :
   Calls Tryz.prog 262 #[.pointer (some ⟨g, 0, none⟩), x.val] w fun e w' => e = .returned (.tuple #[]) ∧ Pile w' T base g (zs ++ stampB x) ∧ KpT base g w w' := by
 obtain ⟨h1, h2, h3⟩ := hw
 have u1 : IntKind.u64.wrap x.fid = x.fid := by rw [IntKind.wrap_u64]; omega
 have u3 : IntKind.u64.wrap x.wr = x.wr := by rw [IntKind.wrap_u64]; omega
 have hx : (w.alloc (.cells x.cells.toArray 200)).heap[w.heap.size]? = some (.cells x.cells.toArray 200 (0, 0)) := heap_alloc_new w _
 have y0 : (w.alloc (.cells x.cells.toArray 200)).cell? ⟨w.heap.size, 0, none⟩ = some (.int .u32 x.fid) := cell_of_row2 hx 0 rfl
 have hne : w.heap.size ≠ g := by have := hp.len; omega
 have HX := hid hx
 have K0 : Hid (KpT base g w (w.alloc (.cells x.cells.toArray 200))) := hid (alloc_kpT _ hp.len.2)
 have N1 := hid (num4_c (n := x.fid) (hp.other (w' := w) (.cells x.cells.toArray 200)) (by omega) h1.1 (by omega))
 have N2 := hid (fun W (hq : Pile W T base g (zs ++ beF x.fid 4)) => num8_c (n := x.ver) hq (by rw [List.length_append, beF_len]; omega) h2.1 (by omega))
 have N3 := hid (fun W (hq : Pile W T base g (zs ++ beF x.fid 4 ++ beF x.ver 8)) => num1_c (n := x.wr) hq (by simp only [List.length_append, beF_len]; omega) h3.1 (by omega))
 have t0 := hid True.intro
 have EB : Hid (zs ++ stampB x = zs ++ beF x.fid 4 ++ beF x.ver 8 ++ beF x.wr 1) := hid (by unfold stampB; simp only [List.append_assoc])
 rw [EB.out]
 clear hx hp h1 h2 h3
 obtain ⟨sf, sv, sw⟩ := x
 simp only [St.val, St.cells] at *
 go_enter Tryz.func262, Tryz.ntmps262
 go_wp2_with (first
   | (have _q := t2.out; clear _q; go_at_call 194; refine (N3.out _ HP2.out).mono ?_; rintro _ w3 ⟨rfl, hp3, hk3⟩)
   | (have _q := t1.out; clear _q; go_at_call 194; refine (N2.out _ HP1.out).mono ?_; rintro _ w2 ⟨rfl, hp2, hk2⟩
      have HP2 := hid hp2
      have K2 := hid (K1.out.trans hk2)
      have z2 : w2.cell? ⟨w.heap.size, 2, none⟩ = some (.int .u8 sw) := cell_of_row2 (hk2.other _ _ HX1.out hne (stamp_notU8 ⟨sf, sv, sw⟩)) 2 rfl
      have t2 := hid True.intro
      clear hp2 hk2 t1)
   | (have _q := t0.out; clear _q; go_at_call 194; refine N1.out.mono ?_; rintro _ w1 ⟨rfl, hp1, hk1⟩
      have HP1 := hid hp1
      have K1 := hid (K0.out.trans hk1)
      have HX1 := hid (hk1.other _ _ HX.out hne (stamp_notU8 ⟨sf, sv, sw⟩))
      have z1 : w1.cell? ⟨w.heap.size, 1, none⟩ = some (.int .u64 sv) := cell_of_row2 HX1.out 1 rfl
      have t1 := hid True.intro
      clear hp1 hk1 t0))
 exact body_end (by kernel_rfl) rfl ⟨rfl, hp3, K2.out.trans hk3⟩
set_option maxHeartbeats 2000000 in
theorem putMeasured_c (T base g : Nat) (zs : List Int) (x : Nd) (w : World) (hp : Pile w T base g zs) (hn : zs.length < 90000) (hok : x.Ok w) (hw : x.Wf) (ho : nodeOk x = true) :
   Calls Tryz.prog 260 #[.pointer (some ⟨g, 0, none⟩), x.val] w fun e w' => e = .returned (.tuple #[]) ∧ Pile w' T base g (zs ++ measB x) ∧ KpT base g w w' := by
 obtain ⟨s1, s2, s3⟩ := node_small ho
 have hlen := nodeB_len hw ho
 have hpos : 0 < (nodeB x).length := by unfold nodeB; simp only [List.length_append, beF_len]; omega
 have b0 := below_1 w (.cells x.cells.toArray 40)
 have hx := heap_alloc_new w (.cells x.cells.toArray 40)
 obtain ⟨y0, y1, y2, y3, y4, y5⟩ := nd_cells hx
 have WC := hid (writtenNode_c x _ (hok.later b0) s1 (by omega) s3)
 have hb2 := hp.len
 have HP := hid hp
 have B0 := hid b0
 have S0 : Hid ((w.alloc (.cells x.cells.toArray 40)).heap.size = w.heap.size + 1) := hid (by simp)
 obtain ⟨N, hN⟩ : ∃ N, N = nodeB x := ⟨_, rfl⟩
 have EB : Hid (zs ++ measB x = zs ++ beF N.length 2 ++ N) := hid (by unfold measB; rw [hN]; simp only [List.append_assoc])
 rw [EB.out]
 rw [← hN] at WC hlen hpos
 clear hN hp b0 hx hok hw ho s1 s2 s3
 have ku : IntKind.u64.wrap (N.length : Int) = N.length := by rw [IntKind.wrap_u64]; omega
 have t0 := hid True.intro
 obtain ⟨fid, k, md, ln, da, dc, ds, ka, kc, ks⟩ := x
 simp only [Nd.val, Nd.cells] at *
 go_enter Tryz.func260, Tryz.ntmps260
 go_wp2_with (first
   | (have _q := t2.out; clear _q; at_builtin; refine wpList_plain rfl fun K hK => wp_appB _ _ _ rfl base _ _ rfl OB.out _ _ rfl SRC.out (by rw [List.length_append, beF_len]; omega) (by omega) (Nat.le_trans hb2.2 SZ.out) (fun v9 w9 ho9 hg9 => hK _ _ ?_)
      have hbx9 : w9.heap[g]? = some (.cells #[.slice va vn vc] T (0, 0)) := (hg9.block g (lt_blkR BX.out) (fun e => by have := (OB.out.lt g e.symm).1; omega)).trans BX.out
      have c9 := cell_box hbx9
      have f9 := frozen_box hbx9
      have HBX := hid hbx9
      have O9 := hid ho9
      have KP := hid (text_kpT (v' := v9) OB.out (by omega) hg9 (Nat.le_trans hb2.2 SZ.out))
      have S9 := hid (Nat.le_trans SZ.out hg9.size)
      obtain ⟨a9, n9, c9', rfl⟩ := own_slice ho9
      clear ho9 hg9 hbx9 t2)
   | (have _q := t1.out; clear _q; go_at_call 194; refine (number_q T base g q zs (N.length : Int) 2 w2 PQ.out _ HQ2.out QG.out (by omega) (by omega) (by omega) (by omega)).mono ?_; rintro _ w3 ⟨rfl, hp3, hk3, hq3⟩
      obtain ⟨_, _, v3, hbox3, hown3, _⟩ := hp3
      have SRC := hid (show OwB w3 0 (.slice (some ⟨q, 0, none⟩) N.length qc) N from ⟨OQ.out.1, .inr ⟨q, qc, cur, rfl, Nat.zero_le _, hq3, OQ2.out⟩⟩)
      have OB := hid (show OwB w3 base v3 (zs ++ beF (N.length : Int) 2) from hown3)
      have BX := hid hbox3
      have c3 := cell_box hbox3
      have K3 := hid (K2.out.trans hk3)
      have SZ := hid (Nat.le_trans SZ2.out hk3.size)
      obtain ⟨va, vn, vc, rfl⟩ := own_slice hown3
      have t2 := hid True.intro
      clear hbox3 hown3 hk3 hq3 t1)
   | (have _q := t0.out; clear _q; go_at_call 304; refine WC.out.mono ?_; rintro _ w2 ⟨v2, rfl, hO2, hb3⟩
      have OQ := hid hO2
      rcases hO2.2 with ⟨_, h0⟩ | ⟨q, qc, cur, rfl, hq1, hq2, hq3⟩
      · exact absurd h0 (by omega)
      have BB := hid (B0.out.trans (hb3.mono B0.out.size))
      have PQ := hid (HP.out.q BB.out (show w.heap.size ≤ q by rw [S0.out] at hq1; omega))
      have K2 := hid (below_kpT (g := g) BB.out hb2.2)
      have QL := hid (lt_blkR hq2)
      have QG : Hid (q ≠ g) := hid (by rw [S0.out] at hq1; omega)
      have HQ2 := hid hq2
      have OQ2 := hid hq3
      have SZ2 := hid BB.out.size
      have t1 := hid True.intro
      clear hO2 hb3 hq1 hq2 hq3 t0))
 refine body_end (by kernel_rfl) rfl ⟨rfl, ⟨hb2.1, by have := Nat.le_trans hb2.2 S9.out; simpa [World.setCell] using this, _, heap_setBox _ HBX.out, ?_⟩, K3.out.trans KP.out⟩
 exact own_set O9.out (p := ⟨g, 0, none⟩) hb2.1 _
theorem measB_len {x : Nd} (hw : x.Wf) (ho : nodeOk x = true) : (measB x).length ≤ 2002 := by
 have := nodeB_len hw ho
 unfold measB
 rw [List.length_append, beF_len]; omega
theorem measuresB_le : ∀ {l : List Nd}, (∀ x ∈ l, x.Wf ∧ nodeOk x = true) → (measuresB l).length ≤ l.length * 2002
 | [], _ => by simp [measuresB]
 | x :: t, h => by
   have h1 := measB_len (h x (by simp)).1 (h x (by simp)).2
   have h2 := measuresB_le (l := t) (fun y hy => h y (by simp [hy]))
   have e : measuresB (x :: t) = measB x ++ measuresB t := by unfold measuresB; rw [List.flatMap_cons]
   rw [e, List.length_append, List.length_cons]
   omega
theorem measuresB_snoc (l : List Nd) (x : Nd) : measuresB (l ++ [x]) = measuresB l ++ measB x := by unfold measuresB; simp
theorem take_nd {l : List Nd} {m : Nat} (h : m < l.length) : l.take (m + 1) = l.take m ++ [l.getD m Nd.no] := by
 rw [List.take_add_one, List.getD, List.getElem?_eq_getElem h]; rfl
theorem stampB_len (s : St) : (stampB s).length = 13 := by unfold stampB; simp only [List.length_append, beF_len]
theorem stampsB_len : ∀ (l : List St), (stampsB l).length = l.length * 13
 | [] => rfl
 | x :: t => by
   have e : stampsB (x :: t) = stampB x ++ stampsB t := by unfold stampsB; rw [List.flatMap_cons]
   rw [e, List.length_append, List.length_cons, stampB_len, stampsB_len t]
   omega
theorem stampsB_snoc (l : List St) (x : St) : stampsB (l ++ [x]) = stampsB l ++ stampB x := by unfold stampsB; simp
theorem take_st {l : List St} {m : Nat} (h : m < l.length) : l.take (m + 1) = l.take m ++ [l.getD m St.no] := by
 rw [List.take_add_one, List.getD, List.getElem?_eq_getElem h]; rfl
set_option maxHeartbeats 2000000 in
theorem putListN_c (T base g : Nat) (zs : List Int) (a : Option Addr) (cap : Nat) (l : List Nd) (w : World) (hp : Pile w T base g zs) (hn : zs.length < 1000) (hl : ∀ W, KpT base g w W → IsNs W a l) (hm : l.length ≤ 40) (hs : ∀ x ∈ l, x.Wf ∧ nodeOk x = true) :
   Calls Tryz.prog 259 #[.pointer (some ⟨g, 0, none⟩), .slice a l.length cap, .func (.func 260) #[] #[]] w fun e w' => e = .returned (.tuple #[]) ∧ Pile w' T base g (zs ++ (beF l.length 1 ++ measuresB l)) ∧ KpT base g w w' := by
 have NC := hid (num1_c (n := (l.length : Int)) hp (by omega) (by omega) (by omega))
 have HL := hid hl
 have HS := hid hs
 have ku : IntKind.u64.wrap (l.length : Int) = l.length := by rw [IntKind.wrap_u64]; omega
 clear hp hl hs
 obtain ⟨n, hnn⟩ : ∃ n, n = l.length := ⟨_, rfl⟩
 rw [← hnn] at hm NC ku ⊢
 have HN := hid hnn
 clear hnn
 go_enter Tryz.func259, Tryz.ntmps259
 go_wp2_with (go_at_call 194; refine NC.out.mono ?_; rintro _ w1 ⟨rfl, hp1, hk1⟩; have HP1 := hid hp1; have K1 := hid hk1; clear hp1 hk1)
 clear NC
 go_loopg [15] n (fun k v wr => ∃ m : Nat, m + k = n ∧ v = .int .i64 m ∧ Hid (Pile wr T base g (zs ++ beF n 1 ++ measuresB (l.take m))) ∧ Hid (KpT base g w wr))
 case atStart => exact ⟨0, by omega, rfl, hid (by simpa [measuresB] using HP1.out), K1⟩
 case round =>
   clear HP1 K1
   obtain ⟨m, hmk, rfl, HP, HK⟩ := hrel
   by_cases hlt : m < n
   · have hltI : (m : Int) < n := by omega
     have hln : m < l.length := by rw [← HN.out]; exact hlt
     have KA : Hid (∀ o, KpT base g w (wr.alloc o)) := hid (fun o => HK.out.trans (alloc_kpT o HP.out.len.2))
     have hil := HL.out wr HK.out
     obtain ⟨b, off, rfl, _⟩ := hil.2.2 (by omega)
     obtain ⟨y0, y1, y2, y3, y4, y5⟩ := (hil.at (i := m) hln).all
     have hok := fun o => (HL.out _ (KA.out o)).ok (i := m) hln
     have hgd := HS.out _ (getD_mem l Nd.no hln)
     have HT := hid (take_nd (l := l) (m := m) hln)
     have hlen : (zs ++ beF n 1 ++ measuresB (l.take m)).length < 90000 := by
       have := measuresB_le (l := l.take m) (fun x hx => HS.out x (List.mem_of_mem_take hx))
       rw [List.length_take] at this
       rw [List.length_append, List.length_append, beF_len]
       omega
     clear hil hln
     generalize l.getD m Nd.no = x at *
     have PC := hid (putMeasured_c T base g _ x _ (HP.out.other (w' := wr) (.cells x.cells.toArray 40)) hlen (hok _) hgd.1 hgd.2)
     have hA := heap_alloc_new wr (.cells x.cells.toArray 40)
     obtain ⟨p0, p1, p2, p3, p4, p5⟩ := nd_cells hA
     clear hok hgd hlen hA
     obtain ⟨fid, k, md, ln, da, dc, ds, ka, kc, ks⟩ := x
     simp only [Nd.val, Nd.cells] at *
     go_wp2_with (go_at_call 260; refine PC.out.mono ?_; rintro _ w2 ⟨rfl, hp2, hk2⟩)
     go_roundg (gk - 1)
     case measure => omega
     case rel => exact ⟨m + 1, by omega, by go_num, hid (by rw [HT.out, measuresB_snoc, ← List.append_assoc]; exact hp2), hid ((KA.out _).trans hk2)⟩
   · have em : m = n := by omega
     have hge : ¬ (m : Int) < n := by omega
     have HP2 : Hid (Pile wr T base g (zs ++ (beF n 1 ++ measuresB l))) := hid (by
       have := HP.out
       rw [List.take_of_length_le (by rw [← HN.out]; omega), List.append_assoc] at this
       exact this)
     go_wp2
     exact body_end (by kernel_rfl) rfl ⟨rfl, HP2.out, HK.out⟩
set_option maxHeartbeats 2000000 in
theorem putListS_c (T base g : Nat) (zs : List Int) (a : Option Addr) (cap : Nat) (l : List St) (w : World) (hp : Pile w T base g zs) (hn : zs.length < 100000) (hl : ∀ W, KpT base g w W → IsSs W a l) (hm : l.length ≤ 40) :
   Calls Tryz.prog 261 #[.pointer (some ⟨g, 0, none⟩), .slice a l.length cap, .func (.func 262) #[] #[]] w fun e w' => e = .returned (.tuple #[]) ∧ Pile w' T base g (zs ++ (beF l.length 1 ++ stampsB l)) ∧ KpT base g w w' := by
 have NC := hid (num1_c (n := (l.length : Int)) hp (by omega) (by omega) (by omega))
 have HL := hid hl
 have ku : IntKind.u64.wrap (l.length : Int) = l.length := by rw [IntKind.wrap_u64]; omega
 clear hp hl
 obtain ⟨n, hnn⟩ : ∃ n, n = l.length := ⟨_, rfl⟩
 rw [← hnn] at hm NC ku ⊢
 have HN := hid hnn
 clear hnn
 go_enter Tryz.func261, Tryz.ntmps261
 go_wp2_with (go_at_call 194; refine NC.out.mono ?_; rintro _ w1 ⟨rfl, hp1, hk1⟩; have HP1 := hid hp1; have K1 := hid hk1; clear hp1 hk1)
 clear NC
 go_loopg [15] n (fun k v wr => ∃ m : Nat, m + k = n ∧ v = .int .i64 m ∧ Hid (Pile wr T base g (zs ++ beF n 1 ++ stampsB (l.take m))) ∧ Hid (KpT base g w wr))
 case atStart => exact ⟨0, by omega, rfl, hid (by simpa [stampsB] using HP1.out), K1⟩
 case round =>
   clear HP1 K1
   obtain ⟨m, hmk, rfl, HP, HK⟩ := hrel
   by_cases hlt : m < n
   · have hltI : (m : Int) < n := by omega
     have hln : m < l.length := by rw [← HN.out]; exact hlt
     have hil := HL.out wr HK.out
     obtain ⟨b, off, rfl, _⟩ := hil.2.2 (by omega)
     obtain ⟨y0, y1, y2⟩ := hil.at (i := m) hln
     have hwf := hil.wf (i := m) hln
     have HT := hid (take_st (l := l) (m := m) hln)
     have hlen : (zs ++ beF n 1 ++ stampsB (l.take m)).length < 400000 := by
       rw [List.length_append, List.length_append, beF_len, stampsB_len, List.length_take]
       omega
     clear hil hln
     generalize l.getD m St.no = x at *
     have PC := hid (putStamp_c T base g _ x _ (HP.out.other (w' := wr) (.cells x.cells.toArray 200)) hlen hwf)
     have KA : Hid (KpT base g w (wr.alloc (.cells x.cells.toArray 200))) := hid (HK.out.trans (alloc_kpT _ HP.out.len.2))
     clear hwf hlen
     obtain ⟨sf, sv, sw⟩ := x
     simp only [St.val, St.cells] at *
     go_wp2_with (go_at_call 262; refine PC.out.mono ?_; rintro _ w2 ⟨rfl, hp2, hk2⟩)
     go_roundg (gk - 1)
     case measure => omega
     case rel => exact ⟨m + 1, by omega, by go_num, hid (by rw [HT.out, stampsB_snoc, ← List.append_assoc]; exact hp2), hid (KA.out.trans hk2)⟩
   · have em : m = n := by omega
     have hge : ¬ (m : Int) < n := by omega
     have HP2 : Hid (Pile wr T base g (zs ++ (beF n 1 ++ stampsB l))) := hid (by
       have := HP.out
       rw [List.take_of_length_le (by rw [← HN.out]; omega), List.append_assoc] at this
       exact this)
     go_wp2
     exact body_end (by kernel_rfl) rfl ⟨rfl, HP2.out, HK.out⟩
theorem snap_notU8 (a b : Value) : NotU8 (.cells #[a, b] 75 (0, 0)) := fun cs fr e => by
 injection e with e1 e2
 cases e2
set_option maxHeartbeats 2000000 in
theorem putSnapshot_c (T base g : Nat) (a b : Option Addr) (ca cb : Nat) (ns : List Nd) (ss : List St) (w : World) (hp : Pile w T base g []) (hl : ∀ W, KpT base g w W → IsNs W a ns ∧ IsSs W b ss) (hm : ns.length ≤ 40) (hm' : ss.length ≤ 40) (hs : ∀ x ∈ ns, x.Wf ∧ nodeOk x = true) :
   Calls Tryz.prog 205 #[.pointer (some ⟨g, 0, none⟩), .agg #[.slice a ns.length ca, .slice b ss.length cb]] w fun e w' => e = .returned (.tuple #[]) ∧ Pile w' T base g (snapB ns ss) ∧ KpT base g w w' := by
 have hx := heap_alloc_new w (.cells #[.slice a ns.length ca, .slice b ss.length cb] 75)
 have y0 : (w.alloc (.cells #[.slice a ns.length ca, .slice b ss.length cb] 75)).cell? ⟨w.heap.size, 0, none⟩ = some (.slice a ns.length ca) := cell_of_row2 hx 0 rfl
 have hne : w.heap.size ≠ g := by have := hp.len; omega
 have HX := hid hx
 have K0 : Hid (KpT base g w (w.alloc (.cells #[.slice a ns.length ca, .slice b ss.length cb] 75))) := hid (alloc_kpT _ hp.len.2)
 have C1 := hid (putListN_c T base g [] a ca ns _ (hp.other (w' := w) (.cells #[.slice a ns.length ca, .slice b ss.length cb] 75)) (by simp) (fun W hW => (hl W (K0.out.trans hW)).1) hm hs)
 have ML := measuresB_le hs
 have C2 := hid (fun W (hW : KpT base g w W) (hq : Pile W T base g (beF ns.length 1 ++ measuresB ns)) => putListS_c T base g _ b cb ss W hq (by rw [List.length_append, beF_len]; omega) (fun V hV => (hl V (hW.trans hV)).2) hm')
 rw [List.nil_append] at C1
 clear hx hp hl hs ML
 unfold snapB
 go_enter Tryz.func205, Tryz.ntmps205
 go_wp2_with (first
   | (go_at_call 261; refine (C2.out _ K1.out HP1.out).mono ?_; rintro _ w2 ⟨rfl, hp2, hk2⟩)
   | (go_at_call 259; refine C1.out.mono ?_; rintro _ w1 ⟨rfl, hp1, hk1⟩
      have HP1 := hid hp1
      have K1 := hid (K0.out.trans hk1)
      have z1 : w1.cell? ⟨w.heap.size, 1, none⟩ = some (.slice b ss.length cb) := cell_of_row2 (hk1.other _ _ HX.out hne (snap_notU8 _ _)) 1 rfl
      clear hp1 hk1))
 exact body_end (by kernel_rfl) rfl ⟨rfl, hp2, K1.out.trans hk2⟩
set_option maxHeartbeats 2000000 in
theorem writtenSnap_c (a b : Option Addr) (ca cb : Nat) (ns : List Nd) (ss : List St) (w : World) (hn : IsNs w a ns) (hb : IsSs w b ss) (hm : ns.length ≤ 40) (hm' : ss.length ≤ 40) (hs : ∀ x ∈ ns, x.Wf ∧ nodeOk x = true) :
   Calls Tryz.prog 204 #[.agg #[.slice a ns.length ca, .slice b ss.length cb], .func (.func 205) #[] #[]] w fun e w' => ∃ v, e = .returned v ∧ w'.ownsRow w.heap.size 5 1 v (snapB ns ss).length ((snapB ns ss).map u8V) ∧ Below w.heap.size w w' := by
 have hx := heap_alloc_new w (.cells #[.slice a ns.length ca, .slice b ss.length cb] 75)
 have b1 := below_1 w (.cells #[.slice a ns.length ca, .slice b ss.length cb] 75)
 have hx2 := ((below_1 (w.alloc (.cells #[.slice a ns.length ca, .slice b ss.length cb] 75)) (.cells #[.slice none 0 0] 219)).block _ (lt_blkR hx)).trans hx
 have y0 : ((w.alloc (.cells #[.slice a ns.length ca, .slice b ss.length cb] 75)).alloc (.cells #[.slice none 0 0] 219)).cell? ⟨w.heap.size, 0, none⟩ = some (.slice a ns.length ca) := cell_of_row2 hx2 0 rfl
 have y1 : ((w.alloc (.cells #[.slice a ns.length ca, .slice b ss.length cb] 75)).alloc (.cells #[.slice none 0 0] 219)).cell? ⟨w.heap.size, 1, none⟩ = some (.slice b ss.length cb) := cell_of_row2 hx2 1 rfl
 have hg2 := heap_alloc_new (w.alloc (.cells #[.slice a ns.length ca, .slice b ss.length cb] 75)) (.cells #[.slice none 0 0] 219)
 have hs1 : (w.alloc (.cells #[.slice a ns.length ca, .slice b ss.length cb] 75)).heap.size = w.heap.size + 1 := by simp
 have hs2 : ((w.alloc (.cells #[.slice a ns.length ca, .slice b ss.length cb] 75)).alloc (.cells #[.slice none 0 0] 219)).heap.size = w.heap.size + 2 := by simp
 rw [hs1] at hg2
 have b2 := b1.trans ((below_1 (w.alloc (.cells #[.slice a ns.length ca, .slice b ss.length cb] 75)) (.cells #[.slice none 0 0] 219)).mono b1.size)
 have B2 := hid b2
 have HP : Hid (Pile ((w.alloc (.cells #[.slice a ns.length ca, .slice b ss.length cb] 75)).alloc (.cells #[.slice none 0 0] 219)) 219 (w.heap.size + 2) (w.heap.size + 1) []) := hid ⟨by omega, by rw [hs2]; omega, _, hg2, World.ownsRow_nil _ _ _ _⟩
 have PC := hid (putSnapshot_c 219 (w.heap.size + 2) (w.heap.size + 1) a b ca cb ns ss _ HP.out (fun W hW => ⟨hn.later (b2.trans (hW.below (by omega) (by omega))), hb.later (b2.trans (hW.below (by omega) (by omega)))⟩) hm hm' hs)
 clear hx hx2 hg2 hs1 hs2 b1 HP hn hb b2 hs
 go_enter Tryz.func204, Tryz.ntmps204
 go_wp2_with (first | (go_at_call 205; refine PC.out.mono ?_; rintro _ w1 ⟨rfl, ⟨hg, hbase, v, hbox, hown⟩, hk⟩; have hc := cell_box hbox; obtain ⟨va, vn, vc, rfl⟩ := own_slice hown))
 go_ret
 exact ⟨_, rfl, own_baseR hown (by omega), B2.out.trans (hk.below (by omega) (by omega))⟩
def SnapPost (ns : List Nd) (ss : List St) (w : World) (e : Ending) (w' : World) : Prop :=
 ((RSnap ns ss ∧ ∃ v, e = .returned (.tuple #[v, .int .i64 0]) ∧ OwB w' w.heap.size v (snapB ns ss)) ∨ (¬ RSnap ns ss ∧ e = .returned (.tuple #[.slice none 0 0, .int .i64 3]))) ∧ Below w.heap.size w w'
set_option maxHeartbeats 2000000 in
theorem snapshot_c (a b : Option Addr) (ca cb : Nat) (ns : List Nd) (ss : List St) (w : World) (hn : IsNs w a ns) (hb : IsSs w b ss) (hm : ns.length ≤ 100000) (hm' : ss.length ≤ 100000) (hs : RSnap ns ss → ∀ x ∈ ns, x.Wf) :
   Calls Tryz.prog 145 #[.agg #[.slice a ns.length ca, .slice b ss.length cb]] w fun e w' => SnapPost ns ss w e w' := by
 have b0 := below_1 w (.cells #[.slice a ns.length ca, .slice b ss.length cb] 75)
 have h0 := heap_alloc_new w (.cells #[.slice a ns.length ca, .slice b ss.length cb] 75)
 have y0 : (w.alloc (.cells #[.slice a ns.length ca, .slice b ss.length cb] 75)).cell? ⟨w.heap.size, 0, none⟩ = some (.slice a ns.length ca) := cell_of_row2 h0 0 rfl
 have y1 : (w.alloc (.cells #[.slice a ns.length ca, .slice b ss.length cb] 75)).cell? ⟨w.heap.size, 1, none⟩ = some (.slice b ss.length cb) := cell_of_row2 h0 1 rfl
 have RC := hid (rightSnapshot_c a b ca cb ns ss _ (hn.later b0) (hb.later b0) hm hm')
 have WC := hid (fun W (hW : Below w.heap.size w W) (hr : RSnap ns ss) => writtenSnap_c a b ca cb ns ss W (hn.later hW) (hb.later hW) hr.1.1 (by
   have h1 := hr.2
   unfold stOk at h1
   rw [Bool.and_eq_true, decide_eq_true_eq] at h1
   have := hr.1.1
   omega) (fun x hx => ⟨hs hr x hx, right_ok hr.1 x hx⟩))
 have B0 := hid b0
 have H0 := hid h0
 clear b0 h0 hn hb hs
 unfold RsP2 at RC
 go_enter Tryz.func145, Tryz.ntmps145
 go_upto_region 1 with fail
 generalize (w.alloc (.cells #[.slice a ns.length ca, .slice b ss.length cb] 75)) = V at *
 go_wp2_with (first
   | (go_at_call 203; refine RC.out.mono ?_; rintro _ w1 ⟨b1, rfl, hq1, hb1⟩
      have Q1 := hid hq1
      have B1 := hid (B0.out.trans (hb1.mono B0.out.size))
      have z0 : w1.cell? ⟨w.heap.size, 0, none⟩ = some (.slice a ns.length ca) := cell_of_row2 ((hb1.block _ (lt_blkR H0.out)).trans H0.out) 0 rfl
      have z1 : w1.cell? ⟨w.heap.size, 1, none⟩ = some (.slice b ss.length cb) := cell_of_row2 ((hb1.block _ (lt_blkR H0.out)).trans H0.out) 1 rfl
      clear hq1 hb1))
 · have hb : ¬ b1 = true := by have h9 := ‹(!b1) = true›; intro e; rw [e] at h9; cases h9
   go_ret2
   exact ⟨.inr ⟨fun h => hb (Q1.out.2 h), rfl⟩, B1.out⟩
 · have hb : b1 = true := by have h9 := ‹(!b1) = false›; simpa using h9
   have HR := hid (Q1.out.1 hb)
   refine (WC.out _ B1.out HR.out).mono ?_
   rintro _ w2 ⟨v2, rfl, hO2, hb2⟩
   obtain ⟨a2, c2, rfl⟩ := own_shapeR hO2
   have O2 := hid hO2
   clear hO2
   go_wp2
   go_ret2
   exact ⟨.inl ⟨HR.out, _, rfl, own_baseR O2.out B1.out.size⟩, B1.out.trans (hb2.mono B1.out.size)⟩
end Go.Proofs.YtfmghbennahlfaaGreat
