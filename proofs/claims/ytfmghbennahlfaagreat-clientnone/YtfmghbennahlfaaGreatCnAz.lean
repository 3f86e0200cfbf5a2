/-
  
-/
import Derived.Test.YtfmghbennahlfaaGreatCnAy
namespace Go.Proofs.YtfmghbennahlfaaGreat
open Go.RowKit Go.ChangeShapes Go.WideShapes Go.ChangeAt Go.Maps Go.Shelf
attribute [local go_sem] Oper.semAt_some
set_option linter.unusedVariables false
set_option linter.unusedSimpArgs false
theorem IsSS.blk {w w' : World} {b off n : Nat} {ss : List (List Int)} (h : IsSS w (some ⟨b, off, none⟩) n ss) (hb : w'.heap[b]? = w.heap[b]?) : IsSS w' (some ⟨b, off, none⟩) n ss := by
 obtain ⟨h1, h2, h3, h4⟩ := h
 refine ⟨h1, h2, h3, fun hp => ?_⟩
 obtain ⟨b', off', e, hc⟩ := h4 hp
 cases e
 exact ⟨b, off, rfl, fun i hi j v hv => by rw [World.cell?_of_block (a := ⟨b, off + i * 32 + j, none⟩) hb]; exact hc i hi j v hv⟩
theorem IsSS.rest {w : World} {b off n : Nat} {ss : List (List Int)} (h : IsSS w (some ⟨b, off, none⟩) n ss) (m : Nat) (hm : m ≤ n) : IsSS w (some ⟨b, off + m * 32, none⟩) (n - m) (ss.drop m) := by
 have h1 := h.sub m (n - m) (by omega)
 rwa [List.take_of_length_le (by simp [h.1])] at h1
def Left (t : Int) (ss : List (List Int)) (gs : List Jo.Gr) (r : List (List Int)) : Prop :=
 r.length + 2 * gs.length ≤ ss.length ∧ Jo.groupsF t (ss.length + 1) 1 ss = gs ++ Jo.groupsF t (ss.length + 1 - gs.length) ((gs.length : Int) + 1) r
theorem Left.start (t : Int) (ss : List (List Int)) : Left t ss [] ss := ⟨by simp, by simp⟩
theorem need_two {t n : Int} {g : Jo.Gr} {r : List (List Int)} (h : Jo.readF t n r = some g) (hs : ∀ s ∈ r, Jo.Sct s) : 2 ≤ Jo.needF g ∧ Jo.needF g ≤ r.length ∧ Jo.okG g = true := by
 obtain ⟨⟨ho, r', e⟩, _⟩ := Jo.of_read h hs
 have h1 := Jo.need_ok ho
 have h2 := Jo.laid_len g t n
 refine ⟨by rw [h1]; unfold Jo.secsOf; omega, ?_, ho⟩
 rw [h1, ← h2, e, List.length_append]; omega
theorem Left.next {t : Int} {ss r : List (List Int)} {gs : List Jo.Gr} {g : Jo.Gr} (h : Left t ss gs r) (hg : Jo.readF t ((gs.length : Int) + 1) r = some g) (hs : ∀ s ∈ r, Jo.Sct s) : Left t ss (gs ++ [g]) (r.drop (Jo.needF g)) := by
 have hn := need_two hg hs
 refine ⟨by simp; have := h.1; omega, ?_⟩
 rw [h.2]
 obtain ⟨k, hk⟩ : ∃ k, ss.length + 1 - gs.length = k + 1 := ⟨ss.length - gs.length, by have := h.1; omega⟩
 rw [hk]
 conv => lhs; unfold Jo.groupsF; rw [hg]
 simp only [List.length_append, List.length_cons, List.length_nil, List.append_assoc, List.cons_append, List.nil_append]
 rw [show ss.length + 1 - (gs.length + (0 + 1)) = k by omega, show (((gs.length + (0 + 1) : Nat)) : Int) + 1 = (gs.length : Int) + 1 + 1 by omega]
theorem Left.last {t : Int} {ss r : List (List Int)} {gs : List Jo.Gr} (h : Left t ss gs r) (hg : Jo.readF t ((gs.length : Int) + 1) r = none) : Jo.groupsF t (ss.length + 1) 1 ss = gs := by
 rw [h.2]
 obtain ⟨k, hk⟩ : ∃ k, ss.length + 1 - gs.length = k + 1 := ⟨ss.length - gs.length, by have := h.1; omega⟩
 rw [hk]
 unfold Jo.groupsF
 rw [hg]
 simp
def allG (t : Int) (ss : List (List Int)) : List Jo.Gr := Jo.groupsF t (ss.length + 1) 1 ss
set_option maxRecDepth 20000 in
set_option maxHeartbeats 4000000 in
theorem groups1_in (l jb ab : Nat) (j d b1 b2 N : Nat) (on : Int → Sec) (c : Int → Option Sec) (k t : Int) (st en : Nat) (hse : st ≤ en) (hen : en ≤ N) (ht : 0 ≤ t ∧ t < 4294967296) (W : World) (I : List Jo.Gr → World → Prop)
   (hJ : IsJ W j d b1 b2 N on c) (hjb : W.heap[jb]? = some (.cells #[pB j] 67 (0, 0))) (hab : W.heap[ab]? = some (.cells #[.int .i64 k, .int .u32 t, .int .i64 st, .int .i64 en] 266 (0, 0)))
   (hL : ∀ (gs : List Jo.Gr) (V V' : World), I gs V → Below V.heap.size V V' → I gs V') (hab' : ∀ (gs : List Jo.Gr) (V : World), I gs V → V.heap[ab]? = some (.cells #[.int .i64 k, .int .u32 t, .int .i64 st, .int .i64 en] 266 (0, 0)))
   (hY : ∀ (gs : List Jo.Gr) (g : Jo.Gr) (v : Value) (V : World), I gs V → W.heap.size ≤ V.heap.size → PG W.heap.size V v g → gs.length < 2048 → YieldAt Fence.wide 1 Tryz.prog l #[v, .int .i64 (Jo.needF g : Nat)] V fun e V' => e = .returned (.bool true) ∧ I (gs ++ [g]) V' ∧ W.heap.size ≤ V'.heap.size ∧ ∀ (q : Nat) (cur : Array Value) (fr : Nat × Nat), V.heap[q]? = some (Obj.cells cur 260 fr) → V'.heap[q]? = V.heap[q]?)
   (h0 : I [] W) :
   CallsIn Fence.wide 2 Tryz.prog 219 #[.func (.yield l) #[] #[], .pointer (some ⟨jb, 0, none⟩), .pointer (some ⟨ab, 0, none⟩)] W fun e V' => (∃ v, e = .returned v) ∧ I (allG t (secs (vw on c) st (en - st))) V' := by
 have hN := hJ.2.1.two
 have hv := fun i => hJ.2.1.sec i
 have hsct := secs_sct hv st (en - st)
 have hsl := secs_len (vw on c) st (en - st)
 have SC := hid (sectors_c hJ k t st en hse hen)
 unfold arV at SC
 have cj := cell_box hjb
 have a0 : W.cell? ⟨ab, 0, none⟩ = some (.int .i64 k) := by rw [cell_of_row W _ 0 _ _ _ hab]; rfl
 have a1 : W.cell? ⟨ab, 1, none⟩ = some (.int .u32 t) := by rw [cell_of_row W _ 1 _ _ _ hab]; rfl
 have a2 : W.cell? ⟨ab, 2, none⟩ = some (.int .i64 st) := by rw [cell_of_row W _ 2 _ _ _ hab]; rfl
 have a3 : W.cell? ⟨ab, 3, none⟩ = some (.int .i64 en) := by rw [cell_of_row W _ 3 _ _ _ hab]; rfl
 have H0 := hid h0
 have hm : (secs (vw on c) st (en - st)).length ≤ 2048 := by omega
 have HSL := hid hsl
 clear hsl
 unfold allG
 generalize secs (vw on c) st (en - st) = ss at *
 clear hJ hv h0
 refine callsIn_of_wp Tryz.func219 rfl trivial ?_ rfl
 simp only [Tryz.ntmps219, List.size_toArray, List.length_cons, List.length_nil, Nat.reduceAdd, Nat.reduceSub, Array.replicate_succ, Array.replicate_zero, List.push_toArray, List.append_toArray, List.nil_append, List.cons_append]
 gi_wp2_with fail
 refine ⟨trivial, (callsIn_wide.2 SC.out).mono ?_⟩
 rintro _ W1 ⟨v, rfl, hown, hb1⟩
 obtain ⟨ra, rc, rfl, hS, hrc, hin⟩ := own_isSS hown hsct (by omega)
 have hT : ∀ q, ra = some q → ∃ cur fr, W1.heap[q.block]? = some (.cells cur 260 fr) := by
   intro q e
   rcases hown.2 with ⟨hv, _⟩ | ⟨g, cap, cur, hv, _, e3, _⟩
   · cases e; cases hv
   · cases e; cases hv; exact ⟨_, _, e3⟩
 have hI1 := hL _ _ _ H0.out hb1
 clear hown hin
 gi_wp2
 gi_loopw [4, 5] (fun s i wr => ∃ (gs : List Jo.Gr) (r : List (List Int)) (a : Option Addr) (m cp : Nat), s = .slice a m cp ∧ m ≤ cp ∧ i = .int .u32 ((gs.length : Int) + 1) ∧ Left t ss gs r ∧ IsSS wr a m r ∧ I gs wr ∧ W.heap.size ≤ wr.heap.size ∧ (∀ q, a = some q → ∃ cur fr, wr.heap[q.block]? = some (.cells cur 260 fr))) (fun s _ _ => match s with | .slice _ m _ => m | _ => 0)
 case atStart => exact ⟨[], ss, ra, _, rc, rfl, hrc, rfl, Left.start t ss, hS, hI1, hb1.size, hT⟩
 case round =>
   obtain ⟨gs, r, a, m, cp, rfl, hmc, rfl, hLf, hSr, hIr, hzr, hTr⟩ := hrel
   have hgl : gs.length ≤ 1024 := by have := hLf.1; omega
   have hrl := hSr.1
   have hrm : m ≤ 2048 := by have := hLf.1; omega
   have x1 : wr.cell? ⟨ab, 1, none⟩ = some (.int .u32 t) := by rw [cell_of_row wr _ 1 _ _ _ (hab' _ _ hIr)]; rfl
   have RG : Calls Tryz.prog 221 #[.slice a m cp, .int .u32 t, .int .u32 ((gs.length : Int) + 1)] wr (GroupPost t ((gs.length : Int) + 1) r wr) := by
     cases r with
     | nil =>
       have : m = 0 := by simpa using hrl.symm
       subst this
       exact readGroup_none a cp t _ wr
     | cons s r =>
       obtain ⟨b, off, rfl, _⟩ := hSr.2.2.2 (by rw [← hrl]; simp)
       exact readGroup_some b off m cp t _ s r wr hSr hmc hrm ht (by omega)
   have HRG := hid RG
   have HLf := hid hLf
   have HSr := hid hSr
   have HIr := hid hIr
   have HTr := hid hTr
   clear RG hLf hSr hIr hTr
   gi_wp2_with fail
   refine ⟨trivial, (callsIn_wide.2 HRG.out).mono ?_⟩
   rintro _ w2 ⟨⟨g, gv, hg, rfl, hP⟩ | ⟨hg, rfl⟩, hb2⟩
   · have hn2 := need_two hg HSr.out.2.2.1
     have HNX := hid (HLf.out.next hg HSr.out.2.2.1)
     rw [hrl] at hn2
     obtain ⟨b, off, rfl, _⟩ := HSr.out.2.2.2 (by omega)
     obtain ⟨cur, fr, hcur⟩ := HTr.out _ rfl
     have hcur2 : w2.heap[b]? = some (.cells cur 260 fr) := by rw [hb2.block b (lt_blk hcur)]; exact hcur
     obtain ⟨fn, tmps, assign, body, hy, hR⟩ := hY gs g gv w2 (hL _ _ _ HIr.out hb2) (Nat.le_trans hzr hb2.size) (hP.base hzr) (by omega)
     obtain ⟨ga, gc, hgv, _⟩ := hP.isG0 (by have := (Jo.ok_iff.1 hn2.2.2).2.1; omega)
     subst hgv
     have HR := hid hR
     have HS2 := hid (HSr.out.later hb2)
     clear hR hP hg hcur
     generalize Jo.needF g = ng at *
     have i0 : (0 : Int) ≤ ng := by omega
     have i1 : (ng : Int) ≤ m := by omega
     have i2 : (ng : Int) ≤ cp := by omega
     have i3 : (m : Int) ≤ cp := by omega
     have hgl2 : (gs.length : Int) + 1 + 1 < 4294967296 := by omega
     gi_wp2_with fail
     refine HR.out.mono ?_
     rintro _ W3 ⟨rfl, hI3, hz3, hk3⟩
     have hb3 := hk3 b cur fr hcur2
     have SS3 := (HS2.out.blk hb3).rest ng (by omega)
     have T3 : W3.heap[b]? = some (.cells cur 260 fr) := hb3.trans hcur2
     by_cases hcp : cp = ng
     · have hm0 : m = ng := by omega
       have SS0 : IsSS W3 (some ⟨b, off, none⟩) 0 (r.drop ng) := ⟨by rw [SS3.1]; omega, by omega, SS3.2.2.1, fun hp => by omega⟩
       have HSS0 := hid SS0
       clear SS3 SS0
       gi_wp2
       go_roundw
       case rel => exact ⟨gs ++ [g], r.drop ng, some ⟨b, off, none⟩, _, _, rfl, by omega, by simp, HNX.out, HSS0.out, hI3, hz3, fun q e => by cases e; exact ⟨_, _, T3⟩⟩
       case measure => simp; omega
     · have HSS3 := hid SS3
       clear SS3
       gi_wp2
       go_roundw
       case rel => exact ⟨gs ++ [g], r.drop ng, some ⟨b, off + ng * 32, none⟩, _, _, rfl, by omega, by simp, HNX.out, HSS3.out, hI3, hz3, fun q e => by cases e; exact ⟨_, _, T3⟩⟩
       case measure => simp; omega
   · have E := hid (HLf.out.last hg)
     have hI2 := hL _ _ _ HIr.out hb2
     gi_wp2
     refine ⟨fun _ h => (by cases h), ?_⟩
     gi_wp2
     refine bodyPost_ret (results_none (by kernel_rfl) _ _ _) rfl ?_
     exact ⟨⟨_, rfl⟩, by rw [E.out]; exact hI2⟩
attribute [local go_sem] Oper.semAt_some
set_option linter.unusedVariables false
set_option linter.unusedSimpArgs false
set_option maxHeartbeats 400000 in
theorem groups_c (j : Nat) (k t st en : Int) (w : World) :
   Calls Tryz.prog 167 #[pB j, .agg #[.int .i64 k, .int .u32 t, .int .i64 st, .int .i64 en]] w fun e w' => e = .returned (.func (.func 219) #[] #[.pointer (some ⟨w.heap.size, 0, none⟩), .pointer (some ⟨w.heap.size + 1, 0, none⟩)]) ∧ w' = (w.alloc (.cells #[pB j] 67)).alloc (.cells #[.int .i64 k, .int .u32 t, .int .i64 st, .int .i64 en] 266) := by
 go_enter Tryz.func167, Tryz.ntmps167
 go_wp2
 go_ret
 exact ⟨rfl, rfl⟩
def sumN (gs : List Jo.Gr) : Nat := (gs.map Jo.needF).sum
theorem need_le (g : Jo.Gr) : Jo.needF g ≤ 5000 := by
 unfold Jo.needF
 split
 · rename_i h; have := (Jo.ok_load h).2; unfold Jo.secsOf Jo.many; omega
 · omega
def KS (V W' : World) : Prop := ∀ (q : Nat) (cur : Array Value) (fr : Nat × Nat), V.heap[q]? = some (Obj.cells cur 260 fr) → W'.heap[q]? = V.heap[q]?
attribute [local go_sem] Oper.semAt_some
set_option linter.unusedVariables false
set_option linter.unusedSimpArgs false
def PGs (B : Nat) (w : World) (v : Value) (L : List Jo.Gr) : Prop :=
 ∃ vals : List Value, w.ownsRow B 152 1 v L.length vals ∧ ∀ i, i < L.length → ∃ u, vals[i]? = some u ∧ PG B w u (L.getD i [])
theorem PGs.nil (B : Nat) (w : World) : PGs B w (.slice none 0 0) [] := ⟨[], World.ownsRow_nil w B 152 1, fun i hi => by simp at hi⟩
theorem PG.far {B : Nat} {w w' : World} {v : Value} {gs : Jo.Gr} (h : PG B w v gs) (hk : ∀ (q : Nat) (cur : Array Value) (fr : Nat × Nat), w.heap[q]? = some (Obj.cells cur 37 fr) ∨ w.heap[q]? = some (Obj.cells cur 5 fr) → w'.heap[q]? = w.heap[q]?) : PG B w' v gs := by
 obtain ⟨vals, h1, h2⟩ := h
 have far : ∀ {e : TypeId} {u : Value} {n : Nat} {xs : List Value}, (e = 37 ∨ e = 5) → w.ownsRow B e 1 u n xs → w'.ownsRow B e 1 u n xs := fun {e u n xs} he hz => by
   refine ⟨hz.1, ?_⟩
   rcases hz.2 with h | ⟨g, cap, cur, e1, e2, e3, e4⟩
   · exact .inl h
   · refine .inr ⟨g, cap, cur, e1, e2, ?_, e4⟩
     rw [hk g cur (0, 0) (by rcases he with rfl | rfl; exact .inl e3; exact .inr e3)]; exact e3
 refine ⟨vals, far (.inl rfl) h1, fun i hi => ?_⟩
 obtain ⟨u, e1, e2, e3⟩ := h2 i hi
 exact ⟨u, e1, far (.inr rfl) e2, e3⟩
theorem PGs.later {B : Nat} {w w' : World} {v : Value} {L : List Jo.Gr} (h : PGs B w v L) (hb : Below w.heap.size w w') : PGs B w' v L := by
 obtain ⟨vals, h1, h2⟩ := h
 refine ⟨vals, own_keep h1 (Out.of (S := fun _ => False) hb) (fun _ _ h => h), fun i hi => ?_⟩
 obtain ⟨u, e1, e2⟩ := h2 i hi
 exact ⟨u, e1, e2.later hb⟩
def KC (w w' : World) : Prop := ∀ (q : Nat) (cur : Array Value) (e : TypeId) (fr : Nat × Nat), w.heap[q]? = some (Obj.cells cur e fr) → w'.heap[q]? = w.heap[q]?
theorem kc_put {w : World} {q : Nat} {o o' : Obj} (h : w.heap[q]? = some o) (hn : ∀ cur e fr, o ≠ Obj.cells cur e fr) : KC w (w.putObj q o') := fun p cur e fr hp =>
 World.putObj_heap_other (fun he => by rw [he, h] at hp; exact hn cur e fr (Option.some.inj hp))
theorem PGs.keep {B : Nat} {w w' : World} {v : Value} {L : List Jo.Gr} (h : PGs B w v L) (hk : KC w w') : PGs B w' v L := by
 obtain ⟨vals, h1, h2⟩ := h
 refine ⟨vals, ?_, fun i hi => ?_⟩
 · refine ⟨h1.1, ?_⟩
   rcases h1.2 with h | ⟨g, cap, cur, e1, e2, e3, e4⟩
   · exact .inl h
   · exact .inr ⟨g, cap, cur, e1, e2, by rw [hk g cur _ _ e3]; exact e3, e4⟩
 · obtain ⟨u, e1, e2⟩ := h2 i hi
   exact ⟨u, e1, e2.far fun q cur fr hq => by rcases hq with hq | hq <;> exact hk q cur _ _ hq⟩
theorem PGs.base {B B' : Nat} {w : World} {v : Value} {L : List Jo.Gr} (h : PGs B w v L) (hB : B' ≤ B) : PGs B' w v L := by
 obtain ⟨vals, h1, h2⟩ := h
 refine ⟨vals, own_base h1 hB, fun i hi => ?_⟩
 obtain ⟨u, e1, e2⟩ := h2 i hi
 exact ⟨u, e1, e2.base hB⟩
theorem PGs.shape {B : Nat} {w : World} {v : Value} {L : List Jo.Gr} (h : PGs B w v L) : ∃ a cap, v = .slice a L.length cap := by
 obtain ⟨vals, h1, _⟩ := h; exact own_shape6 h1
theorem own_cells {w : World} {B e sz n : Nat} {v : Value} {xs : List Value} (h : w.ownsRow B e sz v n xs) (q : Nat) (hq : v.ownBlock = some q) : ∃ cur, w.heap[q]? = some (Obj.cells cur e (0, 0)) := by
 rcases h.2 with ⟨rfl, _⟩ | ⟨g, cap, cur, rfl, _, e1, _⟩
 · cases hq
 · cases hq; exact ⟨cur, e1⟩
def GLI (w : World) (z j : Nat) (ar : Array Value) (R : Obj) (gs : List Jo.Gr) (V : World) : Prop :=
 Below w.heap.size w V ∧ z + 4 ≤ V.heap.size ∧ (∃ v, V.heap[w.heap.size]? = some (.cells #[v] 181 (0, 0)) ∧ PGs (z + 4) V v gs) ∧
 V.heap[z]? = some (.cells #[pB j] 67 (0, 0)) ∧ V.heap[z + 1]? = some (.cells ar 266 (0, 0)) ∧ V.heap[z + 2]? = some (.deferred (some [])) ∧ V.heap[z + 3]? = some R
theorem GLI.later {w V V' : World} {z j : Nat} {ar : Array Value} {R : Obj} {gs : List Jo.Gr} (hz : w.heap.size < z) (h : GLI w z j ar R gs V) (hb : Below V.heap.size V V') : GLI w z j ar R gs V' := by
 obtain ⟨h1, h2, ⟨v, h3, h4⟩, h5, h6, h7, h8⟩ := h
 refine ⟨h1.trans (hb.mono (by omega)), Nat.le_trans h2 hb.size, ⟨v, by rw [hb.block _ (by omega)]; exact h3, h4.later hb⟩, ?_, ?_, ?_, ?_⟩
 all_goals (rw [hb.block _ (by omega)]; assumption)
theorem GLI.next {w V V1 w5 : World} {z j : Nat} {ar : Array Value} {r : Loop} {Rb : Obj} {gs : List Jo.Gr} {g : Jo.Gr} {v gv : Value} {vals : List Value} {a5 : Option Addr} {n5 c5 : Nat} (hz : w.heap.size < z) (h : GLI w z j ar (.loop r) gs V)
   (hv : V.heap[w.heap.size]? = some (.cells #[v] 181 (0, 0))) (hrow : V.ownsRow (z + 4) 152 1 v gs.length vals) (hall : ∀ i, i < gs.length → ∃ u, vals[i]? = some u ∧ PG (z + 4) V u (gs.getD i [])) (hP : PG (z + 4) V gv g)
   (h1o : V1.os = V.os ∧ V1.tape = V.tape ∧ V1.output = V.output) (h1 : ∀ q, q < V.heap.size → q ≠ z + 3 → V1.heap[q]? = V.heap[q]?) (h1b : V1.heap[z + 3]? = some Rb) (h1z : V.heap.size ≤ V1.heap.size)
   (hown : w5.ownsRow (z + 4) 152 1 (.slice a5 n5 c5) (gs.length + 1) (vals ++ [gv])) (hg : V1.grownBy w5 v.ownBlock) :
   (w5.setCell ⟨w.heap.size, 0, none⟩ (.slice a5 n5 c5)).heap[z + 3]? = some Rb ∧ GLI w z j ar (.loop r) (gs ++ [g]) ((w5.setCell ⟨w.heap.size, 0, none⟩ (.slice a5 n5 c5)).putObj (z + 3) (.loop r)) ∧
   V.heap.size ≤ ((w5.setCell ⟨w.heap.size, 0, none⟩ (.slice a5 n5 c5)).putObj (z + 3) (.loop r)).heap.size ∧ KS V ((w5.setCell ⟨w.heap.size, 0, none⟩ (.slice a5 n5 c5)).putObj (z + 3) (.loop r)) := by
 obtain ⟨g1, g2, _, g5, g6, g7, g8⟩ := h
 have hz5 := hg.size
 have hlo : ∀ q, v.ownBlock = some q → z + 4 ≤ q ∧ q < V.heap.size := fun q hq => hrow.lt q hq
 have k5 : ∀ q, q < V.heap.size → v.ownBlock ≠ some q → q ≠ z + 3 → w5.heap[q]? = V.heap[q]? := fun q a b c => by rw [hg.block q (by omega) (fun e => b e.symm), h1 q a c]
 have kx : ∀ q, q < V.heap.size → v.ownBlock ≠ some q → q ≠ z + 3 → q ≠ w.heap.size → ((w5.setCell ⟨w.heap.size, 0, none⟩ (.slice a5 n5 c5)).putObj (z + 3) (.loop r)).heap[q]? = V.heap[q]? := fun q a b c d => by
   rw [World.putObj_heap_other c, heap_setCell_other _ _ _ _ d]; exact k5 q a b c
 have nrow : ∀ (q : Nat) (cur : Array Value) (e : TypeId) (fr : Nat × Nat), e ≠ 152 → V.heap[q]? = some (Obj.cells cur e fr) → v.ownBlock ≠ some q := fun q cur e fr he hq hb => by
   obtain ⟨cur', e'⟩ := own_cells hrow q hb
   rw [e'] at hq; have := Option.some.inj hq; injection this with a b c; exact he b.symm
 have nloop : ∀ (q : Nat) (cur : Array Value) (e : TypeId) (fr : Nat × Nat), V.heap[q]? = some (Obj.cells cur e fr) → q ≠ z + 3 := fun q cur e fr hq hb => by rw [hb, g8] at hq; cases hq
 have nbox : ∀ (q : Nat) (cur : Array Value) (e : TypeId) (fr : Nat × Nat), e ≠ 181 → V.heap[q]? = some (Obj.cells cur e fr) → q ≠ w.heap.size := fun q cur e fr he hq hb => by
   rw [hb, hv] at hq; have := Option.some.inj hq; injection this with a b c; exact he b.symm
 have b0 : w5.heap[w.heap.size]? = some (.cells #[v] 181 (0, 0)) := by rw [k5 _ (by omega) (nrow _ _ _ _ (by decide) hv) (by omega)]; exact hv
 have b3 : w5.heap[z + 3]? = some Rb := by rw [hg.block _ (by omega) (fun e => by have := hlo _ e.symm; omega)]; exact h1b
 have far : ∀ {u : Value} {x : Jo.Gr}, PG (z + 4) V u x → PG (z + 4) ((w5.setCell ⟨w.heap.size, 0, none⟩ (.slice a5 n5 c5)).putObj (z + 3) (.loop r)) u x := fun {u x} hu =>
   hu.far fun q cur fr hq => by
     rcases hq with hq | hq
     · exact kx q (lt_blk hq) (nrow _ _ _ _ (by decide) hq) (nloop _ _ _ _ hq) (nbox _ _ _ _ (by decide) hq)
     · exact kx q (lt_blk hq) (nrow _ _ _ _ (by decide) hq) (nloop _ _ _ _ hq) (nbox _ _ _ _ (by decide) hq)
 have hvl : vals.length = gs.length := by simpa using hrow.1
 refine ⟨by rw [heap_setCell_other _ _ _ _ (by simp only; omega)]; exact b3, ⟨⟨hg.os.trans (h1o.1.trans g1.os), hg.tape.trans (h1o.2.1.trans g1.tape), hg.output.trans (h1o.2.2.trans g1.output), by have := g1.size; simp [World.setCell]; omega, fun q hq => ?_⟩, by simp [World.setCell]; omega, ⟨.slice a5 n5 c5, ?_, vals ++ [gv], ?_, ?_⟩, ?_, ?_, ?_, World.putObj_heap_same (by simp [World.setCell]; omega)⟩, by simp [World.setCell]; omega, ?_⟩
 · rw [kx q (by omega) (fun e => by have := hlo q e; omega) (by omega) (by omega)]; exact g1.block q hq
 · rw [World.putObj_heap_other (by omega)]; exact heap_setBox _ b0
 · rw [List.length_append]
   refine ⟨hown.1, ?_⟩
   rcases hown.2 with h | ⟨q, cap, cur, e1, e2, e3, e4⟩
   · exact .inl h
   · exact .inr ⟨q, cap, cur, e1, e2, by rw [World.putObj_heap_other (by omega), heap_setCell_other _ _ _ _ (by simp only; omega)]; exact e3, e4⟩
 · intro i hi
   by_cases hlt : i < gs.length
   · obtain ⟨x, e1, e2⟩ := hall i hlt
     have e : (gs ++ [g]).getD i [] = gs.getD i [] := by simp [List.getD, List.getElem?_append_left hlt]
     rw [e]
     exact ⟨x, by rw [List.getElem?_append_left (by omega)]; exact e1, far e2⟩
   · have ei : i = gs.length := by simp at hi; omega
     subst ei
     have e : (gs ++ [g]).getD gs.length [] = g := by simp [List.getD]
     rw [e]
     exact ⟨gv, by rw [← hvl]; simp, far hP⟩
 · rw [kx _ (by omega) (fun e => by have := hlo _ e; omega) (by omega) (by omega)]; exact g5
 · rw [kx _ (by omega) (fun e => by have := hlo _ e; omega) (by omega) (by omega)]; exact g6
 · rw [kx _ (by omega) (fun e => by have := hlo _ e; omega) (by omega) (by omega)]; exact g7
 · intro q cur fr hq
   exact kx q (lt_blk hq) (nrow _ _ _ _ (by decide) hq) (nloop _ _ _ _ hq) (nbox _ _ _ _ (by decide) hq)
def grps (v : Int → Sec) (N : Nat) : List Jo.Gr := allG (best v 2).2 (secs v (2 + (best v 2).1 * asz N) (asz N))
theorem info30 : ∃ i : TypeInfo, Tryz.prog.info? 152 = some i ∧ i.zero = some (.slice none 0 0) ∧ i.size = 1 ∧ i.bytes = 24 := by
 have h : (Tryz.prog.info? 152).map (fun i => (i.zero, i.size, i.bytes)) = some (some (.slice none 0 0), 1, 24) := by kernel_rfl
 cases hi : Tryz.prog.info? 152 with
 | none => rw [hi] at h; cases h
 | some i => rw [hi] at h; simp at h; exact ⟨i, rfl, h.1, h.2.1, h.2.2⟩
set_option maxRecDepth 20000 in
set_option maxHeartbeats 4000000 in
theorem groups_all_c {w : World} {j d b1 b2 N : Nat} {on : Int → Sec} {c : Int → Option Sec} (h : IsJ w j d b1 b2 N on c) :
   Calls Tryz.prog 105 #[pB j] w fun e w' => ∃ v, e = .returned v ∧ PGs w.heap.size w' v (grps (vw on c) N) ∧ Below w.heap.size w w' := by
 have hN := h.2.1.two
 have h8 := h.2.2
 have hbb := best_bd (fun i => h.2.1.sec i) 2 (Nat.le_refl _)
 have haz : asz N ≤ 1023 := by unfold asz; omega
 have hx0 := heap_alloc_new w (.cells #[.slice none 0 0] 181)
 have hb0 : Below w.heap.size w (w.alloc (.cells #[.slice none 0 0] 181)) := (Below.refl _ _).alloc (Nat.le_refl _) _
 have hz0' : (w.alloc (.cells #[.slice none 0 0] 181)).heap.size = w.heap.size + 1 := by simp
 have CC := hid (counting_c (h.later hb0))
 have H := hid h
 clear h
 unfold grps
 have hse : 2 + (best (vw on c) 2).1 * asz N ≤ 2 + (best (vw on c) 2).1 * asz N + asz N := by omega
 have hen : 2 + (best (vw on c) 2).1 * asz N + asz N ≤ N := by
   have h2 : 2 * asz N + 2 ≤ N := by unfold asz; omega
   have : (best (vw on c) 2).1 * asz N ≤ 1 * asz N := Nat.mul_le_mul_right _ hbb.1
   omega
 have hsub : 2 + (best (vw on c) 2).1 * asz N + asz N - (2 + (best (vw on c) 2).1 * asz N) = asz N := by omega
 unfold arC at CC
 generalize (best (vw on c) 2).2 = t at *
 generalize 2 + (best (vw on c) 2).1 * asz N = st at *
 generalize ((best (vw on c) 2).1 : Int) = kk at *
 rw [← hsub]
 generalize st + asz N = en at *
 clear hsub
 refine (callsIn_wide (n := 3)).1 ?_
 refine callsIn_of_wp_marks Tryz.func105 rfl trivial ?_ rfl
 simp only [Tryz.ntmps105, List.size_toArray, List.length_cons, List.length_nil, Nat.reduceAdd, Nat.reduceSub, Array.replicate_succ, Array.replicate_zero, List.push_toArray, List.append_toArray, List.nil_append, List.cons_append]
 gi_wp2_with fail
 refine ⟨trivial, (callsIn_wide.2 CC.out).mono ?_⟩
 rintro _ Z ⟨rfl, hbZ⟩
 gi_wp2_with fail
 refine ⟨trivial, (callsIn_wide.2 (groups_c j kk t st en _)).mono ?_⟩
 rintro _ _ ⟨rfl, rfl⟩
 gi_wp2_with fail
 have hZz : w.heap.size < Z.heap.size := by have := hbZ.size; omega
 have y0 : Z.heap[w.heap.size]? = some (.cells #[.slice none 0 0] 181 (0, 0)) := by rw [hbZ.block _ (by omega)]; exact hx0
 have hBZ : Below w.heap.size w Z := hb0.trans (hbZ.mono (by omega))
 have A1 := alloc_facts Z (.cells #[pB j] 67)
 have n1 := heap_alloc_new Z (.cells #[pB j] 67)
 have A2 := alloc_facts (Z.alloc (.cells #[pB j] 67)) (.cells #[.int .i64 kk, .int .u32 t, .int .i64 st, .int .i64 en] 266)
 have n2 := heap_alloc_new (Z.alloc (.cells #[pB j] 67)) (.cells #[.int .i64 kk, .int .u32 t, .int .i64 st, .int .i64 en] 266)
 generalize (Z.alloc (.cells #[pB j] 67)).alloc (.cells #[.int .i64 kk, .int .u32 t, .int .i64 st, .int .i64 en] 266) = W0 at *
 generalize Z.alloc (.cells #[pB j] 67) = Z1 at *
 have hsz : W0.heap.size = Z.heap.size + 2 := by rw [A2.1, A1.1]
 have hBW0 : Below Z.heap.size Z W0 := (alloc_below A1 (Nat.le_refl _)).trans (alloc_below A2 (by rw [A1.1]; omega))
 have x1 : W0.heap[Z.heap.size]? = some (.cells #[pB j] 67 (0, 0)) := by rw [A2.2.1 _ (by rw [A1.1]; omega)]; exact n1
 have x2 : W0.heap[Z.heap.size + 1]? = some (.cells #[.int .i64 kk, .int .u32 t, .int .i64 st, .int .i64 en] 266 (0, 0)) := by rw [A1.1] at n2; exact n2
 have x0 : W0.heap[w.heap.size]? = some (.cells #[.slice none 0 0] 181 (0, 0)) := by rw [hBW0.block _ hZz]; exact y0
 have hA0 : Below w.heap.size w W0 := hBZ.trans (hBW0.mono (by omega))
 obtain ⟨i0, hi, hzi0, hzi1, hzi2⟩ := info30
 clear A1 A2 n1 n2 hx0
 generalize Z.heap.size = z at *
 refine Rg.range_go (gf := 219) (lb := #[.pointer (some ⟨z, 0, none⟩), .pointer (some ⟨z + 1, 0, none⟩)]) (by first | rfl | simp) (enters_of Tryz.func219 (by kernel_rfl) rfl) (fun W' => ∃ R, (∀ cur e fr, R ≠ Obj.cells cur e fr) ∧ GLI w z j #[.int .i64 kk, .int .u32 t, .int .i64 st, .int .i64 en] R (allG t (secs (vw on c) st (en - st))) W') ?_ ?_
 · intro fn
   generalize hR : Rg.recOf fn _ _ _ _ _ = R
   have h6 : W0.heap.size + 1 = z + 3 := by omega
   have hD1 : ((W0.alloc (.deferred (some []))).alloc (.loop (R .ready))).heap[z + 2]? = some (.deferred (some [])) := by
     rw [Below.heap_alloc _ _ _ (by simp; omega), ← hsz]; exact heap_alloc_new W0 _
   have hL1 : ((W0.alloc (.deferred (some []))).alloc (.loop (R .ready))).heap[z + 3]? = some (.loop (R .ready)) := by
     have := heap_alloc_new (W0.alloc (.deferred (some []))) (.loop (R .ready)); rw [World.size_alloc, h6] at this; exact this
   have hB1 : Below W0.heap.size W0 ((W0.alloc (.deferred (some []))).alloc (.loop (R .ready))) := ((Below.refl _ _).alloc (Nat.le_refl _) _).alloc (by simp) _
   have hz1 : ((W0.alloc (.deferred (some []))).alloc (.loop (R .ready))).heap.size = z + 4 := by simp; omega
   generalize ((W0.alloc (.deferred (some []))).alloc (.loop (R .ready))) = W1 at *
   have hBW : Below w.heap.size w W1 := hA0.trans (hB1.mono (by omega))
   have t3 : W1.heap[z]? = some (.cells #[pB j] 67 (0, 0)) := by rw [hB1.block _ (by omega)]; exact x1
   have t4 : W1.heap[z + 1]? = some (.cells #[.int .i64 kk, .int .u32 t, .int .i64 st, .int .i64 en] 266 (0, 0)) := by rw [hB1.block _ (by omega)]; exact x2
   rw [hsz, show z + 2 + 1 = z + 3 from rfl]
   refine (groups1_in (z + 3) z (z + 1) j d b1 b2 N on c kk t st en hse hen hbb.2 W1 (GLI w z j #[.int .i64 kk, .int .u32 t, .int .i64 st, .int .i64 en] (.loop (R .ready))) (H.out.later hBW) t3 t4 (fun gs V V' h hb => GLI.later hZz h hb) (fun gs V h => h.2.2.2.2.1) ?_ ?_).mono ?_
   · intro gs g gv V hT hVz hP hgl
     rw [hsz] at hR
     rw [hz1] at hP hVz
     subst hR
     have hT0 := hT
     obtain ⟨t1, t2, ⟨v, hv, vals, hrow, hall⟩, _, _, t7, t8⟩ := hT
     refine Rg.round_go (R := fun W' => GLI w z j #[.int .i64 kk, .int .u32 t, .int .i64 st, .int .i64 en] _ (gs ++ [g]) W' ∧ W1.heap.size ≤ W'.heap.size ∧ KS V W') t8 (by rfl) ?_
     obtain ⟨ga, gc, rfl⟩ : ∃ ga gc, gv = .slice ga g.length gc := by obtain ⟨vs, q1, _⟩ := hP; exact own_shape6 q1
     gi_wp2
     refine ⟨t8, ?_⟩
     generalize Obj.loop (Rg.recOf fn _ _ _ _ (z + 2) LoopState.busy) = Rb at *
     have p1 : ∀ q, q ≠ z + 3 → (V.putObj (z + 3) Rb).heap[q]? = V.heap[q]? := fun q hq => World.putObj_heap_other hq
     have p2 : (V.putObj (z + 3) Rb).heap[z + 3]? = some Rb := World.putObj_heap_same (by omega)
     have p3 : (V.putObj (z + 3) Rb).heap.size = V.heap.size := by simp
     have p4 : (V.putObj (z + 3) Rb).os = V.os ∧ (V.putObj (z + 3) Rb).tape = V.tape ∧ (V.putObj (z + 3) Rb).output = V.output := ⟨rfl, rfl, rfl⟩
     generalize V.putObj (z + 3) Rb = V1 at *
     have A3 := alloc_facts V1 (.cells #[.slice ga g.length gc] 152)
     have v1 : V1.heap[w.heap.size]? = some (.cells #[v] 181 (0, 0)) := by rw [p1 _ (by omega)]; exact hv
     have c1 := cell_box v1
     have hrow1 : V1.ownsRow (z + 4) 152 1 v gs.length vals := own_far hrow (fun q hq => p1 q (by have := (hrow.lt q hq).1; omega))
     have NX := fun (w5 : World) (a5 : Option Addr) (n5 c5 : Nat) ho hg => GLI.next (V1 := V1.alloc (.cells #[.slice ga g.length gc] 152)) (w5 := w5) (a5 := a5) (n5 := n5) (c5 := c5) (Rb := Rb) hZz hT0 hv hrow hall hP ⟨A3.2.2.1.trans p4.1, A3.2.2.2.1.trans p4.2.1, A3.2.2.2.2.trans p4.2.2⟩ (fun q h1 h2 => by rw [A3.2.1 q (by omega)]; exact p1 q h2) (by rw [A3.2.1 _ (by omega)]; exact p2) (by rw [A3.1]; omega) ho hg
     have HNX := hid NX
     have HA3 := hid A3
     have hvb : ∀ q, v.ownBlock = some q → z + 4 ≤ q := fun q hq => (hrow.lt q hq).1
     have hV1z : z + 4 ≤ V1.heap.size := by omega
     have P3 := hid p3
     clear NX hT0 hP A3 hall p3
     gi_wp2_with (gi_at_builtin; refine wpListIn_append_own _ rfl _ _ 181 rfl (z + 4) 152 i0 (.slice none 0 0) 1 24 Tryz.underlying181 hi hzi0 hzi1 hzi2 rfl (by decide) _ _ _ rfl (hrow1.alloc _) ⟨V1.heap.size, 0, none⟩ 1 1 [.slice ga g.length gc] rfl rfl (cell_one_new _ _ _) (fun y hy => by simp at hy; subst hy; rfl) (by unfold maxLen; omega) (by omega) (by simp; omega) ?_; intro v' w5 hown5 hgrow5 hnil5; obtain ⟨a5, cap5, rfl⟩ := own_shape6 hown5; (have N5 := HNX.out w5 a5 _ cap5 hown5 hgrow5); (have b5 : w5.heap[w.heap.size]? = some (.cells #[v] 181 (0, 0)) := by rw [hgrow5.block _ (by rw [HA3.out.1]; omega) (fun e => by have := hvb _ e.symm; omega), HA3.out.2.1 _ (by omega)]; exact v1); (have d5 := cell_box b5); (have f5 := frozen_box b5))
     have bz := N5.2.2.1
     simp [World.setCell] at bz
     omega
   · exact ⟨hBW, by omega, ⟨_, by rw [hB1.block _ (by omega)]; exact x0, PGs.nil _ _⟩, t3, t4, hD1, hL1⟩
   · rintro e V ⟨he, hG⟩
     exact ⟨he, hG.2.2.2.2.2.2, hG.2.2.2.2.2.1, _, (fun _ _ _ h => by cases h), hG⟩
 · rintro W' o ⟨R, hRl, hG⟩ hD hl
   rw [hsz] at hD hl ⊢
   obtain ⟨g1, g2, ⟨v, hv, hP⟩, _, _, g7, g8⟩ := hG
   obtain ⟨va, vc, rfl⟩ := hP.shape
   have v2 : (W'.putObj (z + 2 + 1) o).heap[w.heap.size]? = some (.cells #[.slice va (allG t (secs (vw on c) st (en - st))).length vc] 181 (0, 0)) := by rw [World.putObj_heap_other (by omega)]; exact hv
   have d2 : (W'.putObj (z + 2 + 1) o).heap[z + 2]? = some (.deferred (some [])) := by rw [World.putObj_heap_other (by omega)]; exact hD
   have P2 : PGs (z + 4) (W'.putObj (z + 2 + 1) o) (.slice va (allG t (secs (vw on c) st (en - st))).length vc) (allG t (secs (vw on c) st (en - st))) := hP.keep (kc_put g8 hRl)
   have B2 : Below w.heap.size w (W'.putObj (z + 2 + 1) o) := g1.trans ⟨rfl, rfl, rfl, by simp, fun q hq => World.putObj_heap_other (by omega)⟩
   clear hv hP g1 g2 g7 g8 hD hl
   generalize W'.putObj (z + 2 + 1) o = W2 at *
   obtain ⟨A, hA⟩ : ∃ A, A = (allG t (secs (vw on c) st (en - st))).length := ⟨_, rfl⟩
   rw [← hA] at v2 P2
   have c2 := cell_box v2
   have hP2 := hid P2
   clear hA P2
   gi_wp2
   refine ⟨by simp, .inl ⟨_, _, rfl, run_takeDeferred d2, ?_⟩⟩
   exact ⟨_, results_tmp rfl _ _ _, _, rfl, (hP2.out.keep (kc_put d2 (fun _ _ _ h => by cases h))).base (by omega), B2.trans ⟨rfl, rfl, rfl, by simp, fun q hq => World.putObj_heap_other (by omega)⟩⟩
end Go.Proofs.YtfmghbennahlfaaGreat
