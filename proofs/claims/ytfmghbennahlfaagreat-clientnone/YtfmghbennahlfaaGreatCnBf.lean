/-
  
-/
import Derived.Test.YtfmghbennahlfaaGreatCnBa
import Derived.Test.YtfmghbennahlfaaGreatCnBe
import Derived.BigGuardPartIn
namespace Go.Proofs.YtfmghbennahlfaaGreat
open Go.RowKit Go.ChangeShapes Go.WideShapes Go.ChangeAt Go.Maps
set_option linter.unusedVariables false
set_option linter.unusedSimpArgs false
set_option maxRecDepth 100000
set_option maxHeartbeats 1000000 in
theorem mark_c {w : World} {g b1 b2 : Nat} {c : Ca} (h : IsCa w g b1 b2 c) (hm : c.m < 1000) {i : Int} (h0 : 0 ≤ i) (h1 : i < 4294967296) (dd : Bool) :
   Calls Tryz.prog 99 #[pA g, .int .u32 i, .bool dd] w fun e w' => e = .returned (.int .i64 (if c.has i then 0 else 5)) ∧ IsCa w' g b1 b2 (if c.has i then c.markS i dd else c) ∧ Ou (Tri g b1 b2) w w' := by
 have FC := hid (cfault_c h h0 h1)
 have H := hid h
 clear h
 cases hh : c.has i with
 | false =>
   rw [hh] at FC
   go_enter Tryz.func99, Tryz.ntmps99
   go_wp2_with (go_at_call 164; refine FC.out.mono ?_; rintro _ w1 ⟨rfl, hb⟩)
   go_ret
   exact ⟨rfl, H.out.later hb, Ou.of hb⟩
 | true =>
   rw [hh] at FC
   go_enter Tryz.func99, Tryz.ntmps99
   go_wp2_with (go_at_call 164; refine FC.out.mono ?_; rintro _ w1 ⟨rfl, hb⟩; have H1 := hid (H.out.later hb); have B1 := hid hb; clear hb)
   have H2 := H1.out.drew
   obtain ⟨c0, c1, c2, c3, cf, l0, l1, l2, n1, n2, n3⟩ := H2.cells
   have LK := H2.2.1.look ht1 zeroOb h0 h1
   rw [obE_at] at LK
   obtain ⟨w3, SR, IM, MT⟩ := H2.2.1.store hm ht1 h0 h1 (c.usedAt i, dd)
   rw [show obE.enc (c.usedAt i, dd) = .agg #[.int .u64 (c.usedAt i), .bool dd] from rfl] at SR
   have R3 : Hid (IsCa w3 g b1 b2 (c.markS i dd)) := hid (H2.turn1 IM MT)
   have O3 := hid ((Ou.of (S := Tri g b1 b2) B1.out).drew.trans (Ou.turned MT (.inr (.inl rfl))))
   have FU := fieldU (c.usedAt i) (c.dirtyB i) w1.drew
   clear IM MT H2 cf
   generalize c.usedAt i = ua at *
   generalize c.dirtyB i = d0 at *
   go_region
   go_wp2
   go_ret
   exact ⟨rfl, R3.out, O3.out⟩
def Ca.first (c : Ca) (i j : Int) : Bool := if c.dearN i = c.dearN j then decide (c.usedAt i < c.usedAt j) else decide (c.dearN i < c.dearN j)
set_option maxHeartbeats 2000000 in
theorem goesFirst_c {w : World} {g b1 b2 : Nat} {c : Ca} (h : IsCa w g b1 b2 c) {i j : Int} (h0 : 0 ≤ i) (h1 : i < 4294967296) (j0 : 0 ≤ j) (j1 : j < 4294967296) :
   Calls Tryz.prog 274 #[pA g, .int .u32 i, .int .u32 j] w fun e w' => e = .returned (.bool (c.first i j)) ∧ Below w.heap.size w w' := by
 have a1 := IsFm.look (w := w.drew) h.2.2.1 ht2 zeroNu h0 h1
 have a2 := IsFm.look (w := w.drew) h.2.2.1 ht2 zeroNu j0 j1
 have e1 := IsFm.look (w := w.drew.drew) h.2.2.1 ht2 zeroNu h0 h1
 have e2 := IsFm.look (w := w.drew.drew) h.2.2.1 ht2 zeroNu j0 j1
 have e3 := IsFm.look (w := w.drew.drew) h.2.1 ht1 zeroOb h0 h1
 have e4 := IsFm.look (w := w.drew.drew) h.2.1 ht1 zeroOb j0 j1
 rw [numE_at] at a1 a2 e1 e2
 rw [obE_at] at e3 e4
 obtain ⟨c0, c1, c2, c3, cf, _⟩ := h.cells
 have RV : Hid (c.first i j = if c.dearN i = c.dearN j then decide (c.usedAt i < c.usedAt j) else decide (c.dearN i < c.dearN j)) := hid rfl
 have B : Hid (Below w.heap.size w w.drew.drew) := hid ⟨rfl, rfl, rfl, Nat.le_refl _, fun _ _ => rfl⟩
 generalize c.first i j = fb at *
 generalize c.dearN i = di at *
 generalize c.dearN j = dj at *
 generalize c.usedAt i = ui at *
 generalize c.usedAt j = uj at *
 generalize c.dirtyB i = yi at *
 generalize c.dirtyB j = yj at *
 have F1 := fieldU ui yi w.drew.drew
 have F2 := fieldU uj yj w.drew.drew
 clear h cf
 by_cases hd : di = dj
 · have hb : (di != dj) = false := by rw [hd]; simp
   have HD := hid hd
   clear hd e1 e2
   go_enter Tryz.func274, Tryz.ntmps274
   go_wp2_with fail
   go_region
   go_wp2_with fail
   go_region
   go_wp2
   go_ret
   exact ⟨ret_bool (by rw [RV.out, if_pos HD.out]), B.out⟩
 · have hb : (di != dj) = true := by rw [bne_iff_ne]; exact hd
   have HD := hid hd
   clear hd e3 e4
   go_enter Tryz.func274, Tryz.ntmps274
   go_wp2_with fail
   go_region
   go_wp2_with fail
   go_region
   go_wp2
   go_ret
   exact ⟨ret_bool (by rw [RV.out, if_neg HD.out]), B.out⟩
end Go.Proofs.YtfmghbennahlfaaGreat
namespace Go.Proofs.YtfmghbennahlfaaGreat
open Go.RowKit Go.ChangeShapes Go.WideShapes Go.ChangeAt Go.Maps Go.Shelf
attribute [local go_sem] Oper.semAt_some
set_option linter.unusedVariables false
set_option linter.unusedSimpArgs false
set_option maxRecDepth 100000
def RiseF {α : Type} (f : Int → Option α) (ss : List Int) : Prop := ss.Pairwise (fun a b => a < b) ∧ ∀ x, x ∈ ss ↔ (f x).isSome = true
theorem rise_of {α : Type} {f : Int → Option α} {n : Nat} {v : Nat → Int} (h : UpF n v) (hi : ∀ i j, i < n → j < n → v i = v j → i = j) (hm : ∀ x, (∃ k, k < n ∧ v k = x) ↔ (f x).isSome = true) : RiseF f ((List.range n).map v) := by
 refine ⟨?_, fun x => ?_⟩
 · rw [List.pairwise_map]
   refine List.Pairwise.imp_of_mem ?_ List.pairwise_lt_range
   intro a b ha hb hab
   rw [List.mem_range] at ha hb
   have h1 := h a b hab hb
   have h2 := hi a b ha hb
   omega
 · rw [← hm x, List.mem_map]
   constructor
   · rintro ⟨k, hk, e⟩; exact ⟨k, List.mem_range.1 hk, e⟩
   · rintro ⟨k, hk, e⟩; exact ⟨k, List.mem_range.2 hk, e⟩
set_option maxHeartbeats 400000 in
theorem keysOb_c (b : Nat) (w : World) : Calls Tryz.prog 218 #[.map (some b)] w fun e w' => e = .returned (.func (.func 282) #[] #[.pointer (some ⟨w.heap.size, 0, none⟩)]) ∧ w' = w.alloc (.cells #[.map (some b)] 155) := by
 go_enter Tryz.func218, Tryz.ntmps218
 go_wp2
 go_ret
 exact ⟨rfl, rfl⟩
theorem inOrder_c (g : Nat) (w : World) : Calls Tryz.prog 163 #[pA g] w fun e w' => e = .returned (.func (.func 217) #[] #[.pointer (some ⟨w.heap.size, 0, none⟩)]) ∧ w' = w.alloc (.cells #[pA g] 70) := by
 go_enter Tryz.func163, Tryz.ntmps163
 go_wp2
 go_ret
 exact ⟨rfl, rfl⟩
abbrev Rnd (S : Nat → Prop) (A0 : World) (k : Nat) : Prop := S k ∨ A0.heap.size ≤ k
set_option maxHeartbeats 2000000 in
theorem inOrder1_in (W : World) (Bc g b1 b2 : Nat) (c : Ca) (hB : W.heap[Bc]? = some (.cells #[pA g] 70 (0, 0))) (h : IsCa W g b1 b2 c) (hm : c.m ≤ 12) (l : Nat) (S : Nat → Prop) (hS : ∀ k, S k → k < W.heap.size ∧ k ≠ Bc ∧ k ≠ g ∧ k ≠ b1 ∧ k ≠ b2) (R : List Int → World → Prop)
   (hY : ∀ A0, Below W.heap.size W A0 → ∃ J : List Int → World → Prop, J [] A0 ∧
     (∀ pre x A, J pre A → Ou (Rnd S A0) A0 A → IsCa A g b1 b2 c → (c.f x).isSome = true → pre.length < 12 → YieldAt Fence.wide 1 Tryz.prog l #[.int .u32 x, .agg #[.int .u64 (c.usedAt x), .bool (c.dirtyB x)]] A fun e B => e = .returned (.bool true) ∧ J (pre ++ [x]) B ∧ Ou (Rnd S A0) A B) ∧
     (∀ ss A, RiseF c.f ss → J ss A → Ou (Rnd S A0) A0 A → R ss A)) :
   CallsIn Fence.wide 2 Tryz.prog 217 #[.func (.yield l) #[] #[], .pointer (some ⟨Bc, 0, none⟩)] W fun e W' => (∃ v, e = .returned v) ∧ ∃ ss, RiseF c.f ss ∧ R ss W' := by
 obtain ⟨cB, fB⟩ := cell_of_box_a hB
 obtain ⟨c0, c1, c2, c3, cf, hg, hb1, hb2, n1, n2, n3⟩ := h.cells
 have HY := hid hY
 have H := hid h
 have HS := hid hS
 clear hY h hS cf c0 c1 c3
 refine callsIn_of_wp Tryz.func217 rfl trivial ?_ rfl
 simp only [Tryz.ntmps217, List.size_toArray, List.length_cons, List.length_nil, Nat.reduceAdd, Nat.reduceSub, Array.replicate_succ, Array.replicate_zero, List.push_toArray, List.append_toArray, List.nil_append, List.cons_append]
 gi_wp2_with fail
 refine ⟨trivial, (callsIn_wide.2 (keysOb_c b1 W)).mono ?_⟩
 rintro _ w1 ⟨rfl, e1⟩
 have hb01 : Below W.heap.size W w1 := by rw [e1]; exact (Below.refl _ _).alloc (Nat.le_refl _) _
 have hx1 : w1.heap[W.heap.size]? = some (.cells #[.map (some b1)] 155 (0, 0)) := by rw [e1]; exact heap_alloc_new W _
 have hs1 : W.heap.size < w1.heap.size := lt_blkC hx1
 clear e1
 gi_wp2_with fail
 refine ⟨trivial, (callsIn_wide.2 (sortedF_in 282 _ (enters_of Tryz.func282 (by kernel_rfl) rfl) _ c.m (by omega) w1 (keysOb_gives 2 (by omega) W.heap.size b1 c.m c.f w1 hs1 (cell_of_box_a hx1).1 (H.out.later hb01).2.1) (fun ss hss => ⟨hss.1.1, by have := hss.2; omega⟩))).mono ?_⟩
 rintro _ A0 ⟨a, n, cap, f, rfl, hcap, hat, hb12, hup, hinj, ss, hss, hlen, hmem⟩
 have hn12 : n ≤ 12 := by have := hss.2; omega
 have hbA : Below W.heap.size W A0 := hb01.trans (hb12.mono (by omega))
 have hrise : Hid (RiseF c.f ((List.range n).map f)) := hid (rise_of hup hinj (fun x => (hmem x).symm.trans (hss.1.2 x)))
 have hsome : Hid (∀ k, k < n → (c.f (f k)).isSome = true) := hid (fun k hk => (hss.1.2 _).1 ((hmem _).2 ⟨k, hk, rfl⟩))
 obtain ⟨J, hJ0, hJY, hJR⟩ := HY.out A0 hbA
 have HA0 := hid (H.out.later hbA)
 have hBA : A0.heap[Bc]? = some (.cells #[pA g] 70 (0, 0)) := by rw [hbA.block _ (lt_blkC hB)]; exact hB
 have hSg : Hid (¬ Rnd S A0 Bc ∧ ¬ Rnd S A0 g ∧ ¬ Rnd S A0 b1 ∧ ¬ Rnd S A0 b2) := hid (by
   have hz := hbA.size
   have hBl := lt_blkC hB
   refine ⟨fun e => ?_, fun e => ?_, fun e => ?_, fun e => ?_⟩ <;> rcases e with e | e
   · exact (HS.out _ e).2.1 rfl
   · omega
   · exact (HS.out _ e).2.2.1 rfl
   · omega
   · exact (HS.out _ e).2.2.2.1 rfl
   · omega
   · exact (HS.out _ e).2.2.2.2 rfl
   · omega)
 have hSr : Hid (∀ gg, w1.heap.size ≤ gg → gg < A0.heap.size → ¬ Rnd S A0 gg) := hid (fun gg h1 h2 e => by
   rcases e with e | e
   · have := (HS.out _ e).1; have := hb01.size; omega
   · omega)
 have HJY := hid hJY
 have HJR := hid hJR
 have HAT := hid hat
 clear hJY hJR hat hup hinj hss hlen hmem cB fB c2
 gi_wp2_with fail
 gi_loopw [12] (fun s wr => ∃ i : Nat, s = .int .i64 i ∧ i ≤ n ∧ J ((List.range i).map f) wr ∧ Ou (Rnd S A0) A0 wr) (fun s _ => n - (intOf s).toNat)
 case atStart => exact ⟨0, rfl, by omega, by simpa using hJ0, Ou.refl _ _⟩
 case round =>
   obtain ⟨i, rfl, hi, hJi, ho⟩ := hrel
   by_cases hin : i < n
   · obtain ⟨gg, ea, hgg, hF⟩ := HAT.out (by omega)
     subst ea
     have hFr := hF.out ho (hSr.out gg hgg hF.lt)
     obtain ⟨r1, r2⟩ := hFr.cell hin
     have hCr := HA0.out.out ho hSg.out.2.1 hSg.out.2.2.1 hSg.out.2.2.2
     have hBr : wr.heap[Bc]? = some (.cells #[pA g] 70 (0, 0)) := by rw [ho.block _ (lt_blkC hBA) hSg.out.1]; exact hBA
     obtain ⟨q1, q2⟩ := cell_of_box_a hBr
     have hso := hsome.out i hin
     obtain ⟨ob, eob⟩ := Option.isSome_iff_exists.1 hso
     obtain ⟨k0, k1⟩ := hCr.2.1.keys eob
     have LK := hCr.2.1.look ht1 zeroOb k0 k1
     rw [obE_at] at LK
     obtain ⟨d0, d1, d2, d3, df, _⟩ := hCr.cells
     obtain ⟨fn, tmps, assign, body, hy, hR⟩ := HJY.out _ (f i) wr hJi ho hCr hso (by simp; omega)
     have HR := hid hR
     have i1 : (i : Int) < n := by omega
     have i2 : (0 : Int) ≤ i := by omega
     clear hR df d0 d1 d3 eob
     gi_wp2_with fail
     refine HR.out.mono ?_
     rintro _ W3 ⟨rfl, hJ3, ho3⟩
     gi_wp2_with fail
     go_roundw
     case rel => exact ⟨i + 1, by norm_cast, by omega, by rw [List.range_succ, List.map_append]; exact hJ3, ho.trans ho3⟩
     case measure => simp [intOf]; omega
   · have hi' : i = n := by omega
     subst hi'
     have hc := HJR.out _ wr hrise.out hJi ho
     have i1 : ¬ ((i : Int) < i) := by omega
     gi_wp2_with fail
     exact body_endF (by kernel_rfl) rfl ⟨⟨_, rfl⟩, _, hrise.out, hc⟩
attribute [local go_sem] Oper.semAt_some
set_option linter.unusedVariables false
set_option linter.unusedSimpArgs false
set_option maxRecDepth 100000
def Ca.step (c : Ca) (nx x : Int) : Int := if c.dirtyB x = false ∧ (nx = 0 ∨ c.first x nx = true) then x else nx
def Ca.nextOf (c : Ca) (ss : List Int) : Int := ss.foldl c.step 0
theorem Ca.nextOf_snoc (c : Ca) (ss : List Int) (x : Int) : c.nextOf (ss ++ [x]) = c.step (c.nextOf ss) x := by unfold Ca.nextOf; rw [List.foldl_append]; rfl
theorem step_dirty {c : Ca} {nx x : Int} (h : c.dirtyB x = true) : c.step nx x = nx := by unfold Ca.step; rw [if_neg (by simp [h])]
theorem step_none {c : Ca} {nx x : Int} (h : c.dirtyB x = false) (h0 : nx = 0) : c.step nx x = x := by unfold Ca.step; rw [if_pos ⟨h, .inl h0⟩]
theorem step_first {c : Ca} {nx x : Int} (h : c.dirtyB x = false) (h0 : c.first x nx = true) : c.step nx x = x := by unfold Ca.step; rw [if_pos ⟨h, .inr h0⟩]
theorem step_last {c : Ca} {nx x : Int} (h0 : nx ≠ 0) (h1 : c.first x nx = false) : c.step nx x = nx := by unfold Ca.step; rw [if_neg (by simp [h0, h1])]
theorem Ou.putO {S : Nat → Prop} {w : World} {k : Nat} {o : Obj} (h : S k) : Ou S w (w.putObj k o) := ⟨rfl, rfl, rfl, by simp, fun j _ hj => World.putObj_heap_other (fun e => hj (e ▸ h))⟩
structure NxJ (c : Ca) (B l : Nat) (Lr : Obj) (pre : List Int) (V : World) : Prop where
 box : V.heap[B]? = some (.cells #[.int .u32 (c.nextOf pre)] 35 (0, 0))
 L : V.heap[l]? = some Lr
 lo : 0 ≤ c.nextOf pre
 hi : c.nextOf pre < 4294967296
def NxJ' (c : Ca) (nx x : Int) (B l : Nat) (Lr : Obj) (V : World) : Prop := V.heap[B]? = some (.cells #[.int .u32 (c.step nx x)] 35 (0, 0)) ∧ V.heap[l]? = some Lr ∧ 0 ≤ c.step nx x ∧ c.step nx x < 4294967296
theorem nxj_iff {c : Ca} {B l : Nat} {Lr : Obj} {pre : List Int} {x : Int} {V : World} : NxJ c B l Lr (pre ++ [x]) V ↔ NxJ' c (c.nextOf pre) x B l Lr V := by
 unfold NxJ'
 constructor
 · rintro ⟨a, b, d, e⟩; rw [c.nextOf_snoc] at a d e; exact ⟨a, b, d, e⟩
 · rintro ⟨a, b, d, e⟩; exact ⟨by rw [c.nextOf_snoc]; exact a, b, by rw [c.nextOf_snoc]; exact d, by rw [c.nextOf_snoc]; exact e⟩
def NextPost (c : Ca) (w : World) (e : Ending) (w' : World) : Prop := ∃ ss, RiseF c.f ss ∧ e = .returned (.tuple #[.int .u32 (c.nextOf ss), .bool (c.nextOf ss != 0)]) ∧ Below w.heap.size w w'
set_option maxHeartbeats 2000000 in
theorem next_c {w : World} {g b1 b2 : Nat} {c : Ca} (h : IsCa w g b1 b2 c) (hm : c.m ≤ 12) :
   Calls Tryz.prog 214 #[pA g] w (NextPost c w) := by
 obtain ⟨_, _, _, _, _, hg, hb1, hb2, _⟩ := h.cells
 have H := hid h
 clear h
 refine (callsIn_wide (n := 3)).1 ?_
 refine callsIn_of_wp_marks Tryz.func214 rfl trivial ?_ rfl
 simp only [Tryz.ntmps214, List.size_toArray, List.length_cons, List.length_nil, Nat.reduceAdd, Nat.reduceSub, Array.replicate_succ, Array.replicate_zero, List.push_toArray, List.append_toArray, List.nil_append, List.cons_append]
 gi_wp2_with fail
 refine ⟨trivial, (callsIn_wide.2 (inOrder_c g _)).mono ?_⟩
 rintro _ _ ⟨rfl, rfl⟩
 gi_wp2_with fail
 have hsz : (((w.alloc (.cells #[pA g] 70)).alloc (.cells #[.int .u32 0] 35)).alloc (.cells #[pA g] 70)).heap.size = w.heap.size + 3 := by simp
 have hA0 : Below w.heap.size w (((w.alloc (.cells #[pA g] 70)).alloc (.cells #[.int .u32 0] 35)).alloc (.cells #[pA g] 70)) := (((Below.refl _ _).alloc (Nat.le_refl _) _).alloc (by simp) _).alloc (by simp; omega) _
 have hx0 : (((w.alloc (.cells #[pA g] 70)).alloc (.cells #[.int .u32 0] 35)).alloc (.cells #[pA g] 70)).heap[w.heap.size]? = some (.cells #[pA g] 70 (0, 0)) := by
   rw [Below.heap_alloc _ _ _ (by simp; omega), Below.heap_alloc _ _ _ (by simp)]; exact heap_alloc_new w _
 have hx1 : (((w.alloc (.cells #[pA g] 70)).alloc (.cells #[.int .u32 0] 35)).alloc (.cells #[pA g] 70)).heap[w.heap.size + 1]? = some (.cells #[.int .u32 0] 35 (0, 0)) := by
   rw [Below.heap_alloc _ _ _ (by simp)]; have := heap_alloc_new (w.alloc (.cells #[pA g] 70)) (.cells #[.int .u32 0] 35); rwa [World.size_alloc] at this
 have hx2 : (((w.alloc (.cells #[pA g] 70)).alloc (.cells #[.int .u32 0] 35)).alloc (.cells #[pA g] 70)).heap[w.heap.size + 2]? = some (.cells #[pA g] 70 (0, 0)) := by
   have := heap_alloc_new ((w.alloc (.cells #[pA g] 70)).alloc (.cells #[.int .u32 0] 35)) (.cells #[pA g] 70); simpa using this
 generalize (((w.alloc (.cells #[pA g] 70)).alloc (.cells #[.int .u32 0] 35)).alloc (.cells #[pA g] 70)) = W at *
 refine Rg.range_go (gf := 217) (lb := #[.pointer (some ⟨w.heap.size + 2, 0, none⟩)]) rfl (enters_of Tryz.func217 (by kernel_rfl) rfl) (fun W' => ∃ ss, RiseF c.f ss ∧ W'.heap[w.heap.size + 1]? = some (.cells #[.int .u32 (c.nextOf ss)] 35 (0, 0)) ∧ Below w.heap.size w W') ?_ ?_
 · intro fn
   generalize hR : Rg.recOf fn _ _ _ _ _ = R
   have h4 : W.heap.size + 1 = w.heap.size + 4 := by omega
   have hD1 : ((W.alloc (.deferred (some []))).alloc (.loop (R .ready))).heap[w.heap.size + 3]? = some (.deferred (some [])) := by
     rw [Below.heap_alloc _ _ _ (by simp; omega), ← hsz]; exact heap_alloc_new W _
   have hL1 : ((W.alloc (.deferred (some []))).alloc (.loop (R .ready))).heap[w.heap.size + 4]? = some (.loop (R .ready)) := by
     have := heap_alloc_new (W.alloc (.deferred (some []))) (.loop (R .ready)); rw [World.size_alloc, h4] at this; exact this
   have hB1 : Below W.heap.size W ((W.alloc (.deferred (some []))).alloc (.loop (R .ready))) := ((Below.refl _ _).alloc (Nat.le_refl _) _).alloc (by simp) _
   have hz1 : w.heap.size + 5 ≤ ((W.alloc (.deferred (some []))).alloc (.loop (R .ready))).heap.size := by simp; omega
   generalize ((W.alloc (.deferred (some []))).alloc (.loop (R .ready))) = W1 at *
   rw [hsz, show w.heap.size + 3 + 1 = w.heap.size + 4 from rfl]
   have hbW1 : Below w.heap.size w W1 := hA0.trans (hB1.mono hA0.size)
   have y0 : W1.heap[w.heap.size]? = some (.cells #[pA g] 70 (0, 0)) := by rw [hB1.block _ (by omega)]; exact hx0
   have y1 : W1.heap[w.heap.size + 1]? = some (.cells #[.int .u32 0] 35 (0, 0)) := by rw [hB1.block _ (by omega)]; exact hx1
   have y2 : W1.heap[w.heap.size + 2]? = some (.cells #[pA g] 70 (0, 0)) := by rw [hB1.block _ (by omega)]; exact hx2
   refine (inOrder1_in W1 (w.heap.size + 2) g b1 b2 c y2 (H.out.later hbW1) hm (w.heap.size + 4) (fun k => k = w.heap.size + 1 ∨ k = w.heap.size + 4) (fun k hk => by omega)
     (fun ss V => V.heap[w.heap.size + 1]? = some (.cells #[.int .u32 (c.nextOf ss)] 35 (0, 0)) ∧ V.heap[w.heap.size + 4]? = some (.loop (R .ready)) ∧ V.heap[w.heap.size + 3]? = some (.deferred (some [])) ∧ Below w.heap.size w V) ?_).mono ?_
   · intro A0 hA
     have hzA := hA.size
     refine ⟨NxJ c (w.heap.size + 1) (w.heap.size + 4) (.loop (R .ready)), ⟨by rw [hA.block _ (by omega)]; exact y1, by rw [hA.block _ (by omega)]; exact hL1, by simp [Ca.nextOf], by simp [Ca.nextOf]⟩, ?_, ?_⟩
     · intro pre x V hJ hO hC hx _
       have rx := hJ.box
       have rl := hJ.L
       have lo := hJ.lo
       have hi := hJ.hi
       obtain ⟨ob, eob⟩ := Option.isSome_iff_exists.1 hx
       obtain ⟨k0, k1⟩ := hC.2.1.keys eob
       have rb : V.heap[w.heap.size]? = some (.cells #[pA g] 70 (0, 0)) := by
         rw [hO.block _ (by omega) (fun e => by rcases e with (e | e) | e <;> omega), hA.block _ (by omega)]; exact y0
       have hVz : A0.heap.size ≤ V.heap.size := hO.size
       rw [show @NxJ c (w.heap.size + 1) (w.heap.size + 4) (.loop (R .ready)) (pre ++ [x]) = NxJ' c (c.nextOf pre) x (w.heap.size + 1) (w.heap.size + 4) (.loop (R .ready)) from funext fun _ => propext nxj_iff]
       generalize c.nextOf pre = nx at *
       clear hJ eob
       rw [hsz] at hR
       subst hR
       refine Rg.round_go rl (by rfl) ?_
       gi_wp2
       have rl2 : (V.alloc (.cells #[.int .u64 (c.usedAt x), .bool (c.dirtyB x)] 178)).heap[w.heap.size + 4]? = V.heap[w.heap.size + 4]? := Below.heap_alloc _ _ _ (by omega)
       refine ⟨rl2.trans rl, ?_⟩
       generalize Obj.loop (Rg.recOf fn _ _ _ _ (w.heap.size + 3) LoopState.ready) = Rr at *
       generalize Obj.loop (Rg.recOf fn _ _ _ _ (w.heap.size + 3) LoopState.busy) = Rb at *
       have o2 : Ou (Rnd (fun k => k = w.heap.size + 1 ∨ k = w.heap.size + 4) A0) V ((V.alloc (.cells #[.int .u64 (c.usedAt x), .bool (c.dirtyB x)] 178)).putObj (w.heap.size + 4) Rb) := ((Ou.refl _ _).alloc _).trans (Ou.putO (.inl (.inr rfl)))
       have q0 : ((V.alloc (.cells #[.int .u64 (c.usedAt x), .bool (c.dirtyB x)] 178)).putObj (w.heap.size + 4) Rb).heap[V.heap.size]? = some (.cells #[.int .u64 (c.usedAt x), .bool (c.dirtyB x)] 178 (0, 0)) := by
         rw [World.putObj_heap_other (by omega)]; exact heap_alloc_new V _
       have q1 : ((V.alloc (.cells #[.int .u64 (c.usedAt x), .bool (c.dirtyB x)] 178)).putObj (w.heap.size + 4) Rb).heap[w.heap.size + 1]? = some (.cells #[.int .u32 nx] 35 (0, 0)) := by
         rw [World.putObj_heap_other (by omega), Below.heap_alloc _ _ _ (by omega)]; exact rx
       have q2 : ((V.alloc (.cells #[.int .u64 (c.usedAt x), .bool (c.dirtyB x)] 178)).putObj (w.heap.size + 4) Rb).heap[w.heap.size]? = some (.cells #[pA g] 70 (0, 0)) := by
         rw [World.putObj_heap_other (by omega), Below.heap_alloc _ _ _ (by omega)]; exact rb
       have q3 : ((V.alloc (.cells #[.int .u64 (c.usedAt x), .bool (c.dirtyB x)] 178)).putObj (w.heap.size + 4) Rb).heap[w.heap.size + 4]? = some Rb := World.putObj_heap_same (by simp; omega)
       have HC2 := hid (hC.out o2 (fun e => by rcases e with (e | e) | e <;> omega) (fun e => by rcases e with (e | e) | e <;> omega) (fun e => by rcases e with (e | e) | e <;> omega))
       generalize ((V.alloc (.cells #[.int .u64 (c.usedAt x), .bool (c.dirtyB x)] 178)).putObj (w.heap.size + 4) Rb) = V2 at *
       obtain ⟨z1, z2⟩ := cell_of_box_a q1
       obtain ⟨z3, z4⟩ := cell_of_box_a q2
       have z5 : V2.cell? ⟨V.heap.size, 1, none⟩ = some (.bool (c.dirtyB x)) := by simp [World.cell?, q0]
       have fin : Hid (∀ V3, Ou (Rnd (fun k => k = w.heap.size + 1 ∨ k = w.heap.size + 4) A0) V2 V3 → V3.heap[w.heap.size + 4]? = some Rb → V3.heap[w.heap.size + 1]? = some (.cells #[.int .u32 (c.step nx x)] 35 (0, 0)) → (0 ≤ c.step nx x ∧ c.step nx x < 4294967296) →
         V3.heap[w.heap.size + 4]? = some Rb ∧ NxJ' c nx x (w.heap.size + 1) (w.heap.size + 4) Rr (V3.putObj (w.heap.size + 4) Rr) ∧ Ou (Rnd (fun k => k = w.heap.size + 1 ∨ k = w.heap.size + 4) A0) V (V3.putObj (w.heap.size + 4) Rr)) := hid (fun V3 o3 t1 t2 t3 =>
           ⟨t1, ⟨(World.putObj_heap_other (by omega)).trans t2, World.putObj_heap_same (lt_blkC t1), t3.1, t3.2⟩, (o2.trans o3).trans (Ou.putO (.inl (.inr rfl)))⟩)
       have hV2 : w.heap.size + 4 < V2.heap.size := lt_blkC q3
       clear hC hx o2 rl2 rl rx rb
       cases hd : c.dirtyB x with
       | true =>
         rw [hd] at z5
         gi_wp2_with fail
         case h_1.isFalse => rename_i e _; first | cases e | (simp [undef] at e)
         all_goals (refine ⟨trivial, ?_⟩; gi_wp2_with fail)
         all_goals have F := fin.out V2 (Ou.refl _ _) q3 (by rw [step_dirty hd]; exact q1) (by rw [step_dirty hd]; exact ⟨lo, hi⟩)
         all_goals first | exact F | exact F.2 | exact ⟨(Array.getElem?_eq_some_iff.1 F.1).2, F.2⟩
       | false =>
         rw [hd] at z5
         by_cases hn : nx = 0
         · have hs := step_none hd hn
           have FI := hid fin.out
           subst hn
           gi_wp2_with fail
           refine ⟨trivial, ?_⟩
           gi_wp2_with fail
           have F := FI.out (V2.setCell ⟨w.heap.size + 1, 0, none⟩ (.int .u32 x)) ((Ou.refl _ _).set (.inl (.inl rfl))) (by rw [heap_setCell_other _ _ _ _ (by simp)]; exact q3) (by rw [hs]; exact heap_setCell_box_a _ q1) (by rw [hs]; exact ⟨k0, k1⟩)
           first | exact F | exact F.2 | exact ⟨(Array.getElem?_eq_some_iff.1 F.1).2, F.2⟩
         · have GF := hid (goesFirst_c HC2.out k0 k1 lo hi)
           have hs1 := fun e => step_first (c := c) (nx := nx) hd e
           have hs2 := fun e => step_last (c := c) (x := x) hn e
           gi_wp2_with fail
           refine ⟨trivial, (CallsIn.inRound _ (callsIn_wide.2 GF.out)).mono ?_⟩
           rintro _ V3 ⟨rfl, hb3⟩
           have q1' : V3.heap[w.heap.size + 1]? = some (.cells #[.int .u32 nx] 35 (0, 0)) := by rw [hb3.block _ (by omega)]; exact q1
           have q3' : V3.heap[w.heap.size + 4]? = some Rb := by rw [hb3.block _ (by omega)]; exact q3
           obtain ⟨z6, z7⟩ := cell_of_box_a q1'
           cases hf : c.first x nx with
           | true =>
             gi_wp2_with fail
             have F := fin.out (V3.setCell ⟨w.heap.size + 1, 0, none⟩ (.int .u32 x)) ((Ou.of hb3).set (.inl (.inl rfl))) (by rw [heap_setCell_other _ _ _ _ (by simp)]; exact q3') (by rw [hs1 hf]; exact heap_setCell_box_a _ q1') (by rw [hs1 hf]; exact ⟨k0, k1⟩)
             first | exact F | exact F.2 | exact ⟨(Array.getElem?_eq_some_iff.1 F.1).2, F.2⟩
           | false =>
             gi_wp2_with fail
             have F := fin.out _ (Ou.of hb3) q3' (by rw [hs2 hf]; exact q1') (by rw [hs2 hf]; exact ⟨lo, hi⟩)
             first | exact F | exact F.2 | exact ⟨(Array.getElem?_eq_some_iff.1 F.1).2, F.2⟩
     · intro ss V hr hJ hO
       refine ⟨hJ.box, hJ.L, ?_, hbW1.trans ((hA.mono hbW1.size).trans (hO.below (by omega) (fun k hk => by rcases hk with (hk | hk) | hk <;> omega)))⟩
       rw [hO.block _ (by omega) (fun e => by rcases e with (e | e) | e <;> omega), hA.block _ (by omega)]; exact hD1
   · rintro e V ⟨he, ss, hr, h1, h2, h3, h4⟩
     exact ⟨he, h2, h3, ss, hr, h1, h4⟩
 · rintro W' o ⟨ss, hr, hv, hbel⟩ hD hl
   rw [hsz] at hD hl ⊢
   have hD2 : (W'.putObj (w.heap.size + 3 + 1) o).heap[w.heap.size + 3]? = some (.deferred (some [])) := (World.putObj_heap_other (by omega)).trans hD
   have hv2 : (W'.putObj (w.heap.size + 3 + 1) o).heap[w.heap.size + 1]? = some (.cells #[.int .u32 (c.nextOf ss)] 35 (0, 0)) := (World.putObj_heap_other (by omega)).trans hv
   have hb2 : Below w.heap.size w (W'.putObj (w.heap.size + 3 + 1) o) := hbel.grown (grownBy_putObj_a _ _ _) hbel.size (fun k e => by cases e; omega)
   generalize W'.putObj (w.heap.size + 3 + 1) o = W2 at *
   obtain ⟨c0, f0⟩ := cell_of_box_a hv2
   gi_wp2_with fail
   gi_region
   gi_wp2
   have hB3 : Below w.heap.size w (W2.drew.putObj (w.heap.size + 3) (.deferred none)) := (Below.drew hb2).trans ⟨rfl, rfl, rfl, by simp, fun q hq => World.putObj_heap_other (by omega)⟩
   refine ⟨by simp, .inl ⟨_, _, rfl, run_takeDeferred (w := W2.drew) hD2, ?_⟩⟩
   exact ⟨.tuple #[.int .u32 (c.nextOf ss), .bool (c.nextOf ss != 0)], by simp [results, Tryz.results214, go_sem], ss, hr, rfl, hB3⟩
end Go.Proofs.YtfmghbennahlfaaGreat
namespace Go.Proofs.YtfmghbennahlfaaGreat
open Go.RowKit Go.ChangeShapes Go.WideShapes Go.ChangeAt Go.Maps Go.Shelf
set_option linter.unusedVariables false
set_option linter.unusedSimpArgs false
set_option maxRecDepth 100000
theorem srt_eq : ∀ (a b : List Int), a.Pairwise (fun x y => x < y) → b.Pairwise (fun x y => x < y) → (∀ x, x ∈ a ↔ x ∈ b) → a = b
 | [], [], _, _, _ => rfl
 | [], y :: b, _, _, h => by have := (h y).2 (by simp); simp at this
 | x :: a, [], _, _, h => by have := (h x).1 (by simp); simp at this
 | x :: a, y :: b, ha, hb, h => by
   rw [List.pairwise_cons] at ha hb
   have hxy : x = y := by
     have h1 := (h x).1 (by simp)
     have h2 := (h y).2 (by simp)
     rw [List.mem_cons] at h1 h2
     rcases h1 with h1 | h1
     · exact h1
     · rcases h2 with h2 | h2
       · exact h2.symm
       · have := hb.1 x h1; have := ha.1 y h2; omega
   subst hxy
   congr 1
   refine srt_eq a b ha.2 hb.2 (fun z => ?_)
   constructor
   · intro hz
     have := (h z).1 (List.mem_cons_of_mem _ hz)
     rw [List.mem_cons] at this
     rcases this with e | e
     · have := ha.1 z hz; omega
     · exact e
   · intro hz
     have := (h z).2 (List.mem_cons_of_mem _ hz)
     rw [List.mem_cons] at this
     rcases this with e | e
     · have := hb.1 z hz; omega
     · exact e
theorem rise_eq {α : Type} {f : Int → Option α} {a b : List Int} (ha : RiseF f a) (hb : RiseF f b) : a = b := srt_eq a b ha.1 hb.1 (fun x => (ha.2 x).trans (hb.2 x).symm)
def Ca.room (c : Ca) (i : Int) : Bool := c.has i || decide ((c.m : Int) < c.most)
theorem delN_le {α : Type} (f : Int → Option α) (i : Int) (m : Nat) : delN f i m ≤ m := by unfold delN; split <;> omega
def Ca.roomR (c : Ca) (i nx : Int) : Int × Int := if c.room i then (0, 0) else if nx = 0 then (0, 4) else (nx, 0)
def Ca.roomS (c : Ca) (i nx : Int) : Ca := if c.room i then c else if nx = 0 then c else c.dropS nx
theorem next_at {w : World} {g b1 b2 : Nat} {c : Ca} (h : IsCa w g b1 b2 c) (hm : c.m ≤ 12) {ss : List Int} (hr : RiseF c.f ss) :
   Calls Tryz.prog 214 #[pA g] w fun e w' => e = .returned (.tuple #[.int .u32 (c.nextOf ss), .bool (c.nextOf ss != 0)]) ∧ Below w.heap.size w w' := by
 refine (next_c h hm).mono ?_
 rintro _ w' ⟨ss', hr', rfl, hb⟩
 rw [rise_eq hr hr']
 exact ⟨rfl, hb⟩
theorem nextOf_range {c : Ca} {ss : List Int} (hr : ∀ x, x ∈ ss → 0 ≤ x ∧ x < 4294967296) : 0 ≤ c.nextOf ss ∧ c.nextOf ss < 4294967296 := by
 have : ∀ (l : List Int) (nx : Int), (0 ≤ nx ∧ nx < 4294967296) → (∀ x, x ∈ l → 0 ≤ x ∧ x < 4294967296) → 0 ≤ l.foldl c.step nx ∧ l.foldl c.step nx < 4294967296 := by
   intro l
   induction l with
   | nil => intro nx h _; exact h
   | cons y l ih =>
     intro nx h hl
     refine ih _ ?_ (fun x hx => hl x (List.mem_cons_of_mem _ hx))
     unfold Ca.step
     split
     · exact hl y (by simp)
     · exact h
 exact this ss 0 (by omega) hr
set_option maxHeartbeats 2000000 in
theorem makeRoom_c {w : World} {g b1 b2 : Nat} {c : Ca} (h : IsCa w g b1 b2 c) (hm : c.m ≤ 12) {ss : List Int} (hr : RiseF c.f ss) {i : Int} (h0 : 0 ≤ i) (h1 : i < 4294967296) :
   Calls Tryz.prog 157 #[pA g, .int .u32 i] w fun e w' => e = .returned (.tuple #[.int .u32 (c.roomR i (c.nextOf ss)).1, .int .i64 (c.roomR i (c.nextOf ss)).2]) ∧ IsCa w' g b1 b2 (c.roomS i (c.nextOf ss)) ∧ Ou (Tri g b1 b2) w w' := by
 have HC : Hid (∀ W, Below w.heap.size w W → Calls Tryz.prog 151 #[pA g, .int .u32 i] W fun e w' => e = .returned (.bool (c.has i)) ∧ Below W.heap.size W w') := hid (fun W hb => has_c (h.later hb) h0 h1)
 have L0 : ∀ W, Below w.heap.size w W → W.cell? ⟨g, 0, none⟩ = some (.int .i64 c.most) := fun W hb => (h.later hb).cells.1
 have L2 : ∀ W, Below w.heap.size w W → W.cell? ⟨g, 2, none⟩ = some (.map (some b1)) := fun W hb => (h.later hb).cells.2.2.1
 have LN : ∀ ty W, Below w.heap.size w W → (Builtin.len_ #[155] ty #[.map (some b1)]).run Tryz.prog W = .ok (.int .i64 (c.m : Int)) W := fun ty W hb => (h.later hb).2.1.len ht1 ty
 have H := hid h
 have HR := hid hr
 have RM : Hid (c.room i = (c.has i || decide ((c.m : Int) < c.most))) := hid rfl
 clear h hr
 cases hh : c.has i with
 | true =>
   have hroom : Hid (∀ nx, c.roomR i nx = (0, 0) ∧ c.roomS i nx = c) := hid (fun nx => by unfold Ca.roomR Ca.roomS; rw [RM.out, hh]; exact ⟨rfl, rfl⟩)
   rw [hh] at HC
   clear hh
   go_enter Tryz.func157, Tryz.ntmps157
   go_wp2_with fail
   refine wp_region_class (by kernel_rfl) (by kernel_rfl) ?_
   repeat (first
     | go_big_quiet_skip
     | (go_big_quiet_want
        apply quiet_by
        · intro w1 hw1
          go_simp
          first
            | rfl
            | (go_at_call 151; exact class_of hw1 (HC.out _ hw1))
        · go_simp; rfl
        go_big_quiet_on))
   refine wpQuiet_nil ?_
   intro w2 hw2
   go_wp2
   exact bodyPost_ret (v := .tuple #[.int .u32 0, .int .i64 0]) (by simp [results, Tryz.results157, go_sem]) rfl ⟨by rw [(hroom.out _).1], by rw [(hroom.out _).2]; exact H.out.later hw2, Ou.of hw2⟩
 | false =>
   rw [hh] at HC
   by_cases hlt : (c.m : Int) < c.most
   · have hroom : Hid (∀ nx, c.roomR i nx = (0, 0) ∧ c.roomS i nx = c) := hid (fun nx => by unfold Ca.roomR Ca.roomS; rw [RM.out, hh, decide_eq_true hlt]; exact ⟨rfl, rfl⟩)
     have hd : decide ((c.m : Int) < c.most) = true := decide_eq_true hlt
     clear hh RM
     go_enter Tryz.func157, Tryz.ntmps157
     go_wp2_with fail
     refine wp_region_class (by kernel_rfl) (by kernel_rfl) ?_
     repeat (first
       | go_big_quiet_skip
       | (go_big_quiet_want
          apply quiet_by
          · intro w1 hw1
            go_simp
            first
              | rfl
              | (go_at_call 151; exact class_of hw1 (HC.out _ hw1))
          · go_simp; rfl
          go_big_quiet_on))
     refine wpQuiet_nil ?_
     intro w2 hw2
     go_wp2
     exact bodyPost_ret (v := .tuple #[.int .u32 0, .int .i64 0]) (by simp [results, Tryz.results157, go_sem]) rfl ⟨by rw [(hroom.out _).1], by rw [(hroom.out _).2]; exact H.out.later hw2, Ou.of hw2⟩
   · have hroom : Hid (∀ nx, (nx = 0 → c.roomR i nx = (0, 4) ∧ c.roomS i nx = c) ∧ (nx ≠ 0 → c.roomR i nx = (nx, 0) ∧ c.roomS i nx = c.dropS nx)) := hid (fun nx => by unfold Ca.roomR Ca.roomS; rw [RM.out, hh, decide_eq_false hlt]; exact ⟨fun e => by rw [if_neg (by simp), if_pos e, if_neg (by simp), if_pos e]; exact ⟨rfl, rfl⟩, fun e => by rw [if_neg (by simp), if_neg e, if_neg (by simp), if_neg e]; exact ⟨rfl, rfl⟩⟩)
     have hd : decide ((c.m : Int) < c.most) = false := decide_eq_false hlt
     have NC : Hid (∀ W, Below w.heap.size w W → Calls Tryz.prog 214 #[pA g] W fun e w' => e = .returned (.tuple #[.int .u32 (c.nextOf ss), .bool (c.nextOf ss != 0)]) ∧ Below W.heap.size W w') := hid (fun W hb => next_at (H.out.later hb) hm HR.out)
     obtain ⟨nr0, nr1⟩ := nextOf_range (c := c) (ss := ss) (fun x hx => by
       obtain ⟨ob, eob⟩ := Option.isSome_iff_exists.1 ((HR.out.2 x).1 hx)
       exact H.out.2.1.keys eob)
     generalize c.nextOf ss = nx at *
     clear hh RM HR
     go_enter Tryz.func157, Tryz.ntmps157
     go_wp2_with fail
     refine wp_region_class (by kernel_rfl) (by kernel_rfl) ?_
     repeat (first
       | go_big_quiet_skip
       | (go_big_quiet_want
          apply quiet_by
          · intro w1 hw1
            go_simp
            first
              | rfl
              | (go_at_call 151; exact class_of hw1 (HC.out _ hw1))
          · go_simp; rfl
          go_big_quiet_on))
     refine wpQuiet_nil ?_
     intro w2 hw2
     by_cases hn : nx = 0
     · have bn : (nx != 0) = false := by simp [hn]
       have HN := hid hn
       rw [bn] at NC
       clear hn
       go_wp2_with (go_at_call 214; refine (NC.out _ hw2).mono ?_; rintro _ w3 ⟨rfl, hb3⟩)
       have hb := hw2.trans (hb3.mono hw2.size)
       exact bodyPost_ret (v := .tuple #[.int .u32 0, .int .i64 4]) (by simp [results, Tryz.results157, go_sem]) rfl ⟨by rw [((hroom.out nx).1 HN.out).1], by rw [((hroom.out nx).1 HN.out).2]; exact H.out.later hb, Ou.of hb⟩
     · have bn : (nx != 0) = true := by simp [hn]
       have HN := hid hn
       rw [bn] at NC
       clear hn
       go_wp2_with (go_at_call 214; refine (NC.out _ hw2).mono ?_; rintro _ w3 ⟨rfl, hb3⟩; (have hb := hid (hw2.trans (hb3.mono hw2.size))); (have H3 := hid (H.out.later hb.out)); (obtain ⟨c0, c1, c2, c3, cf, _⟩ := H3.out.cells); (obtain ⟨w4, DR, IM, MT⟩ := H3.out.2.1.drop ht1 nr0 nr1 0); have R4 := hid (H3.out.turn1 IM MT); have O4 := hid ((Ou.of (S := Tri g b1 b2) hb.out).trans (Ou.turned MT (.inr (.inl rfl)))); clear IM MT cf)
       exact bodyPost_ret (v := .tuple #[.int .u32 nx, .int .i64 0]) (by simp [results, Tryz.results157, go_sem]) rfl ⟨by rw [((hroom.out nx).2 HN.out).1], by rw [((hroom.out nx).2 HN.out).2]; exact R4.out, O4.out⟩
def Ca.putR (c : Ca) (i nx : Int) : Int × Int := if i = 0 then (0, 2) else c.roomR i nx
def Ca.putS (c : Ca) (i nx : Int) : Ca := if i = 0 then c else if (c.roomR i nx).2 = 0 then (c.roomS i nx).useS i else c
theorem roomR_cases (c : Ca) (i nx : Int) : c.roomR i nx = (0, 0) ∧ c.roomS i nx = c ∨ c.roomR i nx = (0, 4) ∧ c.roomS i nx = c ∨ c.roomR i nx = (nx, 0) ∧ c.roomS i nx = c.dropS nx := by
 unfold Ca.roomR Ca.roomS
 by_cases h : c.room i = true
 · exact .inl ⟨by rw [if_pos h], by rw [if_pos h]⟩
 · by_cases h2 : nx = 0
   · exact .inr (.inl ⟨by rw [if_neg h, if_pos h2], by rw [if_neg h, if_pos h2]⟩)
   · exact .inr (.inr ⟨by rw [if_neg h, if_neg h2], by rw [if_neg h, if_neg h2]⟩)
theorem roomS_few (c : Ca) (i nx : Int) : (c.roomS i nx).m ≤ c.m ∧ (c.roomS i nx).uses = c.uses := by
 rcases roomR_cases c i nx with h | h | h <;> rw [h.2]
 · exact ⟨Nat.le_refl _, rfl⟩
 · exact ⟨Nat.le_refl _, rfl⟩
 · exact ⟨delN_le _ _ _, rfl⟩
set_option maxHeartbeats 2000000 in
theorem put_c {w : World} {g b1 b2 : Nat} {c : Ca} (h : IsCa w g b1 b2 c) (hm : c.m ≤ 12) (hu0 : 0 ≤ c.uses) (hu : c.uses < 1000000) {ss : List Int} (hr : RiseF c.f ss) {i : Int} (h0 : 0 ≤ i) (h1 : i < 4294967296) :
   Calls Tryz.prog 85 #[pA g, .int .u32 i] w fun e w' => e = .returned (.tuple #[.int .u32 (c.putR i (c.nextOf ss)).1, .int .i64 (c.putR i (c.nextOf ss)).2]) ∧ IsCa w' g b1 b2 (c.putS i (c.nextOf ss)) ∧ Ou (Tri g b1 b2) w w' := by
 have MC := hid (makeRoom_c h hm hr h0 h1)
 have FW := hid (roomS_few c i (c.nextOf ss))
 have H := hid h
 generalize c.nextOf ss = nx at *
 clear h hr
 by_cases e0 : i = 0
 · have b0 : (i == 0) = true := by rw [e0]; rfl
   have E : Hid (c.putR i nx = (0, 2) ∧ c.putS i nx = c) := hid ⟨by unfold Ca.putR; rw [if_pos e0], by unfold Ca.putS; rw [if_pos e0]⟩
   clear e0
   go_enter Tryz.func85, Tryz.ntmps85
   go_wp2_with fail
   exact bodyPost_ret (v := .tuple #[.int .u32 0, .int .i64 2]) (by simp [results, Tryz.results85, go_sem]) rfl ⟨by rw [E.out.1], by rw [E.out.2]; exact H.out, Ou.refl _ _⟩
 have b0 : (i == 0) = false := by rw [beq_eq_false_iff_ne]; exact e0
 have E : Hid (c.putR i nx = c.roomR i nx ∧ c.putS i nx = if (c.roomR i nx).2 = 0 then (c.roomS i nx).useS i else c) := hid ⟨by unfold Ca.putR; rw [if_neg e0], by unfold Ca.putS; rw [if_neg e0]⟩
 by_cases hz : (c.roomR i nx).2 = 0
 · have E2 : Hid (c.putR i nx = ((c.roomR i nx).1, 0) ∧ c.putS i nx = (c.roomS i nx).useS i) := hid ⟨by rw [E.out.1]; exact Prod.ext rfl hz, by rw [E.out.2, if_pos hz]⟩
   rw [hz] at MC
   have UC : Hid (∀ W, IsCa W g b1 b2 (c.roomS i nx) → Calls Tryz.prog 158 #[pA g, .int .u32 i] W fun e w' => e = .returned (.tuple #[]) ∧ IsCa w' g b1 b2 ((c.roomS i nx).useS i) ∧ Ou (Tri g b1 b2) W w') := hid (fun W hW => use_c hW (by rw [FW.out.2]; exact hu0) (by rw [FW.out.2]; exact hu) (by have := FW.out.1; omega) h0 h1)
   generalize (c.roomR i nx).1 = r1 at *
   clear e0 hz E
   go_enter Tryz.func85, Tryz.ntmps85
   go_wp2_with (first
     | (go_at_call 158; refine (UC.out _ H2.out).mono ?_; rintro _ w3 ⟨rfl, h3, o3⟩; (have H3 := hid h3); (have O3 := hid (O2.out.trans o3)); clear h3 o3)
     | (go_at_call 157; refine MC.out.mono ?_; rintro _ w2 ⟨rfl, h2, o2⟩; (have H2 := hid h2); (have O2 := hid o2); clear h2 o2))
   exact bodyPost_ret (v := .tuple #[.int .u32 r1, .int .i64 0]) (by simp [results, Tryz.results85, go_sem]) rfl ⟨by rw [E2.out.1], by rw [E2.out.2]; exact H3.out, O3.out⟩
 · have E2 : Hid (c.roomR i nx = (0, 4) ∧ c.roomS i nx = c) := hid (by
     rcases roomR_cases c i nx with q | q | q
     · rw [q.1] at hz; exact absurd rfl hz
     · exact q
     · rw [q.1] at hz; exact absurd rfl hz)
   have E3 : Hid (c.putS i nx = c) := hid (by rw [E.out.2, if_neg hz])
   rw [E2.out.1, E2.out.2] at MC
   clear e0 hz
   go_enter Tryz.func85, Tryz.ntmps85
   go_wp2_with (go_at_call 157; refine MC.out.mono ?_; rintro _ w2 ⟨rfl, h2, o2⟩; (have H2 := hid h2); (have O2 := hid o2); clear h2 o2)
   exact bodyPost_ret (v := .tuple #[.int .u32 0, .int .i64 4]) (by simp [results, Tryz.results85, go_sem]) rfl ⟨by rw [E.out.1, E2.out.1], by rw [E3.out]; exact H2.out, O2.out⟩
end Go.Proofs.YtfmghbennahlfaaGreat
