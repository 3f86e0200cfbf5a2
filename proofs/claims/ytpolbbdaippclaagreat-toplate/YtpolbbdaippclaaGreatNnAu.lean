/-
  The package alike: numbers and no verdicts written behind a row of bytes that the call owns.
  What a server's state is kept as (group).
  The first snapshot, the first state; which kinds of operations change a version; verdicts of none.
-/
import Derived.Test.YtpolbbdaippclaaGreatNnAe
import Derived.Test.YtpolbbdaippclaaGreatNnAr
import Derived.Test.YtpolbbdaippclaaGreatNnAs
import Derived.Deep.RegionWith
import Derived.Test.YtpolbbdaippclaaGreatNnAt
namespace Go.Proofs.YtpolbbdaippclaaGreat
open Go.RowKit Go.ChangeShapes Go.WideShapes Go.ChangeAt
set_option linter.unusedVariables false
set_option linter.unusedSimpArgs false
set_option maxRecDepth 100000
theorem own_sliceY {w : World} {base : Nat} {e size n : Nat} {v : Value} {xs : List Value} (h : w.ownsRow base e size v n xs) : ∃ a m c, v = .slice a m c := by
 rcases h.2 with ⟨e, _⟩ | ⟨g, cap, cur, e, _⟩
 · exact ⟨_, _, _, e⟩
 · exact ⟨_, _, _, e⟩
def be4 (n : Int) : List Int := [n / 16777216, n / 65536 % 256, n / 256 % 256, n % 256]
def OwY (w : World) (base : Nat) (v : Value) (zs : List Int) : Prop := w.ownsRow base 5 1 v zs.length (zs.map u8V)
theorem OwY.nil (w : World) (base : Nat) : OwY w base (.slice none 0 0) [] := World.ownsRow_nil _ _ _ _
theorem row_news {w : World} {g : Nat} {l : List Value} {t : TypeId} (h : w.heap[g]? = some (.cells l.toArray t (0, 0))) : ∀ j u, l[j]? = some u → w.cell? ((⟨g, 0, none⟩ : Addr).add j) = some u := fun j u hu => by
 have e : (⟨g, 0, none⟩ : Addr).add j = ⟨g, 0 + j, none⟩ := by unfold Addr.add; split <;> simp_all
 rw [e, Nat.zero_add]
 exact cell_of_row2 h j (by simpa using hu)
theorem wpList_appY (w : World) {ops : Array Oper} {rest : List Oper} {o : Oper} {a : Act} {Q : Exit → Act → World → Prop} (hgd : o.guard = none) (s x : Operand)
   (ho : o.op = .call { callee := .builtin .append, args := #[s, x], argTypes := #[49, 49] }) (base : Nat) (v : Value) (zs ns : List Int) (hs : a.eval s = v) (hown : OwY w base v zs)
   (g m c : Nat) (hx : a.eval x = .slice (some ⟨g, 0, none⟩) m c) (hl : ns.length = m) (hg : w.heap[g]? = some (.cells (ns.map u8V).toArray 5 (0, 0))) (hz : zs.length ≤ 1000000) (hn : ns.length ≤ 1000000) (hb : base ≤ w.heap.size)
   (h : ∀ v' w', OwY w' base v' (zs ++ ns) → w.grownBy w' v.ownBlock → wpList Tryz.prog ops Q rest (a.put o.dst v') w') : wpList Tryz.prog ops Q (o :: rest) a w := by
 obtain ⟨i0, hi, hz0, hz1, hz2⟩ := info_parts8
 refine wpList_append_own w hgd s x 49 ho base 5 i0 (.int .u8 0) 1 1 Tryz.underlying49 hi hz0 hz1 hz2 rfl (by decide) v zs.length _ hs hown ⟨g, 0, none⟩ m c (ns.map u8V) hx (by simp [hl]) (row_news hg) (u8V_one ns) (by unfold maxLen; omega) (by omega) hb ?_
 intro v' w' h1 h2 _
 exact h v' w' (by unfold OwY; rw [List.length_append, List.map_append, hl]; exact h1) h2
theorem below_grownY {B : Nat} {a w w' : World} {base : Nat} {v : Value} {zs : List Int} (h : Below B a w) (hown : OwY w base v zs) (hB : B ≤ base) (hBw : B ≤ w.heap.size) (hg : w.grownBy w' v.ownBlock) : Below B a w' :=
 h.grown hg hBw (fun k hk => Nat.le_trans hB (hown.lt k hk).1)
theorem OwY.later {w w' : World} {base : Nat} {v : Value} {zs : List Int} (h : OwY w base v zs) (hb : Below w.heap.size w w') : OwY w' base v zs := own_latR h hb
set_option maxHeartbeats 2000000 in
theorem wnum_c (base : Nat) (v : Value) (zs : List Int) (n : Int) (w : World) (ho : OwY w base v zs) (hb : base ≤ w.heap.size) (hz : zs.length ≤ 100000) (h0 : 0 ≤ n) (h1 : n < 4294967296) :
   Calls Tryz.prog 52 #[v, .int .u32 n] w fun e w' => ∃ v', e = .returned v' ∧ OwY w' base v' (zs ++ be4 n) ∧ Below base w w' := by
 obtain ⟨a, m, c, rfl⟩ := own_sliceY ho
 have HO := hid ho
 clear ho
 go_enter Tryz.func52, Tryz.ntmps52
 go_wp2_with (at_builtin; refine wpList_appY _ rfl _ _ rfl base _ zs (be4 n) rfl (HO.out.later (below_1 _ _)) w.heap.size 4 4 rfl rfl (heap_alloc_new w _) (by omega) (by show 4 ≤ _; omega) (by simp; omega) ?_; intro v' w' ho' hg'; have O' := hid ho'; have B' := hid (below_grownY ((below_1 w _).mono hb) (HO.out.later (below_1 w _)) (Nat.le_refl _) (by simp; omega) hg'); clear ho' hg')
 obtain ⟨a', m', c', rfl⟩ := own_sliceY O'.out
 go_ret
 exact ⟨_, rfl, O'.out, B'.out⟩
set_option maxHeartbeats 2000000 in
theorem wnone_c (base : Nat) (v : Value) (zs : List Int) (w : World) (ho : OwY w base v zs) (hb : base ≤ w.heap.size) (hz : zs.length ≤ 100000) :
   Calls Tryz.prog 80 #[v, .slice none 0 0] w fun e w' => ∃ v', e = .returned v' ∧ OwY w' base v' (zs ++ [0]) ∧ Below base w w' := by
 obtain ⟨a, m, c, rfl⟩ := own_sliceY ho
 have HO := hid ho
 clear ho
 go_enter Tryz.func80, Tryz.ntmps80
 go_upto_region 3 with (at_builtin; refine wpList_appY _ rfl _ _ rfl base _ zs [0] rfl (HO.out.later (below_1 _ _)) w.heap.size 1 1 rfl rfl (heap_alloc_new w _) (by omega) (by decide) (by simp; omega) ?_; intro v' w' ho' hg'; have O' := hid ho'; have B' := hid (below_grownY ((below_1 w _).mono hb) (HO.out.later (below_1 w _)) (Nat.le_refl _) (by simp; omega) hg'); clear ho' hg')
 obtain ⟨a', m', c', rfl⟩ := own_sliceY O'.out
 go_loopg [0, 15] 0 (fun gk v0 v15 wr => v0 = .slice a' m' c' ∧ v15 = .int .i64 0 ∧ Hid (OwY wr base (.slice a' m' c') (zs ++ [0])) ∧ Hid (Below base w wr))
 case atStart => exact ⟨rfl, rfl, O', B'⟩
 case round =>
   obtain ⟨rfl, rfl, O2, B2⟩ := hrel
   go_wp2
   go_ret
   exact ⟨_, rfl, O2.out, B2.out⟩
def numB (ver d0 d1 d2 : Int) : List Int := be4 (ver / 4294967296) ++ be4 (ver % 4294967296) ++ be4 d0 ++ be4 d1 ++ be4 d2
def StA (w : World) (b off : Nat) (tv vv : Value) (ver d0 d1 d2 : Int) : Prop :=
 w.cell? ⟨b, off, none⟩ = some tv ∧ w.cell? ⟨b, off + 1, none⟩ = some vv ∧ w.cell? ⟨b, off + 2, none⟩ = some (.int .u64 ver) ∧ w.cell? ⟨b, off + 3, none⟩ = some (.int .u32 d0) ∧ w.cell? ⟨b, off + 4, none⟩ = some (.int .u32 d1) ∧ w.cell? ⟨b, off + 5, none⟩ = some (.int .u32 d2) ∧ w.cell? ⟨b, off + 6, none⟩ = some (.slice none 0 0)
theorem StA.later {w w' : World} {b off : Nat} {tv vv : Value} {ver d0 d1 d2 : Int} (h : StA w b off tv vv ver d0 d1 d2) (hb : Below w.heap.size w w') : StA w' b off tv vv ver d0 d1 d2 := by
 obtain ⟨h0, h1, h2, h3, h4, h5, h6⟩ := h
 exact ⟨cell_later hb h0, cell_later hb h1, cell_later hb h2, cell_later hb h3, cell_later hb h4, cell_later hb h5, cell_later hb h6⟩
def GrpP (sb ns : List Int) (w : World) (e : Ending) (w' : World) : Prop := ∃ g v1 v2, e = .returned (.slice (some ⟨g, 0, none⟩) 2 2) ∧ w.heap.size ≤ g ∧ w'.heap[g]? = some (.cells #[v1, v2] 49 (0, 0)) ∧ OwY w' w.heap.size v1 sb ∧ OwY w' w.heap.size v2 (ns ++ [0]) ∧ Below w.heap.size w w'
theorem OwY.low {w : World} {base b : Nat} {v : Value} {zs : List Int} (h : OwY w base v zs) (hb : b ≤ base) : OwY w b v zs := by
 obtain ⟨h1, h2⟩ := h
 refine ⟨h1, ?_⟩
 rcases h2 with h2 | ⟨g, cap, cur, q1, q2, q3⟩
 · exact .inl h2
 · exact .inr ⟨g, cap, cur, q1, Nat.le_trans hb q2, q3⟩
theorem uidx0 (a b c : Int) (w : World) : (Instr.index 74 (.agg #[.int .u32 a, .int .u32 b, .int .u32 c]) (.int .i64 0)).run Tryz.prog w = .ok (.int .u32 a) w := by kernel_rfl
theorem uidx1 (a b c : Int) (w : World) : (Instr.index 74 (.agg #[.int .u32 a, .int .u32 b, .int .u32 c]) (.int .i64 1)).run Tryz.prog w = .ok (.int .u32 b) w := by kernel_rfl
theorem uidx2 (a b c : Int) (w : World) : (Instr.index 74 (.agg #[.int .u32 a, .int .u32 b, .int .u32 c]) (.int .i64 2)).run Tryz.prog w = .ok (.int .u32 c) w := by kernel_rfl
set_option maxHeartbeats 4000000 in
theorem group_c (b off : Nat) (tv vv : Value) (ver d0 d1 d2 : Int) (sb : List Int) (w : World) (hs : StA w b off tv vv ver d0 d1 d2) (ht : (∃ a n c, tv = .slice a n c) ∧ ∃ a n c, vv = .slice a n c)
   (hv : 0 ≤ ver ∧ ver < 18446744073709551616) (h0 : 0 ≤ d0 ∧ d0 < 4294967296) (h1 : 0 ≤ d1 ∧ d1 < 4294967296) (h2 : 0 ≤ d2 ∧ d2 < 4294967296)
   (hc : Calls Tryz.prog 51 #[.agg #[tv, vv]] w fun e w' => ∃ v, e = .returned (.tuple #[v, .int .i64 0]) ∧ OwY w' w.heap.size v sb ∧ Below w.heap.size w w') :
   Calls Tryz.prog 50 #[.pointer (some ⟨b, off, none⟩)] w (GrpP sb (numB ver d0 d1 d2) w) := by
 obtain ⟨⟨ta, tn, tc, rfl⟩, va, vn, vc, rfl⟩ := ht
 have SC := hid hc
 have HS := hid hs
 obtain ⟨c0, c1, c2, c3, c4, c5, c6⟩ := hs
 obtain ⟨hv0, hv1⟩ := hv
 have UC := hid (fun W => unpack_c ver hv0 hv1 W)
 have m0 : 0 ≤ ver / 4294967296 := by omega
 have m1 : ver / 4294967296 < 4294967296 := by omega
 have m2 : 0 ≤ ver % 4294967296 := by omega
 have m3 : ver % 4294967296 < 4294967296 := by omega
 have WN := hid (fun (base : Nat) (v : Value) (zs : List Int) (n : Int) (W : World) (ho : OwY W base v zs) (hb : base ≤ W.heap.size) (hz : zs.length ≤ 100000) (q : n = ver / 4294967296 ∨ n = ver % 4294967296 ∨ n = d0 ∨ n = d1 ∨ n = d2) => wnum_c base v zs n W ho hb hz (by omega) (by omega))
 obtain ⟨H, hH⟩ : ∃ H, H = ver / 4294967296 := ⟨_, rfl⟩
 obtain ⟨L, hL⟩ : ∃ L, L = ver % 4294967296 := ⟨_, rfl⟩
 have NB : Hid (numB ver d0 d1 d2 = be4 H ++ be4 L ++ be4 d0 ++ be4 d1 ++ be4 d2) := hid (by rw [hH, hL]; rfl)
 rw [← hH, ← hL] at UC WN
 clear hc hv0 hv1 m0 m1 m2 m3 h0 h1 h2 hH hL
 go_enter Tryz.func50, Tryz.ntmps50
 go_upto_region 2 with (go_at_call 51; refine SC.out.mono ?_; rintro _ w1 ⟨v1, rfl, ho1, hb1⟩; have O1 := hid ho1; have B1 := hid hb1; clear ho1 hb1)
 obtain ⟨a1, n1, k1, rfl⟩ := own_sliceY O1.out
 obtain ⟨e0, e1, e2, e3, e4, e5, e6⟩ := HS.out.later B1.out
 have OC := hid (OwY.nil w1 w1.heap.size)
 have BC := hid (Below.refl w1.heap.size w1)
 clear c0 c1 c2 c3 c4 c5 c6 SC e0 e1
 go_upto_region 3 with (go_at_call 79; refine (UC.out _).mono ?_; rintro _ w2 ⟨rfl, hb2⟩; have OC := hid (OC.out.later hb2); have BC := hid (BC.out.trans hb2); clear hb2)
 go_upto_region 4 with (go_at_call 52; refine (WN.out w1.heap.size _ _ _ _ OC.out BC.out.size (by simp [be4]) (by simp)).mono ?_; rintro _ w3 ⟨v3, rfl, ho3, hb3⟩; obtain ⟨a3, n3, k3, rfl⟩ := own_sliceY ho3; have OC := hid ho3; have BC := hid (BC.out.trans hb3); clear ho3 hb3)
 obtain ⟨f0, f1, f2, f3, f4, f5, f6⟩ := HS.out.later (B1.out.trans (BC.out.mono B1.out.size))
 clear f0 f1 f2 e2 e3 e4 e5 e6
 go_wp2
 have x0 := uidx0 d0 d1 d2
 have x1 := uidx1 d0 d1 d2
 have x2 := uidx2 d0 d1 d2
 refine wp_loop_rounds 4 ?_
 rw [rounds_succ]
 go_wp2_with (go_at_call 52; refine (WN.out w1.heap.size _ _ _ _ OC.out BC.out.size (by simp [be4]) (by simp)).mono ?_; rintro _ w3 ⟨v3, rfl, ho3, hb3⟩; obtain ⟨a3, n3, k3, rfl⟩ := own_sliceY ho3; have OC := hid ho3; have BC := hid (BC.out.trans hb3); clear ho3 hb3)
 rw [rounds_succ]
 go_wp2_with (go_at_call 52; refine (WN.out w1.heap.size _ _ _ _ OC.out BC.out.size (by simp [be4]) (by simp)).mono ?_; rintro _ w3 ⟨v3, rfl, ho3, hb3⟩; obtain ⟨a3, n3, k3, rfl⟩ := own_sliceY ho3; have OC := hid ho3; have BC := hid (BC.out.trans hb3); clear ho3 hb3)
 rw [rounds_succ]
 go_wp2_with (go_at_call 52; refine (WN.out w1.heap.size _ _ _ _ OC.out BC.out.size (by simp [be4]) (by simp)).mono ?_; rintro _ w3 ⟨v3, rfl, ho3, hb3⟩; obtain ⟨a3, n3, k3, rfl⟩ := own_sliceY ho3; have OC := hid ho3; have BC := hid (BC.out.trans hb3); clear ho3 hb3)
 obtain ⟨g0, g1, g2, g3, g4, g5, g6⟩ := HS.out.later (B1.out.trans (BC.out.mono B1.out.size))
 clear g0 g1 g2 g3 g4 g5 f3 f4 f5 f6
 rw [rounds_succ]
 go_wp2_with (go_at_call 80; refine (wnone_c w1.heap.size _ _ _ OC.out BC.out.size (by simp [be4])).mono ?_; rintro _ w4 ⟨v4, rfl, ho4, hb4⟩; obtain ⟨a4, n4, k4, rfl⟩ := own_sliceY ho4; have OC := hid ho4; have BC := hid (BC.out.trans hb4); clear ho4 hb4)
 go_ret
 have b9 := below_1 w4 (.cells #[.slice a1 n1 k1, .slice a4 n4 k4] 49)
 have B9 := (B1.out.trans (BC.out.mono B1.out.size)).trans (b9.mono (Nat.le_trans B1.out.size BC.out.size))
 refine ⟨_, _, _, rfl, Nat.le_trans B1.out.size BC.out.size, heap_alloc_new w4 _, O1.out.later (BC.out.trans (b9.mono BC.out.size)), ?_, B9⟩
 have h9 := (OC.out.later b9).low B1.out.size
 rw [NB.out]
 simpa using h9
end Go.Proofs.YtpolbbdaippclaaGreat
namespace Go.Proofs.YtpolbbdaippclaaGreat
open Go.RowKit Go.ChangeShapes Go.WideShapes Go.ChangeAt Go.Maps Go.Shelf
set_option linter.unusedVariables false
set_option linter.unusedSimpArgs false
set_option maxRecDepth 100000
theorem cons_2 {P : Program} {md : Region.Mode} {l r r' : List Oper} {Q : Exit → Act → World → Prop} {S : World → Prop} (i j : Nat) {fuel : Nat} {listed : Array Bool} {a : Act} {w : World} {o o' : Oper} (ho : l.drop i = o :: r) (ho' : l.drop j = o' :: r')
   (hr : Region.ready md l.toArray listed = [i, j])
   (h : ∀ K' : Act → World → Prop, Shut (∀ a w, S w → (S w → wpAnyH P md l.toArray Q S fuel (listed.setIfInBounds i true) a w) → K' a w) → if Region.wanted o (yielded l.toArray a.tmps) = true then Oper.wp P o a w K' Q else K' (a.put o.dst undef) w)
   (h' : ∀ K' : Act → World → Prop, Shut (∀ a w, S w → (S w → wpAnyH P md l.toArray Q S fuel (listed.setIfInBounds j true) a w) → K' a w) → if Region.wanted o' (yielded l.toArray a.tmps) = true then Oper.wp P o' a w K' Q else K' (a.put o'.dst undef) w) :
   wpAnyH P md l.toArray Q S (fuel + 1) listed a w :=
 wpAnyH_ready hr (by simp) (AllReadyH.cons (at_drop ho) h (AllReadyH.cons (at_drop ho') h' AllReadyH.nil))
set_option maxHeartbeats 1000000 in
theorem changes_c (k : Int) (hk : k = 1 ∨ k = 2) (w : World) : Calls Tryz.prog 110 #[.int .u8 k] w fun e w' => e = .returned (.bool true) ∧ w' = w := by
 rcases hk with rfl | rfl
 · go_enter Tryz.func110, Tryz.ntmps110
   go_wp2
   go_ret
   exact ⟨rfl, rfl⟩
 · go_enter Tryz.func110, Tryz.ntmps110
   go_wp2
   go_ret
   exact ⟨rfl, rfl⟩
theorem two_cells {W : World} {A T : Nat} {u0 u1 : Value} (h : W.heap[A]? = some (.cells #[u0, u1] T (0, 0))) (v0 v1 : Value) :
   ((W.setCell ⟨A, 0, none⟩ v0).setCell ⟨A, 1, none⟩ v1).heap[A]? = some (.cells #[v0, v1] T (0, 0)) := by
 simp only [World.setCell]
 simp [Array.getElem?_modify, h]
theorem newTr {w : World} {g : Nat} (h : w.heap[g]? = some (.cells #[.int .u32 1, .int .u8 2, .int .u16 0, .int .u16 0, .slice none 0 0, .slice none 0 0] 52 (0, 0))) : Tr w (some ⟨g, 0, none⟩) newL := by
 refine ⟨⟨by show 1 ≤ maxLen; unfold maxLen; omega, fun x hx => ?_, fun _ => ⟨_, 0, rfl, fun i hi => ?_⟩⟩, fun x hx => ?_⟩
 · rw [newL, List.mem_singleton] at hx
   subst hx
   exact ⟨⟨by decide, by decide⟩, ⟨by decide, by decide⟩, ⟨by decide, by decide⟩, ⟨by decide, by decide⟩, (no_ok _).2.2.2.2.1, (no_ok _).2.2.2.2.2⟩
 · have e : i = 0 := by simp [newL] at hi; omega
   subst e
   intro j v hv
   rw [Nat.zero_add, cell_of_row _ _ _ _ _ _ h, ← Array.getElem?_toList]
   exact hv
 · rw [newL, List.mem_singleton] at hx
   subst hx
   exact ⟨⟨fun _ => rfl, fun _ => rfl⟩, Nat.zero_le _, Nat.zero_le _⟩
set_option maxHeartbeats 1000000 in
theorem newRow_c (w : World) : Calls Tryz.prog 94 #[] w fun e w' => ∃ g, e = .returned (.slice (some ⟨g, 0, none⟩) 1 1) ∧ w.heap.size ≤ g ∧ w'.heap[g]? = some (.cells #[.int .u32 1, .int .u8 2, .int .u16 0, .int .u16 0, .slice none 0 0, .slice none 0 0] 52 (0, 0)) ∧ Below w.heap.size w w' := by
 have b1 := below_1 w (.cells #[.int .u32 1, .int .u8 2, .int .u16 0, .int .u16 0, .slice none 0 0, .slice none 0 0] 52)
 have h1 := heap_alloc_new w (.cells #[.int .u32 1, .int .u8 2, .int .u16 0, .int .u16 0, .slice none 0 0, .slice none 0 0] 52)
 go_enter Tryz.func94, Tryz.ntmps94
 go_wp2
 go_ret
 exact ⟨_, rfl, Nat.le_refl _, h1, b1⟩
set_option maxHeartbeats 4000000 in
theorem firstSnap_c (w : World) : Calls Tryz.prog 62 #[] w fun e w' => ∃ g s, e = .returned (.agg #[.slice (some ⟨g, 0, none⟩) 1 1, .slice (some ⟨s, 0, none⟩) 1 1]) ∧ w.heap.size ≤ g ∧ w.heap.size ≤ s ∧ w'.heap[g]? = some (.cells #[.int .u32 1, .int .u8 2, .int .u16 0, .int .u16 0, .slice none 0 0, .slice none 0 0] 52 (0, 0)) ∧ w'.heap[s]? = some (.cells #[.int .u32 1, .int .u64 1, .int .u8 0] 47 (0, 0)) ∧ Below w.heap.size w w' := by
 have NC := hid (fun W => newRow_c W)
 go_enter Tryz.func62, Tryz.ntmps62
 go_upto_region 2 with fail
 have b1 := (below_1 w (.cells #[.slice none 0 0, .slice none 0 0] 44))
 have b2 := below_1 (w.alloc (.cells #[.slice none 0 0, .slice none 0 0] 44)) (.cells #[.int .u32 1, .int .u64 1, .int .u8 0] 47)
 have hS := heap_alloc_new (w.alloc (.cells #[.slice none 0 0, .slice none 0 0] 44)) (.cells #[.int .u32 1, .int .u64 1, .int .u8 0] 47)
 have hR := (b2.block _ (lt_blkR (heap_alloc_new w _))).trans (heap_alloc_new w (.cells #[.slice none 0 0, .slice none 0 0] 44))
 have B1 := hid (b1.trans (b2.mono b1.size))
 have hz1 : (w.alloc (.cells #[.slice none 0 0, .slice none 0 0] 44)).heap.size = w.heap.size + 1 := by simp
 rw [hz1] at hS
 clear b1 b2 hz1
 generalize (w.alloc (.cells #[.slice none 0 0, .slice none 0 0] 44)).alloc (.cells #[.int .u32 1, .int .u64 1, .int .u8 0] 47) = V at *
 have HK : Hid (∀ W, Below V.heap.size V W → W.heap[w.heap.size + 1]? = some (.cells #[.int .u32 1, .int .u64 1, .int .u8 0] 47 (0, 0))) := hid (fun W h => (h.block _ (lt_blkR hS)).trans hS)
 have HR : Hid (∀ W, Below V.heap.size V W → W.heap[w.heap.size]? = some (.cells #[.slice none 0 0, .slice none 0 0] 44 (0, 0))) := hid (fun W h => (h.block _ (lt_blkR hR)).trans hR)
 have LR : Hid (w.heap.size < V.heap.size) := hid (lt_blkR hR)
 have D1 := hid (Below.drew (Below.refl V.heap.size V))
 have O0 : ∀ w' : World, w'.heap[w.heap.size + 1]? = some (.cells #[.int .u32 1, .int .u64 1, .int .u8 0] 47 (0, 0)) → w'.cell? ⟨w.heap.size + 1, 0, none⟩ = some (.int .u32 1) := fun w' h => cell_of_row2 h 0 rfl
 have O1 : ∀ w' : World, w'.heap[w.heap.size + 1]? = some (.cells #[.int .u32 1, .int .u64 1, .int .u8 0] 47 (0, 0)) → w'.cell? ⟨w.heap.size + 1, 1, none⟩ = some (.int .u64 1) := fun w' h => cell_of_row2 h 1 rfl
 have O2 : ∀ w' : World, w'.heap[w.heap.size + 1]? = some (.cells #[.int .u32 1, .int .u64 1, .int .u8 0] 47 (0, 0)) → w'.cell? ⟨w.heap.size + 1, 2, none⟩ = some (.int .u8 0) := fun w' h => cell_of_row2 h 2 rfl
 clear hS hR
 go_wp2_with fail
 refine wp_region_held_drew (S := fun w' => w'.heap[w.heap.size + 1]? = some (.cells #[.int .u32 1, .int .u64 1, .int .u8 0] 47 (0, 0))) (by kernel_rfl) (HK.out _ D1.out) (fun hHeld => ?_)
 refine take_l 1 (v := ?_) rfl (by kernel_rfl) (by kernel_rfl) (by kernel_rfl) (fun _ _ _ h => h) (Or.inl ⟨by rfl, ?_⟩) (by assumption) ?_
 rotate_left
 · (intro w' hSw; (have k0 := O0 _ hSw); (have k1 := O1 _ hSw); (have k2 := O2 _ hSw); clear hSw; go_simp; first | done | with_reducible rfl)
 try simp only [Act.put, List.setIfInBounds_toArray, List.set_cons_zero, List.set_cons_succ]
 refine cons_2 0 2 rfl rfl (by kernel_rfl) (fun K hK => ?_) (fun K hK => ?_)
 · skip
   go_simp
   refine (NC.out _).mono ?_; rintro _ w2 ⟨g2, rfl, hg2, hr2, hb2⟩
   have T2 := hid hr2
   have D2 := hid (D1.out.trans (hb2.mono D1.out.size))
   have G2 := hid (show V.heap.size ≤ g2 from Nat.le_trans D1.out.size hg2)
   clear hr2 hb2 hg2
   go_simp
   refine hK.out _ _ (HK.out _ D2.out) (fun hHeld => ?_)
   clear hK K
   try simp only [Act.put, List.setIfInBounds_toArray, List.set_cons_zero, List.set_cons_succ]
   refine cons_l 2 rfl (by kernel_rfl) (fun K hK => ?_)
   go_simp
   have b3 := below_1 w2 (.cells #[.int .u32 1, .int .u64 1, .int .u8 0] 47)
   have N3 := hid (heap_alloc_new w2 (.cells #[.int .u32 1, .int .u64 1, .int .u8 0] 47))
   have D3 := hid (D2.out.trans (b3.mono D2.out.size))
   have T3 := hid ((b3.block _ (lt_blkR T2.out)).trans T2.out)
   have G3 := hid (show V.heap.size ≤ w2.heap.size from D2.out.size)
   generalize w2.heap.size = s3 at *
   generalize w2.alloc (.cells #[.int .u32 1, .int .u64 1, .int .u8 0] 47) = W3 at *
   clear b3
   refine hK.out _ _ (HK.out _ D3.out) (fun hHeld => ?_)
   clear hK K
   try simp only [Act.put, List.setIfInBounds_toArray, List.set_cons_zero, List.set_cons_succ]
   refine take_l 3 (v := ?_) rfl (by kernel_rfl) (by kernel_rfl) (by kernel_rfl) (fun _ _ _ h => h) (Or.inl ⟨by rfl, ?_⟩) (by assumption) ?_
   rotate_left
   · (intro w' hSw; clear hSw; go_simp; first | done | with_reducible rfl)
   try simp only [Act.put, List.setIfInBounds_toArray, List.set_cons_zero, List.set_cons_succ]
   have R3 := HR.out _ D3.out
   have r0 : W3.cell? ⟨w.heap.size, 0, none⟩ = some (.slice none 0 0) := cell_of_row2 R3 0 rfl
   have r1 : W3.cell? ⟨w.heap.size, 1, none⟩ = some (.slice none 0 0) := cell_of_row2 R3 1 rfl
   have fz : ∀ i, W3.frozen? ⟨w.heap.size, i, none⟩ = false := fun i => by simp [World.frozen?, R3]
   refine cons_l 4 rfl (by kernel_rfl) (fun K hK => ?_)
   go_simp
   have Q9 := hid (two_cells R3 (.slice (some ⟨g2, 0, none⟩) 1 1) (.slice (some ⟨s3, 0, none⟩) 1 1))
   have S9 := (Below.heap_setCell (W3.setCell ⟨w.heap.size, 0, none⟩ (.slice (some ⟨g2, 0, none⟩) 1 1)) ⟨w.heap.size, 1, none⟩ (.slice (some ⟨s3, 0, none⟩) 1 1) (w.heap.size + 1) (by simp)).trans ((Below.heap_setCell W3 ⟨w.heap.size, 0, none⟩ (.slice (some ⟨g2, 0, none⟩) 1 1) (w.heap.size + 1) (by simp)).trans (HK.out _ D3.out))
   refine hK.out _ _ S9 (fun hHeld => ?_)
   clear hK K
   try simp only [Act.put, List.setIfInBounds_toArray, List.set_cons_zero, List.set_cons_succ]
   refine wpAnyH_done (by kernel_rfl) ?_ _
   have l9 := LR.out
   have l8 := G2.out
   have l7 := G3.out
   have X1 := (Below.heap_setCell (W3.setCell ⟨w.heap.size, 0, none⟩ (.slice (some ⟨g2, 0, none⟩) 1 1)) ⟨w.heap.size, 1, none⟩ (.slice (some ⟨s3, 0, none⟩) 1 1) g2 (by simp; omega)).trans ((Below.heap_setCell W3 ⟨w.heap.size, 0, none⟩ (.slice (some ⟨g2, 0, none⟩) 1 1) g2 (by simp; omega)).trans T3.out)
   have X2 := (Below.heap_setCell (W3.setCell ⟨w.heap.size, 0, none⟩ (.slice (some ⟨g2, 0, none⟩) 1 1)) ⟨w.heap.size, 1, none⟩ (.slice (some ⟨s3, 0, none⟩) 1 1) s3 (by simp; omega)).trans ((Below.heap_setCell W3 ⟨w.heap.size, 0, none⟩ (.slice (some ⟨g2, 0, none⟩) 1 1) s3 (by simp; omega)).trans N3.out)
   have B9 := hid ((((B1.out.trans (D3.out.mono B1.out.size)).setCell (p := ⟨w.heap.size, 0, none⟩) (Nat.le_refl _) (.slice (some ⟨g2, 0, none⟩) 1 1)).setCell (p := ⟨w.heap.size, 1, none⟩) (Nat.le_refl _) (.slice (some ⟨s3, 0, none⟩) 1 1)))
   have X1h := hid X1
   have X2h := hid X2
   have q9 := Q9.out
   clear X1 X2 S9 r0 r1 fz R3
   generalize ((W3.setCell ⟨w.heap.size, 0, none⟩ (.slice (some ⟨g2, 0, none⟩) 1 1)).setCell ⟨w.heap.size, 1, none⟩ (.slice (some ⟨s3, 0, none⟩) 1 1)) = W9 at *
   have r0 : W9.cell? ⟨w.heap.size, 0, none⟩ = some (.slice (some ⟨g2, 0, none⟩) 1 1) := cell_of_row2 q9 0 rfl
   have r1 : W9.cell? ⟨w.heap.size, 1, none⟩ = some (.slice (some ⟨s3, 0, none⟩) 1 1) := cell_of_row2 q9 1 rfl
   go_wp2
   refine bodyPost_ret (v := .agg #[.slice (some ⟨g2, 0, none⟩) 1 1, .slice (some ⟨s3, 0, none⟩) 1 1]) (by simp [results, Tryz.results62, go_sem, r0, r1]) rfl ⟨_, _, rfl, by omega, by omega, X1h.out, X2h.out, B9.out⟩
 · skip
   go_simp
   have N2 : Hid ((V.alloc (.cells #[.int .u32 1, .int .u64 1, .int .u8 0] 47)).drew.heap[V.heap.size]? = some (.cells #[.int .u32 1, .int .u64 1, .int .u8 0] 47 (0, 0))) := hid (heap_alloc_new V (.cells #[.int .u32 1, .int .u64 1, .int .u8 0] 47))
   have D2 : Hid (Below V.heap.size V (V.alloc (.cells #[.int .u32 1, .int .u64 1, .int .u8 0] 47)).drew) := hid (Below.drew (below_1 V (.cells #[.int .u32 1, .int .u64 1, .int .u8 0] 47)))
   obtain ⟨s3, hs3⟩ : ∃ s3, s3 = V.heap.size := ⟨_, rfl⟩
   have G3 : Hid (V.heap.size ≤ s3) := hid (by omega)
   have HS3 := hid hs3
   generalize (V.alloc (.cells #[.int .u32 1, .int .u64 1, .int .u8 0] 47)).drew = W2 at *
   refine hK.out _ _ (HK.out _ D2.out) (fun hHeld => ?_)
   clear hK K
   try simp only [Act.put, List.setIfInBounds_toArray, List.set_cons_zero, List.set_cons_succ]
   refine cons_l 0 rfl (by kernel_rfl) (fun K hK => ?_)
   go_simp
   refine (NC.out _).mono ?_; rintro _ W3 ⟨g2, rfl, hg2, hr2, hb2⟩
   have T3 := hid hr2
   have D3 := hid (D2.out.trans (hb2.mono D2.out.size))
   have G2 := hid (show V.heap.size ≤ g2 from Nat.le_trans D2.out.size hg2)
   have N3 : Hid (W3.heap[s3]? = some (.cells #[.int .u32 1, .int .u64 1, .int .u8 0] 47 (0, 0))) := hid (by rw [HS3.out]; exact (hb2.block _ (lt_blkR N2.out)).trans N2.out)
   clear hr2 hb2 hg2 N2
   rw [← hs3]
   clear hs3
   go_simp
   refine hK.out _ _ (HK.out _ D3.out) (fun hHeld => ?_)
   clear hK K
   try simp only [Act.put, List.setIfInBounds_toArray, List.set_cons_zero, List.set_cons_succ]
   refine take_l 3 (v := ?_) rfl (by kernel_rfl) (by kernel_rfl) (by kernel_rfl) (fun _ _ _ h => h) (Or.inl ⟨by rfl, ?_⟩) (by assumption) ?_
   rotate_left
   · (intro w' hSw; clear hSw; go_simp; first | done | with_reducible rfl)
   try simp only [Act.put, List.setIfInBounds_toArray, List.set_cons_zero, List.set_cons_succ]
   have R3 := HR.out _ D3.out
   have r0 : W3.cell? ⟨w.heap.size, 0, none⟩ = some (.slice none 0 0) := cell_of_row2 R3 0 rfl
   have r1 : W3.cell? ⟨w.heap.size, 1, none⟩ = some (.slice none 0 0) := cell_of_row2 R3 1 rfl
   have fz : ∀ i, W3.frozen? ⟨w.heap.size, i, none⟩ = false := fun i => by simp [World.frozen?, R3]
   refine cons_l 4 rfl (by kernel_rfl) (fun K hK => ?_)
   go_simp
   have Q9 := hid (two_cells R3 (.slice (some ⟨g2, 0, none⟩) 1 1) (.slice (some ⟨s3, 0, none⟩) 1 1))
   have S9 := (Below.heap_setCell (W3.setCell ⟨w.heap.size, 0, none⟩ (.slice (some ⟨g2, 0, none⟩) 1 1)) ⟨w.heap.size, 1, none⟩ (.slice (some ⟨s3, 0, none⟩) 1 1) (w.heap.size + 1) (by simp)).trans ((Below.heap_setCell W3 ⟨w.heap.size, 0, none⟩ (.slice (some ⟨g2, 0, none⟩) 1 1) (w.heap.size + 1) (by simp)).trans (HK.out _ D3.out))
   refine hK.out _ _ S9 (fun hHeld => ?_)
   clear hK K
   try simp only [Act.put, List.setIfInBounds_toArray, List.set_cons_zero, List.set_cons_succ]
   refine wpAnyH_done (by kernel_rfl) ?_ _
   have l9 := LR.out
   have l8 := G2.out
   have l7 := G3.out
   have X1 := (Below.heap_setCell (W3.setCell ⟨w.heap.size, 0, none⟩ (.slice (some ⟨g2, 0, none⟩) 1 1)) ⟨w.heap.size, 1, none⟩ (.slice (some ⟨s3, 0, none⟩) 1 1) g2 (by simp; omega)).trans ((Below.heap_setCell W3 ⟨w.heap.size, 0, none⟩ (.slice (some ⟨g2, 0, none⟩) 1 1) g2 (by simp; omega)).trans T3.out)
   have X2 := (Below.heap_setCell (W3.setCell ⟨w.heap.size, 0, none⟩ (.slice (some ⟨g2, 0, none⟩) 1 1)) ⟨w.heap.size, 1, none⟩ (.slice (some ⟨s3, 0, none⟩) 1 1) s3 (by simp; omega)).trans ((Below.heap_setCell W3 ⟨w.heap.size, 0, none⟩ (.slice (some ⟨g2, 0, none⟩) 1 1) s3 (by simp; omega)).trans N3.out)
   have B9 := hid ((((B1.out.trans (D3.out.mono B1.out.size)).setCell (p := ⟨w.heap.size, 0, none⟩) (Nat.le_refl _) (.slice (some ⟨g2, 0, none⟩) 1 1)).setCell (p := ⟨w.heap.size, 1, none⟩) (Nat.le_refl _) (.slice (some ⟨s3, 0, none⟩) 1 1)))
   have X1h := hid X1
   have X2h := hid X2
   have q9 := Q9.out
   clear X1 X2 S9 r0 r1 fz R3
   generalize ((W3.setCell ⟨w.heap.size, 0, none⟩ (.slice (some ⟨g2, 0, none⟩) 1 1)).setCell ⟨w.heap.size, 1, none⟩ (.slice (some ⟨s3, 0, none⟩) 1 1)) = W9 at *
   have r0 : W9.cell? ⟨w.heap.size, 0, none⟩ = some (.slice (some ⟨g2, 0, none⟩) 1 1) := cell_of_row2 q9 0 rfl
   have r1 : W9.cell? ⟨w.heap.size, 1, none⟩ = some (.slice (some ⟨s3, 0, none⟩) 1 1) := cell_of_row2 q9 1 rfl
   go_wp2
   refine bodyPost_ret (v := .agg #[.slice (some ⟨g2, 0, none⟩) 1 1, .slice (some ⟨s3, 0, none⟩) 1 1]) (by simp [results, Tryz.results62, go_sem, r0, r1]) rfl ⟨_, _, rfl, by omega, by omega, X1h.out, X2h.out, B9.out⟩
end Go.Proofs.YtpolbbdaippclaaGreat
