/-
  For every operations, and a path: an entry is found by the path of its directory and its name, if that is no link.
-/
import Derived.Test.YtgbdplammniidaaGreatDoorFiBx
import Derived.Test.YtgbdplammniidaaGreatDoorFiBy
import Derived.Test.YtgbdplammniidaaGreatDoorCards
import Derived.Test.YtgbdplammniidaaGreatDoorTie
import Derived.ChangeOld
import Derived.Below
import Derived.Deep.DeepHandedRow
import Derived.Lib.LaidTab
import Derived.Shelf.Vars
namespace Go.Proofs.YtgbdplammniidaaGreatDoor
open Go.RowKit Go.ChangeShapes Go.WideShapes Go.ChangeAt Go.Maps Go.Shelf
open Go.ChangeMaps (open_string shut_string)
set_option linter.unusedVariables false
set_option linter.unusedSimpArgs false
set_option maxRecDepth 20000
set_option maxHeartbeats 8000000 in
theorem treeFinds_walk (a0 : Option Addr) (len0 cap0 : Nat) (ops : List Rec) (lz0 : ops.length = len0) (lc0 : len0 ≤ cap0) (s : ByteArray) (hs : s.size ≤ maxLen) (w : World) (mx : Int) (hmx : w.cell? ⟨0, 0, none⟩ = some (.int .i64 mx)) (h0 : IsOs w a0 ops) :
   Calls Tryz.prog 3 #[.slice a0 len0 cap0, .string s] w fun e w' => e = .returned (.bool true) ∧ Below w.heap.size w w' := by
 have MC := hid (made_c a0 len0 cap0 ops w lz0 lc0 h0)
 have RT := hid (pm_rt h0.2.1 40)
 have LC := hid (fun W => tlive_c W)
 have DC := hid (fun W (hW : Below w.heap.size w W) => prdir_c s W mx (cell_later hW hmx) hs)
 have BC := hid (fun W (hW : Below w.heap.size w W) => rbase_c s W mx (cell_later hW hmx) hs)
 have HS := hid hs
 clear h0 hmx
 generalize PmL ops 40 = t at *
 cases hsp : Pa.splitF s.data.toList with
 | none =>
   have PD := hid (Pa.no_parts (.inl hsp)).1
   have PB := hid (Pa.no_parts (.inl hsp)).2
   have F1 : Hid (∀ (a : Option Addr) (c : Nat) (L : List Nd) (W : World), TrE W a L t → Calls Tryz.prog 5 #[.slice a L.length c, .string s] W (FnP (0, 3) W)) := hid (fun a c L W h => tFind_no a L.length c s W HS.out hsp)
   clear hsp hs
   go_enter Tryz.func3, Tryz.ntmps3
   go_wp2_with (first
     | (go_at_call 8; refine (LC.out _).mono ?_; rintro _ w9 ⟨rfl, hb9⟩; have B9 := hid (B4.out.trans (hb9.mono B4.out.size)); clear hb9)
     | (go_at_call 7; refine ((BC.out w3 B3.out).mono fun e w' hp => text_not PB.out hp).mono ?_; rintro _ w4 ⟨rfl, hb4⟩; have T4 := hid (T3.out.later hb4); have B4 := hid (B3.out.trans (hb4.mono B3.out.size)); clear hb4)
     | (go_at_call 6; refine ((DC.out w2 B2.out).mono fun e w' hp => text_not PD.out hp).mono ?_; rintro _ w3 ⟨rfl, hb3⟩; have T3 := hid (T2.out.later hb3); have B3 := hid (B2.out.trans (hb3.mono B2.out.size)); clear hb3)
     | (go_at_call 5; refine (F1.out a1 c1 L1 w1 T1.out).mono ?_; rintro _ w2 ⟨rfl, hb2⟩; have T2 := hid (T1.out.later hb2); have B2 := hid (B1.out.trans (hb2.mono B1.out.size)); clear hb2)
     | (go_at_call 4; refine MC.out.mono ?_; rintro _ w1 ⟨a1, c1, L1, rfl, t1, hb1⟩; have T1 := hid (t1.tre (by have := RT.out.few; omega)); have B1 := hid hb1; clear t1 hb1))
   go_ret
   exact ⟨by first | rfl | simp, B9.out⟩
 | some ns =>
   have F0 : Hid (∀ (a : Option Addr) (c : Nat) (L : List Nd) (W : World), TrE W a L t → Calls Tryz.prog 5 #[.slice a L.length c, .string s] W (FnP (fnK t 8 1 ns) W)) := hid (fun a c L W h => findT_c c W h RT.out HS.out hsp)
   by_cases hne : ns = []
   · subst hne
     have PD := hid (Pa.no_parts (.inr hsp)).1
     have PB := hid (Pa.no_parts (.inr hsp)).2
     have F1 : Hid (∀ (a : Option Addr) (c : Nat) (L : List Nd) (W : World), TrE W a L t → Calls Tryz.prog 5 #[.slice a L.length c, .string s] W (FnP (1, 0) W)) := hid (fun a c L W h => by have := F0.out a c L W h; rw [fnK_S] at this; exact this)
     clear hsp hs F0
     go_enter Tryz.func3, Tryz.ntmps3
     go_wp2_with (first
       | (go_at_call 8; refine (LC.out _).mono ?_; rintro _ w9 ⟨rfl, hb9⟩; have B9 := hid (B4.out.trans (hb9.mono B4.out.size)); clear hb9)
       | (go_at_call 7; refine ((BC.out w3 B3.out).mono fun e w' hp => text_not PB.out hp).mono ?_; rintro _ w4 ⟨rfl, hb4⟩; have T4 := hid (T3.out.later hb4); have B4 := hid (B3.out.trans (hb4.mono B3.out.size)); clear hb4)
       | (go_at_call 6; refine ((DC.out w2 B2.out).mono fun e w' hp => text_not PD.out hp).mono ?_; rintro _ w3 ⟨rfl, hb3⟩; have T3 := hid (T2.out.later hb3); have B3 := hid (B2.out.trans (hb3.mono B2.out.size)); clear hb3)
       | (go_at_call 5; refine (F1.out a1 c1 L1 w1 T1.out).mono ?_; rintro _ w2 ⟨rfl, hb2⟩; have T2 := hid (T1.out.later hb2); have B2 := hid (B1.out.trans (hb2.mono B1.out.size)); clear hb2)
       | (go_at_call 4; refine MC.out.mono ?_; rintro _ w1 ⟨a1, c1, L1, rfl, t1, hb1⟩; have T1 := hid (t1.tre (by have := RT.out.few; omega)); have B1 := hid hb1; clear t1 hb1))
     go_ret
     exact ⟨by first | rfl | simp, B9.out⟩
   · obtain ⟨d, b, c0, p1, p2, p3, p4, _, _, _, _, p5, p6, _⟩ := Pa.parts hsp hne
     have PD := hid p1
     have PB := hid p2
     have ON := hid (fnK_on t b 8 1 ns.dropLast)
     rw [p4] at ON
     have FD : Hid (∀ (a : Option Addr) (c : Nat) (L : List Nd) (W : World), TrE W a L t → Calls Tryz.prog 5 #[.slice a L.length c, .string ⟨d.toArray⟩] W (FnP (fnK t 8 1 ns.dropLast) W)) := hid (fun a c L W h => findT_c (s := ⟨d.toArray⟩) c W h RT.out (by show d.toArray.size ≤ maxLen; rw [List.size_toArray]; unfold maxLen; omega) (by show Pa.splitF d.toArray.toList = _; rw [List.toList_toArray]; exact p3))
     clear hsp hs p1 p2 p3 p4 p5 p6 hne
     obtain ⟨⟨rf, re⟩, Hr⟩ : ∃ r, Hid (fnK t 8 1 ns.dropLast = r) := ⟨_, hid rfl⟩
     obtain ⟨⟨sf, se⟩, Hs⟩ : ∃ r, Hid (fnK t 8 1 ns = r) := ⟨_, hid rfl⟩
     have F1 : Hid (∀ (a : Option Addr) (c : Nat) (L : List Nd) (W : World), TrE W a L t → Calls Tryz.prog 5 #[.slice a L.length c, .string s] W (FnP (sf, se) W)) := hid (fun a c L W h => by have := F0.out a c L W h; rw [Hs.out] at this; exact this)
     have F2 : Hid (∀ (a : Option Addr) (c : Nat) (L : List Nd) (W : World), TrE W a L t → Calls Tryz.prog 5 #[.slice a L.length c, .string ⟨d.toArray⟩] W (FnP (rf, re) W)) := hid (fun a c L W h => by have := FD.out a c L W h; rw [Hr.out] at this; exact this)
     rw [Hr.out, Hs.out] at ON
     clear F0 FD Hr Hs
     rcases ON.out with ⟨h1, h2⟩ | ⟨h1, K, h2⟩
     · simp only [Prod.mk.injEq] at h1 h2
       obtain ⟨rfl, rfl⟩ := h2
       have heb : (se != 0) = true := by simp [h1]
       clear ON
       go_enter Tryz.func3, Tryz.ntmps3
       go_wp2_with (first
         | (go_at_call 8; refine (LC.out _).mono ?_; rintro _ w9 ⟨rfl, hb9⟩; have B9 := hid (B5.out.trans (hb9.mono B5.out.size)); clear hb9)
         | (have _q := T4.out; clear _q; go_at_call 5; refine (F2.out a1 c1 L1 w4 T4.out).mono ?_; rintro _ w5 ⟨rfl, hb5⟩; have B5 := hid (B4.out.trans (hb5.mono B4.out.size)); clear hb5)
         | (go_at_call 7; refine ((BC.out w3 B3.out).mono fun e w' hp => text_yes PB.out hp).mono ?_; rintro _ w4 ⟨rfl, hb4⟩; have T4 := hid (T3.out.later hb4); have B4 := hid (B3.out.trans (hb4.mono B3.out.size)); clear hb4)
         | (go_at_call 6; refine ((DC.out w2 B2.out).mono fun e w' hp => text_yes PD.out hp).mono ?_; rintro _ w3 ⟨rfl, hb3⟩; have T3 := hid (T2.out.later hb3); have B3 := hid (B2.out.trans (hb3.mono B2.out.size)); clear hb3)
         | (go_at_call 5; refine (F1.out a1 c1 L1 w1 T1.out).mono ?_; rintro _ w2 ⟨rfl, hb2⟩; have T2 := hid (T1.out.later hb2); have B2 := hid (B1.out.trans (hb2.mono B1.out.size)); clear hb2)
         | (go_at_call 4; refine MC.out.mono ?_; rintro _ w1 ⟨a1, c1, L1, rfl, t1, hb1⟩; have T1 := hid (t1.tre (by have := RT.out.few; omega)); have B1 := hid hb1; clear t1 hb1))
       go_ret
       exact ⟨by first | rfl | simp, B9.out⟩
     · simp only at h1 h2
       subst h1
       have O1 := fnK_one t b K rf
       rw [← h2] at O1
       have OO := hid O1
       clear O1 ON h2
       have LK : Hid (∀ (a : Option Addr) (c : Nat) (L : List Nd) (W : World), TrE W a L t → Calls Tryz.prog 9 #[.slice a L.length c, .int .u32 rf, .string ⟨b.toArray⟩] W fun e w' => e = .returned (.tuple #[.int .u32 (plkI (getF t rf) (baF b)), .int .i64 (plkE (getF t rf) (baF b))]) ∧ Below W.heap.size W w') := hid (fun a c L W h => lookE_c c rf (baF b) W h (by have := RT.out.few; omega))
       generalize plkE (getF t rf) (baF b) = le at *
       generalize plkI (getF t rf) (baF b) = lf at *
       go_enter Tryz.func3, Tryz.ntmps3
       by_cases hl : le = 0
       · subst hl
         have ALT : Hid (∀ uk : Int, (∀ n, getF t lf = some n → uk = n.k) → (getF t lf = none → uk = 0) → uk = 3 ∨ ((uk == 3) = false ∧ sf = lf ∧ se = 0)) := hid (fun uk g1 g2 => by
           by_cases hu : uk = 3
           · exact .inl hu
           · refine .inr ⟨by simp [hu], ?_⟩
             have h9 := OO.out.2 rfl (by
               cases hg : getF t lf with
               | none => show (0 : Int) ≠ 3; decide
               | some n => have := g1 n hg; show n.k ≠ 3; omega)
             simpa using h9)
         clear OO
         go_wp2_with (first
           | (go_at_call 8; refine (LC.out _).mono ?_; rintro _ w9 ⟨rfl, hb9⟩; have B9 := hid (B7.out.trans (hb9.mono B7.out.size)); have u1 := (cell_of_row2 ((hb9.block _ (lt_blkR U7.out)).trans U7.out) 1 rfl : w9.cell? ⟨w7.heap.size, 1, none⟩ = some (.int .u8 uk)); clear hb9; rcases AL.out with rfl | ⟨hu, rfl, rfl⟩)
           | (have _q := T6.out; clear _q; go_at_call 10; refine (getE_c c1 lf w6 T6.out (by have := RT.out.few; omega)).mono ?_; rintro _ w7 ⟨uf, uk, um, ul, uda, udc, uzs, uka, ukc, uks, ub, rfl, hn1, hn2, hok, hb7⟩; have AL := hid (ALT.out uk (fun n hn => (hn1 n hn).2.2.1) hn2); have b8 := below_1 w7 (.cells #[.int .u32 uf, .int .u8 uk, .int .u16 um, .int .u16 ul, .slice uda uzs.length udc, .slice uka uks.length ukc] 39); have U7 := hid (heap_alloc_new w7 (.cells #[.int .u32 uf, .int .u8 uk, .int .u16 um, .int .u16 ul, .slice uda uzs.length udc, .slice uka uks.length ukc] 39)); have B7 := hid ((B6.out.trans (hb7.mono B6.out.size)).trans (b8.mono (B6.out.trans (hb7.mono B6.out.size)).size)); clear hn1 hn2 hok hb7 b8)
           | (have _q := T5.out; clear _q; go_at_call 9; refine (LK.out a1 c1 L1 w5 T5.out).mono ?_; rintro _ w6 ⟨rfl, hb6⟩; have T6 := hid (T5.out.later hb6); have B6 := hid (B5.out.trans (hb6.mono B5.out.size)); clear hb6)
           | (have _q := T4.out; clear _q; go_at_call 5; refine (F2.out a1 c1 L1 w4 T4.out).mono ?_; rintro _ w5 ⟨rfl, hb5⟩; have T5 := hid (T4.out.later hb5); have B5 := hid (B4.out.trans (hb5.mono B4.out.size)); clear hb5)
           | (go_at_call 7; refine ((BC.out w3 B3.out).mono fun e w' hp => text_yes PB.out hp).mono ?_; rintro _ w4 ⟨rfl, hb4⟩; have T4 := hid (T3.out.later hb4); have B4 := hid (B3.out.trans (hb4.mono B3.out.size)); clear hb4)
           | (go_at_call 6; refine ((DC.out w2 B2.out).mono fun e w' hp => text_yes PD.out hp).mono ?_; rintro _ w3 ⟨rfl, hb3⟩; have T3 := hid (T2.out.later hb3); have B3 := hid (B2.out.trans (hb3.mono B2.out.size)); clear hb3)
           | (go_at_call 5; refine (F1.out a1 c1 L1 w1 T1.out).mono ?_; rintro _ w2 ⟨rfl, hb2⟩; have T2 := hid (T1.out.later hb2); have B2 := hid (B1.out.trans (hb2.mono B1.out.size)); clear hb2)
           | (go_at_call 4; refine MC.out.mono ?_; rintro _ w1 ⟨a1, c1, L1, rfl, t1, hb1⟩; have T1 := hid (t1.tre (by have := RT.out.few; omega)); have B1 := hid hb1; clear t1 hb1))
         all_goals (go_ret; exact ⟨by first | rfl | simp, B9.out⟩)
       · have heb : (le != 0) = true := by simp [hl]
         have O2 := OO.out.1 hl
         simp only [Prod.mk.injEq] at O2
         obtain ⟨rfl, rfl⟩ := O2
         clear OO
         go_wp2_with (first
           | (go_at_call 8; refine (LC.out _).mono ?_; rintro _ w9 ⟨rfl, hb9⟩; have B9 := hid (B6.out.trans (hb9.mono B6.out.size)); clear hb9)
           | (have _q := T5.out; clear _q; go_at_call 9; refine (LK.out a1 c1 L1 w5 T5.out).mono ?_; rintro _ w6 ⟨rfl, hb6⟩; have B6 := hid (B5.out.trans (hb6.mono B5.out.size)); clear hb6)
           | (have _q := T4.out; clear _q; go_at_call 5; refine (F2.out a1 c1 L1 w4 T4.out).mono ?_; rintro _ w5 ⟨rfl, hb5⟩; have T5 := hid (T4.out.later hb5); have B5 := hid (B4.out.trans (hb5.mono B4.out.size)); clear hb5)
           | (go_at_call 7; refine ((BC.out w3 B3.out).mono fun e w' hp => text_yes PB.out hp).mono ?_; rintro _ w4 ⟨rfl, hb4⟩; have T4 := hid (T3.out.later hb4); have B4 := hid (B3.out.trans (hb4.mono B3.out.size)); clear hb4)
           | (go_at_call 6; refine ((DC.out w2 B2.out).mono fun e w' hp => text_yes PD.out hp).mono ?_; rintro _ w3 ⟨rfl, hb3⟩; have T3 := hid (T2.out.later hb3); have B3 := hid (B2.out.trans (hb3.mono B2.out.size)); clear hb3)
           | (go_at_call 5; refine (F1.out a1 c1 L1 w1 T1.out).mono ?_; rintro _ w2 ⟨rfl, hb2⟩; have T2 := hid (T1.out.later hb2); have B2 := hid (B1.out.trans (hb2.mono B1.out.size)); clear hb2)
           | (go_at_call 4; refine MC.out.mono ?_; rintro _ w1 ⟨a1, c1, L1, rfl, t1, hb1⟩; have T1 := hid (t1.tre (by have := RT.out.few; omega)); have B1 := hid hb1; clear t1 hb1))
         go_ret
         exact ⟨by first | rfl | simp, B9.out⟩
/-! ### The row and the card of TreeFinds -/
theorem treeFinds_own : ownKnob Tryz.prog.godebug = none := by kernel_rfl
theorem treeFinds_laidOut : laidOutB Tryz.prog = true := by kernel_rfl
def treeFinds_first : Array Value := (Go.Pinned.utf8FirstZ.map fun (n : Nat) => Value.int .u8 (n : Int)).toArray
def treeFinds_ranges : Array Value := ([128, 191, 160, 191, 128, 159, 144, 191, 128, 143, 0, 0, 0, 0, 0, 0, 0, 0, 0, 0, 0, 0, 0, 0, 0, 0, 0, 0, 0, 0, 0, 0].map fun (n : Nat) => Value.int .u8 (n : Int)).toArray
theorem treeFinds_max {W : World} (h : W.ShapedOpen Tryz.prog) : ∃ m, W.cell? ⟨0, 0, none⟩ = some (.int .i64 m) :=
 cell_of_shapedOpen_int (t := 3) (zero := #[.int .i64 0]) h (by decide +kernel) (by kernel_rfl) rfl (by kernel_rfl) (by kernel_rfl) Tryz.underlying3
theorem treeFinds_contract (H : Type) (enc : TypeId × Value → H) (W : World) (base : Nat) (args : Array Value) (ds gs : List (DataW H)) (before : List MemPlace)
   (hval : ∀ (j : Nat) t v, Tryz.f3.params[j]? = some t → args[j]? = some v → Value.okWide Tryz.prog W .any base t v)
   (hW : DataW.Whole enc Tryz.prog Tryz.f3.params.toList Rows.treeFindsSpec.vars false W args.toList ds gs before) (hsh : W.ShapedOpen Tryz.prog) :
   Calls Tryz.prog 3 args W fun e W' => ∃ v, e = .returned v ∧ Rows.treeFindsSpec.post enc Tryz.prog Tryz.f3 false true false false W args v W' := by
 obtain ⟨mx, hmx⟩ := treeFinds_max hsh
 have hW' := hW
 obtain ⟨p, q, hA0, hV, rfl, hfz, hnd⟩ := hW
 have hA : DataW.TrodAll enc Tryz.prog W 0 (fun _ => true) true Tryz.f3.params.toList args.toList ds p := hA0
 rw [Tryz.params3] at hA hval
 obtain ⟨v0, vs0, d0, ds0, p0, q0, hargs, rfl, rfl, h0, r0⟩ := trodAll_cons hA
 obtain ⟨v1, vs1, d1, ds1, p1, q1, rfl, rfl, rfl, h1, r1⟩ := trodAll_cons r0
 obtain ⟨rfl, rfl, rfl⟩ := trodAll_nil r1
 obtain rfl : args = #[v0, v1] := by cases args; simp_all
 obtain ⟨rfl, rfl⟩ := trodVars_none hV
 have k0 := h0
 have lt0 : ∀ x ∈ p0, x.block < W.heap.size := by obtain ⟨m, hm⟩ := k0; exact DataW.trod_lt m _ _ _ hm
 obtain ⟨a0, len0, cap0, rfl⟩ := okWide_slice Tryz.underlying22 (hval 0 22 v0 rfl rfl)
 obtain ⟨z0, lz0, w0, lc0⟩ := isOs_of Tryz.underlying22 h0
 obtain ⟨a1, rfl, rfl, rfl, w1⟩ := open_string Tryz.underlying9 (hval 1 9 v1 rfl rfl) h1
 clear hA0
 refine (treeFinds_walk a0 len0 cap0 z0 lz0 lc0 a1 w1 W mx hmx w0).mono fun e W' ⟨he, bel⟩ => ?_
 subst he
 exact ⟨_, rfl, _, _, _, [], _, [], hW', trodAll_mk1 (shut_bool Tryz.underlying4 _), (trodAll_cons_mk (Below.trod treeFinds_laidOut (by kernel_rfl) (of_decide_eq_true (by kernel_rfl)) k0 bel lt0) (trodAll_cons_mk (shut_string Tryz.underlying9 w1) trodAll_mk0)), rfl, bel.frame _, fun h => by cases h⟩
set_option maxRecDepth 100000 in
theorem treeFinds_wit (os : Os) (H : Type) (enc : TypeId × Value → H) : ∃ (w : World) (tape : Tape) (i : Input), w.os = os ∧ (w.forCall tape i).Shaped Tryz.checked.prog ∧ i.vars = [] ∧ Input.okWide Tryz.checked.prog (w.forCall tape i) .any w.heap.size 3 i ∧
     (OpenSpec.ofChange Rows.treeFindsSpec).preRow enc Tryz.checked.prog Tryz.f3 Rows.treeFindsRow.domain false Rows.treeFindsRow.laid (w.forCall tape i).memory i.args ∧ ({ modest := false } : Assume).holds Tryz.checked.prog (lone (Frame.enter Tryz.checked.prog 3 i.args .normal) [] (w.forCall tape i)) :=
 witness_row_at (enc := enc) (C := Tryz.checked) false ({ World.holding Tryz.prog os ⟨#[], #[], []⟩ with heap := ((World.holding Tryz.prog os ⟨#[], #[], []⟩).heap.modify 1 fun | .cells _ t fz => .cells treeFinds_first t fz | o => o).modify 2 fun | .cells _ t fz => .cells treeFinds_ranges t fz | o => o }) #[.slice none 0 0, .string ByteArray.empty] rfl (by kernel_rfl) (by kernel_rfl) (by kernel_rfl)
   (OpenSpec.preRow_of_cond (x := ([.nil, .lit (.string [])], [], [])) 8 (by kernel_rfl) (by kernel_rfl) (fun k hk => by cases hk) (by kernel_rfl) (laidMet_of_run' 8 (by kernel_rfl) (by kernel_rfl)))
set_option maxRecDepth 100000 in
theorem treeFinds_lifted (os : Os) (started : os.Started) (H : Type) (enc : TypeId × Value → H) (F : Stop.Interp) :
   ReturnsInHanded {} Tryz.checked os 3 .any ((OpenSpec.ofChange Rows.treeFindsSpec).preRow enc Tryz.prog Tryz.f3 Rows.treeFindsRow.domain false Rows.treeFindsRow.laid) (((OpenSpec.ofChange Rows.treeFindsSpec).at F).post enc Tryz.prog Tryz.f3 false true false false) := by
 refine returnsInHanded_of_row (C := Tryz.checked) (s := OpenSpec.ofChange Rows.treeFindsSpec) treeFinds_own started (by kernel_rfl) Tryz.func3 (treeFinds_wit os H enc) ?_
 intro W base args ds gs before hval hW _ _ _ hL hsh _
 exact treeFinds_contract H enc W base args ds gs before hval hW hsh
theorem treeFinds_said : Rows.TreeFindsSaid :=
 OpenClaim.holds_of_cond 3 Tryz.f3 rfl rfl rfl rfl rfl rfl rfl ⟨rfl, rfl, rfl, rfl, rfl⟩ rfl rfl rfl rfl rfl (by kernel_rfl) Tryz.func3 (by kernel_rfl)
   (of_decide_eq_true (by kernel_rfl)) (by unfold Func.isWrapper; first | (rw [if_pos (by decide +kernel)]; kernel_rfl) | (rw [if_neg (by decide +kernel)]; exact ⟨rfl, rfl⟩))
   (fun os started H enc _ F => by rw [OpenClaim.pre_eq_preRow]; exact treeFinds_lifted os started H enc F)
theorem treeFinds_plain (g : FuncId) (fn : Func) (hf : Tryz.pinned.checked.prog.funcNamed Rows.treeFindsRow.func = some g) (hfn : Tryz.pinned.checked.prog.funcs[g]? = some fn) :
   true = Tryz.pinned.checked.prog.looks [] ∧ ∀ (j : Nat) t, fn.params[j]? = some t → Tryz.pinned.checked.prog.wantsStandIn t = false := by
 obtain rfl : g = 3 := Option.some.inj ((show Tryz.prog.funcNamed Rows.treeFindsRow.func = some 3 by kernel_rfl).symm.trans hf) |>.symm
 obtain rfl : fn = Tryz.f3 := (Option.some.inj (Tryz.func3.symm.trans hfn)).symm
 refine ⟨by kernel_rfl, fun j t ht => ?_⟩
 rw [Tryz.params3] at ht
 have hm := Array.mem_of_getElem? ht
 simp at hm
 rcases hm with rfl | rfl
 · exact (show Tryz.prog.wantsStandIn 22 = false by kernel_rfl)
 · exact (show Tryz.prog.wantsStandIn 9 = false by kernel_rfl)
theorem treeFinds_holds : Rows.TreeFindsCardSaid :=
 Claim7.holds_tied_plain_at .later [] _ _ _ _ treeFinds_said (fun _ h => by cases h) (by kernel_rfl) (fun _ h => by cases h) treeFinds_row_tie rfl ⟨rfl, rfl⟩ (by kernel_rfl) rfl treeFinds_plain (by kernel_rfl)
#print axioms treeFinds_holds
end Go.Proofs.YtgbdplammniidaaGreatDoor
