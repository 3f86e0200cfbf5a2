/-
  For every operations: the paths of the tree that they make are as many as its entries, and each leads to what is there.
-/
import Derived.Test.YtkokjkaclcjnjaaGreatDoorPtBw
import Derived.Test.YtkokjkaclcjnjaaGreatDoorPtBx
import Derived.Test.YtkokjkaclcjnjaaGreatDoorPtBy
import Derived.Test.YtkokjkaclcjnjaaGreatDoorCards
import Derived.Test.YtkokjkaclcjnjaaGreatDoorTie
import Derived.ChangeOld
import Derived.Below
import Derived.Deep.DeepHandedRow
import Derived.Lib.LaidTab
import Derived.Shelf.Vars
namespace Go.Proofs.YtkokjkaclcjnjaaGreatDoor
open Go.RowKit Go.ChangeShapes Go.WideShapes Go.ChangeAt Go.Maps Go.Shelf
open Go.ChangeMaps (open_string shut_string)
set_option linter.unusedVariables false
set_option linter.unusedSimpArgs false
set_option maxRecDepth 20000
set_option maxHeartbeats 8000000 in
theorem tellPaths_walk (a0 : Option Addr) (len0 cap0 : Nat) (ops : List Rec) (lz0 : ops.length = len0) (lc0 : len0 ≤ cap0) (w : World) (mx : Int) (hmx : w.cell? ⟨0, 0, none⟩ = some (.int .i64 mx)) (h0 : IsOs w a0 ops) :
   Calls Tryz.prog 3 #[.slice a0 len0 cap0] w fun e w' => e = .returned (.bool true) ∧ Below w.heap.size w w' := by
 have hg : Tryz.lays146_ren.g 1 = 0 := by kernel_rfl
 have HMX : Hid (w.cell? ⟨Tryz.lays146_ren.g 1, 0, none⟩ = some (.int .i64 mx)) := hid (by rw [hg]; exact hmx)
 have NC := hid (fun W => rNew_c W)
 have LC := hid (fun W => tlive_c W)
 have HO := hid h0
 by_cases q : 40 < len0
 · have qI : (40 : Int) < (len0 : Int) := by omega
   have qc : (40 : Int) ≤ (cap0 : Int) := by omega
   have FC : Hid (∀ (b : Option Addr) (c : Nat) (W : World), Below w.heap.size w W → Tr W b newL → Calls Tryz.prog 4 #[.slice b 1 c, .slice a0 40 cap0] W (FoR W)) := hid (fun b c W hW ht => tpFold_c c cap0 ht ((HO.out.later hW).take 40) (by rw [List.length_take]; omega) (by omega))
   clear h0 hmx hg lz0 HO
   go_enter Tryz.func3, Tryz.ntmps3
   go_upto_region 5 with (first
     | (go_at_call 6; refine PC.out.mono ?_; rintro _ w3 ⟨v3, rfl, hO3, hb3⟩; obtain ⟨a3, c3, rfl⟩ := hO3.shape; have O3 := hid hO3; have B3 := hid (B2.out.trans (hb3.mono B2.out.size)); have T3 := hid (T2.out.later hb3); clear hO3 hb3)
     | (go_at_call 4; refine (FC.out _ _ _ B1.out T1.out).mono ?_; rintro _ w2 ⟨a2, c2, L, b2, k2, d2, rfl, t2, R2, hb2⟩; have R := hid R2; have T2 := hid t2; have B2 := hid (B1.out.trans (hb2.mono B1.out.size)); have PC := hid (ppaths_c c2 t2 R2); clear t2 R2 hb2)
     | (go_at_call 5; refine (NC.out _).mono ?_; rintro _ w1 ⟨a1, c1, rfl, t1, hb1⟩; have T1 := hid t1; have B1 := hid hb1; clear t1 hb1))
   have h40 := R.out.few
   have HN := hid (entN_few R.out)
   have HK := hid (lnkN_few L)
   have HA := hid (entN_all R.out ⟨#[]⟩)
   have FQ : Hid (∀ s, s ∈ belF L (L.length + 1) 1 ⟨#[]⟩ → ∀ W, Below w3.heap.size w3 W → Calls Tryz.prog 7 #[.slice a2 L.length c2, .string s] W (FdQ L s W)) := hid (fun s hs W hW => find_q R.out (T3.out.later hW).1 (cell_later (B3.out.trans (hW.mono B3.out.size)) HMX.out) hs)
   have GQ : Hid (∀ (f : Int) W, Below w3.heap.size w3 W → Calls Tryz.prog 8 #[.slice a2 L.length c2, .int .u32 f] W fun e w' => e = .returned (gotV (getF L f)) ∧ Below W.heap.size W w') := hid (fun f W hW => get2_c a2 c2 L f W (T3.out.later hW).1 (by omega))
   have HL : Hid (∀ i, i < L.length → (L.getD i Nd.no).ks.length ≤ 12) := hid (fun i hi => nodeOk_few (R.out.ok _ (getD_mem L Nd.no hi)).1)
   have HP : (belF L (L.length + 1) 1 ⟨#[]⟩).length ≤ 1000 := by
     have := HN.out L.length
     rw [HA.out]; omega
   generalize belF L (L.length + 1) 1 ⟨#[]⟩ = P at *
   clear R PC T1 T2 B1 B2 HMX
   go_wp2
   go_loopg [6, 7, 8] L.length (fun gk v6 v7 v8 wr => ∃ i : Nat, i + gk = L.length ∧ v8 = .int .i64 i ∧ v6 = .int .i64 (entN L i) ∧ v7 = .int .i64 (lnkN L i) ∧ Hid (Below w3.heap.size w3 wr))
   case atStart => exact ⟨0, by omega, rfl, rfl, rfl, hid (Below.refl _ _)⟩
   case round =>
     obtain ⟨i, hi, rfl, rfl, rfl, BX⟩ := hrel
     have hE := HN.out i
     have hK := HK.out i
     by_cases hlt : i < L.length
     · have hltI : (i : Int) < L.length := by omega
       obtain ⟨b', off, hka, _⟩ := T3.out.1.2.2 (by omega)
       subst hka
       obtain ⟨c0, n1, n2, n3, n4, n5⟩ := ((T3.out.1.later BX.out).at hlt).all
       have ES := hid (entN_succ hlt)
       have LS := hid (lnkN_succ hlt)
       have hks := HL.out i hlt
       generalize L.getD i Nd.no = x at *
       obtain ⟨xf, xk, xm, xl, xda, xdc, xzs, xka, xkc, xks⟩ := x
       simp only at c0 n1 n2 n3 n4 n5 ES LS hks
       clear n2 n3 n4 c0
       obtain ⟨E2, hE2⟩ : ∃ E2, E2 = entN L (i + 1) := ⟨_, rfl⟩
       obtain ⟨K2, hK2⟩ : ∃ K2, K2 = lnkN L (i + 1) := ⟨_, rfl⟩
       have HE2 := hid hE2
       have HK2 := hid hK2
       rw [ES.out] at hE2
       rw [LS.out] at hK2
       clear ES LS
       generalize entN L i = E1 at *
       generalize lnkN L i = K1 at *
       by_cases q3 : xk = 3
       · subst q3
         rw [if_pos rfl] at hK2
         have wE : IntKind.i64.wrap ((E1 : Int) + (xks.length : Int)) = (E2 : Int) := by rw [IntKind.wrap_i64]; omega
         have wK : IntKind.i64.wrap ((K1 : Int) + 1) = (K2 : Int) := by rw [IntKind.wrap_i64]; omega
         go_wp2
         go_roundg (gk - 1)
         case measure => omega
         case rel => exact ⟨i + 1, by omega, by go_num, by rw [← HE2.out, hE2]; go_num, by rw [← HK2.out, hK2]; go_num, BX⟩
       · have q3B : (xk == 3) = false := beq_eq_false_iff_ne.2 q3
         rw [if_neg q3] at hK2
         go_wp2
         go_roundg (gk - 1)
         case measure => omega
         case rel => exact ⟨i + 1, by omega, by go_num, by rw [← HE2.out, hE2]; go_num, by rw [← HK2.out, hK2]; rfl, BX⟩
     · obtain rfl : i = L.length := by omega
       have hge : ¬ ((L.length : Nat) : Int) < L.length := by omega
       rw [← HA.out]
       have FQ2 : Hid (∀ s, s ∈ P → ∀ W, Below w3.heap.size w3 W → Calls Tryz.prog 7 #[.slice a2 L.length c2, .string s] W fun e w' => (∃ f er : Int, e = .returned (.tuple #[.int .u32 f, .int .i64 er]) ∧ (lnkN L L.length = 0 → s.size ≤ 120 → er = 0 ∧ ∃ y, getF L f = some y ∧ y.fid ≠ 1)) ∧ Below W.heap.size W w') := hid (fun s hs W hW => FQ.out s hs W hW)
       clear HN HK HA HL FQ hE
       generalize lnkN L L.length = K at *
       go_wp2
       go_loopg [9] P.length (fun gk v9 wy => ∃ j : Nat, j + gk = P.length ∧ v9 = .int .i64 j ∧ Hid (Below w3.heap.size w3 wy))
       case atStart => exact ⟨0, by omega, rfl, BX⟩
       case round =>
         clear BX
         obtain ⟨j, hj, rfl, BY⟩ := hrel
         by_cases hlj : j < P.length
         · have hljI : (j : Int) < P.length := by omega
           obtain ⟨g1, e1, l1, _, d1⟩ := O3.out.cells (by omega)
           subst e1
           have hx : P[j]? = some (P.getD j ⟨#[]⟩) := by rw [List.getD, List.getElem?_eq_getElem hlj]; rfl
           have k1 := cell_later BY.out (d1 j _ hx)
           rw [Nat.zero_add] at k1
           have FJ := hid (FQ2.out _ (getD_mem P ⟨#[]⟩ hlj) wr BY.out)
           clear hx d1
           generalize P.getD j ⟨#[]⟩ = s at *
           by_cases qs : 120 < s.size
           · have qsI : (120 : Int) < (s.size : Int) := by omega
             go_wp2_with (go_at_call 7; refine FJ.out.mono ?_; rintro _ w5 ⟨⟨f, er, rfl, hq⟩, hb5⟩; have k5 := cell_later hb5 k1; have B5 := hid (BY.out.trans (hb5.mono BY.out.size)); clear hb5 hq)
             go_roundg (gk - 1)
             case measure => omega
             case rel => exact ⟨j + 1, by omega, by go_num, B5⟩
           · have qsI : ¬ (120 : Int) < (s.size : Int) := by omega
             by_cases qk : K = 0
             · subst qk
               go_upto_region 17 with (go_at_call 7; refine FJ.out.mono ?_; rintro _ w5 ⟨⟨f, er, rfl, hq⟩, hb5⟩; obtain ⟨hq0, y, hy, hy1⟩ := hq rfl (by omega); subst hq0; have k5 := cell_later hb5 k1; have B5 := hid (BY.out.trans (hb5.mono BY.out.size)); have GC := hid (GQ.out f w5 B5.out); rw [hy] at GC; unfold gotV at GC; clear hb5 hq hy)
               obtain ⟨yf, yk, ym, yl, yda, ydc, yzs, yka, ykc, ks⟩ := y
               simp only [Nd.val, Option.getD_some, Option.isSome_some] at GC
               have hyB : (yf == 1) = false := beq_eq_false_iff_ne.2 hy1
               go_upto_region 18 with (go_at_call 8; refine GC.out.mono ?_; rintro _ w6 ⟨rfl, hb6⟩; have B6 := hid (B5.out.trans (hb6.mono B5.out.size)); clear hb6)
               have bV := below_1 w6 (.cells #[.int .u32 yf, .int .u8 yk, .int .u16 ym, .int .u16 yl, .slice yda yzs.length ydc, .slice yka ks.length ykc] 37)
               have gh := heap_alloc_new w6 (.cells #[.int .u32 yf, .int .u8 yk, .int .u16 ym, .int .u16 yl, .slice yda yzs.length ydc, .slice yka ks.length ykc] 37)
               have B7 := hid (B6.out.trans (bV.mono B6.out.size))
               generalize w6.alloc (.cells #[.int .u32 yf, .int .u8 yk, .int .u16 ym, .int .u16 yl, .slice yda yzs.length ydc, .slice yka ks.length ykc] 37) = V at *
               generalize w6.heap.size = G at *
               have g0 : V.cell? ⟨G, 0, none⟩ = some (.int .u32 yf) := cell_of_row2 gh 0 rfl
               clear gh bV B6 B5
               go_wp2
               go_roundg (gk - 1)
               case measure => omega
               case rel => exact ⟨j + 1, by omega, by go_num, B7⟩
             · have qkI : (0 : Int) < (K : Int) := by omega
               go_wp2_with (go_at_call 7; refine FJ.out.mono ?_; rintro _ w5 ⟨⟨f, er, rfl, hq⟩, hb5⟩; have k5 := cell_later hb5 k1; have B5 := hid (BY.out.trans (hb5.mono BY.out.size)); clear hb5 hq)
               go_roundg (gk - 1)
               case measure => omega
               case rel => exact ⟨j + 1, by omega, by go_num, B5⟩
         · have hgj : ¬ (j : Int) < P.length := by omega
           go_wp2_with (go_at_call 9; refine (LC.out _).mono ?_; rintro _ w9 ⟨rfl, hb9⟩; have B9 := hid (B3.out.trans ((BY.out.trans (hb9.mono BY.out.size)).mono B3.out.size)); clear hb9)
           go_ret
           exact ⟨by first | rfl | simp, B9.out⟩
 · have qI : ¬ (40 : Int) < (len0 : Int) := by omega
   have FC : Hid (∀ (b : Option Addr) (c : Nat) (W : World), Below w.heap.size w W → Tr W b newL → Calls Tryz.prog 4 #[.slice b 1 c, .slice a0 len0 cap0] W (FoR W)) := hid (fun b c W hW ht => tpFold_c c cap0 ht (HO.out.later hW) lz0 (by omega))
   clear h0 hmx hg lz0 HO
   go_enter Tryz.func3, Tryz.ntmps3
   go_upto_region 5 with (first
     | (go_at_call 6; refine PC.out.mono ?_; rintro _ w3 ⟨v3, rfl, hO3, hb3⟩; obtain ⟨a3, c3, rfl⟩ := hO3.shape; have O3 := hid hO3; have B3 := hid (B2.out.trans (hb3.mono B2.out.size)); have T3 := hid (T2.out.later hb3); clear hO3 hb3)
     | (go_at_call 4; refine (FC.out _ _ _ B1.out T1.out).mono ?_; rintro _ w2 ⟨a2, c2, L, b2, k2, d2, rfl, t2, R2, hb2⟩; have R := hid R2; have T2 := hid t2; have B2 := hid (B1.out.trans (hb2.mono B1.out.size)); have PC := hid (ppaths_c c2 t2 R2); clear t2 R2 hb2)
     | (go_at_call 5; refine (NC.out _).mono ?_; rintro _ w1 ⟨a1, c1, rfl, t1, hb1⟩; have T1 := hid t1; have B1 := hid hb1; clear t1 hb1))
   have h40 := R.out.few
   have HN := hid (entN_few R.out)
   have HK := hid (lnkN_few L)
   have HA := hid (entN_all R.out ⟨#[]⟩)
   have FQ : Hid (∀ s, s ∈ belF L (L.length + 1) 1 ⟨#[]⟩ → ∀ W, Below w3.heap.size w3 W → Calls Tryz.prog 7 #[.slice a2 L.length c2, .string s] W (FdQ L s W)) := hid (fun s hs W hW => find_q R.out (T3.out.later hW).1 (cell_later (B3.out.trans (hW.mono B3.out.size)) HMX.out) hs)
   have GQ : Hid (∀ (f : Int) W, Below w3.heap.size w3 W → Calls Tryz.prog 8 #[.slice a2 L.length c2, .int .u32 f] W fun e w' => e = .returned (gotV (getF L f)) ∧ Below W.heap.size W w') := hid (fun f W hW => get2_c a2 c2 L f W (T3.out.later hW).1 (by omega))
   have HL : Hid (∀ i, i < L.length → (L.getD i Nd.no).ks.length ≤ 12) := hid (fun i hi => nodeOk_few (R.out.ok _ (getD_mem L Nd.no hi)).1)
   have HP : (belF L (L.length + 1) 1 ⟨#[]⟩).length ≤ 1000 := by
     have := HN.out L.length
     rw [HA.out]; omega
   generalize belF L (L.length + 1) 1 ⟨#[]⟩ = P at *
   clear R PC T1 T2 B1 B2 HMX
   go_wp2
   go_loopg [6, 7, 8] L.length (fun gk v6 v7 v8 wr => ∃ i : Nat, i + gk = L.length ∧ v8 = .int .i64 i ∧ v6 = .int .i64 (entN L i) ∧ v7 = .int .i64 (lnkN L i) ∧ Hid (Below w3.heap.size w3 wr))
   case atStart => exact ⟨0, by omega, rfl, rfl, rfl, hid (Below.refl _ _)⟩
   case round =>
     obtain ⟨i, hi, rfl, rfl, rfl, BX⟩ := hrel
     have hE := HN.out i
     have hK := HK.out i
     by_cases hlt : i < L.length
     · have hltI : (i : Int) < L.length := by omega
       obtain ⟨b', off, hka, _⟩ := T3.out.1.2.2 (by omega)
       subst hka
       obtain ⟨c0, n1, n2, n3, n4, n5⟩ := ((T3.out.1.later BX.out).at hlt).all
       have ES := hid (entN_succ hlt)
       have LS := hid (lnkN_succ hlt)
       have hks := HL.out i hlt
       generalize L.getD i Nd.no = x at *
       obtain ⟨xf, xk, xm, xl, xda, xdc, xzs, xka, xkc, xks⟩ := x
       simp only at c0 n1 n2 n3 n4 n5 ES LS hks
       clear n2 n3 n4 c0
       obtain ⟨E2, hE2⟩ : ∃ E2, E2 = entN L (i + 1) := ⟨_, rfl⟩
       obtain ⟨K2, hK2⟩ : ∃ K2, K2 = lnkN L (i + 1) := ⟨_, rfl⟩
       have HE2 := hid hE2
       have HK2 := hid hK2
       rw [ES.out] at hE2
       rw [LS.out] at hK2
       clear ES LS
       generalize entN L i = E1 at *
       generalize lnkN L i = K1 at *
       by_cases q3 : xk = 3
       · subst q3
         rw [if_pos rfl] at hK2
         have wE : IntKind.i64.wrap ((E1 : Int) + (xks.length : Int)) = (E2 : Int) := by rw [IntKind.wrap_i64]; omega
         have wK : IntKind.i64.wrap ((K1 : Int) + 1) = (K2 : Int) := by rw [IntKind.wrap_i64]; omega
         go_wp2
         go_roundg (gk - 1)
         case measure => omega
         case rel => exact ⟨i + 1, by omega, by go_num, by rw [← HE2.out, hE2]; go_num, by rw [← HK2.out, hK2]; go_num, BX⟩
       · have q3B : (xk == 3) = false := beq_eq_false_iff_ne.2 q3
         rw [if_neg q3] at hK2
         go_wp2
         go_roundg (gk - 1)
         case measure => omega
         case rel => exact ⟨i + 1, by omega, by go_num, by rw [← HE2.out, hE2]; go_num, by rw [← HK2.out, hK2]; rfl, BX⟩
     · obtain rfl : i = L.length := by omega
       have hge : ¬ ((L.length : Nat) : Int) < L.length := by omega
       rw [← HA.out]
       have FQ2 : Hid (∀ s, s ∈ P → ∀ W, Below w3.heap.size w3 W → Calls Tryz.prog 7 #[.slice a2 L.length c2, .string s] W fun e w' => (∃ f er : Int, e = .returned (.tuple #[.int .u32 f, .int .i64 er]) ∧ (lnkN L L.length = 0 → s.size ≤ 120 → er = 0 ∧ ∃ y, getF L f = some y ∧ y.fid ≠ 1)) ∧ Below W.heap.size W w') := hid (fun s hs W hW => FQ.out s hs W hW)
       clear HN HK HA HL FQ hE
       generalize lnkN L L.length = K at *
       go_wp2
       go_loopg [9] P.length (fun gk v9 wy => ∃ j : Nat, j + gk = P.length ∧ v9 = .int .i64 j ∧ Hid (Below w3.heap.size w3 wy))
       case atStart => exact ⟨0, by omega, rfl, BX⟩
       case round =>
         clear BX
         obtain ⟨j, hj, rfl, BY⟩ := hrel
         by_cases hlj : j < P.length
         · have hljI : (j : Int) < P.length := by omega
           obtain ⟨g1, e1, l1, _, d1⟩ := O3.out.cells (by omega)
           subst e1
           have hx : P[j]? = some (P.getD j ⟨#[]⟩) := by rw [List.getD, List.getElem?_eq_getElem hlj]; rfl
           have k1 := cell_later BY.out (d1 j _ hx)
           rw [Nat.zero_add] at k1
           have FJ := hid (FQ2.out _ (getD_mem P ⟨#[]⟩ hlj) wr BY.out)
           clear hx d1
           generalize P.getD j ⟨#[]⟩ = s at *
           by_cases qs : 120 < s.size
           · have qsI : (120 : Int) < (s.size : Int) := by omega
             go_wp2_with (go_at_call 7; refine FJ.out.mono ?_; rintro _ w5 ⟨⟨f, er, rfl, hq⟩, hb5⟩; have k5 := cell_later hb5 k1; have B5 := hid (BY.out.trans (hb5.mono BY.out.size)); clear hb5 hq)
             go_roundg (gk - 1)
             case measure => omega
             case rel => exact ⟨j + 1, by omega, by go_num, B5⟩
           · have qsI : ¬ (120 : Int) < (s.size : Int) := by omega
             by_cases qk : K = 0
             · subst qk
               go_upto_region 17 with (go_at_call 7; refine FJ.out.mono ?_; rintro _ w5 ⟨⟨f, er, rfl, hq⟩, hb5⟩; obtain ⟨hq0, y, hy, hy1⟩ := hq rfl (by omega); subst hq0; have k5 := cell_later hb5 k1; have B5 := hid (BY.out.trans (hb5.mono BY.out.size)); have GC := hid (GQ.out f w5 B5.out); rw [hy] at GC; unfold gotV at GC; clear hb5 hq hy)
               obtain ⟨yf, yk, ym, yl, yda, ydc, yzs, yka, ykc, ks⟩ := y
               simp only [Nd.val, Option.getD_some, Option.isSome_some] at GC
               have hyB : (yf == 1) = false := beq_eq_false_iff_ne.2 hy1
               go_upto_region 18 with (go_at_call 8; refine GC.out.mono ?_; rintro _ w6 ⟨rfl, hb6⟩; have B6 := hid (B5.out.trans (hb6.mono B5.out.size)); clear hb6)
               have bV := below_1 w6 (.cells #[.int .u32 yf, .int .u8 yk, .int .u16 ym, .int .u16 yl, .slice yda yzs.length ydc, .slice yka ks.length ykc] 37)
               have gh := heap_alloc_new w6 (.cells #[.int .u32 yf, .int .u8 yk, .int .u16 ym, .int .u16 yl, .slice yda yzs.length ydc, .slice yka ks.length ykc] 37)
               have B7 := hid (B6.out.trans (bV.mono B6.out.size))
               generalize w6.alloc (.cells #[.int .u32 yf, .int .u8 yk, .int .u16 ym, .int .u16 yl, .slice yda yzs.length ydc, .slice yka ks.length ykc] 37) = V at *
               generalize w6.heap.size = G at *
               have g0 : V.cell? ⟨G, 0, none⟩ = some (.int .u32 yf) := cell_of_row2 gh 0 rfl
               clear gh bV B6 B5
               go_wp2
               go_roundg (gk - 1)
               case measure => omega
               case rel => exact ⟨j + 1, by omega, by go_num, B7⟩
             · have qkI : (0 : Int) < (K : Int) := by omega
               go_wp2_with (go_at_call 7; refine FJ.out.mono ?_; rintro _ w5 ⟨⟨f, er, rfl, hq⟩, hb5⟩; have k5 := cell_later hb5 k1; have B5 := hid (BY.out.trans (hb5.mono BY.out.size)); clear hb5 hq)
               go_roundg (gk - 1)
               case measure => omega
               case rel => exact ⟨j + 1, by omega, by go_num, B5⟩
         · have hgj : ¬ (j : Int) < P.length := by omega
           go_wp2_with (go_at_call 9; refine (LC.out _).mono ?_; rintro _ w9 ⟨rfl, hb9⟩; have B9 := hid (B3.out.trans ((BY.out.trans (hb9.mono BY.out.size)).mono B3.out.size)); clear hb9)
           go_ret
           exact ⟨by first | rfl | simp, B9.out⟩
/-! ### The row and the card of TellPaths -/
theorem tellPaths_own : ownKnob Tryz.prog.godebug = none := by kernel_rfl
theorem tellPaths_laidOut : laidOutB Tryz.prog = true := by kernel_rfl
def tellPaths_tab0 : Array Value := ([0, 1, 28, 2, 29, 14, 24, 3, 30, 22, 20, 15, 25, 17, 4, 8, 31, 27, 13, 23, 21, 19, 16, 7, 26, 12, 18, 6, 11, 5, 10, 9].map fun (n : Nat) => Value.int .u8 (n : Int)).toArray
def tellPaths_tab1 : Array Value := ([0, 1, 56, 2, 57, 49, 28, 3, 61, 58, 42, 50, 38, 29, 17, 4, 62, 47, 59, 36, 45, 43, 51, 22, 53, 39, 33, 30, 24, 18, 12, 5, 63, 55, 48, 27, 60, 41, 37, 16, 46, 35, 44, 21, 52, 32, 23, 11, 54, 26, 40, 15, 34, 20, 31, 10, 25, 14, 19, 9, 13, 8, 7, 6].map fun (n : Nat) => Value.int .u8 (n : Int)).toArray
def tellPaths_tab2 : Array Value := ([1, 10, 100, 1000, 10000, 100000, 1000000, 10000000, 100000000, 1000000000, 10000000000, 100000000000, 1000000000000, 10000000000000, 100000000000000, 1000000000000000, 10000000000000000, 100000000000000000, 1000000000000000000, 10000000000000000000].map fun (n : Nat) => Value.int .u64 (n : Int)).toArray
def tellPaths_tab3 : Array Value := ([128, 191, 160, 191, 128, 159, 144, 191, 128, 143, 0, 0, 0, 0, 0, 0, 0, 0, 0, 0, 0, 0, 0, 0, 0, 0, 0, 0, 0, 0, 0, 0].map fun (n : Nat) => Value.int .u8 (n : Int)).toArray
def tellPaths_tab4 : Array Value := (Go.Pinned.utf8FirstZ.map fun (n : Nat) => Value.int .u8 (n : Int)).toArray
theorem tellPaths_max {W : World} (h : W.ShapedOpen Tryz.prog) : ∃ m, W.cell? ⟨0, 0, none⟩ = some (.int .i64 m) :=
 cell_of_shapedOpen_int (t := 3) (zero := #[.int .i64 0]) h (by decide +kernel) (by kernel_rfl) rfl (by kernel_rfl) (by kernel_rfl) Tryz.underlying3
theorem tellPaths_contract (H : Type) (enc : TypeId × Value → H) (W : World) (base : Nat) (args : Array Value) (ds gs : List (DataW H)) (before : List MemPlace)
   (hval : ∀ (j : Nat) t v, Tryz.f3.params[j]? = some t → args[j]? = some v → Value.okWide Tryz.prog W .any base t v)
   (hW : DataW.Whole enc Tryz.prog Tryz.f3.params.toList Rows.tellPathsSpec.vars false W args.toList ds gs before) (hsh : W.ShapedOpen Tryz.prog) :
   Calls Tryz.prog 3 args W fun e W' => ∃ v, e = .returned v ∧ Rows.tellPathsSpec.post enc Tryz.prog Tryz.f3 false true false false W args v W' := by
 obtain ⟨mx, hmx⟩ := tellPaths_max hsh
 have hW' := hW
 obtain ⟨p, q, hA0, hV, rfl, hfz, hnd⟩ := hW
 have hA : DataW.TrodAll enc Tryz.prog W 0 (fun _ => true) true Tryz.f3.params.toList args.toList ds p := hA0
 rw [Tryz.params3] at hA hval
 obtain ⟨v0, vs0, d0, ds0, p0, q0, hargs, rfl, rfl, h0, r0⟩ := trodAll_cons hA
 obtain ⟨rfl, rfl, rfl⟩ := trodAll_nil r0
 obtain rfl : args = #[v0] := by cases args; simp_all
 obtain ⟨rfl, rfl⟩ := trodVars_none hV
 have k0 := h0
 have lt0 : ∀ x ∈ p0, x.block < W.heap.size := by obtain ⟨m, hm⟩ := k0; exact DataW.trod_lt m _ _ _ hm
 obtain ⟨a0, len0, cap0, rfl⟩ := okWide_slice Tryz.underlying22 (hval 0 22 v0 rfl rfl)
 obtain ⟨z0, lz0, w0, lc0⟩ := isOs_of Tryz.underlying22 h0
 clear hA0
 refine (tellPaths_walk a0 len0 cap0 z0 lz0 lc0 W mx hmx w0).mono fun e W' ⟨he, bel⟩ => ?_
 subst he
 exact ⟨_, rfl, _, _, _, [], _, [], hW', trodAll_mk1 (shut_bool Tryz.underlying4 _), (trodAll_cons_mk (Below.trod tellPaths_laidOut (by kernel_rfl) (of_decide_eq_true (by kernel_rfl)) k0 bel lt0) trodAll_mk0), rfl, bel.frame _, fun h => by cases h⟩
set_option maxRecDepth 100000 in
theorem tellPaths_wit (os : Os) (H : Type) (enc : TypeId × Value → H) : ∃ (w : World) (tape : Tape) (i : Input), w.os = os ∧ (w.forCall tape i).Shaped Tryz.checked.prog ∧ i.vars = [] ∧ Input.okWide Tryz.checked.prog (w.forCall tape i) .any w.heap.size 3 i ∧
     (OpenSpec.ofChange Rows.tellPathsSpec).preRow enc Tryz.checked.prog Tryz.f3 Rows.tellPathsRow.domain false Rows.tellPathsRow.laid (w.forCall tape i).memory i.args ∧ ({ modest := false } : Assume).holds Tryz.checked.prog (lone (Frame.enter Tryz.checked.prog 3 i.args .normal) [] (w.forCall tape i)) :=
 witness_row_at (enc := enc) (C := Tryz.checked) false ({ World.holding Tryz.prog os ⟨#[], #[], []⟩ with heap := ((((((World.holding Tryz.prog os ⟨#[], #[], []⟩).heap.modify 4 fun | .cells _ t fz => .cells tellPaths_tab0 t fz | o => o).modify 5 fun | .cells _ t fz => .cells tellPaths_tab1 t fz | o => o).modify 3 fun | .cells _ t fz => .cells tellPaths_tab2 t fz | o => o).modify 2 fun | .cells _ t fz => .cells tellPaths_tab3 t fz | o => o).modify 1 fun | .cells _ t fz => .cells tellPaths_tab4 t fz | o => o) }) #[.slice none 0 0] rfl (by kernel_rfl) (by kernel_rfl) (by kernel_rfl)
   (OpenSpec.preRow_of_cond (x := ([.nil], [], [])) 8 (by kernel_rfl) (by kernel_rfl) (fun k hk => by cases hk) (by kernel_rfl) (laidMet_of_run' 8 (by kernel_rfl) (by kernel_rfl)))
set_option maxRecDepth 100000 in
theorem tellPaths_lifted (os : Os) (started : os.Started) (H : Type) (enc : TypeId × Value → H) (F : Stop.Interp) :
   ReturnsInHanded {} Tryz.checked os 3 .any ((OpenSpec.ofChange Rows.tellPathsSpec).preRow enc Tryz.prog Tryz.f3 Rows.tellPathsRow.domain false Rows.tellPathsRow.laid) (((OpenSpec.ofChange Rows.tellPathsSpec).at F).post enc Tryz.prog Tryz.f3 false true false false) := by
 refine returnsInHanded_of_row (C := Tryz.checked) (s := OpenSpec.ofChange Rows.tellPathsSpec) tellPaths_own started (by kernel_rfl) Tryz.func3 (tellPaths_wit os H enc) ?_
 intro W base args ds gs before hval hW _ _ _ hL hsh _
 exact tellPaths_contract H enc W base args ds gs before hval hW hsh
theorem tellPaths_said : Rows.TellPathsSaid :=
 OpenClaim.holds_of_cond 3 Tryz.f3 rfl rfl rfl rfl rfl rfl rfl ⟨rfl, rfl, rfl, rfl, rfl⟩ rfl rfl rfl rfl rfl (by kernel_rfl) Tryz.func3 (by kernel_rfl)
   (of_decide_eq_true (by kernel_rfl)) (by unfold Func.isWrapper; first | (rw [if_pos (by decide +kernel)]; kernel_rfl) | (rw [if_neg (by decide +kernel)]; exact ⟨rfl, rfl⟩))
   (fun os started H enc _ F => by rw [OpenClaim.pre_eq_preRow]; exact tellPaths_lifted os started H enc F)
theorem tellPaths_plain (g : FuncId) (fn : Func) (hf : Tryz.pinned.checked.prog.funcNamed Rows.tellPathsRow.func = some g) (hfn : Tryz.pinned.checked.prog.funcs[g]? = some fn) :
   false = Tryz.pinned.checked.prog.looks [] ∧ ∀ (j : Nat) t, fn.params[j]? = some t → Tryz.pinned.checked.prog.wantsStandIn t = false := by
 obtain rfl : g = 3 := Option.some.inj ((show Tryz.prog.funcNamed Rows.tellPathsRow.func = some 3 by kernel_rfl).symm.trans hf) |>.symm
 obtain rfl : fn = Tryz.f3 := (Option.some.inj (Tryz.func3.symm.trans hfn)).symm
 refine ⟨by kernel_rfl, fun j t ht => ?_⟩
 rw [Tryz.params3] at ht
 have hm := Array.mem_of_getElem? ht
 simp at hm
 subst hm
 exact (show Tryz.prog.wantsStandIn 22 = false by kernel_rfl)
theorem tellPaths_holds : Rows.TellPathsCardSaid :=
 Claim7.holds_tied_plain_at .later [] _ _ _ _ tellPaths_said (fun _ h => by cases h) (by kernel_rfl) (fun _ h => by cases h) tellPaths_row_tie rfl ⟨rfl, rfl⟩ (by kernel_rfl) rfl tellPaths_plain (by kernel_rfl)
#print axioms tellPaths_holds
end Go.Proofs.YtkokjkaclcjnjaaGreatDoor
