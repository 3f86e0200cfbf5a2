/-
  The document's Read.
-/
import Derived.Test.YtkokjkaclcjnjaaDoorRdBx
import Derived.Test.YtkokjkaclcjnjaaDoorRdBv
namespace Go.Proofs.YtkokjkaclcjnjaaDoor
open Go.RowKit Go.ChangeShapes Go.WideShapes Go.ChangeAt
set_option linter.unusedVariables false
set_option linter.unusedSimpArgs false
set_option maxRecDepth 100000
theorem rline15_c (s : ByteArray) (w : World) (hs : s.size ≤ 10000000) (hm : MxW w) : Calls Tryd.prog 46 #[.string s] w (LdP (lineD s.data.toList) w) := by
 by_cases q5 : (splN 32 4 s.data.toList).length = 5
 · obtain ⟨a, b, c, d, e, hP⟩ := five q5
   have h := rline15_5 s w hs hm a b c d e hP
   have e1 : lineD s.data.toList = partD a b c d e := by unfold lineD; rw [hP]
   rw [e1]
   exact h
 · exact rline15_n s w hs hm q5
theorem treeL_er15 (L : List Nd) : treeL (L.map Nd.er) = treeL L := by
 unfold treeL
 rw [List.flatMap_map]
 rfl
theorem ba_eq15 (l : List UInt8) (s : ByteArray) : ((⟨l.toArray⟩ : ByteArray).toList == s.toList) = decide (l = s.data.toList) := by
 rw [Lib.toList_data, Lib.toList_data, Bool.eq_iff_iff, decide_eq_true_iff, beq_iff_eq]
set_option maxHeartbeats 8000000 in
theorem rread_c (s : ByteArray) (w : World) (hs : s.size ≤ 10000000) (hm : MxW w) (ht : TabW w) :
   Calls Tryd.prog 23 #[.string s] w (ReP (treeP s.data.toList) w) := by
 rw [← treeD_is]
 have SPC := hid (split_c 10 s w (by omega) hm)
 obtain ⟨T, hT⟩ : ∃ T, T = treeD s.data.toList := ⟨_, rfl⟩
 have HT : Hid (T = if 41 < (splN 10 s.size s.data.toList).length then none
   else if rightD ((splN 10 s.size s.data.toList).dropLast.map lineD) = true ∧ treeL ((splN 10 s.size s.data.toList).dropLast.map lineD) = s.data.toList then some ((splN 10 s.size s.data.toList).dropLast.map lineD) else none) := hid hT
 rw [← hT]
 have hne : (splN 10 s.size s.data.toList) ≠ [] := spl_ne _ _ _
 have hPx : ∀ x ∈ splN 10 s.size s.data.toList, x.length ≤ s.size := fun x hx => by have := join_mem (c := 10) hx; rw [join_spl] at this; exact this
 generalize splN 10 s.size s.data.toList = P at *
 have hpos : 0 < P.length := List.length_pos_iff.2 hne
 have HM := hid hm
 have HTW := hid ht
 clear hT hne hm ht
 by_cases q41 : 41 < P.length
 · have qI : (41 : Int) < P.length := by omega
   have NT : Hid (T = none) := hid (by rw [HT.out, if_pos q41])
   clear HT q41
   generalize P.length = n at *
   go_enter Tryd.func23, Tryd.ntmps23
   go_wp2_with (go_at_call 45; refine SPC.out.mono ?_; rintro _ w1 ⟨rfl, _, hb1⟩; have B1 := hid hb1; clear hb1)
   refine bodyPost_ret (v := .tuple #[.slice none 0 0, .int .i64 3]) (by simp [results, Tryd.results23, go_sem]) rfl (ReP.no NT.out B1.out)
 · have qI : ¬ (41 : Int) < P.length := by omega
   have HT2 : Hid (T = if rightD (P.dropLast.map lineD) = true ∧ treeL (P.dropLast.map lineD) = s.data.toList then some (P.dropLast.map lineD) else none) := hid (by rw [HT.out, if_neg q41])
   obtain ⟨p, hp⟩ : ∃ p, P.length = p + 1 := ⟨P.length - 1, by omega⟩
   have hp40 : p ≤ 40 := by omega
   have HPX := hid hPx
   have HPL := hid hp
   have TL : Hid (P.take p = P.dropLast) := hid (by rw [List.dropLast_eq_take, hp]; rfl)
   rw [hp] at SPC qI
   have w0 : IntKind.i64.wrap (((p + 1 : Nat) : Int) - 1) = (p : Int) := by rw [IntKind.wrap_i64]; omega
   generalize hP1 : p + 1 = p1 at *
   have HP1 := hid hP1
   clear hP1
   clear HT q41 hPx hpos hp
   go_enter Tryd.func23, Tryd.ntmps23
   go_upto_region 6 with (go_at_call 45; refine SPC.out.mono ?_; rintro _ W1 ⟨rfl, hp1, hb1⟩; have B1 := hid hb1; have P1 := hid hp1; clear hb1 hp1)
   go_wp2
   go_loopg [4, 6] p (fun gk v4 v6 wr => ∃ (i : Nat) (K : List Nd), i + gk = p ∧ v6 = .int .i64 i ∧ Hid (K.length = i) ∧ Hid (OwN wr W1.heap.size v4 K) ∧ Hid (∀ x ∈ K, NdB wr W1.heap.size x) ∧ Hid (K.map Nd.er = (P.take i).map lineD) ∧ Hid (Below W1.heap.size W1 wr))
   case atStart => exact ⟨0, [], by omega, rfl, hid rfl, hid (OwN.nil _ _), hid (fun x hx => by cases hx), hid rfl, hid (Below.refl _ _)⟩
   case round =>
     obtain ⟨i, K, hi, rfl, HKL, HO, HN, HE, HB⟩ := hrel
     obtain ⟨va, vc, rfl⟩ := HO.out.shape
     by_cases hlt : i < p
     · have hltI : (i : Int) < p := by omega
       have hiP : i < P.length := by have := HPL.out; have := HP1.out; omega
       have hgx : P[i]? = some (P.getD i []) := by rw [List.getD, List.getElem?_eq_getElem hiP]; rfl
       have hmem : P.getD i [] ∈ P := by rw [List.getD, List.getElem?_eq_getElem hiP]; exact List.getElem_mem hiP
       have pI := cell_later HB.out (P1.out.2 i _ hgx)
       have hi1 : (i : Int) < p1 := by have := HP1.out; omega
       have TK : Hid ((P.take (i + 1)).map lineD = (P.take i).map lineD ++ [lineD (P.getD i [])]) := hid (by rw [List.take_succ_eq_append_getElem hiP, List.map_append, List.getD, List.getElem?_eq_getElem hiP]; rfl)
       have LC := hid (rline15_c (tB (P.getD i [])) wr (by rw [tB_size]; have := HPX.out _ hmem; omega) (HM.out.later (B1.out.trans (HB.out.mono B1.out.size))))
       rw [tB_data] at LC
       unfold LdP at LC
       generalize P.getD i [] = x at *
       have hz := HB.out.size
       have NW : Hid (∀ (w2 : World) (y : Nd), (w2.alloc (.cells y.cells.toArray 35)).heap[w2.heap.size]? = some (.cells y.cells.toArray 35 (0, 0)) ∧ Below w2.heap.size w2 (w2.alloc (.cells y.cells.toArray 35))) := hid (fun w2 y => ⟨heap_alloc_new w2 _, below_1 w2 _⟩)
       have hkl : K.length ≤ 10000 := by have := HKL.out; omega
       clear hmem hgx hiP
       generalize hkn : K.length = kn at *
       have HKN := hid hkn
       clear hkn
       go_wp2_with (first
         | (at_builtin; refine wpList_appNd _ rfl _ _ rfl W1.heap.size _ K rfl O4.out w2.heap.size _ ⟨yf, yk, ym, yl, yda, ydc, yzs, yka, ykc, yks⟩ rfl N4.out (by rw [HKN.out]; exact hkl) B4.out.size ?_; intro v9 w9 hown9 hgrow9; have B9 := hid (below_grownN B4.out O4.out (Nat.le_refl _) B4.out.size hgrow9); have O9 := hid hown9; have G9 := hid hgrow9; obtain ⟨a9, c9, rfl⟩ := hown9.shape; clear hown9 hgrow9)
         | (go_at_call 46; refine LC.out.mono ?_; rintro _ w2 ⟨⟨y, rfl, hye, hyn⟩, hb2⟩; obtain ⟨n4, b4⟩ := NW.out w2 y; have C4 := hid (hb2.trans (b4.mono hb2.size)); have N4 := hid n4; have O4 := hid (HO.out.later C4.out); have B4 := hid (HB.out.trans (C4.out.mono hz)); have Y4 := hid ((hyn.later b4).low hz); have E4 := hid hye; clear hb2 hye hyn n4 b4; obtain ⟨yf, yk, ym, yl, yda, ydc, yzs, yka, ykc, yks⟩ := y; simp only [Nd.val, Nd.cells] at *))
       have HN9 : Hid (∀ x ∈ K ++ [(⟨yf, yk, ym, yl, yda, ydc, yzs, yka, ykc, yks⟩ : Nd)], NdB w9 W1.heap.size x) := hid (fun x hx => by
         rcases List.mem_append.1 hx with hx | hx
         · exact ((HN.out x hx).later C4.out).grown O4.out G9.out
         · rw [List.mem_singleton] at hx
           subst hx
           exact Y4.out.grown O4.out G9.out)
       go_roundg (gk - 1)
       case measure => omega
       case rel => exact ⟨i + 1, K ++ [⟨yf, yk, ym, yl, yda, ydc, yzs, yka, ykc, yks⟩], by omega, by go_num, hid (by rw [List.length_append, List.length_singleton]; have h1 := HKL.out; have h2 := HKN.out; omega), hid (by have h5 := O9.out; rw [List.length_append, List.length_singleton] at h5; exact h5), HN9, hid (by rw [TK.out, List.map_append, HE.out, List.map_cons, List.map_nil, E4.out]), B9⟩
     · have hge : ¬ (i : Int) < p := by omega
       have hip : i = p := by omega
       have HEE : Hid (K.map Nd.er = P.dropLast.map lineD) := hid (by rw [HE.out, hip, TL.out])
       have HT3 : Hid (T = if rightD K = true ∧ treeL K = s.data.toList then some (K.map Nd.er) else none) := hid (by rw [HT2.out, ← HEE.out, rightD_er, treeL_er15])
       obtain ⟨a2, c2, e2, hI⟩ := NsB.is HO.out HN.out (by have := HKL.out; omega)
       simp only [Value.slice.injEq, true_and] at e2
       obtain ⟨rfl, rfl⟩ := e2
       have RC := hid (rtree_c vc hI (by have := HKL.out; omega) (HTW.out.later (B1.out.trans (HB.out.mono B1.out.size))))
       unfold TrP at RC
       have hb0 := B1.out.size
       have hz := HB.out.size
       have BW : Hid (Below w.heap.size w wr) := hid (B1.out.trans (HB.out.mono B1.out.size))
       clear HT2 hip hI
       have NOT : Hid (¬ (rightD K = true ∧ treeL K = s.data.toList) → T = none) := hid (fun q => by rw [HT3.out, if_neg q])
       have YES : Hid ((rightD K = true ∧ treeL K = s.data.toList) → T = some (K.map Nd.er)) := hid (fun q => by rw [HT3.out, if_pos q])
       have HKK := HKL.out
       have ge1 : ¬ (i : Int) < p := hge
       clear HT3 HE HEE TL HPL HP1
       rw [HKK] at RC ⊢
       cases hr : rightD K with
       | false =>
         rw [hr] at RC
         simp only [Bool.false_eq_true, if_false] at RC
         have NT := hid (NOT.out (fun q => by rw [hr] at q; cases q.1))
         clear hr NOT YES
         go_wp2_with (go_at_call 18; refine RC.out.mono ?_; rintro _ w3 ⟨rfl, hb3⟩; have B3 := hid (BW.out.trans (hb3.mono BW.out.size)); clear hb3)
         refine bodyPost_ret (v := .tuple #[.slice none 0 0, .int .i64 3]) (by simp [results, Tryd.results23, go_sem]) rfl (ReP.no NT.out B3.out)
       | true =>
         rw [hr] at RC
         simp only [if_true] at RC
         have XB := ba_eq15 (treeL K) s
         by_cases hx : treeL K = s.data.toList
         · rw [decide_eq_true hx] at XB
           have YT := hid (YES.out ⟨hr, hx⟩)
           generalize (⟨(treeL K).toArray⟩ : ByteArray) = X at *
           clear hr hx NOT YES
           go_wp2_with (go_at_call 18; refine RC.out.mono ?_; rintro _ w3 ⟨rfl, hb3⟩; have B3 := hid (BW.out.trans (hb3.mono BW.out.size)); have C3 := hid hb3; clear hb3)
           refine bodyPost_ret (v := .tuple #[.slice va i vc, .int .i64 0]) (by simp [results, Tryd.results23, go_sem]) rfl ⟨?_, B3.out⟩
           rw [YT.out]
           have hO := HO.out
           rw [HKK] at hO
           exact ⟨_, K, rfl, own_low (hO.later C3.out) hb0, fun x hx => ((HN.out x hx).later C3.out).low hb0, rfl⟩
         · rw [decide_eq_false hx] at XB
           have NT := hid (NOT.out (fun q => hx q.2))
           generalize (⟨(treeL K).toArray⟩ : ByteArray) = X at *
           clear hr hx NOT YES
           go_wp2_with (go_at_call 18; refine RC.out.mono ?_; rintro _ w3 ⟨rfl, hb3⟩; have B3 := hid (BW.out.trans (hb3.mono BW.out.size)); clear hb3)
           refine bodyPost_ret (v := .tuple #[.slice none 0 0, .int .i64 3]) (by simp [results, Tryd.results23, go_sem]) rfl (ReP.no NT.out B3.out)
end Go.Proofs.YtkokjkaclcjnjaaDoor
