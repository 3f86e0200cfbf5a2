/-
  The document's Tree; the law's small and sameTexts.
  Read of the package tell.
  Lines read by the document, plainly: it reads what the program reads.
-/
import Derived.Test.YtkokjkaclcjnjaaDoorRdBu
import Derived.Test.YtkokjkaclcjnjaaDoorRdBb
import Derived.Test.YtkokjkaclcjnjaaDoorRdBp
namespace Go.Proofs.YtkokjkaclcjnjaaDoor
open Go.RowKit Go.ChangeShapes Go.WideShapes Go.ChangeAt Go.Maps Go.Shelf
set_option linter.unusedVariables false
set_option linter.unusedSimpArgs false
set_option maxRecDepth 100000
theorem join_fewR : ∀ {ks : List Kd}, (∀ y ∈ ks, y.nm.size ≤ 1000) → (∀ y ∈ ks, y.Wf) → ks.length ≤ 12 → (Lib.join (ks.map fun k => (kidT k).data.toList) [44]).length ≤ 13000
 | [], _, _, _ => by simp [Lib.join]
 | a :: t, hn, hw, hz => by
   rw [List.map_cons, Lib.join_cons, List.length_append]
   have h1 := kidT_size (hn a (List.mem_cons_self ..)) (hw a (List.mem_cons_self ..))
   have h2 := joinTail_len [44] (t.map fun k => (kidT k).data.toList) (fun x hx => by
     obtain ⟨k, hk, rfl⟩ := List.mem_map.1 hx
     exact kidT_size (hn k (List.mem_cons_of_mem _ hk)) (hw k (List.mem_cons_of_mem _ hk)))
   rw [List.length_map] at h2
   rw [List.length_cons] at hz
   have h3 : t.length * ([44].length + 1021) ≤ 11 * 1022 := Nat.mul_le_mul (by omega) (by decide)
   omega
theorem line_small {x : Nd} {w : World} (h : nodeOk x = true) (hx : x.Ok w) : (lineL x).length ≤ 20000 := by
 obtain ⟨s1, s2, s3⟩ := node_small h
 have hw : ∀ y ∈ x.ks, y.Wf := hx.2.2.2.2.2.2.1
 have hi : (insB x).size ≤ 14000 := by
   unfold insB
   split
   · split
     · show 1 ≤ _; omega
     · show (List.toArray _).size ≤ _
       rw [List.size_toArray]
       have := join_fewR (fun y hy => by have := s3 y hy; omega) hw s2
       omega
   · show (List.toArray _).size ≤ _
     rw [List.size_toArray]
     have h1 := (quote_len (Fr.tx x.zs).data.toList).2
     have h2 : (Fr.tx x.zs).data.toList.length = x.zs.length := txs_size x.zs
     omega
 have h1 := decB_size (u := x.fid.toNat) (by have := hx.1; omega)
 have h2 := decB_size (u := x.md.toNat) (by have := hx.2.2.1; omega)
 have h3 := decB_size (u := x.ln.toNat) (by have := hx.2.2.2.1; omega)
 have h4 := wordB_size x.k
 unfold lineL
 rw [← line_head]
 show (headB _ _ _ _ ++ insB x).size ≤ _
 rw [ba_app, headB_size]
 omega
def treeL (L : List Nd) : List UInt8 := L.flatMap fun x => lineL x ++ [10]
def TrP (L : List Nd) (w : World) (e : Ending) (w' : World) : Prop := (e = if rightD L = true then .returned (.tuple #[.string ⟨(treeL L).toArray⟩, .int .i64 0]) else .returned (.tuple #[.string ⟨#[]⟩, .int .i64 3])) ∧ Below w.heap.size w w'
theorem flat_size {a : Option Addr} {L : List Nd} {w : World} (R : Rt L) (h : IsNs w a L) (m : Nat) : ((L.take m).flatMap fun x => lineL x ++ [10]).length ≤ 5000000 := by
 have h1 := flatN_len (fun x => lineL x ++ [10]) (L.take m) (fun x hx => by
   have hx2 := List.mem_of_mem_take hx
   have := line_small (R.ok x hx2).1 (h.2.1 x hx2)
   simp only [List.length_append, List.length_singleton]
   omega)
 have h2 : (L.take m).length ≤ 40 := by rw [List.length_take]; have := R.few; omega
 have h3 : (L.take m).length * 100001 ≤ 40 * 100001 := Nat.mul_le_mul_right _ h2
 omega
theorem ba_l (a b : List UInt8) : (⟨a.toArray⟩ : ByteArray) ++ ⟨b.toArray⟩ = ⟨(a ++ b).toArray⟩ := by
 apply ByteArray.ext
 rw [ByteArray.data_append]
 simp
set_option maxHeartbeats 4000000 in
theorem rtree_c {a : Option Addr} {L : List Nd} (cap : Nat) {w : World} (h : IsNs w a L) (hm : L.length ≤ 100000) (ht : TabW w) : Calls Tryd.prog 18 #[.slice a L.length cap] w (TrP L w) := by
 have RC := hid (rRight_c a cap L w h hm)
 unfold TrP
 cases hr : rightD L with
 | false =>
   rw [hr] at RC
   simp only [Bool.false_eq_true, if_false]
   go_enter Tryd.func18, Tryd.ntmps18
   go_wp2_with (go_at_call 39; refine RC.out.mono ?_; rintro _ w1 ⟨rfl, hb1⟩; have B1 := hid hb1; clear hb1)
   refine bodyPost_ret (v := .tuple #[.string ⟨#[]⟩, .int .i64 3]) (by simp [results, Tryd.results18, go_sem]) rfl ⟨rfl, B1.out⟩
 | true =>
   rw [hr] at RC
   simp only [if_true]
   have R := rightD_rt.1 hr
   have h40 := R.few
   have FL := hid (fun m => flat_size (m := m) R h)
   have LC : Hid (∀ x ∈ L, ∀ W, Below w.heap.size w W → Calls Tryd.prog 15 #[x.val] W fun e w' => e = .returned (.tuple #[.string ⟨(lineL x).toArray⟩, .int .i64 0]) ∧ Below W.heap.size W w') := hid (fun x hx W hW => by
     refine (rline_c x W ((h.2.1 x hx).later hW) (ht.later hW)).mono ?_
     rintro e w' ⟨h1, h2⟩
     rw [(R.ok x hx).1, if_pos rfl] at h1
     exact ⟨h1, h2⟩)
   have HS := hid (fun x (hx : x ∈ L) => line_small (R.ok x hx).1 (h.2.1 x hx))
   have HI := hid h
   unfold treeL
   clear h ht R hr
   go_enter Tryd.func18, Tryd.ntmps18
   go_upto_region 4 with (go_at_call 39; refine RC.out.mono ?_; rintro _ w1 ⟨rfl, hb1⟩; have B1 := hid hb1; clear hb1)
   go_wp2
   go_loopg [4, 5] L.length (fun gk v4 v5 wr => ∃ i : Nat, i + gk = L.length ∧ v5 = .int .i64 i ∧ v4 = .string ⟨((L.take i).flatMap fun x => lineL x ++ [10]).toArray⟩ ∧ Hid (Below w.heap.size w wr))
   case atStart => exact ⟨0, by omega, rfl, rfl, B1⟩
   case round =>
     obtain ⟨i, hi, rfl, rfl, BX⟩ := hrel
     by_cases hlt : i < L.length
     · have hltI : (i : Int) < L.length := by omega
       obtain ⟨b', off, hka, _⟩ := HI.out.2.2 (by omega)
       subst hka
       obtain ⟨c0, c1, c2, c3, c4, c5⟩ := ((HI.out.later BX.out).at hlt).all
       have hmem := getD_mem L Nd.no hlt
       have LCx := hid (LC.out _ hmem wr BX.out)
       have hls := HS.out _ hmem
       have hfl := FL.out i
       have ET : Hid ((L.take (i + 1)).flatMap (fun x => lineL x ++ [10]) = (L.take i).flatMap (fun x => lineL x ++ [10]) ++ (lineL (L.getD i Nd.no) ++ [10])) := hid (take_flatN _ L i hlt)
       clear hmem
       generalize hE2 : (L.take (i + 1)).flatMap (fun x => lineL x ++ [10]) = E2 at *
       have HE2 := hid hE2
       clear hE2
       generalize (L.take i).flatMap (fun x => lineL x ++ [10]) = E at *
       generalize L.getD i Nd.no = x at *
       generalize lineL x = l at *
       obtain ⟨xf, xk, xm, xl, xda, xdc, xzs, xka, xkc, xks⟩ := x
       simp only [Nd.val] at LCx
       simp only at c0 c1 c2 c3 c4 c5
       obtain ⟨T, hT⟩ : ∃ T : ByteArray, T = ⟨E.toArray⟩ := ⟨_, rfl⟩
       obtain ⟨U, hU⟩ : ∃ U : ByteArray, U = ⟨l.toArray⟩ := ⟨_, rfl⟩
       have hTs : T.size ≤ 5000000 := by rw [hT, ba_size]; exact hfl
       have hUs : U.size ≤ 20000 := by rw [hU, ba_size]; exact hls
       have HSUM : Hid (T ++ (U ++ ⟨#[10]⟩) = ⟨E2.toArray⟩) := hid (by rw [hT, hU, ET.out, ← ba_l, ← ba_l])
       rw [← hU] at LCx
       rw [← hT]
       have z1 : ¬ 9223372036854775807 < U.size + 1 := by omega
       have z2 : ¬ 9223372036854775807 < T.size + (U.size + 1) := by omega
       clear hT hU ET hfl hls
       go_wp2_with (go_at_call 15; refine LCx.out.mono ?_; rintro _ w2 ⟨rfl, hb2⟩; have B2 := hid (BX.out.trans (hb2.mono BX.out.size)); clear hb2)
       rw [HSUM.out]
       go_roundg (gk - 1)
       case measure => omega
       case rel => exact ⟨i + 1, by omega, by go_num, by rw [HE2.out], B2⟩
     · have hge : ¬ (i : Int) < L.length := by omega
       rw [List.take_of_length_le (by omega)]
       go_wp2
       refine bodyPost_ret (v := .tuple #[.string ⟨(L.flatMap (fun x => lineL x ++ [10])).toArray⟩, .int .i64 0]) (by simp [results, Tryd.results18, go_sem]) rfl ⟨rfl, BX.out⟩
end Go.Proofs.YtkokjkaclcjnjaaDoor
namespace Go.Proofs.YtkokjkaclcjnjaaDoor
open Go.RowKit Go.ChangeShapes Go.WideShapes Go.ChangeAt
set_option linter.unusedVariables false
set_option linter.unusedSimpArgs false
set_option maxRecDepth 100000
def treeP (s : List UInt8) : Option (List Nd) := (readN s.length 40 s).bind fun l => if rightD l = true then some l else none
def ReP (r : Option (List Nd)) (w : World) (e : Ending) (w' : World) : Prop := (match r with
 | none => e = .returned (.tuple #[.slice none 0 0, .int .i64 3])
 | some l => ∃ v L, e = .returned (.tuple #[v, .int .i64 0]) ∧ OwN w' w.heap.size v L ∧ (∀ x ∈ L, NdB w' w.heap.size x) ∧ L.map Nd.er = l) ∧ Below w.heap.size w w'
theorem ReP.no {r : Option (List Nd)} {w w' : World} (h : r = none) (hb : Below w.heap.size w w') : ReP r w (.returned (.tuple #[.slice none 0 0, .int .i64 3])) w' := ⟨by rw [h], hb⟩
def ReI (R : Option (List Nd)) (K : List Nd) (rest : List UInt8) : Prop := R = (readN rest.length (40 - K.length) rest).map (K ++ ·)
theorem readN_any : ∀ (n m r : Nat) (s : List UInt8), s.length ≤ n → s.length ≤ m → readN n r s = readN m r s
 | n, m, r, [], _, _ => by cases n <;> cases m <;> rfl
 | 0, m, r, a :: s, h, _ => by simp at h
 | n + 1, 0, r, a :: s, _, h => by simp at h
 | n + 1, m + 1, r, a :: s, h, h' => by
   rw [readN_step _ _ (by simp), readN_step _ _ (by simp)]
   cases hc : (cutL 10 (a :: s)).2 with
   | none => rfl
   | some t =>
     cases lineP (cutL 10 (a :: s)).1 with
     | none => rfl
     | some x =>
       cases r with
       | zero => rfl
       | succ r =>
         simp only
         have := congrArg List.length (cut_some hc).1
         rw [List.length_append, List.length_cons, List.length_cons] at this
         rw [List.length_cons] at h h'
         rw [readN_any n m r t (by omega) (by omega)]
theorem reI_nil {R : Option (List Nd)} {K : List Nd} (h : ReI R K []) : R = some K := by
 unfold ReI at h
 rw [h]
 show (readN 0 _ []).map _ = _
 have : readN 0 (40 - K.length) [] = some [] := rfl
 rw [this]
 simp
theorem reI_bad {R : Option (List Nd)} {K : List Nd} {rest : List UInt8} (h : ReI R K rest) (hne : rest ≠ []) (hb : (cutL 10 rest).2.isSome = false ∨ (lineP (cutL 10 rest).1).isSome = false ∨ K.length = 40) : R = none := by
 unfold ReI at h
 obtain ⟨n, hn⟩ : ∃ n, rest.length = n + 1 := ⟨rest.length - 1, by have := List.length_pos_iff.2 hne; omega⟩
 rw [h, hn, readN_step _ _ hne]
 cases h1 : (cutL 10 rest).2 with
 | none => rfl
 | some t =>
   cases h2 : lineP (cutL 10 rest).1 with
   | none => rfl
   | some x =>
     rcases hb with q | q | q
     · rw [h1] at q; cases q
     · rw [h2] at q; cases q
     · rw [q]; rfl
theorem reI_next {R : Option (List Nd)} {K : List Nd} {rest t : List UInt8} {x : Nd} (h : ReI R K rest) (hne : rest ≠ []) (h1 : (cutL 10 rest).2 = some t) (h2 : lineP (cutL 10 rest).1 = some x) (h3 : K.length < 40) : ReI R (K ++ [x]) t := by
 unfold ReI at h ⊢
 obtain ⟨n, hn⟩ : ∃ n, rest.length = n + 1 := ⟨rest.length - 1, by have := List.length_pos_iff.2 hne; omega⟩
 have hl := congrArg List.length (cut_some h1).1
 rw [List.length_append, List.length_cons] at hl
 obtain ⟨r, hr⟩ : ∃ r, 40 - K.length = r + 1 := ⟨39 - K.length, by omega⟩
 rw [h, hn, readN_step _ _ hne, h1, h2, hr]
 simp only
 rw [map_snoc, List.length_append, List.length_singleton, show 40 - (K.length + 1) = r by omega, readN_any n t.length r t (by omega) (Nat.le_refl _)]
theorem NsB.is {w : World} {base : Nat} {v : Value} {L : List Nd} (h : OwN w base v L) (hk : ∀ x ∈ L, NdB w base x) (hm : L.length ≤ 100000) : ∃ a cap, v = .slice a L.length cap ∧ IsNs w a L := h.is (fun x hx => (hk x hx).ok) hm
theorem LiP.any {r : Option Nd} {w w' : World} {e : Ending} (h : LiP r w e w') : ∃ y : Nd, e = .returned (.tuple #[y.val, .bool r.isSome]) ∧ Below w.heap.size w w' := by
 obtain ⟨h1, h2⟩ := h
 cases r with
 | none => exact ⟨Nd.no, h1, h2⟩
 | some x => obtain ⟨y, e, _⟩ := h1; exact ⟨y, e, h2⟩
set_option maxHeartbeats 8000000 in
theorem tread_c (s : ByteArray) (w : World) (hs : s.size ≤ 10000000) (hm : MxW w) :
   Calls Tryd.prog 22 #[.string s] w (ReP (treeP s.data.toList) w) := by
 obtain ⟨R, hR⟩ : ∃ R, R = readN s.data.toList.length 40 s.data.toList := ⟨_, rfl⟩
 have N : Hid (ReI R [] s.data.toList) := hid (by unfold ReI; rw [hR]; simp)
 obtain ⟨T, hT⟩ : ∃ T, T = treeP s.data.toList := ⟨_, rfl⟩
 have HT : Hid (T = R.bind fun l => if rightD l = true then some l else none) := hid (by rw [hT, hR]; rfl)
 rw [← hT]
 have hlen : s.data.toList.length ≤ 10000000 := hs
 have HM := hid hm
 clear hR hT hs hm
 have es : s = tB s.data.toList := (tB_of s).symm
 generalize s.data.toList = l0 at *
 subst es
 go_enter Tryd.func22, Tryd.ntmps22
 go_wp2
 go_loopg [0, 4] l0.length (fun gk v0 v4 wr => ∃ (rest : List UInt8) (K : List Nd), v0 = .string (tB rest) ∧ K.length ≤ 40 ∧ rest.length ≤ 10000000 ∧ gk = rest.length ∧ Hid (OwN wr w.heap.size v4 K) ∧ Hid (∀ x ∈ K, NdB wr w.heap.size x) ∧ Hid (Below w.heap.size w wr) ∧ Hid (ReI R (K.map Nd.er) rest))
 case atStart => exact ⟨l0, [], rfl, by simp, hlen, rfl, hid (OwN.nil _ _), hid (fun x hx => by cases hx), hid (Below.refl _ _), N⟩
 case round =>
   obtain ⟨rest, K, rfl, hK, hrl, hgk, HO, HN, HB, HI⟩ := hrel
   clear N
   by_cases hre : rest = []
   · subst hre
     have e1 : ((tB []).toList != []) = false := by rw [Lib.toList_data]; rfl
     have e2 : ((tB []).toList == []) = true := by rw [Lib.toList_data]; rfl
     have HR := hid (reI_nil HI.out)
     obtain ⟨a, c, rfl, hIs⟩ := NsB.is HO.out HN.out (by omega)
     have RC := hid (right_c a c K wr hIs (by omega))
     have HT2 : Hid (T = if rightD K = true then some (K.map Nd.er) else none) := hid (by
       rw [HT.out, HR.out]
       show (if rightD (K.map Nd.er) = true then some (K.map Nd.er) else none) = _
       rw [rightD_er])
     have hbz := HB.out.size
     by_cases hr : rightD K = true
     · have HRP := hid ((rightD_iff K).2 hr)
       have HT3 := hid (HT2.out.trans (if_pos hr))
       clear HT2 hr hIs
       go_wp2_with (go_at_call 37; refine RC.out.mono ?_; rintro _ w1 ⟨b, rfl, hb, hb1⟩; obtain rfl : b = true := hb.2 HRP.out; have B1 := hid hb1; clear hb hb1)
       refine bodyPost_ret (v := .tuple #[.slice a K.length c, .int .i64 0]) (by simp [results, Tryd.results22, go_sem]) rfl ⟨?_, HB.out.trans (B1.out.mono hbz)⟩
       rw [HT3.out]
       exact ⟨_, K, rfl, HO.out.later B1.out, fun x hx => (HN.out x hx).later B1.out, rfl⟩
     · have HRP : Hid (¬ RightP K) := hid (fun q => hr ((rightD_iff K).1 q))
       have HT3 := hid (HT2.out.trans (if_neg hr))
       clear HT2 hr hIs
       go_wp2_with (go_at_call 37; refine RC.out.mono ?_; rintro _ w1 ⟨b, rfl, hb, hb1⟩; obtain rfl : b = false := by { cases b with | false => rfl | true => exact absurd (hb.1 rfl) HRP.out }; have B1 := hid hb1; clear hb hb1)
       refine bodyPost_ret (v := .tuple #[.slice none 0 0, .int .i64 3]) (by simp [results, Tryd.results22, go_sem]) rfl (ReP.no HT3.out (HB.out.trans (B1.out.mono hbz)))
   · have e2 : ((tB rest).toList == []) = false := by rw [Lib.toList_data, beq_eq_false_iff_ne]; exact hre
     have HNE := hid hre
     clear hre
     have hbz := HB.out.size
     obtain ⟨va, vc, rfl⟩ := HO.out.shape
     have CC := hid (cut_c 10 (tB rest) wr (by rw [tB_size]; omega) (HM.out.later HB.out))
     rw [tB_data] at CC
     have hc := cut_size 10 rest
     have LC := hid (fun W (hW : Below w.heap.size w W) => readLine_c (tB (cutL 10 rest).1) W (by rw [tB_size]; omega) (HM.out.later hW))
     rw [tB_data] at LC
     by_cases good : (cutL 10 rest).2.isSome = true ∧ (lineP (cutL 10 rest).1).isSome = true ∧ K.length ≠ 40
     · obtain ⟨g1, g2, g3⟩ := good
       obtain ⟨t, ht⟩ := Option.isSome_iff_exists.1 g1
       obtain ⟨x, hx⟩ := Option.isSome_iff_exists.1 g2
       have HNX := hid (reI_next HI.out HNE.out ht hx (by rw [List.length_map]; omega))
       have htl : t.length < rest.length := by
         have := congrArg List.length (cut_some ht).1
         rw [List.length_append, List.length_cons] at this
         omega
       have HTL := hid htl
       rw [ht] at CC
       rw [hx] at LC
       simp only [Option.getD_some, Option.isSome_some] at CC LC
       unfold LiP at LC
       simp only at LC
       generalize (cutL 10 rest).1 = e at *
       have g3I : ((K.length : Int) == 40) = false := by rw [beq_eq_false_iff_ne]; omega
       have HG3 := hid g3
       have HKK := hid hK
       have HGK := hid hgk
       have HRL := hid hrl
       have NW : Hid (∀ (w2 : World) (y : Nd), ((w2.alloc (.cells y.cells.toArray 35)).alloc (.cells y.cells.toArray 35)).heap[w2.heap.size + 1]? = some (.cells y.cells.toArray 35 (0, 0)) ∧ Below w2.heap.size w2 ((w2.alloc (.cells y.cells.toArray 35)).alloc (.cells y.cells.toArray 35)) ∧ (∀ W : World, W = (w2.alloc (.cells y.cells.toArray 35)) → W.heap[w2.heap.size]? = some (.cells y.cells.toArray 35 (0, 0)))) := hid (fun w2 y => ⟨by have := heap_alloc_new (w2.alloc (.cells y.cells.toArray 35)) (.cells y.cells.toArray 35); rwa [World.size_alloc] at this, (below_1 w2 _).trans ((below_1 _ _).mono (by simp)), fun W hW => by rw [hW]; exact heap_alloc_new w2 _⟩)
       have hkl : K.length ≤ 10000 := by omega
       clear g1 g2 g3 ht hx HI htl hK hgk hrl hc
       generalize hkn : K.length = kn at *
       have HKN := hid hkn
       clear hkn
       go_wp2_with (first
         | (at_builtin; refine wpList_appNd _ rfl _ _ rfl w.heap.size _ K rfl O4.out (w2.heap.size + 1) _ ⟨yf, yk, ym, yl, yda, ydc, yzs, yka, ykc, yks⟩ rfl N4.out (by rw [HKN.out]; exact hkl) B4.out.size ?_; intro v9 w9 hown9 hgrow9; have B9 := hid (below_grownN B4.out O4.out (Nat.le_refl _) B4.out.size hgrow9); have O9 := hid hown9; have G9 := hid hgrow9; obtain ⟨a9, c9, rfl⟩ := hown9.shape; clear hown9 hgrow9)
         | (go_at_call 44; refine (LC.out _ (HB.out.trans (C1.out.mono hbz))).mono ?_; rintro _ w2 ⟨⟨y, rfl, hye, hyn⟩, hb2⟩; obtain ⟨n4, b4, m4⟩ := NW.out w2 y; have C4 := hid ((C1.out.trans (hb2.mono C1.out.size)).trans (b4.mono (Nat.le_trans C1.out.size hb2.size))); have N4 := hid n4; have O4 := hid (HO.out.later C4.out); have B4 := hid (HB.out.trans (C4.out.mono hbz)); have Y4 := hid ((hyn.later b4).low (Nat.le_trans hbz C1.out.size)); have E4 := hid hye; have hm4 := m4 _ rfl; obtain ⟨z0, z1, z2, z3, z4, z5⟩ := nd_cells hm4; clear hb2 hye hyn n4 b4 m4 hm4; obtain ⟨yf, yk, ym, yl, yda, ydc, yzs, yka, ykc, yks⟩ := y; simp only [Nd.val, Nd.cells] at *)
         | (go_at_call 43; refine CC.out.mono ?_; rintro _ w1 ⟨rfl, hb1⟩; have C1 := hid hb1; clear hb1))
       have hgx := HGK.out
       have htx := HTL.out
       have hrx := HRL.out
       have HN9 : Hid (∀ x ∈ K ++ [(⟨yf, yk, ym, yl, yda, ydc, yzs, yka, ykc, yks⟩ : Nd)], NdB w9 w.heap.size x) := hid (fun x hx => by
         rcases List.mem_append.1 hx with hx | hx
         · exact ((HN.out x hx).later C4.out).grown O4.out G9.out
         · rw [List.mem_singleton] at hx
           subst hx
           exact Y4.out.grown O4.out G9.out)
       go_roundg t.length
       case measure => omega
       case rel => exact ⟨t, K ++ [⟨yf, yk, ym, yl, yda, ydc, yzs, yka, ykc, yks⟩], rfl, by have h1 := HKK.out; have h2 := HG3.out; have h3 := HKN.out; rw [List.length_append, List.length_singleton]; omega, by omega, rfl, hid (by have h5 := O9.out; rw [List.length_append, List.length_singleton] at h5; exact h5), HN9, B9, hid (by rw [List.map_append, List.map_cons, List.map_nil, E4.out]; exact HNX.out)⟩
     · have NB : Hid (R = none) := hid (reI_bad HI.out HNE.out (by
         cases q1 : (cutL 10 rest).2.isSome with
         | false => exact .inl rfl
         | true =>
           cases q2 : (lineP (cutL 10 rest).1).isSome with
           | false => exact .inr (.inl rfl)
           | true => exact .inr (.inr (by rw [List.length_map]; exact Classical.byContradiction fun q3 => good ⟨q1, q2, q3⟩))))
       have NT : Hid (T = none) := hid (by rw [HT.out, NB.out]; rfl)
       have LC2 := hid (fun W hW => (LC.out W hW).mono (fun _ _ h => LiP.any h))
       clear LC NB HI HT HN
       obtain ⟨q, hq⟩ : ∃ q, ((K.length : Int) == 40) = q := ⟨_, rfl⟩
       have key : (cutL 10 rest).2.isSome = false ∨ ((cutL 10 rest).2.isSome = true ∧ (lineP (cutL 10 rest).1).isSome = false) ∨ ((cutL 10 rest).2.isSome = true ∧ (lineP (cutL 10 rest).1).isSome = true ∧ q = true) := by
         cases q1 : (cutL 10 rest).2.isSome with
         | false => exact .inl rfl
         | true =>
           cases q2 : (lineP (cutL 10 rest).1).isSome with
           | false => exact .inr (.inl ⟨rfl, rfl⟩)
           | true => exact .inr (.inr ⟨rfl, rfl, by rw [← hq, beq_iff_eq]; have : K.length = 40 := Classical.byContradiction fun q3 => good ⟨q1, q2, q3⟩; omega⟩)
       generalize (cutL 10 rest).2.isSome = cb at *
       generalize (lineP (cutL 10 rest).1).isSome = ob at *
       generalize (cutL 10 rest).2.getD [] = t at *
       generalize (cutL 10 rest).1 = e at *
       clear good hc hK
       generalize K.length = kn at *
       rcases key with rfl | ⟨rfl, rfl⟩ | ⟨rfl, rfl, rfl⟩
       all_goals
         go_wp2_with (first
           | (go_at_call 44; refine (LC2.out _ (HB.out.trans (C1.out.mono hbz))).mono ?_; rintro _ w2 ⟨y, rfl, hb2⟩; have B2 := hid ((HB.out.trans (C1.out.mono hbz)).trans (hb2.mono (Nat.le_trans hbz C1.out.size))); clear hb2; obtain ⟨yf, yk, ym, yl, yda, ydc, yzs, yka, ykc, yks⟩ := y; simp only [Nd.val])
           | (go_at_call 43; refine CC.out.mono ?_; rintro _ w1 ⟨rfl, hb1⟩; have C1 := hid hb1; clear hb1))
         refine bodyPost_ret (v := .tuple #[.slice none 0 0, .int .i64 3]) (by simp [results, Tryd.results22, go_sem]) rfl (ReP.no NT.out (B2.out.trans ((below_1 w2 _).mono B2.out.size)))
def kidD (x : List UInt8) : Kd := ⟨tB (cutL 61 x).1, ((numQ ((cutL 61 x).2.getD []) % 4294967296 : Nat) : Int)⟩
def kidsD (e : List UInt8) : List Kd := if e = [45] then [] else (splN 44 e.length e).map kidD
def partD (a b c d e : List UInt8) : Nd :=
 ⟨((numQ a % 4294967296 : Nat) : Int), kindP b, ((numQ c % 65536 : Nat) : Int), ((numQ d % 65536 : Nat) : Int), none, 0, if kindP b = 2 then [] else Fr.bs (tB ((unqL e).getD [])), none, 0, if kindP b = 2 then kidsD e else []⟩
def lineD (l : List UInt8) : Nd := match splN 32 4 l with
 | [a, b, c, d, e] => partD a b c d e
 | _ => Nd.no
def treeD (s : List UInt8) : Option (List Nd) :=
 if 41 < (splN 10 s.length s).length then none
 else if rightD ((splN 10 s.length s).dropLast.map lineD) = true ∧ treeL ((splN 10 s.length s).dropLast.map lineD) = s then some ((splN 10 s.length s).dropLast.map lineD) else none
theorem kidD_of {k : Kd} (hn : Pa.nameB k.nm.data.toList = true) (hw : 0 ≤ k.fid ∧ k.fid < 4294967296) : kidD (kidT k).data.toList = k := by
 have e : cutL 61 (kidT k).data.toList = (k.nm.data.toList, some (Lib.decDigits k.fid.toNat)) := by
   rw [kid_text]
   exact cut_app _ (ok_ne (name_all hn) (by decide +kernel))
 unfold kidD
 rw [e]
 simp only [Option.getD_some]
 rw [num_dec (by omega), Nat.mod_eq_of_lt (by omega), tB_of]
 obtain ⟨nm, fid⟩ := k
 simp only at hw ⊢
 congr 1
 omega
theorem kidsD_of {l : List Kd} (hk : ∀ k ∈ l, Pa.nameB k.nm.data.toList = true ∧ 0 ≤ k.fid ∧ k.fid < 4294967296) : kidsD (kidsT l) = l := by
 unfold kidsD kidsT
 by_cases e : l = []
 · subst e
   rfl
 · have hf : ∀ a ∈ l.map (fun k => (kidT k).data.toList), (44 : UInt8) ∉ a := fun a ha => by
     obtain ⟨k, hm, rfl⟩ := List.mem_map.1 ha
     exact kid_free (hk k hm).1 (by decide +kernel) (by decide) (by decide)
   rw [if_neg e, if_neg (kids_ne e), spl_join _ (by simpa using e) hf (join_len 44 _), List.map_map]
   conv => rhs; rw [← List.map_id l]
   exact List.map_congr_left (fun k hm => kidD_of (hk k hm).1 (hk k hm).2)
theorem lineD_of {x : Nd} (h : nodeOk x = true) (hx : x.In) : lineD (lineL x) = x.er := by
 have hk := node_kind h
 obtain ⟨h1, h2, h3, h4, h5, h6⟩ := hx
 have k1 := kind_word hk
 unfold lineD
 rw [line_text, spl5 _ (dec_free (by decide) _) (word_free x.k).1 (dec_free (by decide) _) (dec_free (by decide) _)]
 show partD _ _ _ _ _ = _
 unfold partD
 rw [k1, num_dec (by omega), num_dec (by omega), num_dec (by omega), ins_text, Nat.mod_eq_of_lt (by omega), Nat.mod_eq_of_lt (by omega), Nat.mod_eq_of_lt (by omega)]
 have e1 : (if x.k = 2 then [] else Fr.bs (tB ((unqL (if x.k = 2 then kidsT x.ks else quoteL (Fr.tx x.zs).data.toList)).getD []))) = x.zs := by
   by_cases q : x.k = 2
   · rw [if_pos q, dir_zs h q]
   · rw [if_neg q, if_neg q, unq_quote]
     exact bs_txL h5
 have e2 : (if x.k = 2 then kidsD (if x.k = 2 then kidsT x.ks else quoteL (Fr.tx x.zs).data.toList) else []) = x.ks := by
   by_cases q : x.k = 2
   · rw [if_pos q, if_pos q, kidsD_of (fun k hk => ⟨kid_names h q k hk, h6 k hk⟩)]
   · rw [if_neg q, file_ks h q]
 rw [e1, e2]
 obtain ⟨xf, xk, xm, xl, xda, xdc, xzs, xka, xkc, xks⟩ := x
 simp only at h1 h3 h4 ⊢
 unfold Nd.er Nd.lie
 simp only [Nd.mk.injEq, and_true, true_and]
 omega
theorem kind_in (b : List UInt8) : 0 ≤ kindP b ∧ kindP b < 256 := by
 unfold kindP
 split
 · decide
 · split
   · decide
   · split <;> decide
theorem no_in : Nd.no.In := ⟨by decide, by decide, by decide, by decide, (fun y hy => by cases hy), (fun q hq => by cases hq)⟩
theorem kidsD_in (e : List UInt8) : ∀ q ∈ kidsD e, 0 ≤ q.fid ∧ q.fid < 4294967296 := fun q hq => by
 unfold kidsD at hq
 split at hq
 · cases hq
 · obtain ⟨y, _, rfl⟩ := List.mem_map.1 hq
   show 0 ≤ ((numQ _ % 4294967296 : Nat) : Int) ∧ ((numQ _ % 4294967296 : Nat) : Int) < 4294967296
   have := Nat.mod_lt (numQ ((cutL 61 y).2.getD [])) (show 0 < 4294967296 by decide)
   omega
theorem partD_in (a b c d e : List UInt8) : (partD a b c d e).In := by
 have m1 := Nat.mod_lt (numQ a) (show 0 < 4294967296 by decide)
 have m2 := Nat.mod_lt (numQ c) (show 0 < 65536 by decide)
 have m3 := Nat.mod_lt (numQ d) (show 0 < 65536 by decide)
 unfold partD
 refine ⟨?_, kind_in b, ?_, ?_, ?_, ?_⟩
 · simp only; omega
 · simp only; omega
 · simp only; omega
 · simp only
   split
   · intro y hy; cases hy
   · exact bs_in _
 · simp only
   split
   · exact kidsD_in e
   · intro q hq; cases hq
theorem lineD_in (l : List UInt8) : (lineD l).In := by
 unfold lineD
 split
 · exact partD_in _ _ _ _ _
 · exact no_in
theorem treeL_join : ∀ (l : List Nd), treeL l = joinL 10 (l.map lineL ++ [[]])
 | [] => rfl
 | x :: t => by
   have h := treeL_join t
   unfold treeL at h ⊢
   rw [List.flatMap_cons, h, List.map_cons]
   cases e : t.map lineL ++ [[]] with
   | nil => simp at e
   | cons b r =>
     rw [List.cons_append, e, joinL]
     simp
theorem treeL_cnt (L : List Nd) : L.length ≤ (treeL L).length := by
 rw [treeL_join]
 have := join_len 10 (L.map lineL ++ [[]])
 rw [List.length_append, List.length_map] at this
 simp only [List.length_singleton] at this
 omega
theorem treeP_of15 {L : List Nd} (R : Rt L) (h : ∀ x ∈ L, x.In) (hr : rightD L = true) : treeP (treeL L) = some (L.map Nd.er) := by
 unfold treeP
 have e : readN (treeL L).length 40 (treeL L) = some (L.map Nd.er) := readN_of L _ 40 (fun x hx => ⟨(R.ok x hx).1, h x hx⟩) R.few (treeL_cnt L)
 rw [e]
 show (if rightD (L.map Nd.er) = true then some (L.map Nd.er) else none) = _
 rw [rightD_er, if_pos hr]
theorem treeP_back15 {s : List UInt8} {l : List Nd} (h : treeP s = some l) : rightD l = true ∧ treeL l = s ∧ l.length ≤ 40 ∧ ∀ x ∈ l, x.In ∧ x.er = x := by
 unfold treeP at h
 cases hr : readN s.length 40 s with
 | none => rw [hr] at h; cases h
 | some m =>
   rw [hr] at h
   replace h : (if rightD m = true then some m else none) = some l := h
   split at h
   · rename_i q
     cases h
     obtain ⟨h1, h2, h3⟩ := readN_back _ _ _ _ hr
     exact ⟨q, h1, h2, h3⟩
   · cases h
theorem treeD_is (s : List UInt8) : treeD s = treeP s := by
 cases hp : treeP s with
 | some l =>
   obtain ⟨h1, h2, h3, h4⟩ := treeP_back15 hp
   have R := rightD_rt.1 h1
   have hs : splN 10 s.length s = l.map lineL ++ [[]] := by
     have e := treeL_join l
     rw [h2] at e
     rw [e]
     refine spl_join _ (by simp) (fun a ha => ?_) (join_len 10 _)
     rcases List.mem_append.1 ha with q | q
     · obtain ⟨x, hx, rfl⟩ := List.mem_map.1 q
       exact line_free (R.ok x hx).1
     · rw [List.mem_singleton.1 q]; simp
   unfold treeD
   have hd : (splN 10 s.length s).dropLast.map lineD = l := by
     rw [hs, List.dropLast_concat, List.map_map]
     conv => rhs; rw [← List.map_id l]
     refine List.map_congr_left (fun x hx => ?_)
     show lineD (lineL x) = x
     rw [lineD_of (R.ok x hx).1 (h4 x hx).1, (h4 x hx).2]
   rw [hd, if_neg (by rw [hs]; simp; omega), if_pos ⟨h1, h2⟩]
 | none =>
   unfold treeD
   split
   · rfl
   · split
     · rename_i q
       have := treeP_of15 (rightD_rt.1 q.1) (fun x hx => by obtain ⟨y, _, rfl⟩ := List.mem_map.1 hx; exact lineD_in y) q.1
       rw [q.2, hp] at this
       cases this
     · rfl
end Go.Proofs.YtkokjkaclcjnjaaDoor
