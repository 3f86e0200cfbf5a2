/-
  The document's Tree; the law's small and sameTexts.
  Read of the package tell.
-/
import Derived.Test.YtkokjkaclcjnjaaDoorBkBx
import Derived.Test.YtkokjkaclcjnjaaDoorBkBf
import Derived.Test.YtkokjkaclcjnjaaDoorBkBs
namespace Go.Proofs.YtkokjkaclcjnjaaDoor
open Go.RowKit Go.ChangeShapes Go.WideShapes Go.ChangeAt Go.Maps Go.Shelf
set_option linter.unusedVariables false
set_option linter.unusedSimpArgs false
set_option maxRecDepth 100000
theorem join_fewR : ∀ {ks : List Kd}, (∀ y ∈ ks, y.nm.size ≤ 1000) → (∀ y ∈ ks, y.Wf) → ks.length ≤ 12 → (Lib.join (ks.map fun k => (kidT k).data.toList) [44]).length ≤ 13000
 | [], _, _, _ => by simp [Lib.join]
 | a :: t, hn, hw, hz => by
   rw [List.map_cons, Lib.join_cons, List.length_append]
   have h1 := kidT_size (hn a (List.mem_cons_self ..)) (hw a (List.mem_cons_self ..))
   have h2 := joinTail_len [44] (t.map fun k => (kidT k).data.toList) (fun x hx => by
     obtain ⟨k, hk, rfl⟩ := List.mem_map.1 hx
     exact kidT_size (hn k (List.mem_cons_of_mem _ hk)) (hw k (List.mem_cons_of_mem _ hk)))
   rw [List.length_map] at h2
   rw [List.length_cons] at hz
   have h3 : t.length * ([44].length + 1021) ≤ 11 * 1022 := Nat.mul_le_mul (by omega) (by decide)
   omega
theorem line_small {x : Nd} {w : World} (h : nodeOk x = true) (hx : x.Ok w) : (lineL x).length ≤ 20000 := by
 obtain ⟨s1, s2, s3⟩ := node_small h
 have hw : ∀ y ∈ x.ks, y.Wf := hx.2.2.2.2.2.2.1
 have hi : (insB x).size ≤ 14000 := by
   unfold insB
   split
   · split
     · show 1 ≤ _; omega
     · show (List.toArray _).size ≤ _
       rw [List.size_toArray]
       have := join_fewR (fun y hy => by have := s3 y hy; omega) hw s2
       omega
   · show (List.toArray _).size ≤ _
     rw [List.size_toArray]
     have h1 := (quote_len (Fr.tx x.zs).data.toList).2
     have h2 : (Fr.tx x.zs).data.toList.length = x.zs.length := txs_size x.zs
     omega
 have h1 := decB_size (u := x.fid.toNat) (by have := hx.1; omega)
 have h2 := decB_size (u := x.md.toNat) (by have := hx.2.2.1; omega)
 have h3 := decB_size (u := x.ln.toNat) (by have := hx.2.2.2.1; omega)
 have h4 := wordB_size x.k
 unfold lineL
 rw [← line_head]
 show (headB _ _ _ _ ++ insB x).size ≤ _
 rw [ba_app, headB_size]
 omega
def treeL (L : List Nd) : List UInt8 := L.flatMap fun x => lineL x ++ [10]
def TrP (L : List Nd) (w : World) (e : Ending) (w' : World) : Prop := (e = if rightD L = true then .returned (.tuple #[.string ⟨(treeL L).toArray⟩, .int .i64 0]) else .returned (.tuple #[.string ⟨#[]⟩, .int .i64 3])) ∧ Below w.heap.size w w'
theorem ptree_c {a : Option Addr} {L : List Nd} (cap : Nat) {w : World} (h : IsNs w a L) (hm : L.length ≤ 100000) (ht : TabW w) : Calls Tryd.prog 17 #[.slice a L.length cap] w (TrP L w) := by
 cases hr : rightD L with
 | false =>
   refine (tree_no cap h hm (fun q => by rw [(rightD_iff L).1 q] at hr; cases hr)).mono ?_
   rintro e w' ⟨rfl, hb⟩
   exact ⟨by rw [hr]; rfl, hb⟩
 | true =>
   have R := rightD_rt.1 hr
   refine (tree_c cap h ((rightD_iff L).2 hr) lineL (fun x hx => by have := line_small (R.ok x hx).1 (h.2.1 x hx); omega) (hid (fun x hx W hW => by
     obtain ⟨s1, s2, s3⟩ := node_small (R.ok x hx).1
     exact lineOf_c x W ((h.2.1 x hx).later hW) s1 (by omega) (fun y hy => by have := s3 y hy; omega) (ht.later hW)))).mono ?_
   rintro e w' ⟨rfl, hb⟩
   exact ⟨by rw [hr]; rfl, hb⟩
theorem flat_size {a : Option Addr} {L : List Nd} {w : World} (R : Rt L) (h : IsNs w a L) (m : Nat) : ((L.take m).flatMap fun x => lineL x ++ [10]).length ≤ 5000000 := by
 have h1 := flatN_len (fun x => lineL x ++ [10]) (L.take m) (fun x hx => by
   have hx2 := List.mem_of_mem_take hx
   have := line_small (R.ok x hx2).1 (h.2.1 x hx2)
   simp only [List.length_append, List.length_singleton]
   omega)
 have h2 : (L.take m).length ≤ 40 := by rw [List.length_take]; have := R.few; omega
 have h3 : (L.take m).length * 100001 ≤ 40 * 100001 := Nat.mul_le_mul_right _ h2
 omega
theorem takeD_15 (l : List Nd) (d : Nd) (n i : Nat) (h : i < n) : (l.take n).getD i d = l.getD i d := by
 simp only [List.getD]
 rw [List.getElem?_take_of_lt h]
theorem ns_take15 {w : World} {a : Option Addr} {l : List Nd} (h : IsNs w a l) (n : Nat) : IsNs w a (l.take n) := by
 obtain ⟨h1, h2, h3⟩ := h
 have hl := List.length_take (i := n) (l := l)
 refine ⟨by omega, fun x hx => h2 x (List.mem_of_mem_take hx), fun hp => ?_⟩
 obtain ⟨b, off, e, hc⟩ := h3 (by omega)
 refine ⟨b, off, e, fun i hi => ?_⟩
 rw [takeD_15 l _ n i (by omega)]
 exact hc i (by omega)
theorem small15_c (a : Option Addr) (len cap : Nat) (l : List Nd) (w : World) (lz : l.length = len) (lc : len ≤ cap) :
   Calls Tryd.prog 16 #[.slice a len cap] w fun e w' => e = .returned (.slice a (l.take 42).length cap) ∧ w' = w := by
 by_cases q : 42 < len
 · have q1 : (42 : Int) < (len : Int) := by omega
   have q2 : (42 : Int) ≤ (cap : Int) := by omega
   have e : (l.take 42).length = 42 := by rw [List.length_take]; omega
   rw [e]
   clear e lz
   go_enter Tryd.func16, Tryd.ntmps16
   go_wp2
   go_ret
   exact ⟨rfl, rfl⟩
 · have q1 : decide ((42 : Int) < (len : Int)) = false := decide_eq_false (by omega)
   have e : (l.take 42).length = len := by rw [List.length_take]; omega
   rw [e]
   clear e lz
   go_enter Tryd.func16, Tryd.ntmps16
   go_wp2
   go_ret
   exact ⟨rfl, rfl⟩
end Go.Proofs.YtkokjkaclcjnjaaDoor
namespace Go.Proofs.YtkokjkaclcjnjaaDoor
open Go.RowKit Go.ChangeShapes Go.WideShapes Go.ChangeAt
set_option linter.unusedVariables false
set_option linter.unusedSimpArgs false
set_option maxRecDepth 100000
def treeP (s : List UInt8) : Option (List Nd) := (readN s.length 40 s).bind fun l => if rightD l = true then some l else none
def ReP (r : Option (List Nd)) (w : World) (e : Ending) (w' : World) : Prop := (match r with
 | none => e = .returned (.tuple #[.slice none 0 0, .int .i64 3])
 | some l => ∃ v L, e = .returned (.tuple #[v, .int .i64 0]) ∧ OwN w' w.heap.size v L ∧ (∀ x ∈ L, NdB w' w.heap.size x) ∧ L.map Nd.er = l) ∧ Below w.heap.size w w'
theorem ReP.no {r : Option (List Nd)} {w w' : World} (h : r = none) (hb : Below w.heap.size w w') : ReP r w (.returned (.tuple #[.slice none 0 0, .int .i64 3])) w' := ⟨by rw [h], hb⟩
def ReI (R : Option (List Nd)) (K : List Nd) (rest : List UInt8) : Prop := R = (readN rest.length (40 - K.length) rest).map (K ++ ·)
theorem readN_any : ∀ (n m r : Nat) (s : List UInt8), s.length ≤ n → s.length ≤ m → readN n r s = readN m r s
 | n, m, r, [], _, _ => by cases n <;> cases m <;> rfl
 | 0, m, r, a :: s, h, _ => by simp at h
 | n + 1, 0, r, a :: s, _, h => by simp at h
 | n + 1, m + 1, r, a :: s, h, h' => by
   rw [readN_step _ _ (by simp), readN_step _ _ (by simp)]
   cases hc : (cutL 10 (a :: s)).2 with
   | none => rfl
   | some t =>
     cases lineP (cutL 10 (a :: s)).1 with
     | none => rfl
     | some x =>
       cases r with
       | zero => rfl
       | succ r =>
         simp only
         have := congrArg List.length (cut_some hc).1
         rw [List.length_append, List.length_cons, List.length_cons] at this
         rw [List.length_cons] at h h'
         rw [readN_any n m r t (by omega) (by omega)]
theorem reI_nil {R : Option (List Nd)} {K : List Nd} (h : ReI R K []) : R = some K := by
 unfold ReI at h
 rw [h]
 show (readN 0 _ []).map _ = _
 have : readN 0 (40 - K.length) [] = some [] := rfl
 rw [this]
 simp
theorem reI_bad {R : Option (List Nd)} {K : List Nd} {rest : List UInt8} (h : ReI R K rest) (hne : rest ≠ []) (hb : (cutL 10 rest).2.isSome = false ∨ (lineP (cutL 10 rest).1).isSome = false ∨ K.length = 40) : R = none := by
 unfold ReI at h
 obtain ⟨n, hn⟩ : ∃ n, rest.length = n + 1 := ⟨rest.length - 1, by have := List.length_pos_iff.2 hne; omega⟩
 rw [h, hn, readN_step _ _ hne]
 cases h1 : (cutL 10 rest).2 with
 | none => rfl
 | some t =>
   cases h2 : lineP (cutL 10 rest).1 with
   | none => rfl
   | some x =>
     rcases hb with q | q | q
     · rw [h1] at q; cases q
     · rw [h2] at q; cases q
     · rw [q]; rfl
theorem reI_next {R : Option (List Nd)} {K : List Nd} {rest t : List UInt8} {x : Nd} (h : ReI R K rest) (hne : rest ≠ []) (h1 : (cutL 10 rest).2 = some t) (h2 : lineP (cutL 10 rest).1 = some x) (h3 : K.length < 40) : ReI R (K ++ [x]) t := by
 unfold ReI at h ⊢
 obtain ⟨n, hn⟩ : ∃ n, rest.length = n + 1 := ⟨rest.length - 1, by have := List.length_pos_iff.2 hne; omega⟩
 have hl := congrArg List.length (cut_some h1).1
 rw [List.length_append, List.length_cons] at hl
 obtain ⟨r, hr⟩ : ∃ r, 40 - K.length = r + 1 := ⟨39 - K.length, by omega⟩
 rw [h, hn, readN_step _ _ hne, h1, h2, hr]
 simp only
 rw [map_snoc, List.length_append, List.length_singleton, show 40 - (K.length + 1) = r by omega, readN_any n t.length r t (by omega) (Nat.le_refl _)]
theorem NsB.is {w : World} {base : Nat} {v : Value} {L : List Nd} (h : OwN w base v L) (hk : ∀ x ∈ L, NdB w base x) (hm : L.length ≤ 100000) : ∃ a cap, v = .slice a L.length cap ∧ IsNs w a L := h.is (fun x hx => (hk x hx).ok) hm
theorem LiP.any {r : Option Nd} {w w' : World} {e : Ending} (h : LiP r w e w') : ∃ y : Nd, e = .returned (.tuple #[y.val, .bool r.isSome]) ∧ Below w.heap.size w w' := by
 obtain ⟨h1, h2⟩ := h
 cases r with
 | none => exact ⟨Nd.no, h1, h2⟩
 | some x => obtain ⟨y, e, _⟩ := h1; exact ⟨y, e, h2⟩
set_option maxHeartbeats 8000000 in
theorem tread_c (s : ByteArray) (w : World) (hs : s.size ≤ 10000000) (hm : MxW w) :
   Calls Tryd.prog 22 #[.string s] w (ReP (treeP s.data.toList) w) := by
 obtain ⟨R, hR⟩ : ∃ R, R = readN s.data.toList.length 40 s.data.toList := ⟨_, rfl⟩
 have N : Hid (ReI R [] s.data.toList) := hid (by unfold ReI; rw [hR]; simp)
 obtain ⟨T, hT⟩ : ∃ T, T = treeP s.data.toList := ⟨_, rfl⟩
 have HT : Hid (T = R.bind fun l => if rightD l = true then some l else none) := hid (by rw [hT, hR]; rfl)
 rw [← hT]
 have hlen : s.data.toList.length ≤ 10000000 := hs
 have HM := hid hm
 clear hR hT hs hm
 have es : s = tB s.data.toList := (tB_of s).symm
 generalize s.data.toList = l0 at *
 subst es
 go_enter Tryd.func22, Tryd.ntmps22
 go_wp2
 go_loopg [0, 4] l0.length (fun gk v0 v4 wr => ∃ (rest : List UInt8) (K : List Nd), v0 = .string (tB rest) ∧ K.length ≤ 40 ∧ rest.length ≤ 10000000 ∧ gk = rest.length ∧ Hid (OwN wr w.heap.size v4 K) ∧ Hid (∀ x ∈ K, NdB wr w.heap.size x) ∧ Hid (Below w.heap.size w wr) ∧ Hid (ReI R (K.map Nd.er) rest))
 case atStart => exact ⟨l0, [], rfl, by simp, hlen, rfl, hid (OwN.nil _ _), hid (fun x hx => by cases hx), hid (Below.refl _ _), N⟩
 case round =>
   obtain ⟨rest, K, rfl, hK, hrl, hgk, HO, HN, HB, HI⟩ := hrel
   clear N
   by_cases hre : rest = []
   · subst hre
     have e1 : ((tB []).toList != []) = false := by rw [Lib.toList_data]; rfl
     have e2 : ((tB []).toList == []) = true := by rw [Lib.toList_data]; rfl
     have HR := hid (reI_nil HI.out)
     obtain ⟨a, c, rfl, hIs⟩ := NsB.is HO.out HN.out (by omega)
     have RC := hid (right_c a c K wr hIs (by omega))
     have HT2 : Hid (T = if rightD K = true then some (K.map Nd.er) else none) := hid (by
       rw [HT.out, HR.out]
       show (if rightD (K.map Nd.er) = true then some (K.map Nd.er) else none) = _
       rw [rightD_er])
     have hbz := HB.out.size
     by_cases hr : rightD K = true
     · have HRP := hid ((rightD_iff K).2 hr)
       have HT3 := hid (HT2.out.trans (if_pos hr))
       clear HT2 hr hIs
       go_wp2_with (go_at_call 37; refine RC.out.mono ?_; rintro _ w1 ⟨b, rfl, hb, hb1⟩; obtain rfl : b = true := hb.2 HRP.out; have B1 := hid hb1; clear hb hb1)
       refine bodyPost_ret (v := .tuple #[.slice a K.length c, .int .i64 0]) (by simp [results, Tryd.results22, go_sem]) rfl ⟨?_, HB.out.trans (B1.out.mono hbz)⟩
       rw [HT3.out]
       exact ⟨_, K, rfl, HO.out.later B1.out, fun x hx => (HN.out x hx).later B1.out, rfl⟩
     · have HRP : Hid (¬ RightP K) := hid (fun q => hr ((rightD_iff K).1 q))
       have HT3 := hid (HT2.out.trans (if_neg hr))
       clear HT2 hr hIs
       go_wp2_with (go_at_call 37; refine RC.out.mono ?_; rintro _ w1 ⟨b, rfl, hb, hb1⟩; obtain rfl : b = false := by { cases b with | false => rfl | true => exact absurd (hb.1 rfl) HRP.out }; have B1 := hid hb1; clear hb hb1)
       refine bodyPost_ret (v := .tuple #[.slice none 0 0, .int .i64 3]) (by simp [results, Tryd.results22, go_sem]) rfl (ReP.no HT3.out (HB.out.trans (B1.out.mono hbz)))
   · have e2 : ((tB rest).toList == []) = false := by rw [Lib.toList_data, beq_eq_false_iff_ne]; exact hre
     have HNE := hid hre
     clear hre
     have hbz := HB.out.size
     obtain ⟨va, vc, rfl⟩ := HO.out.shape
     have CC := hid (cut_c 10 (tB rest) wr (by rw [tB_size]; omega) (HM.out.later HB.out))
     rw [tB_data] at CC
     have hc := cut_size 10 rest
     have LC := hid (fun W (hW : Below w.heap.size w W) => readLine_c (tB (cutL 10 rest).1) W (by rw [tB_size]; omega) (HM.out.later hW))
     rw [tB_data] at LC
     by_cases good : (cutL 10 rest).2.isSome = true ∧ (lineP (cutL 10 rest).1).isSome = true ∧ K.length ≠ 40
     · obtain ⟨g1, g2, g3⟩ := good
       obtain ⟨t, ht⟩ := Option.isSome_iff_exists.1 g1
       obtain ⟨x, hx⟩ := Option.isSome_iff_exists.1 g2
       have HNX := hid (reI_next HI.out HNE.out ht hx (by rw [List.length_map]; omega))
       have htl : t.length < rest.length := by
         have := congrArg List.length (cut_some ht).1
         rw [List.length_append, List.length_cons] at this
         omega
       have HTL := hid htl
       rw [ht] at CC
       rw [hx] at LC
       simp only [Option.getD_some, Option.isSome_some] at CC LC
       unfold LiP at LC
       simp only at LC
       generalize (cutL 10 rest).1 = e at *
       have g3I : ((K.length : Int) == 40) = false := by rw [beq_eq_false_iff_ne]; omega
       have HG3 := hid g3
       have HKK := hid hK
       have HGK := hid hgk
       have HRL := hid hrl
       have NW : Hid (∀ (w2 : World) (y : Nd), ((w2.alloc (.cells y.cells.toArray 35)).alloc (.cells y.cells.toArray 35)).heap[w2.heap.size + 1]? = some (.cells y.cells.toArray 35 (0, 0)) ∧ Below w2.heap.size w2 ((w2.alloc (.cells y.cells.toArray 35)).alloc (.cells y.cells.toArray 35)) ∧ (∀ W : World, W = (w2.alloc (.cells y.cells.toArray 35)) → W.heap[w2.heap.size]? = some (.cells y.cells.toArray 35 (0, 0)))) := hid (fun w2 y => ⟨by have := heap_alloc_new (w2.alloc (.cells y.cells.toArray 35)) (.cells y.cells.toArray 35); rwa [World.size_alloc] at this, (below_1 w2 _).trans ((below_1 _ _).mono (by simp)), fun W hW => by rw [hW]; exact heap_alloc_new w2 _⟩)
       have hkl : K.length ≤ 10000 := by omega
       clear g1 g2 g3 ht hx HI htl hK hgk hrl hc
       generalize hkn : K.length = kn at *
       have HKN := hid hkn
       clear hkn
       go_wp2_with (first
         | (at_builtin; refine wpList_appNd _ rfl _ _ rfl w.heap.size _ K rfl O4.out (w2.heap.size + 1) _ ⟨yf, yk, ym, yl, yda, ydc, yzs, yka, ykc, yks⟩ rfl N4.out (by rw [HKN.out]; exact hkl) B4.out.size ?_; intro v9 w9 hown9 hgrow9; have B9 := hid (below_grownN B4.out O4.out (Nat.le_refl _) B4.out.size hgrow9); have O9 := hid hown9; have G9 := hid hgrow9; obtain ⟨a9, c9, rfl⟩ := hown9.shape; clear hown9 hgrow9)
         | (go_at_call 44; refine (LC.out _ (HB.out.trans (C1.out.mono hbz))).mono ?_; rintro _ w2 ⟨⟨y, rfl, hye, hyn⟩, hb2⟩; obtain ⟨n4, b4, m4⟩ := NW.out w2 y; have C4 := hid ((C1.out.trans (hb2.mono C1.out.size)).trans (b4.mono (Nat.le_trans C1.out.size hb2.size))); have N4 := hid n4; have O4 := hid (HO.out.later C4.out); have B4 := hid (HB.out.trans (C4.out.mono hbz)); have Y4 := hid ((hyn.later b4).low (Nat.le_trans hbz C1.out.size)); have E4 := hid hye; have hm4 := m4 _ rfl; obtain ⟨z0, z1, z2, z3, z4, z5⟩ := nd_cells hm4; clear hb2 hye hyn n4 b4 m4 hm4; obtain ⟨yf, yk, ym, yl, yda, ydc, yzs, yka, ykc, yks⟩ := y; simp only [Nd.val, Nd.cells] at *)
         | (go_at_call 43; refine CC.out.mono ?_; rintro _ w1 ⟨rfl, hb1⟩; have C1 := hid hb1; clear hb1))
       have hgx := HGK.out
       have htx := HTL.out
       have hrx := HRL.out
       have HN9 : Hid (∀ x ∈ K ++ [(⟨yf, yk, ym, yl, yda, ydc, yzs, yka, ykc, yks⟩ : Nd)], NdB w9 w.heap.size x) := hid (fun x hx => by
         rcases List.mem_append.1 hx with hx | hx
         · exact ((HN.out x hx).later C4.out).grown O4.out G9.out
         · rw [List.mem_singleton] at hx
           subst hx
           exact Y4.out.grown O4.out G9.out)
       go_roundg t.length
       case measure => omega
       case rel => exact ⟨t, K ++ [⟨yf, yk, ym, yl, yda, ydc, yzs, yka, ykc, yks⟩], rfl, by have h1 := HKK.out; have h2 := HG3.out; have h3 := HKN.out; rw [List.length_append, List.length_singleton]; omega, by omega, rfl, hid (by have h5 := O9.out; rw [List.length_append, List.length_singleton] at h5; exact h5), HN9, B9, hid (by rw [List.map_append, List.map_cons, List.map_nil, E4.out]; exact HNX.out)⟩
     · have NB : Hid (R = none) := hid (reI_bad HI.out HNE.out (by
         cases q1 : (cutL 10 rest).2.isSome with
         | false => exact .inl rfl
         | true =>
           cases q2 : (lineP (cutL 10 rest).1).isSome with
           | false => exact .inr (.inl rfl)
           | true => exact .inr (.inr (by rw [List.length_map]; exact Classical.byContradiction fun q3 => good ⟨q1, q2, q3⟩))))
       have NT : Hid (T = none) := hid (by rw [HT.out, NB.out]; rfl)
       have LC2 := hid (fun W hW => (LC.out W hW).mono (fun _ _ h => LiP.any h))
       clear LC NB HI HT HN
       obtain ⟨q, hq⟩ : ∃ q, ((K.length : Int) == 40) = q := ⟨_, rfl⟩
       have key : (cutL 10 rest).2.isSome = false ∨ ((cutL 10 rest).2.isSome = true ∧ (lineP (cutL 10 rest).1).isSome = false) ∨ ((cutL 10 rest).2.isSome = true ∧ (lineP (cutL 10 rest).1).isSome = true ∧ q = true) := by
         cases q1 : (cutL 10 rest).2.isSome with
         | false => exact .inl rfl
         | true =>
           cases q2 : (lineP (cutL 10 rest).1).isSome with
           | false => exact .inr (.inl ⟨rfl, rfl⟩)
           | true => exact .inr (.inr ⟨rfl, rfl, by rw [← hq, beq_iff_eq]; have : K.length = 40 := Classical.byContradiction fun q3 => good ⟨q1, q2, q3⟩; omega⟩)
       generalize (cutL 10 rest).2.isSome = cb at *
       generalize (lineP (cutL 10 rest).1).isSome = ob at *
       generalize (cutL 10 rest).2.getD [] = t at *
       generalize (cutL 10 rest).1 = e at *
       clear good hc hK
       generalize K.length = kn at *
       rcases key with rfl | ⟨rfl, rfl⟩ | ⟨rfl, rfl, rfl⟩
       all_goals
         go_wp2_with (first
           | (go_at_call 44; refine (LC2.out _ (HB.out.trans (C1.out.mono hbz))).mono ?_; rintro _ w2 ⟨y, rfl, hb2⟩; have B2 := hid ((HB.out.trans (C1.out.mono hbz)).trans (hb2.mono (Nat.le_trans hbz C1.out.size))); clear hb2; obtain ⟨yf, yk, ym, yl, yda, ydc, yzs, yka, ykc, yks⟩ := y; simp only [Nd.val])
           | (go_at_call 43; refine CC.out.mono ?_; rintro _ w1 ⟨rfl, hb1⟩; have C1 := hid hb1; clear hb1))
         refine bodyPost_ret (v := .tuple #[.slice none 0 0, .int .i64 3]) (by simp [results, Tryd.results22, go_sem]) rfl (ReP.no NT.out (B2.out.trans ((below_1 w2 _).mono B2.out.size)))
end Go.Proofs.YtkokjkaclcjnjaaDoor
