/-
  The document's Line: its answer.
  The document's Tree; the law's small and sameTexts.
-/
import Derived.Test.YtkokjkaclcjnjaaDoorTrBz
import Derived.Test.YtkokjkaclcjnjaaDoorTrBu
namespace Go.Proofs.YtkokjkaclcjnjaaDoor
open Go.RowKit Go.ChangeShapes Go.WideShapes Go.ChangeAt
set_option linter.unusedVariables false
set_option linter.unusedSimpArgs false
set_option maxRecDepth 100000
theorem node_kind {x : Nd} (hr : nodeOk x = true) : x.k = 1 ∨ x.k = 2 ∨ x.k = 3 := by
 unfold nodeOk at hr
 simp only [Bool.and_eq_true] at hr
 have h3 := hr.2
 by_cases q1 : x.k = 1
 · exact .inl q1
 by_cases q2 : x.k = 2
 · exact .inr (.inl q2)
 by_cases q3 : x.k = 3
 · exact .inr (.inr q3)
 · simp [q1, q2, q3] at h3
theorem rline_ok (x : Nd) (w : World) (hx : x.Ok w) (hr : nodeOk x = true) (ht : TabW w) : Calls Tryd.prog 15 #[x.val] w fun e w' => e = .returned (.tuple #[.string ⟨(lineL x).toArray⟩, .int .i64 0]) ∧ Below w.heap.size w w' := by
 have hk := node_kind hr
 obtain ⟨f, k, m, l, da, dc, zs, ka, kc, ks⟩ := x
 simp only at hk
 rcases hk with rfl | rfl | rfl
 · exact rline_1 f m l da dc zs ka kc ks w hx hr ht
 · exact rline_2 f m l da dc zs ka kc ks w hx hr ht
 · exact rline_3 f m l da dc zs ka kc ks w hx hr ht
theorem rline_c (x : Nd) (w : World) (hx : x.Ok w) (ht : TabW w) : Calls Tryd.prog 15 #[x.val] w (LnP x w) := by
 cases hr : nodeOk x with
 | false => exact rline_no x w hx hr
 | true =>
   refine (rline_ok x w hx hr ht).mono ?_
   rintro e w' ⟨h1, h2⟩
   exact ⟨by rw [hr, if_pos rfl]; exact h1, h2⟩
end Go.Proofs.YtkokjkaclcjnjaaDoor
namespace Go.Proofs.YtkokjkaclcjnjaaDoor
open Go.RowKit Go.ChangeShapes Go.WideShapes Go.ChangeAt Go.Maps Go.Shelf
set_option linter.unusedVariables false
set_option linter.unusedSimpArgs false
set_option maxRecDepth 100000
theorem join_fewR : ∀ {ks : List Kd}, (∀ y ∈ ks, y.nm.size ≤ 1000) → (∀ y ∈ ks, y.Wf) → ks.length ≤ 12 → (Lib.join (ks.map fun k => (kidT k).data.toList) [44]).length ≤ 13000
 | [], _, _, _ => by simp [Lib.join]
 | a :: t, hn, hw, hz => by
   rw [List.map_cons, Lib.join_cons, List.length_append]
   have h1 := kidT_size (hn a (List.mem_cons_self ..)) (hw a (List.mem_cons_self ..))
   have h2 := joinTail_len [44] (t.map fun k => (kidT k).data.toList) (fun x hx => by
     obtain ⟨k, hk, rfl⟩ := List.mem_map.1 hx
     exact kidT_size (hn k (List.mem_cons_of_mem _ hk)) (hw k (List.mem_cons_of_mem _ hk)))
   rw [List.length_map] at h2
   rw [List.length_cons] at hz
   have h3 : t.length * ([44].length + 1021) ≤ 11 * 1022 := Nat.mul_le_mul (by omega) (by decide)
   omega
theorem line_small {x : Nd} {w : World} (h : nodeOk x = true) (hx : x.Ok w) : (lineL x).length ≤ 20000 := by
 obtain ⟨s1, s2, s3⟩ := node_small h
 have hw : ∀ y ∈ x.ks, y.Wf := hx.2.2.2.2.2.2.1
 have hi : (insB x).size ≤ 14000 := by
   unfold insB
   split
   · split
     · show 1 ≤ _; omega
     · show (List.toArray _).size ≤ _
       rw [List.size_toArray]
       have := join_fewR (fun y hy => by have := s3 y hy; omega) hw s2
       omega
   · show (List.toArray _).size ≤ _
     rw [List.size_toArray]
     have h1 := (quote_len (Fr.tx x.zs).data.toList).2
     have h2 : (Fr.tx x.zs).data.toList.length = x.zs.length := txs_size x.zs
     omega
 have h1 := decB_size (u := x.fid.toNat) (by have := hx.1; omega)
 have h2 := decB_size (u := x.md.toNat) (by have := hx.2.2.1; omega)
 have h3 := decB_size (u := x.ln.toNat) (by have := hx.2.2.2.1; omega)
 have h4 := wordB_size x.k
 unfold lineL
 rw [← line_head]
 show (headB _ _ _ _ ++ insB x).size ≤ _
 rw [ba_app, headB_size]
 omega
def treeL (L : List Nd) : List UInt8 := L.flatMap fun x => lineL x ++ [10]
def TrP (L : List Nd) (w : World) (e : Ending) (w' : World) : Prop := (e = if rightD L = true then .returned (.tuple #[.string ⟨(treeL L).toArray⟩, .int .i64 0]) else .returned (.tuple #[.string ⟨#[]⟩, .int .i64 3])) ∧ Below w.heap.size w w'
theorem ptree_c {a : Option Addr} {L : List Nd} (cap : Nat) {w : World} (h : IsNs w a L) (hm : L.length ≤ 100000) (ht : TabW w) : Calls Tryd.prog 17 #[.slice a L.length cap] w (TrP L w) := by
 cases hr : rightD L with
 | false =>
   refine (tree_no cap h hm (fun q => by rw [(rightD_iff L).1 q] at hr; cases hr)).mono ?_
   rintro e w' ⟨rfl, hb⟩
   exact ⟨by rw [hr]; rfl, hb⟩
 | true =>
   have R := rightD_rt.1 hr
   refine (tree_c cap h ((rightD_iff L).2 hr) lineL (fun x hx => by have := line_small (R.ok x hx).1 (h.2.1 x hx); omega) (hid (fun x hx W hW => by
     obtain ⟨s1, s2, s3⟩ := node_small (R.ok x hx).1
     exact lineOf_c x W ((h.2.1 x hx).later hW) s1 (by omega) (fun y hy => by have := s3 y hy; omega) (ht.later hW)))).mono ?_
   rintro e w' ⟨rfl, hb⟩
   exact ⟨by rw [hr]; rfl, hb⟩
theorem flat_size {a : Option Addr} {L : List Nd} {w : World} (R : Rt L) (h : IsNs w a L) (m : Nat) : ((L.take m).flatMap fun x => lineL x ++ [10]).length ≤ 5000000 := by
 have h1 := flatN_len (fun x => lineL x ++ [10]) (L.take m) (fun x hx => by
   have hx2 := List.mem_of_mem_take hx
   have := line_small (R.ok x hx2).1 (h.2.1 x hx2)
   simp only [List.length_append, List.length_singleton]
   omega)
 have h2 : (L.take m).length ≤ 40 := by rw [List.length_take]; have := R.few; omega
 have h3 : (L.take m).length * 100001 ≤ 40 * 100001 := Nat.mul_le_mul_right _ h2
 omega
theorem ba_l (a b : List UInt8) : (⟨a.toArray⟩ : ByteArray) ++ ⟨b.toArray⟩ = ⟨(a ++ b).toArray⟩ := by
 apply ByteArray.ext
 rw [ByteArray.data_append]
 simp
set_option maxHeartbeats 4000000 in
theorem rtree_c {a : Option Addr} {L : List Nd} (cap : Nat) {w : World} (h : IsNs w a L) (hm : L.length ≤ 100000) (ht : TabW w) : Calls Tryd.prog 18 #[.slice a L.length cap] w (TrP L w) := by
 have RC := hid (rRight_c a cap L w h hm)
 unfold TrP
 cases hr : rightD L with
 | false =>
   rw [hr] at RC
   simp only [Bool.false_eq_true, if_false]
   go_enter Tryd.func18, Tryd.ntmps18
   go_wp2_with (go_at_call 39; refine RC.out.mono ?_; rintro _ w1 ⟨rfl, hb1⟩; have B1 := hid hb1; clear hb1)
   refine bodyPost_ret (v := .tuple #[.string ⟨#[]⟩, .int .i64 3]) (by simp [results, Tryd.results18, go_sem]) rfl ⟨rfl, B1.out⟩
 | true =>
   rw [hr] at RC
   simp only [if_true]
   have R := rightD_rt.1 hr
   have h40 := R.few
   have FL := hid (fun m => flat_size (m := m) R h)
   have LC : Hid (∀ x ∈ L, ∀ W, Below w.heap.size w W → Calls Tryd.prog 15 #[x.val] W fun e w' => e = .returned (.tuple #[.string ⟨(lineL x).toArray⟩, .int .i64 0]) ∧ Below W.heap.size W w') := hid (fun x hx W hW => by
     refine (rline_c x W ((h.2.1 x hx).later hW) (ht.later hW)).mono ?_
     rintro e w' ⟨h1, h2⟩
     rw [(R.ok x hx).1, if_pos rfl] at h1
     exact ⟨h1, h2⟩)
   have HS := hid (fun x (hx : x ∈ L) => line_small (R.ok x hx).1 (h.2.1 x hx))
   have HI := hid h
   unfold treeL
   clear h ht R hr
   go_enter Tryd.func18, Tryd.ntmps18
   go_upto_region 4 with (go_at_call 39; refine RC.out.mono ?_; rintro _ w1 ⟨rfl, hb1⟩; have B1 := hid hb1; clear hb1)
   go_wp2
   go_loopg [4, 5] L.length (fun gk v4 v5 wr => ∃ i : Nat, i + gk = L.length ∧ v5 = .int .i64 i ∧ v4 = .string ⟨((L.take i).flatMap fun x => lineL x ++ [10]).toArray⟩ ∧ Hid (Below w.heap.size w wr))
   case atStart => exact ⟨0, by omega, rfl, rfl, B1⟩
   case round =>
     obtain ⟨i, hi, rfl, rfl, BX⟩ := hrel
     by_cases hlt : i < L.length
     · have hltI : (i : Int) < L.length := by omega
       obtain ⟨b', off, hka, _⟩ := HI.out.2.2 (by omega)
       subst hka
       obtain ⟨c0, c1, c2, c3, c4, c5⟩ := ((HI.out.later BX.out).at hlt).all
       have hmem := getD_mem L Nd.no hlt
       have LCx := hid (LC.out _ hmem wr BX.out)
       have hls := HS.out _ hmem
       have hfl := FL.out i
       have ET : Hid ((L.take (i + 1)).flatMap (fun x => lineL x ++ [10]) = (L.take i).flatMap (fun x => lineL x ++ [10]) ++ (lineL (L.getD i Nd.no) ++ [10])) := hid (take_flatN _ L i hlt)
       clear hmem
       generalize hE2 : (L.take (i + 1)).flatMap (fun x => lineL x ++ [10]) = E2 at *
       have HE2 := hid hE2
       clear hE2
       generalize (L.take i).flatMap (fun x => lineL x ++ [10]) = E at *
       generalize L.getD i Nd.no = x at *
       generalize lineL x = l at *
       obtain ⟨xf, xk, xm, xl, xda, xdc, xzs, xka, xkc, xks⟩ := x
       simp only [Nd.val] at LCx
       simp only at c0 c1 c2 c3 c4 c5
       obtain ⟨T, hT⟩ : ∃ T : ByteArray, T = ⟨E.toArray⟩ := ⟨_, rfl⟩
       obtain ⟨U, hU⟩ : ∃ U : ByteArray, U = ⟨l.toArray⟩ := ⟨_, rfl⟩
       have hTs : T.size ≤ 5000000 := by rw [hT, ba_size]; exact hfl
       have hUs : U.size ≤ 20000 := by rw [hU, ba_size]; exact hls
       have HSUM : Hid (T ++ (U ++ ⟨#[10]⟩) = ⟨E2.toArray⟩) := hid (by rw [hT, hU, ET.out, ← ba_l, ← ba_l])
       rw [← hU] at LCx
       rw [← hT]
       have z1 : ¬ 9223372036854775807 < U.size + 1 := by omega
       have z2 : ¬ 9223372036854775807 < T.size + (U.size + 1) := by omega
       clear hT hU ET hfl hls
       go_wp2_with (go_at_call 15; refine LCx.out.mono ?_; rintro _ w2 ⟨rfl, hb2⟩; have B2 := hid (BX.out.trans (hb2.mono BX.out.size)); clear hb2)
       rw [HSUM.out]
       go_roundg (gk - 1)
       case measure => omega
       case rel => exact ⟨i + 1, by omega, by go_num, by rw [HE2.out], B2⟩
     · have hge : ¬ (i : Int) < L.length := by omega
       rw [List.take_of_length_le (by omega)]
       go_wp2
       refine bodyPost_ret (v := .tuple #[.string ⟨(L.flatMap (fun x => lineL x ++ [10])).toArray⟩, .int .i64 0]) (by simp [results, Tryd.results18, go_sem]) rfl ⟨rfl, BX.out⟩
theorem takeD_15 (l : List Nd) (d : Nd) (n i : Nat) (h : i < n) : (l.take n).getD i d = l.getD i d := by
 simp only [List.getD]
 rw [List.getElem?_take_of_lt h]
theorem ns_take15 {w : World} {a : Option Addr} {l : List Nd} (h : IsNs w a l) (n : Nat) : IsNs w a (l.take n) := by
 obtain ⟨h1, h2, h3⟩ := h
 have hl := List.length_take (i := n) (l := l)
 refine ⟨by omega, fun x hx => h2 x (List.mem_of_mem_take hx), fun hp => ?_⟩
 obtain ⟨b, off, e, hc⟩ := h3 (by omega)
 refine ⟨b, off, e, fun i hi => ?_⟩
 rw [takeD_15 l _ n i (by omega)]
 exact hc i (by omega)
theorem small15_c (a : Option Addr) (len cap : Nat) (l : List Nd) (w : World) (lz : l.length = len) (lc : len ≤ cap) :
   Calls Tryd.prog 16 #[.slice a len cap] w fun e w' => e = .returned (.slice a (l.take 42).length cap) ∧ w' = w := by
 by_cases q : 42 < len
 · have q1 : (42 : Int) < (len : Int) := by omega
   have q2 : (42 : Int) ≤ (cap : Int) := by omega
   have e : (l.take 42).length = 42 := by rw [List.length_take]; omega
   rw [e]
   clear e lz
   go_enter Tryd.func16, Tryd.ntmps16
   go_wp2
   go_ret
   exact ⟨rfl, rfl⟩
 · have q1 : decide ((42 : Int) < (len : Int)) = false := decide_eq_false (by omega)
   have e : (l.take 42).length = len := by rw [List.length_take]; omega
   rw [e]
   clear e lz
   go_enter Tryd.func16, Tryd.ntmps16
   go_wp2
   go_ret
   exact ⟨rfl, rfl⟩
theorem sameTexts_c {w : World} (b1 b2 : Nat) (v1 v2 : Value) (P : List ByteArray) (h1 : OwS w b1 v1 P) (h2 : OwS w b2 v2 P) (hP : P.length ≤ 100000) :
   Calls Tryd.prog 19 #[v1, v2] w fun e w' => e = .returned (.bool true) ∧ Below w.heap.size w w' := by
 obtain ⟨a1, c1, rfl⟩ := h1.shape
 obtain ⟨a2, c2, rfl⟩ := h2.shape
 have H1 := hid h1
 have H2 := hid h2
 clear h1 h2
 obtain ⟨n, hn⟩ : ∃ n, n = P.length := ⟨_, rfl⟩
 have HN := hid hn
 rw [← hn] at hP ⊢
 clear hn
 go_enter Tryd.func19, Tryd.ntmps19
 go_wp2
 go_loopw [5] (fun k wr => ∃ m : Nat, m ≤ n ∧ k = .int .i64 m ∧ Below w.heap.size w wr) (fun k _ => (n - intOf k).toNat)
 case atStart => exact ⟨0, by omega, rfl, Below.refl _ _⟩
 case round =>
   obtain ⟨m, hm, rfl, hB⟩ := hrel
   by_cases hml : m < n
   · obtain ⟨g1, rfl, l1, _, d1⟩ := H1.out.cells (by have := HN.out; omega)
     obtain ⟨g2, rfl, l2, _, d2⟩ := H2.out.cells (by have := HN.out; omega)
     have hx : P[m]? = some (P.getD m ⟨#[]⟩) := by rw [List.getD, List.getElem?_eq_getElem (by have := HN.out; omega)]; rfl
     have k1 := cell_later hB (d1 m _ hx)
     have k2 := cell_later hB (d2 m _ hx)
     clear hx d1 d2
     rw [Nat.zero_add] at k1 k2
     generalize P.getD m ⟨#[]⟩ = z at k1 k2
     have bz : (z.toList == z.toList) = true := beq_self_eq_true _
     have bn : (z.toList != z.toList) = false := by simp
     have hmI : (m : Int) < (n : Int) := by omega
     go_wp2
     go_quiet (fail)
     go_wp2
     go_roundw
     case rel => exact ⟨m + 1, by omega, by go_num, below_drewN hB _⟩
     case measure => simp [intOf]; omega
   · go_wp2
     go_ret
     exact ⟨rfl, hB⟩
end Go.Proofs.YtkokjkaclcjnjaaDoor
