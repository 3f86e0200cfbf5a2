/-
  The document's Take, with whose the bytes are. (Written by gen_dtake.py.)
  The document's Snapshot: a snapshot's bytes.
  The document's Reader.Snapshot.
  The document's ReadSnapshot.
-/
import Derived.Test.YtbgninmkglgfeaaRfR
import Derived.Test.YtbgninmkglgfeaaRTr
import Derived.Test.YtbgninmkglgfeaaRNn
import Derived.Test.YtbgninmkglgfeaaGD
import Derived.Test.YtbgninmkglgfeaaRN3
import Derived.Test.YtbgninmkglgfeaaGS
import Derived.Test.YtbgninmkglgfeaaRR7
import Derived.Test.YtbgninmkglgfeaaGU
namespace Go.Proofs.Ytbgninmkglgfeaa
open Go.RowKit Go.ChangeShapes Go.WideShapes Go.ChangeAt
set_option linter.unusedVariables false
set_option linter.unusedSimpArgs false
set_option maxRecDepth 100000
/-- What Take answers and leaves. -/
def TaPost2 (w : World) (r : Nat) (bd : Bool) (zs : List Int) (n : Nat) (e : Ending) (w' : World) : Prop :=
  Kf r w w' ∧ if bd = false ∧ n ≤ zs.length then (∃ v, e = .returned v ∧ w'.ownsRow w.heap.size 5 1 v n ((zs.take n).map u8V)) ∧ RdR w' r false (zs.drop n) else e = .returned (.slice none 0 0) ∧ RdR w' r true zs
theorem take_end2 {w w9 : World} {r n b off l' c' : Nat} {zs : List Int} {v9 u : Value} (hrl : r < w.heap.size) (hn : n < 70000) (hp : n ≤ zs.length) (hz : ∀ i, 0 ≤ (zs.take n).getD i 0 ∧ (zs.take n).getD i 0 ≤ 255)
    (b9 : Below w.heap.size w w9) (r9 : w9.heap[r]? = some (.cells #[u, .bool false] 63 (0, 0))) (o9 : w9.ownsRow w.heap.size 5 1 v9 (0 + n) ([] ++ (zs.take n).map u8V))
    (hc : l' ≤ c') (hb : b < r) (hI : IsB w (some ⟨b, off, none⟩) l' (zs.drop n)) : TaPost2 w r false zs n (.returned v9) (w9.setCell ⟨r, 0, none⟩ (.slice (some ⟨b, off, none⟩) l' c')) := by
  refine ⟨(Kf.of b9).set _ _, ?_⟩
  rw [if_pos ⟨rfl, hp⟩]
  rw [Nat.zero_add, List.nil_append] at o9
  exact ⟨⟨v9, rfl, own_set o9 hrl _⟩, some ⟨b, off, none⟩, l', c', set0F _ r9, isB_blkF (hI.later b9) (heap_setCell_other _ _ _ _ (by show b ≠ r; omega)), hc, .inr ⟨_, _, rfl, hb⟩⟩
set_option maxHeartbeats 2000000 in
theorem rdTake2_c {w : World} {r : Nat} {bd : Bool} {zs : List Int} (h : RdR w r bd zs) (n : Nat) (hn : n < 70000) :
    Calls Try.prog 66 #[.pointer (some ⟨r, 0, none⟩), .int .i64 n] w (TaPost2 w r bd zs n) := by
  have HB := hid h.bad
  have hrl := h.lt
  obtain ⟨a, len, c, h1, h2, h3, h4⟩ := h
  obtain ⟨c0, c1, f0, f1⟩ := cellsF h1
  have hm := h2.2.1
  unfold maxLen at hm
  have H1 := hid h1
  have H2 := hid h2
  have hl := h2.1
  obtain ⟨i0, hi, hz0, hz1, hz2⟩ := info_partsF
  cases bd with
  | true =>
    clear h1 h2 h4
    go_enter Try.func66, Try.ntmps66
    go_wp2
    go_ret
    exact ⟨(Kf.refl _ _).set _ _, by rw [if_neg (by simp)]; exact ⟨rfl, HB.out⟩⟩
  | false =>
    by_cases q : n ≤ len
    · have qI : ¬ (len : Int) < (n : Int) := by omega
      have qI2 : (n : Int) ≤ (len : Int) := by omega
      have qI3 : (n : Int) ≤ (c : Int) := by omega
      have qd : decide ((len : Int) < (n : Int)) = false := decide_eq_false qI
      have HP : Hid (n ≤ zs.length) := hid (by rw [hl]; exact q)
      have b1 : Below w.heap.size w (w.alloc (.cells #[] 5)) := (Below.refl _ _).alloc (Nat.le_refl _) _
      have A1 : Hid ((w.alloc (.cells #[] 5)).heap[r]? = some (.cells #[.slice a len c, .bool false] 63 (0, 0))) := hid ((b1.block r hrl).trans h1)
      have E1 := hid (own_emptyF w)
      have I1 := hid (h2.later b1)
      have hz1' : (w.alloc (.cells #[] 5)).heap.size = w.heap.size + 1 := by simp
      rcases h4 with ⟨rfl, hnc⟩ | ⟨b, off, rfl, hbr⟩
      · obtain rfl : n = 0 := by omega
        have hz : zs = [] := List.eq_nil_of_length_eq_zero hl
        subst hz
        have B1 := hid b1
        cases a with
        | none =>
          obtain rfl := hnc rfl
          clear h1 h2 b1 hl HB
          go_enter Try.func66, Try.ntmps66
          go_wp2_with (at_builtin; refine wpList_append_own_none rfl _ _ 22 rfl w.heap.size 5 i0 1 Try.underlying22 hi _ _ _ rfl E1.out rfl ?_)
          go_ret
          refine ⟨((Kf.refl r w).set 0 _).trans (Kf.of ((Below.refl _ _).alloc (Nat.le_refl _) _)), ?_⟩
          rw [if_pos ⟨rfl, HP.out⟩]
          exact ⟨⟨_, rfl, by have := own_emptyF (w.setCell ⟨r, 0, none⟩ (.slice none 0 0)); simpa [World.setCell] using this⟩, none, 0, 0, (((Below.refl _ _).alloc (Nat.le_refl _) _).block r (by simp [World.setCell]; exact hrl)).trans (set0F _ H1.out), ⟨rfl, Nat.zero_le _, fun hp => absurd hp (by omega), fun i => by simp⟩, Nat.le_refl _, .inl ⟨rfl, fun _ => rfl⟩⟩
        | some ad =>
          clear h1 h2 b1 hl HB
          go_enter Try.func66, Try.ntmps66
          go_wp2_with (at_builtin; refine wpList_append_own _ rfl _ _ 22 rfl w.heap.size 5 i0 (.int .u8 0) 1 1 Try.underlying22 hi hz0 hz1 hz2 rfl (by decide) _ _ _ rfl E1.out ad 0 _ ([] : List Value) rfl rfl (fun j u hu => by simp at hu) (fun u hu => by cases hu) (by unfold maxLen; omega) (by omega) (by omega) ?_; intro v9 w9 hown9 hgrow9 hnil9; have b9 : Below w.heap.size w w9 := ⟨hgrow9.os, hgrow9.tape, hgrow9.output, (by have := hgrow9.size; simp at this; omega), fun k hk => (by rw [hgrow9.block k (by simp; omega) (fun e => by have := (E1.out.lt k e.symm).1; omega), Below.heap_alloc _ _ _ (by omega)])⟩; have A9 := (b9.block r hrl).trans H1.out; (obtain ⟨d0, d1, e0, e1⟩ := cellsF A9); have B9 := hid b9; have R9 := hid A9; have O9 := hid hown9; clear A9 b9 hown9 hgrow9 hnil9 c0 c1 f0 f1)
          all_goals (go_ret
                     refine ⟨(Kf.of B9.out).set _ _, ?_⟩
                     rw [if_pos ⟨rfl, HP.out⟩]
                     exact ⟨⟨v9, rfl, own_set (by simpa using O9.out) hrl _⟩, _, _, _, set0F _ R9.out, ⟨rfl, Nat.zero_le _, fun hp => absurd hp (by omega), fun i => by simp⟩, Nat.zero_le _, .inl ⟨rfl, fun e => by cases e⟩⟩)
      · have CU := hid (cut_isB h2 n q)
        have F1 := hid (h2.front n q)
        have HZ : Hid (∀ i, 0 ≤ (zs.take n).getD i 0 ∧ (zs.take n).getD i 0 ≤ 255) := hid (h2.front n q).2.2.2
        have HZL : Hid ((zs.take n).length = n) := hid (by rw [List.length_take]; omega)
        have NW := hid (isB_newsF ((h2.front n q).later b1))
        clear h1 h2 b1 hl HB
        go_enter Try.func66, Try.ntmps66
        go_wp2_with (at_builtin; refine wpList_append_own _ rfl _ _ 22 rfl w.heap.size 5 i0 (.int .u8 0) 1 1 Try.underlying22 hi hz0 hz1 hz2 rfl (by decide) _ _ _ rfl E1.out ⟨b, off, none⟩ n _ ((zs.take n).map u8V) rfl (by rw [List.length_map, HZL.out]; omega) NW.out (by intro u hu; obtain ⟨x, _, rfl⟩ := List.mem_map.1 hu; rfl) (by unfold maxLen; omega) (by omega) (by omega) ?_; intro v9 w9 hown9 hgrow9 hnil9; have b9 : Below w.heap.size w w9 := ⟨hgrow9.os, hgrow9.tape, hgrow9.output, (by have := hgrow9.size; simp at this; omega), fun k hk => (by rw [hgrow9.block k (by simp; omega) (fun e => by have := (E1.out.lt k e.symm).1; omega), Below.heap_alloc _ _ _ (by omega)])⟩; have A9 := (b9.block r hrl).trans H1.out; (obtain ⟨d0, d1, e0, e1⟩ := cellsF A9); have B9 := hid b9; have R9 := hid A9; have O9 := hid hown9; clear A9 b9 hown9 hgrow9 hnil9 c0 c1 f0 f1)
        · go_ret
          have e0 : len - n = 0 := by omega
          rw [e0]
          exact take_end2 hrl hn HP.out HZ.out B9.out R9.out O9.out (Nat.le_refl _) hbr (isB_noneF _ _ (CU.out.2 (by omega) (some ⟨b, off, none⟩)))
        · go_ret
          by_cases hjl : n = len
          · have e0 : len - n = 0 := by omega
            rw [e0]
            exact take_end2 hrl hn HP.out HZ.out B9.out R9.out O9.out (by omega) hbr (isB_noneF _ _ (CU.out.2 hjl (some ⟨b, off + n, none⟩)))
          · exact take_end2 hrl hn HP.out HZ.out B9.out R9.out O9.out (by omega) hbr (CU.out.1 (by omega))
    · have qI : (len : Int) < (n : Int) := by omega
      have qd : decide ((len : Int) < (n : Int)) = true := decide_eq_true qI
      have HP : Hid (¬ n ≤ zs.length) := hid (by rw [hl]; exact q)
      clear h1 h2 h4 hl
      go_enter Try.func66, Try.ntmps66
      go_wp2
      go_ret
      exact ⟨(Kf.refl _ _).set _ _, by rw [if_neg (fun e => HP.out e.2)]; exact ⟨rfl, HB.out⟩⟩
end Go.Proofs.Ytbgninmkglgfeaa
namespace Go.Proofs.Ytbgninmkglgfeaa
open Go.RowKit Go.ChangeShapes Go.WideShapes Go.ChangeAt Go.Maps Go.Shelf
set_option linter.unusedVariables false
set_option linter.unusedSimpArgs false
set_option maxRecDepth 100000
theorem be_one {n : Int} (h0 : 0 ≤ n) (h1 : n < 256) : beF n 1 = [n] := by
  simp [beF]; omega
theorem row_cells {W : World} {B base : Nat} {t : TypeId} {c0 c1 c2 : Value} (h : RowAt W base t (some ⟨B, 0, none⟩) [c0, c1, c2]) : W.cell? ⟨B, 0, none⟩ = some c0 ∧ W.cell? ⟨B, 1, none⟩ = some c1 ∧ W.cell? ⟨B, 2, none⟩ = some c2 := by
  rcases h with h | ⟨g, cs, fr, h1, _, h3, h4⟩
  · cases h
  · cases h1
    exact ⟨by rw [cell_of_row W _ _ _ _ _ h3]; exact h4 0 _ rfl, by rw [cell_of_row W _ _ _ _ _ h3]; exact h4 1 _ rfl, by rw [cell_of_row W _ _ _ _ _ h3]; exact h4 2 _ rfl⟩
set_option maxHeartbeats 8000000 in
theorem rSnapshot_c (a b : Option Addr) (ca cb : Nat) (ns : List Nd) (ss : List St) (w : World) (hn : IsNs w a ns) (hs : IsSs w b ss) (hm : ns.length ≤ 100000) (hm' : ss.length ≤ 100000) (hwf : RSnap ns ss → ∀ x ∈ ns, x.Wf) :
    Calls Try.prog 18 #[.agg #[.slice a ns.length ca, .slice b ss.length cb]] w fun e w' => SnapPost ns ss w e w' := by
  have b0 := below_1 w (.cells #[.slice a ns.length ca, .slice b ss.length cb] 49)
  have h0 := heap_alloc_new w (.cells #[.slice a ns.length ca, .slice b ss.length cb] 49)
  have s0 : (w.alloc (.cells #[.slice a ns.length ca, .slice b ss.length cb] 49)).heap.size = w.heap.size + 1 := by simp
  have RC := hid (rRightSnap_c a b ca cb ns ss _ (hn.later b0) (hs.later b0) hm hm')
  have HN := hid (hn.later b0)
  have HS := hid (hs.later b0)
  have B0 := hid b0
  have H0 := hid h0
  have y0 : (w.alloc (.cells #[.slice a ns.length ca, .slice b ss.length cb] 49)).cell? ⟨w.heap.size, 0, none⟩ = some (.slice a ns.length ca) := cell_of_row2 h0 0 rfl
  have y1 : (w.alloc (.cells #[.slice a ns.length ca, .slice b ss.length cb] 49)).cell? ⟨w.heap.size, 1, none⟩ = some (.slice b ss.length cb) := cell_of_row2 h0 1 rfl
  have S0 := hid s0
  unfold SnapPost
  clear b0 h0 hn hs s0
  cases hd : snapD ns ss with
  | false =>
    have NR : Hid (¬ RSnap ns ss) := hid (fun h => by rw [snapD_iff, hd] at h; cases h)
    rw [hd] at RC
    clear hwf hd
    go_enter Try.func18, Try.ntmps18
    go_upto_region 1 with fail
    generalize (w.alloc (.cells #[.slice a ns.length ca, .slice b ss.length cb] 49)) = V at *
    go_wp2_with (go_at_call 39; refine RC.out.mono ?_; rintro _ w1 ⟨rfl, hb1⟩; have B1 := hid (B0.out.trans (hb1.mono B0.out.size)); clear hb1)
    go_ret2
    exact ⟨.inr ⟨NR.out, rfl⟩, B1.out⟩
  | true =>
    have hr := (snapD_iff ns ss).2 hd
    have HR := hid hr
    rw [hd] at RC
    have n40 := hr.1.1
    have m40 : ss.length ≤ 40 := by
      have h1 := hr.2
      unfold stOk at h1
      rw [Bool.and_eq_true, decide_eq_true_eq] at h1
      omega
    have WF := hid (fun x hx => (⟨hwf hr x hx, right_ok hr.1 x hx⟩ : x.Wf ∧ nodeOk x = true))
    have un : IntKind.u8.wrap (ns.length : Int) = ns.length := by rw [IntKind.wrap_u8']; omega
    have um : IntKind.u8.wrap (ss.length : Int) = ss.length := by rw [IntKind.wrap_u8']; omega
    have EN : Hid (snapB ns ss = ([(ns.length : Int)] ++ measuresB ns) ++ [(ss.length : Int)] ++ stampsB ss) := hid (by unfold snapB; rw [be_one (by omega) (by omega), be_one (by omega) (by omega)]; simp only [List.append_assoc])
    clear hwf hd hr
    generalize hnn : ns.length = n at *
    generalize hkk : ss.length = k at *
    have HNN := hid hnn.symm
    have HKK := hid hkk.symm
    clear hnn hkk
    have KS : Hid (∀ W, Below (w.heap.size + 1) (w.alloc (.cells #[.slice a n ca, .slice b k cb] 49)) W → W.cell? ⟨w.heap.size, 0, none⟩ = some (.slice a n ca) ∧ W.cell? ⟨w.heap.size, 1, none⟩ = some (.slice b k cb)) := hid (fun W hW => by
      have hb := (hW.block w.heap.size (by omega)).trans H0.out
      exact ⟨cell_of_row2 hb 0 rfl, cell_of_row2 hb 1 rfl⟩)
    go_enter Try.func18, Try.ntmps18
    go_upto_region 1 with fail
    generalize (w.alloc (.cells #[.slice a n ca, .slice b k cb] 49)) = V at *
    go_wp2_with (go_at_call 39; refine RC.out.mono ?_; rintro _ w1 ⟨rfl, hb1⟩
                 have B1 := hid (show Below (w.heap.size + 1) V w1 by have := hb1; rw [S0.out] at this; exact this)
                 obtain ⟨y0, y1⟩ := KS.out w1 B1.out
                 have Z1 : Hid (w.heap.size + 1 ≤ w1.heap.size) := hid (by have := hb1.size; rw [S0.out] at this; exact this)
                 have B2 : Hid (Below (w.heap.size + 1) V (w1.alloc (.cells #[.int .u8 (n : Int)] 5))) := hid (B1.out.alloc Z1.out _)
                 have O2 : Hid (OwB (w1.alloc (.cells #[.int .u8 (n : Int)] 5)) (w.heap.size + 1) (.slice (some ⟨w1.heap.size, 0, none⟩) 1 1) [(n : Int)]) := hid ((OwB.new w1 n).base Z1.out)
                 clear hb1)
    go_loopg [4, 5] n (fun gk v i wr => ∃ m : Nat, m + gk = n ∧ i = .int .i64 m ∧ Hid (OwB wr (w.heap.size + 1) v ([(n : Int)] ++ measuresB (ns.take m))) ∧ Hid (Below (w.heap.size + 1) V wr))
    case atStart => exact ⟨0, by omega, rfl, hid (by simpa [measuresB] using O2.out), B2⟩
    case round =>
      clear O2 B2 y0 y1
      obtain ⟨m, hm2, rfl, HO, HB⟩ := hrel
      obtain ⟨va, vn, vc, rfl⟩ := HO.out.any
      have Z0 : Hid (w.heap.size + 1 ≤ wr.heap.size) := hid (by have := HB.out.size; rw [S0.out] at this; exact this)
      obtain ⟨y0, y1⟩ := KS.out wr HB.out
      by_cases hlt : m < n
      · have hltI : (m : Int) < n := by omega
        have h1 : m < ns.length := by rw [← HNN.out]; exact hlt
        obtain ⟨b1, o1, rfl, _⟩ := HN.out.2.2 (by omega)
        have hI := HN.out.later (show Below V.heap.size V wr by rw [S0.out]; exact HB.out)
        obtain ⟨p0, p1, p2, p3, p4, p5⟩ := (hI.at (i := m) h1).all
        have hO := hI.ok h1
        obtain ⟨xw, xo⟩ := WF.out _ (getD_mem ns Nd.no h1)
        have ET : Hid (measuresB (ns.take (m + 1)) = measuresB (ns.take m) ++ measB (ns.getD m Nd.no)) := hid (by rw [take_nd h1, measuresB_snoc])
        have hml := measuresB_le (l := ns.take m) (fun x hx => WF.out x (List.mem_of_mem_take hx))
        rw [List.length_take] at hml
        have hnl := nodeB_len xw xo
        have NC := hid (rnode_c (ns.getD m Nd.no) wr hO)
        unfold RnP at NC
        simp only [if_pos xo] at NC
        clear hI hO xw xo h1
        generalize ns.getD m Nd.no = x at *
        obtain ⟨N, hN⟩ : ∃ N, N = nodeB x := ⟨_, rfl⟩
        have EM : Hid (measB x = beF N.length 2 ++ N) := hid (by rw [hN]; rfl)
        rw [← hN] at NC hnl
        clear hN
        obtain ⟨zk, hzk⟩ : ∃ zk, zk = [(n : Int)] ++ measuresB (ns.take m) := ⟨_, rfl⟩
        have lzk : zk.length ≤ 90000 := by rw [hzk, List.length_append, List.length_singleton]; omega
        rw [← hzk] at HO
        have HZK := hid hzk
        clear hzk hml
        have PC : Hid (∀ W, Calls Try.prog 41 #[.int .u64 (N.length : Int), .int .i64 2] W fun e w' => ∃ v, e = .returned v ∧ OwB w' W.heap.size v (beF (N.length : Int) 2) ∧ Below W.heap.size W w') := hid (fun W => rput_c (N.length : Int) 2 W (by omega) (by omega) (by omega))
        have ku : IntKind.u64.wrap (N.length : Int) = N.length := by rw [IntKind.wrap_u64]; omega
        have l2 : (beF (N.length : Int) 2).length = 2 := beF_len _ _
        have LT := hid HO.out.lt
        obtain ⟨fid, kk, md, ln, da, dc, zs, ka, kc, ks⟩ := x
        simp only [Nd.val] at *
        have t0 := hid True.intro
        go_wp2_with (first
          | (have _q := t3.out; clear _q; at_builtin; refine wpList_plain rfl fun K hK => wp_appB _ _ _ rfl (w.heap.size + 1) _ _ rfl O5.out _ _ rfl N5.out (by rw [List.length_append, l2]; omega) (by omega) Z5.out (fun v9 w9 ho9 hg9 => hK _ _ ?_)
             have O9 := hid ho9
             have B9 := hid (grown_bel B5.out O5.out (Nat.le_refl _) Z5.out hg9)
             obtain ⟨a9, n9, c9, rfl⟩ := ho9.any
             clear ho9 hg9 t3)
          | (have _q := t2.out; clear _q; at_builtin; refine wpList_plain rfl fun K hK => wp_appB _ _ _ rfl (w.heap.size + 1) _ _ rfl O4.out _ _ rfl R4.out (by omega) (by omega) Z4.out (fun v5 w5 ho5 hg5 => hK _ _ ?_)
             have O5 := hid ho5
             have B5 := hid (grown_bel B4.out O4.out (Nat.le_refl _) Z4.out hg5)
             have Z5 := hid (Nat.le_trans Z4.out hg5.size)
             have N5 := hid ((N4.out.grown hg5 LT.out).base (Nat.zero_le _))
             have t3 := hid True.intro
             obtain ⟨a5, n5, c5, rfl⟩ := ho5.any
             clear ho5 hg5 t2)
          | (have _q := t1.out; clear _q; go_at_call 41; refine (PC.out _).mono ?_; rintro _ w4 ⟨v4, rfl, ho4, hb4⟩
             have R4 := hid (ho4.base (Nat.zero_le _))
             have O4 := hid (O3.out.later hb4)
             have N4 := hid (N3.out.later hb4)
             have B4 := hid (B3.out.trans (hb4.mono Z3.out))
             have Z4 := hid (Nat.le_trans Z3.out hb4.size)
             have t2 := hid True.intro
             obtain ⟨a4, n4, c4, rfl⟩ := ho4.any
             clear ho4 hb4 t1)
          | (have _q := t0.out; clear _q; go_at_call 40; refine NC.out.mono ?_; rintro _ w3 ⟨⟨v3, rfl, ho3⟩, hb3⟩
             have N3 := hid ho3
             have O3 := hid (HO.out.later hb3)
             have B3 := hid (HB.out.trans (hb3.mono Z0.out))
             have Z3 := hid (Nat.le_trans Z0.out hb3.size)
             have t1 := hid True.intro
             obtain ⟨a3, c3, rfl⟩ := own_shapeR ho3
             clear ho3 hb3 t0))
        go_roundg (gk - 1)
        case measure => omega
        case rel => exact ⟨m + 1, by omega, by go_num, hid (by rw [ET.out, EM.out, ← List.append_assoc, ← HZK.out, ← List.append_assoc]; exact O9.out), B9⟩
      · have hge : ¬ (m : Int) < n := by omega
        have ET : Hid (ns.take m = ns) := hid (List.take_of_length_le (by rw [← HNN.out]; omega))
        rw [ET.out] at HO
        have hml := measuresB_le WF.out
        rw [← HNN.out] at hml
        obtain ⟨zk, hzk⟩ : ∃ zk, zk = [(n : Int)] ++ measuresB ns := ⟨_, rfl⟩
        have lzk : zk.length ≤ 90000 := by rw [hzk, List.length_append, List.length_singleton]; omega
        rw [← hzk] at HO EN
        clear hzk hml WF ET
        have BA := hid (HB.out.alloc Z0.out (.cells #[.int .u8 (k : Int)] 5))
        have ZA : Hid (w.heap.size + 1 ≤ (wr.alloc (.cells #[.int .u8 (k : Int)] 5)).heap.size) := hid (Nat.le_trans Z0.out (alloc_leR _ _))
        have OA := hid (HO.out.later ((Below.refl _ wr).alloc (Nat.le_refl _) (.cells #[.int .u8 (k : Int)] 5)))
        have SA := hid ((OwB.new wr k).base (Nat.zero_le _))
        go_wp2_with (at_builtin; refine wpList_plain rfl fun K hK => wp_appB _ _ _ rfl (w.heap.size + 1) _ _ rfl OA.out _ _ rfl SA.out (by omega) (by simp) ZA.out (fun v9 w9 ho9 hg9 => hK _ _ ?_)
                     have O9 := hid ho9
                     have B9 := hid (grown_bel BA.out OA.out (Nat.le_refl _) ZA.out hg9)
                     obtain ⟨a9, n9, c9, rfl⟩ := ho9.any
                     clear ho9 hg9)
        clear y0 y1
        obtain ⟨zz, hzz⟩ : ∃ zz, zz = zk ++ [(k : Int)] := ⟨_, rfl⟩
        have lzz : zz.length ≤ 90001 := by rw [hzz, List.length_append, List.length_singleton]; omega
        rw [← hzz] at O9 EN
        clear hzz BA ZA OA SA HO HB Z0
        generalize wr = wo at *
        go_loopg [4, 8] k (fun gk v i wr => ∃ j : Nat, j + gk = k ∧ i = .int .i64 j ∧ Hid (OwB wr (w.heap.size + 1) v (zz ++ stampsB (ss.take j))) ∧ Hid (Below (w.heap.size + 1) V wr))
        case atStart => exact ⟨0, by omega, rfl, hid (by simpa [stampsB] using O9.out), B9⟩
        case round =>
          clear O9 B9
          obtain ⟨j, hj2, rfl, HO, HB⟩ := hrel
          obtain ⟨va, vn, vc, rfl⟩ := HO.out.any
          have Z0 : Hid (w.heap.size + 1 ≤ wr.heap.size) := hid (by have := HB.out.size; rw [S0.out] at this; exact this)
          obtain ⟨y0, y1⟩ := KS.out wr HB.out
          by_cases hlt2 : j < k
          · have hltI2 : (j : Int) < k := by omega
            have h2 : j < ss.length := by rw [← HKK.out]; exact hlt2
            obtain ⟨b2, o2, rfl, _⟩ := HS.out.2.2 (by omega)
            have hI := HS.out.later (show Below V.heap.size V wr by rw [S0.out]; exact HB.out)
            obtain ⟨z0, z1, z2⟩ := hI.at (i := j) h2
            obtain ⟨wf1, wf2, wf3⟩ := hI.wf h2
            have ET : Hid (stampsB (ss.take (j + 1)) = stampsB (ss.take j) ++ (beF (ss.getD j St.no).fid 4 ++ (beF (ss.getD j St.no).ver 8 ++ [(ss.getD j St.no).wr]))) := hid (by rw [take_st h2, stampsB_snoc, ← be_one wf3.1 wf3.2]; rfl)
            have hsl := stampsB_len (ss.take j)
            rw [List.length_take] at hsl
            clear hI h2
            generalize ss.getD j St.no = y at *
            obtain ⟨yf, yv, yw⟩ := y
            simp only at *
            obtain ⟨zk, hzk⟩ : ∃ zk, zk = zz ++ stampsB (ss.take j) := ⟨_, rfl⟩
            have lzk : zk.length ≤ 91000 := by rw [hzk, List.length_append]; omega
            rw [← hzk] at HO
            have HZK := hid hzk
            clear hzk hsl
            have P1 : Hid (∀ W, Calls Try.prog 41 #[.int .u64 yf, .int .i64 4] W fun e w' => ∃ v, e = .returned v ∧ OwB w' W.heap.size v (beF yf 4) ∧ Below W.heap.size W w') := hid (fun W => rput_c yf 4 W (by omega) (by omega) (by omega))
            have P2 : Hid (∀ W, Calls Try.prog 41 #[.int .u64 yv, .int .i64 8] W fun e w' => ∃ v, e = .returned v ∧ OwB w' W.heap.size v (beF yv 8) ∧ Below W.heap.size W w') := hid (fun W => rput_c yv 8 W (by omega) (by omega) (by omega))
            have wu : IntKind.u64.wrap yf = yf := by rw [IntKind.wrap_u64]; omega
            have l4 : (beF yf 4).length = 4 := beF_len _ _
            have l8 : (beF yv 8).length = 8 := beF_len _ _
            have bA := below_1 wr (.cells #[.int .u32 yf, .int .u64 yv, .int .u8 yw] 85)
            have HA : Hid (RowAt (wr.alloc (.cells #[.int .u32 yf, .int .u64 yv, .int .u8 yw] 85)) 0 85 (some ⟨wr.heap.size, 0, none⟩) [.int .u32 yf, .int .u64 yv, .int .u8 yw]) := hid (.inr ⟨_, _, _, rfl, Nat.zero_le _, heap_alloc_new wr _, fun i u hu => by simpa using hu⟩)
            have OA := hid (HO.out.later bA)
            have BA := hid (HB.out.alloc Z0.out (.cells #[.int .u32 yf, .int .u64 yv, .int .u8 yw] 85))
            have ZA : Hid (w.heap.size + 1 ≤ (wr.alloc (.cells #[.int .u32 yf, .int .u64 yv, .int .u8 yw] 85)).heap.size) := hid (Nat.le_trans Z0.out bA.size)
            clear bA wf1 wf2 wf3
            go_upto_region 14 with fail
            generalize wr.alloc (.cells #[.int .u32 yf, .int .u64 yv, .int .u8 yw] 85) = V2 at *
            generalize wr.heap.size = B at *
            obtain ⟨c0, c1, c2⟩ := row_cells HA.out
            have W0 : Hid (w.heap.size + 1 ≤ V2.drew.heap.size) := hid ZA.out
            have HD : Hid (Below (w.heap.size + 1) V V2.drew) := hid BA.out.drew
            have O0 : Hid (OwB V2.drew (w.heap.size + 1) (.slice va vn vc) zk) := hid OA.out
            have H0d : Hid (RowAt V2.drew 0 85 (some ⟨B, 0, none⟩) [.int .u32 yf, .int .u64 yv, .int .u8 yw]) := hid HA.out
            go_cut [4] from 61 to 70 (fun s4 wx => Hid (OwB wx (w.heap.size + 1) s4 (zk ++ beF yf 4 ++ beF yv 8)) ∧ Hid (Below (w.heap.size + 1) V wx) ∧ Hid (RowAt wx 0 85 (some ⟨B, 0, none⟩) [.int .u32 yf, .int .u64 yv, .int .u8 yw]) ∧ Hid (w.heap.size + 1 ≤ wx.heap.size))
            case first =>
              go_region_held3 (fun w' => w'.cell? ⟨B, 0, none⟩ = some (.int .u32 yf) ∧ w'.cell? ⟨B, 1, none⟩ = some (.int .u64 yv) ∧ w'.cell? ⟨B, 2, none⟩ = some (.int .u8 yw)) (first | (with_reducible exact row_cells H7.out) | (with_reducible exact row_cells H6.out) | (with_reducible exact row_cells H5.out) | (with_reducible exact row_cells H4.out) | (with_reducible exact row_cells H0d.out) | go_keep)
                (first
                  | (have _q := U6.out; clear _q; refine step_appB9 _ (by rfl) _ _ (by rfl) (w.heap.size + 1) _ _ (by rfl) O6.out _ (beF yv 8) (by rfl) R6.out (by rw [List.length_append]; omega) (by omega) Z6.out ?_; intro v7 w7 ho7 hg7; have O7 := hid ho7; have B7 := hid (grown_bel B6.out O6.out (Nat.le_refl _) Z6.out hg7); have H7 := hid (H6.out.grown O6.out (by decide) hg7); have Z7 := hid (Nat.le_trans Z6.out hg7.size); obtain ⟨a7, n7, c7, rfl⟩ := ho7.any; clear ho7 hg7)
                  | (have _q := U5.out; clear _q; go_at_call 41; with_reducible refine (P2.out w5).mono ?_; rintro _ w6 ⟨v6, rfl, ho6, hb6⟩; have R6 := hid (ho6.base (Nat.zero_le _)); have O6 := hid (O5.out.later hb6); have B6 := hid (B5.out.trans (hb6.mono Z5.out)); have Z6 := hid (Nat.le_trans Z5.out hb6.size); have H6 := hid (H5.out.later hb6); have U6 := hid ho6; clear ho6 hb6)
                  | (have _q := U4.out; clear _q; refine step_appB9 _ (by rfl) _ _ (by rfl) (w.heap.size + 1) _ _ (by rfl) O4.out _ (beF yf 4) (by rfl) R4.out (by omega) (by omega) Z4.out ?_; intro v5 w5 ho5 hg5; have O5 := hid ho5; have B5 := hid (grown_bel B4.out O4.out (Nat.le_refl _) Z4.out hg5); have Z5 := hid (Nat.le_trans Z4.out hg5.size); have H5 := hid (H4.out.grown O4.out (by decide) hg5); have U5 := hid ho5; obtain ⟨a5, n5, c5, rfl⟩ := ho5.any; clear ho5 hg5)
                  | (go_at_call 41; with_reducible refine (P1.out V2.drew).mono ?_; rintro _ w4 ⟨v4, rfl, ho4, hb4⟩; have R4 := hid (ho4.base (Nat.zero_le _)); have O4 := hid (O0.out.later hb4); have B4 := hid (HD.out.trans (hb4.mono W0.out)); have Z4 := hid (Nat.le_trans W0.out hb4.size); have H4 := hid (H0d.out.later hb4); have U4 := hid ho4; clear ho4 hb4))
              all_goals (
                go_wp2_with fail
                go_meet
                exact ⟨O7, B7, H7, Z7⟩)
            case rest =>
              clear c0 c1 c2
              obtain ⟨H8, B8, R8, Z8⟩ := hcut
              obtain ⟨a8, n8, c8, rfl⟩ := H8.out.any
              obtain ⟨c0, c1, c2⟩ := row_cells R8.out
              have BB := hid (B8.out.alloc Z8.out (.cells #[.int .u8 yw] 5))
              have ZB : Hid (w.heap.size + 1 ≤ (wc.alloc (.cells #[.int .u8 yw] 5)).heap.size) := hid (Nat.le_trans Z8.out (alloc_leR _ _))
              have OB := hid (H8.out.later ((Below.refl _ wc).alloc (Nat.le_refl _) (.cells #[.int .u8 yw] 5)))
              have SB := hid ((OwB.new wc yw).base (Nat.zero_le _))
              have lz8 : (zk ++ beF yf 4 ++ beF yv 8).length ≤ 95000 := by rw [List.length_append, List.length_append]; omega
              go_wp2_with (at_builtin; refine wpList_plain rfl fun K hK => wp_appB _ _ _ rfl (w.heap.size + 1) _ _ rfl OB.out _ _ rfl SB.out (by omega) (by simp) ZB.out (fun v9 w9 ho9 hg9 => hK _ _ ?_)
                           have O9 := hid ho9
                           have B9 := hid (grown_bel BB.out OB.out (Nat.le_refl _) ZB.out hg9)
                           obtain ⟨a9, n9, c9, rfl⟩ := ho9.any
                           clear ho9 hg9)
              go_roundg (gk - 1)
              case measure => omega
              case rel => exact ⟨j + 1, by omega, by go_num, hid (by rw [ET.out, ← List.append_assoc, ← HZK.out, ← List.append_assoc, ← List.append_assoc]; exact O9.out), B9⟩
          · have hge2 : ¬ (j : Int) < k := by omega
            have ET : Hid (ss.take j = ss) := hid (List.take_of_length_le (by rw [← HKK.out]; omega))
            go_wp2
            go_ret2
            exact ⟨.inl ⟨HR.out, _, rfl, by have := HO.out; rw [ET.out, ← EN.out] at this; exact this.base (Nat.le_succ _)⟩, B0.out.trans (HB.out.mono (Nat.le_succ _))⟩
end Go.Proofs.Ytbgninmkglgfeaa
namespace Go.Proofs.Ytbgninmkglgfeaa
open Go.RowKit Go.ChangeShapes Go.WideShapes Go.ChangeAt Go.Maps Go.Shelf
set_option linter.unusedVariables false
set_option linter.unusedSimpArgs false
set_option maxRecDepth 100000
theorem RdR.flag {w : World} {r : Nat} {bd : Bool} {zs : List Int} (h : RdR w r bd zs) (b : Bool) : RdR (w.setCell ⟨r, 1, none⟩ (.bool b)) r b zs := by
  obtain ⟨a, len, c, h1, h2, h3, h4⟩ := h
  refine ⟨a, len, c, set1F _ h1, ?_, h3, h4⟩
  rcases h4 with ⟨rfl, _⟩ | ⟨b', off, rfl, hb⟩
  · exact isB_noneF _ _ h2
  · exact isB_blkF h2 (heap_setCell_other _ _ _ _ (by show b' ≠ r; omega))
theorem NsOwn.kf {w w' : World} {r base : Nat} {v : Value} {L : List Nd} (h : NsOwn w base v L) (hk : Kf r w w') (hr : r < base) : NsOwn w' base v L :=
  ⟨own_kf h.1 hk hr, fun x hx => ⟨(h.2 x hx).1, (h.2 x hx).2.1.kf hk hr, (h.2 x hx).2.2.kf hk hr⟩⟩
theorem NdAt.kf {w w' : World} {r base : Nat} {x : Nd} (h : NdAt w base x) (hk : Kf r w w') (hr : r < base) : NdAt w' base x := ⟨h.1, h.2.1.kf hk hr, h.2.2.kf hk hr⟩
theorem ndAt_no (w : World) (base : Nat) : NdAt w base Nd.no := ⟨⟨⟨Int.le_refl _, by decide⟩, ⟨Int.le_refl _, by decide⟩, ⟨Int.le_refl _, by decide⟩, ⟨Int.le_refl _, by decide⟩, (fun i => by simp [Nd.no]), Nat.zero_le _, (fun q hq => by cases hq), Nat.zero_le _⟩, .inl rfl, .inl rfl⟩
theorem nodeAll_nil : nodeAll [] = none := by simp [nodeAll, nodeP, numP]
/-- Nodes, stamps, a snapshot as bytes say, however many. -/
def nodesQ (z : List Int) : Option (List Nd × List Int) := match numP 1 z with
  | none => none
  | some (m, t) => measN m.toNat t
def stampsQ (z : List Int) : Option (List St × List Int) := match numP 1 z with
  | none => none
  | some (m, t) => stampsN m.toNat t
def snapQ (z : List Int) : Option ((List Nd × List St) × List Int) := match nodesQ z with
  | none => none
  | some (ns, t) => match stampsQ t with
    | none => none
    | some (ss, u) => some ((ns, ss), u)
abbrev sn00 : Array Value := #[.slice none 0 0, .slice none 0 0]
/-- What stands while the document's Snapshot goes through the nodes. -/
def I1 (w wr : World) (r : Nat) (R : Option (List Nd × List Int)) (m g : Nat) : Prop :=
  Kf r w wr ∧ wr.heap[w.heap.size]? = some (.cells #[.slice none 0 0, .slice none 0 0] 49 (0, 0)) ∧ w.heap.size + 2 ≤ wr.heap.size ∧
  ((R = none ∧ ∃ z, RdR wr r true z) ∨ ∃ z l L va vc, RdR wr r false z ∧ L.length = m ∧ L.map Nd.er = l.map Nd.er ∧ LeftM R l g z ∧ wr.heap[w.heap.size + 1]? = some (.cells #[.slice va m vc, .slice none 0 0] 49 (0, 0)) ∧ NsOwn wr (w.heap.size + 2) (.slice va m vc) L)
/-- What a measured node's reading leaves. -/
def M1 (w wx : World) (r m : Nat) (z : List Int) (va : Option Addr) (vc : Nat) (L : List Nd) (s6 s7 : Value) : Prop :=
  ∃ (Bn : Nat) (y : Nd) (b3 : Bool) (z3 : List Int) (er : Int), s6 = .pointer (some ⟨Bn, 0, none⟩) ∧ s7 = .int .i64 er ∧ wx.heap[Bn]? = some (.cells y.cells.toArray 39 (0, 0)) ∧ w.heap.size + 2 ≤ Bn ∧ Kf r w wx ∧ RdR wx r b3 z3 ∧
  wx.heap[w.heap.size]? = some (.cells #[.slice none 0 0, .slice none 0 0] 49 (0, 0)) ∧ wx.heap[w.heap.size + 1]? = some (.cells #[.slice va m vc, .slice none 0 0] 49 (0, 0)) ∧ NsOwn wx (w.heap.size + 2) (.slice va m vc) L ∧ NdAt wx (w.heap.size + 2) y ∧
  ((measP z = none ∧ er = 3) ∨ (b3 = false ∧ er = 0 ∧ ∃ x, measP z = some (x, z3) ∧ y.er = x.er))
theorem M1_mk {w w4 : World} {r m : Nat} {z z3 : List Int} {va : Option Addr} {vc : Nat} {L : List Nd} {y : Nd} {b3 : Bool} {er : Int} (hK : Kf r w w4) (hR : RdR w4 r b3 z3) (h2 : w4.heap[w.heap.size]? = some (.cells #[.slice none 0 0, .slice none 0 0] 49 (0, 0))) (h3 : w4.heap[w.heap.size + 1]? = some (.cells #[.slice va m vc, .slice none 0 0] 49 (0, 0)))
    (hO : NsOwn w4 (w.heap.size + 2) (.slice va m vc) L) (hY : NdAt w4 (w.heap.size + 2) y) (hS : w.heap.size + 2 ≤ w4.heap.size) (hc : (measP z = none ∧ er = 3) ∨ (b3 = false ∧ er = 0 ∧ ∃ x, measP z = some (x, z3) ∧ y.er = x.er)) :
    M1 w (w4.alloc (.cells y.cells.toArray 39)) r m z va vc L (.pointer (some ⟨w4.heap.size, 0, none⟩)) (.int .i64 er) := by
  have b := below_1 w4 (.cells y.cells.toArray 39)
  exact ⟨_, y, b3, z3, er, rfl, rfl, heap_alloc_new w4 _, hS, hK.trans (Kf.of b), hR.later b, (b.block _ (lt_blkR h2)).trans h2, (b.block _ (lt_blkR h3)).trans h3, hO.later b, hY.later b, hc⟩
theorem lies2_of {w : World} {a : Option Addr} {n c : Nat} {zs : List Int} (h : IsB w a n zs) (hl : Lies w a c) : Lies2 w a n c := by
  rcases hl with ⟨e1, e2⟩ | hl
  · refine .inl ⟨?_, fun _ => e2⟩
    rcases Nat.eq_zero_or_pos n with q | q
    · exact q
    · obtain ⟨b, off, e, _⟩ := h.2.2.1 q
      rw [e1] at e
      cases e
  · exact .inr hl
theorem isB_nil (w : World) : IsB w none 0 [] := ⟨rfl, Nat.zero_le _, fun hp => absurd hp (by omega), fun i => by simp⟩
theorem measN_len : ∀ (n : Nat) {z t : List Int} {l : List Nd}, measN n z = some (l, t) → l.length = n
  | 0, z, t, l, h => by
    simp only [measN, Option.some.injEq, Prod.mk.injEq] at h
    rw [← h.1]; rfl
  | n + 1, z, t, l, h => by
    rw [measN_step] at h
    rcases h0 : measP z with _ | ⟨x, z1⟩
    · rw [h0] at h; cases h
    rw [h0] at h; simp only at h
    rcases h1 : measN n z1 with _ | ⟨l', u⟩
    · rw [h1] at h; cases h
    rw [h1] at h; simp only [Option.some.injEq, Prod.mk.injEq] at h
    rw [← h.1, List.length_cons, measN_len n h1]
theorem nodesQ_len {z t : List Int} {l : List Nd} (hi : InB z) (h : nodesQ z = some (l, t)) : l.length ≤ 255 := by
  unfold nodesQ at h
  rcases h0 : numP 1 z with _ | ⟨m, u⟩
  · rw [h0] at h; cases h
  rw [h0] at h; simp only at h
  have := (numP_in hi h0).1
  rw [measN_len _ h]
  simp at this
  omega
theorem own_other {w w' : World} {base b sz sz2 n m : Nat} {t e : TypeId} {v u : Value} {xs ys : List Value} (h : w.ownsRow base t sz v n xs) (hown : w.ownsRow b e sz2 u m ys) (hne : t ≠ e) (hg : w.grownBy w' u.ownBlock) : w'.ownsRow base t sz v n xs := by
  refine ⟨h.1, ?_⟩
  rcases h.2 with h1 | ⟨g, cap, cur, h1, h2, h3, h4⟩
  · exact .inl h1
  · refine .inr ⟨g, cap, cur, h1, h2, (hg.block g (lt_blkR h3) (fun q => ?_)).trans h3, h4⟩
    rcases hown.2 with ⟨rfl, _⟩ | ⟨g', cap', cur', rfl, _, hg', _⟩
    · cases q
    · cases q
      rw [hg'] at h3
      cases h3
      exact hne rfl
theorem NsOwn.other {w w' : World} {base b m : Nat} {v u : Value} {L : List Nd} {ys : List Value} (h : NsOwn w base v L) (hown : w.ownsRow b 85 3 u m ys) (hg : w.grownBy w' u.ownBlock) : NsOwn w' base v L :=
  ⟨own_other h.1 hown (by decide) hg, fun x hx => ⟨(h.2 x hx).1, (h.2 x hx).2.1.grown hown (by decide) hg, (h.2 x hx).2.2.grown hown (by decide) hg⟩⟩
theorem frzD {W : World} {g : Nat} {cs : Array Value} {t : TypeId} (h : W.heap[g]? = some (.cells cs t (0, 0))) (i : Nat) : W.frozen? ⟨g, i, none⟩ = false := by
  simp [World.frozen?, h]
theorem step_appS (w : World) {ops : Array Oper} {o : Oper} {a : Act} {K : Act → World → Prop} {Q : Exit → Act → World → Prop} {E : Prop} (hgd : o.guard = none) (s x : Operand)
    (ho : o.op = .call { callee := .builtin .append, args := #[s, x], argTypes := #[47, 47] }) (base : Nat) (v : Value) (n : Nat) (xs : List Value) (hs : a.eval s = v) (hown : w.ownsRow base 85 3 v n xs)
    (g : Nat) (y : St) (hx : a.eval x = .slice (some ⟨g, 0, none⟩) 1 1) (hb : w.heap[g]? = some (.cells y.cells.toArray 85 (0, 0))) (h63 : n ≤ 1000) (hbase : base ≤ w.heap.size)
    (h : ∀ v' w', w'.ownsRow base 85 3 v' (n + 1) (xs ++ y.cells) → w.grownBy w' v.ownBlock → K (a.put o.dst v') w') :
    if Region.wanted o (yielded ops a.tmps) = true then Oper.wp Try.prog o a w K Q else E := by
  rw [if_pos (by simp [Region.wanted, hgd])]
  obtain ⟨i0, hi, hz0, hz1, hz2⟩ := info_st
  refine wp_append_own w s x 47 ho base 85 i0 St.no.val 3 24 Try.underlying47 hi hz0 hz1 hz2 (by rfl) (by decide) v n xs hs hown ⟨g, 0, none⟩ 1 1 y.cells hx rfl (st_news hb) (st_one y) (by unfold maxLen; omega) (by omega) hbase ?_
  intro v' w' h2 h3 _
  exact h v' w' h2 h3
/-- The nodes that were read, in memory. -/
def Tr6 (w wr : World) (R : Option (List Nd × List Int)) (va : Option Addr) (n vc : Nat) : Prop := ∃ l z' L, R = some (l, z') ∧ L.length = n ∧ L.map Nd.er = l.map Nd.er ∧ NsOwn wr (w.heap.size + 2) (.slice va n vc) L
/-- What stands behind the nodes. -/
def I1e (w wr : World) (r : Nat) (R : Option (List Nd × List Int)) : Prop :=
  Kf r w wr ∧ wr.heap[w.heap.size]? = some (.cells #[.slice none 0 0, .slice none 0 0] 49 (0, 0)) ∧ w.heap.size + 2 ≤ wr.heap.size ∧
  ((R = none ∧ ∃ z, RdR wr r true z) ∨ ∃ z l L va vc, R = some (l, z) ∧ RdR wr r false z ∧ L.map Nd.er = l.map Nd.er ∧ wr.heap[w.heap.size + 1]? = some (.cells #[.slice va L.length vc, .slice none 0 0] 49 (0, 0)) ∧ NsOwn wr (w.heap.size + 2) (.slice va L.length vc) L)
/-- What stands while the stamps are read. -/
def I2 (w wr : World) (r : Nat) (R : Option (List Nd × List Int)) (R2 : Option (List St × List Int)) (m g : Nat) : Prop :=
  Kf r w wr ∧ wr.heap[w.heap.size]? = some (.cells #[.slice none 0 0, .slice none 0 0] 49 (0, 0)) ∧ w.heap.size + 2 ≤ wr.heap.size ∧
  ((R2 = none ∧ ∃ z, RdR wr r true z) ∨ ∃ z S va n vc vb vd, RdR wr r false z ∧ S.length = m ∧ LeftS R2 S g z ∧ wr.heap[w.heap.size + 1]? = some (.cells #[.slice va n vc, .slice vb m vd] 49 (0, 0)) ∧ Tr6 w wr R va n vc ∧ wr.ownsRow (w.heap.size + 2) 85 3 (.slice vb m vd) m (scells S) ∧ ∀ x ∈ S, x.Wf)
def RdSP (w : World) (r : Nat) (zs : List Int) (e : Ending) (w' : World) : Prop := Kf r w w' ∧ ∃ b z, RdR w' r b z ∧
  ((b = true ∧ e = .returned snNo ∧ (∀ ns ss rest, snapQ zs = some ((ns, ss), rest) → ¬ RSnap ns ss))
  ∨ (b = false ∧ ∃ ns ss, snapQ zs = some ((ns, ss), z) ∧ RSnap ns ss ∧ ∃ a ca b' cb L, e = .returned (snV a L.length ca b' ss.length cb) ∧ L.map Nd.er = ns.map Nd.er ∧ SnOwn w' w.heap.size a ca L b' cb ss))
theorem st_nr {z z4 z8 z9 : List Int} {f v k : Int} {b4 b8 b9 : Bool} (e4 : Nr false z 4 = (f, b4, z4)) (e8 : Nr b4 z4 8 = (v, b8, z8)) (e1 : Nr b8 z8 1 = (k, b9, z9)) : (b9 = true ∧ stampP z = none) ∨ (b9 = false ∧ stampP z = some (⟨f, v, k⟩, z9)) := by
  unfold stampP
  have h4 := nr_num e4
  cases b4 with
  | true =>
    have := nr_bad e8
    subst this
    have := nr_bad e1
    rw [h4]
    exact .inl ⟨this, rfl⟩
  | false =>
    rw [h4]
    have h8 := nr_num e8
    simp only [cond_false]
    cases b8 with
    | true =>
      have := nr_bad e1
      rw [h8]
      exact .inl ⟨this, rfl⟩
    | false =>
      rw [h8]
      have h1 := nr_num e1
      simp only [cond_false]
      rw [h1]
      cases b9 with
      | true => exact .inl ⟨rfl, rfl⟩
      | false => exact .inr ⟨rfl, rfl⟩
set_option maxHeartbeats 8000000 in
theorem rdSnap_e {w : World} {r : Nat} {zs : List Int} (h : RdR w r false zs) :
    Calls Try.prog 44 #[.pointer (some ⟨r, 0, none⟩)] w fun e w' => RdSP w r zs e w' := by
  obtain ⟨i0, hi, hz0, hz1, hz2⟩ := info_nd
  rcases e0 : Nr false zs 1 with ⟨n, b0, z0⟩
  have g0 := Nr_bd h.in false 1
  rw [e0] at g0
  simp only at g0
  obtain ⟨N, rfl⟩ : ∃ N : Nat, n = (N : Int) := ⟨n.toNat, by omega⟩
  have hN : N < 256 := by omega
  have kn : IntKind.i64.wrap (N : Int) = N := by rw [IntKind.wrap_i64]; omega
  have hrl := h.lt
  have ZIN := hid h.in
  have b1 := below_1 w (.cells #[.slice none 0 0, .slice none 0 0] 49)
  have h1 := heap_alloc_new w (.cells #[.slice none 0 0, .slice none 0 0] 49)
  have b2 := below_1 (w.alloc (.cells #[.slice none 0 0, .slice none 0 0] 49)) (.cells #[.slice none 0 0, .slice none 0 0] 49)
  have h2 := heap_alloc_new (w.alloc (.cells #[.slice none 0 0, .slice none 0 0] 49)) (.cells #[.slice none 0 0, .slice none 0 0] 49)
  rw [show (w.alloc (.cells #[.slice none 0 0, .slice none 0 0] 49)).heap.size = w.heap.size + 1 by simp] at h2
  have h1' := (b2.block _ (lt_blkR h1)).trans h1
  have C0 := hid (rdN1 ((h.later b1).later b2) e0)
  have K0 : Hid (Kf r w ((w.alloc (.cells #[.slice none 0 0, .slice none 0 0] 49)).alloc (.cells #[.slice none 0 0, .slice none 0 0] 49))) := hid ((Kf.of b1).trans (Kf.of b2))
  have S0 : Hid (((w.alloc (.cells #[.slice none 0 0, .slice none 0 0] 49)).alloc (.cells #[.slice none 0 0, .slice none 0 0] 49)).heap.size = w.heap.size + 2) := hid (by simp)
  have H1 := hid h1'
  have H2 := hid h2
  have QZ : Hid (nodesQ zs = bif b0 then none else measN N z0) := hid (by
    unfold nodesQ
    rw [nr_num e0]
    cases b0 with
    | true => rfl
    | false => simp)
  obtain ⟨R, hR⟩ : ∃ R, R = nodesQ zs := ⟨_, rfl⟩
  rw [← hR] at QZ
  have HRZ := hid hR
  clear h g0 e0 b1 b2 h1 h2 h1' hR
  go_enter Try.func44, Try.ntmps44
  go_upto_region 3 with (first
    | (go_at_call 31; refine C0.out.mono ?_; rintro _ w1 ⟨rfl, hk1, hr1⟩
       have K1 := hid (K0.out.trans hk1)
       have R1 := hid hr1
       have A1 := hid ((hk1.block w.heap.size (by rw [S0.out]; omega) (by omega)).trans H1.out)
       have A2 := hid ((hk1.block (w.heap.size + 1) (by rw [S0.out]; omega) (by omega)).trans H2.out)
       have S1 : Hid (w.heap.size + 2 ≤ w1.heap.size) := hid (by have := hk1.size; rw [S0.out] at this; exact this)
       clear hk1 hr1))
  have INV : Hid (I1 w w1 r R 0 N) := hid ⟨K1.out, A1.out, S1.out, by
    cases b0 with
    | true => exact .inl ⟨by rw [QZ.out]; rfl, z0, R1.out⟩
    | false => exact .inr ⟨z0, [], [], none, 0, R1.out, rfl, rfl, by unfold LeftM; rw [QZ.out]; simp only [cond_false]; rcases measN N z0 with _ | ⟨l', u⟩ <;> rfl, A2.out, NsOwn.nil _ _⟩⟩
  clear C0 K0 S0 H1 H2 QZ K1 R1 A1 A2 S1
  go_wp2
  go_loopg [5] N (fun gk i wr => ∃ m : Nat, m + gk = N ∧ i = .int .i64 m ∧ Hid (I1 w wr r R m gk))
  case atStart => exact ⟨0, by omega, rfl, INV⟩
  case round =>
    clear INV
    obtain ⟨m, hm, rfl, HI⟩ := hrel
    obtain ⟨hK, hG2, hS, hc⟩ := HI.out
    have HK := hid hK
    have HG2 := hid hG2
    have HS := hid hS
    clear hK hG2 hS
    rcases hc with ⟨hRn, z, hRd⟩ | ⟨z, l, L, va, vc, hRd, hL, hM, hLF, hG3, hO⟩
    · have E1 : Hid (I1e w wr r R) := hid ⟨HK.out, HG2.out, HS.out, .inl ⟨hRn, z, hRd⟩⟩
      obtain ⟨ra, rl, rc, rbox, _⟩ := hRd
      obtain ⟨_, rb1, _, _⟩ := cellsF rbox
      clear rbox HI hRn HK HG2 HS
      by_cases hlt : m < N
      · have hltI : (m : Int) < N := by omega
        go_upto_region 9 with fail
        clear rb1
        obtain ⟨hK, hG2, hS, hcc⟩ := E1.out
        obtain ⟨bd, z, hRd, hst⟩ : ∃ bd z, RdR wr r bd z ∧ ((bd = true ∧ R = none) ∨ (bd = false ∧ ∃ l L va vc, R = some (l, z) ∧ L.map Nd.er = l.map Nd.er ∧ wr.heap[w.heap.size + 1]? = some (.cells #[.slice va L.length vc, .slice none 0 0] 49 (0, 0)) ∧ NsOwn wr (w.heap.size + 2) (.slice va L.length vc) L)) := by
          rcases hcc with ⟨h, z, hr⟩ | ⟨z, l, L, va, vc, h1, h2, h3⟩
          · exact ⟨true, z, hr, .inl ⟨rfl, h⟩⟩
          · exact ⟨false, z, h2, .inr ⟨rfl, l, L, va, vc, h1, h3⟩⟩
        rcases e1 : Nr bd z 1 with ⟨n2, b1, z1⟩
        have g1' := Nr_bd hRd.in bd 1
        rw [e1] at g1'
        simp only at g1'
        obtain ⟨N2, rfl⟩ : ∃ N2 : Nat, n2 = (N2 : Int) := ⟨n2.toNat, by omega⟩
        have hN2 : N2 < 256 := by omega
        have kn2 : IntKind.i64.wrap (N2 : Int) = N2 := by rw [IntKind.wrap_i64]; omega
        have C1 := hid (rdN1 hRd e1)
        obtain ⟨R2, hR2⟩ : ∃ R2 : Option (List St × List Int), R2 = match R with | none => none | some (_, t) => stampsQ t := ⟨_, rfl⟩
        have INV2 : Hid (∀ w', Kf r wr w' → RdR w' r b1 z1 → I2 w w' r R R2 0 N2) := hid (fun w' hk hr => by
          refine ⟨hK.trans hk, (hk.block _ (lt_blkR hG2) (by omega)).trans hG2, Nat.le_trans hS hk.size, ?_⟩
          rcases hst with ⟨rfl, h⟩ | ⟨rfl, l, L, va, vc, h1, h2, h3, h4⟩
          · have := nr_bad e1
            subst this
            exact .inl ⟨by rw [hR2, h], z1, hr⟩
          · have hq : R2 = bif b1 then none else stampsN N2 z1 := by
              rw [hR2, h1]
              show stampsQ z = _
              unfold stampsQ
              rw [nr_num e1]
              cases b1 with
              | true => rfl
              | false => simp
            cases b1 with
            | true => exact .inl ⟨hq, z1, hr⟩
            | false => exact .inr ⟨z1, [], va, L.length, vc, none, 0, hr, rfl, by unfold LeftS; rw [hq]; simp only [cond_false]; rcases stampsN N2 z1 with _ | ⟨l', u⟩ <;> rfl, (hk.block _ (lt_blkR h3) (by omega)).trans h3, ⟨l, z, L, h1, rfl, h2, h4.kf hk (by omega)⟩, World.ownsRow_nil _ _ _ _, fun x hx => by cases hx⟩)
        have SQ : Hid (snapQ zs = match R, R2 with | some (ns, _), some (ss, u) => some ((ns, ss), u) | _, _ => none) := hid (by
          unfold snapQ
          rw [← HRZ.out, hR2]
          rcases R with _ | ⟨ns, t⟩
          · rfl
          · simp only
            rcases stampsQ t with _ | ⟨ss, u⟩ <;> rfl)
        clear E1 hK hG2 hS hcc hst hRd e1 g1' hR2
        go_upto_region 10 with (go_at_call 31; refine C1.out.mono ?_; rintro _ w5 ⟨rfl, hk5, hr5⟩; (have IV := hid (INV2.out w5 hk5 hr5)); clear hk5 hr5)
        clear INV2 C1
        go_wp2
        generalize wr = wo at *
        go_loopg [8] N2 (fun gk i wr => ∃ m : Nat, m + gk = N2 ∧ i = .int .i64 m ∧ Hid (I2 w wr r R R2 m gk))
        case atStart => exact ⟨0, by omega, rfl, IV⟩
        case round =>
          clear IV
          obtain ⟨m, hm, rfl, HI⟩ := hrel
          obtain ⟨hK, hG2, hS, hc⟩ := HI.out
          have HK := hid hK
          have HG2 := hid hG2
          have HS := hid hS
          clear hK hG2 hS
          rcases hc with ⟨hRn, z, hRd⟩ | ⟨z, S, va, n, vc, vb, vd, hRd, hSl, hLF, hG3, hT, hO, hSw⟩
          · have NG : Hid (∀ ns ss rest, snapQ zs = some ((ns, ss), rest) → ¬ RSnap ns ss) := hid (fun ns ss rest e => by rw [SQ.out, hRn] at e; rcases R with _ | ⟨a', b'⟩ <;> cases e)
            have HRd := hid hRd
            obtain ⟨ra, rl, rc, rbox, _⟩ := hRd
            obtain ⟨_, rb1, _, rf1⟩ := cellsF rbox
            clear rbox HI hRn
            by_cases hlt : m < N2
            · have hltI : (m : Int) < N2 := by omega
              go_upto_region 18 with fail
              have KB := hid (HK.out.set 1 (.bool true))
              have RB := hid (HRd.out.flag true)
              have GB := hid ((heap_setCell_other wr ⟨r, 1, none⟩ w.heap.size (.bool true) (by show w.heap.size ≠ r; omega)).trans HG2.out)
              generalize wr.setCell ⟨r, 1, none⟩ (.bool true) = WB at *
              obtain ⟨q0, q1⟩ := sn_cells GB.out
              have fz := frzD GB.out
              go_wp2
              refine bodyPost_ret (v := snNo) (by simp [results, Try.results44, go_sem, snNo, q0, q1]) rfl ⟨(KB.out.far (Nat.le_refl _)).far (Nat.le_refl _), true, _, (RB.out.set (by omega)).set (by omega), .inl ⟨rfl, rfl, NG.out⟩⟩
            · have hltI : ¬ (m : Int) < N2 := by omega
              go_upto_region 18 with fail
              have KB := hid (HK.out.set 1 (.bool true))
              have RB := hid (HRd.out.flag true)
              have GB := hid ((heap_setCell_other wr ⟨r, 1, none⟩ w.heap.size (.bool true) (by show w.heap.size ≠ r; omega)).trans HG2.out)
              generalize wr.setCell ⟨r, 1, none⟩ (.bool true) = WB at *
              obtain ⟨q0, q1⟩ := sn_cells GB.out
              have fz := frzD GB.out
              go_wp2
              refine bodyPost_ret (v := snNo) (by simp [results, Try.results44, go_sem, snNo, q0, q1]) rfl ⟨(KB.out.far (Nat.le_refl _)).far (Nat.le_refl _), true, _, (RB.out.set (by omega)).set (by omega), .inl ⟨rfl, rfl, NG.out⟩⟩
          · have HRd := hid hRd
            have HLF := hid hLF
            have HG3 := hid hG3
            have HT := hid hT
            have HO := hid hO
            have HSl := hid hSl
            have HSw := hid hSw
            obtain ⟨ra, rl, rc, rbox, _⟩ := hRd
            obtain ⟨_, rb1, _, rf1⟩ := cellsF rbox
            clear hLF hG3 hT hO hSl hSw rbox HI
            by_cases hlt : m < N2
            · have hltI : (m : Int) < N2 := by omega
              obtain ⟨g1, rfl⟩ : ∃ g1, gk = g1 + 1 := ⟨gk - 1, by omega⟩
              rcases e4 : Nr false z 4 with ⟨f, b4, z4⟩
              rcases e8 : Nr b4 z4 8 with ⟨v, b8, z8⟩
              rcases e9 : Nr b8 z8 1 with ⟨k, b9, z9⟩
              have i4 := Nr_in HRd.out.in false 4
              have d4 := Nr_bd HRd.out.in false 4
              rw [e4] at i4 d4
              have i8 := Nr_in i4 b4 8
              have d8 := Nr_bd i4 b4 8
              rw [e8] at i8 d8
              have d9 := Nr_bd i8 b8 1
              rw [e9] at d9
              simp only at d4 d8 d9
              have uf : IntKind.u32.wrap f = f := by rw [IntKind.wrap_u32]; omega
              have uk : IntKind.u8.wrap k = k := by rw [IntKind.wrap_u8']; omega
              have XW : Hid (St.Wf ⟨f, v, k⟩) := hid ⟨⟨d4.1, by simpa using d4.2⟩, ⟨d8.1, by simpa using d8.2⟩, ⟨d9.1, by simpa using d9.2⟩⟩
              have SN := hid (st_nr e4 e8 e9)
              have C4 := hid (rdN4 HRd.out e4)
              have E8 := hid e8
              have E9 := hid e9
              clear e4 e8 e9 i4 i8 d4 d8 d9
              have t0 := hid True.intro
              go_upto_region 15 with (first
                | (have _q := t1.out; clear _q; go_at_call 31; refine (rdN8 R4.out E8.out).mono ?_; rintro _ w7 ⟨rfl, hk7, hr7⟩
                   have K7 := hid (K4.out.trans hk7)
                   have R7 := hid hr7
                   have G27 := hid ((hk7.block _ (lt_blkR G24.out) (by omega)).trans G24.out)
                   have G37 := hid ((hk7.block _ (lt_blkR G34.out) (by omega)).trans G34.out)
                   have O7 := hid (own_kf O4.out hk7 (by omega))
                   have T7 : Hid (Tr6 w w7 R va n vc) := hid (by obtain ⟨l, z', L, q1, q2, q3, q4⟩ := T4.out; exact ⟨l, z', L, q1, q2, q3, q4.kf hk7 (by omega)⟩)
                   have S7 := hid (Nat.le_trans S4.out hk7.size)
                   clear hk7 hr7 t1)
                | (have _q := t0.out; clear _q; go_at_call 31; refine C4.out.mono ?_; rintro _ w4 ⟨rfl, hk4, hr4⟩
                   have K4 := hid (HK.out.trans hk4)
                   have R4 := hid hr4
                   have G24 := hid ((hk4.block _ (lt_blkR HG2.out) (by omega)).trans HG2.out)
                   have G34 := hid ((hk4.block _ (lt_blkR HG3.out) (by omega)).trans HG3.out)
                   have O4 := hid (own_kf HO.out hk4 (by omega))
                   have T4 : Hid (Tr6 w w4 R va n vc) := hid (by obtain ⟨l, z', L, q1, q2, q3, q4⟩ := HT.out; exact ⟨l, z', L, q1, q2, q3, q4.kf hk4 (by omega)⟩)
                   have S4 := hid (Nat.le_trans HS.out hk4.size)
                   have t1 := hid True.intro
                   clear hk4 hr4 t0))
              clear rb1 rf1 C4 E8 HK HG2 HG3 HT HO HS HRd
              obtain ⟨l0, l1⟩ := sn_cells G37.out
              have l1d : w7.drew.cell? ⟨w.heap.size + 1, 1, none⟩ = some (.slice vb m vd) := l1
              have bd7 : Below w7.heap.size w7 w7.drew := Below.drew (Below.refl _ _)
              have R7d := hid (R7.out.later bd7)
              have G27d := hid ((bd7.block _ (lt_blkR G27.out)).trans G27.out)
              have G37d := hid ((bd7.block _ (lt_blkR G37.out)).trans G37.out)
              have K7d := hid (K7.out.trans (Kf.of bd7))
              have S7d := hid (Nat.le_trans S7.out bd7.size)
              have O7d := hid (own_latR O7.out bd7)
              have T7d : Hid (Tr6 w w7.drew R va n vc) := hid (by obtain ⟨l, z', L, q1, q2, q3, q4⟩ := T7.out; exact ⟨l, z', L, q1, q2, q3, q4.later bd7⟩)
              clear bd7 R7 G27 G37 K7 S7 O7 T7
              go_region_law (first
                | (refine step_appS _ (by rfl) _ _ (by rfl) (w.heap.size + 2) (.slice vb m vd) _ _ (by rfl) O8.out w8.heap.size ⟨f, v, k⟩ (by rfl) N8.out (by omega) S8.out ?_
                   intro v9 w9 hown9 hgrow9
                   have bl := below_grownR (Below.refl (w.heap.size + 2) _) O8.out (Nat.le_refl _) S8.out hgrow9
                   have hg9 := (bl.block _ (by omega)).trans G38.out
                   have G39 := hid hg9
                   have G29 := hid ((bl.block _ (by omega)).trans G28.out)
                   have R9 := hid (R8.out.low bl (by omega))
                   have K9 := hid (K8.out.low (bl.mono (by omega)))
                   have S9 := hid (Nat.le_trans S8.out hgrow9.size)
                   have T9 : Hid (Tr6 w w9 R va n vc) := hid (by obtain ⟨l, z', L, q1, q2, q3, q4⟩ := T8.out; exact ⟨l, z', L, q1, q2, q3, q4.other O8.out hgrow9⟩)
                   have O9 := hid hown9
                   obtain ⟨m0, m1⟩ := sn_cells hg9
                   have fz9 := frzD hg9
                   obtain ⟨a9, c9, rfl⟩ := own_shapeR hown9
                   clear hown9 hgrow9 bl hg9)
                | (go_simp; go_at_call 31; refine (rdN1 R7d.out E9.out).mono ?_; rintro _ w8 ⟨rfl, hk9, hr9⟩
                   have b8 := below_1 w8 (.cells (St.cells ⟨f, v, k⟩).toArray 85)
                   have hx8 := (hk9.block _ (lt_blkR G37d.out) (by omega)).trans G37d.out
                   have l8 := (sn_cells hx8).2
                   have hx9 := (b8.block _ (lt_blkR hx8)).trans hx8
                   have l9 := (sn_cells hx9).2
                   have G38 := hid hx9
                   have G28 := hid ((b8.block _ (lt_blkR ((hk9.block _ (lt_blkR G27d.out) (by omega)).trans G27d.out))).trans ((hk9.block _ (lt_blkR G27d.out) (by omega)).trans G27d.out))
                   have R8 := hid (hr9.later b8)
                   have K8 := hid ((K7d.out.trans hk9).trans (Kf.of b8))
                   have S8 := hid (Nat.le_trans (Nat.le_trans S7d.out hk9.size) b8.size)
                   have O8 := hid (own_latR (own_kf O7d.out hk9 (by omega)) b8)
                   have T8 : Hid (Tr6 w (w8.alloc (.cells (St.cells ⟨f, v, k⟩).toArray 85)) R va n vc) := hid (by obtain ⟨l, z', L, q1, q2, q3, q4⟩ := T7d.out; exact ⟨l, z', L, q1, q2, q3, (q4.kf hk9 (by omega)).later b8⟩)
                   have N8 := hid (heap_alloc_new w8 (.cells (St.cells ⟨f, v, k⟩).toArray 85))
                   dsimp only [St.cells] at l8 l9
                   clear hk9 hr9 b8 hx8 hx9))
              all_goals
                have FI : Hid (I2 w (w9.setCell ⟨w.heap.size + 1, 1, none⟩ (.slice a9 (m + 1) c9)) r R R2 (m + 1) g1) := hid (by
                  refine ⟨K9.out.far (by omega), (heap_setCell_other _ _ _ _ (by show w.heap.size ≠ w.heap.size + 1; omega)).trans G29.out, by have := S9.out; simpa [World.setCell] using this, ?_⟩
                  rcases SN.out with ⟨h1, h2⟩ | ⟨h1, h2⟩
                  · rw [h1] at R9
                    exact .inl ⟨HLF.out.none h2, z9, R9.out.set (by omega)⟩
                  · rw [h1] at R9
                    refine .inr ⟨z9, S ++ [⟨f, v, k⟩], va, n, vc, a9, c9, R9.out.set (by omega), by rw [List.length_append, HSl.out]; rfl, HLF.out.some h2, set1F _ G39.out, ?_, ?_, ?_⟩
                    · obtain ⟨l, z', L, q1, q2, q3, q4⟩ := T9.out
                      exact ⟨l, z', L, q1, q2, q3, q4.set (by show w.heap.size + 1 < w.heap.size + 2; omega) _⟩
                    · rw [scells_snoc]
                      exact own_set O9.out (by show w.heap.size + 1 < w.heap.size + 2; omega) _
                    · intro q hq
                      rcases List.mem_append.1 hq with h | h
                      · exact HSw.out q h
                      · rw [List.mem_singleton.1 h]; exact XW.out)
                clear G39 G29 R9 K9 S9 T9 O9
                go_wp2
                go_roundg g1
                case measure => omega
                case rel => exact ⟨m + 1, by omega, by go_num, FI⟩
            · have hltI : ¬ (m : Int) < N2 := by omega
              obtain rfl : gk = 0 := by omega
              obtain ⟨l, z', L, q1, q2, q3, q4⟩ := HT.out
              have ER2 : Hid (R2 = some (S, z)) := hid (by have := HLF.out; unfold LeftS at this; simpa [stampsN] using this)
              have SQ2 : Hid (snapQ zs = some ((l, S), z)) := hid (by rw [SQ.out, ER2.out, q1])
              have hS255 : S.length ≤ 255 := by rw [HSl.out]; omega
              have n255 : L.length ≤ 255 := by
                have h1 := congrArg List.length q3
                simp at h1
                rw [h1]
                exact nodesQ_len ZIN.out (by rw [← HRZ.out]; exact q1)
              have hSl := HSl.out
              subst hSl
              subst q2
              have hN : IsNs wr va L := by
                obtain ⟨p, c, e, hI⟩ := q4.is (by omega)
                simp only [Value.slice.injEq] at e
                rw [e.1]; exact hI
              have hSs : IsSs wr vb S := by
                obtain ⟨p, c, e, hI⟩ := isSs_own HO.out HSw.out (by omega)
                simp only [Value.slice.injEq] at e
                rw [e.1]; exact hI
              obtain ⟨t0, t1⟩ := sn_cells HG3.out
              have RC := hid (rRightSnap_c va vb vc vd L S wr hN hSs (by omega) (by omega))
              have Q3 := hid q3
              have Q4 := hid q4
              have RL : Hid (RSnap L S ↔ RSnap l S) := hid (by rw [← rsnap_er, q3, rsnap_er])
              clear hN hSs q1 q3 q4 HLF ER2 HT SQ hm
              cases hd : snapD L S with
              | false =>
                have NG : Hid (∀ ns ss rest, snapQ zs = some ((ns, ss), rest) → ¬ RSnap ns ss) := hid (fun ns ss rest e hr => by
                  rw [SQ2.out] at e
                  simp only [Option.some.injEq, Prod.mk.injEq] at e
                  obtain ⟨⟨rfl, rfl⟩, _⟩ := e
                  rw [← RL.out, snapD_iff, hd] at hr
                  cases hr)
                rw [hd] at RC
                go_upto_region 17 with (first
                  | (go_at_call 39; refine RC.out.mono ?_; rintro _ w9 ⟨rfl, hb9⟩
                     have K9 := hid (HK.out.trans (Kf.of hb9))
                     have R9 := hid (HRd.out.later hb9)
                     have G29 := hid ((hb9.block _ (lt_blkR HG2.out)).trans HG2.out)
                     obtain ⟨ra9, rl9, rc9, rbox9, _⟩ := HRd.out.later hb9
                     obtain ⟨_, rb9, _, rf9⟩ := cellsF rbox9
                     clear hb9 rbox9))
                go_upto_region 18 with fail
                have KB := hid (K9.out.set 1 (.bool true))
                have RB := hid (R9.out.flag true)
                have GB := hid ((heap_setCell_other w9 ⟨r, 1, none⟩ w.heap.size (.bool true) (by show w.heap.size ≠ r; omega)).trans G29.out)
                generalize w9.setCell ⟨r, 1, none⟩ (.bool true) = WB at *
                obtain ⟨q0, q1⟩ := sn_cells GB.out
                have fz := frzD GB.out
                go_wp2
                refine bodyPost_ret (v := snNo) (by simp [results, Try.results44, go_sem, snNo, q0, q1]) rfl ⟨(KB.out.far (Nat.le_refl _)).far (Nat.le_refl _), true, _, (RB.out.set (by omega)).set (by omega), .inl ⟨rfl, rfl, NG.out⟩⟩
              | true =>
                have hr := (snapD_iff L S).2 hd
                have HR6 := hid hr
                have S40 : Hid (S.length ≤ 40) := hid (by
                  have h1 := hr.2
                  unfold stOk at h1
                  rw [Bool.and_eq_true, decide_eq_true_eq] at h1
                  have := hr.1.1
                  omega)
                rw [hd] at RC
                clear hr hd
                go_upto_region 19 with (first
                  | (go_at_call 39; refine RC.out.mono ?_; rintro _ w9 ⟨rfl, hb9⟩
                     have K9 := hid (HK.out.trans (Kf.of hb9))
                     have R9 := hid (HRd.out.later hb9)
                     have G29 := hid ((hb9.block _ (lt_blkR HG2.out)).trans HG2.out)
                     have G39 := hid ((hb9.block _ (lt_blkR HG3.out)).trans HG3.out)
                     have N9 := hid (Q4.out.later hb9)
                     have O9 := hid (own_latR HO.out hb9)
                     clear hb9))
                obtain ⟨u0, u1⟩ := sn_cells G39.out
                obtain ⟨q0, q1⟩ := sn_cells G29.out
                have fz := frzD G29.out
                clear t0 t1 rb1 rf1
                go_wp2
                refine bodyPost_ret (v := snV va L.length vc vb S.length vd) (by simp [results, Try.results44, go_sem, snV, q0, q1]) rfl ⟨(K9.out.far (Nat.le_refl _)).far (Nat.le_refl _), false, z, (R9.out.set (by omega)).set (by omega), .inr ⟨rfl, l, S, SQ2.out, RL.out.1 HR6.out, va, vc, vb, vd, L, rfl, Q3.out, ?_⟩⟩
                exact ⟨((N9.out.set (p := ⟨w.heap.size, 0, none⟩) (by show w.heap.size < w.heap.size + 2; omega) _).set (p := ⟨w.heap.size, 1, none⟩) (by show w.heap.size < w.heap.size + 2; omega) _).low (by omega), own_low (own_set (own_set O9.out (p := ⟨w.heap.size, 0, none⟩) (by show w.heap.size < w.heap.size + 2; omega) _) (p := ⟨w.heap.size, 1, none⟩) (by show w.heap.size < w.heap.size + 2; omega) _) (by omega), HSw.out, HR6.out.1.1, S40.out⟩
      · have hltI : ¬ (m : Int) < N := by omega
        go_upto_region 9 with fail
        clear rb1
        obtain ⟨hK, hG2, hS, hcc⟩ := E1.out
        obtain ⟨bd, z, hRd, hst⟩ : ∃ bd z, RdR wr r bd z ∧ ((bd = true ∧ R = none) ∨ (bd = false ∧ ∃ l L va vc, R = some (l, z) ∧ L.map Nd.er = l.map Nd.er ∧ wr.heap[w.heap.size + 1]? = some (.cells #[.slice va L.length vc, .slice none 0 0] 49 (0, 0)) ∧ NsOwn wr (w.heap.size + 2) (.slice va L.length vc) L)) := by
          rcases hcc with ⟨h, z, hr⟩ | ⟨z, l, L, va, vc, h1, h2, h3⟩
          · exact ⟨true, z, hr, .inl ⟨rfl, h⟩⟩
          · exact ⟨false, z, h2, .inr ⟨rfl, l, L, va, vc, h1, h3⟩⟩
        rcases e1 : Nr bd z 1 with ⟨n2, b1, z1⟩
        have g1' := Nr_bd hRd.in bd 1
        rw [e1] at g1'
        simp only at g1'
        obtain ⟨N2, rfl⟩ : ∃ N2 : Nat, n2 = (N2 : Int) := ⟨n2.toNat, by omega⟩
        have hN2 : N2 < 256 := by omega
        have kn2 : IntKind.i64.wrap (N2 : Int) = N2 := by rw [IntKind.wrap_i64]; omega
        have C1 := hid (rdN1 hRd e1)
        obtain ⟨R2, hR2⟩ : ∃ R2 : Option (List St × List Int), R2 = match R with | none => none | some (_, t) => stampsQ t := ⟨_, rfl⟩
        have INV2 : Hid (∀ w', Kf r wr w' → RdR w' r b1 z1 → I2 w w' r R R2 0 N2) := hid (fun w' hk hr => by
          refine ⟨hK.trans hk, (hk.block _ (lt_blkR hG2) (by omega)).trans hG2, Nat.le_trans hS hk.size, ?_⟩
          rcases hst with ⟨rfl, h⟩ | ⟨rfl, l, L, va, vc, h1, h2, h3, h4⟩
          · have := nr_bad e1
            subst this
            exact .inl ⟨by rw [hR2, h], z1, hr⟩
          · have hq : R2 = bif b1 then none else stampsN N2 z1 := by
              rw [hR2, h1]
              show stampsQ z = _
              unfold stampsQ
              rw [nr_num e1]
              cases b1 with
              | true => rfl
              | false => simp
            cases b1 with
            | true => exact .inl ⟨hq, z1, hr⟩
            | false => exact .inr ⟨z1, [], va, L.length, vc, none, 0, hr, rfl, by unfold LeftS; rw [hq]; simp only [cond_false]; rcases stampsN N2 z1 with _ | ⟨l', u⟩ <;> rfl, (hk.block _ (lt_blkR h3) (by omega)).trans h3, ⟨l, z, L, h1, rfl, h2, h4.kf hk (by omega)⟩, World.ownsRow_nil _ _ _ _, fun x hx => by cases hx⟩)
        have SQ : Hid (snapQ zs = match R, R2 with | some (ns, _), some (ss, u) => some ((ns, ss), u) | _, _ => none) := hid (by
          unfold snapQ
          rw [← HRZ.out, hR2]
          rcases R with _ | ⟨ns, t⟩
          · rfl
          · simp only
            rcases stampsQ t with _ | ⟨ss, u⟩ <;> rfl)
        clear E1 hK hG2 hS hcc hst hRd e1 g1' hR2
        go_upto_region 10 with (go_at_call 31; refine C1.out.mono ?_; rintro _ w5 ⟨rfl, hk5, hr5⟩; (have IV := hid (INV2.out w5 hk5 hr5)); clear hk5 hr5)
        clear INV2 C1
        go_wp2
        generalize wr = wo at *
        go_loopg [8] N2 (fun gk i wr => ∃ m : Nat, m + gk = N2 ∧ i = .int .i64 m ∧ Hid (I2 w wr r R R2 m gk))
        case atStart => exact ⟨0, by omega, rfl, IV⟩
        case round =>
          clear IV
          obtain ⟨m, hm, rfl, HI⟩ := hrel
          obtain ⟨hK, hG2, hS, hc⟩ := HI.out
          have HK := hid hK
          have HG2 := hid hG2
          have HS := hid hS
          clear hK hG2 hS
          rcases hc with ⟨hRn, z, hRd⟩ | ⟨z, S, va, n, vc, vb, vd, hRd, hSl, hLF, hG3, hT, hO, hSw⟩
          · have NG : Hid (∀ ns ss rest, snapQ zs = some ((ns, ss), rest) → ¬ RSnap ns ss) := hid (fun ns ss rest e => by rw [SQ.out, hRn] at e; rcases R with _ | ⟨a', b'⟩ <;> cases e)
            have HRd := hid hRd
            obtain ⟨ra, rl, rc, rbox, _⟩ := hRd
            obtain ⟨_, rb1, _, rf1⟩ := cellsF rbox
            clear rbox HI hRn
            by_cases hlt : m < N2
            · have hltI : (m : Int) < N2 := by omega
              go_upto_region 18 with fail
              have KB := hid (HK.out.set 1 (.bool true))
              have RB := hid (HRd.out.flag true)
              have GB := hid ((heap_setCell_other wr ⟨r, 1, none⟩ w.heap.size (.bool true) (by show w.heap.size ≠ r; omega)).trans HG2.out)
              generalize wr.setCell ⟨r, 1, none⟩ (.bool true) = WB at *
              obtain ⟨q0, q1⟩ := sn_cells GB.out
              have fz := frzD GB.out
              go_wp2
              refine bodyPost_ret (v := snNo) (by simp [results, Try.results44, go_sem, snNo, q0, q1]) rfl ⟨(KB.out.far (Nat.le_refl _)).far (Nat.le_refl _), true, _, (RB.out.set (by omega)).set (by omega), .inl ⟨rfl, rfl, NG.out⟩⟩
            · have hltI : ¬ (m : Int) < N2 := by omega
              go_upto_region 18 with fail
              have KB := hid (HK.out.set 1 (.bool true))
              have RB := hid (HRd.out.flag true)
              have GB := hid ((heap_setCell_other wr ⟨r, 1, none⟩ w.heap.size (.bool true) (by show w.heap.size ≠ r; omega)).trans HG2.out)
              generalize wr.setCell ⟨r, 1, none⟩ (.bool true) = WB at *
              obtain ⟨q0, q1⟩ := sn_cells GB.out
              have fz := frzD GB.out
              go_wp2
              refine bodyPost_ret (v := snNo) (by simp [results, Try.results44, go_sem, snNo, q0, q1]) rfl ⟨(KB.out.far (Nat.le_refl _)).far (Nat.le_refl _), true, _, (RB.out.set (by omega)).set (by omega), .inl ⟨rfl, rfl, NG.out⟩⟩
          · have HRd := hid hRd
            have HLF := hid hLF
            have HG3 := hid hG3
            have HT := hid hT
            have HO := hid hO
            have HSl := hid hSl
            have HSw := hid hSw
            obtain ⟨ra, rl, rc, rbox, _⟩ := hRd
            obtain ⟨_, rb1, _, rf1⟩ := cellsF rbox
            clear hLF hG3 hT hO hSl hSw rbox HI
            by_cases hlt : m < N2
            · have hltI : (m : Int) < N2 := by omega
              obtain ⟨g1, rfl⟩ : ∃ g1, gk = g1 + 1 := ⟨gk - 1, by omega⟩
              rcases e4 : Nr false z 4 with ⟨f, b4, z4⟩
              rcases e8 : Nr b4 z4 8 with ⟨v, b8, z8⟩
              rcases e9 : Nr b8 z8 1 with ⟨k, b9, z9⟩
              have i4 := Nr_in HRd.out.in false 4
              have d4 := Nr_bd HRd.out.in false 4
              rw [e4] at i4 d4
              have i8 := Nr_in i4 b4 8
              have d8 := Nr_bd i4 b4 8
              rw [e8] at i8 d8
              have d9 := Nr_bd i8 b8 1
              rw [e9] at d9
              simp only at d4 d8 d9
              have uf : IntKind.u32.wrap f = f := by rw [IntKind.wrap_u32]; omega
              have uk : IntKind.u8.wrap k = k := by rw [IntKind.wrap_u8']; omega
              have XW : Hid (St.Wf ⟨f, v, k⟩) := hid ⟨⟨d4.1, by simpa using d4.2⟩, ⟨d8.1, by simpa using d8.2⟩, ⟨d9.1, by simpa using d9.2⟩⟩
              have SN := hid (st_nr e4 e8 e9)
              have C4 := hid (rdN4 HRd.out e4)
              have E8 := hid e8
              have E9 := hid e9
              clear e4 e8 e9 i4 i8 d4 d8 d9
              have t0 := hid True.intro
              go_upto_region 15 with (first
                | (have _q := t1.out; clear _q; go_at_call 31; refine (rdN8 R4.out E8.out).mono ?_; rintro _ w7 ⟨rfl, hk7, hr7⟩
                   have K7 := hid (K4.out.trans hk7)
                   have R7 := hid hr7
                   have G27 := hid ((hk7.block _ (lt_blkR G24.out) (by omega)).trans G24.out)
                   have G37 := hid ((hk7.block _ (lt_blkR G34.out) (by omega)).trans G34.out)
                   have O7 := hid (own_kf O4.out hk7 (by omega))
                   have T7 : Hid (Tr6 w w7 R va n vc) := hid (by obtain ⟨l, z', L, q1, q2, q3, q4⟩ := T4.out; exact ⟨l, z', L, q1, q2, q3, q4.kf hk7 (by omega)⟩)
                   have S7 := hid (Nat.le_trans S4.out hk7.size)
                   clear hk7 hr7 t1)
                | (have _q := t0.out; clear _q; go_at_call 31; refine C4.out.mono ?_; rintro _ w4 ⟨rfl, hk4, hr4⟩
                   have K4 := hid (HK.out.trans hk4)
                   have R4 := hid hr4
                   have G24 := hid ((hk4.block _ (lt_blkR HG2.out) (by omega)).trans HG2.out)
                   have G34 := hid ((hk4.block _ (lt_blkR HG3.out) (by omega)).trans HG3.out)
                   have O4 := hid (own_kf HO.out hk4 (by omega))
                   have T4 : Hid (Tr6 w w4 R va n vc) := hid (by obtain ⟨l, z', L, q1, q2, q3, q4⟩ := HT.out; exact ⟨l, z', L, q1, q2, q3, q4.kf hk4 (by omega)⟩)
                   have S4 := hid (Nat.le_trans HS.out hk4.size)
                   have t1 := hid True.intro
                   clear hk4 hr4 t0))
              clear rb1 rf1 C4 E8 HK HG2 HG3 HT HO HS HRd
              obtain ⟨l0, l1⟩ := sn_cells G37.out
              have l1d : w7.drew.cell? ⟨w.heap.size + 1, 1, none⟩ = some (.slice vb m vd) := l1
              have bd7 : Below w7.heap.size w7 w7.drew := Below.drew (Below.refl _ _)
              have R7d := hid (R7.out.later bd7)
              have G27d := hid ((bd7.block _ (lt_blkR G27.out)).trans G27.out)
              have G37d := hid ((bd7.block _ (lt_blkR G37.out)).trans G37.out)
              have K7d := hid (K7.out.trans (Kf.of bd7))
              have S7d := hid (Nat.le_trans S7.out bd7.size)
              have O7d := hid (own_latR O7.out bd7)
              have T7d : Hid (Tr6 w w7.drew R va n vc) := hid (by obtain ⟨l, z', L, q1, q2, q3, q4⟩ := T7.out; exact ⟨l, z', L, q1, q2, q3, q4.later bd7⟩)
              clear bd7 R7 G27 G37 K7 S7 O7 T7
              go_region_law (first
                | (refine step_appS _ (by rfl) _ _ (by rfl) (w.heap.size + 2) (.slice vb m vd) _ _ (by rfl) O8.out w8.heap.size ⟨f, v, k⟩ (by rfl) N8.out (by omega) S8.out ?_
                   intro v9 w9 hown9 hgrow9
                   have bl := below_grownR (Below.refl (w.heap.size + 2) _) O8.out (Nat.le_refl _) S8.out hgrow9
                   have hg9 := (bl.block _ (by omega)).trans G38.out
                   have G39 := hid hg9
                   have G29 := hid ((bl.block _ (by omega)).trans G28.out)
                   have R9 := hid (R8.out.low bl (by omega))
                   have K9 := hid (K8.out.low (bl.mono (by omega)))
                   have S9 := hid (Nat.le_trans S8.out hgrow9.size)
                   have T9 : Hid (Tr6 w w9 R va n vc) := hid (by obtain ⟨l, z', L, q1, q2, q3, q4⟩ := T8.out; exact ⟨l, z', L, q1, q2, q3, q4.other O8.out hgrow9⟩)
                   have O9 := hid hown9
                   obtain ⟨m0, m1⟩ := sn_cells hg9
                   have fz9 := frzD hg9
                   obtain ⟨a9, c9, rfl⟩ := own_shapeR hown9
                   clear hown9 hgrow9 bl hg9)
                | (go_simp; go_at_call 31; refine (rdN1 R7d.out E9.out).mono ?_; rintro _ w8 ⟨rfl, hk9, hr9⟩
                   have b8 := below_1 w8 (.cells (St.cells ⟨f, v, k⟩).toArray 85)
                   have hx8 := (hk9.block _ (lt_blkR G37d.out) (by omega)).trans G37d.out
                   have l8 := (sn_cells hx8).2
                   have hx9 := (b8.block _ (lt_blkR hx8)).trans hx8
                   have l9 := (sn_cells hx9).2
                   have G38 := hid hx9
                   have G28 := hid ((b8.block _ (lt_blkR ((hk9.block _ (lt_blkR G27d.out) (by omega)).trans G27d.out))).trans ((hk9.block _ (lt_blkR G27d.out) (by omega)).trans G27d.out))
                   have R8 := hid (hr9.later b8)
                   have K8 := hid ((K7d.out.trans hk9).trans (Kf.of b8))
                   have S8 := hid (Nat.le_trans (Nat.le_trans S7d.out hk9.size) b8.size)
                   have O8 := hid (own_latR (own_kf O7d.out hk9 (by omega)) b8)
                   have T8 : Hid (Tr6 w (w8.alloc (.cells (St.cells ⟨f, v, k⟩).toArray 85)) R va n vc) := hid (by obtain ⟨l, z', L, q1, q2, q3, q4⟩ := T7d.out; exact ⟨l, z', L, q1, q2, q3, (q4.kf hk9 (by omega)).later b8⟩)
                   have N8 := hid (heap_alloc_new w8 (.cells (St.cells ⟨f, v, k⟩).toArray 85))
                   dsimp only [St.cells] at l8 l9
                   clear hk9 hr9 b8 hx8 hx9))
              all_goals
                have FI : Hid (I2 w (w9.setCell ⟨w.heap.size + 1, 1, none⟩ (.slice a9 (m + 1) c9)) r R R2 (m + 1) g1) := hid (by
                  refine ⟨K9.out.far (by omega), (heap_setCell_other _ _ _ _ (by show w.heap.size ≠ w.heap.size + 1; omega)).trans G29.out, by have := S9.out; simpa [World.setCell] using this, ?_⟩
                  rcases SN.out with ⟨h1, h2⟩ | ⟨h1, h2⟩
                  · rw [h1] at R9
                    exact .inl ⟨HLF.out.none h2, z9, R9.out.set (by omega)⟩
                  · rw [h1] at R9
                    refine .inr ⟨z9, S ++ [⟨f, v, k⟩], va, n, vc, a9, c9, R9.out.set (by omega), by rw [List.length_append, HSl.out]; rfl, HLF.out.some h2, set1F _ G39.out, ?_, ?_, ?_⟩
                    · obtain ⟨l, z', L, q1, q2, q3, q4⟩ := T9.out
                      exact ⟨l, z', L, q1, q2, q3, q4.set (by show w.heap.size + 1 < w.heap.size + 2; omega) _⟩
                    · rw [scells_snoc]
                      exact own_set O9.out (by show w.heap.size + 1 < w.heap.size + 2; omega) _
                    · intro q hq
                      rcases List.mem_append.1 hq with h | h
                      · exact HSw.out q h
                      · rw [List.mem_singleton.1 h]; exact XW.out)
                clear G39 G29 R9 K9 S9 T9 O9
                go_wp2
                go_roundg g1
                case measure => omega
                case rel => exact ⟨m + 1, by omega, by go_num, FI⟩
            · have hltI : ¬ (m : Int) < N2 := by omega
              obtain rfl : gk = 0 := by omega
              obtain ⟨l, z', L, q1, q2, q3, q4⟩ := HT.out
              have ER2 : Hid (R2 = some (S, z)) := hid (by have := HLF.out; unfold LeftS at this; simpa [stampsN] using this)
              have SQ2 : Hid (snapQ zs = some ((l, S), z)) := hid (by rw [SQ.out, ER2.out, q1])
              have hS255 : S.length ≤ 255 := by rw [HSl.out]; omega
              have n255 : L.length ≤ 255 := by
                have h1 := congrArg List.length q3
                simp at h1
                rw [h1]
                exact nodesQ_len ZIN.out (by rw [← HRZ.out]; exact q1)
              have hSl := HSl.out
              subst hSl
              subst q2
              have hN : IsNs wr va L := by
                obtain ⟨p, c, e, hI⟩ := q4.is (by omega)
                simp only [Value.slice.injEq] at e
                rw [e.1]; exact hI
              have hSs : IsSs wr vb S := by
                obtain ⟨p, c, e, hI⟩ := isSs_own HO.out HSw.out (by omega)
                simp only [Value.slice.injEq] at e
                rw [e.1]; exact hI
              obtain ⟨t0, t1⟩ := sn_cells HG3.out
              have RC := hid (rRightSnap_c va vb vc vd L S wr hN hSs (by omega) (by omega))
              have Q3 := hid q3
              have Q4 := hid q4
              have RL : Hid (RSnap L S ↔ RSnap l S) := hid (by rw [← rsnap_er, q3, rsnap_er])
              clear hN hSs q1 q3 q4 HLF ER2 HT SQ hm
              cases hd : snapD L S with
              | false =>
                have NG : Hid (∀ ns ss rest, snapQ zs = some ((ns, ss), rest) → ¬ RSnap ns ss) := hid (fun ns ss rest e hr => by
                  rw [SQ2.out] at e
                  simp only [Option.some.injEq, Prod.mk.injEq] at e
                  obtain ⟨⟨rfl, rfl⟩, _⟩ := e
                  rw [← RL.out, snapD_iff, hd] at hr
                  cases hr)
                rw [hd] at RC
                go_upto_region 17 with (first
                  | (go_at_call 39; refine RC.out.mono ?_; rintro _ w9 ⟨rfl, hb9⟩
                     have K9 := hid (HK.out.trans (Kf.of hb9))
                     have R9 := hid (HRd.out.later hb9)
                     have G29 := hid ((hb9.block _ (lt_blkR HG2.out)).trans HG2.out)
                     obtain ⟨ra9, rl9, rc9, rbox9, _⟩ := HRd.out.later hb9
                     obtain ⟨_, rb9, _, rf9⟩ := cellsF rbox9
                     clear hb9 rbox9))
                go_upto_region 18 with fail
                have KB := hid (K9.out.set 1 (.bool true))
                have RB := hid (R9.out.flag true)
                have GB := hid ((heap_setCell_other w9 ⟨r, 1, none⟩ w.heap.size (.bool true) (by show w.heap.size ≠ r; omega)).trans G29.out)
                generalize w9.setCell ⟨r, 1, none⟩ (.bool true) = WB at *
                obtain ⟨q0, q1⟩ := sn_cells GB.out
                have fz := frzD GB.out
                go_wp2
                refine bodyPost_ret (v := snNo) (by simp [results, Try.results44, go_sem, snNo, q0, q1]) rfl ⟨(KB.out.far (Nat.le_refl _)).far (Nat.le_refl _), true, _, (RB.out.set (by omega)).set (by omega), .inl ⟨rfl, rfl, NG.out⟩⟩
              | true =>
                have hr := (snapD_iff L S).2 hd
                have HR6 := hid hr
                have S40 : Hid (S.length ≤ 40) := hid (by
                  have h1 := hr.2
                  unfold stOk at h1
                  rw [Bool.and_eq_true, decide_eq_true_eq] at h1
                  have := hr.1.1
                  omega)
                rw [hd] at RC
                clear hr hd
                go_upto_region 19 with (first
                  | (go_at_call 39; refine RC.out.mono ?_; rintro _ w9 ⟨rfl, hb9⟩
                     have K9 := hid (HK.out.trans (Kf.of hb9))
                     have R9 := hid (HRd.out.later hb9)
                     have G29 := hid ((hb9.block _ (lt_blkR HG2.out)).trans HG2.out)
                     have G39 := hid ((hb9.block _ (lt_blkR HG3.out)).trans HG3.out)
                     have N9 := hid (Q4.out.later hb9)
                     have O9 := hid (own_latR HO.out hb9)
                     clear hb9))
                obtain ⟨u0, u1⟩ := sn_cells G39.out
                obtain ⟨q0, q1⟩ := sn_cells G29.out
                have fz := frzD G29.out
                clear t0 t1 rb1 rf1
                go_wp2
                refine bodyPost_ret (v := snV va L.length vc vb S.length vd) (by simp [results, Try.results44, go_sem, snV, q0, q1]) rfl ⟨(K9.out.far (Nat.le_refl _)).far (Nat.le_refl _), false, z, (R9.out.set (by omega)).set (by omega), .inr ⟨rfl, l, S, SQ2.out, RL.out.1 HR6.out, va, vc, vb, vd, L, rfl, Q3.out, ?_⟩⟩
                exact ⟨((N9.out.set (p := ⟨w.heap.size, 0, none⟩) (by show w.heap.size < w.heap.size + 2; omega) _).set (p := ⟨w.heap.size, 1, none⟩) (by show w.heap.size < w.heap.size + 2; omega) _).low (by omega), own_low (own_set (own_set O9.out (p := ⟨w.heap.size, 0, none⟩) (by show w.heap.size < w.heap.size + 2; omega) _) (p := ⟨w.heap.size, 1, none⟩) (by show w.heap.size < w.heap.size + 2; omega) _) (by omega), HSw.out, HR6.out.1.1, S40.out⟩
    · have HRd := hid hRd
      have HM := hid hM
      have HLF := hid hLF
      have HG3 := hid hG3
      have HO := hid hO
      have HL := hid hL
      obtain ⟨ra, rl, rc, rbox, _⟩ := hRd
      obtain ⟨_, rb1, _, _⟩ := cellsF rbox
      clear hM hLF hG3 hO hL rbox HI
      by_cases hlt : m < N
      · have hltI : (m : Int) < N := by omega
        obtain ⟨g1, rfl⟩ : ∃ g1, gk = g1 + 1 := ⟨gk - 1, by omega⟩
        rcases e2 : Nr false z 2 with ⟨k', b2, z2⟩
        have g2 := Nr_bd HRd.out.in false 2
        rw [e2] at g2
        simp only at g2
        obtain ⟨k, rfl⟩ : ∃ k : Nat, k' = (k : Int) := ⟨k'.toNat, by omega⟩
        have hk64 : k < 65536 := by omega
        have kk : IntKind.i64.wrap (k : Int) = k := by rw [IntKind.wrap_i64]; omega
        have C2 := hid (rdN2 HRd.out e2)
        have NM := hid (nr_num e2)
        have IN2 := hid (Nr_in HRd.out.in false 2)
        rw [e2] at IN2
        clear g2 e2
        go_upto_region 6 with fail
        go_cut [6, 7] from 27 to 34 (fun s6 s7 wx => ∃ wy, wy = wx ∧ Hid (M1 w wy r m z va vc L s6 s7))
        case first =>
          by_cases qt : b2 = false ∧ k ≤ z2.length
          · obtain ⟨rfl, qk⟩ := qt
            obtain ⟨ys, hys⟩ : ∃ ys, ys = z2.take k := ⟨_, rfl⟩
            have IN3 : Hid (∀ y ∈ ys, 0 ≤ y ∧ y ≤ 255) := hid (fun y hy => by
              rw [hys] at hy
              obtain ⟨i, hi', rfl⟩ := List.getElem_of_mem (List.mem_of_mem_take hy)
              have := IN2.out i
              simpa [List.getD, hi'] using this)
            have HL3 : Hid (ys.length = k) := hid (by rw [hys, List.length_take]; omega)
            have HYS := hid hys
            have QK := hid qk
            have MP : Hid (measP z = match nodeAll ys with | none => none | some x => some (x, z2.drop k)) := hid (by
              unfold measP
              rw [NM.out]
              simp only [cond_false, Int.toNat_natCast]
              rw [if_pos qk, hys]
              cases nodeAll (z2.take k) <;> rfl)
            clear hys qk
            rcases hx : nodeAll ys with _ | x
            · rw [hx] at MP
              go_wp2_with (first
                | (go_at_call 12; refine RN.out.mono ?_; rintro _ w4 ⟨hb4, hv4⟩
                   rw [hx] at hv4
                   simp only at hv4
                   subst hv4
                   have FIN := hid (M1_mk (z := z) (y := Nd.no) (er := 3) (K3.out.trans (Kf.of hb4)) (R3.out.later hb4) ((hb4.block _ (lt_blkR G23.out)).trans G23.out) ((hb4.block _ (lt_blkR G33.out)).trans G33.out) (O3.out.later hb4) (ndAt_no _ _) (Nat.le_trans S3.out hb4.size) (.inl ⟨MP.out, rfl⟩))
                   simp only [Nd.val, Nd.no]
                   clear hb4)
                | (go_at_call 66; refine (rdTake2_c R2.out k (by omega)).mono ?_; rintro _ w3 ⟨hk3, hv3⟩
                   rw [if_pos ⟨rfl, QK.out⟩, ← HYS.out] at hv3
                   obtain ⟨⟨v3, rfl, ho3⟩, hr3⟩ := hv3
                   have ho3' : w3.ownsRow w2.heap.size 5 1 v3 ys.length (ys.map u8V) := by rw [HL3.out]; exact ho3
                   obtain ⟨a3, c3, rfl, hI3, hc3, hl3⟩ := isB_ownR ho3' IN3.out
                   have RN := hid (rReadNode_c a3 ys.length c3 ys w3 hI3 hc3 (lies2_of hI3 hl3))
                   have K3 := hid (K2.out.trans hk3)
                   have R3 := hid hr3
                   have G23 := hid ((hk3.block _ (lt_blkR G22.out) (by omega)).trans G22.out)
                   have G33 := hid ((hk3.block _ (lt_blkR G32.out) (by omega)).trans G32.out)
                   have O3 := hid (O2.out.kf hk3 (by omega))
                   have S3 := hid (Nat.le_trans S2.out hk3.size)
                   clear hk3 hr3 ho3 ho3' hI3 hc3 hl3)
                | (go_at_call 31; refine C2.out.mono ?_; rintro _ w2 ⟨rfl, hk2, hr2⟩
                   have K2 := hid (HK.out.trans hk2)
                   have R2 := hid hr2
                   have G22 := hid ((hk2.block _ (lt_blkR HG2.out) (by omega)).trans HG2.out)
                   have G32 := hid ((hk2.block _ (lt_blkR HG3.out) (by omega)).trans HG3.out)
                   have O2 := hid (HO.out.kf hk2 (by omega))
                   have S2 := hid (Nat.le_trans HS.out hk2.size)
                   clear hk2 hr2))
              go_meet
              exact ⟨_, rfl, FIN⟩
            · rw [hx] at MP
              go_wp2_with (first
                | (go_at_call 12; refine RN.out.mono ?_; rintro _ w4 ⟨hb4, hv4⟩
                   rw [hx] at hv4
                   simp only at hv4
                   obtain ⟨da, dc, ka, kc, rfl, hy4⟩ := hv4
                   have FIN := hid (M1_mk (z := z) (y := x.lie da dc ka kc) (er := 0) (K3.out.trans (Kf.of hb4)) (R3.out.later hb4) ((hb4.block _ (lt_blkR G23.out)).trans G23.out) ((hb4.block _ (lt_blkR G33.out)).trans G33.out) (O3.out.later hb4) (hy4.low S3.out) (Nat.le_trans S3.out hb4.size) (.inr ⟨rfl, rfl, x, MP.out, rfl⟩))
                   unfold Nd.lie Nd.val
                   clear hb4 hy4)
                | (go_at_call 66; refine (rdTake2_c R2.out k (by omega)).mono ?_; rintro _ w3 ⟨hk3, hv3⟩
                   rw [if_pos ⟨rfl, QK.out⟩, ← HYS.out] at hv3
                   obtain ⟨⟨v3, rfl, ho3⟩, hr3⟩ := hv3
                   have ho3' : w3.ownsRow w2.heap.size 5 1 v3 ys.length (ys.map u8V) := by rw [HL3.out]; exact ho3
                   obtain ⟨a3, c3, rfl, hI3, hc3, hl3⟩ := isB_ownR ho3' IN3.out
                   have RN := hid (rReadNode_c a3 ys.length c3 ys w3 hI3 hc3 (lies2_of hI3 hl3))
                   have K3 := hid (K2.out.trans hk3)
                   have R3 := hid hr3
                   have G23 := hid ((hk3.block _ (lt_blkR G22.out) (by omega)).trans G22.out)
                   have G33 := hid ((hk3.block _ (lt_blkR G32.out) (by omega)).trans G32.out)
                   have O3 := hid (O2.out.kf hk3 (by omega))
                   have S3 := hid (Nat.le_trans S2.out hk3.size)
                   clear hk3 hr3 ho3 ho3' hI3 hc3 hl3)
                | (go_at_call 31; refine C2.out.mono ?_; rintro _ w2 ⟨rfl, hk2, hr2⟩
                   have K2 := hid (HK.out.trans hk2)
                   have R2 := hid hr2
                   have G22 := hid ((hk2.block _ (lt_blkR HG2.out) (by omega)).trans HG2.out)
                   have G32 := hid ((hk2.block _ (lt_blkR HG3.out) (by omega)).trans HG3.out)
                   have O2 := hid (HO.out.kf hk2 (by omega))
                   have S2 := hid (Nat.le_trans HS.out hk2.size)
                   clear hk2 hr2))
              go_meet
              exact ⟨_, rfl, FIN⟩
          · have MP : Hid (measP z = none) := hid (by
              unfold measP
              rw [NM.out]
              cases b2 with
              | true => rfl
              | false =>
                simp only [cond_false, Int.toNat_natCast]
                rw [if_neg (fun h => qt ⟨rfl, h⟩)])
            have QT := hid qt
            clear qt
            go_wp2_with (first
              | (go_at_call 12; refine RN.out.mono ?_; rintro _ w4 ⟨hb4, hv4⟩
                 rw [nodeAll_nil] at hv4
                 simp only at hv4
                 subst hv4
                 have FIN := hid (M1_mk (z := z) (y := Nd.no) (er := 3) (K3.out.trans (Kf.of hb4)) (R3.out.later hb4) ((hb4.block _ (lt_blkR G23.out)).trans G23.out) ((hb4.block _ (lt_blkR G33.out)).trans G33.out) (O3.out.later hb4) (ndAt_no _ _) (Nat.le_trans S3.out hb4.size) (.inl ⟨MP.out, rfl⟩))
                 simp only [Nd.val, Nd.no]
                 clear hb4)
              | (go_at_call 66; refine (rdTake2_c R2.out k (by omega)).mono ?_; rintro _ w3 ⟨hk3, hv3⟩
                 rw [if_neg QT.out] at hv3
                 obtain ⟨rfl, hr3⟩ := hv3
                 have RN := hid (rReadNode_c none 0 0 [] w3 (isB_nil _) (Nat.le_refl _) (.inl ⟨rfl, fun _ => rfl⟩))
                 have K3 := hid (K2.out.trans hk3)
                 have R3 := hid hr3
                 have G23 := hid ((hk3.block _ (lt_blkR G22.out) (by omega)).trans G22.out)
                 have G33 := hid ((hk3.block _ (lt_blkR G32.out) (by omega)).trans G32.out)
                 have O3 := hid (O2.out.kf hk3 (by omega))
                 have S3 := hid (Nat.le_trans S2.out hk3.size)
                 clear hk3 hr3)
              | (go_at_call 31; refine C2.out.mono ?_; rintro _ w2 ⟨rfl, hk2, hr2⟩
                 have K2 := hid (HK.out.trans hk2)
                 have R2 := hid hr2
                 have G22 := hid ((hk2.block _ (lt_blkR HG2.out) (by omega)).trans HG2.out)
                 have G32 := hid ((hk2.block _ (lt_blkR HG3.out) (by omega)).trans HG3.out)
                 have O2 := hid (HO.out.kf hk2 (by omega))
                 have S2 := hid (Nat.le_trans HS.out hk2.size)
                 clear hk2 hr2))
            go_meet
            exact ⟨_, rfl, FIN⟩
        case rest =>
          obtain ⟨wy, rfl, hM1⟩ := hcut
          obtain ⟨Bn, y, b3, z3, er, rfl, rfl, hBn, hBs, hK5, hR5, h25, h35, hO5, hY5, hc5⟩ := hM1.out
          clear hM1
          have K5 := hid hK5
          have R5 := hid hR5
          have G5 := hid h25
          have O5 := hid hO5
          have Y5 := hid hY5
          obtain ⟨n0, n1, n2, n3, n4, n5⟩ := nd_cells hBn
          obtain ⟨t0, t1⟩ := sn_cells h35
          have G35 := hid h35
          have HBn := hid hBn
          have HBs := hid hBs
          obtain ⟨ra5, rl5, rc5, rbox5, _⟩ := hR5
          obtain ⟨_, rc1, _, rf1⟩ := cellsF rbox5
          clear hK5 h25 hO5 hY5 rbox5 h35 hBn hBs
          obtain ⟨nb, hnb⟩ : ∃ nb : Bool, nb = (b3 || er != 0) := ⟨_, rfl⟩
          have NB : Hid ((nb = true ∧ R = none) ∨ (nb = false ∧ ∃ x, LeftM R (l ++ [x]) g1 z3 ∧ y.er = x.er)) := hid (by
            rcases hc5 with ⟨h1, h2⟩ | ⟨h1, h2, x, h3, h4⟩
            · exact .inl ⟨by rw [hnb, h2]; simp, HLF.out.none h1⟩
            · exact .inr ⟨by rw [hnb, h1, h2]; rfl, x, HLF.out.some h3, h4⟩)
          have E3 : Hid (er = 3 ∨ er = 0) := hid (hc5.elim (fun h => .inl h.2) (fun h => .inr h.2.1))
          clear hc5
          go_upto_region 7 with fail
          go_cut [43] from 35 to 45 (fun s43 wx => s43 = .bool nb ∧ ∃ w6, w6 = wx ∧ w6 = wy.setCell ⟨r, 1, none⟩ (.bool nb))
          case first =>
            cases b3 with
            | true =>
              have e1 : nb = true := by rw [hnb]; rfl
              clear hnb
              subst e1
              go_wp2_with fail
              go_meet
              exact ⟨rfl, _, rfl, rfl⟩
            | false =>
              rcases E3.out with e | e
              · have e1 : nb = true := by rw [hnb, e]; rfl
                clear hnb
                subst e1
                subst e
                go_wp2_with fail
                go_meet
                exact ⟨rfl, _, rfl, rfl⟩
              · have e1 : nb = false := by rw [hnb, e]; rfl
                clear hnb
                subst e1
                subst e
                go_wp2_with fail
                go_meet
                exact ⟨rfl, _, rfl, rfl⟩
          case rest =>
            obtain ⟨rfl, w6, rfl, hwx⟩ := hcut
            have K6 := hid (K5.out.set 1 (.bool nb))
            have R6 := hid (R5.out.flag nb)
            have G26 := hid ((heap_setCell_other wy ⟨r, 1, none⟩ w.heap.size (.bool nb) (by show w.heap.size ≠ r; omega)).trans G5.out)
            have G36 := hid ((heap_setCell_other wy ⟨r, 1, none⟩ (w.heap.size + 1) (.bool nb) (by show w.heap.size + 1 ≠ r; omega)).trans G35.out)
            have B6 := hid ((heap_setCell_other wy ⟨r, 1, none⟩ Bn (.bool nb) (by show Bn ≠ r; have := HBs.out; omega)).trans HBn.out)
            have O6 := hid (O5.out.set (p := ⟨r, 1, none⟩) (by show r < w.heap.size + 2; omega) (.bool nb))
            have Y6 := hid (Y5.out.set (p := ⟨r, 1, none⟩) (by show r < w.heap.size + 2; omega) (.bool nb))
            have S6 : Hid (w.heap.size + 2 ≤ (wy.setCell ⟨r, 1, none⟩ (.bool nb)).heap.size) := hid (by have := lt_blkR B6.out; have := HBs.out; omega)
            rw [← hwx] at K6 R6 G26 G36 B6 O6 Y6 S6
            clear hwx K5 R5 G5 G35 HBn O5 Y5 n0 n1 n2 n3 n4 n5 t0 t1 rc1 rf1 hnb E3 HBs
            have bA := below_1 w6 (.cells y.cells.toArray 39)
            have NA := hid (heap_alloc_new w6 (.cells y.cells.toArray 39))
            have OA := hid (O6.out.later bA)
            have YA := hid (Y6.out.later bA)
            have SA : Hid (w.heap.size + 2 ≤ (w6.alloc (.cells y.cells.toArray 39)).heap.size) := hid (Nat.le_trans S6.out bA.size)
            have KA := hid (K6.out.trans (Kf.of bA))
            have RA := hid (R6.out.later bA)
            have GA2 := hid ((bA.block _ (lt_blkR G26.out)).trans G26.out)
            have GA3 := hid ((bA.block _ (lt_blkR G36.out)).trans G36.out)
            obtain ⟨n0, n1, n2, n3, n4, n5⟩ := nd_cells B6.out
            obtain ⟨t0, t1⟩ := sn_cells G36.out
            clear bA O6 Y6 S6 K6 R6 G26 G36 B6
            obtain ⟨fid, k9, md, ln, da, dc, yz, ka, kc, ks⟩ := y
            simp only [Nd.cells] at n0 n1 n2 n3 n4 n5 NA OA YA SA KA RA GA2 GA3
            go_wp2_with (first
              | (at_builtin; refine wpList_append_own _ rfl _ _ 46 rfl (w.heap.size + 2) 39 i0 Nd.no.val 6 64 Try.underlying46 hi hz0 hz1 hz2 (by rfl) (by decide) _ _ _ rfl OA.out.1 ⟨w6.heap.size, 0, none⟩ 1 1 (⟨fid, k9, md, ln, da, dc, yz, ka, kc, ks⟩ : Nd).cells rfl rfl (nd_news (x := ⟨fid, k9, md, ln, da, dc, yz, ka, kc, ks⟩) NA.out) (nd_one _) (by have := HL.out; unfold maxLen; omega) (by have := HL.out; omega) SA.out ?_; intro v9 w9 hown9 hgrow9 hnil9
                 have hG9 := (hgrow9.block (w.heap.size + 1) (lt_blkR GA3.out) (fun e => by have := (OA.out.1.lt _ e.symm).1; omega)).trans GA3.out
                 have G39 := hid hG9
                 have G29 := hid ((hgrow9.block w.heap.size (lt_blkR GA2.out) (fun e => by have := (OA.out.1.lt _ e.symm).1; omega)).trans GA2.out)
                 have B9 := hid (below_grownR (Below.refl (w.heap.size + 2) _) OA.out.1 (Nat.le_refl _) SA.out hgrow9)
                 have O9 : Hid (NsOwn w9 (w.heap.size + 2) v9 (L ++ [⟨fid, k9, md, ln, da, dc, yz, ka, kc, ks⟩])) := hid ⟨by rw [List.length_append, ncells_snoc]; exact hown9, fun q hq => (List.mem_append.1 hq).elim (fun hq => ⟨(OA.out.2 q hq).1, (OA.out.2 q hq).2.1.grown OA.out.1 (by decide) hgrow9, (OA.out.2 q hq).2.2.grown OA.out.1 (by decide) hgrow9⟩) (fun hq => by rw [List.mem_singleton.1 hq]; exact ⟨YA.out.1, YA.out.2.1.grown OA.out.1 (by decide) hgrow9, YA.out.2.2.grown OA.out.1 (by decide) hgrow9⟩)⟩
                 have S9 := hid (Nat.le_trans SA.out hgrow9.size)
                 obtain ⟨t0, t1⟩ := sn_cells hG9
                 have fs : ∀ i, w9.frozen? ⟨w.heap.size + 1, i, none⟩ = false := fun i => by simp [World.frozen?, hG9]
                 obtain ⟨a9, c9, rfl⟩ := own_shapeR hown9
                 clear hown9 hgrow9 hnil9 hG9))
            go_roundg g1
            case measure => omega
            case rel =>
              refine ⟨m + 1, by omega, by go_num, hid ⟨(KA.out.low (B9.out.mono (by omega))).far (by omega), (heap_setCell_other _ _ _ _ (by show w.heap.size ≠ w.heap.size + 1; omega)).trans G29.out, ?_, ?_⟩⟩
              · have := S9.out
                simpa [World.setCell] using this
              · rcases NB.out with ⟨h1, h2⟩ | ⟨h1, x, h2, h3⟩
                · rw [h1] at RA
                  exact .inl ⟨h2, z3, (RA.out.low B9.out (by omega)).set (by omega)⟩
                · rw [h1] at RA
                  refine .inr ⟨z3, l ++ [x], L ++ [⟨fid, k9, md, ln, da, dc, yz, ka, kc, ks⟩], a9, c9, (RA.out.low B9.out (by omega)).set (by omega), by rw [List.length_append, HL.out]; rfl, by rw [List.map_append, List.map_append, HM.out]; simp only [List.map_cons, List.map_nil, h3], h2, ?_, ?_⟩
                  · have := set0F (.slice a9 (L.length + 1) c9) G39.out
                    rw [HL.out] at this ⊢
                    exact this
                  · have := O9.out.set (p := ⟨w.heap.size + 1, 0, none⟩) (by show w.heap.size + 1 < w.heap.size + 2; omega) (.slice a9 (L.length + 1) c9)
                    rw [HL.out] at this
                    first | exact this | (rw [HL.out]; exact this)
      · have hltI : ¬ (m : Int) < N := by omega
        obtain rfl : gk = 0 := by omega
        have E1 : Hid (I1e w wr r R) := hid ⟨HK.out, HG2.out, HS.out, .inr ⟨z, l, L, va, vc, by have := HLF.out; unfold LeftM at this; simpa [measN] using this, HRd.out, HM.out, by rw [HL.out]; exact HG3.out, by rw [HL.out]; exact HO.out⟩⟩
        clear HK HG2 HS HLF HRd HM HL HG3 HO
        go_upto_region 9 with fail
        clear rb1
        obtain ⟨hK, hG2, hS, hcc⟩ := E1.out
        obtain ⟨bd, z, hRd, hst⟩ : ∃ bd z, RdR wr r bd z ∧ ((bd = true ∧ R = none) ∨ (bd = false ∧ ∃ l L va vc, R = some (l, z) ∧ L.map Nd.er = l.map Nd.er ∧ wr.heap[w.heap.size + 1]? = some (.cells #[.slice va L.length vc, .slice none 0 0] 49 (0, 0)) ∧ NsOwn wr (w.heap.size + 2) (.slice va L.length vc) L)) := by
          rcases hcc with ⟨h, z, hr⟩ | ⟨z, l, L, va, vc, h1, h2, h3⟩
          · exact ⟨true, z, hr, .inl ⟨rfl, h⟩⟩
          · exact ⟨false, z, h2, .inr ⟨rfl, l, L, va, vc, h1, h3⟩⟩
        rcases e1 : Nr bd z 1 with ⟨n2, b1, z1⟩
        have g1' := Nr_bd hRd.in bd 1
        rw [e1] at g1'
        simp only at g1'
        obtain ⟨N2, rfl⟩ : ∃ N2 : Nat, n2 = (N2 : Int) := ⟨n2.toNat, by omega⟩
        have hN2 : N2 < 256 := by omega
        have kn2 : IntKind.i64.wrap (N2 : Int) = N2 := by rw [IntKind.wrap_i64]; omega
        have C1 := hid (rdN1 hRd e1)
        obtain ⟨R2, hR2⟩ : ∃ R2 : Option (List St × List Int), R2 = match R with | none => none | some (_, t) => stampsQ t := ⟨_, rfl⟩
        have INV2 : Hid (∀ w', Kf r wr w' → RdR w' r b1 z1 → I2 w w' r R R2 0 N2) := hid (fun w' hk hr => by
          refine ⟨hK.trans hk, (hk.block _ (lt_blkR hG2) (by omega)).trans hG2, Nat.le_trans hS hk.size, ?_⟩
          rcases hst with ⟨rfl, h⟩ | ⟨rfl, l, L, va, vc, h1, h2, h3, h4⟩
          · have := nr_bad e1
            subst this
            exact .inl ⟨by rw [hR2, h], z1, hr⟩
          · have hq : R2 = bif b1 then none else stampsN N2 z1 := by
              rw [hR2, h1]
              show stampsQ z = _
              unfold stampsQ
              rw [nr_num e1]
              cases b1 with
              | true => rfl
              | false => simp
            cases b1 with
            | true => exact .inl ⟨hq, z1, hr⟩
            | false => exact .inr ⟨z1, [], va, L.length, vc, none, 0, hr, rfl, by unfold LeftS; rw [hq]; simp only [cond_false]; rcases stampsN N2 z1 with _ | ⟨l', u⟩ <;> rfl, (hk.block _ (lt_blkR h3) (by omega)).trans h3, ⟨l, z, L, h1, rfl, h2, h4.kf hk (by omega)⟩, World.ownsRow_nil _ _ _ _, fun x hx => by cases hx⟩)
        have SQ : Hid (snapQ zs = match R, R2 with | some (ns, _), some (ss, u) => some ((ns, ss), u) | _, _ => none) := hid (by
          unfold snapQ
          rw [← HRZ.out, hR2]
          rcases R with _ | ⟨ns, t⟩
          · rfl
          · simp only
            rcases stampsQ t with _ | ⟨ss, u⟩ <;> rfl)
        clear E1 hK hG2 hS hcc hst hRd e1 g1' hR2
        go_upto_region 10 with (go_at_call 31; refine C1.out.mono ?_; rintro _ w5 ⟨rfl, hk5, hr5⟩; (have IV := hid (INV2.out w5 hk5 hr5)); clear hk5 hr5)
        clear INV2 C1
        go_wp2
        generalize wr = wo at *
        go_loopg [8] N2 (fun gk i wr => ∃ m : Nat, m + gk = N2 ∧ i = .int .i64 m ∧ Hid (I2 w wr r R R2 m gk))
        case atStart => exact ⟨0, by omega, rfl, IV⟩
        case round =>
          clear IV
          obtain ⟨m, hm, rfl, HI⟩ := hrel
          obtain ⟨hK, hG2, hS, hc⟩ := HI.out
          have HK := hid hK
          have HG2 := hid hG2
          have HS := hid hS
          clear hK hG2 hS
          rcases hc with ⟨hRn, z, hRd⟩ | ⟨z, S, va, n, vc, vb, vd, hRd, hSl, hLF, hG3, hT, hO, hSw⟩
          · have NG : Hid (∀ ns ss rest, snapQ zs = some ((ns, ss), rest) → ¬ RSnap ns ss) := hid (fun ns ss rest e => by rw [SQ.out, hRn] at e; rcases R with _ | ⟨a', b'⟩ <;> cases e)
            have HRd := hid hRd
            obtain ⟨ra, rl, rc, rbox, _⟩ := hRd
            obtain ⟨_, rb1, _, rf1⟩ := cellsF rbox
            clear rbox HI hRn
            by_cases hlt : m < N2
            · have hltI : (m : Int) < N2 := by omega
              go_upto_region 18 with fail
              have KB := hid (HK.out.set 1 (.bool true))
              have RB := hid (HRd.out.flag true)
              have GB := hid ((heap_setCell_other wr ⟨r, 1, none⟩ w.heap.size (.bool true) (by show w.heap.size ≠ r; omega)).trans HG2.out)
              generalize wr.setCell ⟨r, 1, none⟩ (.bool true) = WB at *
              obtain ⟨q0, q1⟩ := sn_cells GB.out
              have fz := frzD GB.out
              go_wp2
              refine bodyPost_ret (v := snNo) (by simp [results, Try.results44, go_sem, snNo, q0, q1]) rfl ⟨(KB.out.far (Nat.le_refl _)).far (Nat.le_refl _), true, _, (RB.out.set (by omega)).set (by omega), .inl ⟨rfl, rfl, NG.out⟩⟩
            · have hltI : ¬ (m : Int) < N2 := by omega
              go_upto_region 18 with fail
              have KB := hid (HK.out.set 1 (.bool true))
              have RB := hid (HRd.out.flag true)
              have GB := hid ((heap_setCell_other wr ⟨r, 1, none⟩ w.heap.size (.bool true) (by show w.heap.size ≠ r; omega)).trans HG2.out)
              generalize wr.setCell ⟨r, 1, none⟩ (.bool true) = WB at *
              obtain ⟨q0, q1⟩ := sn_cells GB.out
              have fz := frzD GB.out
              go_wp2
              refine bodyPost_ret (v := snNo) (by simp [results, Try.results44, go_sem, snNo, q0, q1]) rfl ⟨(KB.out.far (Nat.le_refl _)).far (Nat.le_refl _), true, _, (RB.out.set (by omega)).set (by omega), .inl ⟨rfl, rfl, NG.out⟩⟩
          · have HRd := hid hRd
            have HLF := hid hLF
            have HG3 := hid hG3
            have HT := hid hT
            have HO := hid hO
            have HSl := hid hSl
            have HSw := hid hSw
            obtain ⟨ra, rl, rc, rbox, _⟩ := hRd
            obtain ⟨_, rb1, _, rf1⟩ := cellsF rbox
            clear hLF hG3 hT hO hSl hSw rbox HI
            by_cases hlt : m < N2
            · have hltI : (m : Int) < N2 := by omega
              obtain ⟨g1, rfl⟩ : ∃ g1, gk = g1 + 1 := ⟨gk - 1, by omega⟩
              rcases e4 : Nr false z 4 with ⟨f, b4, z4⟩
              rcases e8 : Nr b4 z4 8 with ⟨v, b8, z8⟩
              rcases e9 : Nr b8 z8 1 with ⟨k, b9, z9⟩
              have i4 := Nr_in HRd.out.in false 4
              have d4 := Nr_bd HRd.out.in false 4
              rw [e4] at i4 d4
              have i8 := Nr_in i4 b4 8
              have d8 := Nr_bd i4 b4 8
              rw [e8] at i8 d8
              have d9 := Nr_bd i8 b8 1
              rw [e9] at d9
              simp only at d4 d8 d9
              have uf : IntKind.u32.wrap f = f := by rw [IntKind.wrap_u32]; omega
              have uk : IntKind.u8.wrap k = k := by rw [IntKind.wrap_u8']; omega
              have XW : Hid (St.Wf ⟨f, v, k⟩) := hid ⟨⟨d4.1, by simpa using d4.2⟩, ⟨d8.1, by simpa using d8.2⟩, ⟨d9.1, by simpa using d9.2⟩⟩
              have SN := hid (st_nr e4 e8 e9)
              have C4 := hid (rdN4 HRd.out e4)
              have E8 := hid e8
              have E9 := hid e9
              clear e4 e8 e9 i4 i8 d4 d8 d9
              have t0 := hid True.intro
              go_upto_region 15 with (first
                | (have _q := t1.out; clear _q; go_at_call 31; refine (rdN8 R4.out E8.out).mono ?_; rintro _ w7 ⟨rfl, hk7, hr7⟩
                   have K7 := hid (K4.out.trans hk7)
                   have R7 := hid hr7
                   have G27 := hid ((hk7.block _ (lt_blkR G24.out) (by omega)).trans G24.out)
                   have G37 := hid ((hk7.block _ (lt_blkR G34.out) (by omega)).trans G34.out)
                   have O7 := hid (own_kf O4.out hk7 (by omega))
                   have T7 : Hid (Tr6 w w7 R va n vc) := hid (by obtain ⟨l, z', L, q1, q2, q3, q4⟩ := T4.out; exact ⟨l, z', L, q1, q2, q3, q4.kf hk7 (by omega)⟩)
                   have S7 := hid (Nat.le_trans S4.out hk7.size)
                   clear hk7 hr7 t1)
                | (have _q := t0.out; clear _q; go_at_call 31; refine C4.out.mono ?_; rintro _ w4 ⟨rfl, hk4, hr4⟩
                   have K4 := hid (HK.out.trans hk4)
                   have R4 := hid hr4
                   have G24 := hid ((hk4.block _ (lt_blkR HG2.out) (by omega)).trans HG2.out)
                   have G34 := hid ((hk4.block _ (lt_blkR HG3.out) (by omega)).trans HG3.out)
                   have O4 := hid (own_kf HO.out hk4 (by omega))
                   have T4 : Hid (Tr6 w w4 R va n vc) := hid (by obtain ⟨l, z', L, q1, q2, q3, q4⟩ := HT.out; exact ⟨l, z', L, q1, q2, q3, q4.kf hk4 (by omega)⟩)
                   have S4 := hid (Nat.le_trans HS.out hk4.size)
                   have t1 := hid True.intro
                   clear hk4 hr4 t0))
              clear rb1 rf1 C4 E8 HK HG2 HG3 HT HO HS HRd
              obtain ⟨l0, l1⟩ := sn_cells G37.out
              have l1d : w7.drew.cell? ⟨w.heap.size + 1, 1, none⟩ = some (.slice vb m vd) := l1
              have bd7 : Below w7.heap.size w7 w7.drew := Below.drew (Below.refl _ _)
              have R7d := hid (R7.out.later bd7)
              have G27d := hid ((bd7.block _ (lt_blkR G27.out)).trans G27.out)
              have G37d := hid ((bd7.block _ (lt_blkR G37.out)).trans G37.out)
              have K7d := hid (K7.out.trans (Kf.of bd7))
              have S7d := hid (Nat.le_trans S7.out bd7.size)
              have O7d := hid (own_latR O7.out bd7)
              have T7d : Hid (Tr6 w w7.drew R va n vc) := hid (by obtain ⟨l, z', L, q1, q2, q3, q4⟩ := T7.out; exact ⟨l, z', L, q1, q2, q3, q4.later bd7⟩)
              clear bd7 R7 G27 G37 K7 S7 O7 T7
              go_region_law (first
                | (refine step_appS _ (by rfl) _ _ (by rfl) (w.heap.size + 2) (.slice vb m vd) _ _ (by rfl) O8.out w8.heap.size ⟨f, v, k⟩ (by rfl) N8.out (by omega) S8.out ?_
                   intro v9 w9 hown9 hgrow9
                   have bl := below_grownR (Below.refl (w.heap.size + 2) _) O8.out (Nat.le_refl _) S8.out hgrow9
                   have hg9 := (bl.block _ (by omega)).trans G38.out
                   have G39 := hid hg9
                   have G29 := hid ((bl.block _ (by omega)).trans G28.out)
                   have R9 := hid (R8.out.low bl (by omega))
                   have K9 := hid (K8.out.low (bl.mono (by omega)))
                   have S9 := hid (Nat.le_trans S8.out hgrow9.size)
                   have T9 : Hid (Tr6 w w9 R va n vc) := hid (by obtain ⟨l, z', L, q1, q2, q3, q4⟩ := T8.out; exact ⟨l, z', L, q1, q2, q3, q4.other O8.out hgrow9⟩)
                   have O9 := hid hown9
                   obtain ⟨m0, m1⟩ := sn_cells hg9
                   have fz9 := frzD hg9
                   obtain ⟨a9, c9, rfl⟩ := own_shapeR hown9
                   clear hown9 hgrow9 bl hg9)
                | (go_simp; go_at_call 31; refine (rdN1 R7d.out E9.out).mono ?_; rintro _ w8 ⟨rfl, hk9, hr9⟩
                   have b8 := below_1 w8 (.cells (St.cells ⟨f, v, k⟩).toArray 85)
                   have hx8 := (hk9.block _ (lt_blkR G37d.out) (by omega)).trans G37d.out
                   have l8 := (sn_cells hx8).2
                   have hx9 := (b8.block _ (lt_blkR hx8)).trans hx8
                   have l9 := (sn_cells hx9).2
                   have G38 := hid hx9
                   have G28 := hid ((b8.block _ (lt_blkR ((hk9.block _ (lt_blkR G27d.out) (by omega)).trans G27d.out))).trans ((hk9.block _ (lt_blkR G27d.out) (by omega)).trans G27d.out))
                   have R8 := hid (hr9.later b8)
                   have K8 := hid ((K7d.out.trans hk9).trans (Kf.of b8))
                   have S8 := hid (Nat.le_trans (Nat.le_trans S7d.out hk9.size) b8.size)
                   have O8 := hid (own_latR (own_kf O7d.out hk9 (by omega)) b8)
                   have T8 : Hid (Tr6 w (w8.alloc (.cells (St.cells ⟨f, v, k⟩).toArray 85)) R va n vc) := hid (by obtain ⟨l, z', L, q1, q2, q3, q4⟩ := T7d.out; exact ⟨l, z', L, q1, q2, q3, (q4.kf hk9 (by omega)).later b8⟩)
                   have N8 := hid (heap_alloc_new w8 (.cells (St.cells ⟨f, v, k⟩).toArray 85))
                   dsimp only [St.cells] at l8 l9
                   clear hk9 hr9 b8 hx8 hx9))
              all_goals
                have FI : Hid (I2 w (w9.setCell ⟨w.heap.size + 1, 1, none⟩ (.slice a9 (m + 1) c9)) r R R2 (m + 1) g1) := hid (by
                  refine ⟨K9.out.far (by omega), (heap_setCell_other _ _ _ _ (by show w.heap.size ≠ w.heap.size + 1; omega)).trans G29.out, by have := S9.out; simpa [World.setCell] using this, ?_⟩
                  rcases SN.out with ⟨h1, h2⟩ | ⟨h1, h2⟩
                  · rw [h1] at R9
                    exact .inl ⟨HLF.out.none h2, z9, R9.out.set (by omega)⟩
                  · rw [h1] at R9
                    refine .inr ⟨z9, S ++ [⟨f, v, k⟩], va, n, vc, a9, c9, R9.out.set (by omega), by rw [List.length_append, HSl.out]; rfl, HLF.out.some h2, set1F _ G39.out, ?_, ?_, ?_⟩
                    · obtain ⟨l, z', L, q1, q2, q3, q4⟩ := T9.out
                      exact ⟨l, z', L, q1, q2, q3, q4.set (by show w.heap.size + 1 < w.heap.size + 2; omega) _⟩
                    · rw [scells_snoc]
                      exact own_set O9.out (by show w.heap.size + 1 < w.heap.size + 2; omega) _
                    · intro q hq
                      rcases List.mem_append.1 hq with h | h
                      · exact HSw.out q h
                      · rw [List.mem_singleton.1 h]; exact XW.out)
                clear G39 G29 R9 K9 S9 T9 O9
                go_wp2
                go_roundg g1
                case measure => omega
                case rel => exact ⟨m + 1, by omega, by go_num, FI⟩
            · have hltI : ¬ (m : Int) < N2 := by omega
              obtain rfl : gk = 0 := by omega
              obtain ⟨l, z', L, q1, q2, q3, q4⟩ := HT.out
              have ER2 : Hid (R2 = some (S, z)) := hid (by have := HLF.out; unfold LeftS at this; simpa [stampsN] using this)
              have SQ2 : Hid (snapQ zs = some ((l, S), z)) := hid (by rw [SQ.out, ER2.out, q1])
              have hS255 : S.length ≤ 255 := by rw [HSl.out]; omega
              have n255 : L.length ≤ 255 := by
                have h1 := congrArg List.length q3
                simp at h1
                rw [h1]
                exact nodesQ_len ZIN.out (by rw [← HRZ.out]; exact q1)
              have hSl := HSl.out
              subst hSl
              subst q2
              have hN : IsNs wr va L := by
                obtain ⟨p, c, e, hI⟩ := q4.is (by omega)
                simp only [Value.slice.injEq] at e
                rw [e.1]; exact hI
              have hSs : IsSs wr vb S := by
                obtain ⟨p, c, e, hI⟩ := isSs_own HO.out HSw.out (by omega)
                simp only [Value.slice.injEq] at e
                rw [e.1]; exact hI
              obtain ⟨t0, t1⟩ := sn_cells HG3.out
              have RC := hid (rRightSnap_c va vb vc vd L S wr hN hSs (by omega) (by omega))
              have Q3 := hid q3
              have Q4 := hid q4
              have RL : Hid (RSnap L S ↔ RSnap l S) := hid (by rw [← rsnap_er, q3, rsnap_er])
              clear hN hSs q1 q3 q4 HLF ER2 HT SQ hm
              cases hd : snapD L S with
              | false =>
                have NG : Hid (∀ ns ss rest, snapQ zs = some ((ns, ss), rest) → ¬ RSnap ns ss) := hid (fun ns ss rest e hr => by
                  rw [SQ2.out] at e
                  simp only [Option.some.injEq, Prod.mk.injEq] at e
                  obtain ⟨⟨rfl, rfl⟩, _⟩ := e
                  rw [← RL.out, snapD_iff, hd] at hr
                  cases hr)
                rw [hd] at RC
                go_upto_region 17 with (first
                  | (go_at_call 39; refine RC.out.mono ?_; rintro _ w9 ⟨rfl, hb9⟩
                     have K9 := hid (HK.out.trans (Kf.of hb9))
                     have R9 := hid (HRd.out.later hb9)
                     have G29 := hid ((hb9.block _ (lt_blkR HG2.out)).trans HG2.out)
                     obtain ⟨ra9, rl9, rc9, rbox9, _⟩ := HRd.out.later hb9
                     obtain ⟨_, rb9, _, rf9⟩ := cellsF rbox9
                     clear hb9 rbox9))
                go_upto_region 18 with fail
                have KB := hid (K9.out.set 1 (.bool true))
                have RB := hid (R9.out.flag true)
                have GB := hid ((heap_setCell_other w9 ⟨r, 1, none⟩ w.heap.size (.bool true) (by show w.heap.size ≠ r; omega)).trans G29.out)
                generalize w9.setCell ⟨r, 1, none⟩ (.bool true) = WB at *
                obtain ⟨q0, q1⟩ := sn_cells GB.out
                have fz := frzD GB.out
                go_wp2
                refine bodyPost_ret (v := snNo) (by simp [results, Try.results44, go_sem, snNo, q0, q1]) rfl ⟨(KB.out.far (Nat.le_refl _)).far (Nat.le_refl _), true, _, (RB.out.set (by omega)).set (by omega), .inl ⟨rfl, rfl, NG.out⟩⟩
              | true =>
                have hr := (snapD_iff L S).2 hd
                have HR6 := hid hr
                have S40 : Hid (S.length ≤ 40) := hid (by
                  have h1 := hr.2
                  unfold stOk at h1
                  rw [Bool.and_eq_true, decide_eq_true_eq] at h1
                  have := hr.1.1
                  omega)
                rw [hd] at RC
                clear hr hd
                go_upto_region 19 with (first
                  | (go_at_call 39; refine RC.out.mono ?_; rintro _ w9 ⟨rfl, hb9⟩
                     have K9 := hid (HK.out.trans (Kf.of hb9))
                     have R9 := hid (HRd.out.later hb9)
                     have G29 := hid ((hb9.block _ (lt_blkR HG2.out)).trans HG2.out)
                     have G39 := hid ((hb9.block _ (lt_blkR HG3.out)).trans HG3.out)
                     have N9 := hid (Q4.out.later hb9)
                     have O9 := hid (own_latR HO.out hb9)
                     clear hb9))
                obtain ⟨u0, u1⟩ := sn_cells G39.out
                obtain ⟨q0, q1⟩ := sn_cells G29.out
                have fz := frzD G29.out
                clear t0 t1 rb1 rf1
                go_wp2
                refine bodyPost_ret (v := snV va L.length vc vb S.length vd) (by simp [results, Try.results44, go_sem, snV, q0, q1]) rfl ⟨(K9.out.far (Nat.le_refl _)).far (Nat.le_refl _), false, z, (R9.out.set (by omega)).set (by omega), .inr ⟨rfl, l, S, SQ2.out, RL.out.1 HR6.out, va, vc, vb, vd, L, rfl, Q3.out, ?_⟩⟩
                exact ⟨((N9.out.set (p := ⟨w.heap.size, 0, none⟩) (by show w.heap.size < w.heap.size + 2; omega) _).set (p := ⟨w.heap.size, 1, none⟩) (by show w.heap.size < w.heap.size + 2; omega) _).low (by omega), own_low (own_set (own_set O9.out (p := ⟨w.heap.size, 0, none⟩) (by show w.heap.size < w.heap.size + 2; omega) _) (p := ⟨w.heap.size, 1, none⟩) (by show w.heap.size < w.heap.size + 2; omega) _) (by omega), HSw.out, HR6.out.1.1, S40.out⟩
end Go.Proofs.Ytbgninmkglgfeaa
namespace Go.Proofs.Ytbgninmkglgfeaa
open Go.RowKit Go.ChangeShapes Go.WideShapes Go.ChangeAt Go.Maps Go.Shelf
set_option linter.unusedVariables false
set_option linter.unusedSimpArgs false
set_option maxRecDepth 100000
theorem stampsN_len : ∀ (n : Nat) {z t : List Int} {l : List St}, stampsN n z = some (l, t) → l.length = n
  | 0, z, t, l, h => by
    simp only [stampsN, Option.some.injEq, Prod.mk.injEq] at h
    rw [← h.1]; rfl
  | n + 1, z, t, l, h => by
    rw [stampsN_step] at h
    rcases h0 : stampP z with _ | ⟨x, z1⟩
    · rw [h0] at h; cases h
    rw [h0] at h; simp only at h
    rcases h1 : stampsN n z1 with _ | ⟨l', u⟩
    · rw [h1] at h; cases h
    rw [h1] at h; simp only [Option.some.injEq, Prod.mk.injEq] at h
    rw [← h.1, List.length_cons, stampsN_len n h1]
theorem snapQ_good {zs rest : List Int} {ns : List Nd} {ss : List St} (hr : RSnap ns ss) (h : snapQ zs = some ((ns, ss), rest)) : snapP zs = some ((ns, ss), rest) := by
  have n40 := hr.1.1
  have m40 : ss.length ≤ 40 := by
    have h1 := hr.2
    unfold stOk at h1
    rw [Bool.and_eq_true, decide_eq_true_eq] at h1
    omega
  unfold snapQ at h
  rcases h0 : nodesQ zs with _ | ⟨ns', t⟩
  · rw [h0] at h; cases h
  rw [h0] at h; simp only at h
  rcases h1 : stampsQ t with _ | ⟨ss', u⟩
  · rw [h1] at h; cases h
  rw [h1] at h
  simp only [Option.some.injEq, Prod.mk.injEq] at h
  obtain ⟨⟨rfl, rfl⟩, rfl⟩ := h
  have e0 : measuresP zs = some (ns', t) := by
    unfold nodesQ at h0
    unfold measuresP
    rcases h2 : numP 1 zs with _ | ⟨m, v⟩
    · rw [h2] at h0; cases h0
    rw [h2] at h0; simp only at h0 ⊢
    have := measN_len _ h0
    rw [if_pos (by omega)]; exact h0
  have e1 : stampsP t = some (ss', u) := by
    unfold stampsQ at h1
    unfold stampsP
    rcases h2 : numP 1 t with _ | ⟨m, v⟩
    · rw [h2] at h1; cases h1
    rw [h2] at h1; simp only at h1 ⊢
    have := stampsN_len _ h1
    rw [if_pos (by omega)]; exact h1
  unfold snapP
  rw [e0]
  simp only [e1]
theorem snapP_Q {zs rest : List Int} {ns : List Nd} {ss : List St} (h : snapP zs = some ((ns, ss), rest)) : snapQ zs = some ((ns, ss), rest) := by
  unfold snapP at h
  rcases h0 : measuresP zs with _ | ⟨ns', t⟩
  · rw [h0] at h; cases h
  rw [h0] at h; simp only at h
  rcases h1 : stampsP t with _ | ⟨ss', u⟩
  · rw [h1] at h; cases h
  rw [h1] at h
  simp only [Option.some.injEq, Prod.mk.injEq] at h
  obtain ⟨⟨rfl, rfl⟩, rfl⟩ := h
  have e0 : nodesQ zs = some (ns', t) := by
    unfold measuresP at h0
    unfold nodesQ
    rcases h2 : numP 1 zs with _ | ⟨m, v⟩
    · rw [h2] at h0; cases h0
    rw [h2] at h0; simp only at h0 ⊢
    split at h0
    · exact h0
    · cases h0
  have e1 : stampsQ t = some (ss', u) := by
    unfold stampsP at h1
    unfold stampsQ
    rcases h2 : numP 1 t with _ | ⟨m, v⟩
    · rw [h2] at h1; cases h1
    rw [h2] at h1; simp only at h1 ⊢
    split at h1
    · exact h1
    · cases h1
  unfold snapQ
  rw [e0]
  simp only [e1]
set_option maxHeartbeats 4000000 in
theorem rReadSnap_c (a : Option Addr) (n c : Nat) (zs : List Int) (w : World) (h : IsB w a n zs) (hc : n ≤ c) (hl : Lies2 w a n c) :
    Calls Try.prog 20 #[.slice a n c] w fun e w' => ReadsZ w zs e w' := by
  have b0 := below_1 w (.cells #[.slice none 0 0, .slice none 0 0] 49)
  have h0 := heap_alloc_new w (.cells #[.slice none 0 0, .slice none 0 0] 49)
  have b1 := below_1 (w.alloc (.cells #[.slice none 0 0, .slice none 0 0] 49)) (.cells #[.slice a n c, .bool false] 63)
  have h1 := heap_alloc_new (w.alloc (.cells #[.slice none 0 0, .slice none 0 0] 49)) (.cells #[.slice a n c, .bool false] 63)
  rw [show (w.alloc (.cells #[.slice none 0 0, .slice none 0 0] 49)).heap.size = w.heap.size + 1 by simp] at h1
  have h0' := (b1.block _ (lt_blkR h0)).trans h0
  have bV := b0.trans (b1.mono b0.size)
  have RC := hid (rdSnap_e (rdr_box h hc hl bV (Nat.le_succ _) h1))
  have S0 : Hid (((w.alloc (.cells #[.slice none 0 0, .slice none 0 0] 49)).alloc (.cells #[.slice a n c, .bool false] 63)).heap.size = w.heap.size + 2) := hid (by simp)
  have BV := hid bV
  have H0 := hid h0'
  clear b0 h0 b1 h1 h0' bV h hc hl
  by_cases q : ∃ ns ss rest, snapQ zs = some ((ns, ss), rest) ∧ RSnap ns ss
  · obtain ⟨ns, ss, rest, hq, hrs⟩ := q
    have RC2 := hid (RC.out.mono (fun e9 w9 (h9 : RdSP _ _ zs e9 w9) => show Kf (w.heap.size + 1) _ w9 ∧ RdR w9 (w.heap.size + 1) false rest ∧ ∃ a ca b cb L, e9 = .returned (snV a L.length ca b ss.length cb) ∧ L.map Nd.er = ns.map Nd.er ∧ SnOwn w9 (w.heap.size + 2) a ca L b cb ss from by
      obtain ⟨hk, b, z, hr, ⟨_, _, h3⟩ | ⟨rfl, ns', ss', h3, h4, h5⟩⟩ := h9
      · exact absurd hrs (h3 _ _ _ hq)
      · rw [hq] at h3
        simp only [Option.some.injEq, Prod.mk.injEq] at h3
        obtain ⟨⟨rfl, rfl⟩, rfl⟩ := h3
        rw [S0.out] at h5
        exact ⟨hk, hr, h5⟩))
    have GQ := hid (snapQ_good hrs hq)
    have GR := hid hrs
    clear RC hq hrs
    go_enter Try.func20, Try.ntmps20
    go_upto_region 3 with (first
      | (go_at_call 44; refine RC2.out.mono ?_; rintro _ w1 ⟨hk1, hr1, va, vc, vb, vd, L, rfl, hL1, hO1⟩
         have b2 := below_1 w1 (.cells #[.slice va L.length vc, .slice vb ss.length vd] 49)
         have N2 := hid (heap_alloc_new w1 (.cells #[.slice va L.length vc, .slice vb ss.length vd] 49))
         have G2 := hid ((b2.block _ (lt_blkR ((hk1.block w.heap.size (by rw [S0.out]; omega) (by omega)).trans H0.out))).trans ((hk1.block w.heap.size (by rw [S0.out]; omega) (by omega)).trans H0.out))
         have KB := hid ((BV.out.trans (hk1.below BV.out.size (Nat.le_succ _))).trans (b2.mono (Nat.le_trans BV.out.size hk1.size)))
         have O2 := hid (hO1.later b2)
         have HL := hid hL1
         have R2 := hid (hr1.later b2)
         unfold snV
         clear hk1 hr1 hL1 hO1 b2))
    obtain ⟨p0, p1⟩ := sn_cells N2.out
    obtain ⟨q0, q1⟩ := sn_cells G2.out
    have fz := frzD G2.out
    obtain ⟨ra, rl, rc, rbox, rI, _⟩ := R2.out
    obtain ⟨rb0, rb1, _, _⟩ := cellsF rbox
    have hzl : rest.length = rl := rI.1
    clear rbox rI N2 G2 R2 RC2
    change Code.wp _ _ _ _ (w1.alloc (.cells #[.slice va L.length vc, .slice vb ss.length vd] 49))
    generalize (w1.alloc (.cells #[.slice va L.length vc, .slice vb ss.length vd] 49)) = V at *
    by_cases q : rl = 0
    · have er : rest = [] := List.eq_nil_of_length_eq_zero (by omega)
      have FIN : Hid (GoodZ zs ns ss) := hid ⟨by rw [GQ.out, er], GR.out⟩
      subst q
      clear hzl er
      go_wp2
      refine bodyPost_ret (v := .tuple #[snV va L.length vc vb ss.length vd, .int .i64 0]) (by simp [results, Try.results20, go_sem, snV, q0, q1]) rfl ⟨(KB.out.setCell (p := ⟨w.heap.size, 0, none⟩) (Nat.le_refl _) _).setCell (p := ⟨w.heap.size, 1, none⟩) (Nat.le_refl _) _, .inl ⟨ns, ss, FIN.out, va, vc, vb, vd, L, rfl, HL.out, ?_⟩⟩
      exact ((O2.out.set (p := ⟨w.heap.size, 0, none⟩) (by show w.heap.size < w.heap.size + 2; omega) _).set (p := ⟨w.heap.size, 1, none⟩) (by show w.heap.size < w.heap.size + 2; omega) _).low (by omega)
    · have FIN : Hid (∀ ns ss, ¬ GoodZ zs ns ss) := hid (fun ns' ss' hg => by
        have := hg.1
        rw [GQ.out] at this
        simp only [Option.some.injEq, Prod.mk.injEq] at this
        rw [this.2] at hzl
        exact q (by simpa using hzl.symm))
      have qB : ((rl : Int) != 0) = true := by rw [bne_iff_ne]; omega
      clear hzl
      go_wp2
      refine bodyPost_ret (v := .tuple #[snNo, .int .i64 3]) (by simp [results, Try.results20, go_sem, snNo, q0, q1]) rfl ⟨(KB.out.setCell (p := ⟨w.heap.size, 0, none⟩) (Nat.le_refl _) _).setCell (p := ⟨w.heap.size, 1, none⟩) (Nat.le_refl _) _, .inr ⟨FIN.out, rfl⟩⟩
  · have RC2 := hid (RC.out.mono (fun e9 w9 (h9 : RdSP _ _ zs e9 w9) => show e9 = .returned snNo ∧ Kf (w.heap.size + 1) _ w9 ∧ ∃ z, RdR w9 (w.heap.size + 1) true z from by
      obtain ⟨hk, b, z, hr, ⟨rfl, h2, h3⟩ | ⟨rfl, ns', ss', h3, h4, h5⟩⟩ := h9
      · exact ⟨h2, hk, z, hr⟩
      · exact absurd ⟨_, _, _, h3, h4⟩ q))
    have FIN : Hid (∀ ns ss, ¬ GoodZ zs ns ss) := hid (fun ns ss hg => q ⟨ns, ss, [], snapP_Q hg.1, hg.2⟩)
    clear RC q
    go_enter Try.func20, Try.ntmps20
    go_upto_region 3 with (first
      | (go_at_call 44; refine RC2.out.mono ?_; rintro _ w1 ⟨rfl, hk1, z, hr1⟩
         have b2 := below_1 w1 (.cells #[.slice none 0 0, .slice none 0 0] 49)
         have G2 := hid ((b2.block _ (lt_blkR ((hk1.block w.heap.size (by rw [S0.out]; omega) (by omega)).trans H0.out))).trans ((hk1.block w.heap.size (by rw [S0.out]; omega) (by omega)).trans H0.out))
         have KB := hid ((BV.out.trans (hk1.below BV.out.size (Nat.le_succ _))).trans (b2.mono (Nat.le_trans BV.out.size hk1.size)))
         have R2 := hid (hr1.later b2)
         unfold snNo
         clear hk1 hr1 b2))
    obtain ⟨q0, q1⟩ := sn_cells G2.out
    have fz := frzD G2.out
    obtain ⟨ra, rl, rc, rbox, rI, _⟩ := R2.out
    obtain ⟨rb0, rb1, _, _⟩ := cellsF rbox
    clear rbox rI G2 R2 RC2
    change Code.wp _ _ _ _ (w1.alloc (.cells #[.slice none 0 0, .slice none 0 0] 49))
    generalize (w1.alloc (.cells #[.slice none 0 0, .slice none 0 0] 49)) = V at *
    go_wp2
    refine bodyPost_ret (v := .tuple #[snNo, .int .i64 3]) (by simp [results, Try.results20, go_sem, snNo, q0, q1]) rfl ⟨(KB.out.setCell (p := ⟨w.heap.size, 0, none⟩) (Nat.le_refl _) _).setCell (p := ⟨w.heap.size, 1, none⟩) (Nat.le_refl _) _, .inr ⟨FIN.out, rfl⟩⟩
end Go.Proofs.Ytbgninmkglgfeaa
