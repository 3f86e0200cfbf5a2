/-
  The document's Reader.Records.
-/
import Derived.Test.YtbgninmkglgfeaaRR4
import Derived.Test.YtbgninmkglgfeaaRTr
namespace Go.Proofs.Ytbgninmkglgfeaa
open Go.RowKit Go.ChangeShapes Go.WideShapes Go.ChangeAt
set_option linter.unusedVariables false
set_option linter.unusedSimpArgs false
set_option maxRecDepth 100000
theorem own_kf {w w' : World} {r base n sz : Nat} {t : TypeId} {v : Value} {xs : List Value} (h : w.ownsRow base t sz v n xs) (hk : Kf r w w') (hr : r < base) : w'.ownsRow base t sz v n xs := by
  rcases h.2 with ⟨h1, h2⟩ | ⟨g, cap, cur, h1, h2, h3, h4⟩
  · exact ⟨h.1, .inl ⟨h1, h2⟩⟩
  · exact ⟨h.1, .inr ⟨g, cap, cur, h1, h2, (hk.block g (lt_blkR h3) (by omega)).trans h3, h4⟩⟩
theorem RdR.low {w w' : World} {r B : Nat} {bd : Bool} {zs : List Int} (h : RdR w r bd zs) (hb : Below B w w') (hr : r < B) : RdR w' r bd zs := by
  obtain ⟨a, len, c, h1, h2, h3, h4⟩ := h
  refine ⟨a, len, c, (hb.block r hr).trans h1, ?_, h3, h4⟩
  rcases h4 with ⟨h5, _⟩ | ⟨b, off, rfl, hb2⟩
  · subst h5
    exact isB_noneF _ _ h2
  · exact isB_blkF h2 (hb.block b (by omega))
theorem Kf.low {r : Nat} {a w w' : World} (h : Kf r a w) (hb : Below a.heap.size w w') : Kf r a w' :=
  ⟨hb.os.trans h.os, hb.tape.trans h.tape, hb.output.trans h.output, Nat.le_trans h.size hb.size, fun k hk hne => (hb.block k hk).trans (h.block k hk hne)⟩
/-- Where the document's Records stands: so many records are read, the bytes are bad or not. -/
def RsAt (n : Nat) (z1 : List Int) (m : Nat) (b : Bool) (z : List Int) (L : List Rec) : Prop :=
  recsN n z1 = bif b then none else match recsN (n - m) z with
    | none => none
    | some (l, u) => some (L ++ l, u)
theorem RsAt.start (n : Nat) (z : List Int) : RsAt n z 0 false z [] := by
  unfold RsAt
  rw [Nat.sub_zero]
  cases recsN n z with
  | none => rfl
  | some p => rfl
theorem RsAt.next {n m : Nat} {z1 z z2 z3 : List Int} {L : List Rec} {x : Rec} {sn : Int} {b2 b3 : Bool} (h : RsAt n z1 m false z L) (hm : m < n) (e : Nr false z 8 = (sn, b2, z2))
    (hp : b2 = false → opP z2 = bif b3 then none else some (x, z3)) (hb : b2 = true → b3 = true) : RsAt n z1 (m + 1) b3 z3 (L ++ [{ x with sn := sn }]) := by
  unfold RsAt at *
  rw [h]
  obtain ⟨d, hd⟩ : ∃ d, n - m = d + 1 := ⟨n - m - 1, by omega⟩
  have hd2 : n - (m + 1) = d := by omega
  rw [hd, hd2]
  have hn := nr_num e
  simp only [recsN, recP, cond_false]
  rw [hn]
  cases b2 with
  | true =>
    cases hb rfl
    rfl
  | false =>
    simp only [cond_false]
    rw [hp rfl]
    cases b3 with
    | true => rfl
    | false =>
      simp only [cond_false]
      cases recsN d z3 with
      | none => rfl
      | some p => simp
theorem recsP_of {zs z0 : List Int} {n : Int} {b : Bool} (e : Nr false zs 1 = (n, b, z0)) : recsP zs = bif b then none else if n ≤ 24 then recsN n.toNat z0 else none := by
  unfold recsP
  rw [nr_num e]
  cases b <;> rfl
/-- What the document's Records answers and leaves. -/
def RsP (w : World) (r : Nat) (zs : List Int) (e : Ending) (w' : World) : Prop :=
  ∃ v b z L, e = .returned v ∧ w'.ownsRow w.heap.size 79 9 v L.length (rcells L) ∧ Kf r w w' ∧ RdR w' r b z ∧ recsP zs = bif b then none else some (L, z)
set_option maxHeartbeats 4000000 in
theorem rdRecs_e {w : World} {r : Nat} {zs : List Int} (h : RdR w r false zs) :
    Calls Try.prog 28 #[.pointer (some ⟨r, 0, none⟩)] w fun e w' => RsP w r zs e w' := by
  obtain ⟨i0, hi, hz0, hz1, hz2⟩ := info_rec
  rcases e0 : Nr false zs 1 with ⟨n, b0, z0⟩
  have g0 := Nr_bd h.in false 1
  rw [e0] at g0
  simp only at g0
  obtain ⟨N, rfl⟩ : ∃ N : Nat, n = (N : Int) := ⟨n.toNat, by omega⟩
  have hN : N < 256 := by omega
  have kn : IntKind.i64.wrap (N : Int) = N := by rw [IntKind.wrap_i64]; omega
  have hrl := h.lt
  have C0 := hid (rdN1 h e0)
  have PZ := hid (recsP_of e0)
  rw [show ((N : Int)).toNat = N by omega] at PZ
  clear h g0 e0
  obtain ⟨bs, hbs⟩ : ∃ bs : Bool, bs = (b0 || decide (24 < N)) := ⟨_, rfl⟩
  have PS : Hid (recsP zs = bif bs then none else recsN N z0) := hid (by
    rw [PZ.out, hbs]
    cases b0 with
    | true => rfl
    | false =>
      by_cases q : 24 < N
      · simp only [cond_false, Bool.false_or, decide_eq_true q, cond_true]
        rw [if_neg (by omega)]
      · simp only [cond_false, Bool.false_or, decide_eq_false q]
        rw [if_pos (by omega)])
  have HBS := hid hbs
  clear PZ hbs
  go_enter Try.func28, Try.ntmps28
  go_upto_region 2 with (go_at_call 31; refine C0.out.mono ?_; rintro _ w1 ⟨rfl, hk1, hr1⟩; (have K1 := hid hk1); (have R1 := hid hr1); clear hk1 hr1)
  have ST : Hid (∃ W1 b z, Kf r w W1 ∧ RdR W1 r b z ∧ (b = true → recsP zs = none) ∧ (b = false → recsP zs = recsN N z0 ∧ z = z0) ∧ W1 = if 24 < N then w1.setCell ⟨r, 1, none⟩ (.bool true) else w1) := hid (by
    by_cases q : 24 < N
    · refine ⟨_, true, z0, K1.out.set 1 (.bool true), R1.out.bad, fun _ => ?_, fun h => (by cases h), by rw [if_pos q]⟩
      rw [PS.out, HBS.out, decide_eq_true q]; simp
    · refine ⟨w1, b0, z0, K1.out, R1.out, fun h => ?_, fun h => ⟨?_, rfl⟩, by rw [if_neg q]⟩
      · rw [PS.out, HBS.out, h]; simp
      · rw [PS.out, HBS.out, h, decide_eq_false q]; simp)
  obtain ⟨W1, b, z, hK, hRd, hb1, hb2, hW⟩ := ST.out
  have GO : ∀ q : Bool, decide (24 < N) = q → W1 = (bif q then w1.setCell ⟨r, 1, none⟩ (.bool true) else w1) := fun q hq => by
    rw [hW]; subst hq; by_cases q : 24 < N <;> simp [q]
  obtain ⟨ra, rl, rc, rbox, _⟩ := R1.out
  obtain ⟨_, rb1, _, rf1⟩ := cellsF rbox
  have HST := hid (show Kf r w W1 ∧ RdR W1 r b z ∧ (b = true → recsP zs = none) ∧ (b = false → recsP zs = recsN N z0 ∧ z = z0) from ⟨hK, hRd, hb1, hb2⟩)
  have GOH := hid GO
  clear hK hRd hb1 hb2 hW GO ST rbox PS HBS K1 R1 C0
  have INV : Hid (∃ b z L, ([] : List Rec) = L ∧ Kf r w W1 ∧ RdR W1 r b z ∧ (b = true → recsP zs = none) ∧ (b = false → recsP zs = recsN N z0 ∧ RsAt N z0 0 false z L)) := hid (by
    obtain ⟨h1, h2, h3, h4⟩ := HST.out
    exact ⟨b, z, [], rfl, h1, h2, h3, fun h => ⟨(h4 h).1, by rw [(h4 h).2]; exact RsAt.start _ _⟩⟩)
  clear HST
  rcases Nat.lt_or_ge 24 N with q | q
  · have qI : (24 : Int) < N := by omega
    have HW := hid (GOH.out true (decide_eq_true q))
    simp only [cond_true] at HW
    clear GOH
    go_upto_region 4 with fail
    rw [← HW.out]
    clear HW rb1 rf1
    go_wp2
    go_loopg [4, 5] N (fun gk v i wr => ∃ m : Nat, m + gk = N ∧ i = .int .i64 m ∧ Hid (∃ b z L, L.length = m ∧ wr.ownsRow w.heap.size 79 9 v m (rcells L) ∧ Kf r w wr ∧ RdR wr r b z ∧ (b = true → recsP zs = none) ∧ (b = false → recsP zs = recsN N z0 ∧ RsAt N z0 m false z L)))
    case atStart =>
      refine ⟨0, by omega, rfl, hid ?_⟩
      obtain ⟨b, z, L, rfl, h1, h2, h3, h4⟩ := INV.out
      exact ⟨b, z, [], rfl, World.ownsRow_nil _ _ _ _, h1, h2, h3, h4⟩
    case round =>
      obtain ⟨m, hm, rfl, HI⟩ := hrel
      obtain ⟨b, z, L, hL, hO, hk, hR, h3, h4⟩ := HI.out
      obtain ⟨va, vc, rfl⟩ := own_shapeR hO
      have hR0 := hR
      obtain ⟨ra, rl, rc, rbox, _⟩ := hR
      obtain ⟨_, rb1, _, _⟩ := cellsF rbox
      clear rbox HI
      cases b with
      | true =>
        have EP := hid (h3 rfl)
        have FIN : Hid (RsP w r zs (.returned (.slice va m vc)) wr) := hid ⟨_, true, z, L, rfl, by rw [hL]; exact hO, hk, hR0, by rw [h3 rfl]; rfl⟩
        clear h3 h4 hO hk hR0 hL
        by_cases hlt : m < N
        · have hltI : (m : Int) < N := by omega
          go_wp2
          go_ret
          exact FIN.out
        · have hltI : ¬ (m : Int) < N := by omega
          go_wp2
          go_ret
          exact FIN.out
      | false =>
        by_cases hlt : m < N
        · have hltI : (m : Int) < N := by omega
          rcases e8 : Nr false z 8 with ⟨sn, b2, z2⟩
          have C8 := hid (rdN8 hR0 e8)
          have HO := hid hO
          have HK := hid hk
          have H4 := hid (h4 rfl)
          have E8 := hid e8
          have HL := hid hL
          clear h3 h4 hO hk hR0 hL e8
          go_wp2_with (first
            | (have _q := T3.out; clear _q; at_builtin; refine wpList_append_own _ rfl _ _ 33 rfl w.heap.size 79 i0 Rec.no.val 9 88 Try.underlying33 hi hz0 hz1 hz2 (by rfl) (by decide) _ _ _ rfl O3.out ⟨w3.heap.size, 0, none⟩ 1 1 (Rec.cells ⟨n0, n1, n2, s3, n4, s5, n6, s7, sn⟩) rfl rfl (rec_newsR N3.out) (rec_oneR _) (by unfold maxLen; omega) (by omega) S3.out ?_; intro v9 w9 hown9 hgrow9 hnil9)
            | (go_at_call 25; refine (rdOp_e R2.out).mono ?_; rintro _ w3 ⟨⟨n0, n1, n2, s3, n4, s5, n6, s7, sx⟩, b3, z3, rfl, hk3, hr3, hp3, hq3⟩
               have b4 := below_1 w3 (.cells #[.int .u8 n0, .int .u32 n1, .int .u32 n2, .string s3, .int .u32 n4, .string s5, .int .u16 n6, .string s7, .int .u64 sn] 79)
               have O3 := hid (own_latR (own_kf O2.out hk3 hrl) b4)
               have K3 := hid ((K2.out.trans hk3).trans (Kf.of b4))
               have R3 := hid (hr3.later b4)
               have N3 := hid (heap_alloc_new w3 (.cells #[.int .u8 n0, .int .u32 n1, .int .u32 n2, .string s3, .int .u32 n4, .string s5, .int .u16 n6, .string s7, .int .u64 sn] 79))
               have S3 := hid (Nat.le_trans K3.out.size (Nat.le_refl _))
               have P3 := hid hp3
               have Q3 := hid hq3
               have T3 := hid True.intro
               clear hk3 hr3 hp3 hq3 b4
               unfold Rec.opV)
            | (go_at_call 31; refine C8.out.mono ?_; rintro _ w2 ⟨rfl, hk2, hr2⟩; have K2 := hid (HK.out.trans hk2); have O2 := hid (own_kf HO.out hk2 hrl); have R2 := hid hr2; clear hk2 hr2))
          have HB9 := hid (below_grownR (Below.refl w.heap.size _) O3.out (Nat.le_refl _) S3.out hgrow9)
          have NX := hid (RsAt.next (x := ⟨n0, n1, n2, s3, n4, s5, n6, s7, sx⟩) H4.out.2 hlt E8.out P3.out Q3.out)
          obtain ⟨a9, c9, rfl⟩ := own_shapeR hown9
          have HI2 : Hid (∃ b z L, L.length = m + 1 ∧ w9.ownsRow w.heap.size 79 9 (.slice a9 (m + 1) c9) (m + 1) (rcells L) ∧ Kf r w w9 ∧ RdR w9 r b z ∧ (b = true → recsP zs = none) ∧ (b = false → recsP zs = recsN N z0 ∧ RsAt N z0 (m + 1) false z L)) := hid (by
            refine ⟨b3, z3, L ++ [⟨n0, n1, n2, s3, n4, s5, n6, s7, sn⟩], by rw [List.length_append, HL.out]; rfl, by rw [rcells_snoc]; exact hown9, K3.out.low HB9.out, R3.out.low HB9.out hrl, fun h => ?_, fun h => ?_⟩
            · have := NX.out
              unfold RsAt at this
              rw [H4.out.1, this, h]; rfl
            · have := NX.out
              rw [h] at this
              exact ⟨H4.out.1, this⟩)
          clear hown9 hgrow9 hnil9
          go_roundg (gk - 1)
          case measure => omega
          case rel => exact ⟨m + 1, by omega, by go_num, HI2⟩
        · have hltI : ¬ (m : Int) < N := by omega
          have FIN : Hid (RsP w r zs (.returned (.slice va m vc)) wr) := hid ⟨_, false, z, L, rfl, by rw [hL]; exact hO, hk, hR0, by
            have h5 := (h4 rfl).2
            unfold RsAt at h5
            rw [show N - m = 0 by omega] at h5
            rw [(h4 rfl).1, h5]
            simp [recsN]⟩
          clear h3 h4 hO hk hR0 hL
          go_wp2
          go_ret
          exact FIN.out
  · have qI : ¬ (24 : Int) < N := by omega
    have HW := hid (GOH.out false (decide_eq_false (by omega)))
    simp only [cond_false] at HW
    clear GOH
    go_upto_region 4 with fail
    rw [← HW.out]
    clear HW rb1 rf1
    go_wp2
    go_loopg [4, 5] N (fun gk v i wr => ∃ m : Nat, m + gk = N ∧ i = .int .i64 m ∧ Hid (∃ b z L, L.length = m ∧ wr.ownsRow w.heap.size 79 9 v m (rcells L) ∧ Kf r w wr ∧ RdR wr r b z ∧ (b = true → recsP zs = none) ∧ (b = false → recsP zs = recsN N z0 ∧ RsAt N z0 m false z L)))
    case atStart =>
      refine ⟨0, by omega, rfl, hid ?_⟩
      obtain ⟨b, z, L, rfl, h1, h2, h3, h4⟩ := INV.out
      exact ⟨b, z, [], rfl, World.ownsRow_nil _ _ _ _, h1, h2, h3, h4⟩
    case round =>
      obtain ⟨m, hm, rfl, HI⟩ := hrel
      obtain ⟨b, z, L, hL, hO, hk, hR, h3, h4⟩ := HI.out
      obtain ⟨va, vc, rfl⟩ := own_shapeR hO
      have hR0 := hR
      obtain ⟨ra, rl, rc, rbox, _⟩ := hR
      obtain ⟨_, rb1, _, _⟩ := cellsF rbox
      clear rbox HI
      cases b with
      | true =>
        have EP := hid (h3 rfl)
        have FIN : Hid (RsP w r zs (.returned (.slice va m vc)) wr) := hid ⟨_, true, z, L, rfl, by rw [hL]; exact hO, hk, hR0, by rw [h3 rfl]; rfl⟩
        clear h3 h4 hO hk hR0 hL
        by_cases hlt : m < N
        · have hltI : (m : Int) < N := by omega
          go_wp2
          go_ret
          exact FIN.out
        · have hltI : ¬ (m : Int) < N := by omega
          go_wp2
          go_ret
          exact FIN.out
      | false =>
        by_cases hlt : m < N
        · have hltI : (m : Int) < N := by omega
          rcases e8 : Nr false z 8 with ⟨sn, b2, z2⟩
          have C8 := hid (rdN8 hR0 e8)
          have HO := hid hO
          have HK := hid hk
          have H4 := hid (h4 rfl)
          have E8 := hid e8
          have HL := hid hL
          clear h3 h4 hO hk hR0 hL e8
          go_wp2_with (first
            | (have _q := T3.out; clear _q; at_builtin; refine wpList_append_own _ rfl _ _ 33 rfl w.heap.size 79 i0 Rec.no.val 9 88 Try.underlying33 hi hz0 hz1 hz2 (by rfl) (by decide) _ _ _ rfl O3.out ⟨w3.heap.size, 0, none⟩ 1 1 (Rec.cells ⟨n0, n1, n2, s3, n4, s5, n6, s7, sn⟩) rfl rfl (rec_newsR N3.out) (rec_oneR _) (by unfold maxLen; omega) (by omega) S3.out ?_; intro v9 w9 hown9 hgrow9 hnil9)
            | (go_at_call 25; refine (rdOp_e R2.out).mono ?_; rintro _ w3 ⟨⟨n0, n1, n2, s3, n4, s5, n6, s7, sx⟩, b3, z3, rfl, hk3, hr3, hp3, hq3⟩
               have b4 := below_1 w3 (.cells #[.int .u8 n0, .int .u32 n1, .int .u32 n2, .string s3, .int .u32 n4, .string s5, .int .u16 n6, .string s7, .int .u64 sn] 79)
               have O3 := hid (own_latR (own_kf O2.out hk3 hrl) b4)
               have K3 := hid ((K2.out.trans hk3).trans (Kf.of b4))
               have R3 := hid (hr3.later b4)
               have N3 := hid (heap_alloc_new w3 (.cells #[.int .u8 n0, .int .u32 n1, .int .u32 n2, .string s3, .int .u32 n4, .string s5, .int .u16 n6, .string s7, .int .u64 sn] 79))
               have S3 := hid (Nat.le_trans K3.out.size (Nat.le_refl _))
               have P3 := hid hp3
               have Q3 := hid hq3
               have T3 := hid True.intro
               clear hk3 hr3 hp3 hq3 b4
               unfold Rec.opV)
            | (go_at_call 31; refine C8.out.mono ?_; rintro _ w2 ⟨rfl, hk2, hr2⟩; have K2 := hid (HK.out.trans hk2); have O2 := hid (own_kf HO.out hk2 hrl); have R2 := hid hr2; clear hk2 hr2))
          have HB9 := hid (below_grownR (Below.refl w.heap.size _) O3.out (Nat.le_refl _) S3.out hgrow9)
          have NX := hid (RsAt.next (x := ⟨n0, n1, n2, s3, n4, s5, n6, s7, sx⟩) H4.out.2 hlt E8.out P3.out Q3.out)
          obtain ⟨a9, c9, rfl⟩ := own_shapeR hown9
          have HI2 : Hid (∃ b z L, L.length = m + 1 ∧ w9.ownsRow w.heap.size 79 9 (.slice a9 (m + 1) c9) (m + 1) (rcells L) ∧ Kf r w w9 ∧ RdR w9 r b z ∧ (b = true → recsP zs = none) ∧ (b = false → recsP zs = recsN N z0 ∧ RsAt N z0 (m + 1) false z L)) := hid (by
            refine ⟨b3, z3, L ++ [⟨n0, n1, n2, s3, n4, s5, n6, s7, sn⟩], by rw [List.length_append, HL.out]; rfl, by rw [rcells_snoc]; exact hown9, K3.out.low HB9.out, R3.out.low HB9.out hrl, fun h => ?_, fun h => ?_⟩
            · have := NX.out
              unfold RsAt at this
              rw [H4.out.1, this, h]; rfl
            · have := NX.out
              rw [h] at this
              exact ⟨H4.out.1, this⟩)
          clear hown9 hgrow9 hnil9
          go_roundg (gk - 1)
          case measure => omega
          case rel => exact ⟨m + 1, by omega, by go_num, HI2⟩
        · have hltI : ¬ (m : Int) < N := by omega
          have FIN : Hid (RsP w r zs (.returned (.slice va m vc)) wr) := hid ⟨_, false, z, L, rfl, by rw [hL]; exact hO, hk, hR0, by
            have h5 := (h4 rfl).2
            unfold RsAt at h5
            rw [show N - m = 0 by omega] at h5
            rw [(h4 rfl).1, h5]
            simp [recsN]⟩
          clear h3 h4 hO hk hR0 hL
          go_wp2
          go_ret
          exact FIN.out
end Go.Proofs.Ytbgninmkglgfeaa
