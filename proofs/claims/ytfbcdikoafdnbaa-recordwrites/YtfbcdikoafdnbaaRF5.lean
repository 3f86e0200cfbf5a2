/-
  The document's Op, Records.
-/
import Derived.Test.YtfbcdikoafdnbaaRF4
import Derived.Test.YtfbcdikoafdnbaaRRw
namespace Go.Proofs.Ytfbcdikoafdnbaa
open Go.RowKit Go.ChangeShapes Go.WideShapes Go.ChangeAt
set_option linter.unusedVariables false
set_option linter.unusedSimpArgs false
set_option maxRecDepth 100000
set_option maxHeartbeats 2000000 in
theorem rOp_c (x : Rec) (w : World) (hw : x.Wf) :
    Calls Try.prog 6 #[x.opV] w fun e w' => (if rightF x then ∃ v, e = .returned (.tuple #[v, .int .i64 0]) ∧ OwB w' w.heap.size v (opB x) else e = .returned (.tuple #[.slice none 0 0, .int .i64 3])) ∧ Below w.heap.size w w' := by
  have hx : (w.alloc (.cells x.ops.toArray 27)).heap[w.heap.size]? = some (.cells x.ops.toArray 27 (0, 0)) := heap_alloc_new w _
  obtain ⟨y0, y1, y2, y3, y4, y5, y6, y7⟩ := op_all hx
  have B0 := hid (below_1 w (.cells x.ops.toArray 27))
  have HX := hid hx
  have RC := hid (rright_c x (w.alloc (.cells x.ops.toArray 27)) hw)
  have HS := hid (fun (h : rightF x = true) => right_size x h)
  have OC := hid (fun W h => rop_c x W hw h)
  clear hx hw
  cases hr : rightF x with
  | false =>
    rw [hr] at RC
    simp only [Bool.false_eq_true, if_false]
    unfold Rec.opV at RC ⊢
    go_enter Try.func6, Try.ntmps6
    go_wp2_with (go_at_call 24; refine RC.out.mono ?_; rintro _ w1 ⟨rfl, hb1⟩)
    go_ret2
    exact ⟨rfl, B0.out.trans (hb1.mono B0.out.size)⟩
  | true =>
    rw [hr] at RC
    simp only [if_true]
    obtain ⟨s1, s2, s3⟩ := HS.out hr
    have OC2 := hid (fun W => OC.out W ⟨by omega, by omega, by omega⟩)
    unfold Rec.opV at RC OC2 ⊢
    clear OC HS s1 s2 s3
    go_enter Try.func6, Try.ntmps6
    go_wp2_with (first
      | (go_at_call 25; refine (OC2.out _).mono ?_; rintro _ w2 ⟨v2, rfl, hO2, hb2⟩; obtain ⟨a2, n2, c2, rfl⟩ := hO2.any)
      | (go_at_call 24; refine RC.out.mono ?_; rintro _ w1 ⟨rfl, hb1⟩; have B1 := hid (B0.out.trans (hb1.mono B0.out.size)); obtain ⟨z0, z1, z2, z3, z4, z5, z6, z7⟩ := op_all ((hb1.block _ (lt_blkR HX.out)).trans HX.out); clear hb1))
    go_ret2
    exact ⟨⟨_, rfl, hO2.base B1.out.size⟩, B1.out.trans (hb2.mono B1.out.size)⟩
theorem take_any {l : List Rec} {m : Nat} (h : m < l.length) (h1 : (l.take m).any wrongF = false) (h2 : rightF (l.getD m Rec.no) = true) : (l.take (m + 1)).any wrongF = false := by
  rw [take_rec h, List.any_append, h1]
  simp only [List.any_cons, List.any_nil, wrongF, h2]
  rfl
theorem any_wrong {l : List Rec} {m : Nat} (h : m < l.length) (h2 : rightF (l.getD m Rec.no) = false) : l.any wrongF = true := by
  rw [List.any_eq_true]
  refine ⟨l.getD m Rec.no, ?_, by unfold wrongF; rw [h2]; rfl⟩
  rw [List.getD, List.getElem?_eq_getElem h]
  exact List.getElem_mem _
def RrP (l : List Rec) (w : World) (e : Ending) (w' : World) : Prop :=
  (if recsOk l then ∃ v, e = .returned (.tuple #[v, .int .i64 0]) ∧ OwB w' w.heap.size v (recsA l) else e = .returned (.tuple #[.slice none 0 0, .int .i64 3])) ∧ Below w.heap.size w w'
set_option maxHeartbeats 8000000 in
theorem rrecords_p (a : Option Addr) (cap : Nat) (l : List Rec) (w : World) (h : IsL w a l) (hm : l.length ≤ 100000) :
    Calls Try.prog 8 #[.slice a l.length cap] w fun e w' => RrP l w e w' := by
  have H := hid h
  clear h
  by_cases q : l.length ≤ 24
  · have EA : Hid (recsA l = beF l.length 1 ++ recsB l) := hid rfl
    have ER : Hid (recsOk l = !l.any wrongF) := hid (by unfold recsOk; rw [decide_eq_true q]; simp)
    have EK : Hid (beF (l.length : Int) 1 = [(l.length : Int)]) := hid (by unfold beF beF; simp; omega)
    obtain ⟨n, hn⟩ : ∃ n, n = l.length := ⟨_, rfl⟩
    rw [← hn] at hm EA EK q ⊢
    have HN := hid hn
    clear hn
    have qI : ¬ (24 : Int) < n := by omega
    have k8 : IntKind.u8.wrap (n : Int) = n := by rw [IntKind.wrap_u8]; omega
    have N1 : Hid (OwB (w.alloc (.cells #[.int .u8 (n : Int)] 5)) w.heap.size (.slice (some ⟨w.heap.size, 0, none⟩) 1 1) (beF n 1)) := hid (by rw [EK.out]; exact OwB.new w n)
    have B1 := hid (below_1 w (.cells #[.int .u8 (n : Int)] 5))
    have HM : Hid (∀ m, (recsB (l.take m)).length ≤ 1000000 → True) := hid (fun _ _ => trivial)
    go_enter Try.func8, Try.ntmps8
    go_wp2
    go_loopg [4, 5] n (fun gk v i wr => ∃ m : Nat, m + gk = n ∧ i = .int .i64 m ∧ Hid (OwB wr w.heap.size v (beF n 1 ++ recsB (l.take m))) ∧ Hid (Below w.heap.size w wr) ∧ Hid ((l.take m).any wrongF = false))
    case atStart => exact ⟨0, by omega, rfl, hid (by simpa [recsB] using N1.out), B1, hid (by simp)⟩
    case round =>
      clear N1 B1 HM
      obtain ⟨m, hm2, rfl, HO, HB, HA⟩ := hrel
      obtain ⟨va, vn, vc, rfl⟩ := HO.out.any
      by_cases hlt : m < n
      · have hltI : (m : Int) < n := by omega
        have h0I : (0 : Int) ≤ m := by omega
        have hln : m < l.length := by rw [← HN.out]; exact hlt
        obtain ⟨b, off, rfl, hc⟩ := H.out.2.2 (by omega)
        have hr := hc m hln
        have hwf := wf_rec H.out (i := m) hln
        have HT := hid (take_rec (l := l) (m := m) hln)
        have TA := hid (take_any (l := l) (m := m) hln HA.out)
        have AW := hid (any_wrong (l := l) (m := m) hln)
        have hsm : (recsB (l.take m)).length ≤ 24 * 300 := by
          have := recsB_le (small_right HA.out)
          rw [List.length_take] at this
          omega
        clear hc hln
        generalize l.getD m Rec.no = x at *
        have KR : Hid (∀ W, Below w.heap.size w W → W.cell? ⟨b, off + m * 9, none⟩ = some (.int .u8 x.k) ∧ W.cell? ⟨b, off + m * 9 + 1, none⟩ = some (.int .u32 x.fid) ∧ W.cell? ⟨b, off + m * 9 + 2, none⟩ = some (.int .u32 x.dir) ∧ W.cell? ⟨b, off + m * 9 + 3, none⟩ = some (.string x.nm) ∧ W.cell? ⟨b, off + m * 9 + 4, none⟩ = some (.int .u32 x.to) ∧ W.cell? ⟨b, off + m * 9 + 5, none⟩ = some (.string x.nm2) ∧ W.cell? ⟨b, off + m * 9 + 6, none⟩ = some (.int .u16 x.md) ∧ W.cell? ⟨b, off + m * 9 + 7, none⟩ = some (.string x.dt) ∧ W.cell? ⟨b, off + m * 9 + 8, none⟩ = some (.int .u64 x.sn)) := hid (fun W hW => ⟨cell_later hW (hr 0 _ rfl), cell_later hW (hr 1 _ rfl), cell_later hW (hr 2 _ rfl), cell_later hW (hr 3 _ rfl), cell_later hW (hr 4 _ rfl), cell_later hW (hr 5 _ rfl), cell_later hW (hr 6 _ rfl), cell_later hW (hr 7 _ rfl), cell_later hW (hr 8 _ rfl)⟩)
        clear hr
        have RC := hid (rright_c x wr hwf)
        cases hx : rightF x with
        | false =>
          rw [hx] at RC
          have EF : Hid (recsOk l = false) := hid (by rw [ER.out, AW.out hx]; rfl)
          obtain ⟨y0, y1, y2, y3, y4, y5, y6, y7, y8⟩ := KR.out wr HB.out
          unfold Rec.opV at RC
          go_wp2_with (go_at_call 24; refine RC.out.mono ?_; rintro _ w1 ⟨rfl, hb1⟩)
          go_ret2
          exact ⟨by rw [if_neg (by rw [EF.out]; simp)]; rfl, HB.out.trans (hb1.mono HB.out.size)⟩
        | true =>
          rw [hx] at RC
          obtain ⟨s1, s2, s3⟩ := right_size x hx
          have OC : Hid (∀ W, Calls Try.prog 25 #[x.opV] W fun e w' => ∃ v, e = .returned v ∧ OwB w' W.heap.size v (opB x) ∧ Below W.heap.size W w') := hid (fun W => rop_c x W hwf ⟨by omega, by omega, by omega⟩)
          have PC : Hid (∀ W, Calls Try.prog 30 #[.int .u64 x.sn, .int .i64 8] W fun e w' => ∃ v, e = .returned v ∧ OwB w' W.heap.size v (beF x.sn 8) ∧ Below W.heap.size W w') := hid (fun W => rput_c x.sn 8 W (by omega) hwf.2.2.2.2.2.1.1 hwf.2.2.2.2.2.1.2)
          have lo : (opB x).length ≤ 1000 := by rw [opB_len]; omega
          have lb : (beF x.sn 8).length = 8 := beF_len _ _
          have TA2 := hid (TA.out hx)
          have EB : Hid (recsB (l.take (m + 1)) = recsB (l.take m) ++ beF x.sn 8 ++ opB x) := hid (by rw [HT.out, recsB_snoc, List.append_assoc]; rfl)
          obtain ⟨zz, hzz⟩ : ∃ zz, zz = beF n 1 ++ recsB (l.take m) := ⟨_, rfl⟩
          have lz : zz.length ≤ 10000 := by rw [hzz, List.length_append, beF_len]; omega
          rw [← hzz] at HO
          have HZZ := hid hzz
          clear hzz hsm HT TA AW s1 s2 s3 hwf hx
          obtain ⟨y0, y1, y2, y3, y4, y5, y6, y7, y8⟩ := KR.out wr HB.out
          unfold Rec.opV at RC OC
          go_upto_region 9 with (go_at_call 24; refine RC.out.mono ?_; rintro _ w1 ⟨rfl, hb1⟩; (have B1 := hid (HB.out.trans (hb1.mono HB.out.size))); (have O1 := hid (HO.out.later hb1)); clear hb1)
          clear y0 y1 y2 y3 y4 y5 y6 y7 y8
          obtain ⟨y0, y1, y2, y3, y4, y5, y6, y7, y8⟩ := KR.out w1 B1.out
          have W0 : Hid (w.heap.size ≤ w1.drew.heap.size) := hid B1.out.size
          have HD : Hid (Below w.heap.size w w1.drew) := hid B1.out.drew
          have O0 : Hid (OwB w1.drew w.heap.size (.slice va vn vc) zz) := hid O1.out
          go_region_held3 (fun w' => w'.cell? ⟨b, off + m * 9, none⟩ = some (.int .u8 x.k) ∧ w'.cell? ⟨b, off + m * 9 + 1, none⟩ = some (.int .u32 x.fid) ∧ w'.cell? ⟨b, off + m * 9 + 2, none⟩ = some (.int .u32 x.dir) ∧ w'.cell? ⟨b, off + m * 9 + 3, none⟩ = some (.string x.nm) ∧ w'.cell? ⟨b, off + m * 9 + 4, none⟩ = some (.int .u32 x.to) ∧ w'.cell? ⟨b, off + m * 9 + 5, none⟩ = some (.string x.nm2) ∧ w'.cell? ⟨b, off + m * 9 + 6, none⟩ = some (.int .u16 x.md) ∧ w'.cell? ⟨b, off + m * 9 + 7, none⟩ = some (.string x.dt) ∧ w'.cell? ⟨b, off + m * 9 + 8, none⟩ = some (.int .u64 x.sn)) (first | (with_reducible exact KR.out _ B7.out) | (with_reducible exact KR.out _ B6.out) | (with_reducible exact KR.out _ B5.out) | (with_reducible exact KR.out _ B4.out) | go_keep)
              (first
                | (have _q := U6.out; clear _q; refine step_appB9 _ (by rfl) _ _ (by rfl) w.heap.size _ _ (by rfl) O6.out _ (opB x) (by rfl) R6.out (by rw [List.length_append]; omega) (by omega) Z6.out ?_; intro v7 w7 ho7 hg7; have O7 := hid ho7; have B7 := hid (grown_bel B6.out O6.out (Nat.le_refl _) Z6.out hg7); obtain ⟨a7, n7, c7, rfl⟩ := ho7.any; clear ho7 hg7)
                | (have _q := U5.out; clear _q; go_at_call 25; with_reducible refine (OC.out w5).mono ?_; rintro _ w6 ⟨v6, rfl, ho6, hb6⟩; have R6 := hid (ho6.base (Nat.zero_le _)); have O6 := hid (O5.out.later hb6); have B6 := hid (B5.out.trans (hb6.mono Z5.out)); have Z6 := hid (Nat.le_trans Z5.out hb6.size); have U6 := hid ho6; clear ho6 hb6)
                | (have _q := U4.out; clear _q; refine step_appB9 _ (by rfl) _ _ (by rfl) w.heap.size _ _ (by rfl) O4.out _ (beF x.sn 8) (by rfl) R4.out (by omega) (by omega) Z4.out ?_; intro v5 w5 ho5 hg5; have O5 := hid ho5; have B5 := hid (grown_bel B4.out O4.out (Nat.le_refl _) Z4.out hg5); have Z5 := hid (Nat.le_trans Z4.out hg5.size); have U5 := hid ho5; obtain ⟨a5, n5, c5, rfl⟩ := ho5.any; clear ho5 hg5)
                | (go_at_call 30; with_reducible refine (PC.out w1.drew).mono ?_; rintro _ w4 ⟨v4, rfl, ho4, hb4⟩; have R4 := hid (ho4.base (Nat.zero_le _)); have O4 := hid (O0.out.later hb4); have B4 := hid (HD.out.trans (hb4.mono W0.out)); have Z4 := hid (Nat.le_trans W0.out hb4.size); have U4 := hid ho4; clear ho4 hb4))
          all_goals (
            go_wp2_with fail
            go_roundg (gk - 1)
            case measure => omega
            case rel => exact ⟨m + 1, by omega, by go_num, hid (by rw [EB.out, ← List.append_assoc, ← List.append_assoc, ← HZZ.out]; exact O7.out), B7, TA2⟩)
      · have em : m = n := by omega
        have hge : ¬ (m : Int) < n := by omega
        have ET : Hid (l.take m = l) := hid (List.take_of_length_le (by rw [← HN.out]; omega))
        have EF : Hid (recsOk l = true) := hid (by have := HA.out; rw [ET.out] at this; rw [ER.out, this]; rfl)
        go_wp2
        go_ret2
        exact ⟨by rw [if_pos EF.out]; exact ⟨_, rfl, by have := HO.out; rw [ET.out, ← EA.out] at this; exact this⟩, HB.out⟩
  · have qI : (24 : Int) < l.length := by omega
    have EF : Hid (recsOk l = false) := hid (by unfold recsOk; rw [decide_eq_false q]; rfl)
    go_enter Try.func8, Try.ntmps8
    go_wp2
    go_ret2
    exact ⟨by rw [if_neg (by rw [EF.out]; simp)]; rfl, Below.refl _ _⟩
theorem rrecords_c (a : Option Addr) (cap : Nat) (l : List Rec) (w : World) (h : IsL w a l) (hm : l.length ≤ 100000) :
    Calls Try.prog 8 #[.slice a l.length cap] w fun e w' => (if recsOk l then ∃ v, e = .returned (.tuple #[v, .int .i64 0]) ∧ OwB w' w.heap.size v (recsA l) else e = .returned (.tuple #[.slice none 0 0, .int .i64 3])) ∧ Below w.heap.size w w' := rrecords_p a cap l w h hm
end Go.Proofs.Ytfbcdikoafdnbaa
