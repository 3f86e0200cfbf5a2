/-
  A snapshot's bytes: putList, putSnapshot, written, Snapshot of the package record.
-/
import Derived.Test.YtbgninmkglgfeaaSWr
namespace Go.Proofs.Ytbgninmkglgfeaa
open Go.RowKit Go.ChangeShapes Go.WideShapes Go.ChangeAt Go.Maps
set_option linter.unusedVariables false
set_option linter.unusedSimpArgs false
set_option maxRecDepth 100000
theorem measB_len {x : Nd} (hw : x.Wf) (ho : nodeOk x = true) : (measB x).length ≤ 2002 := by
  have := nodeB_len hw ho
  unfold measB
  rw [List.length_append, beF_len]; omega
theorem measuresB_le : ∀ {l : List Nd}, (∀ x ∈ l, x.Wf ∧ nodeOk x = true) → (measuresB l).length ≤ l.length * 2002
  | [], _ => by simp [measuresB]
  | x :: t, h => by
    have h1 := measB_len (h x (by simp)).1 (h x (by simp)).2
    have h2 := measuresB_le (l := t) (fun y hy => h y (by simp [hy]))
    have e : measuresB (x :: t) = measB x ++ measuresB t := by unfold measuresB; rw [List.flatMap_cons]
    rw [e, List.length_append, List.length_cons]
    omega
theorem measuresB_snoc (l : List Nd) (x : Nd) : measuresB (l ++ [x]) = measuresB l ++ measB x := by unfold measuresB; simp
theorem take_nd {l : List Nd} {m : Nat} (h : m < l.length) : l.take (m + 1) = l.take m ++ [l.getD m Nd.no] := by
  rw [List.take_add_one, List.getD, List.getElem?_eq_getElem h]; rfl
theorem stampB_len (s : St) : (stampB s).length = 13 := by unfold stampB; simp only [List.length_append, beF_len]
theorem stampsB_len : ∀ (l : List St), (stampsB l).length = l.length * 13
  | [] => rfl
  | x :: t => by
    have e : stampsB (x :: t) = stampB x ++ stampsB t := by unfold stampsB; rw [List.flatMap_cons]
    rw [e, List.length_append, List.length_cons, stampB_len, stampsB_len t]
    omega
theorem stampsB_snoc (l : List St) (x : St) : stampsB (l ++ [x]) = stampsB l ++ stampB x := by unfold stampsB; simp
theorem take_st {l : List St} {m : Nat} (h : m < l.length) : l.take (m + 1) = l.take m ++ [l.getD m St.no] := by
  rw [List.take_add_one, List.getD, List.getElem?_eq_getElem h]; rfl
set_option maxHeartbeats 2000000 in
theorem putListN_c (T base g : Nat) (zs : List Int) (a : Option Addr) (cap : Nat) (l : List Nd) (w : World) (hp : Pile w T base g zs) (hn : zs.length < 1000) (hl : ∀ W, KpT base g w W → IsNs W a l) (hm : l.length ≤ 40) (hs : ∀ x ∈ l, x.Wf ∧ nodeOk x = true) :
    Calls Try.prog 77 #[.pointer (some ⟨g, 0, none⟩), .slice a l.length cap, .func (.func 78) #[] #[]] w fun e w' => e = .returned (.tuple #[]) ∧ Pile w' T base g (zs ++ (beF l.length 1 ++ measuresB l)) ∧ KpT base g w w' := by
  have NC := hid (num1_c (n := (l.length : Int)) hp (by omega) (by omega) (by omega))
  have HL := hid hl
  have HS := hid hs
  have ku : IntKind.u64.wrap (l.length : Int) = l.length := by rw [IntKind.wrap_u64]; omega
  clear hp hl hs
  obtain ⟨n, hnn⟩ : ∃ n, n = l.length := ⟨_, rfl⟩
  rw [← hnn] at hm NC ku ⊢
  have HN := hid hnn
  clear hnn
  go_enter Try.func77, Try.ntmps77
  go_wp2_with (go_at_call 90; refine NC.out.mono ?_; rintro _ w1 ⟨rfl, hp1, hk1⟩; have HP1 := hid hp1; have K1 := hid hk1; clear hp1 hk1)
  clear NC
  go_loopg [15] n (fun k v wr => ∃ m : Nat, m + k = n ∧ v = .int .i64 m ∧ Hid (Pile wr T base g (zs ++ beF n 1 ++ measuresB (l.take m))) ∧ Hid (KpT base g w wr))
  case atStart => exact ⟨0, by omega, rfl, hid (by simpa [measuresB] using HP1.out), K1⟩
  case round =>
    clear HP1 K1
    obtain ⟨m, hmk, rfl, HP, HK⟩ := hrel
    by_cases hlt : m < n
    · have hltI : (m : Int) < n := by omega
      have hln : m < l.length := by rw [← HN.out]; exact hlt
      have KA : Hid (∀ o, KpT base g w (wr.alloc o)) := hid (fun o => HK.out.trans (alloc_kpT o HP.out.len.2))
      have hil := HL.out wr HK.out
      obtain ⟨b, off, rfl, _⟩ := hil.2.2 (by omega)
      obtain ⟨y0, y1, y2, y3, y4, y5⟩ := (hil.at (i := m) hln).all
      have hok := fun o => (HL.out _ (KA.out o)).ok (i := m) hln
      have hgd := HS.out _ (getD_mem l Nd.no hln)
      have HT := hid (take_nd (l := l) (m := m) hln)
      have hlen : (zs ++ beF n 1 ++ measuresB (l.take m)).length < 90000 := by
        have := measuresB_le (l := l.take m) (fun x hx => HS.out x (List.mem_of_mem_take hx))
        rw [List.length_take] at this
        rw [List.length_append, List.length_append, beF_len]
        omega
      clear hil hln
      generalize l.getD m Nd.no = x at *
      have PC := hid (putMeasured_c T base g _ x _ (HP.out.other (w' := wr) (.cells x.cells.toArray 39)) hlen (hok _) hgd.1 hgd.2)
      have hA := heap_alloc_new wr (.cells x.cells.toArray 39)
      obtain ⟨p0, p1, p2, p3, p4, p5⟩ := nd_cells hA
      clear hok hgd hlen hA
      obtain ⟨fid, k, md, ln, da, dc, ds, ka, kc, ks⟩ := x
      simp only [Nd.val, Nd.cells] at *
      go_wp2_with (go_at_call 78; refine PC.out.mono ?_; rintro _ w2 ⟨rfl, hp2, hk2⟩)
      go_roundg (gk - 1)
      case measure => omega
      case rel => exact ⟨m + 1, by omega, by go_num, hid (by rw [HT.out, measuresB_snoc, ← List.append_assoc]; exact hp2), hid ((KA.out _).trans hk2)⟩
    · have em : m = n := by omega
      have hge : ¬ (m : Int) < n := by omega
      have HP2 : Hid (Pile wr T base g (zs ++ (beF n 1 ++ measuresB l))) := hid (by
        have := HP.out
        rw [List.take_of_length_le (by rw [← HN.out]; omega), List.append_assoc] at this
        exact this)
      go_wp2
      exact body_end (by kernel_rfl) rfl ⟨rfl, HP2.out, HK.out⟩
set_option maxHeartbeats 2000000 in
theorem putListS_c (T base g : Nat) (zs : List Int) (a : Option Addr) (cap : Nat) (l : List St) (w : World) (hp : Pile w T base g zs) (hn : zs.length < 100000) (hl : ∀ W, KpT base g w W → IsSs W a l) (hm : l.length ≤ 40) :
    Calls Try.prog 79 #[.pointer (some ⟨g, 0, none⟩), .slice a l.length cap, .func (.func 80) #[] #[]] w fun e w' => e = .returned (.tuple #[]) ∧ Pile w' T base g (zs ++ (beF l.length 1 ++ stampsB l)) ∧ KpT base g w w' := by
  have NC := hid (num1_c (n := (l.length : Int)) hp (by omega) (by omega) (by omega))
  have HL := hid hl
  have ku : IntKind.u64.wrap (l.length : Int) = l.length := by rw [IntKind.wrap_u64]; omega
  clear hp hl
  obtain ⟨n, hnn⟩ : ∃ n, n = l.length := ⟨_, rfl⟩
  rw [← hnn] at hm NC ku ⊢
  have HN := hid hnn
  clear hnn
  go_enter Try.func79, Try.ntmps79
  go_wp2_with (go_at_call 90; refine NC.out.mono ?_; rintro _ w1 ⟨rfl, hp1, hk1⟩; have HP1 := hid hp1; have K1 := hid hk1; clear hp1 hk1)
  clear NC
  go_loopg [15] n (fun k v wr => ∃ m : Nat, m + k = n ∧ v = .int .i64 m ∧ Hid (Pile wr T base g (zs ++ beF n 1 ++ stampsB (l.take m))) ∧ Hid (KpT base g w wr))
  case atStart => exact ⟨0, by omega, rfl, hid (by simpa [stampsB] using HP1.out), K1⟩
  case round =>
    clear HP1 K1
    obtain ⟨m, hmk, rfl, HP, HK⟩ := hrel
    by_cases hlt : m < n
    · have hltI : (m : Int) < n := by omega
      have hln : m < l.length := by rw [← HN.out]; exact hlt
      have hil := HL.out wr HK.out
      obtain ⟨b, off, rfl, _⟩ := hil.2.2 (by omega)
      obtain ⟨y0, y1, y2⟩ := hil.at (i := m) hln
      have hwf := hil.wf (i := m) hln
      have HT := hid (take_st (l := l) (m := m) hln)
      have hlen : (zs ++ beF n 1 ++ stampsB (l.take m)).length < 400000 := by
        rw [List.length_append, List.length_append, beF_len, stampsB_len, List.length_take]
        omega
      clear hil hln
      generalize l.getD m St.no = x at *
      have PC := hid (putStamp_c T base g _ x _ (HP.out.other (w' := wr) (.cells x.cells.toArray 85)) hlen hwf)
      have KA : Hid (KpT base g w (wr.alloc (.cells x.cells.toArray 85))) := hid (HK.out.trans (alloc_kpT _ HP.out.len.2))
      clear hwf hlen
      obtain ⟨sf, sv, sw⟩ := x
      simp only [St.val, St.cells] at *
      go_wp2_with (go_at_call 80; refine PC.out.mono ?_; rintro _ w2 ⟨rfl, hp2, hk2⟩)
      go_roundg (gk - 1)
      case measure => omega
      case rel => exact ⟨m + 1, by omega, by go_num, hid (by rw [HT.out, stampsB_snoc, ← List.append_assoc]; exact hp2), hid (KA.out.trans hk2)⟩
    · have em : m = n := by omega
      have hge : ¬ (m : Int) < n := by omega
      have HP2 : Hid (Pile wr T base g (zs ++ (beF n 1 ++ stampsB l))) := hid (by
        have := HP.out
        rw [List.take_of_length_le (by rw [← HN.out]; omega), List.append_assoc] at this
        exact this)
      go_wp2
      exact body_end (by kernel_rfl) rfl ⟨rfl, HP2.out, HK.out⟩
theorem snap_notU8 (a b : Value) : NotU8 (.cells #[a, b] 49 (0, 0)) := fun cs fr e => by
  injection e with e1 e2
  cases e2
set_option maxHeartbeats 2000000 in
theorem putSnapshot_c (T base g : Nat) (a b : Option Addr) (ca cb : Nat) (ns : List Nd) (ss : List St) (w : World) (hp : Pile w T base g []) (hl : ∀ W, KpT base g w W → IsNs W a ns ∧ IsSs W b ss) (hm : ns.length ≤ 40) (hm' : ss.length ≤ 40) (hs : ∀ x ∈ ns, x.Wf ∧ nodeOk x = true) :
    Calls Try.prog 38 #[.pointer (some ⟨g, 0, none⟩), .agg #[.slice a ns.length ca, .slice b ss.length cb]] w fun e w' => e = .returned (.tuple #[]) ∧ Pile w' T base g (snapB ns ss) ∧ KpT base g w w' := by
  have hx := heap_alloc_new w (.cells #[.slice a ns.length ca, .slice b ss.length cb] 49)
  have y0 : (w.alloc (.cells #[.slice a ns.length ca, .slice b ss.length cb] 49)).cell? ⟨w.heap.size, 0, none⟩ = some (.slice a ns.length ca) := cell_of_row2 hx 0 rfl
  have hne : w.heap.size ≠ g := by have := hp.len; omega
  have HX := hid hx
  have K0 : Hid (KpT base g w (w.alloc (.cells #[.slice a ns.length ca, .slice b ss.length cb] 49))) := hid (alloc_kpT _ hp.len.2)
  have C1 := hid (putListN_c T base g [] a ca ns _ (hp.other (w' := w) (.cells #[.slice a ns.length ca, .slice b ss.length cb] 49)) (by simp) (fun W hW => (hl W (K0.out.trans hW)).1) hm hs)
  have ML := measuresB_le hs
  have C2 := hid (fun W (hW : KpT base g w W) (hq : Pile W T base g (beF ns.length 1 ++ measuresB ns)) => putListS_c T base g _ b cb ss W hq (by rw [List.length_append, beF_len]; omega) (fun V hV => (hl V (hW.trans hV)).2) hm')
  rw [List.nil_append] at C1
  clear hx hp hl hs ML
  unfold snapB
  go_enter Try.func38, Try.ntmps38
  go_wp2_with (first
    | (go_at_call 79; refine (C2.out _ K1.out HP1.out).mono ?_; rintro _ w2 ⟨rfl, hp2, hk2⟩)
    | (go_at_call 77; refine C1.out.mono ?_; rintro _ w1 ⟨rfl, hp1, hk1⟩
       have HP1 := hid hp1
       have K1 := hid (K0.out.trans hk1)
       have z1 : w1.cell? ⟨w.heap.size, 1, none⟩ = some (.slice b ss.length cb) := cell_of_row2 (hk1.other _ _ HX.out hne (snap_notU8 _ _)) 1 rfl
       clear hp1 hk1))
  exact body_end (by kernel_rfl) rfl ⟨rfl, hp2, K1.out.trans hk2⟩
set_option maxHeartbeats 2000000 in
theorem writtenSnap_c (a b : Option Addr) (ca cb : Nat) (ns : List Nd) (ss : List St) (w : World) (hn : IsNs w a ns) (hb : IsSs w b ss) (hm : ns.length ≤ 40) (hm' : ss.length ≤ 40) (hs : ∀ x ∈ ns, x.Wf ∧ nodeOk x = true) :
    Calls Try.prog 37 #[.agg #[.slice a ns.length ca, .slice b ss.length cb], .func (.func 38) #[] #[]] w fun e w' => ∃ v, e = .returned v ∧ w'.ownsRow w.heap.size 5 1 v (snapB ns ss).length ((snapB ns ss).map u8V) ∧ Below w.heap.size w w' := by
  have hx := heap_alloc_new w (.cells #[.slice a ns.length ca, .slice b ss.length cb] 49)
  have b1 := below_1 w (.cells #[.slice a ns.length ca, .slice b ss.length cb] 49)
  have hx2 := ((below_1 (w.alloc (.cells #[.slice a ns.length ca, .slice b ss.length cb] 49)) (.cells #[.slice none 0 0] 118)).block _ (lt_blkR hx)).trans hx
  have y0 : ((w.alloc (.cells #[.slice a ns.length ca, .slice b ss.length cb] 49)).alloc (.cells #[.slice none 0 0] 118)).cell? ⟨w.heap.size, 0, none⟩ = some (.slice a ns.length ca) := cell_of_row2 hx2 0 rfl
  have y1 : ((w.alloc (.cells #[.slice a ns.length ca, .slice b ss.length cb] 49)).alloc (.cells #[.slice none 0 0] 118)).cell? ⟨w.heap.size, 1, none⟩ = some (.slice b ss.length cb) := cell_of_row2 hx2 1 rfl
  have hg2 := heap_alloc_new (w.alloc (.cells #[.slice a ns.length ca, .slice b ss.length cb] 49)) (.cells #[.slice none 0 0] 118)
  have hs1 : (w.alloc (.cells #[.slice a ns.length ca, .slice b ss.length cb] 49)).heap.size = w.heap.size + 1 := by simp
  have hs2 : ((w.alloc (.cells #[.slice a ns.length ca, .slice b ss.length cb] 49)).alloc (.cells #[.slice none 0 0] 118)).heap.size = w.heap.size + 2 := by simp
  rw [hs1] at hg2
  have b2 := b1.trans ((below_1 (w.alloc (.cells #[.slice a ns.length ca, .slice b ss.length cb] 49)) (.cells #[.slice none 0 0] 118)).mono b1.size)
  have B2 := hid b2
  have HP : Hid (Pile ((w.alloc (.cells #[.slice a ns.length ca, .slice b ss.length cb] 49)).alloc (.cells #[.slice none 0 0] 118)) 118 (w.heap.size + 2) (w.heap.size + 1) []) := hid ⟨by omega, by rw [hs2]; omega, _, hg2, World.ownsRow_nil _ _ _ _⟩
  have PC := hid (putSnapshot_c 118 (w.heap.size + 2) (w.heap.size + 1) a b ca cb ns ss _ HP.out (fun W hW => ⟨hn.later (b2.trans (hW.below (by omega) (by omega))), hb.later (b2.trans (hW.below (by omega) (by omega)))⟩) hm hm' hs)
  clear hx hx2 hg2 hs1 hs2 b1 HP hn hb b2 hs
  go_enter Try.func37, Try.ntmps37
  go_wp2_with (first | (go_at_call 38; refine PC.out.mono ?_; rintro _ w1 ⟨rfl, ⟨hg, hbase, v, hbox, hown⟩, hk⟩; have hc := cell_box hbox; obtain ⟨va, vn, vc, rfl⟩ := own_slice hown))
  go_ret
  exact ⟨_, rfl, own_baseR hown (by omega), B2.out.trans (hk.below (by omega) (by omega))⟩
/-- What Snapshot answers. -/
def SnapPost (ns : List Nd) (ss : List St) (w : World) (e : Ending) (w' : World) : Prop :=
  ((RSnap ns ss ∧ ∃ v, e = .returned (.tuple #[v, .int .i64 0]) ∧ OwB w' w.heap.size v (snapB ns ss)) ∨ (¬ RSnap ns ss ∧ e = .returned (.tuple #[.slice none 0 0, .int .i64 3]))) ∧ Below w.heap.size w w'
set_option maxHeartbeats 2000000 in
theorem snapshot_c (a b : Option Addr) (ca cb : Nat) (ns : List Nd) (ss : List St) (w : World) (hn : IsNs w a ns) (hb : IsSs w b ss) (hm : ns.length ≤ 100000) (hm' : ss.length ≤ 100000) (hs : RSnap ns ss → ∀ x ∈ ns, x.Wf) :
    Calls Try.prog 17 #[.agg #[.slice a ns.length ca, .slice b ss.length cb]] w fun e w' => SnapPost ns ss w e w' := by
  have b0 := below_1 w (.cells #[.slice a ns.length ca, .slice b ss.length cb] 49)
  have h0 := heap_alloc_new w (.cells #[.slice a ns.length ca, .slice b ss.length cb] 49)
  have y0 : (w.alloc (.cells #[.slice a ns.length ca, .slice b ss.length cb] 49)).cell? ⟨w.heap.size, 0, none⟩ = some (.slice a ns.length ca) := cell_of_row2 h0 0 rfl
  have y1 : (w.alloc (.cells #[.slice a ns.length ca, .slice b ss.length cb] 49)).cell? ⟨w.heap.size, 1, none⟩ = some (.slice b ss.length cb) := cell_of_row2 h0 1 rfl
  have RC := hid (rightSnapshot_c a b ca cb ns ss _ (hn.later b0) (hb.later b0) hm hm')
  have WC := hid (fun W (hW : Below w.heap.size w W) (hr : RSnap ns ss) => writtenSnap_c a b ca cb ns ss W (hn.later hW) (hb.later hW) hr.1.1 (by
    have h1 := hr.2
    unfold stOk at h1
    rw [Bool.and_eq_true, decide_eq_true_eq] at h1
    have := hr.1.1
    omega) (fun x hx => ⟨hs hr x hx, right_ok hr.1 x hx⟩))
  have B0 := hid b0
  have H0 := hid h0
  clear b0 h0 hn hb hs
  unfold RsP2 at RC
  go_enter Try.func17, Try.ntmps17
  go_upto_region 1 with fail
  generalize (w.alloc (.cells #[.slice a ns.length ca, .slice b ss.length cb] 49)) = V at *
  go_wp2_with (first
    | (go_at_call 36; refine RC.out.mono ?_; rintro _ w1 ⟨b1, rfl, hq1, hb1⟩
       have Q1 := hid hq1
       have B1 := hid (B0.out.trans (hb1.mono B0.out.size))
       have z0 : w1.cell? ⟨w.heap.size, 0, none⟩ = some (.slice a ns.length ca) := cell_of_row2 ((hb1.block _ (lt_blkR H0.out)).trans H0.out) 0 rfl
       have z1 : w1.cell? ⟨w.heap.size, 1, none⟩ = some (.slice b ss.length cb) := cell_of_row2 ((hb1.block _ (lt_blkR H0.out)).trans H0.out) 1 rfl
       clear hq1 hb1))
  · have hb : ¬ b1 = true := by have h9 := ‹(!b1) = true›; intro e; rw [e] at h9; cases h9
    go_ret2
    exact ⟨.inr ⟨fun h => hb (Q1.out.2 h), rfl⟩, B1.out⟩
  · have hb : b1 = true := by have h9 := ‹(!b1) = false›; simpa using h9
    have HR := hid (Q1.out.1 hb)
    refine (WC.out _ B1.out HR.out).mono ?_
    rintro _ w2 ⟨v2, rfl, hO2, hb2⟩
    obtain ⟨a2, c2, rfl⟩ := own_shapeR hO2
    have O2 := hid hO2
    clear hO2
    go_wp2
    go_ret2
    exact ⟨.inl ⟨HR.out, _, rfl, own_baseR O2.out B1.out.size⟩, B1.out.trans (hb2.mono B1.out.size)⟩
end Go.Proofs.Ytbgninmkglgfeaa
