/-
  Bytes of records: wrongRecord, ContainsFunc, putRecord, putList, putRecords, Records of the package record.
-/
import Derived.Test.YtbgninmkglgfeaaRRs
namespace Go.Proofs.Ytbgninmkglgfeaa
open Go.RowKit Go.ChangeShapes Go.WideShapes Go.ChangeAt Go.Shelf
set_option linter.unusedVariables false
set_option linter.unusedSimpArgs false
theorem at_rec {w : World} {b off : Nat} {l : List Rec} {i : Nat} (h : IsL w (some ⟨b, off, none⟩) l) (hi : i < l.length) : RcAt w b (off + i * 9) (l.getD i Rec.no) := by
  obtain ⟨b', off', e, hc⟩ := h.2.2 (by omega)
  cases e
  exact hc i hi
theorem wf_rec {w : World} {a : Option Addr} {l : List Rec} (h : IsL w a l) {i : Nat} (hi : i < l.length) : (l.getD i Rec.no).Wf := by
  rw [List.getD, List.getElem?_eq_getElem hi]
  exact h.2.1 _ (List.getElem_mem _)
theorem any_rec {l : List Rec} (p : Rec → Bool) {m : Nat} (h : m < l.length) : (l.drop m).any p = (p (l.getD m Rec.no) || (l.drop (m + 1)).any p) := by
  rw [List.drop_eq_getElem_cons h, List.any_cons]
  simp [List.getD, h]
theorem take_rec {l : List Rec} {m : Nat} (h : m < l.length) : l.take (m + 1) = l.take m ++ [l.getD m Rec.no] := by
  rw [List.take_add_one, List.getD, List.getElem?_eq_getElem h]; rfl
def wrongF (x : Rec) : Bool := !rightF x
set_option maxRecDepth 20000 in
set_option maxHeartbeats 1000000 in
theorem wrongRecord_c (x : Rec) (w : World) (hw : x.Wf) :
    Calls Try.prog 71 #[x.val] w fun e w' => e = .returned (.bool (wrongF x)) ∧ Below w.heap.size w w' := by
  have hx : (w.alloc (.cells x.cells.toArray 79)).heap[w.heap.size]? = some (.cells x.cells.toArray 79 (0, 0)) := heap_alloc_new w _
  obtain ⟨y0, y1, y2, y3, y4, y5, y6, y7, y8⟩ := rec_box hx
  have B0 := hid (below_1 w (.cells x.cells.toArray 79))
  have RC := hid (rightOp_c x (w.alloc (.cells x.cells.toArray 79)) hw.2.2.2.2.2.2.1 hw.2.2.2.2.2.2.2.1)
  unfold Rec.val wrongF
  unfold Rec.opV at RC
  clear hx hw
  go_enter Try.func71, Try.ntmps71
  go_wp2_with (go_at_call 55; refine RC.out.mono ?_; rintro _ w1 ⟨rfl, hb1⟩)
  go_ret
  exact ⟨rfl, B0.out.trans (hb1.mono B0.out.size)⟩
set_option maxRecDepth 20000 in
set_option maxHeartbeats 2000000 in
theorem indexFunc_c (a : Option Addr) (cap : Nat) (l : List Rec) (w : World) (h : IsL w a l) (hm : l.length ≤ 100000) :
    Calls Try.prog 100 #[.slice a l.length cap, .func (.func 71) #[] #[]] w fun e w' => (∃ z : Int, e = .returned (.int .i64 z) ∧ decide (0 ≤ z) = l.any wrongF) ∧ Below w.heap.size w w' := by
  have HL := hid h
  clear h
  obtain ⟨n, hn⟩ : ∃ n, n = l.length := ⟨_, rfl⟩
  rw [← hn] at hm ⊢
  have HN := hid hn
  clear hn
  obtain ⟨R, hR⟩ : ∃ R, R = l.any wrongF := ⟨_, rfl⟩
  rw [← hR]
  have HR := hid hR
  clear hR
  go_enter Try.func100, Try.ntmps100
  go_wp2
  go_loopg [8] n (fun g v wr => ∃ m : Nat, m + g = n ∧ v = .int .i64 m ∧ Hid (R = (l.drop m).any wrongF) ∧ Hid (Below w.heap.size w wr))
  case atStart => exact ⟨0, by omega, rfl, hid (by rw [HR.out]; rfl), hid (Below.refl _ _)⟩
  case round =>
    obtain ⟨m, hmg, rfl, HD, HB⟩ := hrel
    by_cases hlt : m < n
    · have hltI : (m : Int) < n := by omega
      have hil := HL.out.later HB.out
      obtain ⟨b, off, rfl, _⟩ := hil.2.2 (by rw [← HN.out]; omega)
      have hr := at_rec hil (i := m) (by rw [← HN.out]; exact hlt)
      have WC := hid (wrongRecord_c (l.getD m Rec.no) wr (wf_rec hil (by rw [← HN.out]; exact hlt)))
      have HE := hid (HD.out.trans (any_rec wrongF (by rw [← HN.out]; exact hlt)))
      clear hil HD
      generalize l.getD m Rec.no = x at *
      have k0 : wr.cell? ⟨b, off + m * 9, none⟩ = some (.int .u8 x.k) := hr 0 _ rfl
      have k1 : wr.cell? ⟨b, off + m * 9 + 1, none⟩ = some (.int .u32 x.fid) := hr 1 _ rfl
      have k2 : wr.cell? ⟨b, off + m * 9 + 2, none⟩ = some (.int .u32 x.dir) := hr 2 _ rfl
      have k3 : wr.cell? ⟨b, off + m * 9 + 3, none⟩ = some (.string x.nm) := hr 3 _ rfl
      have k4 : wr.cell? ⟨b, off + m * 9 + 4, none⟩ = some (.int .u32 x.to) := hr 4 _ rfl
      have k5 : wr.cell? ⟨b, off + m * 9 + 5, none⟩ = some (.string x.nm2) := hr 5 _ rfl
      have k6 : wr.cell? ⟨b, off + m * 9 + 6, none⟩ = some (.int .u16 x.md) := hr 6 _ rfl
      have k7 : wr.cell? ⟨b, off + m * 9 + 7, none⟩ = some (.string x.dt) := hr 7 _ rfl
      have k8 : wr.cell? ⟨b, off + m * 9 + 8, none⟩ = some (.int .u64 x.sn) := hr 8 _ rfl
      unfold Rec.val at WC
      clear hr
      cases hw : wrongF x with
      | true =>
        rw [hw] at WC HE
        go_wp2_with (go_at_call 71; refine WC.out.mono ?_; rintro _ w1 ⟨rfl, hb1⟩)
        go_ret
        exact ⟨⟨_, rfl, by rw [HE.out]; simp⟩, HB.out.trans (hb1.mono HB.out.size)⟩
      | false =>
        rw [hw] at WC HE
        go_wp2_with (go_at_call 71; refine WC.out.mono ?_; rintro _ w1 ⟨rfl, hb1⟩)
        go_roundg (gk - 1)
        case measure => omega
        case rel => exact ⟨m + 1, by omega, by go_num, hid (by rw [HE.out]; rfl), hid (HB.out.trans (hb1.mono HB.out.size))⟩
    · have em : m = n := by omega
      subst em
      have hge : ¬ (m : Int) < m := by omega
      have HE : Hid (R = false) := hid (by rw [HD.out, List.drop_eq_nil_of_le (by rw [← HN.out]; omega)]; rfl)
      go_wp2
      go_ret
      exact ⟨⟨_, rfl, by rw [HE.out]; decide⟩, HB.out⟩
set_option maxHeartbeats 1000000 in
theorem containsFunc_c (a : Option Addr) (cap : Nat) (l : List Rec) (w : World) (h : IsL w a l) (hm : l.length ≤ 100000) :
    Calls Try.prog 70 #[.slice a l.length cap, .func (.func 71) #[] #[]] w fun e w' => e = .returned (.bool (l.any wrongF)) ∧ Below w.heap.size w w' := by
  have IC := hid (indexFunc_c a cap l w h hm)
  clear h
  generalize l.any wrongF = R at *
  go_enter Try.func70, Try.ntmps70
  go_wp2_with (go_at_call 100; refine IC.out.mono ?_; rintro _ w1 ⟨⟨z, rfl, hz⟩, hb1⟩)
  go_ret
  exact ⟨by first | (rw [hz]; rfl) | (rw [← hz]; rfl) | simp [hz], hb1⟩
/-- A record's bytes; those of records, without their number. -/
def recB (x : Rec) : List Int := beF x.sn 8 ++ opB x
def recsB (l : List Rec) : List Int := l.flatMap recB
theorem recsB_snoc (l : List Rec) (x : Rec) : recsB (l ++ [x]) = recsB l ++ recB x := by unfold recsB; simp
theorem recB_len (x : Rec) : (recB x).length = 26 + x.nm.size + x.nm2.size + x.dt.size := by unfold recB; rw [List.length_append, beF_len, opB_len]; omega
theorem rec_notU8 (x : Rec) : NotU8 (.cells x.cells.toArray 79 (0, 0)) := fun cs fr e => by
  injection e with e1 e2
  cases e2
set_option maxRecDepth 20000 in
set_option maxHeartbeats 1000000 in
theorem putRecord_c (T base g : Nat) (zs : List Int) (x : Rec) (w : World) (hp : Pile w T base g zs) (hn : zs.length < 400000) (hw : x.Wf) (hs : x.nm.size + x.nm2.size + x.dt.size < 100000) :
    Calls Try.prog 102 #[.pointer (some ⟨g, 0, none⟩), x.val] w fun e w' => e = .returned (.tuple #[]) ∧ Pile w' T base g (zs ++ recB x) ∧ KpT base g w w' := by
  have hx : (w.alloc (.cells x.cells.toArray 79)).heap[w.heap.size]? = some (.cells x.cells.toArray 79 (0, 0)) := heap_alloc_new w _
  obtain ⟨y0, y1, y2, y3, y4, y5, y6, y7, y8⟩ := rec_box hx
  have hne : w.heap.size ≠ g := by have := hp.len; omega
  have HX := hid hx
  have K0 : Hid (KpT base g w (w.alloc (.cells x.cells.toArray 79))) := hid (alloc_kpT _ hp.len.2)
  have NC := hid (num8_c (n := x.sn) (hp.other (w' := w) (.cells x.cells.toArray 79)) (by omega) hw.2.2.2.2.2.1.1 hw.2.2.2.2.2.1.2)
  have PC := hid (fun W (hq : Pile W T base g (zs ++ beF x.sn 8)) => putOp_c T base g _ x W hq (by rw [List.length_append, beF_len]; omega) hw hs)
  unfold Rec.val
  unfold Rec.opV at PC
  clear hx hp hw
  go_enter Try.func102, Try.ntmps102
  go_wp2_with (first
    | (go_at_call 69; refine (PC.out _ HP1.out).mono ?_; rintro _ w2 ⟨rfl, hp2, hk2⟩)
    | (go_at_call 90; refine NC.out.mono ?_; rintro _ w1 ⟨rfl, hp1, hk1⟩; have HP1 := hid hp1; have K1 := hid (K0.out.trans hk1); obtain ⟨z0, z1, z2, z3, z4, z5, z6, z7, z8⟩ := rec_box (hk1.other _ _ HX.out hne (rec_notU8 x)); clear hp1 hk1))
  refine body_end (by kernel_rfl) rfl ⟨rfl, ?_, K1.out.trans hk2⟩
  unfold recB
  rw [← List.append_assoc]
  exact hp2
end Go.Proofs.Ytbgninmkglgfeaa
