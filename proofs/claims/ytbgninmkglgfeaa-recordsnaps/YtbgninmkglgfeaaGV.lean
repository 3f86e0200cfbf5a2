/-
  Nodes compared: the document's SameNode, of the same contents.
  Nodes and snapshots compared: the document's Same, of the same contents.
  No bytes at all, wherever they are said to lie, as records; and all bytes.
  No bytes at all, wherever they are said to lie, as a snapshot; and all bytes.
-/
import Derived.Test.YtbgninmkglgfeaaRR7
import Derived.Test.YtbgninmkglgfeaaRSm
import Derived.Test.YtbgninmkglgfeaaGU
import Derived.BigQuiet
import Derived.Test.YtbgninmkglgfeaaRBp
namespace Go.Proofs.Ytbgninmkglgfeaa
open Go.RowKit Go.ChangeShapes Go.WideShapes Go.ChangeAt Go.Maps Go.Shelf
set_option linter.unusedVariables false
set_option linter.unusedSimpArgs false
set_option maxRecDepth 100000
theorem kid_wide : (match Try.prog.underlying 74 with | some (.array _ _) | some (.struct _) => true | _ => false) = true := by kernel_rfl
theorem kid_guard : Try.prog.eqGuardType Try.prog.depth 74 = false := by kernel_rfl
theorem kid_key {x : Kd} (h : x.Wf) : ∃ kl, keyOf Try.prog 74 x.val = some kl := by
  obtain ⟨h1, h2, h3⟩ := h
  have w2 : (Lit.int .u32 x.fid).wf = true := by simp [Lit.wf, IntKind.min, IntKind.max, IntKind.signed, IntKind.bits]; omega
  have : (keyOf Try.prog 74 x.val).isSome = true := by
    have hkt : Try.prog.keyType 74 = true := by kernel_rfl
    have hc : Try.prog.cellsOf 74 = 2 := by kernel_rfl
    have hc2 : Try.prog.cellsOf 26 = 1 := by kernel_rfl
    have hc4 : Try.prog.cellsOf 9 = 1 := by kernel_rfl
    have hs : decide (2 ≤ Try.prog.types.size) = true := by kernel_rfl
    obtain ⟨d, hd⟩ : ∃ d, Try.prog.types.size = d + 2 := ⟨Try.prog.types.size - 2, by have := of_decide_eq_true hs; omega⟩
    unfold Kd.val keyOf
    rw [Try.underlying74, hd]
    simp [hkt, Value.formed, Try.underlying74, Try.underlying9, hc, hc4, Value.cells, Program.keyLits, Try.underlying26, hc2, w2, h1]
  exact Option.isSome_iff_exists.1 this
theorem kid_equal (w : World) {x : Kd} (hx : x.Wf) : (Op.equalIn 10000 74 x.val x.val).run Try.prog w = .ok true w := by
  obtain ⟨lx, ex⟩ := kid_key hx
  obtain ⟨r, hr, hiff⟩ := run_equal_deep (P := Try.prog) w (m := 3) (by omega) (k := 74) (by kernel_rfl) kid_wide ex ex
  rw [hiff.2 rfl] at hr
  exact hr
set_option maxHeartbeats 4000000 in
theorem sameNode_c (x : Nd) (da : Option Addr) (dc : Nat) (ka : Option Addr) (kc : Nat) (db : Option Addr) (dd : Nat) (kb : Option Addr) (kd : Nat) (w : World) (hx : (x.lie da dc ka kc).Ok w) (hy : (x.lie db dd kb kd).Ok w) (hm : x.ks.length ≤ 100000) :
    Calls Try.prog 15 #[(x.lie da dc ka kc).val, (x.lie db dd kb kd).val] w fun e w' => e = .returned (.bool true) ∧ Below w.heap.size w w' := by
  have b0 := below_1 w (.cells (x.lie da dc ka kc).cells.toArray 39)
  have h0 := heap_alloc_new w (.cells (x.lie da dc ka kc).cells.toArray 39)
  have b1 := below_1 (w.alloc (.cells (x.lie da dc ka kc).cells.toArray 39)) (.cells (x.lie db dd kb kd).cells.toArray 39)
  have h1 := heap_alloc_new (w.alloc (.cells (x.lie da dc ka kc).cells.toArray 39)) (.cells (x.lie db dd kb kd).cells.toArray 39)
  rw [show (w.alloc (.cells (x.lie da dc ka kc).cells.toArray 39)).heap.size = w.heap.size + 1 by simp] at h1
  have h0' := (b1.block _ (lt_blkR h0)).trans h0
  have bV := b0.trans (b1.mono b0.size)
  have hxV := hx.later bV
  have hyV := hy.later bV
  have cx := conv_anyN (pc := dc) hxV.2.2.2.2.1
  have cy := conv_anyN (pc := dd) hyV.2.2.2.2.1
  obtain ⟨y0, y1, y2, y3, y4, y5⟩ := nd_cells h0'
  obtain ⟨x0, x1, x2, x3, x4, x5⟩ := nd_cells h1
  have hg := kid_guard
  have KX := hid hxV.2.2.2.2.2
  have KY := hid hyV.2.2.2.2.2
  have BV := hid bV
  have H0 := hid h0'
  have H1 := hid h1
  clear hx hy b0 b1 h0 h1 h0' bV hxV hyV
  simp only [Nd.lie, Nd.val, Nd.cells] at *
  obtain ⟨fid, k, md, ln, da0, dc0, zs, ka0, kc0, ks⟩ := x
  dsimp only at *
  go_enter Try.func15, Try.ntmps15
  go_upto_region 1 with fail
  change Code.wp _ _ _ _ ((w.alloc (.cells #[.int .u32 fid, .int .u8 k, .int .u16 md, .int .u16 ln, .slice da zs.length dc, .slice ka ks.length kc] 39)).alloc (.cells #[.int .u32 fid, .int .u8 k, .int .u16 md, .int .u16 ln, .slice db zs.length dd, .slice kb ks.length kd] 39))
  generalize ((w.alloc (.cells #[.int .u32 fid, .int .u8 k, .int .u16 md, .int .u16 ln, .slice da zs.length dc, .slice ka ks.length kc] 39)).alloc (.cells #[.int .u32 fid, .int .u8 k, .int .u16 md, .int .u16 ln, .slice db zs.length dd, .slice kb ks.length kd] 39)) = V at *
  go_wp2
  go_loopg [5] ks.length (fun gk i wr => ∃ m : Nat, m + gk = ks.length ∧ i = .int .i64 m ∧ Hid (Below V.heap.size V wr))
  case atStart => exact ⟨0, by omega, rfl, hid (Below.refl _ _)⟩
  case round =>
    obtain ⟨m, hm2, rfl, HB⟩ := hrel
    have z5 := (nd_cells (x := ⟨fid, k, md, ln, da, dc, zs, ka, kc, ks⟩) ((HB.out.block _ (lt_blkR H0.out)).trans H0.out)).2.2.2.2.2
    have z6 := (nd_cells (x := ⟨fid, k, md, ln, db, dd, zs, kb, kd, ks⟩) ((HB.out.block _ (lt_blkR H1.out)).trans H1.out)).2.2.2.2.2
    dsimp only at z5 z6
    clear y0 y1 y2 y3 y4 y5 x0 x1 x2 x3 x4 x5 cx cy
    by_cases hlt : m < ks.length
    · have hltI : (m : Int) < ks.length := by omega
      have hx1 := KX.out.later HB.out
      have hy1 := KY.out.later HB.out
      obtain ⟨b1, o1, rfl, _⟩ := hx1.2.2 (by omega)
      obtain ⟨b2, o2, rfl, _⟩ := hy1.2.2 (by omega)
      obtain ⟨p0, p1⟩ := hx1.at (i := m) hlt
      obtain ⟨q0, q1⟩ := hy1.at (i := m) hlt
      have hq := fun W => kid_equal W (hx1.wf (i := m) hlt)
      clear hx1 hy1
      generalize ks.getD m Kd.no = y at *
      unfold Kd.val at hq
      go_wp2
      go_region
      go_wp2
      go_roundg (gk - 1)
      case measure => omega
      case rel => exact ⟨m + 1, by omega, by go_num, hid (Below.drew HB.out)⟩
    · have hge : ¬ (m : Int) < ks.length := by omega
      go_wp2
      go_ret
      exact ⟨rfl, BV.out.trans (HB.out.mono BV.out.size)⟩
end Go.Proofs.Ytbgninmkglgfeaa
namespace Go.Proofs.Ytbgninmkglgfeaa
open Go.RowKit Go.ChangeShapes Go.WideShapes Go.ChangeAt Go.Maps Go.Shelf
set_option linter.unusedVariables false
set_option linter.unusedSimpArgs false
set_option maxRecDepth 100000
theorem kidsTo_at {l : List Kd} : ∀ {m : Nat}, kidsTo l m = true → ∀ i, i < m → kOk l i = true
  | 0, _, i, hi => by omega
  | m + 1, h, i, hi => by
    unfold kidsTo at h
    rw [Bool.and_eq_true] at h
    by_cases e : i = m
    · subst e; exact h.2
    · exact kidsTo_at h.1 i (by omega)
/-- A node in memory that is right is within its bounds. -/
theorem nd_wf {w : World} {x : Nd} (h : x.Ok w) (ho : nodeOk x = true) : x.Wf := by
  obtain ⟨h1, h2, h3, h4, h5, h6⟩ := h
  unfold nodeOk at ho
  rw [Bool.and_eq_true] at ho
  obtain ⟨ha, hb⟩ := ho
  simp only [Bool.not_eq_true', Bool.or_eq_false_iff, decide_eq_false_iff_not] at ha
  obtain ⟨⟨_, l1⟩, l2⟩ := ha
  refine ⟨h1, h2, h3, h4, h5.2.2.2, by omega, fun q hq => ⟨h6.2.1 q hq, ?_⟩, by omega⟩
  cases q1 : (x.k == 1 || x.k == 3) with
  | true =>
    rw [q1] at hb
    simp only [cond_true, decide_eq_true_eq] at hb
    rw [List.eq_nil_of_length_eq_zero hb] at hq
    cases hq
  | false =>
    rw [q1] at hb
    cases q2 : (x.k == 2) with
    | false => rw [q2] at hb; cases hb
    | true =>
      rw [q2] at hb
      simp only [cond_false, cond_true, Bool.and_eq_true] at hb
      obtain ⟨i, hi, rfl⟩ := List.getElem_of_mem hq
      have hk := kidsTo_at hb.2 i hi
      unfold kOk at hk
      rw [Bool.and_eq_true, Bool.and_eq_true] at hk
      have hn := hk.1.1
      rw [show x.ks.getD i Kd.no = x.ks[i] by simp [List.getD, hi]] at hn
      unfold Pa.nameB at hn
      simp only [Bool.and_eq_true, decide_eq_true_eq] at hn
      have := hn.1.1.1.2
      have e : x.ks[i].nm.size = x.ks[i].nm.data.toList.length := rfl
      omega
theorem er_at {L M : List Nd} (h : L.map Nd.er = M.map Nd.er) (i : Nat) : (L.getD i Nd.no).er = (M.getD i Nd.no).er := by
  rw [← getD_er, h, getD_er]
set_option maxHeartbeats 2000000 in
theorem same6_c (a b : Option Addr) (ca cb : Nat) (L M : List Nd) (w : World) (ha : IsNs w a L) (hb : IsNs w b M) (he : L.map Nd.er = M.map Nd.er) (hm : L.length ≤ 100000) (hk : ∀ x ∈ L, x.ks.length ≤ 100000) :
    Calls Try.prog 45 #[.slice a L.length ca, .slice b M.length cb] w fun e w' => e = .returned (.bool true) ∧ Below w.heap.size w w' := by
  have hl : M.length = L.length := by have := congrArg List.length he; simpa using this.symm
  have HA := hid ha
  have HB := hid hb
  have HE := hid he
  have HK := hid hk
  have HL := hid hl
  rw [hl]
  obtain ⟨n, hn⟩ : ∃ n, n = L.length := ⟨_, rfl⟩
  have HN := hid hn
  rw [← hn] at hm ⊢
  clear ha hb he hk hl hn
  go_enter Try.func45, Try.ntmps45
  go_wp2
  go_loopg [5] n (fun gk i wr => ∃ m : Nat, m + gk = n ∧ i = .int .i64 m ∧ Hid (Below w.heap.size w wr))
  case atStart => exact ⟨0, by omega, rfl, hid (Below.refl _ _)⟩
  case round =>
    obtain ⟨m, hm2, rfl, HW⟩ := hrel
    by_cases hlt : m < n
    · have hltI : (m : Int) < n := by omega
      have h1 : m < L.length := by rw [← HN.out]; exact hlt
      have h2 : m < M.length := by rw [HL.out]; exact h1
      obtain ⟨b1, o1, rfl, _⟩ := HA.out.2.2 (by omega)
      obtain ⟨b2, o2, rfl, _⟩ := HB.out.2.2 (by omega)
      have hX := HA.out.later HW.out
      have hY := HB.out.later HW.out
      have oX := hX.ok h1
      have oY := hY.ok h2
      have cX := hX.at (i := m) h1
      have cY := hY.at (i := m) h2
      have ee := er_at HE.out m
      have kx := HK.out _ (getD_mem L Nd.no h1)
      clear h1 h2 hX hY
      generalize L.getD m Nd.no = x at *
      generalize M.getD m Nd.no = y at *
      obtain ⟨fid, k, md, ln, da, dc, zs, ka, kc, ks⟩ := x
      obtain ⟨fid', k', md', ln', db, dd, zs', kb, kd, ks'⟩ := y
      simp only [Nd.er, Nd.lie, Nd.mk.injEq] at ee
      obtain ⟨rfl, rfl, rfl, rfl, _, _, rfl, _, _, rfl⟩ := ee
      have SN := hid (fun w' (h : Below wr.heap.size wr w') => sameNode_c ⟨fid, k, md, ln, da, dc, zs, ka, kc, ks⟩ da dc ka kc db dd kb kd w' (oX.later h) (oY.later h) kx)
      simp only [Nd.lie, Nd.val] at SN
      have x0 : ∀ w', Below wr.heap.size wr w' → w'.cell? ⟨b1, o1 + m * 6, none⟩ = some (.int .u32 fid) := fun w' h => (cX.later h).all.1
      have x1 : ∀ w', Below wr.heap.size wr w' → w'.cell? ⟨b1, o1 + m * 6 + 1, none⟩ = some (.int .u8 k) := fun w' h => (cX.later h).all.2.1
      have x2 : ∀ w', Below wr.heap.size wr w' → w'.cell? ⟨b1, o1 + m * 6 + 2, none⟩ = some (.int .u16 md) := fun w' h => (cX.later h).all.2.2.1
      have x3 : ∀ w', Below wr.heap.size wr w' → w'.cell? ⟨b1, o1 + m * 6 + 3, none⟩ = some (.int .u16 ln) := fun w' h => (cX.later h).all.2.2.2.1
      have x4 : ∀ w', Below wr.heap.size wr w' → w'.cell? ⟨b1, o1 + m * 6 + 4, none⟩ = some (.slice da zs.length dc) := fun w' h => (cX.later h).all.2.2.2.2.1
      have x5 : ∀ w', Below wr.heap.size wr w' → w'.cell? ⟨b1, o1 + m * 6 + 5, none⟩ = some (.slice ka ks.length kc) := fun w' h => (cX.later h).all.2.2.2.2.2
      have y0 : ∀ w', Below wr.heap.size wr w' → w'.cell? ⟨b2, o2 + m * 6, none⟩ = some (.int .u32 fid) := fun w' h => (cY.later h).all.1
      have y1 : ∀ w', Below wr.heap.size wr w' → w'.cell? ⟨b2, o2 + m * 6 + 1, none⟩ = some (.int .u8 k) := fun w' h => (cY.later h).all.2.1
      have y2 : ∀ w', Below wr.heap.size wr w' → w'.cell? ⟨b2, o2 + m * 6 + 2, none⟩ = some (.int .u16 md) := fun w' h => (cY.later h).all.2.2.1
      have y3 : ∀ w', Below wr.heap.size wr w' → w'.cell? ⟨b2, o2 + m * 6 + 3, none⟩ = some (.int .u16 ln) := fun w' h => (cY.later h).all.2.2.2.1
      have y4 : ∀ w', Below wr.heap.size wr w' → w'.cell? ⟨b2, o2 + m * 6 + 4, none⟩ = some (.slice db zs.length dd) := fun w' h => (cY.later h).all.2.2.2.2.1
      have y5 : ∀ w', Below wr.heap.size wr w' → w'.cell? ⟨b2, o2 + m * 6 + 5, none⟩ = some (.slice kb ks.length kd) := fun w' h => (cY.later h).all.2.2.2.2.2
      clear cX cY oX oY kx
      go_wp2
      refine wp_region_class (by kernel_rfl) (by kernel_rfl) ?_
      repeat (first
        | go_big_quiet_skip
        | (go_big_quiet_want
           apply quiet_by
           · intro w1 hw1
             go_simp
             first
               | rfl
               | (go_at_call 15; exact class_of hw1 (SN.out _ hw1))
           · go_simp; rfl
           go_big_quiet_on))
      refine wpQuiet_nil ?_
      intro w9 hw9
      go_wp2
      go_roundg (gk - 1)
      case measure => omega
      case rel => exact ⟨m + 1, by omega, by go_num, hid (HW.out.trans (hw9.mono HW.out.size))⟩
    · have hge : ¬ (m : Int) < n := by omega
      go_wp2
      go_ret
      exact ⟨rfl, HW.out⟩
theorem st_wide : (match Try.prog.underlying 85 with | some (.array _ _) | some (.struct _) => true | _ => false) = true := by kernel_rfl
theorem st_guard : Try.prog.eqGuardType Try.prog.depth 85 = false := by kernel_rfl
theorem st_key {x : St} (h : x.Wf) : ∃ kl, keyOf Try.prog 85 x.val = some kl := by
  obtain ⟨h1, h2, h3⟩ := h
  have w1 : (Lit.int .u32 x.fid).wf = true := by simp [Lit.wf, IntKind.min, IntKind.max, IntKind.signed, IntKind.bits]; omega
  have w2 : (Lit.int .u64 x.ver).wf = true := by simp [Lit.wf, IntKind.min, IntKind.max, IntKind.signed, IntKind.bits]; omega
  have w3 : (Lit.int .u8 x.wr).wf = true := by simp [Lit.wf, IntKind.min, IntKind.max, IntKind.signed, IntKind.bits]; omega
  have : (keyOf Try.prog 85 x.val).isSome = true := by
    have hkt : Try.prog.keyType 85 = true := by kernel_rfl
    have hc : Try.prog.cellsOf 85 = 3 := by kernel_rfl
    have hc2 : Try.prog.cellsOf 26 = 1 := by kernel_rfl
    have hc3 : Try.prog.cellsOf 70 = 1 := by kernel_rfl
    have hc4 : Try.prog.cellsOf 5 = 1 := by kernel_rfl
    have hs : decide (2 ≤ Try.prog.types.size) = true := by kernel_rfl
    obtain ⟨d, hd⟩ : ∃ d, Try.prog.types.size = d + 2 := ⟨Try.prog.types.size - 2, by have := of_decide_eq_true hs; omega⟩
    unfold St.val keyOf
    rw [Try.underlying85, hd]
    simp [hkt, Value.formed, Try.underlying85, Try.underlying70, Try.underlying5, hc, hc3, hc4, Value.cells, Program.keyLits, Try.underlying26, hc2, w1, w2, w3]
  exact Option.isSome_iff_exists.1 this
theorem st_equal (w : World) {x : St} (hx : x.Wf) : (Op.equalIn 10000 85 x.val x.val).run Try.prog w = .ok true w := by
  obtain ⟨lx, ex⟩ := st_key hx
  obtain ⟨r, hr, hiff⟩ := run_equal_deep (P := Try.prog) w (m := 3) (by omega) (k := 85) (by kernel_rfl) st_wide ex ex
  rw [hiff.2 rfl] at hr
  exact hr
set_option maxHeartbeats 2000000 in
theorem same7_c (a b a' b' : Option Addr) (ca cb ca' cb' : Nat) (L M : List Nd) (ss : List St) (w : World) (ha : IsNs w a L) (hb : IsNs w a' M) (he : L.map Nd.er = M.map Nd.er) (hs : IsSs w b ss) (hs' : IsSs w b' ss) (hm : L.length ≤ 100000) (hm2 : ss.length ≤ 100000) (hk : ∀ x ∈ L, x.ks.length ≤ 100000) :
    Calls Try.prog 21 #[snV a L.length ca b ss.length cb, snV a' M.length ca' b' ss.length cb'] w fun e w' => e = .returned (.bool true) ∧ Below w.heap.size w w' := by
  have b0 := below_1 w (.cells #[.slice a L.length ca, .slice b ss.length cb] 49)
  have h0 := heap_alloc_new w (.cells #[.slice a L.length ca, .slice b ss.length cb] 49)
  have b1 := below_1 (w.alloc (.cells #[.slice a L.length ca, .slice b ss.length cb] 49)) (.cells #[.slice a' M.length ca', .slice b' ss.length cb'] 49)
  have h1 := heap_alloc_new (w.alloc (.cells #[.slice a L.length ca, .slice b ss.length cb] 49)) (.cells #[.slice a' M.length ca', .slice b' ss.length cb'] 49)
  rw [show (w.alloc (.cells #[.slice a L.length ca, .slice b ss.length cb] 49)).heap.size = w.heap.size + 1 by simp] at h1
  have h0' := (b1.block _ (lt_blkR h0)).trans h0
  have bV := b0.trans (b1.mono b0.size)
  have BV := hid bV
  obtain ⟨y0, y1⟩ := sn_cells h0'
  obtain ⟨z0, z1⟩ := sn_cells h1
  have SC := hid (same6_c a a' ca ca' L M _ (ha.later bV) (hb.later bV) he hm hk)
  have HS := hid (hs.later bV)
  have HS' := hid (hs'.later bV)
  have H0 := hid h0'
  have H1 := hid h1
  clear b0 b1 h0 h1 h0' bV ha hb he hs hs' hm hk
  unfold snV
  go_enter Try.func21, Try.ntmps21
  go_upto_region 1 with fail
  generalize ((w.alloc (.cells #[.slice a L.length ca, .slice b ss.length cb] 49)).alloc (.cells #[.slice a' M.length ca', .slice b' ss.length cb'] 49)) = V at *
  have hsg := st_guard
  go_wp2_with (go_at_call 45; refine SC.out.mono ?_; rintro _ w1 ⟨rfl, hb1⟩
               have B1 := hid hb1
               have p0 := sn_cells ((hb1.block _ (lt_blkR H0.out)).trans H0.out)
               have p1 := sn_cells ((hb1.block _ (lt_blkR H1.out)).trans H1.out)
               obtain ⟨p00, p01⟩ := p0
               obtain ⟨p10, p11⟩ := p1
               clear hb1 y0 y1 z0 z1)
  go_loopg [5] ss.length (fun gk i wr => ∃ m : Nat, m + gk = ss.length ∧ i = .int .i64 m ∧ Hid (Below V.heap.size V wr))
  case atStart => exact ⟨0, by omega, rfl, B1⟩
  case round =>
    obtain ⟨m, hm3, rfl, HW⟩ := hrel
    clear p00 p01 p10 p11
    obtain ⟨p00, p01⟩ := sn_cells ((HW.out.block _ (lt_blkR H0.out)).trans H0.out)
    obtain ⟨p10, p11⟩ := sn_cells ((HW.out.block _ (lt_blkR H1.out)).trans H1.out)
    by_cases hlt : m < ss.length
    · have hltI : (m : Int) < ss.length := by omega
      have hx1 := HS.out.later HW.out
      have hy1 := HS'.out.later HW.out
      obtain ⟨b1, o1, rfl, _⟩ := hx1.2.2 (by omega)
      obtain ⟨b2, o2, rfl, _⟩ := hy1.2.2 (by omega)
      obtain ⟨q0, q1, q2⟩ := hx1.at (i := m) hlt
      obtain ⟨r0, r1, r2⟩ := hy1.at (i := m) hlt
      have hq := fun W => st_equal W (hx1.wf (i := m) hlt)
      clear hx1 hy1
      generalize ss.getD m St.no = y at *
      unfold St.val at hq
      go_wp2
      go_region
      go_wp2
      go_roundg (gk - 1)
      case measure => omega
      case rel => exact ⟨m + 1, by omega, by go_num, hid (Below.drew HW.out)⟩
    · have hge : ¬ (m : Int) < ss.length := by omega
      go_wp2
      go_ret
      exact ⟨rfl, BV.out.trans (HW.out.mono BV.out.size)⟩
end Go.Proofs.Ytbgninmkglgfeaa
namespace Go.Proofs.Ytbgninmkglgfeaa
open Go.RowKit Go.ChangeShapes Go.WideShapes Go.ChangeAt Go.Maps Go.Shelf
set_option linter.unusedVariables false
set_option linter.unusedSimpArgs false
set_option maxRecDepth 20000 in
set_option maxHeartbeats 2000000 in
theorem pieceE_c (r : Nat) (a : Option Addr) (c : Nat) (w : World) (h : w.heap[r]? = some (.cells #[.slice a 0 c] 134 (0, 0))) :
    Calls Try.prog 94 #[.pointer (some ⟨r, 0, none⟩), .int .i64 1] w fun e w' => e = PN ∧ w' = w := by
  have c0 := cell_box h
  have f0 := frozen_box h
  clear h
  go_enter Try.func94, Try.ntmps94
  go_wp2_with (go_at_call 54; refine (refuse_t _).mono ?_; rintro _ wf ⟨rfl, hwf⟩; have hwf2 := hwf.symm; clear hwf; subst hwf2)
  exact ⟨rfl, rfl, rfl⟩
set_option maxRecDepth 20000 in
set_option maxHeartbeats 2000000 in
theorem numE_c (r : Nat) (a : Option Addr) (c : Nat) (w : World) (h : w.heap[r]? = some (.cells #[.slice a 0 c] 134 (0, 0))) :
    Calls Try.prog 51 #[.pointer (some ⟨r, 0, none⟩), .int .i64 1] w fun e w' => e = PN ∧ w' = w := by
  have PC := hid (pieceE_c r a c w h)
  clear h
  go_enter Try.func51, Try.ntmps51
  go_wp2_with (go_at_call 94; refine PC.out.mono ?_; rintro _ wf ⟨rfl, hwf⟩; have hwf2 := hwf.symm; clear hwf; subst hwf2)
  exact ⟨rfl, rfl, rfl⟩
set_option maxHeartbeats 2000000 in
theorem takeListE_c (r : Nat) (a : Option Addr) (c : Nat) (w : World) (h : w.heap[r]? = some (.cells #[.slice a 0 c] 134 (0, 0))) :
    Calls Try.prog 59 #[.pointer (some ⟨r, 0, none⟩), .int .i64 24, .func (.func 60) #[] #[]] w fun e w' => e = PN ∧ w' = w := by
  have PC := hid (numE_c r a c w h)
  clear h
  go_enter Try.func59, Try.ntmps59
  go_wp2_with (go_at_call 51; refine PC.out.mono ?_; rintro _ wf ⟨rfl, hwf⟩; have hwf2 := hwf.symm; clear hwf; subst hwf2)
  exact ⟨rfl, rfl, rfl⟩
set_option maxHeartbeats 2000000 in
theorem takeRecordsE_c (r : Nat) (a : Option Addr) (c : Nat) (w : World) (h : w.heap[r]? = some (.cells #[.slice a 0 c] 134 (0, 0))) :
    Calls Try.prog 27 #[.pointer (some ⟨r, 0, none⟩)] w fun e w' => e = PN ∧ w' = w := by
  have PC := hid (takeListE_c r a c w h)
  clear h
  go_enter Try.func27, Try.ntmps27
  go_wp2_with (go_at_call 59; refine PC.out.mono ?_; rintro _ wf ⟨rfl, hwf⟩; have hwf2 := hwf.symm; clear hwf; subst hwf2)
  exact ⟨rfl, rfl, rfl⟩
set_option maxHeartbeats 2000000 in
theorem takeAllE_c (a : Option Addr) (c : Nat) (w : World) :
    Calls Try.prog 58 #[.slice a 0 c, .func (.func 27) #[] #[]] w fun e w' => e = PN ∧ Below w.heap.size w w' := by
  have B1 := hid (below_1 w (.cells #[.slice a 0 c] 134))
  have TC := hid (takeRecordsE_c w.heap.size a c _ (heap_alloc_new w (.cells #[.slice a 0 c] 134)))
  go_enter Try.func58, Try.ntmps58
  go_wp2_with (go_at_call 27; refine TC.out.mono ?_; rintro _ wf ⟨rfl, hwf⟩; have hwf2 := hwf.symm; clear hwf; subst hwf2)
  exact ⟨rfl, rfl, B1.out⟩
set_option maxRecDepth 20000 in
set_option maxHeartbeats 2000000 in
theorem readE1_c (a : Option Addr) (c : Nat) (w : World) :
    Calls Try.prog 26 #[.slice a 0 c, .func (.func 27) #[] #[]] w (ReadsL w none) := by
  have hmf : ∀ (fn : Fn) (first cap : Array Value) (w : World), (Instr.makeFunc fn first cap).run Try.prog w = .ok (.func fn first cap) w := fun _ _ _ _ => rfl
  have B1 := hid (below_1 w (.cells #[.int .i64 0] 30))
  have HE1 := hid (heap_alloc_new w (.cells #[.int .i64 0] 30))
  have TC := hid (takeAllE_c a c (w.alloc (.cells #[.int .i64 0] 30)))
  go_enter_defers Try.func26, Try.ntmps26
  go_wp2_with (go_at_call 58; refine TC.out.mono ?_; rintro _ w2 ⟨rfl, hb2⟩
               have hE2 := (hb2.block _ (lt_blkR HE1.out)).trans HE1.out
               have fe : w2.frozen? ⟨w.heap.size, 0, none⟩ = false := by simp [World.frozen?, hE2]
               have ce : w2.cell? ⟨w.heap.size, 0, none⟩ = some (.int .i64 0) := by rw [cell_of_row _ _ _ _ _ _ hE2]; rfl)
  refine leaves_cons (f := 57) (args := #[.pointer (some ⟨w.heap.size, 0, none⟩)]) (by simp) (by simp [go_sem]) ?_
  refine (catchR_panicking ⟨w.heap.size, 0, none⟩ 0 [] w2 ce fe (lt_blkR hE2)).mono ?_
  have b3 := below_1 w2 (.cells #[.int .i64 3] 93)
  have hE3 := heap_setBox (W := w2.alloc (.cells #[.int .i64 3] 93)) (.int .i64 3) ((b3.block _ (lt_blkR hE2)).trans hE2)
  have rE := cell_box hE3
  have B3 := hid (((B1.out.trans (hb2.mono B1.out.size)).trans (b3.mono (Nat.le_trans B1.out.size hb2.size))).setCell (p := ⟨w.heap.size, 0, none⟩) (by simp) (.int .i64 3))
  rintro e u' w'' ⟨rfl, rfl, hw⟩
  rw [hw]
  generalize (w2.alloc (.cells #[.int .i64 3] 93)).setCell ⟨w.heap.size, 0, none⟩ (.int .i64 3) = w4 at *
  simp [Leaves, settle, results, Try.results26, go_sem, ReadsL, rE]
  exact B3.out
set_option maxHeartbeats 1000000 in
theorem readRecordsE_c (a : Option Addr) (c : Nat) (w : World) : Calls Try.prog 9 #[.slice a 0 c] w (ReadsL w none) := by
  have RC := hid (readE1_c a c w)
  unfold ReadsL at RC
  go_enter Try.func9, Try.ntmps9
  go_wp2_with (go_at_call 26; refine RC.out.mono ?_; rintro _ w1 ⟨hb, rfl⟩)
  refine bodyPost_ret (v := .tuple #[.slice none 0 0, .int .i64 3]) (by simp [results, Try.results9, go_sem]) rfl ?_
  exact ⟨hb, rfl⟩
theorem readAny_c (a : Option Addr) (n c : Nat) (zs : List Int) (w : World) (h : IsB w a n zs) (hc : n ≤ c) :
    Calls Try.prog 9 #[.slice a n c] w (ReadsL w (recsAll zs)) := by
  by_cases q : 0 < n
  · obtain ⟨b, off, rfl, hcl⟩ := h.2.2.1 q
    refine readRecords_c _ n c zs w h hc (.inr ⟨b, off, rfl, ?_⟩)
    have := hcl 0 q
    exact Nat.lt_of_not_le fun hge => by simp [World.cell?, Array.getElem?_eq_none hge] at this
  · have e : n = 0 := by omega
    subst e
    have e2 : zs = [] := List.eq_nil_of_length_eq_zero h.1
    rw [e2]
    exact readRecordsE_c a c w
end Go.Proofs.Ytbgninmkglgfeaa
namespace Go.Proofs.Ytbgninmkglgfeaa
open Go.RowKit Go.ChangeShapes Go.WideShapes Go.ChangeAt Go.Maps Go.Shelf
set_option linter.unusedVariables false
set_option linter.unusedSimpArgs false
theorem noneZ (ns : List Nd) (ss : List St) : ¬ GoodZ [] ns ss := fun h => by
  have := h.1
  simp [snapP, measuresP, numP] at this
set_option maxHeartbeats 2000000 in
theorem takeListME_c (r : Nat) (a : Option Addr) (c : Nat) (w : World) (h : w.heap[r]? = some (.cells #[.slice a 0 c] 134 (0, 0))) :
    Calls Try.prog 85 #[.pointer (some ⟨r, 0, none⟩), .int .i64 40, .func (.func 86) #[] #[]] w fun e w' => e = PN ∧ w' = w := by
  have PC := hid (numE_c r a c w h)
  clear h
  go_enter Try.func85, Try.ntmps85
  go_wp2_with (go_at_call 51; refine PC.out.mono ?_; rintro _ wf ⟨rfl, hwf⟩; have hwf2 := hwf.symm; clear hwf; subst hwf2)
  exact ⟨rfl, rfl, rfl⟩
set_option maxHeartbeats 2000000 in
theorem takeSnapshotE_c (r : Nat) (a : Option Addr) (c : Nat) (w : World) (h : w.heap[r]? = some (.cells #[.slice a 0 c] 134 (0, 0))) :
    Calls Try.prog 43 #[.pointer (some ⟨r, 0, none⟩)] w fun e w' => e = PN ∧ Below w.heap.size w w' := by
  have B1 := hid (below_1 w (.cells #[.slice none 0 0, .slice none 0 0] 49))
  have PC := hid (takeListME_c r a c _ ((B1.out.block _ (lt_blkR h)).trans h))
  clear h
  go_enter Try.func43, Try.ntmps43
  go_wp2_with (go_at_call 85; refine PC.out.mono ?_; rintro _ wf ⟨rfl, hwf⟩; have hwf2 := hwf.symm; clear hwf; subst hwf2)
  exact ⟨rfl, rfl, B1.out⟩
set_option maxHeartbeats 2000000 in
theorem takeAllZE_c (a : Option Addr) (c : Nat) (w : World) :
    Calls Try.prog 84 #[.slice a 0 c, .func (.func 43) #[] #[]] w fun e w' => e = PN ∧ Below w.heap.size w w' := by
  have b0 := below_1 w (.cells #[.slice none 0 0, .slice none 0 0] 49)
  have b1 := below_1 (w.alloc (.cells #[.slice none 0 0, .slice none 0 0] 49)) (.cells #[.slice a 0 c] 134)
  have h1 := heap_alloc_new (w.alloc (.cells #[.slice none 0 0, .slice none 0 0] 49)) (.cells #[.slice a 0 c] 134)
  rw [show (w.alloc (.cells #[.slice none 0 0, .slice none 0 0] 49)).heap.size = w.heap.size + 1 by simp] at h1
  have B1 := hid (b0.trans (b1.mono b0.size))
  have TC := hid (takeSnapshotE_c (w.heap.size + 1) a c _ h1)
  clear b0 b1 h1
  go_enter Try.func84, Try.ntmps84
  go_wp2_with (go_at_call 43; refine TC.out.mono ?_; rintro _ wf ⟨rfl, hwf⟩)
  exact ⟨rfl, rfl, B1.out.trans (hwf.mono B1.out.size)⟩
set_option maxRecDepth 20000 in
set_option maxHeartbeats 2000000 in
theorem readZE1_c (a : Option Addr) (c : Nat) (w : World) :
    Calls Try.prog 42 #[.slice a 0 c, .func (.func 43) #[] #[]] w fun e w' => e = .returned (.tuple #[snNo, .int .i64 3]) ∧ Below w.heap.size w w' := by
  have hmf : ∀ (fn : Fn) (first cap : Array Value) (w : World), (Instr.makeFunc fn first cap).run Try.prog w = .ok (.func fn first cap) w := fun _ _ _ _ => rfl
  have b0 := below_1 w (.cells #[.slice none 0 0, .slice none 0 0] 49)
  have hB0 := heap_alloc_new w (.cells #[.slice none 0 0, .slice none 0 0] 49)
  have s0 : (w.alloc (.cells #[.slice none 0 0, .slice none 0 0] 49)).heap.size = w.heap.size + 1 := by simp
  have b1 := below_1 (w.alloc (.cells #[.slice none 0 0, .slice none 0 0] 49)) (.cells #[.int .i64 0] 30)
  have hE1 := heap_alloc_new (w.alloc (.cells #[.slice none 0 0, .slice none 0 0] 49)) (.cells #[.int .i64 0] 30)
  rw [s0] at hE1
  have hB1 := (b1.block _ (lt_blkR hB0)).trans hB0
  have B1 := hid (b0.trans (b1.mono b0.size))
  have TC2 := hid (takeAllZE_c a c ((w.alloc (.cells #[.slice none 0 0, .slice none 0 0] 49)).alloc (.cells #[.int .i64 0] 30)))
  have HB1 := hid hB1
  have HE1 := hid hE1
  clear b0 b1 hB0 hB1 hE1 s0
  go_enter_defers Try.func42, Try.ntmps42
  go_wp2_with (go_at_call 84; refine TC2.out.mono ?_; rintro _ w2 ⟨rfl, hb2⟩
               have hB2 := (hb2.block _ (lt_blkR HB1.out)).trans HB1.out
               have hE2 := (hb2.block _ (lt_blkR HE1.out)).trans HE1.out
               obtain ⟨q0, q1⟩ := sn_cells hB2
               have fz : ∀ i, w2.frozen? ⟨w.heap.size, i, none⟩ = false := fun i => by simp [World.frozen?, hB2]
               have fe : w2.frozen? ⟨w.heap.size + 1, 0, none⟩ = false := by simp [World.frozen?, hE2]
               have ce : w2.cell? ⟨w.heap.size + 1, 0, none⟩ = some (.int .i64 0) := by rw [cell_of_row _ _ _ _ _ _ hE2]; rfl)
  refine leaves_cons (f := 83) (args := #[.pointer (some ⟨w.heap.size + 1, 0, none⟩)]) (by simp) (by simp [go_sem]) ?_
  refine (catchZ_panicking ⟨w.heap.size + 1, 0, none⟩ 0 [] w2 ce fe (lt_blkR hE2)).mono ?_
  have b3 := below_1 w2 (.cells #[.int .i64 3] 93)
  have hB3 : ((w2.alloc (.cells #[.int .i64 3] 93)).setCell ⟨w.heap.size + 1, 0, none⟩ (.int .i64 3)).heap[w.heap.size]? = some (.cells #[.slice none 0 0, .slice none 0 0] 49 (0, 0)) := by
    rw [heap_setCell_other _ _ _ _ (by simp)]; exact (b3.block _ (lt_blkR hB2)).trans hB2
  have hE3 := heap_setBox (W := w2.alloc (.cells #[.int .i64 3] 93)) (.int .i64 3) ((b3.block _ (lt_blkR hE2)).trans hE2)
  obtain ⟨r0, r1⟩ := sn_cells hB3
  have rE := cell_box hE3
  have BB2 := B1.out.trans (hb2.mono B1.out.size)
  have B3 := hid ((BB2.trans (b3.mono BB2.size)).setCell (p := ⟨w.heap.size + 1, 0, none⟩) (by simp) (.int .i64 3))
  rintro e u' w'' ⟨rfl, rfl, hw⟩
  rw [hw]
  clear BB2
  generalize (w2.alloc (.cells #[.int .i64 3] 93)).setCell ⟨w.heap.size + 1, 0, none⟩ (.int .i64 3) = w4 at *
  simp [Leaves, settle, results, Try.results42, go_sem, r0, r1, rE]
  exact ⟨rfl, B3.out⟩
set_option maxRecDepth 20000 in
set_option maxHeartbeats 2000000 in
theorem readSnapshotE_c (a : Option Addr) (c : Nat) (w : World) :
    Calls Try.prog 19 #[.slice a 0 c] w (ReadsZ w []) := by
  have b0 := below_1 w (.cells #[.slice none 0 0, .slice none 0 0] 49)
  have HB0 := hid (heap_alloc_new w (.cells #[.slice none 0 0, .slice none 0 0] 49))
  have RC := hid (readZE1_c a c (w.alloc (.cells #[.slice none 0 0, .slice none 0 0] 49)))
  have B0 := hid b0
  clear b0
  go_enter Try.func19, Try.ntmps19
  go_wp2_with (go_at_call 42; refine RC.out.mono ?_; rintro _ w1 ⟨rfl, hb1⟩
               have hB1 := (hb1.block _ (lt_blkR HB0.out)).trans HB0.out
               obtain ⟨q0, q1⟩ := sn_cells hB1
               have fz : ∀ i, w1.frozen? ⟨w.heap.size, i, none⟩ = false := fun i => by simp [World.frozen?, hB1]
               have BB1 := hid (B0.out.trans (hb1.mono B0.out.size))
               unfold snNo
               clear hb1)
  refine bodyPost_ret (v := .tuple #[snNo, .int .i64 3]) (by simp [results, Try.results19, go_sem, snNo, q0, q1]) rfl ⟨((BB1.out.setCell (p := ⟨w.heap.size, 0, none⟩) (Nat.le_refl _) _).setCell (p := ⟨w.heap.size, 1, none⟩) (Nat.le_refl _) _), .inr ⟨noneZ, rfl⟩⟩
theorem readSnapAny_c (a : Option Addr) (n c : Nat) (zs : List Int) (w : World) (h : IsB w a n zs) (hc : n ≤ c) :
    Calls Try.prog 19 #[.slice a n c] w (ReadsZ w zs) := by
  by_cases q : 0 < n
  · obtain ⟨b, off, rfl, hcl⟩ := h.2.2.1 q
    refine readSnapshot_c _ n c zs w h hc (.inr ⟨b, off, rfl, ?_⟩)
    have := hcl 0 q
    exact Nat.lt_of_not_le fun hge => by simp [World.cell?, Array.getElem?_eq_none hge] at this
  · have e : n = 0 := by omega
    subst e
    have e2 : zs = [] := List.eq_nil_of_length_eq_zero h.1
    rw [e2]
    exact readSnapshotE_c a c w
end Go.Proofs.Ytbgninmkglgfeaa
