/-
  Nodes compared: the document's SameNode, of the same contents.
-/
import Derived.Test.YtbgninmkglgfeaaRR7
import Derived.Test.YtbgninmkglgfeaaRSm
namespace Go.Proofs.Ytbgninmkglgfeaa
open Go.RowKit Go.ChangeShapes Go.WideShapes Go.ChangeAt Go.Maps Go.Shelf
set_option linter.unusedVariables false
set_option linter.unusedSimpArgs false
set_option maxRecDepth 100000
theorem kid_wide : (match Try.prog.underlying 74 with | some (.array _ _) | some (.struct _) => true | _ => false) = true := by kernel_rfl
theorem kid_guard : Try.prog.eqGuardType Try.prog.depth 74 = false := by kernel_rfl
theorem kid_key {x : Kd} (h : x.Wf) : ∃ kl, keyOf Try.prog 74 x.val = some kl := by
  obtain ⟨h1, h2, h3⟩ := h
  have w2 : (Lit.int .u32 x.fid).wf = true := by simp [Lit.wf, IntKind.min, IntKind.max, IntKind.signed, IntKind.bits]; omega
  have : (keyOf Try.prog 74 x.val).isSome = true := by
    have hkt : Try.prog.keyType 74 = true := by kernel_rfl
    have hc : Try.prog.cellsOf 74 = 2 := by kernel_rfl
    have hc2 : Try.prog.cellsOf 26 = 1 := by kernel_rfl
    have hc4 : Try.prog.cellsOf 9 = 1 := by kernel_rfl
    have hs : decide (2 ≤ Try.prog.types.size) = true := by kernel_rfl
    obtain ⟨d, hd⟩ : ∃ d, Try.prog.types.size = d + 2 := ⟨Try.prog.types.size - 2, by have := of_decide_eq_true hs; omega⟩
    unfold Kd.val keyOf
    rw [Try.underlying74, hd]
    simp [hkt, Value.formed, Try.underlying74, Try.underlying9, hc, hc4, Value.cells, Program.keyLits, Try.underlying26, hc2, w2, h1]
  exact Option.isSome_iff_exists.1 this
theorem kid_equal (w : World) {x : Kd} (hx : x.Wf) : (Op.equalIn 10000 74 x.val x.val).run Try.prog w = .ok true w := by
  obtain ⟨lx, ex⟩ := kid_key hx
  obtain ⟨r, hr, hiff⟩ := run_equal_deep (P := Try.prog) w (m := 3) (by omega) (k := 74) (by kernel_rfl) kid_wide ex ex
  rw [hiff.2 rfl] at hr
  exact hr
set_option maxHeartbeats 4000000 in
theorem sameNode_c (x : Nd) (da : Option Addr) (dc : Nat) (ka : Option Addr) (kc : Nat) (db : Option Addr) (dd : Nat) (kb : Option Addr) (kd : Nat) (w : World) (hx : (x.lie da dc ka kc).Ok w) (hy : (x.lie db dd kb kd).Ok w) (hm : x.ks.length ≤ 100000) :
    Calls Try.prog 15 #[(x.lie da dc ka kc).val, (x.lie db dd kb kd).val] w fun e w' => e = .returned (.bool true) ∧ Below w.heap.size w w' := by
  have b0 := below_1 w (.cells (x.lie da dc ka kc).cells.toArray 39)
  have h0 := heap_alloc_new w (.cells (x.lie da dc ka kc).cells.toArray 39)
  have b1 := below_1 (w.alloc (.cells (x.lie da dc ka kc).cells.toArray 39)) (.cells (x.lie db dd kb kd).cells.toArray 39)
  have h1 := heap_alloc_new (w.alloc (.cells (x.lie da dc ka kc).cells.toArray 39)) (.cells (x.lie db dd kb kd).cells.toArray 39)
  rw [show (w.alloc (.cells (x.lie da dc ka kc).cells.toArray 39)).heap.size = w.heap.size + 1 by simp] at h1
  have h0' := (b1.block _ (lt_blkR h0)).trans h0
  have bV := b0.trans (b1.mono b0.size)
  have hxV := hx.later bV
  have hyV := hy.later bV
  have cx := conv_anyN (pc := dc) hxV.2.2.2.2.1
  have cy := conv_anyN (pc := dd) hyV.2.2.2.2.1
  obtain ⟨y0, y1, y2, y3, y4, y5⟩ := nd_cells h0'
  obtain ⟨x0, x1, x2, x3, x4, x5⟩ := nd_cells h1
  have hg := kid_guard
  have KX := hid hxV.2.2.2.2.2
  have KY := hid hyV.2.2.2.2.2
  have BV := hid bV
  have H0 := hid h0'
  have H1 := hid h1
  clear hx hy b0 b1 h0 h1 h0' bV hxV hyV
  simp only [Nd.lie, Nd.val, Nd.cells] at *
  obtain ⟨fid, k, md, ln, da0, dc0, zs, ka0, kc0, ks⟩ := x
  dsimp only at *
  go_enter Try.func15, Try.ntmps15
  go_upto_region 1 with fail
  change Code.wp _ _ _ _ ((w.alloc (.cells #[.int .u32 fid, .int .u8 k, .int .u16 md, .int .u16 ln, .slice da zs.length dc, .slice ka ks.length kc] 39)).alloc (.cells #[.int .u32 fid, .int .u8 k, .int .u16 md, .int .u16 ln, .slice db zs.length dd, .slice kb ks.length kd] 39))
  generalize ((w.alloc (.cells #[.int .u32 fid, .int .u8 k, .int .u16 md, .int .u16 ln, .slice da zs.length dc, .slice ka ks.length kc] 39)).alloc (.cells #[.int .u32 fid, .int .u8 k, .int .u16 md, .int .u16 ln, .slice db zs.length dd, .slice kb ks.length kd] 39)) = V at *
  go_wp2
  go_loopg [5] ks.length (fun gk i wr => ∃ m : Nat, m + gk = ks.length ∧ i = .int .i64 m ∧ Hid (Below V.heap.size V wr))
  case atStart => exact ⟨0, by omega, rfl, hid (Below.refl _ _)⟩
  case round =>
    obtain ⟨m, hm2, rfl, HB⟩ := hrel
    have z5 := (nd_cells (x := ⟨fid, k, md, ln, da, dc, zs, ka, kc, ks⟩) ((HB.out.block _ (lt_blkR H0.out)).trans H0.out)).2.2.2.2.2
    have z6 := (nd_cells (x := ⟨fid, k, md, ln, db, dd, zs, kb, kd, ks⟩) ((HB.out.block _ (lt_blkR H1.out)).trans H1.out)).2.2.2.2.2
    dsimp only at z5 z6
    clear y0 y1 y2 y3 y4 y5 x0 x1 x2 x3 x4 x5 cx cy
    by_cases hlt : m < ks.length
    · have hltI : (m : Int) < ks.length := by omega
      have hx1 := KX.out.later HB.out
      have hy1 := KY.out.later HB.out
      obtain ⟨b1, o1, rfl, _⟩ := hx1.2.2 (by omega)
      obtain ⟨b2, o2, rfl, _⟩ := hy1.2.2 (by omega)
      obtain ⟨p0, p1⟩ := hx1.at (i := m) hlt
      obtain ⟨q0, q1⟩ := hy1.at (i := m) hlt
      have hq := fun W => kid_equal W (hx1.wf (i := m) hlt)
      clear hx1 hy1
      generalize ks.getD m Kd.no = y at *
      unfold Kd.val at hq
      go_wp2
      go_region
      go_wp2
      go_roundg (gk - 1)
      case measure => omega
      case rel => exact ⟨m + 1, by omega, by go_num, hid (Below.drew HB.out)⟩
    · have hge : ¬ (m : Int) < ks.length := by omega
      go_wp2
      go_ret
      exact ⟨rfl, BV.out.trans (HB.out.mono BV.out.size)⟩
end Go.Proofs.Ytbgninmkglgfeaa
