/-
  Operations compared; bytes that were made here; live of the law on record.
-/
import Derived.Test.YtbgninmkglgfeaaRRw
import Derived.Deep.QuietTactic
import Derived.Maps.OwnOps
import Derived.Maps.Views
import Derived.DeepKeys4
namespace Go.Proofs.Ytbgninmkglgfeaa
open Go.RowKit Go.ChangeShapes Go.WideShapes Go.ChangeAt Go.Maps Go.Shelf
set_option linter.unusedVariables false
set_option linter.unusedSimpArgs false
set_option maxRecDepth 100000
theorem ops_wide : (match Try.prog.underlying 29 with | some (.array _ _) | some (.struct _) => true | _ => false) = true := by kernel_rfl
theorem ops_guard : Try.prog.eqGuardType Try.prog.depth 29 = false := by kernel_rfl
theorem ops_law : WideMaps.KeyLaw Try.prog 29 := deep_law_laid (by kernel_rfl) (m := 3) (by omega) (of_decide_eq_true (by kernel_rfl)) (by kernel_rfl) ops_wide
theorem ops_key {x : Rec} (h : x.Wf) : ∃ kl, keyOf Try.prog 29 x.opV = some kl := by
  obtain ⟨h1, h2, h3, h4, h5, h6, h7, h8, h9⟩ := h
  have w1 : (Lit.int .u8 x.k).wf = true := by simp [Lit.wf, IntKind.min, IntKind.max, IntKind.signed, IntKind.bits]; omega
  have w2 : (Lit.int .u32 x.fid).wf = true := by simp [Lit.wf, IntKind.min, IntKind.max, IntKind.signed, IntKind.bits]; omega
  have w3 : (Lit.int .u32 x.dir).wf = true := by simp [Lit.wf, IntKind.min, IntKind.max, IntKind.signed, IntKind.bits]; omega
  have w4 : (Lit.int .u32 x.to).wf = true := by simp [Lit.wf, IntKind.min, IntKind.max, IntKind.signed, IntKind.bits]; omega
  have w5 : (Lit.int .u16 x.md).wf = true := by simp [Lit.wf, IntKind.min, IntKind.max, IntKind.signed, IntKind.bits]; omega
  have : (keyOf Try.prog 29 x.opV).isSome = true := by
    have hkt : Try.prog.keyType 29 = true := by kernel_rfl
    have hc0 : Try.prog.cellsOf 29 = 8 := by kernel_rfl
    have hc1 : Try.prog.cellsOf 24 = 1 := by kernel_rfl
    have hc2 : Try.prog.cellsOf 26 = 1 := by kernel_rfl
    have hc3 : Try.prog.cellsOf 27 = 1 := by kernel_rfl
    have hc4 : Try.prog.cellsOf 9 = 1 := by kernel_rfl
    have hs : decide (1 ≤ Try.prog.types.size) = true := by kernel_rfl
    obtain ⟨d, hd⟩ : ∃ d, Try.prog.types.size = d + 1 := ⟨Try.prog.types.size - 1, by have := of_decide_eq_true hs; omega⟩
    unfold Rec.opV keyOf
    rw [Try.underlying29, hd]
    simp [hkt, Value.formed, Try.underlying29, Try.underlying27, Try.underlying9, hc0, hc3, hc4, Value.cells, Program.keyLits, Try.underlying24, Try.underlying26, hc1, hc2, w1, w2, w3, w4, w5, h7, h8, h9]
    try rw [if_pos (by decide)]
    try rfl
  exact Option.isSome_iff_exists.1 this
/-- Two operations compared. -/
theorem ops_equal {x y : Rec} (hx : x.Wf) (hy : y.Wf) : ∃ r : Bool, (r = true ↔ x.opV = y.opV) ∧ ∀ w : World, (Op.equalIn 10000 29 x.opV y.opV).run Try.prog w = .ok r w := by
  obtain ⟨lx, ex⟩ := ops_key hx
  obtain ⟨ly, ey⟩ := ops_key hy
  classical
  refine ⟨decide (x.opV = y.opV), by simp, fun w => ?_⟩
  obtain ⟨r, hr, hiff⟩ := run_equal_deep (P := Try.prog) w (m := 3) (by omega) (k := 29) (by kernel_rfl) ops_wide ex ey
  have : r = decide (x.opV = y.opV) := by
    by_cases q : x.opV = y.opV
    · rw [q, ey] at ex
      cases ex
      simp [hiff, q]
    · simp only [q, decide_false]
      cases r with
      | false => rfl
      | true => exact absurd (ops_law.inj ex (by rw [hiff.1 rfl]; exact ey)) q
  rw [this] at hr
  exact hr
theorem isB_ownR {w : World} {base : Nat} {v : Value} {zs : List Int} (h : w.ownsRow base 5 1 v zs.length (zs.map u8V)) (hz : ∀ y ∈ zs, 0 ≤ y ∧ y ≤ 255) : ∃ a cap, v = .slice a zs.length cap ∧ IsB w a zs.length zs ∧ zs.length ≤ cap ∧ Lies w a cap := by
  have hz2 : ∀ i, 0 ≤ zs.getD i 0 ∧ zs.getD i 0 ≤ 255 := fun i => by
    by_cases hi : i < zs.length
    · rw [List.getD, List.getElem?_eq_getElem hi]; exact hz _ (List.getElem_mem _)
    · simp [List.getD, List.getElem?_eq_none (by omega : zs.length ≤ i)]
  rcases h.2 with ⟨rfl, hn⟩ | ⟨g, cap, cur, rfl, hb, hg, hn, hc, hs, ht⟩
  · exact ⟨none, 0, by rw [hn], ⟨rfl, by omega, fun hp => absurd hp (by omega), hz2⟩, by omega, .inl ⟨rfl, rfl⟩⟩
  · refine ⟨some ⟨g, 0, none⟩, cap, rfl, ⟨rfl, by omega, fun hp => ⟨g, 0, rfl, fun i hi => ?_⟩, hz2⟩, hn, .inr ⟨g, 0, rfl, lt_blkR hg⟩⟩
    rw [Nat.zero_add, cell_of_row w g i cur _ _ hg]
    have : (zs.map u8V)[i]? = some (.int .u8 (zs.getD i 0)) := by simp [List.getD, hi, u8V]
    rw [← ht, List.getElem?_take, if_pos (by omega)] at this
    simpa using this
theorem beF_in (n : Int) : ∀ s, ∀ y ∈ beF n s, 0 ≤ y ∧ y ≤ 255
  | 0, y, hy => by simp [beF] at hy
  | s + 1, y, hy => by
    rw [beF, List.mem_cons] at hy
    rcases hy with rfl | hy
    · omega
    · exact beF_in n s y hy
theorem bs_in (s : ByteArray) : ∀ y ∈ Fr.bs s, 0 ≤ y ∧ y ≤ 255 := fun y hy => by
  unfold Fr.bs at hy
  obtain ⟨b, _, rfl⟩ := List.mem_map.1 hy
  have := b.toNat_lt
  constructor <;> omega
theorem txF_in (s : ByteArray) : ∀ y ∈ txF s, 0 ≤ y ∧ y ≤ 255 := fun y hy => by
  unfold txF at hy
  rcases List.mem_append.1 hy with h | h
  · exact beF_in _ _ y h
  · exact bs_in s y h
theorem opB_in (x : Rec) : ∀ y ∈ opB x, 0 ≤ y ∧ y ≤ 255 := fun y hy => by
  unfold opB at hy
  simp only [List.mem_append] at hy
  rcases hy with ((((((h | h) | h) | h) | h) | h) | h) | h
  · exact beF_in _ _ y h
  · exact beF_in _ _ y h
  · exact beF_in _ _ y h
  · exact txF_in _ y h
  · exact beF_in _ _ y h
  · exact txF_in _ y h
  · exact beF_in _ _ y h
  · exact txF_in _ y h
theorem recsA_in (l : List Rec) : ∀ y ∈ recsA l, 0 ≤ y ∧ y ≤ 255 := fun y hy => by
  unfold recsA at hy
  rcases List.mem_append.1 hy with h | h
  · exact beF_in _ _ y h
  · unfold recsB at h
    obtain ⟨x, _, h⟩ := List.mem_flatMap.1 h
    unfold recB at h
    rcases List.mem_append.1 h with h | h
    · exact beF_in _ _ y h
    · exact opB_in x y h
end Go.Proofs.Ytbgninmkglgfeaa
