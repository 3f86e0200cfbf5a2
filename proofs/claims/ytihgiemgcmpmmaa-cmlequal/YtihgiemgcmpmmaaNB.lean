/-
  Operations, entries and nodes in memory; the document's RightOp, Alone; the program's RightOp. (Written by nodebase.py out of the record's texts.)
-/
import Derived.Test.YtihgiemgcmpmmaaCalls
import Derived.Test.YtihgiemgcmpmmaaCOpsL
import Derived.Test.YtihgiemgcmpmmaaCList
import Derived.Test.YtihgiemgcmpmmaaPName
import Derived.Test.YtihgiemgcmpmmaaFCalls
import Derived.Test.YtihgiemgcmpmmaaFMp
import Derived.ChangeArms
import Derived.ChangeOld
import Derived.Below
import Derived.Deep.CutRange
import Derived.Laws.AppendOwnNone
import Derived.Deep.RegionLaw
import Derived.Deep.LoopGhost
import Derived.Laws.BitsLemmas
import Derived.Shelf.Abstract
import Derived.Defers
import Derived.Recover
import Derived.Laws.Pointers
import Derived.Deep.QuietTactic
import Derived.Maps.OwnOps
import Derived.Maps.Views
import Derived.DeepKeys4
import Derived.RegionTactic
import Derived.ChangeAlike
import Derived.BigRegion
import Derived.BigQuiet
import Derived.Laws.IdiomStrings
namespace Go.Proofs.Ytihgiemgcmpmmaa
open Go.RowKit Go.ChangeShapes Go.WideShapes Go.ChangeAt Go.Maps Go.Shelf
set_option linter.unusedVariables false
set_option linter.unusedSimpArgs false
set_option maxRecDepth 100000
/-- The parts that a kind names. -/
def pFid (k : Int) : Bool := k == 1 || k == 2 || k == 3 || k == 4 || k == 8 || k == 9
def pEnt (k : Int) : Bool := k == 1 || k == 2 || k == 3 || k == 4 || k == 5 || k == 6 || k == 7
def pGoal (k : Int) : Bool := k == 7
def pMode (k : Int) : Bool := k == 1 || k == 2 || k == 3 || k == 9
def pData (k : Int) : Bool := k == 3 || k == 8
def pOk (k : Int) : Bool := k == 1 || k == 2 || k == 3 || k == 4 || k == 5 || k == 6 || k == 7 || k == 8 || k == 9
def mkF (k : Int) : Bool := k == 1 || k == 2 || k == 3
def partsV (k : Int) : Value := .agg #[.bool (pFid k), .bool (pEnt k), .bool (pGoal k), .bool (pMode k), .bool (pData k)]
def entF (named : Bool) (f : Int) (s : ByteArray) : Bool := if named then f != 0 && Pa.nameB s.data.toList else f == 0 && s.toList == []
def datF (named : Bool) (s : ByteArray) : Bool := if named then decide (s.size ≤ 64) else s.toList == []
def rightF (x : Rec) : Bool := !(!pOk x.k || (pFid x.k != (x.fid != 0)) || (mkF x.k && x.fid == 1)) && (entF (pEnt x.k) x.dir x.nm && entF (pGoal x.k) x.to x.nm2 && (pMode x.k || x.md == 0) && datF (pData x.k) x.dt)
theorem op_all {w : World} {g : Nat} {x : Rec} {t : TypeId} {fr : Nat × Nat} (h : w.heap[g]? = some (.cells x.ops.toArray t fr)) : w.cell? ⟨g, 0, none⟩ = some (.int .u8 x.k) ∧ w.cell? ⟨g, 1, none⟩ = some (.int .u32 x.fid) ∧ w.cell? ⟨g, 2, none⟩ = some (.int .u32 x.dir) ∧ w.cell? ⟨g, 3, none⟩ = some (.string x.nm) ∧ w.cell? ⟨g, 4, none⟩ = some (.int .u32 x.to) ∧ w.cell? ⟨g, 5, none⟩ = some (.string x.nm2) ∧ w.cell? ⟨g, 6, none⟩ = some (.int .u16 x.md) ∧ w.cell? ⟨g, 7, none⟩ = some (.string x.dt) := by
  refine ⟨?_, ?_, ?_, ?_, ?_, ?_, ?_, ?_⟩ <;> (rw [cell_of_row w g _ _ t fr h]; rfl)
theorem below_1 (w : World) (o : Obj) : Below w.heap.size w (w.alloc o) := (Below.refl _ _).alloc (Nat.le_refl _) _
/-- All but block r is as it was. -/
structure Kr (r : Nat) (w w' : World) : Prop where
  os : w'.os = w.os
  tape : w'.tape = w.tape
  output : w'.output = w.output
  size : w.heap.size ≤ w'.heap.size
  block : ∀ k, k < w.heap.size → k ≠ r → w'.heap[k]? = w.heap[k]?
theorem Kr.refl (r : Nat) (w : World) : Kr r w w := ⟨rfl, rfl, rfl, Nat.le_refl _, fun _ _ _ => rfl⟩
theorem Kr.trans {r : Nat} {a b c : World} (h : Kr r a b) (k : Kr r b c) : Kr r a c :=
  ⟨k.os.trans h.os, k.tape.trans h.tape, k.output.trans h.output, Nat.le_trans h.size k.size, fun i hi hne => (k.block i (Nat.lt_of_lt_of_le hi h.size) hne).trans (h.block i hi hne)⟩
theorem Kr.of {r : Nat} {w w' : World} (h : Below w.heap.size w w') : Kr r w w' := ⟨h.os, h.tape, h.output, h.size, fun k hk _ => h.block k hk⟩
theorem Kr.below {r B : Nat} {a b : World} (h : Kr r a b) (h1 : B ≤ a.heap.size) (h2 : B ≤ r) : Below B a b := ⟨h.os, h.tape, h.output, h.size, fun k hk => h.block k (by omega) (by omega)⟩
/-- Where the bytes of a call lie. -/
def Lies (w : World) (a : Option Addr) (c : Nat) : Prop := a = none ∧ c = 0 ∨ ∃ b off, a = some ⟨b, off, none⟩ ∧ b < w.heap.size
theorem ops_wide : (match Try.prog.underlying 46 with | some (.array _ _) | some (.struct _) => true | _ => false) = true := by kernel_rfl
theorem ops_guard : Try.prog.eqGuardType Try.prog.depth 46 = false := by kernel_rfl
theorem ops_law : WideMaps.KeyLaw Try.prog 46 := deep_law_laid (by kernel_rfl) (m := 3) (by omega) (of_decide_eq_true (by kernel_rfl)) (by kernel_rfl) ops_wide
theorem ops_key {x : Rec} (h : x.Wf) : ∃ kl, keyOf Try.prog 46 x.opV = some kl := by
  obtain ⟨h1, h2, h3, h4, h5, h6, h7, h8, h9⟩ := h
  have w1 : (Lit.int .u8 x.k).wf = true := by simp [Lit.wf, IntKind.min, IntKind.max, IntKind.signed, IntKind.bits]; omega
  have w2 : (Lit.int .u32 x.fid).wf = true := by simp [Lit.wf, IntKind.min, IntKind.max, IntKind.signed, IntKind.bits]; omega
  have w3 : (Lit.int .u32 x.dir).wf = true := by simp [Lit.wf, IntKind.min, IntKind.max, IntKind.signed, IntKind.bits]; omega
  have w4 : (Lit.int .u32 x.to).wf = true := by simp [Lit.wf, IntKind.min, IntKind.max, IntKind.signed, IntKind.bits]; omega
  have w5 : (Lit.int .u16 x.md).wf = true := by simp [Lit.wf, IntKind.min, IntKind.max, IntKind.signed, IntKind.bits]; omega
  have : (keyOf Try.prog 46 x.opV).isSome = true := by
    have hkt : Try.prog.keyType 46 = true := by kernel_rfl
    have hc0 : Try.prog.cellsOf 46 = 8 := by kernel_rfl
    have hc1 : Try.prog.cellsOf 41 = 1 := by kernel_rfl
    have hc2 : Try.prog.cellsOf 43 = 1 := by kernel_rfl
    have hc3 : Try.prog.cellsOf 44 = 1 := by kernel_rfl
    have hc4 : Try.prog.cellsOf 9 = 1 := by kernel_rfl
    have hs : decide (1 ≤ Try.prog.types.size) = true := by kernel_rfl
    obtain ⟨d, hd⟩ : ∃ d, Try.prog.types.size = d + 1 := ⟨Try.prog.types.size - 1, by have := of_decide_eq_true hs; omega⟩
    unfold Rec.opV keyOf
    rw [Try.underlying46, hd]
    simp [hkt, Value.formed, Try.underlying46, Try.underlying44, Try.underlying9, hc0, hc3, hc4, Value.cells, Program.keyLits, Try.underlying41, Try.underlying43, hc1, hc2, w1, w2, w3, w4, w5, h7, h8, h9]
    try rw [if_pos (by decide)]
    try rfl
  exact Option.isSome_iff_exists.1 this
/-- Two operations compared. -/
theorem ops_equal {x y : Rec} (hx : x.Wf) (hy : y.Wf) : ∃ r : Bool, (r = true ↔ x.opV = y.opV) ∧ ∀ w : World, (Op.equalIn 10000 46 x.opV y.opV).run Try.prog w = .ok r w := by
  obtain ⟨lx, ex⟩ := ops_key hx
  obtain ⟨ly, ey⟩ := ops_key hy
  classical
  refine ⟨decide (x.opV = y.opV), by simp, fun w => ?_⟩
  obtain ⟨r, hr, hiff⟩ := run_equal_deep (P := Try.prog) w (m := 3) (by omega) (k := 46) (by kernel_rfl) ops_wide ex ey
  have : r = decide (x.opV = y.opV) := by
    by_cases q : x.opV = y.opV
    · rw [q, ey] at ex
      cases ex
      simp [hiff, q]
    · simp only [q, decide_false]
      cases r with
      | false => rfl
      | true => exact absurd (ops_law.inj ex (by rw [hiff.1 rfl]; exact ey)) q
  rw [this] at hr
  exact hr
theorem isB_ownR {w : World} {base : Nat} {v : Value} {zs : List Int} (h : w.ownsRow base 5 1 v zs.length (zs.map u8V)) (hz : ∀ y ∈ zs, 0 ≤ y ∧ y ≤ 255) : ∃ a cap, v = .slice a zs.length cap ∧ IsB w a zs.length zs ∧ zs.length ≤ cap ∧ Lies w a cap := by
  have hz2 : ∀ i, 0 ≤ zs.getD i 0 ∧ zs.getD i 0 ≤ 255 := fun i => by
    by_cases hi : i < zs.length
    · rw [List.getD, List.getElem?_eq_getElem hi]; exact hz _ (List.getElem_mem _)
    · simp [List.getD, List.getElem?_eq_none (by omega : zs.length ≤ i)]
  rcases h.2 with ⟨rfl, hn⟩ | ⟨g, cap, cur, rfl, hb, hg, hn, hc, hs, ht⟩
  · exact ⟨none, 0, by rw [hn], ⟨rfl, by omega, fun hp => absurd hp (by omega), hz2⟩, by omega, .inl ⟨rfl, rfl⟩⟩
  · refine ⟨some ⟨g, 0, none⟩, cap, rfl, ⟨rfl, by omega, fun hp => ⟨g, 0, rfl, fun i hi => ?_⟩, hz2⟩, hn, .inr ⟨g, 0, rfl, lt_blkR hg⟩⟩
    rw [Nat.zero_add, cell_of_row w g i cur _ _ hg]
    have : (zs.map u8V)[i]? = some (.int .u8 (zs.getD i 0)) := by simp [List.getD, hi, u8V]
    rw [← ht, List.getElem?_take, if_pos (by omega)] at this
    simpa using this
/-- Bytes that the call owns, from base on. -/
def OwB (w : World) (base : Nat) (v : Value) (zs : List Int) : Prop := w.ownsRow base 5 1 v zs.length (zs.map u8V)
theorem OwB.later {w w' : World} {base : Nat} {v : Value} {zs : List Int} (h : OwB w base v zs) (hb : Below w.heap.size w w') : OwB w' base v zs := own_latR h hb
theorem u8V_one (zs : List Int) : ∀ u ∈ zs.map u8V, u.oneCell' = true := fun u hu => by
  obtain ⟨z, _, rfl⟩ := List.mem_map.1 hu
  rfl
/-- append of a whole row of bytes. -/
theorem wp_appB (w : World) {o : Oper} {a : Act} {K : Act → World → Prop} {Q : Exit → Act → World → Prop} (s x : Operand)
    (ho : o.op = .call { callee := .builtin .append, args := #[s, x], argTypes := #[59, 59] })
    (base : Nat) (v : Value) (zs : List Int) (hs : a.eval s = v) (hown : OwB w base v zs) (u : Value) (ys : List Int) (hx : a.eval x = u) (hsrc : OwB w 0 u ys) (hl : zs.length ≤ 100000) (hl2 : ys.length ≤ 100000) (hb : base ≤ w.heap.size)
    (h : ∀ v' w', OwB w' base v' (zs ++ ys) → w.grownBy w' v.ownBlock → K (a.put o.dst v') w') : o.wp Try.prog a w K Q := by
  obtain ⟨i0, hi0, hz0, hz1, hz2⟩ := info_parts8
  rcases hsrc.2 with ⟨rfl, h0⟩ | ⟨g, cap, cur, rfl, _, hg, hn, hm, hsz2, htk⟩
  · have hM : ys = [] := List.eq_nil_of_length_eq_zero h0
    subst hM
    have hrun := run_append_owned_none (P := Try.prog) (w := w) base 59 o.type 5 i0 1 Try.underlying59 hi0 v _ _ hown
    unfold Oper.wp
    simp [execOp, ho, resolve, invoke, builtin, hs, hx, hrun, Result.andThen]
    exact h v w (by simpa using hown) (World.grownBy.refl w _)
  · refine wp_append_own w s x 59 ho base 5 i0 (.int .u8 0) 1 1 Try.underlying59 hi0 hz0 hz1 hz2 (by rfl) (by decide) v zs.length _ hs hown ⟨g, 0, none⟩ ys.length cap (ys.map u8V) hx (by simp) (fun j y hj => hsrc.cells (g := g) rfl j y hj) (u8V_one ys) (by unfold maxLen; omega) (by omega) hb ?_
    intro v' w' q1 q2 _
    exact h v' w' (by unfold OwB; rw [List.map_append, List.length_append]; exact q1) q2
theorem step_appB9 (w : World) {ops : Array Oper} {o : Oper} {a : Act} {K : Act → World → Prop} {Q : Exit → Act → World → Prop} {E : Prop} (hgd : o.guard = none) (s x : Operand)
    (ho : o.op = .call { callee := .builtin .append, args := #[s, x], argTypes := #[59, 59] })
    (base : Nat) (v : Value) (zs : List Int) (hs : a.eval s = v) (hown : OwB w base v zs) (u : Value) (ys : List Int) (hx : a.eval x = u) (hsrc : OwB w 0 u ys) (hl : zs.length ≤ 100000) (hl2 : ys.length ≤ 100000) (hb : base ≤ w.heap.size)
    (h : ∀ v' w', OwB w' base v' (zs ++ ys) → w.grownBy w' v.ownBlock → K (a.put o.dst v') w') :
    if Region.wanted o (yielded ops a.tmps) = true then Oper.wp Try.prog o a w K Q else E := by
  rw [if_pos (by simp [Region.wanted, hgd])]
  exact wp_appB w s x ho base v zs hs hown u ys hx hsrc hl hl2 hb h
/-- An entry: its name, its fid. -/
structure Kd where
  nm : ByteArray
  fid : Int
def Kd.no : Kd := ⟨⟨#[]⟩, 0⟩
def Kd.cells (x : Kd) : List Value := [.string x.nm, .int .u32 x.fid]
def Kd.val (x : Kd) : Value := .agg #[.string x.nm, .int .u32 x.fid]
def Kd.Wf (x : Kd) : Prop := x.nm.size ≤ maxLen ∧ 0 ≤ x.fid ∧ x.fid < 4294967296
def KdAt (w : World) (b o : Nat) (x : Kd) : Prop := w.cell? ⟨b, o, none⟩ = some (.string x.nm) ∧ w.cell? ⟨b, o + 1, none⟩ = some (.int .u32 x.fid)
/-- Entries that lie in memory. -/
def IsKs (w : World) (a : Option Addr) (l : List Kd) : Prop :=
  l.length ≤ maxLen ∧ (∀ x ∈ l, x.Wf) ∧ (0 < l.length → ∃ b off, a = some ⟨b, off, none⟩ ∧ ∀ i, i < l.length → KdAt w b (off + i * 2) (l.getD i Kd.no))
theorem IsKs.later {w w' : World} {a : Option Addr} {l : List Kd} (h : IsKs w a l) (hb : Below w.heap.size w w') : IsKs w' a l := by
  obtain ⟨h1, h2, h3⟩ := h
  refine ⟨h1, h2, fun hp => ?_⟩
  obtain ⟨b, off, e, hc⟩ := h3 hp
  exact ⟨b, off, e, fun i hi => ⟨cell_later hb (hc i hi).1, cell_later hb (hc i hi).2⟩⟩
theorem IsKs.at {w : World} {b off : Nat} {l : List Kd} {i : Nat} (h : IsKs w (some ⟨b, off, none⟩) l) (hi : i < l.length) : KdAt w b (off + i * 2) (l.getD i Kd.no) := by
  obtain ⟨b', off', e, hc⟩ := h.2.2 (by omega)
  cases e
  exact hc i hi
theorem IsKs.wf {w : World} {a : Option Addr} {l : List Kd} (h : IsKs w a l) {i : Nat} (hi : i < l.length) : (l.getD i Kd.no).Wf := by
  rw [List.getD, List.getElem?_eq_getElem hi]
  exact h.2.1 _ (List.getElem_mem _)
/-- A node, with where its data and its entries lie. -/
structure Nd where
  fid : Int
  k : Int
  md : Int
  ln : Int
  da : Option Addr
  dc : Nat
  zs : List Int
  ka : Option Addr
  kc : Nat
  ks : List Kd
def Nd.cells (x : Nd) : List Value := [.int .u32 x.fid, .int .u8 x.k, .int .u16 x.md, .int .u16 x.ln, .slice x.da x.zs.length x.dc, .slice x.ka x.ks.length x.kc]
def Nd.val (x : Nd) : Value := .agg #[.int .u32 x.fid, .int .u8 x.k, .int .u16 x.md, .int .u16 x.ln, .slice x.da x.zs.length x.dc, .slice x.ka x.ks.length x.kc]
def Nd.Ok (w : World) (x : Nd) : Prop := (0 ≤ x.fid ∧ x.fid < 4294967296) ∧ (0 ≤ x.k ∧ x.k < 256) ∧ (0 ≤ x.md ∧ x.md < 65536) ∧ (0 ≤ x.ln ∧ x.ln < 65536) ∧ IsB w x.da x.zs.length x.zs ∧ IsKs w x.ka x.ks
theorem Nd.Ok.later {w w' : World} {x : Nd} (h : x.Ok w) (hb : Below w.heap.size w w') : x.Ok w' := by
  obtain ⟨a, b, c, d, e, f⟩ := h
  exact ⟨a, b, c, d, e.later hb, f.later hb⟩
theorem isB_trod {H : Type} {enc : TypeId × Value → H} {P : Program} {W : World} {t e : TypeId} {v : Value} {fuel : Nat} {x : DataW H × List MemPlace} {sp : Nat → Bool} {hd : Bool} {b0 : Nat}
    (ht : P.underlying t = some (.slice e)) (he : P.underlying e = some (.int .u8)) (hc : P.cellsOf e = 1)
    (hf : DataW.trod enc P W b0 sp hd fuel t [v] = some x) (hsp : ∀ k, sp k = true) : ∃ a cap zs, v = .slice a zs.length cap ∧ IsB W a zs.length zs := by
  rcases open_ints ht he hc hf with ⟨hcs, _⟩ | ⟨x, l, c, zs, hcs, _, hl, hm, hz, _, hcell, hwz⟩
  · simp at hcs
    exact ⟨none, 0, [], hcs, rfl, Nat.zero_le _, fun h => absurd h (by simp), fun i => by simp⟩
  · simp at hcs
    rw [hsp] at hz
    have hz' : zs.length = c := by simpa using hz
    have hlt : (zs.take l).length = l := by rw [List.length_take]; omega
    refine ⟨some x, c, zs.take l, by rw [hlt]; exact hcs, rfl, by omega, fun hp => ?_, fun i => ?_⟩
    · obtain ⟨b, off, spot⟩ := x
      have hc0 := hcell 0 (by omega)
      have hspot : spot = none := by simpa [Addr.add] using World.cell?_spot hc0
      subst hspot
      refine ⟨b, off, rfl, fun i hi => ?_⟩
      have hi2 : i < l := by omega
      have h := hcell i (by omega)
      have h2 : (⟨b, off, none⟩ : Addr).add i = ⟨b, off + i, none⟩ := by rcases i with _ | i <;> simp [Addr.add]
      rw [h2] at h
      rw [h]
      simp [List.getD, List.getElem?_take, hi2]
    · by_cases hi : i < l
      · have hmem : (zs.take l).getD i 0 ∈ zs := by
          have : i < zs.length := by omega
          simp [List.getD, List.getElem?_take, hi, this]
        have := bd_u8 (hwz _ hmem)
        omega
      · simp [List.getD, List.getElem?_take, hi]
theorem trod_kid {H : Type} {enc : TypeId × Value → H} {W : World} {cs : List Value} {fuel : Nat} {x : DataW H × List MemPlace} {sp : Nat → Bool} {hd : Bool} {b0 : Nat} (hf : DataW.trod enc Try.prog W b0 sp hd fuel 68 cs = some x) :
    ∃ q : Kd, cs = q.cells ∧ q.Wf := by
  obtain ⟨xs, m, _, _, hlc, hlen, hel⟩ := DataW.trod_struct Try.underlying68 hf
  have hct : Try.prog.cellsOf 68 = 2 := by kernel_rfl
  have e1 : Try.prog.cellsOf 9 = 1 := by kernel_rfl
  have e2 : Try.prog.cellsOf 43 = 1 := by kernel_rfl
  rw [hct] at hlc
  match cs, hlc with
  | [c0, c1], _ =>
    match xs, hlen with
    | [x0, x1], _ =>
      have h0 := hel 0 _ rfl
      have h1 := hel 1 _ rfl
      simp [e1, e2] at h0 h1
      obtain ⟨s0, q0, _, w0⟩ := DataW.trod_string Try.underlying9 h0
      obtain ⟨n1, q1, _, w1⟩ := DataW.trod_int Try.underlying43 h1
      simp at q0 q1
      subst q0 q1
      exact ⟨⟨s0, n1⟩, rfl, w0, (bd_u32 w1).1, (bd_u32 w1).2⟩
theorem isKs_trod {H : Type} {enc : TypeId × Value → H} {W : World} {t : TypeId} {v : Value} {fuel : Nat} {y : DataW H × List MemPlace} {sp : Nat → Bool} {hd : Bool} {b0 : Nat} (ht : Try.prog.underlying t = some (.slice 68))
    (hf : DataW.trod enc Try.prog W b0 sp hd fuel t [v] = some y) (hsp : ∀ k, sp k = true) : ∃ a cap, ∃ l : List Kd, v = .slice a l.length cap ∧ IsKs W a l := by
  have hct : Try.prog.cellsOf 68 = 2 := by kernel_rfl
  rcases DataW.trod_slice ht hf with ⟨hcs, _⟩ | ⟨x, len, c, elems, rest, n, _, hcs, _, hb, hl, hm, hlen, hel, _⟩
  · simp at hcs
    exact ⟨none, 0, [], hcs, Nat.zero_le _, (fun x hx => by cases hx), (fun h => absurd h (by simp))⟩
  · simp at hcs
    rw [hct] at hel
    have each : ∀ i, i < len → ∃ q : Kd, (∀ j, j < 2 → W.cell? ((x.add (i * 2)).add j) = (q.cells)[j]?) ∧ q.Wf := by
      intro i hi
      have h1 := hel i (by omega)
      have h2 : elems[i]? = some elems[i] := List.getElem?_eq_getElem (by omega)
      rw [h2, Option.bind_eq_some_iff] at h1
      obtain ⟨cs, hc, hy⟩ := h1
      obtain ⟨q, hq, hw⟩ := trod_kid hy
      obtain ⟨_, hl6, hg⟩ := World.cells?_some hc
      refine ⟨q, fun j hj => ?_, hw⟩
      rw [hg j hj, hq]
    obtain ⟨f, hf'⟩ : ∃ f : Nat → Kd, ∀ i, i < len → (∀ j, j < 2 → W.cell? ((x.add (i * 2)).add j) = ((f i).cells)[j]?) ∧ (f i).Wf := by
      classical
      refine ⟨fun i => if h : i < len then (each i h).choose else Kd.no, fun i hi => ?_⟩
      simp only [hi, dif_pos]
      exact (each i hi).choose_spec
    refine ⟨some x, c, (List.range len).map f, by simpa using hcs, by simp; omega, fun q hq => ?_, fun hp => ?_⟩
    · obtain ⟨i, hi, rfl⟩ := List.mem_map.1 hq
      exact (hf' i (List.mem_range.1 hi)).2
    · rw [List.length_map, List.length_range] at hp
      obtain ⟨b, off, spot⟩ := x
      have hc0 := (hf' 0 hp).1 0 (by omega)
      have hspot : spot = none := by
        have e0 : ((f 0).cells)[0]? = some (.string (f 0).nm) := rfl
        rw [e0] at hc0
        simpa [Addr.add] using World.cell?_spot hc0
      subst hspot
      refine ⟨b, off, rfl, fun i hi => ?_⟩
      rw [List.length_map, List.length_range] at hi
      have hadd : ∀ j, ((⟨b, off, none⟩ : Addr).add (i * 2)).add j = ⟨b, off + i * 2 + j, none⟩ := fun j => by unfold Addr.add; split <;> split <;> simp_all <;> omega
      have key := (hf' i hi).1
      have g : ((List.range len).map f).getD i Kd.no = f i := by simp [List.getD, hi]
      rw [g]
      have k0 := key 0 (by omega)
      have k1 := key 1 (by omega)
      rw [hadd] at k0 k1
      exact ⟨k0, k1⟩
theorem trod_node {H : Type} {enc : TypeId × Value → H} {W : World} {cs : List Value} {fuel : Nat} {x : DataW H × List MemPlace} {sp : Nat → Bool} {hd : Bool} {b0 : Nat} (hf : DataW.trod enc Try.prog W b0 sp hd fuel 62 cs = some x) (hsp : ∀ k, sp k = true) :
    ∃ q : Nd, cs = q.cells ∧ q.Ok W := by
  obtain ⟨xs, m, _, _, hlc, hlen, hel⟩ := DataW.trod_struct Try.underlying62 hf
  have hct : Try.prog.cellsOf 62 = 6 := by kernel_rfl
  have e1 : Try.prog.cellsOf 43 = 1 := by kernel_rfl
  have e2 : Try.prog.cellsOf 58 = 1 := by kernel_rfl
  have e3 : Try.prog.cellsOf 44 = 1 := by kernel_rfl
  have e4 : Try.prog.cellsOf 59 = 1 := by kernel_rfl
  have e5 : Try.prog.cellsOf 60 = 1 := by kernel_rfl
  rw [hct] at hlc
  match cs, hlc with
  | [c0, c1, c2, c3, c4, c5], _ =>
    match xs, hlen with
    | [x0, x1, x2, x3, x4, x5], _ =>
      have h0 := hel 0 _ rfl
      have h1 := hel 1 _ rfl
      have h2 := hel 2 _ rfl
      have h3 := hel 3 _ rfl
      have h4 := hel 4 _ rfl
      have h5 := hel 5 _ rfl
      simp [e1, e2, e3, e4, e5] at h0 h1 h2 h3 h4 h5
      obtain ⟨n0, q0, _, w0⟩ := DataW.trod_int Try.underlying43 h0
      obtain ⟨n1, q1, _, w1⟩ := DataW.trod_int Try.underlying58 h1
      obtain ⟨n2, q2, _, w2⟩ := DataW.trod_int Try.underlying44 h2
      obtain ⟨n3, q3, _, w3⟩ := DataW.trod_int Try.underlying44 h3
      obtain ⟨da, dc, zs, q4, hz⟩ := isB_trod Try.underlying59 Try.underlying5 (by kernel_rfl) h4 hsp
      obtain ⟨ka, kc, ks, q5, hk⟩ := isKs_trod Try.underlying60 h5 hsp
      simp at q0 q1 q2 q3
      subst q0 q1 q2 q3 q4 q5
      exact ⟨⟨n0, n1, n2, n3, da, dc, zs, ka, kc, ks⟩, rfl, bd_u32 w0, bd_u8 w1, bd_u16r w2, bd_u16r w3, hz, hk⟩
theorem open_node {H : Type} {enc : TypeId × Value → H} {W : World} {r : Reach} {b0 : Nat} {v : Value} {d : DataW H} {p : List MemPlace}
    (hv : Value.okWide Try.prog W r b0 62 v) (h : DataW.Trod enc Try.prog W 0 (fun _ => true) true 62 v d p) :
    ∃ q : Nd, v = q.val ∧ q.Ok W := by
  simp only [Value.okWide, Try.underlying62] at hv
  obtain ⟨cs, rfl, hsz, _⟩ := hv
  obtain ⟨fuel, hf⟩ := h
  obtain ⟨q, hq, hw⟩ := trod_node hf (fun _ => rfl)
  refine ⟨q, ?_, hw⟩
  have : cs = q.cells.toArray := by
    apply Array.ext'
    simpa [Value.cells] using hq
  rw [this]; rfl
theorem nd_cells {w : World} {g : Nat} {x : Nd} {t : TypeId} {fr : Nat × Nat} (h : w.heap[g]? = some (.cells x.cells.toArray t fr)) : w.cell? ⟨g, 0, none⟩ = some (.int .u32 x.fid) ∧ w.cell? ⟨g, 1, none⟩ = some (.int .u8 x.k) ∧ w.cell? ⟨g, 2, none⟩ = some (.int .u16 x.md) ∧ w.cell? ⟨g, 3, none⟩ = some (.int .u16 x.ln) ∧ w.cell? ⟨g, 4, none⟩ = some (.slice x.da x.zs.length x.dc) ∧ w.cell? ⟨g, 5, none⟩ = some (.slice x.ka x.ks.length x.kc) := by
  refine ⟨?_, ?_, ?_, ?_, ?_, ?_⟩ <;> (rw [cell_of_row w g _ _ t fr h]; rfl)
theorem cell_of_row2 {w : World} {g j : Nat} {cs : Array Value} {t : TypeId} {fr : Nat × Nat} {v : Value} (h : w.heap[g]? = some (.cells cs t fr)) (_ : Nat := j) (hv : cs[j]? = some v) : w.cell? ⟨g, j, none⟩ = some v := by rw [cell_of_row w g _ _ t fr h]; exact hv
/-- Names compared. -/
def leS (x y : ByteArray) : Bool := Op.bytesLess x.toList y.toList || x.toList == y.toList
def lastK (l : List Kd) (m : Nat) : ByteArray := if m = 0 then ⟨#[]⟩ else (l.getD (m - 1) Kd.no).nm
/-- Is an entry right, behind the one ahead of it? -/
def kOk (l : List Kd) (i : Nat) : Bool := Pa.nameB (l.getD i Kd.no).nm.data.toList && !leS (l.getD i Kd.no).nm (lastK l i) && (l.getD i Kd.no).fid != 0
def kidsTo (l : List Kd) : Nat → Bool
  | 0 => true
  | m + 1 => kidsTo l m && kOk l m
def kidsOk (l : List Kd) : Bool := kidsTo l l.length
theorem kids_no (l : List Kd) (m : Nat) (h : kOk l m = false) : ∀ d, kidsTo l (m + 1 + d) = false
  | 0 => by simp [kidsTo, h]
  | d + 1 => by rw [← Nat.add_assoc]; simp [kidsTo, kids_no l m h d]
theorem kidsOk_no {l : List Kd} {m : Nat} (hm : m < l.length) (h : kOk l m = false) : kidsOk l = false := by
  unfold kidsOk
  obtain ⟨d, hd⟩ : ∃ d, l.length = m + 1 + d := ⟨l.length - (m + 1), by omega⟩
  rw [hd]; exact kids_no l m h d
theorem lastK_next (l : List Kd) (m : Nat) : lastK l (m + 1) = (l.getD m Kd.no).nm := by unfold lastK; simp
def nodeOk (x : Nd) : Bool := !(x.fid == 0 || decide (64 < x.zs.length) || decide (12 < x.ks.length)) && (bif x.k == 1 || x.k == 3 then decide (x.ks.length = 0) else bif x.k == 2 then decide (x.zs.length = 0) && kidsOk x.ks else false)
theorem conv_noneN (w : World) (p : Option Addr) (c : Nat) : (convert 59 9 (.slice p 0 c)).run Try.prog w = .ok (.string ByteArray.empty) w := by
  rw [run_convert_bytes_string w 59 9 5 _ 0 c Try.underlying59 Try.underlying5 Try.underlying9]
  cases p <;> simp [Conv.bytesToString, loadCells]
  all_goals rfl
theorem isB_convN {w : World} {b off len cap : Nat} {zs : List Int} (h : IsB w (some ⟨b, off, none⟩) len zs) (hp : 0 < len) : (convert 59 9 (.slice (some ⟨b, off, none⟩) len cap)).run Try.prog w = .ok (.string (Fr.tx zs)) w := by
  obtain ⟨h1, h2, h3, h4⟩ := h
  refine run_convert_bytes_arg w 59 5 Try.underlying59 Try.underlying5 b off len cap zs h1 (fun i hi => ?_) 9 Try.underlying9
  obtain ⟨b', off', e, hc⟩ := h3 (by omega)
  cases e
  exact hc i hi
/-- Bytes as a text. -/
theorem conv_anyN {w : World} {pa : Option Addr} {pc : Nat} {zs : List Int} (h : IsB w pa zs.length zs) : (convert 59 9 (.slice pa zs.length pc)).run Try.prog w = .ok (.string (Fr.tx zs)) w := by
  by_cases hp : 0 < zs.length
  · obtain ⟨b, off, rfl, _⟩ := h.2.2.1 hp
    exact isB_convN h hp
  · have h0 : zs.length = 0 := by omega
    rw [h0, conv_noneN, List.eq_nil_of_length_eq_zero h0]; rfl
theorem take_kid {l : List Kd} {m : Nat} (h : m < l.length) : l.take (m + 1) = l.take m ++ [l.getD m Kd.no] := by
  rw [List.take_add_one, List.getD, List.getElem?_eq_getElem h]; rfl
set_option maxRecDepth 100000 in
theorem open_op {H : Type} {enc : TypeId × Value → H} {W : World} {r : Reach} {b0 : Nat} {v : Value} {d : DataW H} {p : List MemPlace}
    (hv : Value.okWide Try.prog W r b0 46 v) (h : DataW.Trod enc Try.prog W 0 (fun _ => true) true 46 v d p) :
    ∃ q : Rec, v = q.opV ∧ q.Wf := by
  simp only [Value.okWide, Try.underlying46] at hv
  obtain ⟨cs, rfl, hsz, _⟩ := hv
  obtain ⟨fuel, hf⟩ := h
  obtain ⟨q, hq, hw, _⟩ := trod_op hf
  refine ⟨q, ?_, hw⟩
  have : cs = q.ops.toArray := by
    apply Array.ext'
    simpa [Value.cells] using hq
  rw [this]; rfl
def InB (zs : List Int) : Prop := ∀ i, 0 ≤ zs.getD i 0 ∧ zs.getD i 0 ≤ 255
theorem InB.drop {zs : List Int} (h : InB zs) (k : Nat) : InB (zs.drop k) := fun i => by
  have := h (k + i)
  simpa [List.getD, List.getElem?_drop] using this
theorem InB.take {zs : List Int} (h : InB zs) (k : Nat) : InB (zs.take k) := fun i => by
  by_cases hi : i < k
  · have := h i
    simpa [List.getD, List.getElem?_take, hi] using this
  · simp [List.getD, List.getElem?_take, hi]
theorem own_low {w : World} {base base' e size n : Nat} {v : Value} {xs : List Value} (h : w.ownsRow base e size v n xs) (hb : base' ≤ base) : w.ownsRow base' e size v n xs := by
  refine ⟨h.1, ?_⟩
  rcases h.2 with h | ⟨g, cap, cur, e1, e2, e3, e4⟩
  · exact .inl h
  · exact .inr ⟨g, cap, cur, e1, by omega, e3, e4⟩
theorem own_set {w : World} {base e size n : Nat} {v : Value} {xs : List Value} {p : Addr} (h : w.ownsRow base e size v n xs) (hp : p.block < base) (u : Value) : (w.setCell p u).ownsRow base e size v n xs := by
  refine ⟨h.1, ?_⟩
  rcases h.2 with h | ⟨g, cap, cur, e1, e2, e3, e4⟩
  · exact .inl h
  · exact .inr ⟨g, cap, cur, e1, e2, by rw [heap_setCell_other _ _ _ _ (by omega)]; exact e3, e4⟩
theorem isB_newsF {w : World} {b off len : Nat} {zs : List Int} (h : IsB w (some ⟨b, off, none⟩) len zs) : ∀ j u, (zs.map u8V)[j]? = some u → w.cell? ((⟨b, off, none⟩ : Addr).add j) = some u := by
  obtain ⟨h1, h2, h3, h4⟩ := h
  intro j u hu
  rw [List.getElem?_map] at hu
  rcases hj : zs[j]? with _ | x
  · rw [hj] at hu; cases hu
  · rw [hj] at hu
    simp only [Option.map_some, Option.some.injEq] at hu
    subst hu
    have hlt : j < zs.length := by
      rcases Nat.lt_or_ge j zs.length with q | q
      · exact q
      · rw [List.getElem?_eq_none q] at hj; cases hj
    obtain ⟨b', off', e, hc⟩ := h3 (by omega)
    cases e
    have := hc j (by omega)
    have hx : zs.getD j 0 = x := by simp [List.getD, hj]
    rw [hx] at this
    show _ = some (Value.int .u8 x)
    rw [← this]
    congr 1
    unfold Addr.add
    split
    · rename_i q; rw [q]; rfl
    · rfl
/-- A row of bytes that a call owns, as bytes. -/
theorem own_isBF {w : World} {base n : Nat} {v : Value} {zs : List Int} (hl : zs.length = n) (hm : n ≤ maxLen) (hz : ∀ i, 0 ≤ zs.getD i 0 ∧ zs.getD i 0 ≤ 255) (h : w.ownsRow base 5 1 v n (zs.map u8V)) : ∃ p c, v = .slice p n c ∧ IsB w p n zs ∧ (n = 0 ∨ ∃ g, p = some ⟨g, 0, none⟩ ∧ base ≤ g) := by
  rcases h.2 with ⟨hv, hn⟩ | ⟨g, cap, cur, hv, _⟩
  · subst hn
    exact ⟨none, 0, hv, ⟨hl, hm, fun hp => absurd hp (by omega), hz⟩, .inl rfl⟩
  · rename_i hrest
    refine ⟨_, _, hv, ⟨hl, hm, fun hp => ⟨g, 0, rfl, fun i hi => ?_⟩, hz⟩, .inr ⟨g, rfl, hrest.1⟩⟩
    have e := h.cells (g := g) (by rw [hv]; rfl) i (.int .u8 (zs.getD i 0)) (by rw [List.getElem?_map, List.getElem?_eq_getElem (by omega)]; simp [u8V, List.getD, hl, hi])
    rw [← e]
    congr 1
    unfold Addr.add
    split
    · rename_i q; rw [q]
    · simp
def kcells (l : List Kd) : List Value := l.flatMap Kd.cells
theorem kcells_snoc (l : List Kd) (x : Kd) : kcells (l ++ [x]) = kcells l ++ x.cells := by unfold kcells; simp
theorem kcells_len (l : List Kd) : (kcells l).length = l.length * 2 := by
  unfold kcells
  induction l with
  | nil => rfl
  | cons x t ih => rw [List.flatMap_cons, List.length_append, ih, List.length_cons]; simp [Kd.cells]; omega
theorem kcells_get (l : List Kd) (i j : Nat) (hi : i < l.length) (hj : j < 2) : (kcells l)[i * 2 + j]? = (l.getD i Kd.no).cells[j]? := by
  induction l generalizing i with
  | nil => cases hi
  | cons x t ih =>
    unfold kcells
    rw [List.flatMap_cons]
    rcases i with _ | i
    · rw [List.getElem?_append_left (by simp [Kd.cells]; omega)]
      simp
    · rw [List.getElem?_append_right (by simp [Kd.cells]; omega)]
      have e : (i + 1) * 2 + j - x.cells.length = i * 2 + j := by simp [Kd.cells]; omega
      rw [e]
      have := ih i (by simpa using hi)
      unfold kcells at this
      rw [this]
      simp [List.getD]
theorem info_kid : ∃ i : TypeInfo, Try.prog.info? 68 = some i ∧ i.zero = some Kd.no.val ∧ i.size = 2 ∧ i.bytes = 24 := by
  have h : (Try.prog.info? 68).map (fun i => (i.zero, i.size, i.bytes)) = some (some Kd.no.val, 2, 24) := by kernel_rfl
  cases hi : Try.prog.info? 68 with
  | none => rw [hi] at h; cases h
  | some i => rw [hi] at h; simp at h; exact ⟨i, rfl, h.1, h.2.1, h.2.2⟩
theorem isKs_own {w : World} {base : Nat} {v : Value} {l : List Kd} (h : w.ownsRow base 68 2 v l.length (kcells l)) (hw : ∀ x ∈ l, x.Wf) (hm : l.length ≤ 100000) : ∃ a cap, v = .slice a l.length cap ∧ IsKs w a l ∧ l.length ≤ cap ∧ (a = none → cap = 0) := by
  rcases h.2 with ⟨hv, hn⟩ | ⟨g, cap, cur, hv, hrest⟩
  · have e : l = [] := List.eq_nil_of_length_eq_zero hn
    subst e
    exact ⟨none, 0, hv, ⟨Nat.zero_le _, (fun x hx => by cases hx), fun hp => absurd hp (by simp)⟩, Nat.zero_le _, fun _ => rfl⟩
  · refine ⟨_, _, hv, ⟨by unfold maxLen; omega, hw, fun hp => ⟨g, 0, rfl, fun i hi => ?_⟩⟩, hrest.2.2.1, fun e => by cases e⟩
    have key : ∀ j, j < 2 → ∀ u, (l.getD i Kd.no).cells[j]? = some u → w.cell? ⟨g, 0 + i * 2 + j, none⟩ = some u := fun j hj u hu => by
      have e := h.cells (g := g) (by rw [hv]; rfl) (i * 2 + j) u (by rw [kcells_get l i j hi hj]; exact hu)
      rw [← e]
      congr 1
      unfold Addr.add
      split
      · rename_i q; simp [q]
      · simp
    exact ⟨key 0 (by omega) _ rfl, key 1 (by omega) _ rfl⟩
theorem kid_news {w : World} {g : Nat} {x : Kd} {t : TypeId} {fr : Nat × Nat} (hb : w.heap[g]? = some (.cells x.cells.toArray t fr)) : ∀ j u, x.cells[j]? = some u → w.cell? ((⟨g, 0, none⟩ : Addr).add j) = some u := fun j u hu => by
  have e : (⟨g, 0, none⟩ : Addr).add j = ⟨g, 0 + j, none⟩ := by unfold Addr.add; split <;> simp_all
  rw [e, cell_of_row w g _ _ t fr hb]
  simpa using hu
theorem kid_one (x : Kd) : ∀ u ∈ x.cells, u.oneCell' = true := fun u hu => by
  simp [Kd.cells] at hu
  rcases hu with rfl | rfl <;> rfl
/-- 'append(nil, x...)' of bytes that may be none. -/
theorem wpList_appN (w : World) {ops : Array Oper} {rest : List Oper} {o : Oper} {a : Act} {Q : Exit → Act → World → Prop} (hgd : o.guard = none) (s x : Operand)
    (ho : o.op = .call { callee := .builtin .append, args := #[s, x], argTypes := #[59, 59] }) (base : Nat) (hs : a.eval s = .slice none 0 0)
    (pa : Option Addr) (m c : Nat) (zs : List Int) (hx : a.eval x = .slice pa m c) (hb : IsB w pa m zs) (hc : pa = none → c = 0) (h63 : m ≤ 1000000) (hbase : base ≤ w.heap.size)
    (h : ∀ v' w', OwB w' base v' zs → Below w.heap.size w w' → wpList Try.prog ops Q rest (a.put o.dst v') w') : wpList Try.prog ops Q (o :: rest) a w := by
  obtain ⟨i0, hi, hz0, hz1, hz2⟩ := info_parts8
  have hown : w.ownsRow base 5 1 (.slice none 0 0) 0 [] := World.ownsRow_nil _ _ _ _
  have hg : ∀ w', w.grownBy w' (Value.slice none 0 0).ownBlock → Below w.heap.size w w' := fun w' g => ⟨g.os, g.tape, g.output, g.size, fun k hk => g.block k hk (fun e => by cases e)⟩
  have hl := hb.1
  cases pa with
  | none =>
    have hm : m = 0 := by
      rcases Nat.eq_zero_or_pos m with h0 | h0
      · exact h0
      · obtain ⟨b, off, e, _⟩ := hb.2.2.1 h0; cases e
    subst hm
    have hz : zs = [] := List.eq_nil_of_length_eq_zero hb.1
    subst hz
    have hc0 := hc rfl
    subst hc0
    refine wpList_append_own_none hgd s x 59 ho base 5 i0 1 Try.underlying59 hi _ 0 [] hs hown hx ?_
    exact h _ w (World.ownsRow_nil _ _ _ _) (Below.refl _ _)
  | some ad =>
    by_cases hm : m = 0
    · subst hm
      have hz : zs = [] := List.eq_nil_of_length_eq_zero hb.1
      subst hz
      refine wpList_append_own w hgd s x 59 ho base 5 i0 (.int .u8 0) 1 1 Try.underlying59 hi hz0 hz1 hz2 rfl (by decide) _ 0 [] hs hown ad 0 c [] hx rfl (fun j u hu => by simp at hu) (fun u hu => by cases hu) (by unfold maxLen; omega) (by omega) hbase ?_
      intro v' w' h1 h2 h3
      exact h v' w' (by unfold OwB; simpa using h1) (hg _ h2)
    · obtain ⟨b, off, e, _⟩ := hb.2.2.1 (by omega)
      cases e
      refine wpList_append_own w hgd s x 59 ho base 5 i0 (.int .u8 0) 1 1 Try.underlying59 hi hz0 hz1 hz2 rfl (by decide) _ 0 [] hs hown ⟨b, off, none⟩ m c (zs.map u8V) hx (by simp [hl]) (isB_newsF hb) (u8V_one zs) (by unfold maxLen; omega) (by omega) hbase ?_
      intro v' w' h1 h2 h3
      refine h v' w' ?_ (hg _ h2)
      unfold OwB
      rw [hl]
      simpa using h1
/-- A node, with where its data and its entries lie. -/
def Nd.lie (x : Nd) (da : Option Addr) (dc : Nat) (ka : Option Addr) (kc : Nat) : Nd := ⟨x.fid, x.k, x.md, x.ln, da, dc, x.zs, ka, kc, x.ks⟩
def Nd.no : Nd := ⟨0, 0, 0, 0, none, 0, [], none, 0, []⟩
/-- Numbers within their bounds, bytes, few entries. -/
def Nd.Wf (x : Nd) : Prop := (0 ≤ x.fid ∧ x.fid < 4294967296) ∧ (0 ≤ x.k ∧ x.k < 256) ∧ (0 ≤ x.md ∧ x.md < 65536) ∧ (0 ≤ x.ln ∧ x.ln < 65536) ∧ InB x.zs ∧ x.zs.length ≤ 255 ∧ (∀ q ∈ x.ks, q.Wf ∧ q.nm.size ≤ 255) ∧ x.ks.length ≤ 255
/-- A node that the call owns. -/
def NdOwn (w : World) (base : Nat) (x : Nd) : Prop := x.Wf ∧ OwB w base (.slice x.da x.zs.length x.dc) x.zs ∧ w.ownsRow base 68 2 (.slice x.ka x.ks.length x.kc) x.ks.length (kcells x.ks)
theorem NdOwn.ok {w : World} {base : Nat} {x : Nd} (h : NdOwn w base x) : x.Ok w := by
  obtain ⟨⟨h1, h2, h3, h4, h5, h6, h7, h8⟩, hd, hk⟩ := h
  refine ⟨h1, h2, h3, h4, ?_, ?_⟩
  · obtain ⟨p, c, e, hB, _⟩ := own_isBF rfl (by unfold maxLen; omega) h5 hd
    simp only [Value.slice.injEq] at e
    rw [e.1]; exact hB
  · obtain ⟨p, c, e, hB, _⟩ := isKs_own hk (fun q hq => (h7 q hq).1) (by omega)
    simp only [Value.slice.injEq] at e
    rw [e.1]; exact hB
theorem NdOwn.later {w w' : World} {base : Nat} {x : Nd} (h : NdOwn w base x) (hb : Below w.heap.size w w') : NdOwn w' base x := ⟨h.1, h.2.1.later hb, own_latR h.2.2 hb⟩
/-- Cells that lie in a block of one type, from base on. -/
def RowAt (w : World) (base : Nat) (t : TypeId) (p : Option Addr) (vs : List Value) : Prop := vs = [] ∨ ∃ (g : Nat) (cs : Array Value) (fr : Nat × Nat), p = some ⟨g, 0, none⟩ ∧ base ≤ g ∧ w.heap[g]? = some (.cells cs t fr) ∧ ∀ (i : Nat) (u : Value), vs[i]? = some u → cs[i]? = some u
/-- A node whose data and entries lie in blocks of their own. -/
def NdAt (w : World) (base : Nat) (x : Nd) : Prop := x.Wf ∧ RowAt w base 5 x.da (x.zs.map u8V) ∧ RowAt w base 68 x.ka (kcells x.ks)
theorem RowAt.later {w w' : World} {base : Nat} {t : TypeId} {p : Option Addr} {vs : List Value} (h : RowAt w base t p vs) (hb : Below w.heap.size w w') : RowAt w' base t p vs := by
  rcases h with h | ⟨g, cs, fr, h1, h2, h3, h4⟩
  · exact .inl h
  · exact .inr ⟨g, cs, fr, h1, h2, (hb.block _ (lt_blkR h3)).trans h3, h4⟩
theorem RowAt.own {w : World} {base : Nat} {t : TypeId} {sz n : Nat} {v : Value} {p : Option Addr} {m c : Nat} {vs : List Value} (h : w.ownsRow base t sz v n vs) (hv : v = .slice p m c) (hl : n = 0 → vs = []) : RowAt w base t p vs := by
  rcases h.2 with ⟨h1, h2⟩ | ⟨g, cap, cur, h1, h2, h3, h4⟩
  · exact .inl (hl h2)
  · rw [h1] at hv
    simp only [Value.slice.injEq] at hv
    refine .inr ⟨g, cur, _, hv.1.symm, h2, h3, fun i u hu => ?_⟩
    have e := h.cells (g := g) (by rw [h1]; rfl) i u hu
    have e2 : (⟨g, 0, none⟩ : Addr).add i = ⟨g, i, none⟩ := by unfold Addr.add; split <;> simp_all
    rw [e2, cell_of_row w g _ _ t _ h3] at e
    exact e
theorem NdOwn.at {w : World} {base : Nat} {x : Nd} (h : NdOwn w base x) : NdAt w base x := by
  refine ⟨h.1, RowAt.own h.2.1 rfl (fun e => ?_), RowAt.own h.2.2 rfl (fun e => ?_)⟩
  · rw [List.eq_nil_of_length_eq_zero e]; rfl
  · rw [List.eq_nil_of_length_eq_zero e]; rfl
theorem NdAt.later {w w' : World} {base : Nat} {x : Nd} (h : NdAt w base x) (hb : Below w.heap.size w w') : NdAt w' base x := ⟨h.1, h.2.1.later hb, h.2.2.later hb⟩
theorem NdAt.ok {w : World} {base : Nat} {x : Nd} (h : NdAt w base x) : x.Ok w := by
  obtain ⟨⟨h1, h2, h3, h4, h5, h6, h7, h8⟩, hd, hk⟩ := h
  refine ⟨h1, h2, h3, h4, ⟨rfl, by unfold maxLen; omega, fun hp => ?_, h5⟩, ⟨by unfold maxLen; omega, fun q hq => (h7 q hq).1, fun hp => ?_⟩⟩
  · rcases hd with hd | ⟨g, cs, fr, e1, e2, e3, e4⟩
    · have := congrArg List.length hd
      simp at this
      rw [this] at hp; exact absurd hp (by simp)
    · refine ⟨g, 0, e1, fun i hi => ?_⟩
      rw [cell_of_row w g _ _ _ _ e3, Nat.zero_add]
      refine e4 i _ ?_
      rw [List.getElem?_map, List.getElem?_eq_getElem hi]
      simp [u8V, List.getD, hi]
  · rcases hk with hk | ⟨g, cs, fr, e1, e2, e3, e4⟩
    · have := congrArg List.length hk
      rw [kcells_len] at this
      simp only [List.length_nil] at this
      omega
    · refine ⟨g, 0, e1, fun i hi => ?_⟩
      have key : ∀ j, j < 2 → ∀ u, (x.ks.getD i Kd.no).cells[j]? = some u → w.cell? ⟨g, 0 + i * 2 + j, none⟩ = some u := fun j hj u hu => by
        rw [cell_of_row w g _ _ _ _ e3, Nat.zero_add]
        exact e4 _ u (by rw [kcells_get _ _ _ hi hj]; exact hu)
      exact ⟨key 0 (by omega) _ rfl, key 1 (by omega) _ rfl⟩
theorem RowAt.grown {w w' : World} {base b sz n : Nat} {t e : TypeId} {p : Option Addr} {vs xs : List Value} {v : Value} (h : RowAt w base t p vs) (hown : w.ownsRow b e sz v n xs) (hne : t ≠ e) (hg : w.grownBy w' v.ownBlock) : RowAt w' base t p vs := by
  rcases h with h | ⟨g, cs, fr, h1, h2, h3, h4⟩
  · exact .inl h
  · refine .inr ⟨g, cs, fr, h1, h2, (hg.block g (lt_blkR h3) (fun q => ?_)).trans h3, h4⟩
    rcases hown.2 with ⟨rfl, _⟩ | ⟨g', cap, cur, rfl, _, hg', _⟩
    · cases q
    · cases q
      rw [hg'] at h3
      cases h3
      exact hne rfl
theorem kid_wide : (match Try.prog.underlying 68 with | some (.array _ _) | some (.struct _) => true | _ => false) = true := by kernel_rfl
theorem kid_guard : Try.prog.eqGuardType Try.prog.depth 68 = false := by kernel_rfl
theorem kid_key {x : Kd} (h : x.Wf) : ∃ kl, keyOf Try.prog 68 x.val = some kl := by
  obtain ⟨h1, h2, h3⟩ := h
  have w2 : (Lit.int .u32 x.fid).wf = true := by simp [Lit.wf, IntKind.min, IntKind.max, IntKind.signed, IntKind.bits]; omega
  have : (keyOf Try.prog 68 x.val).isSome = true := by
    have hkt : Try.prog.keyType 68 = true := by kernel_rfl
    have hc : Try.prog.cellsOf 68 = 2 := by kernel_rfl
    have hc2 : Try.prog.cellsOf 43 = 1 := by kernel_rfl
    have hc4 : Try.prog.cellsOf 9 = 1 := by kernel_rfl
    have hs : decide (2 ≤ Try.prog.types.size) = true := by kernel_rfl
    obtain ⟨d, hd⟩ : ∃ d, Try.prog.types.size = d + 2 := ⟨Try.prog.types.size - 2, by have := of_decide_eq_true hs; omega⟩
    unfold Kd.val keyOf
    rw [Try.underlying68, hd]
    simp [hkt, Value.formed, Try.underlying68, Try.underlying9, hc, hc4, Value.cells, Program.keyLits, Try.underlying43, hc2, w2, h1]
  exact Option.isSome_iff_exists.1 this
theorem kid_equal (w : World) {x : Kd} (hx : x.Wf) : (Op.equalIn 10000 68 x.val x.val).run Try.prog w = .ok true w := by
  obtain ⟨lx, ex⟩ := kid_key hx
  obtain ⟨r, hr, hiff⟩ := run_equal_deep (P := Try.prog) w (m := 3) (by omega) (k := 68) (by kernel_rfl) kid_wide ex ex
  rw [hiff.2 rfl] at hr
  exact hr
set_option maxHeartbeats 4000000 in
theorem sameNode_c (x : Nd) (da : Option Addr) (dc : Nat) (ka : Option Addr) (kc : Nat) (db : Option Addr) (dd : Nat) (kb : Option Addr) (kd : Nat) (w : World) (hx : (x.lie da dc ka kc).Ok w) (hy : (x.lie db dd kb kd).Ok w) (hm : x.ks.length ≤ 100000) :
    Calls Try.prog 23 #[(x.lie da dc ka kc).val, (x.lie db dd kb kd).val] w fun e w' => e = .returned (.bool true) ∧ Below w.heap.size w w' := by
  have b0 := below_1 w (.cells (x.lie da dc ka kc).cells.toArray 62)
  have h0 := heap_alloc_new w (.cells (x.lie da dc ka kc).cells.toArray 62)
  have b1 := below_1 (w.alloc (.cells (x.lie da dc ka kc).cells.toArray 62)) (.cells (x.lie db dd kb kd).cells.toArray 62)
  have h1 := heap_alloc_new (w.alloc (.cells (x.lie da dc ka kc).cells.toArray 62)) (.cells (x.lie db dd kb kd).cells.toArray 62)
  rw [show (w.alloc (.cells (x.lie da dc ka kc).cells.toArray 62)).heap.size = w.heap.size + 1 by simp] at h1
  have h0' := (b1.block _ (lt_blkR h0)).trans h0
  have bV := b0.trans (b1.mono b0.size)
  have hxV := hx.later bV
  have hyV := hy.later bV
  have cx := conv_anyN (pc := dc) hxV.2.2.2.2.1
  have cy := conv_anyN (pc := dd) hyV.2.2.2.2.1
  obtain ⟨y0, y1, y2, y3, y4, y5⟩ := nd_cells h0'
  obtain ⟨x0, x1, x2, x3, x4, x5⟩ := nd_cells h1
  have hg := kid_guard
  have KX := hid hxV.2.2.2.2.2
  have KY := hid hyV.2.2.2.2.2
  have BV := hid bV
  have H0 := hid h0'
  have H1 := hid h1
  clear hx hy b0 b1 h0 h1 h0' bV hxV hyV
  simp only [Nd.lie, Nd.val, Nd.cells] at *
  obtain ⟨fid, k, md, ln, da0, dc0, zs, ka0, kc0, ks⟩ := x
  dsimp only at *
  go_enter Try.func23, Try.ntmps23
  go_upto_region 1 with fail
  change Code.wp _ _ _ _ ((w.alloc (.cells #[.int .u32 fid, .int .u8 k, .int .u16 md, .int .u16 ln, .slice da zs.length dc, .slice ka ks.length kc] 62)).alloc (.cells #[.int .u32 fid, .int .u8 k, .int .u16 md, .int .u16 ln, .slice db zs.length dd, .slice kb ks.length kd] 62))
  generalize ((w.alloc (.cells #[.int .u32 fid, .int .u8 k, .int .u16 md, .int .u16 ln, .slice da zs.length dc, .slice ka ks.length kc] 62)).alloc (.cells #[.int .u32 fid, .int .u8 k, .int .u16 md, .int .u16 ln, .slice db zs.length dd, .slice kb ks.length kd] 62)) = V at *
  go_wp2
  go_loopg [5] ks.length (fun gk i wr => ∃ m : Nat, m + gk = ks.length ∧ i = .int .i64 m ∧ Hid (Below V.heap.size V wr))
  case atStart => exact ⟨0, by omega, rfl, hid (Below.refl _ _)⟩
  case round =>
    obtain ⟨m, hm2, rfl, HB⟩ := hrel
    have z5 := (nd_cells (x := ⟨fid, k, md, ln, da, dc, zs, ka, kc, ks⟩) ((HB.out.block _ (lt_blkR H0.out)).trans H0.out)).2.2.2.2.2
    have z6 := (nd_cells (x := ⟨fid, k, md, ln, db, dd, zs, kb, kd, ks⟩) ((HB.out.block _ (lt_blkR H1.out)).trans H1.out)).2.2.2.2.2
    dsimp only at z5 z6
    clear y0 y1 y2 y3 y4 y5 x0 x1 x2 x3 x4 x5 cx cy
    by_cases hlt : m < ks.length
    · have hltI : (m : Int) < ks.length := by omega
      have hx1 := KX.out.later HB.out
      have hy1 := KY.out.later HB.out
      obtain ⟨b1, o1, rfl, _⟩ := hx1.2.2 (by omega)
      obtain ⟨b2, o2, rfl, _⟩ := hy1.2.2 (by omega)
      obtain ⟨p0, p1⟩ := hx1.at (i := m) hlt
      obtain ⟨q0, q1⟩ := hy1.at (i := m) hlt
      have hq := fun W => kid_equal W (hx1.wf (i := m) hlt)
      clear hx1 hy1
      generalize ks.getD m Kd.no = y at *
      unfold Kd.val at hq
      go_wp2
      go_region
      go_wp2
      go_roundg (gk - 1)
      case measure => omega
      case rel => exact ⟨m + 1, by omega, by go_num, hid (Below.drew HB.out)⟩
    · have hge : ¬ (m : Int) < ks.length := by omega
      go_wp2
      go_ret
      exact ⟨rfl, BV.out.trans (HB.out.mono BV.out.size)⟩
def ncells (l : List Nd) : List Value := l.flatMap Nd.cells
theorem ncells_snoc (l : List Nd) (x : Nd) : ncells (l ++ [x]) = ncells l ++ x.cells := by unfold ncells; simp
theorem ncells_get (l : List Nd) (i j : Nat) (hi : i < l.length) (hj : j < 6) : (ncells l)[i * 6 + j]? = (l.getD i Nd.no).cells[j]? := by
  induction l generalizing i with
  | nil => cases hi
  | cons x t ih =>
    unfold ncells
    rw [List.flatMap_cons]
    rcases i with _ | i
    · rw [List.getElem?_append_left (by simp [Nd.cells]; omega)]
      simp
    · rw [List.getElem?_append_right (by simp [Nd.cells]; omega)]
      have e : (i + 1) * 6 + j - x.cells.length = i * 6 + j := by simp [Nd.cells]; omega
      rw [e]
      have := ih i (by simpa using hi)
      unfold ncells at this
      rw [this]
      simp [List.getD]
theorem info_nd : ∃ i : TypeInfo, Try.prog.info? 62 = some i ∧ i.zero = some Nd.no.val ∧ i.size = 6 ∧ i.bytes = 64 := by
  have h : (Try.prog.info? 62).map (fun i => (i.zero, i.size, i.bytes)) = some (some Nd.no.val, 6, 64) := by kernel_rfl
  cases hi : Try.prog.info? 62 with
  | none => rw [hi] at h; cases h
  | some i => rw [hi] at h; simp at h; exact ⟨i, rfl, h.1, h.2.1, h.2.2⟩
/-- Nodes that the call owns. -/
def NsOwn (w : World) (base : Nat) (v : Value) (L : List Nd) : Prop := w.ownsRow base 62 6 v L.length (ncells L) ∧ ∀ x ∈ L, NdAt w base x
theorem NsOwn.nil (w : World) (base : Nat) : NsOwn w base (.slice none 0 0) [] := ⟨World.ownsRow_nil _ _ _ _, fun x hx => by cases hx⟩
theorem NsOwn.later {w w' : World} {base : Nat} {v : Value} {L : List Nd} (h : NsOwn w base v L) (hb : Below w.heap.size w w') : NsOwn w' base v L := ⟨own_latR h.1 hb, fun x hx => (h.2 x hx).later hb⟩
theorem nd_news {w : World} {g : Nat} {x : Nd} {t : TypeId} {fr : Nat × Nat} (hb : w.heap[g]? = some (.cells x.cells.toArray t fr)) : ∀ j u, x.cells[j]? = some u → w.cell? ((⟨g, 0, none⟩ : Addr).add j) = some u := fun j u hu => by
  have e : (⟨g, 0, none⟩ : Addr).add j = ⟨g, 0 + j, none⟩ := by unfold Addr.add; split <;> simp_all
  rw [e, cell_of_row w g _ _ t fr hb]
  simpa using hu
theorem nd_one (x : Nd) : ∀ u ∈ x.cells, u.oneCell' = true := fun u hu => by
  simp [Nd.cells] at hu
  rcases hu with rfl | rfl | rfl | rfl | rfl | rfl <;> rfl
end Go.Proofs.Ytihgiemgcmpmmaa
