/-
  Operations, entries and nodes in memory; the document's RightOp, Alone; the program's RightOp. (Written by nodebase.py out of the record's texts.)
-/
import Derived.Test.YtkokjkaclcjnjaaGreatDoorPtAa
import Derived.Test.YtkokjkaclcjnjaaGreatDoorPtAb
import Derived.Test.YtkokjkaclcjnjaaGreatDoorPtAc
import Derived.Test.YtkokjkaclcjnjaaGreatDoorPtAd
import Derived.ChangeArms
import Derived.ChangeOld
import Derived.Below
import Derived.Deep.CutRange
import Derived.Laws.AppendOwnNone
import Derived.Deep.RegionLaw
import Derived.Deep.LoopGhost
import Derived.Laws.BitsLemmas
import Derived.Shelf.Abstract
import Derived.Defers
import Derived.Recover
import Derived.Laws.Pointers
import Derived.Deep.QuietTactic
import Derived.Maps.OwnOps
import Derived.Maps.Views
import Derived.DeepKeys4
import Derived.RegionTactic
import Derived.ChangeAlike
import Derived.BigRegion
import Derived.BigQuiet
import Derived.Laws.IdiomStrings
namespace Go.Proofs.YtkokjkaclcjnjaaGreatDoor
open Go.RowKit Go.ChangeShapes Go.WideShapes Go.ChangeAt Go.Maps Go.Shelf
set_option linter.unusedVariables false
set_option linter.unusedSimpArgs false
set_option maxRecDepth 100000
def Rec.ops (x : Rec) : List Value := [.int .u8 x.k, .int .u32 x.fid, .int .u32 x.dir, .string x.nm, .int .u32 x.to, .string x.nm2, .int .u16 x.md, .string x.dt]
def Rec.opV (x : Rec) : Value := .agg #[.int .u8 x.k, .int .u32 x.fid, .int .u32 x.dir, .string x.nm, .int .u32 x.to, .string x.nm2, .int .u16 x.md, .string x.dt]
def Rec.Wf (x : Rec) : Prop := (0 ≤ x.k ∧ x.k < 256) ∧ (0 ≤ x.fid ∧ x.fid < 4294967296) ∧ (0 ≤ x.dir ∧ x.dir < 4294967296) ∧ (0 ≤ x.to ∧ x.to < 4294967296) ∧ (0 ≤ x.md ∧ x.md < 65536) ∧ (0 ≤ x.sn ∧ x.sn < 18446744073709551616) ∧ x.nm.size ≤ maxLen ∧ x.nm2.size ≤ maxLen ∧ x.dt.size ≤ maxLen
def Rec.no : Rec := ⟨0, 0, 0, ⟨#[]⟩, 0, ⟨#[]⟩, 0, ⟨#[]⟩, 0⟩
theorem bd_u16r {a : Int} (h : (Lit.int .u16 a).wf = true) : 0 ≤ a ∧ a < 65536 := by
 simp [Lit.wf, IntKind.min, IntKind.max, IntKind.signed, IntKind.bits] at h; omega
theorem trod_op {H : Type} {enc : TypeId × Value → H} {W : World} {cs : List Value} {fuel : Nat} {x : DataW H × List MemPlace} {sp : Nat → Bool} {hd : Bool} {b0 : Nat} (hf : DataW.trod enc Tryz.prog W b0 sp hd fuel 51 cs = some x) :
   ∃ q : Rec, cs = q.ops ∧ q.Wf ∧ q.sn = 0 := by
 obtain ⟨xs, m, _, _, hlc, hlen, hel⟩ := DataW.trod_struct Tryz.underlying51 hf
 have hct : Tryz.prog.cellsOf 51 = 8 := by kernel_rfl
 have e1 : Tryz.prog.cellsOf 49 = 1 := by kernel_rfl
 have e2 : Tryz.prog.cellsOf 31 = 1 := by kernel_rfl
 have e3 : Tryz.prog.cellsOf 33 = 1 := by kernel_rfl
 have e4 : Tryz.prog.cellsOf 9 = 1 := by kernel_rfl
 rw [hct] at hlc
 match cs, hlc with
 | [c0, c1, c2, c3, c4, c5, c6, c7], _ =>
   match xs, hlen with
   | [x0, x1, x2, x3, x4, x5, x6, x7], _ =>
     have h0 := hel 0 _ rfl
     have h1 := hel 1 _ rfl
     have h2 := hel 2 _ rfl
     have h3 := hel 3 _ rfl
     have h4 := hel 4 _ rfl
     have h5 := hel 5 _ rfl
     have h6 := hel 6 _ rfl
     have h7 := hel 7 _ rfl
     simp [e1, e2, e3, e4] at h0 h1 h2 h3 h4 h5 h6 h7
     obtain ⟨n0, q0, _, w0⟩ := DataW.trod_int Tryz.underlying49 h0
     obtain ⟨n1, q1, _, w1⟩ := DataW.trod_int Tryz.underlying31 h1
     obtain ⟨n2, q2, _, w2⟩ := DataW.trod_int Tryz.underlying31 h2
     obtain ⟨s3, q3, _, w3⟩ := DataW.trod_string Tryz.underlying9 h3
     obtain ⟨n4, q4, _, w4⟩ := DataW.trod_int Tryz.underlying31 h4
     obtain ⟨s5, q5, _, w5⟩ := DataW.trod_string Tryz.underlying9 h5
     obtain ⟨n6, q6, _, w6⟩ := DataW.trod_int Tryz.underlying33 h6
     obtain ⟨s7, q7, _, w7⟩ := DataW.trod_string Tryz.underlying9 h7
     simp at q0 q1 q2 q3 q4 q5 q6 q7
     subst q0 q1 q2 q3 q4 q5 q6 q7
     exact ⟨⟨n0, n1, n2, s3, n4, s5, n6, s7, 0⟩, rfl, ⟨bd_u8 w0, bd_u32 w1, bd_u32 w2, bd_u32 w4, bd_u16r w6, ⟨Int.le_refl 0, (by decide : (0 : Int) < 18446744073709551616)⟩, w3, w5, w7⟩, rfl⟩
theorem lt_blkR {w : World} {b : Nat} {o : Obj} (h : w.heap[b]? = some o) : b < w.heap.size := (Array.getElem?_eq_some_iff.1 h).1
theorem own_latR {w w' : World} {base e size n : Nat} {v : Value} {xs : List Value} (h : w.ownsRow base e size v n xs) (hb : Below w.heap.size w w') : w'.ownsRow base e size v n xs := by
 refine ⟨h.1, ?_⟩
 rcases h.2 with h | ⟨g, cap, cur, e1, e2, e3, e4⟩
 · exact .inl h
 · exact .inr ⟨g, cap, cur, e1, e2, (hb.block g (lt_blkR e3)).trans e3, e4⟩
def pFid (k : Int) : Bool := k == 1 || k == 2 || k == 3 || k == 4 || k == 8 || k == 9
def pEnt (k : Int) : Bool := k == 1 || k == 2 || k == 3 || k == 4 || k == 5 || k == 6 || k == 7
def pGoal (k : Int) : Bool := k == 7
def pMode (k : Int) : Bool := k == 1 || k == 2 || k == 3 || k == 9
def pData (k : Int) : Bool := k == 3 || k == 8
def pOk (k : Int) : Bool := k == 1 || k == 2 || k == 3 || k == 4 || k == 5 || k == 6 || k == 7 || k == 8 || k == 9
def mkF (k : Int) : Bool := k == 1 || k == 2 || k == 3
def entF (named : Bool) (f : Int) (s : ByteArray) : Bool := if named then f != 0 && Pa.nameB s.data.toList else f == 0 && s.toList == []
def datF (named : Bool) (s : ByteArray) : Bool := if named then decide (s.size ≤ 64) else s.toList == []
def rightF (x : Rec) : Bool := !(!pOk x.k || (pFid x.k != (x.fid != 0)) || (mkF x.k && x.fid == 1)) && (entF (pEnt x.k) x.dir x.nm && entF (pGoal x.k) x.to x.nm2 && (pMode x.k || x.md == 0) && datF (pData x.k) x.dt)
theorem op_all {w : World} {g : Nat} {x : Rec} {t : TypeId} {fr : Nat × Nat} (h : w.heap[g]? = some (.cells x.ops.toArray t fr)) : w.cell? ⟨g, 0, none⟩ = some (.int .u8 x.k) ∧ w.cell? ⟨g, 1, none⟩ = some (.int .u32 x.fid) ∧ w.cell? ⟨g, 2, none⟩ = some (.int .u32 x.dir) ∧ w.cell? ⟨g, 3, none⟩ = some (.string x.nm) ∧ w.cell? ⟨g, 4, none⟩ = some (.int .u32 x.to) ∧ w.cell? ⟨g, 5, none⟩ = some (.string x.nm2) ∧ w.cell? ⟨g, 6, none⟩ = some (.int .u16 x.md) ∧ w.cell? ⟨g, 7, none⟩ = some (.string x.dt) := by
 refine ⟨?_, ?_, ?_, ?_, ?_, ?_, ?_, ?_⟩ <;> (rw [cell_of_row w g _ _ t fr h]; rfl)
theorem below_1 (w : World) (o : Obj) : Below w.heap.size w (w.alloc o) := (Below.refl _ _).alloc (Nat.le_refl _) _
theorem ops_wide : (match Tryz.prog.underlying 51 with | some (.array _ _) | some (.struct _) => true | _ => false) = true := by kernel_rfl
theorem ops_guard : Tryz.prog.eqGuardType Tryz.prog.depth 51 = false := by kernel_rfl
theorem ops_law : WideMaps.KeyLaw Tryz.prog 51 := deep_law_laid (by kernel_rfl) (m := 3) (by omega) (of_decide_eq_true (by kernel_rfl)) (by kernel_rfl) ops_wide
theorem ops_key {x : Rec} (h : x.Wf) : ∃ kl, keyOf Tryz.prog 51 x.opV = some kl := by
 obtain ⟨h1, h2, h3, h4, h5, h6, h7, h8, h9⟩ := h
 have w1 : (Lit.int .u8 x.k).wf = true := by simp [Lit.wf, IntKind.min, IntKind.max, IntKind.signed, IntKind.bits]; omega
 have w2 : (Lit.int .u32 x.fid).wf = true := by simp [Lit.wf, IntKind.min, IntKind.max, IntKind.signed, IntKind.bits]; omega
 have w3 : (Lit.int .u32 x.dir).wf = true := by simp [Lit.wf, IntKind.min, IntKind.max, IntKind.signed, IntKind.bits]; omega
 have w4 : (Lit.int .u32 x.to).wf = true := by simp [Lit.wf, IntKind.min, IntKind.max, IntKind.signed, IntKind.bits]; omega
 have w5 : (Lit.int .u16 x.md).wf = true := by simp [Lit.wf, IntKind.min, IntKind.max, IntKind.signed, IntKind.bits]; omega
 have : (keyOf Tryz.prog 51 x.opV).isSome = true := by
   have hkt : Tryz.prog.keyType 51 = true := by kernel_rfl
   have hc0 : Tryz.prog.cellsOf 51 = 8 := by kernel_rfl
   have hc1 : Tryz.prog.cellsOf 49 = 1 := by kernel_rfl
   have hc2 : Tryz.prog.cellsOf 31 = 1 := by kernel_rfl
   have hc3 : Tryz.prog.cellsOf 33 = 1 := by kernel_rfl
   have hc4 : Tryz.prog.cellsOf 9 = 1 := by kernel_rfl
   have hs : decide (1 ≤ Tryz.prog.types.size) = true := by kernel_rfl
   obtain ⟨d, hd⟩ : ∃ d, Tryz.prog.types.size = d + 1 := ⟨Tryz.prog.types.size - 1, by have := of_decide_eq_true hs; omega⟩
   unfold Rec.opV keyOf
   rw [Tryz.underlying51, hd]
   simp [hkt, Value.formed, Tryz.underlying51, Tryz.underlying33, Tryz.underlying9, hc0, hc3, hc4, Value.cells, Program.keyLits, Tryz.underlying49, Tryz.underlying31, hc1, hc2, w1, w2, w3, w4, w5, h7, h8, h9]
   try rw [if_pos (by decide)]
   try rfl
 exact Option.isSome_iff_exists.1 this
theorem ops_equal {x y : Rec} (hx : x.Wf) (hy : y.Wf) : ∃ r : Bool, (r = true ↔ x.opV = y.opV) ∧ ∀ w : World, (Op.equalIn 10000 51 x.opV y.opV).run Tryz.prog w = .ok r w := by
 obtain ⟨lx, ex⟩ := ops_key hx
 obtain ⟨ly, ey⟩ := ops_key hy
 classical
 refine ⟨decide (x.opV = y.opV), by simp, fun w => ?_⟩
 obtain ⟨r, hr, hiff⟩ := run_equal_deep (P := Tryz.prog) w (m := 3) (by omega) (k := 51) (by kernel_rfl) ops_wide ex ey
 have : r = decide (x.opV = y.opV) := by
   by_cases q : x.opV = y.opV
   · rw [q, ey] at ex
     cases ex
     simp [hiff, q]
   · simp only [q, decide_false]
     cases r with
     | false => rfl
     | true => exact absurd (ops_law.inj ex (by rw [hiff.1 rfl]; exact ey)) q
 rw [this] at hr
 exact hr
def OwB (w : World) (base : Nat) (v : Value) (zs : List Int) : Prop := w.ownsRow base 5 1 v zs.length (zs.map u8V)
theorem OwB.later {w w' : World} {base : Nat} {v : Value} {zs : List Int} (h : OwB w base v zs) (hb : Below w.heap.size w w') : OwB w' base v zs := own_latR h hb
theorem u8V_one (zs : List Int) : ∀ u ∈ zs.map u8V, u.oneCell' = true := fun u hu => by
 obtain ⟨z, _, rfl⟩ := List.mem_map.1 hu
 rfl
structure Kd where
 nm : ByteArray
 fid : Int
def Kd.no : Kd := ⟨⟨#[]⟩, 0⟩
def Kd.cells (x : Kd) : List Value := [.string x.nm, .int .u32 x.fid]
def Kd.val (x : Kd) : Value := .agg #[.string x.nm, .int .u32 x.fid]
def Kd.Wf (x : Kd) : Prop := x.nm.size ≤ maxLen ∧ 0 ≤ x.fid ∧ x.fid < 4294967296
def KdAt (w : World) (b o : Nat) (x : Kd) : Prop := w.cell? ⟨b, o, none⟩ = some (.string x.nm) ∧ w.cell? ⟨b, o + 1, none⟩ = some (.int .u32 x.fid)
def IsKs (w : World) (a : Option Addr) (l : List Kd) : Prop :=
 l.length ≤ maxLen ∧ (∀ x ∈ l, x.Wf) ∧ (0 < l.length → ∃ b off, a = some ⟨b, off, none⟩ ∧ ∀ i, i < l.length → KdAt w b (off + i * 2) (l.getD i Kd.no))
theorem IsKs.later {w w' : World} {a : Option Addr} {l : List Kd} (h : IsKs w a l) (hb : Below w.heap.size w w') : IsKs w' a l := by
 obtain ⟨h1, h2, h3⟩ := h
 refine ⟨h1, h2, fun hp => ?_⟩
 obtain ⟨b, off, e, hc⟩ := h3 hp
 exact ⟨b, off, e, fun i hi => ⟨cell_later hb (hc i hi).1, cell_later hb (hc i hi).2⟩⟩
theorem IsKs.at {w : World} {b off : Nat} {l : List Kd} {i : Nat} (h : IsKs w (some ⟨b, off, none⟩) l) (hi : i < l.length) : KdAt w b (off + i * 2) (l.getD i Kd.no) := by
 obtain ⟨b', off', e, hc⟩ := h.2.2 (by omega)
 cases e
 exact hc i hi
theorem IsKs.wf {w : World} {a : Option Addr} {l : List Kd} (h : IsKs w a l) {i : Nat} (hi : i < l.length) : (l.getD i Kd.no).Wf := by
 rw [List.getD, List.getElem?_eq_getElem hi]
 exact h.2.1 _ (List.getElem_mem _)
structure Nd where
 fid : Int
 k : Int
 md : Int
 ln : Int
 da : Option Addr
 dc : Nat
 zs : List Int
 ka : Option Addr
 kc : Nat
 ks : List Kd
def Nd.cells (x : Nd) : List Value := [.int .u32 x.fid, .int .u8 x.k, .int .u16 x.md, .int .u16 x.ln, .slice x.da x.zs.length x.dc, .slice x.ka x.ks.length x.kc]
def Nd.val (x : Nd) : Value := .agg #[.int .u32 x.fid, .int .u8 x.k, .int .u16 x.md, .int .u16 x.ln, .slice x.da x.zs.length x.dc, .slice x.ka x.ks.length x.kc]
def Nd.Ok (w : World) (x : Nd) : Prop := (0 ≤ x.fid ∧ x.fid < 4294967296) ∧ (0 ≤ x.k ∧ x.k < 256) ∧ (0 ≤ x.md ∧ x.md < 65536) ∧ (0 ≤ x.ln ∧ x.ln < 65536) ∧ IsB w x.da x.zs.length x.zs ∧ IsKs w x.ka x.ks
theorem Nd.Ok.later {w w' : World} {x : Nd} (h : x.Ok w) (hb : Below w.heap.size w w') : x.Ok w' := by
 obtain ⟨a, b, c, d, e, f⟩ := h
 exact ⟨a, b, c, d, e.later hb, f.later hb⟩
theorem nd_cells {w : World} {g : Nat} {x : Nd} {t : TypeId} {fr : Nat × Nat} (h : w.heap[g]? = some (.cells x.cells.toArray t fr)) : w.cell? ⟨g, 0, none⟩ = some (.int .u32 x.fid) ∧ w.cell? ⟨g, 1, none⟩ = some (.int .u8 x.k) ∧ w.cell? ⟨g, 2, none⟩ = some (.int .u16 x.md) ∧ w.cell? ⟨g, 3, none⟩ = some (.int .u16 x.ln) ∧ w.cell? ⟨g, 4, none⟩ = some (.slice x.da x.zs.length x.dc) ∧ w.cell? ⟨g, 5, none⟩ = some (.slice x.ka x.ks.length x.kc) := by
 refine ⟨?_, ?_, ?_, ?_, ?_, ?_⟩ <;> (rw [cell_of_row w g _ _ t fr h]; rfl)
theorem cell_of_row2 {w : World} {g j : Nat} {cs : Array Value} {t : TypeId} {fr : Nat × Nat} {v : Value} (h : w.heap[g]? = some (.cells cs t fr)) (_ : Nat := j) (hv : cs[j]? = some v) : w.cell? ⟨g, j, none⟩ = some v := by rw [cell_of_row w g _ _ t fr h]; exact hv
def leS (x y : ByteArray) : Bool := Op.bytesLess x.toList y.toList || x.toList == y.toList
def lastK (l : List Kd) (m : Nat) : ByteArray := if m = 0 then ⟨#[]⟩ else (l.getD (m - 1) Kd.no).nm
def kOk (l : List Kd) (i : Nat) : Bool := Pa.nameB (l.getD i Kd.no).nm.data.toList && !leS (l.getD i Kd.no).nm (lastK l i) && (l.getD i Kd.no).fid != 0
def kidsTo (l : List Kd) : Nat → Bool
 | 0 => true
 | m + 1 => kidsTo l m && kOk l m
def kidsOk (l : List Kd) : Bool := kidsTo l l.length
theorem kids_no (l : List Kd) (m : Nat) (h : kOk l m = false) : ∀ d, kidsTo l (m + 1 + d) = false
 | 0 => by simp [kidsTo, h]
 | d + 1 => by rw [← Nat.add_assoc]; simp [kidsTo, kids_no l m h d]
theorem kidsOk_no {l : List Kd} {m : Nat} (hm : m < l.length) (h : kOk l m = false) : kidsOk l = false := by
 unfold kidsOk
 obtain ⟨d, hd⟩ : ∃ d, l.length = m + 1 + d := ⟨l.length - (m + 1), by omega⟩
 rw [hd]; exact kids_no l m h d
theorem lastK_next (l : List Kd) (m : Nat) : lastK l (m + 1) = (l.getD m Kd.no).nm := by unfold lastK; simp
def nodeOk (x : Nd) : Bool := !(x.fid == 0 || decide (64 < x.zs.length) || decide (12 < x.ks.length)) && (bif x.k == 1 || x.k == 3 then decide (x.ks.length = 0) else bif x.k == 2 then decide (x.zs.length = 0) && kidsOk x.ks else false)
theorem conv_noneN (w : World) (p : Option Addr) (c : Nat) : (convert 34 9 (.slice p 0 c)).run Tryz.prog w = .ok (.string ByteArray.empty) w := by
 rw [run_convert_bytes_string w 34 9 5 _ 0 c Tryz.underlying34 Tryz.underlying5 Tryz.underlying9]
 cases p <;> simp [Conv.bytesToString, loadCells]
 all_goals rfl
theorem isB_convN {w : World} {b off len cap : Nat} {zs : List Int} (h : IsB w (some ⟨b, off, none⟩) len zs) (hp : 0 < len) : (convert 34 9 (.slice (some ⟨b, off, none⟩) len cap)).run Tryz.prog w = .ok (.string (Fr.tx zs)) w := by
 obtain ⟨h1, h2, h3, h4⟩ := h
 refine run_convert_bytes_arg w 34 5 Tryz.underlying34 Tryz.underlying5 b off len cap zs h1 (fun i hi => ?_) 9 Tryz.underlying9
 obtain ⟨b', off', e, hc⟩ := h3 (by omega)
 cases e
 exact hc i hi
theorem conv_anyN {w : World} {pa : Option Addr} {pc : Nat} {zs : List Int} (h : IsB w pa zs.length zs) : (convert 34 9 (.slice pa zs.length pc)).run Tryz.prog w = .ok (.string (Fr.tx zs)) w := by
 by_cases hp : 0 < zs.length
 · obtain ⟨b, off, rfl, _⟩ := h.2.2.1 hp
   exact isB_convN h hp
 · have h0 : zs.length = 0 := by omega
   rw [h0, conv_noneN, List.eq_nil_of_length_eq_zero h0]; rfl
theorem take_kid {l : List Kd} {m : Nat} (h : m < l.length) : l.take (m + 1) = l.take m ++ [l.getD m Kd.no] := by
 rw [List.take_add_one, List.getD, List.getElem?_eq_getElem h]; rfl
def InB (zs : List Int) : Prop := ∀ i, 0 ≤ zs.getD i 0 ∧ zs.getD i 0 ≤ 255
theorem InB.drop {zs : List Int} (h : InB zs) (k : Nat) : InB (zs.drop k) := fun i => by
 have := h (k + i)
 simpa [List.getD, List.getElem?_drop] using this
theorem InB.take {zs : List Int} (h : InB zs) (k : Nat) : InB (zs.take k) := fun i => by
 by_cases hi : i < k
 · have := h i
   simpa [List.getD, List.getElem?_take, hi] using this
 · simp [List.getD, List.getElem?_take, hi]
theorem own_low {w : World} {base base' e size n : Nat} {v : Value} {xs : List Value} (h : w.ownsRow base e size v n xs) (hb : base' ≤ base) : w.ownsRow base' e size v n xs := by
 refine ⟨h.1, ?_⟩
 rcases h.2 with h | ⟨g, cap, cur, e1, e2, e3, e4⟩
 · exact .inl h
 · exact .inr ⟨g, cap, cur, e1, by omega, e3, e4⟩
theorem own_set {w : World} {base e size n : Nat} {v : Value} {xs : List Value} {p : Addr} (h : w.ownsRow base e size v n xs) (hp : p.block < base) (u : Value) : (w.setCell p u).ownsRow base e size v n xs := by
 refine ⟨h.1, ?_⟩
 rcases h.2 with h | ⟨g, cap, cur, e1, e2, e3, e4⟩
 · exact .inl h
 · exact .inr ⟨g, cap, cur, e1, e2, by rw [heap_setCell_other _ _ _ _ (by omega)]; exact e3, e4⟩
theorem isB_newsF {w : World} {b off len : Nat} {zs : List Int} (h : IsB w (some ⟨b, off, none⟩) len zs) : ∀ j u, (zs.map u8V)[j]? = some u → w.cell? ((⟨b, off, none⟩ : Addr).add j) = some u := by
 obtain ⟨h1, h2, h3, h4⟩ := h
 intro j u hu
 rw [List.getElem?_map] at hu
 rcases hj : zs[j]? with _ | x
 · rw [hj] at hu; cases hu
 · rw [hj] at hu
   simp only [Option.map_some, Option.some.injEq] at hu
   subst hu
   have hlt : j < zs.length := by
     rcases Nat.lt_or_ge j zs.length with q | q
     · exact q
     · rw [List.getElem?_eq_none q] at hj; cases hj
   obtain ⟨b', off', e, hc⟩ := h3 (by omega)
   cases e
   have := hc j (by omega)
   have hx : zs.getD j 0 = x := by simp [List.getD, hj]
   rw [hx] at this
   show _ = some (Value.int .u8 x)
   rw [← this]
   congr 1
   unfold Addr.add
   split
   · rename_i q; rw [q]; rfl
   · rfl
def kcells (l : List Kd) : List Value := l.flatMap Kd.cells
theorem kcells_snoc (l : List Kd) (x : Kd) : kcells (l ++ [x]) = kcells l ++ x.cells := by unfold kcells; simp
theorem kcells_len (l : List Kd) : (kcells l).length = l.length * 2 := by
 unfold kcells
 induction l with
 | nil => rfl
 | cons x t ih => rw [List.flatMap_cons, List.length_append, ih, List.length_cons]; simp [Kd.cells]; omega
theorem kcells_get (l : List Kd) (i j : Nat) (hi : i < l.length) (hj : j < 2) : (kcells l)[i * 2 + j]? = (l.getD i Kd.no).cells[j]? := by
 induction l generalizing i with
 | nil => cases hi
 | cons x t ih =>
   unfold kcells
   rw [List.flatMap_cons]
   rcases i with _ | i
   · rw [List.getElem?_append_left (by simp [Kd.cells]; omega)]
     simp
   · rw [List.getElem?_append_right (by simp [Kd.cells]; omega)]
     have e : (i + 1) * 2 + j - x.cells.length = i * 2 + j := by simp [Kd.cells]; omega
     rw [e]
     have := ih i (by simpa using hi)
     unfold kcells at this
     rw [this]
     simp [List.getD]
theorem info_kid : ∃ i : TypeInfo, Tryz.prog.info? 65 = some i ∧ i.zero = some Kd.no.val ∧ i.size = 2 ∧ i.bytes = 24 := by
 have h : (Tryz.prog.info? 65).map (fun i => (i.zero, i.size, i.bytes)) = some (some Kd.no.val, 2, 24) := by kernel_rfl
 cases hi : Tryz.prog.info? 65 with
 | none => rw [hi] at h; cases h
 | some i => rw [hi] at h; simp at h; exact ⟨i, rfl, h.1, h.2.1, h.2.2⟩
theorem isKs_own {w : World} {base : Nat} {v : Value} {l : List Kd} (h : w.ownsRow base 65 2 v l.length (kcells l)) (hw : ∀ x ∈ l, x.Wf) (hm : l.length ≤ 100000) : ∃ a cap, v = .slice a l.length cap ∧ IsKs w a l ∧ l.length ≤ cap ∧ (a = none → cap = 0) := by
 rcases h.2 with ⟨hv, hn⟩ | ⟨g, cap, cur, hv, hrest⟩
 · have e : l = [] := List.eq_nil_of_length_eq_zero hn
   subst e
   exact ⟨none, 0, hv, ⟨Nat.zero_le _, (fun x hx => by cases hx), fun hp => absurd hp (by simp)⟩, Nat.zero_le _, fun _ => rfl⟩
 · refine ⟨_, _, hv, ⟨by unfold maxLen; omega, hw, fun hp => ⟨g, 0, rfl, fun i hi => ?_⟩⟩, hrest.2.2.1, fun e => by cases e⟩
   have key : ∀ j, j < 2 → ∀ u, (l.getD i Kd.no).cells[j]? = some u → w.cell? ⟨g, 0 + i * 2 + j, none⟩ = some u := fun j hj u hu => by
     have e := h.cells (g := g) (by rw [hv]; rfl) (i * 2 + j) u (by rw [kcells_get l i j hi hj]; exact hu)
     rw [← e]
     congr 1
     unfold Addr.add
     split
     · rename_i q; simp [q]
     · simp
   exact ⟨key 0 (by omega) _ rfl, key 1 (by omega) _ rfl⟩
theorem kid_news {w : World} {g : Nat} {x : Kd} {t : TypeId} {fr : Nat × Nat} (hb : w.heap[g]? = some (.cells x.cells.toArray t fr)) : ∀ j u, x.cells[j]? = some u → w.cell? ((⟨g, 0, none⟩ : Addr).add j) = some u := fun j u hu => by
 have e : (⟨g, 0, none⟩ : Addr).add j = ⟨g, 0 + j, none⟩ := by unfold Addr.add; split <;> simp_all
 rw [e, cell_of_row w g _ _ t fr hb]
 simpa using hu
theorem kid_one (x : Kd) : ∀ u ∈ x.cells, u.oneCell' = true := fun u hu => by
 simp [Kd.cells] at hu
 rcases hu with rfl | rfl <;> rfl
def Nd.lie (x : Nd) (da : Option Addr) (dc : Nat) (ka : Option Addr) (kc : Nat) : Nd := ⟨x.fid, x.k, x.md, x.ln, da, dc, x.zs, ka, kc, x.ks⟩
def Nd.no : Nd := ⟨0, 0, 0, 0, none, 0, [], none, 0, []⟩
def Nd.Wf (x : Nd) : Prop := (0 ≤ x.fid ∧ x.fid < 4294967296) ∧ (0 ≤ x.k ∧ x.k < 256) ∧ (0 ≤ x.md ∧ x.md < 65536) ∧ (0 ≤ x.ln ∧ x.ln < 65536) ∧ InB x.zs ∧ x.zs.length ≤ 255 ∧ (∀ q ∈ x.ks, q.Wf ∧ q.nm.size ≤ 255) ∧ x.ks.length ≤ 255
def RowAt (w : World) (base : Nat) (t : TypeId) (p : Option Addr) (vs : List Value) : Prop := vs = [] ∨ ∃ (g : Nat) (cs : Array Value) (fr : Nat × Nat), p = some ⟨g, 0, none⟩ ∧ base ≤ g ∧ w.heap[g]? = some (.cells cs t fr) ∧ ∀ (i : Nat) (u : Value), vs[i]? = some u → cs[i]? = some u
theorem RowAt.later {w w' : World} {base : Nat} {t : TypeId} {p : Option Addr} {vs : List Value} (h : RowAt w base t p vs) (hb : Below w.heap.size w w') : RowAt w' base t p vs := by
 rcases h with h | ⟨g, cs, fr, h1, h2, h3, h4⟩
 · exact .inl h
 · exact .inr ⟨g, cs, fr, h1, h2, (hb.block _ (lt_blkR h3)).trans h3, h4⟩
theorem RowAt.own {w : World} {base : Nat} {t : TypeId} {sz n : Nat} {v : Value} {p : Option Addr} {m c : Nat} {vs : List Value} (h : w.ownsRow base t sz v n vs) (hv : v = .slice p m c) (hl : n = 0 → vs = []) : RowAt w base t p vs := by
 rcases h.2 with ⟨h1, h2⟩ | ⟨g, cap, cur, h1, h2, h3, h4⟩
 · exact .inl (hl h2)
 · rw [h1] at hv
   simp only [Value.slice.injEq] at hv
   refine .inr ⟨g, cur, _, hv.1.symm, h2, h3, fun i u hu => ?_⟩
   have e := h.cells (g := g) (by rw [h1]; rfl) i u hu
   have e2 : (⟨g, 0, none⟩ : Addr).add i = ⟨g, i, none⟩ := by unfold Addr.add; split <;> simp_all
   rw [e2, cell_of_row w g _ _ t _ h3] at e
   exact e
theorem RowAt.grown {w w' : World} {base b sz n : Nat} {t e : TypeId} {p : Option Addr} {vs xs : List Value} {v : Value} (h : RowAt w base t p vs) (hown : w.ownsRow b e sz v n xs) (hne : t ≠ e) (hg : w.grownBy w' v.ownBlock) : RowAt w' base t p vs := by
 rcases h with h | ⟨g, cs, fr, h1, h2, h3, h4⟩
 · exact .inl h
 · refine .inr ⟨g, cs, fr, h1, h2, (hg.block g (lt_blkR h3) (fun q => ?_)).trans h3, h4⟩
   rcases hown.2 with ⟨rfl, _⟩ | ⟨g', cap, cur, rfl, _, hg', _⟩
   · cases q
   · cases q
     rw [hg'] at h3
     cases h3
     exact hne rfl
def ncells (l : List Nd) : List Value := l.flatMap Nd.cells
theorem ncells_snoc (l : List Nd) (x : Nd) : ncells (l ++ [x]) = ncells l ++ x.cells := by unfold ncells; simp
theorem ncells_get (l : List Nd) (i j : Nat) (hi : i < l.length) (hj : j < 6) : (ncells l)[i * 6 + j]? = (l.getD i Nd.no).cells[j]? := by
 induction l generalizing i with
 | nil => cases hi
 | cons x t ih =>
   unfold ncells
   rw [List.flatMap_cons]
   rcases i with _ | i
   · rw [List.getElem?_append_left (by simp [Nd.cells]; omega)]
     simp
   · rw [List.getElem?_append_right (by simp [Nd.cells]; omega)]
     have e : (i + 1) * 6 + j - x.cells.length = i * 6 + j := by simp [Nd.cells]; omega
     rw [e]
     have := ih i (by simpa using hi)
     unfold ncells at this
     rw [this]
     simp [List.getD]
theorem info_nd : ∃ i : TypeInfo, Tryz.prog.info? 37 = some i ∧ i.zero = some Nd.no.val ∧ i.size = 6 ∧ i.bytes = 64 := by
 have h : (Tryz.prog.info? 37).map (fun i => (i.zero, i.size, i.bytes)) = some (some Nd.no.val, 6, 64) := by kernel_rfl
 cases hi : Tryz.prog.info? 37 with
 | none => rw [hi] at h; cases h
 | some i => rw [hi] at h; simp at h; exact ⟨i, rfl, h.1, h.2.1, h.2.2⟩
theorem nd_news {w : World} {g : Nat} {x : Nd} {t : TypeId} {fr : Nat × Nat} (hb : w.heap[g]? = some (.cells x.cells.toArray t fr)) : ∀ j u, x.cells[j]? = some u → w.cell? ((⟨g, 0, none⟩ : Addr).add j) = some u := fun j u hu => by
 have e : (⟨g, 0, none⟩ : Addr).add j = ⟨g, 0 + j, none⟩ := by unfold Addr.add; split <;> simp_all
 rw [e, cell_of_row w g _ _ t fr hb]
 simpa using hu
theorem nd_one (x : Nd) : ∀ u ∈ x.cells, u.oneCell' = true := fun u hu => by
 simp [Nd.cells] at hu
 rcases hu with rfl | rfl | rfl | rfl | rfl | rfl <;> rfl
end Go.Proofs.YtkokjkaclcjnjaaGreatDoor
