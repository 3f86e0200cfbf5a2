/-
  Operations, entries and nodes in memory; the document's RightOp, Alone; the program's RightOp. (Written by nodebase.py out of the record's texts.)
-/
import Derived.Test.YtkokjkaclcjnjaaDoorBkAc
import Derived.Test.YtkokjkaclcjnjaaDoorBkAd
import Derived.Test.YtkokjkaclcjnjaaDoorBkAe
import Derived.Test.YtkokjkaclcjnjaaDoorBkAf
import Derived.ChangeArms
import Derived.ChangeOld
import Derived.Below
import Derived.Deep.CutRange
import Derived.Laws.AppendOwnNone
import Derived.Deep.RegionLaw
import Derived.Deep.LoopGhost
import Derived.Laws.BitsLemmas
import Derived.Shelf.Abstract
import Derived.Defers
import Derived.Recover
import Derived.Laws.Pointers
import Derived.Deep.QuietTactic
import Derived.Maps.OwnOps
import Derived.Maps.Views
import Derived.DeepKeys4
import Derived.RegionTactic
import Derived.ChangeAlike
import Derived.BigRegion
import Derived.BigQuiet
import Derived.Laws.IdiomStrings
namespace Go.Proofs.YtkokjkaclcjnjaaDoor
open Go.RowKit Go.ChangeShapes Go.WideShapes Go.ChangeAt Go.Maps Go.Shelf
set_option linter.unusedVariables false
set_option linter.unusedSimpArgs false
set_option maxRecDepth 100000
def Rec.ops (x : Rec) : List Value := [.int .u8 x.k, .int .u32 x.fid, .int .u32 x.dir, .string x.nm, .int .u32 x.to, .string x.nm2, .int .u16 x.md, .string x.dt]
def Rec.Wf (x : Rec) : Prop := (0 ≤ x.k ∧ x.k < 256) ∧ (0 ≤ x.fid ∧ x.fid < 4294967296) ∧ (0 ≤ x.dir ∧ x.dir < 4294967296) ∧ (0 ≤ x.to ∧ x.to < 4294967296) ∧ (0 ≤ x.md ∧ x.md < 65536) ∧ (0 ≤ x.sn ∧ x.sn < 18446744073709551616) ∧ x.nm.size ≤ maxLen ∧ x.nm2.size ≤ maxLen ∧ x.dt.size ≤ maxLen
def Rec.no : Rec := ⟨0, 0, 0, ⟨#[]⟩, 0, ⟨#[]⟩, 0, ⟨#[]⟩, 0⟩
theorem bd_u16r {a : Int} (h : (Lit.int .u16 a).wf = true) : 0 ≤ a ∧ a < 65536 := by
 simp [Lit.wf, IntKind.min, IntKind.max, IntKind.signed, IntKind.bits] at h; omega
theorem lt_blkR {w : World} {b : Nat} {o : Obj} (h : w.heap[b]? = some o) : b < w.heap.size := (Array.getElem?_eq_some_iff.1 h).1
theorem own_latR {w w' : World} {base e size n : Nat} {v : Value} {xs : List Value} (h : w.ownsRow base e size v n xs) (hb : Below w.heap.size w w') : w'.ownsRow base e size v n xs := by
 refine ⟨h.1, ?_⟩
 rcases h.2 with h | ⟨g, cap, cur, e1, e2, e3, e4⟩
 · exact .inl h
 · exact .inr ⟨g, cap, cur, e1, e2, (hb.block g (lt_blkR e3)).trans e3, e4⟩
def pFid (k : Int) : Bool := k == 1 || k == 2 || k == 3 || k == 4 || k == 8 || k == 9
def pEnt (k : Int) : Bool := k == 1 || k == 2 || k == 3 || k == 4 || k == 5 || k == 6 || k == 7
def pGoal (k : Int) : Bool := k == 7
def pMode (k : Int) : Bool := k == 1 || k == 2 || k == 3 || k == 9
def pData (k : Int) : Bool := k == 3 || k == 8
def pOk (k : Int) : Bool := k == 1 || k == 2 || k == 3 || k == 4 || k == 5 || k == 6 || k == 7 || k == 8 || k == 9
def mkF (k : Int) : Bool := k == 1 || k == 2 || k == 3
def entF (named : Bool) (f : Int) (s : ByteArray) : Bool := if named then f != 0 && Pa.nameB s.data.toList else f == 0 && s.toList == []
def datF (named : Bool) (s : ByteArray) : Bool := if named then decide (s.size ≤ 64) else s.toList == []
def rightF (x : Rec) : Bool := !(!pOk x.k || (pFid x.k != (x.fid != 0)) || (mkF x.k && x.fid == 1)) && (entF (pEnt x.k) x.dir x.nm && entF (pGoal x.k) x.to x.nm2 && (pMode x.k || x.md == 0) && datF (pData x.k) x.dt)
theorem below_1 (w : World) (o : Obj) : Below w.heap.size w (w.alloc o) := (Below.refl _ _).alloc (Nat.le_refl _) _
structure Kd where
 nm : ByteArray
 fid : Int
def Kd.no : Kd := ⟨⟨#[]⟩, 0⟩
def Kd.cells (x : Kd) : List Value := [.string x.nm, .int .u32 x.fid]
def Kd.val (x : Kd) : Value := .agg #[.string x.nm, .int .u32 x.fid]
def Kd.Wf (x : Kd) : Prop := x.nm.size ≤ maxLen ∧ 0 ≤ x.fid ∧ x.fid < 4294967296
def KdAt (w : World) (b o : Nat) (x : Kd) : Prop := w.cell? ⟨b, o, none⟩ = some (.string x.nm) ∧ w.cell? ⟨b, o + 1, none⟩ = some (.int .u32 x.fid)
def IsKs (w : World) (a : Option Addr) (l : List Kd) : Prop :=
 l.length ≤ maxLen ∧ (∀ x ∈ l, x.Wf) ∧ (0 < l.length → ∃ b off, a = some ⟨b, off, none⟩ ∧ ∀ i, i < l.length → KdAt w b (off + i * 2) (l.getD i Kd.no))
theorem IsKs.later {w w' : World} {a : Option Addr} {l : List Kd} (h : IsKs w a l) (hb : Below w.heap.size w w') : IsKs w' a l := by
 obtain ⟨h1, h2, h3⟩ := h
 refine ⟨h1, h2, fun hp => ?_⟩
 obtain ⟨b, off, e, hc⟩ := h3 hp
 exact ⟨b, off, e, fun i hi => ⟨cell_later hb (hc i hi).1, cell_later hb (hc i hi).2⟩⟩
theorem IsKs.at {w : World} {b off : Nat} {l : List Kd} {i : Nat} (h : IsKs w (some ⟨b, off, none⟩) l) (hi : i < l.length) : KdAt w b (off + i * 2) (l.getD i Kd.no) := by
 obtain ⟨b', off', e, hc⟩ := h.2.2 (by omega)
 cases e
 exact hc i hi
theorem IsKs.wf {w : World} {a : Option Addr} {l : List Kd} (h : IsKs w a l) {i : Nat} (hi : i < l.length) : (l.getD i Kd.no).Wf := by
 rw [List.getD, List.getElem?_eq_getElem hi]
 exact h.2.1 _ (List.getElem_mem _)
structure Nd where
 fid : Int
 k : Int
 md : Int
 ln : Int
 da : Option Addr
 dc : Nat
 zs : List Int
 ka : Option Addr
 kc : Nat
 ks : List Kd
def Nd.cells (x : Nd) : List Value := [.int .u32 x.fid, .int .u8 x.k, .int .u16 x.md, .int .u16 x.ln, .slice x.da x.zs.length x.dc, .slice x.ka x.ks.length x.kc]
def Nd.val (x : Nd) : Value := .agg #[.int .u32 x.fid, .int .u8 x.k, .int .u16 x.md, .int .u16 x.ln, .slice x.da x.zs.length x.dc, .slice x.ka x.ks.length x.kc]
def Nd.Ok (w : World) (x : Nd) : Prop := (0 ≤ x.fid ∧ x.fid < 4294967296) ∧ (0 ≤ x.k ∧ x.k < 256) ∧ (0 ≤ x.md ∧ x.md < 65536) ∧ (0 ≤ x.ln ∧ x.ln < 65536) ∧ IsB w x.da x.zs.length x.zs ∧ IsKs w x.ka x.ks
theorem Nd.Ok.later {w w' : World} {x : Nd} (h : x.Ok w) (hb : Below w.heap.size w w') : x.Ok w' := by
 obtain ⟨a, b, c, d, e, f⟩ := h
 exact ⟨a, b, c, d, e.later hb, f.later hb⟩
theorem isB_trod {H : Type} {enc : TypeId × Value → H} {P : Program} {W : World} {t e : TypeId} {v : Value} {fuel : Nat} {x : DataW H × List MemPlace} {sp : Nat → Bool} {hd : Bool} {b0 : Nat}
   (ht : P.underlying t = some (.slice e)) (he : P.underlying e = some (.int .u8)) (hc : P.cellsOf e = 1)
   (hf : DataW.trod enc P W b0 sp hd fuel t [v] = some x) (hsp : ∀ k, sp k = true) : ∃ a cap zs, v = .slice a zs.length cap ∧ IsB W a zs.length zs := by
 rcases open_ints ht he hc hf with ⟨hcs, _⟩ | ⟨x, l, c, zs, hcs, _, hl, hm, hz, _, hcell, hwz⟩
 · simp at hcs
   exact ⟨none, 0, [], hcs, rfl, Nat.zero_le _, fun h => absurd h (by simp), fun i => by simp⟩
 · simp at hcs
   rw [hsp] at hz
   have hz' : zs.length = c := by simpa using hz
   have hlt : (zs.take l).length = l := by rw [List.length_take]; omega
   refine ⟨some x, c, zs.take l, by rw [hlt]; exact hcs, rfl, by omega, fun hp => ?_, fun i => ?_⟩
   · obtain ⟨b, off, spot⟩ := x
     have hc0 := hcell 0 (by omega)
     have hspot : spot = none := by simpa [Addr.add] using World.cell?_spot hc0
     subst hspot
     refine ⟨b, off, rfl, fun i hi => ?_⟩
     have hi2 : i < l := by omega
     have h := hcell i (by omega)
     have h2 : (⟨b, off, none⟩ : Addr).add i = ⟨b, off + i, none⟩ := by rcases i with _ | i <;> simp [Addr.add]
     rw [h2] at h
     rw [h]
     simp [List.getD, List.getElem?_take, hi2]
   · by_cases hi : i < l
     · have hmem : (zs.take l).getD i 0 ∈ zs := by
         have : i < zs.length := by omega
         simp [List.getD, List.getElem?_take, hi, this]
       have := bd_u8 (hwz _ hmem)
       omega
     · simp [List.getD, List.getElem?_take, hi]
theorem trod_kid {H : Type} {enc : TypeId × Value → H} {W : World} {cs : List Value} {fuel : Nat} {x : DataW H × List MemPlace} {sp : Nat → Bool} {hd : Bool} {b0 : Nat} (hf : DataW.trod enc Tryd.prog W b0 sp hd fuel 71 cs = some x) :
   ∃ q : Kd, cs = q.cells ∧ q.Wf := by
 obtain ⟨xs, m, _, _, hlc, hlen, hel⟩ := DataW.trod_struct Tryd.underlying71 hf
 have hct : Tryd.prog.cellsOf 71 = 2 := by kernel_rfl
 have e1 : Tryd.prog.cellsOf 9 = 1 := by kernel_rfl
 have e2 : Tryd.prog.cellsOf 29 = 1 := by kernel_rfl
 rw [hct] at hlc
 match cs, hlc with
 | [c0, c1], _ =>
   match xs, hlen with
   | [x0, x1], _ =>
     have h0 := hel 0 _ rfl
     have h1 := hel 1 _ rfl
     simp [e1, e2] at h0 h1
     obtain ⟨s0, q0, _, w0⟩ := DataW.trod_string Tryd.underlying9 h0
     obtain ⟨n1, q1, _, w1⟩ := DataW.trod_int Tryd.underlying29 h1
     simp at q0 q1
     subst q0 q1
     exact ⟨⟨s0, n1⟩, rfl, w0, (bd_u32 w1).1, (bd_u32 w1).2⟩
theorem isKs_trod {H : Type} {enc : TypeId × Value → H} {W : World} {t : TypeId} {v : Value} {fuel : Nat} {y : DataW H × List MemPlace} {sp : Nat → Bool} {hd : Bool} {b0 : Nat} (ht : Tryd.prog.underlying t = some (.slice 71))
   (hf : DataW.trod enc Tryd.prog W b0 sp hd fuel t [v] = some y) (hsp : ∀ k, sp k = true) : ∃ a cap, ∃ l : List Kd, v = .slice a l.length cap ∧ IsKs W a l := by
 have hct : Tryd.prog.cellsOf 71 = 2 := by kernel_rfl
 rcases DataW.trod_slice ht hf with ⟨hcs, _⟩ | ⟨x, len, c, elems, rest, n, _, hcs, _, hb, hl, hm, hlen, hel, _⟩
 · simp at hcs
   exact ⟨none, 0, [], hcs, Nat.zero_le _, (fun x hx => by cases hx), (fun h => absurd h (by simp))⟩
 · simp at hcs
   rw [hct] at hel
   have each : ∀ i, i < len → ∃ q : Kd, (∀ j, j < 2 → W.cell? ((x.add (i * 2)).add j) = (q.cells)[j]?) ∧ q.Wf := by
     intro i hi
     have h1 := hel i (by omega)
     have h2 : elems[i]? = some elems[i] := List.getElem?_eq_getElem (by omega)
     rw [h2, Option.bind_eq_some_iff] at h1
     obtain ⟨cs, hc, hy⟩ := h1
     obtain ⟨q, hq, hw⟩ := trod_kid hy
     obtain ⟨_, hl6, hg⟩ := World.cells?_some hc
     refine ⟨q, fun j hj => ?_, hw⟩
     rw [hg j hj, hq]
   obtain ⟨f, hf'⟩ : ∃ f : Nat → Kd, ∀ i, i < len → (∀ j, j < 2 → W.cell? ((x.add (i * 2)).add j) = ((f i).cells)[j]?) ∧ (f i).Wf := by
     classical
     refine ⟨fun i => if h : i < len then (each i h).choose else Kd.no, fun i hi => ?_⟩
     simp only [hi, dif_pos]
     exact (each i hi).choose_spec
   refine ⟨some x, c, (List.range len).map f, by simpa using hcs, by simp; omega, fun q hq => ?_, fun hp => ?_⟩
   · obtain ⟨i, hi, rfl⟩ := List.mem_map.1 hq
     exact (hf' i (List.mem_range.1 hi)).2
   · rw [List.length_map, List.length_range] at hp
     obtain ⟨b, off, spot⟩ := x
     have hc0 := (hf' 0 hp).1 0 (by omega)
     have hspot : spot = none := by
       have e0 : ((f 0).cells)[0]? = some (.string (f 0).nm) := rfl
       rw [e0] at hc0
       simpa [Addr.add] using World.cell?_spot hc0
     subst hspot
     refine ⟨b, off, rfl, fun i hi => ?_⟩
     rw [List.length_map, List.length_range] at hi
     have hadd : ∀ j, ((⟨b, off, none⟩ : Addr).add (i * 2)).add j = ⟨b, off + i * 2 + j, none⟩ := fun j => by unfold Addr.add; split <;> split <;> simp_all <;> omega
     have key := (hf' i hi).1
     have g : ((List.range len).map f).getD i Kd.no = f i := by simp [List.getD, hi]
     rw [g]
     have k0 := key 0 (by omega)
     have k1 := key 1 (by omega)
     rw [hadd] at k0 k1
     exact ⟨k0, k1⟩
theorem nd_cells {w : World} {g : Nat} {x : Nd} {t : TypeId} {fr : Nat × Nat} (h : w.heap[g]? = some (.cells x.cells.toArray t fr)) : w.cell? ⟨g, 0, none⟩ = some (.int .u32 x.fid) ∧ w.cell? ⟨g, 1, none⟩ = some (.int .u8 x.k) ∧ w.cell? ⟨g, 2, none⟩ = some (.int .u16 x.md) ∧ w.cell? ⟨g, 3, none⟩ = some (.int .u16 x.ln) ∧ w.cell? ⟨g, 4, none⟩ = some (.slice x.da x.zs.length x.dc) ∧ w.cell? ⟨g, 5, none⟩ = some (.slice x.ka x.ks.length x.kc) := by
 refine ⟨?_, ?_, ?_, ?_, ?_, ?_⟩ <;> (rw [cell_of_row w g _ _ t fr h]; rfl)
theorem cell_of_row2 {w : World} {g j : Nat} {cs : Array Value} {t : TypeId} {fr : Nat × Nat} {v : Value} (h : w.heap[g]? = some (.cells cs t fr)) (_ : Nat := j) (hv : cs[j]? = some v) : w.cell? ⟨g, j, none⟩ = some v := by rw [cell_of_row w g _ _ t fr h]; exact hv
def leS (x y : ByteArray) : Bool := Op.bytesLess x.toList y.toList || x.toList == y.toList
def lastK (l : List Kd) (m : Nat) : ByteArray := if m = 0 then ⟨#[]⟩ else (l.getD (m - 1) Kd.no).nm
def kOk (l : List Kd) (i : Nat) : Bool := Pa.nameB (l.getD i Kd.no).nm.data.toList && !leS (l.getD i Kd.no).nm (lastK l i) && (l.getD i Kd.no).fid != 0
def kidsTo (l : List Kd) : Nat → Bool
 | 0 => true
 | m + 1 => kidsTo l m && kOk l m
def kidsOk (l : List Kd) : Bool := kidsTo l l.length
theorem lastK_next (l : List Kd) (m : Nat) : lastK l (m + 1) = (l.getD m Kd.no).nm := by unfold lastK; simp
def nodeOk (x : Nd) : Bool := !(x.fid == 0 || decide (64 < x.zs.length) || decide (12 < x.ks.length)) && (bif x.k == 1 || x.k == 3 then decide (x.ks.length = 0) else bif x.k == 2 then decide (x.zs.length = 0) && kidsOk x.ks else false)
theorem conv_noneN (w : World) (p : Option Addr) (c : Nat) : (convert 32 9 (.slice p 0 c)).run Tryd.prog w = .ok (.string ByteArray.empty) w := by
 rw [run_convert_bytes_string w 32 9 5 _ 0 c Tryd.underlying32 Tryd.underlying5 Tryd.underlying9]
 cases p <;> simp [Conv.bytesToString, loadCells]
 all_goals rfl
theorem isB_convN {w : World} {b off len cap : Nat} {zs : List Int} (h : IsB w (some ⟨b, off, none⟩) len zs) (hp : 0 < len) : (convert 32 9 (.slice (some ⟨b, off, none⟩) len cap)).run Tryd.prog w = .ok (.string (Fr.tx zs)) w := by
 obtain ⟨h1, h2, h3, h4⟩ := h
 refine run_convert_bytes_arg w 32 5 Tryd.underlying32 Tryd.underlying5 b off len cap zs h1 (fun i hi => ?_) 9 Tryd.underlying9
 obtain ⟨b', off', e, hc⟩ := h3 (by omega)
 cases e
 exact hc i hi
theorem conv_anyN {w : World} {pa : Option Addr} {pc : Nat} {zs : List Int} (h : IsB w pa zs.length zs) : (convert 32 9 (.slice pa zs.length pc)).run Tryd.prog w = .ok (.string (Fr.tx zs)) w := by
 by_cases hp : 0 < zs.length
 · obtain ⟨b, off, rfl, _⟩ := h.2.2.1 hp
   exact isB_convN h hp
 · have h0 : zs.length = 0 := by omega
   rw [h0, conv_noneN, List.eq_nil_of_length_eq_zero h0]; rfl
theorem take_kid {l : List Kd} {m : Nat} (h : m < l.length) : l.take (m + 1) = l.take m ++ [l.getD m Kd.no] := by
 rw [List.take_add_one, List.getD, List.getElem?_eq_getElem h]; rfl
def InB (zs : List Int) : Prop := ∀ i, 0 ≤ zs.getD i 0 ∧ zs.getD i 0 ≤ 255
theorem InB.drop {zs : List Int} (h : InB zs) (k : Nat) : InB (zs.drop k) := fun i => by
 have := h (k + i)
 simpa [List.getD, List.getElem?_drop] using this
theorem InB.take {zs : List Int} (h : InB zs) (k : Nat) : InB (zs.take k) := fun i => by
 by_cases hi : i < k
 · have := h i
   simpa [List.getD, List.getElem?_take, hi] using this
 · simp [List.getD, List.getElem?_take, hi]
def kcells (l : List Kd) : List Value := l.flatMap Kd.cells
theorem kcells_snoc (l : List Kd) (x : Kd) : kcells (l ++ [x]) = kcells l ++ x.cells := by unfold kcells; simp
theorem kcells_len (l : List Kd) : (kcells l).length = l.length * 2 := by
 unfold kcells
 induction l with
 | nil => rfl
 | cons x t ih => rw [List.flatMap_cons, List.length_append, ih, List.length_cons]; simp [Kd.cells]; omega
theorem kcells_get (l : List Kd) (i j : Nat) (hi : i < l.length) (hj : j < 2) : (kcells l)[i * 2 + j]? = (l.getD i Kd.no).cells[j]? := by
 induction l generalizing i with
 | nil => cases hi
 | cons x t ih =>
   unfold kcells
   rw [List.flatMap_cons]
   rcases i with _ | i
   · rw [List.getElem?_append_left (by simp [Kd.cells]; omega)]
     simp
   · rw [List.getElem?_append_right (by simp [Kd.cells]; omega)]
     have e : (i + 1) * 2 + j - x.cells.length = i * 2 + j := by simp [Kd.cells]; omega
     rw [e]
     have := ih i (by simpa using hi)
     unfold kcells at this
     rw [this]
     simp [List.getD]
theorem info_kid : ∃ i : TypeInfo, Tryd.prog.info? 71 = some i ∧ i.zero = some Kd.no.val ∧ i.size = 2 ∧ i.bytes = 24 := by
 have h : (Tryd.prog.info? 71).map (fun i => (i.zero, i.size, i.bytes)) = some (some Kd.no.val, 2, 24) := by kernel_rfl
 cases hi : Tryd.prog.info? 71 with
 | none => rw [hi] at h; cases h
 | some i => rw [hi] at h; simp at h; exact ⟨i, rfl, h.1, h.2.1, h.2.2⟩
theorem kid_news {w : World} {g : Nat} {x : Kd} {t : TypeId} {fr : Nat × Nat} (hb : w.heap[g]? = some (.cells x.cells.toArray t fr)) : ∀ j u, x.cells[j]? = some u → w.cell? ((⟨g, 0, none⟩ : Addr).add j) = some u := fun j u hu => by
 have e : (⟨g, 0, none⟩ : Addr).add j = ⟨g, 0 + j, none⟩ := by unfold Addr.add; split <;> simp_all
 rw [e, cell_of_row w g _ _ t fr hb]
 simpa using hu
theorem kid_one (x : Kd) : ∀ u ∈ x.cells, u.oneCell' = true := fun u hu => by
 simp [Kd.cells] at hu
 rcases hu with rfl | rfl <;> rfl
def Nd.lie (x : Nd) (da : Option Addr) (dc : Nat) (ka : Option Addr) (kc : Nat) : Nd := ⟨x.fid, x.k, x.md, x.ln, da, dc, x.zs, ka, kc, x.ks⟩
def Nd.no : Nd := ⟨0, 0, 0, 0, none, 0, [], none, 0, []⟩
def Nd.Wf (x : Nd) : Prop := (0 ≤ x.fid ∧ x.fid < 4294967296) ∧ (0 ≤ x.k ∧ x.k < 256) ∧ (0 ≤ x.md ∧ x.md < 65536) ∧ (0 ≤ x.ln ∧ x.ln < 65536) ∧ InB x.zs ∧ x.zs.length ≤ 255 ∧ (∀ q ∈ x.ks, q.Wf ∧ q.nm.size ≤ 255) ∧ x.ks.length ≤ 255
def RowAt (w : World) (base : Nat) (t : TypeId) (p : Option Addr) (vs : List Value) : Prop := vs = [] ∨ ∃ (g : Nat) (cs : Array Value) (fr : Nat × Nat), p = some ⟨g, 0, none⟩ ∧ base ≤ g ∧ w.heap[g]? = some (.cells cs t fr) ∧ ∀ (i : Nat) (u : Value), vs[i]? = some u → cs[i]? = some u
theorem RowAt.later {w w' : World} {base : Nat} {t : TypeId} {p : Option Addr} {vs : List Value} (h : RowAt w base t p vs) (hb : Below w.heap.size w w') : RowAt w' base t p vs := by
 rcases h with h | ⟨g, cs, fr, h1, h2, h3, h4⟩
 · exact .inl h
 · exact .inr ⟨g, cs, fr, h1, h2, (hb.block _ (lt_blkR h3)).trans h3, h4⟩
theorem RowAt.own {w : World} {base : Nat} {t : TypeId} {sz n : Nat} {v : Value} {p : Option Addr} {m c : Nat} {vs : List Value} (h : w.ownsRow base t sz v n vs) (hv : v = .slice p m c) (hl : n = 0 → vs = []) : RowAt w base t p vs := by
 rcases h.2 with ⟨h1, h2⟩ | ⟨g, cap, cur, h1, h2, h3, h4⟩
 · exact .inl (hl h2)
 · rw [h1] at hv
   simp only [Value.slice.injEq] at hv
   refine .inr ⟨g, cur, _, hv.1.symm, h2, h3, fun i u hu => ?_⟩
   have e := h.cells (g := g) (by rw [h1]; rfl) i u hu
   have e2 : (⟨g, 0, none⟩ : Addr).add i = ⟨g, i, none⟩ := by unfold Addr.add; split <;> simp_all
   rw [e2, cell_of_row w g _ _ t _ h3] at e
   exact e
theorem RowAt.grown {w w' : World} {base b sz n : Nat} {t e : TypeId} {p : Option Addr} {vs xs : List Value} {v : Value} (h : RowAt w base t p vs) (hown : w.ownsRow b e sz v n xs) (hne : t ≠ e) (hg : w.grownBy w' v.ownBlock) : RowAt w' base t p vs := by
 rcases h with h | ⟨g, cs, fr, h1, h2, h3, h4⟩
 · exact .inl h
 · refine .inr ⟨g, cs, fr, h1, h2, (hg.block g (lt_blkR h3) (fun q => ?_)).trans h3, h4⟩
   rcases hown.2 with ⟨rfl, _⟩ | ⟨g', cap, cur, rfl, _, hg', _⟩
   · cases q
   · cases q
     rw [hg'] at h3
     cases h3
     exact hne rfl
theorem kid_wide : (match Tryd.prog.underlying 71 with | some (.array _ _) | some (.struct _) => true | _ => false) = true := by kernel_rfl
theorem kid_guard : Tryd.prog.eqGuardType Tryd.prog.depth 71 = false := by kernel_rfl
theorem kid_key {x : Kd} (h : x.Wf) : ∃ kl, keyOf Tryd.prog 71 x.val = some kl := by
 obtain ⟨h1, h2, h3⟩ := h
 have w2 : (Lit.int .u32 x.fid).wf = true := by simp [Lit.wf, IntKind.min, IntKind.max, IntKind.signed, IntKind.bits]; omega
 have : (keyOf Tryd.prog 71 x.val).isSome = true := by
   have hkt : Tryd.prog.keyType 71 = true := by kernel_rfl
   have hc : Tryd.prog.cellsOf 71 = 2 := by kernel_rfl
   have hc2 : Tryd.prog.cellsOf 29 = 1 := by kernel_rfl
   have hc4 : Tryd.prog.cellsOf 9 = 1 := by kernel_rfl
   have hs : decide (2 ≤ Tryd.prog.types.size) = true := by kernel_rfl
   obtain ⟨d, hd⟩ : ∃ d, Tryd.prog.types.size = d + 2 := ⟨Tryd.prog.types.size - 2, by have := of_decide_eq_true hs; omega⟩
   unfold Kd.val keyOf
   rw [Tryd.underlying71, hd]
   simp [hkt, Value.formed, Tryd.underlying71, Tryd.underlying9, hc, hc4, Value.cells, Program.keyLits, Tryd.underlying29, hc2, w2, h1]
 exact Option.isSome_iff_exists.1 this
theorem kid_equal (w : World) {x : Kd} (hx : x.Wf) : (Op.equalIn 10000 71 x.val x.val).run Tryd.prog w = .ok true w := by
 obtain ⟨lx, ex⟩ := kid_key hx
 obtain ⟨r, hr, hiff⟩ := run_equal_deep (P := Tryd.prog) w (m := 3) (by omega) (k := 71) (by kernel_rfl) kid_wide ex ex
 rw [hiff.2 rfl] at hr
 exact hr
set_option maxHeartbeats 4000000 in
theorem sameNode_c (x : Nd) (da : Option Addr) (dc : Nat) (ka : Option Addr) (kc : Nat) (db : Option Addr) (dd : Nat) (kb : Option Addr) (kd : Nat) (w : World) (hx : (x.lie da dc ka kc).Ok w) (hy : (x.lie db dd kb kd).Ok w) (hm : x.ks.length ≤ 100000) :
   Calls Tryd.prog 47 #[(x.lie da dc ka kc).val, (x.lie db dd kb kd).val] w fun e w' => e = .returned (.bool true) ∧ Below w.heap.size w w' := by
 have b0 := below_1 w (.cells (x.lie da dc ka kc).cells.toArray 35)
 have h0 := heap_alloc_new w (.cells (x.lie da dc ka kc).cells.toArray 35)
 have b1 := below_1 (w.alloc (.cells (x.lie da dc ka kc).cells.toArray 35)) (.cells (x.lie db dd kb kd).cells.toArray 35)
 have h1 := heap_alloc_new (w.alloc (.cells (x.lie da dc ka kc).cells.toArray 35)) (.cells (x.lie db dd kb kd).cells.toArray 35)
 rw [show (w.alloc (.cells (x.lie da dc ka kc).cells.toArray 35)).heap.size = w.heap.size + 1 by simp] at h1
 have h0' := (b1.block _ (lt_blkR h0)).trans h0
 have bV := b0.trans (b1.mono b0.size)
 have hxV := hx.later bV
 have hyV := hy.later bV
 have cx := conv_anyN (pc := dc) hxV.2.2.2.2.1
 have cy := conv_anyN (pc := dd) hyV.2.2.2.2.1
 obtain ⟨y0, y1, y2, y3, y4, y5⟩ := nd_cells h0'
 obtain ⟨x0, x1, x2, x3, x4, x5⟩ := nd_cells h1
 have hg := kid_guard
 have KX := hid hxV.2.2.2.2.2
 have KY := hid hyV.2.2.2.2.2
 have BV := hid bV
 have H0 := hid h0'
 have H1 := hid h1
 clear hx hy b0 b1 h0 h1 h0' bV hxV hyV
 simp only [Nd.lie, Nd.val, Nd.cells] at *
 obtain ⟨fid, k, md, ln, da0, dc0, zs, ka0, kc0, ks⟩ := x
 dsimp only at *
 go_enter Tryd.func47, Tryd.ntmps47
 go_upto_region 1 with fail
 change Code.wp _ _ _ _ ((w.alloc (.cells #[.int .u32 fid, .int .u8 k, .int .u16 md, .int .u16 ln, .slice da zs.length dc, .slice ka ks.length kc] 35)).alloc (.cells #[.int .u32 fid, .int .u8 k, .int .u16 md, .int .u16 ln, .slice db zs.length dd, .slice kb ks.length kd] 35))
 generalize ((w.alloc (.cells #[.int .u32 fid, .int .u8 k, .int .u16 md, .int .u16 ln, .slice da zs.length dc, .slice ka ks.length kc] 35)).alloc (.cells #[.int .u32 fid, .int .u8 k, .int .u16 md, .int .u16 ln, .slice db zs.length dd, .slice kb ks.length kd] 35)) = V at *
 go_wp2
 go_loopg [5] ks.length (fun gk i wr => ∃ m : Nat, m + gk = ks.length ∧ i = .int .i64 m ∧ Hid (Below V.heap.size V wr))
 case atStart => exact ⟨0, by omega, rfl, hid (Below.refl _ _)⟩
 case round =>
   obtain ⟨m, hm2, rfl, HB⟩ := hrel
   have z5 := (nd_cells (x := ⟨fid, k, md, ln, da, dc, zs, ka, kc, ks⟩) ((HB.out.block _ (lt_blkR H0.out)).trans H0.out)).2.2.2.2.2
   have z6 := (nd_cells (x := ⟨fid, k, md, ln, db, dd, zs, kb, kd, ks⟩) ((HB.out.block _ (lt_blkR H1.out)).trans H1.out)).2.2.2.2.2
   dsimp only at z5 z6
   clear y0 y1 y2 y3 y4 y5 x0 x1 x2 x3 x4 x5 cx cy
   by_cases hlt : m < ks.length
   · have hltI : (m : Int) < ks.length := by omega
     have hx1 := KX.out.later HB.out
     have hy1 := KY.out.later HB.out
     obtain ⟨b1, o1, rfl, _⟩ := hx1.2.2 (by omega)
     obtain ⟨b2, o2, rfl, _⟩ := hy1.2.2 (by omega)
     obtain ⟨p0, p1⟩ := hx1.at (i := m) hlt
     obtain ⟨q0, q1⟩ := hy1.at (i := m) hlt
     have hq := fun W => kid_equal W (hx1.wf (i := m) hlt)
     clear hx1 hy1
     generalize ks.getD m Kd.no = y at *
     unfold Kd.val at hq
     go_wp2
     go_region
     go_wp2
     go_roundg (gk - 1)
     case measure => omega
     case rel => exact ⟨m + 1, by omega, by go_num, hid (Below.drew HB.out)⟩
   · have hge : ¬ (m : Int) < ks.length := by omega
     go_wp2
     go_ret
     exact ⟨rfl, BV.out.trans (HB.out.mono BV.out.size)⟩
def ncells (l : List Nd) : List Value := l.flatMap Nd.cells
theorem ncells_snoc (l : List Nd) (x : Nd) : ncells (l ++ [x]) = ncells l ++ x.cells := by unfold ncells; simp
theorem ncells_get (l : List Nd) (i j : Nat) (hi : i < l.length) (hj : j < 6) : (ncells l)[i * 6 + j]? = (l.getD i Nd.no).cells[j]? := by
 induction l generalizing i with
 | nil => cases hi
 | cons x t ih =>
   unfold ncells
   rw [List.flatMap_cons]
   rcases i with _ | i
   · rw [List.getElem?_append_left (by simp [Nd.cells]; omega)]
     simp
   · rw [List.getElem?_append_right (by simp [Nd.cells]; omega)]
     have e : (i + 1) * 6 + j - x.cells.length = i * 6 + j := by simp [Nd.cells]; omega
     rw [e]
     have := ih i (by simpa using hi)
     unfold ncells at this
     rw [this]
     simp [List.getD]
theorem info_nd : ∃ i : TypeInfo, Tryd.prog.info? 35 = some i ∧ i.zero = some Nd.no.val ∧ i.size = 6 ∧ i.bytes = 64 := by
 have h : (Tryd.prog.info? 35).map (fun i => (i.zero, i.size, i.bytes)) = some (some Nd.no.val, 6, 64) := by kernel_rfl
 cases hi : Tryd.prog.info? 35 with
 | none => rw [hi] at h; cases h
 | some i => rw [hi] at h; simp at h; exact ⟨i, rfl, h.1, h.2.1, h.2.2⟩
theorem nd_news {w : World} {g : Nat} {x : Nd} {t : TypeId} {fr : Nat × Nat} (hb : w.heap[g]? = some (.cells x.cells.toArray t fr)) : ∀ j u, x.cells[j]? = some u → w.cell? ((⟨g, 0, none⟩ : Addr).add j) = some u := fun j u hu => by
 have e : (⟨g, 0, none⟩ : Addr).add j = ⟨g, 0 + j, none⟩ := by unfold Addr.add; split <;> simp_all
 rw [e, cell_of_row w g _ _ t fr hb]
 simpa using hu
theorem nd_one (x : Nd) : ∀ u ∈ x.cells, u.oneCell' = true := fun u hu => by
 simp [Nd.cells] at hu
 rcases hu with rfl | rfl | rfl | rfl | rfl | rfl <;> rfl
end Go.Proofs.YtkokjkaclcjnjaaDoor
