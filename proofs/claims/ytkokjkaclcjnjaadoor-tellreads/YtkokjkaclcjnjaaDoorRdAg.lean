/-
  Operations, entries and nodes in memory; the document's RightOp, Alone; the program's RightOp. (Written by nodebase.py out of the record's texts.)
-/
import Derived.Test.YtkokjkaclcjnjaaDoorRdAc
import Derived.Test.YtkokjkaclcjnjaaDoorRdAd
import Derived.Test.YtkokjkaclcjnjaaDoorRdAe
import Derived.Test.YtkokjkaclcjnjaaDoorRdAf
import Derived.ChangeArms
import Derived.ChangeOld
import Derived.Below
import Derived.Deep.CutRange
import Derived.Laws.AppendOwnNone
import Derived.Deep.RegionLaw
import Derived.Deep.LoopGhost
import Derived.Laws.BitsLemmas
import Derived.Shelf.Abstract
import Derived.Defers
import Derived.Recover
import Derived.Laws.Pointers
import Derived.Deep.QuietTactic
import Derived.Maps.OwnOps
import Derived.Maps.Views
import Derived.DeepKeys4
import Derived.RegionTactic
import Derived.ChangeAlike
import Derived.BigRegion
import Derived.BigQuiet
import Derived.Laws.IdiomStrings
namespace Go.Proofs.YtkokjkaclcjnjaaDoor
open Go.RowKit Go.ChangeShapes Go.WideShapes Go.ChangeAt Go.Maps Go.Shelf
set_option linter.unusedVariables false
set_option linter.unusedSimpArgs false
set_option maxRecDepth 100000
def Rec.ops (x : Rec) : List Value := [.int .u8 x.k, .int .u32 x.fid, .int .u32 x.dir, .string x.nm, .int .u32 x.to, .string x.nm2, .int .u16 x.md, .string x.dt]
def Rec.Wf (x : Rec) : Prop := (0 ≤ x.k ∧ x.k < 256) ∧ (0 ≤ x.fid ∧ x.fid < 4294967296) ∧ (0 ≤ x.dir ∧ x.dir < 4294967296) ∧ (0 ≤ x.to ∧ x.to < 4294967296) ∧ (0 ≤ x.md ∧ x.md < 65536) ∧ (0 ≤ x.sn ∧ x.sn < 18446744073709551616) ∧ x.nm.size ≤ maxLen ∧ x.nm2.size ≤ maxLen ∧ x.dt.size ≤ maxLen
def Rec.no : Rec := ⟨0, 0, 0, ⟨#[]⟩, 0, ⟨#[]⟩, 0, ⟨#[]⟩, 0⟩
theorem lt_blkR {w : World} {b : Nat} {o : Obj} (h : w.heap[b]? = some o) : b < w.heap.size := (Array.getElem?_eq_some_iff.1 h).1
theorem own_latR {w w' : World} {base e size n : Nat} {v : Value} {xs : List Value} (h : w.ownsRow base e size v n xs) (hb : Below w.heap.size w w') : w'.ownsRow base e size v n xs := by
 refine ⟨h.1, ?_⟩
 rcases h.2 with h | ⟨g, cap, cur, e1, e2, e3, e4⟩
 · exact .inl h
 · exact .inr ⟨g, cap, cur, e1, e2, (hb.block g (lt_blkR e3)).trans e3, e4⟩
def pFid (k : Int) : Bool := k == 1 || k == 2 || k == 3 || k == 4 || k == 8 || k == 9
def pEnt (k : Int) : Bool := k == 1 || k == 2 || k == 3 || k == 4 || k == 5 || k == 6 || k == 7
def pGoal (k : Int) : Bool := k == 7
def pMode (k : Int) : Bool := k == 1 || k == 2 || k == 3 || k == 9
def pData (k : Int) : Bool := k == 3 || k == 8
def pOk (k : Int) : Bool := k == 1 || k == 2 || k == 3 || k == 4 || k == 5 || k == 6 || k == 7 || k == 8 || k == 9
def mkF (k : Int) : Bool := k == 1 || k == 2 || k == 3
def entF (named : Bool) (f : Int) (s : ByteArray) : Bool := if named then f != 0 && Pa.nameB s.data.toList else f == 0 && s.toList == []
def datF (named : Bool) (s : ByteArray) : Bool := if named then decide (s.size ≤ 64) else s.toList == []
def rightF (x : Rec) : Bool := !(!pOk x.k || (pFid x.k != (x.fid != 0)) || (mkF x.k && x.fid == 1)) && (entF (pEnt x.k) x.dir x.nm && entF (pGoal x.k) x.to x.nm2 && (pMode x.k || x.md == 0) && datF (pData x.k) x.dt)
theorem below_1 (w : World) (o : Obj) : Below w.heap.size w (w.alloc o) := (Below.refl _ _).alloc (Nat.le_refl _) _
def Lies (w : World) (a : Option Addr) (c : Nat) : Prop := a = none ∧ c = 0 ∨ ∃ b off, a = some ⟨b, off, none⟩ ∧ b < w.heap.size
theorem isB_ownR {w : World} {base : Nat} {v : Value} {zs : List Int} (h : w.ownsRow base 5 1 v zs.length (zs.map u8V)) (hz : ∀ y ∈ zs, 0 ≤ y ∧ y ≤ 255) : ∃ a cap, v = .slice a zs.length cap ∧ IsB w a zs.length zs ∧ zs.length ≤ cap ∧ Lies w a cap := by
 have hz2 : ∀ i, 0 ≤ zs.getD i 0 ∧ zs.getD i 0 ≤ 255 := fun i => by
   by_cases hi : i < zs.length
   · rw [List.getD, List.getElem?_eq_getElem hi]; exact hz _ (List.getElem_mem _)
   · simp [List.getD, List.getElem?_eq_none (by omega : zs.length ≤ i)]
 rcases h.2 with ⟨rfl, hn⟩ | ⟨g, cap, cur, rfl, hb, hg, hn, hc, hs, ht⟩
 · exact ⟨none, 0, by rw [hn], ⟨rfl, by omega, fun hp => absurd hp (by omega), hz2⟩, by omega, .inl ⟨rfl, rfl⟩⟩
 · refine ⟨some ⟨g, 0, none⟩, cap, rfl, ⟨rfl, by omega, fun hp => ⟨g, 0, rfl, fun i hi => ?_⟩, hz2⟩, hn, .inr ⟨g, 0, rfl, lt_blkR hg⟩⟩
   rw [Nat.zero_add, cell_of_row w g i cur _ _ hg]
   have : (zs.map u8V)[i]? = some (.int .u8 (zs.getD i 0)) := by simp [List.getD, hi, u8V]
   rw [← ht, List.getElem?_take, if_pos (by omega)] at this
   simpa using this
structure Kd where
 nm : ByteArray
 fid : Int
def Kd.no : Kd := ⟨⟨#[]⟩, 0⟩
def Kd.cells (x : Kd) : List Value := [.string x.nm, .int .u32 x.fid]
def Kd.val (x : Kd) : Value := .agg #[.string x.nm, .int .u32 x.fid]
def Kd.Wf (x : Kd) : Prop := x.nm.size ≤ maxLen ∧ 0 ≤ x.fid ∧ x.fid < 4294967296
def KdAt (w : World) (b o : Nat) (x : Kd) : Prop := w.cell? ⟨b, o, none⟩ = some (.string x.nm) ∧ w.cell? ⟨b, o + 1, none⟩ = some (.int .u32 x.fid)
def IsKs (w : World) (a : Option Addr) (l : List Kd) : Prop :=
 l.length ≤ maxLen ∧ (∀ x ∈ l, x.Wf) ∧ (0 < l.length → ∃ b off, a = some ⟨b, off, none⟩ ∧ ∀ i, i < l.length → KdAt w b (off + i * 2) (l.getD i Kd.no))
theorem IsKs.later {w w' : World} {a : Option Addr} {l : List Kd} (h : IsKs w a l) (hb : Below w.heap.size w w') : IsKs w' a l := by
 obtain ⟨h1, h2, h3⟩ := h
 refine ⟨h1, h2, fun hp => ?_⟩
 obtain ⟨b, off, e, hc⟩ := h3 hp
 exact ⟨b, off, e, fun i hi => ⟨cell_later hb (hc i hi).1, cell_later hb (hc i hi).2⟩⟩
theorem IsKs.at {w : World} {b off : Nat} {l : List Kd} {i : Nat} (h : IsKs w (some ⟨b, off, none⟩) l) (hi : i < l.length) : KdAt w b (off + i * 2) (l.getD i Kd.no) := by
 obtain ⟨b', off', e, hc⟩ := h.2.2 (by omega)
 cases e
 exact hc i hi
theorem IsKs.wf {w : World} {a : Option Addr} {l : List Kd} (h : IsKs w a l) {i : Nat} (hi : i < l.length) : (l.getD i Kd.no).Wf := by
 rw [List.getD, List.getElem?_eq_getElem hi]
 exact h.2.1 _ (List.getElem_mem _)
structure Nd where
 fid : Int
 k : Int
 md : Int
 ln : Int
 da : Option Addr
 dc : Nat
 zs : List Int
 ka : Option Addr
 kc : Nat
 ks : List Kd
def Nd.cells (x : Nd) : List Value := [.int .u32 x.fid, .int .u8 x.k, .int .u16 x.md, .int .u16 x.ln, .slice x.da x.zs.length x.dc, .slice x.ka x.ks.length x.kc]
def Nd.val (x : Nd) : Value := .agg #[.int .u32 x.fid, .int .u8 x.k, .int .u16 x.md, .int .u16 x.ln, .slice x.da x.zs.length x.dc, .slice x.ka x.ks.length x.kc]
def Nd.Ok (w : World) (x : Nd) : Prop := (0 ≤ x.fid ∧ x.fid < 4294967296) ∧ (0 ≤ x.k ∧ x.k < 256) ∧ (0 ≤ x.md ∧ x.md < 65536) ∧ (0 ≤ x.ln ∧ x.ln < 65536) ∧ IsB w x.da x.zs.length x.zs ∧ IsKs w x.ka x.ks
theorem Nd.Ok.later {w w' : World} {x : Nd} (h : x.Ok w) (hb : Below w.heap.size w w') : x.Ok w' := by
 obtain ⟨a, b, c, d, e, f⟩ := h
 exact ⟨a, b, c, d, e.later hb, f.later hb⟩
theorem nd_cells {w : World} {g : Nat} {x : Nd} {t : TypeId} {fr : Nat × Nat} (h : w.heap[g]? = some (.cells x.cells.toArray t fr)) : w.cell? ⟨g, 0, none⟩ = some (.int .u32 x.fid) ∧ w.cell? ⟨g, 1, none⟩ = some (.int .u8 x.k) ∧ w.cell? ⟨g, 2, none⟩ = some (.int .u16 x.md) ∧ w.cell? ⟨g, 3, none⟩ = some (.int .u16 x.ln) ∧ w.cell? ⟨g, 4, none⟩ = some (.slice x.da x.zs.length x.dc) ∧ w.cell? ⟨g, 5, none⟩ = some (.slice x.ka x.ks.length x.kc) := by
 refine ⟨?_, ?_, ?_, ?_, ?_, ?_⟩ <;> (rw [cell_of_row w g _ _ t fr h]; rfl)
theorem cell_of_row2 {w : World} {g j : Nat} {cs : Array Value} {t : TypeId} {fr : Nat × Nat} {v : Value} (h : w.heap[g]? = some (.cells cs t fr)) (_ : Nat := j) (hv : cs[j]? = some v) : w.cell? ⟨g, j, none⟩ = some v := by rw [cell_of_row w g _ _ t fr h]; exact hv
def leS (x y : ByteArray) : Bool := Op.bytesLess x.toList y.toList || x.toList == y.toList
def lastK (l : List Kd) (m : Nat) : ByteArray := if m = 0 then ⟨#[]⟩ else (l.getD (m - 1) Kd.no).nm
def kOk (l : List Kd) (i : Nat) : Bool := Pa.nameB (l.getD i Kd.no).nm.data.toList && !leS (l.getD i Kd.no).nm (lastK l i) && (l.getD i Kd.no).fid != 0
def kidsTo (l : List Kd) : Nat → Bool
 | 0 => true
 | m + 1 => kidsTo l m && kOk l m
def kidsOk (l : List Kd) : Bool := kidsTo l l.length
theorem kids_no (l : List Kd) (m : Nat) (h : kOk l m = false) : ∀ d, kidsTo l (m + 1 + d) = false
 | 0 => by simp [kidsTo, h]
 | d + 1 => by rw [← Nat.add_assoc]; simp [kidsTo, kids_no l m h d]
theorem kidsOk_no {l : List Kd} {m : Nat} (hm : m < l.length) (h : kOk l m = false) : kidsOk l = false := by
 unfold kidsOk
 obtain ⟨d, hd⟩ : ∃ d, l.length = m + 1 + d := ⟨l.length - (m + 1), by omega⟩
 rw [hd]; exact kids_no l m h d
theorem lastK_next (l : List Kd) (m : Nat) : lastK l (m + 1) = (l.getD m Kd.no).nm := by unfold lastK; simp
def nodeOk (x : Nd) : Bool := !(x.fid == 0 || decide (64 < x.zs.length) || decide (12 < x.ks.length)) && (bif x.k == 1 || x.k == 3 then decide (x.ks.length = 0) else bif x.k == 2 then decide (x.zs.length = 0) && kidsOk x.ks else false)
theorem conv_noneN (w : World) (p : Option Addr) (c : Nat) : (convert 32 9 (.slice p 0 c)).run Tryd.prog w = .ok (.string ByteArray.empty) w := by
 rw [run_convert_bytes_string w 32 9 5 _ 0 c Tryd.underlying32 Tryd.underlying5 Tryd.underlying9]
 cases p <;> simp [Conv.bytesToString, loadCells]
 all_goals rfl
theorem isB_convN {w : World} {b off len cap : Nat} {zs : List Int} (h : IsB w (some ⟨b, off, none⟩) len zs) (hp : 0 < len) : (convert 32 9 (.slice (some ⟨b, off, none⟩) len cap)).run Tryd.prog w = .ok (.string (Fr.tx zs)) w := by
 obtain ⟨h1, h2, h3, h4⟩ := h
 refine run_convert_bytes_arg w 32 5 Tryd.underlying32 Tryd.underlying5 b off len cap zs h1 (fun i hi => ?_) 9 Tryd.underlying9
 obtain ⟨b', off', e, hc⟩ := h3 (by omega)
 cases e
 exact hc i hi
theorem conv_anyN {w : World} {pa : Option Addr} {pc : Nat} {zs : List Int} (h : IsB w pa zs.length zs) : (convert 32 9 (.slice pa zs.length pc)).run Tryd.prog w = .ok (.string (Fr.tx zs)) w := by
 by_cases hp : 0 < zs.length
 · obtain ⟨b, off, rfl, _⟩ := h.2.2.1 hp
   exact isB_convN h hp
 · have h0 : zs.length = 0 := by omega
   rw [h0, conv_noneN, List.eq_nil_of_length_eq_zero h0]; rfl
theorem take_kid {l : List Kd} {m : Nat} (h : m < l.length) : l.take (m + 1) = l.take m ++ [l.getD m Kd.no] := by
 rw [List.take_add_one, List.getD, List.getElem?_eq_getElem h]; rfl
def InB (zs : List Int) : Prop := ∀ i, 0 ≤ zs.getD i 0 ∧ zs.getD i 0 ≤ 255
theorem InB.drop {zs : List Int} (h : InB zs) (k : Nat) : InB (zs.drop k) := fun i => by
 have := h (k + i)
 simpa [List.getD, List.getElem?_drop] using this
theorem InB.take {zs : List Int} (h : InB zs) (k : Nat) : InB (zs.take k) := fun i => by
 by_cases hi : i < k
 · have := h i
   simpa [List.getD, List.getElem?_take, hi] using this
 · simp [List.getD, List.getElem?_take, hi]
theorem own_low {w : World} {base base' e size n : Nat} {v : Value} {xs : List Value} (h : w.ownsRow base e size v n xs) (hb : base' ≤ base) : w.ownsRow base' e size v n xs := by
 refine ⟨h.1, ?_⟩
 rcases h.2 with h | ⟨g, cap, cur, e1, e2, e3, e4⟩
 · exact .inl h
 · exact .inr ⟨g, cap, cur, e1, by omega, e3, e4⟩
def kcells (l : List Kd) : List Value := l.flatMap Kd.cells
theorem kcells_snoc (l : List Kd) (x : Kd) : kcells (l ++ [x]) = kcells l ++ x.cells := by unfold kcells; simp
theorem kcells_len (l : List Kd) : (kcells l).length = l.length * 2 := by
 unfold kcells
 induction l with
 | nil => rfl
 | cons x t ih => rw [List.flatMap_cons, List.length_append, ih, List.length_cons]; simp [Kd.cells]; omega
theorem kcells_get (l : List Kd) (i j : Nat) (hi : i < l.length) (hj : j < 2) : (kcells l)[i * 2 + j]? = (l.getD i Kd.no).cells[j]? := by
 induction l generalizing i with
 | nil => cases hi
 | cons x t ih =>
   unfold kcells
   rw [List.flatMap_cons]
   rcases i with _ | i
   · rw [List.getElem?_append_left (by simp [Kd.cells]; omega)]
     simp
   · rw [List.getElem?_append_right (by simp [Kd.cells]; omega)]
     have e : (i + 1) * 2 + j - x.cells.length = i * 2 + j := by simp [Kd.cells]; omega
     rw [e]
     have := ih i (by simpa using hi)
     unfold kcells at this
     rw [this]
     simp [List.getD]
theorem info_kid : ∃ i : TypeInfo, Tryd.prog.info? 71 = some i ∧ i.zero = some Kd.no.val ∧ i.size = 2 ∧ i.bytes = 24 := by
 have h : (Tryd.prog.info? 71).map (fun i => (i.zero, i.size, i.bytes)) = some (some Kd.no.val, 2, 24) := by kernel_rfl
 cases hi : Tryd.prog.info? 71 with
 | none => rw [hi] at h; cases h
 | some i => rw [hi] at h; simp at h; exact ⟨i, rfl, h.1, h.2.1, h.2.2⟩
theorem kid_news {w : World} {g : Nat} {x : Kd} {t : TypeId} {fr : Nat × Nat} (hb : w.heap[g]? = some (.cells x.cells.toArray t fr)) : ∀ j u, x.cells[j]? = some u → w.cell? ((⟨g, 0, none⟩ : Addr).add j) = some u := fun j u hu => by
 have e : (⟨g, 0, none⟩ : Addr).add j = ⟨g, 0 + j, none⟩ := by unfold Addr.add; split <;> simp_all
 rw [e, cell_of_row w g _ _ t fr hb]
 simpa using hu
theorem kid_one (x : Kd) : ∀ u ∈ x.cells, u.oneCell' = true := fun u hu => by
 simp [Kd.cells] at hu
 rcases hu with rfl | rfl <;> rfl
def Nd.lie (x : Nd) (da : Option Addr) (dc : Nat) (ka : Option Addr) (kc : Nat) : Nd := ⟨x.fid, x.k, x.md, x.ln, da, dc, x.zs, ka, kc, x.ks⟩
def Nd.no : Nd := ⟨0, 0, 0, 0, none, 0, [], none, 0, []⟩
def Nd.Wf (x : Nd) : Prop := (0 ≤ x.fid ∧ x.fid < 4294967296) ∧ (0 ≤ x.k ∧ x.k < 256) ∧ (0 ≤ x.md ∧ x.md < 65536) ∧ (0 ≤ x.ln ∧ x.ln < 65536) ∧ InB x.zs ∧ x.zs.length ≤ 255 ∧ (∀ q ∈ x.ks, q.Wf ∧ q.nm.size ≤ 255) ∧ x.ks.length ≤ 255
def RowAt (w : World) (base : Nat) (t : TypeId) (p : Option Addr) (vs : List Value) : Prop := vs = [] ∨ ∃ (g : Nat) (cs : Array Value) (fr : Nat × Nat), p = some ⟨g, 0, none⟩ ∧ base ≤ g ∧ w.heap[g]? = some (.cells cs t fr) ∧ ∀ (i : Nat) (u : Value), vs[i]? = some u → cs[i]? = some u
theorem RowAt.later {w w' : World} {base : Nat} {t : TypeId} {p : Option Addr} {vs : List Value} (h : RowAt w base t p vs) (hb : Below w.heap.size w w') : RowAt w' base t p vs := by
 rcases h with h | ⟨g, cs, fr, h1, h2, h3, h4⟩
 · exact .inl h
 · exact .inr ⟨g, cs, fr, h1, h2, (hb.block _ (lt_blkR h3)).trans h3, h4⟩
theorem RowAt.own {w : World} {base : Nat} {t : TypeId} {sz n : Nat} {v : Value} {p : Option Addr} {m c : Nat} {vs : List Value} (h : w.ownsRow base t sz v n vs) (hv : v = .slice p m c) (hl : n = 0 → vs = []) : RowAt w base t p vs := by
 rcases h.2 with ⟨h1, h2⟩ | ⟨g, cap, cur, h1, h2, h3, h4⟩
 · exact .inl (hl h2)
 · rw [h1] at hv
   simp only [Value.slice.injEq] at hv
   refine .inr ⟨g, cur, _, hv.1.symm, h2, h3, fun i u hu => ?_⟩
   have e := h.cells (g := g) (by rw [h1]; rfl) i u hu
   have e2 : (⟨g, 0, none⟩ : Addr).add i = ⟨g, i, none⟩ := by unfold Addr.add; split <;> simp_all
   rw [e2, cell_of_row w g _ _ t _ h3] at e
   exact e
theorem RowAt.grown {w w' : World} {base b sz n : Nat} {t e : TypeId} {p : Option Addr} {vs xs : List Value} {v : Value} (h : RowAt w base t p vs) (hown : w.ownsRow b e sz v n xs) (hne : t ≠ e) (hg : w.grownBy w' v.ownBlock) : RowAt w' base t p vs := by
 rcases h with h | ⟨g, cs, fr, h1, h2, h3, h4⟩
 · exact .inl h
 · refine .inr ⟨g, cs, fr, h1, h2, (hg.block g (lt_blkR h3) (fun q => ?_)).trans h3, h4⟩
   rcases hown.2 with ⟨rfl, _⟩ | ⟨g', cap, cur, rfl, _, hg', _⟩
   · cases q
   · cases q
     rw [hg'] at h3
     cases h3
     exact hne rfl
theorem kid_wide : (match Tryd.prog.underlying 71 with | some (.array _ _) | some (.struct _) => true | _ => false) = true := by kernel_rfl
theorem kid_guard : Tryd.prog.eqGuardType Tryd.prog.depth 71 = false := by kernel_rfl
theorem kid_key {x : Kd} (h : x.Wf) : ∃ kl, keyOf Tryd.prog 71 x.val = some kl := by
 obtain ⟨h1, h2, h3⟩ := h
 have w2 : (Lit.int .u32 x.fid).wf = true := by simp [Lit.wf, IntKind.min, IntKind.max, IntKind.signed, IntKind.bits]; omega
 have : (keyOf Tryd.prog 71 x.val).isSome = true := by
   have hkt : Tryd.prog.keyType 71 = true := by kernel_rfl
   have hc : Tryd.prog.cellsOf 71 = 2 := by kernel_rfl
   have hc2 : Tryd.prog.cellsOf 29 = 1 := by kernel_rfl
   have hc4 : Tryd.prog.cellsOf 9 = 1 := by kernel_rfl
   have hs : decide (2 ≤ Tryd.prog.types.size) = true := by kernel_rfl
   obtain ⟨d, hd⟩ : ∃ d, Tryd.prog.types.size = d + 2 := ⟨Tryd.prog.types.size - 2, by have := of_decide_eq_true hs; omega⟩
   unfold Kd.val keyOf
   rw [Tryd.underlying71, hd]
   simp [hkt, Value.formed, Tryd.underlying71, Tryd.underlying9, hc, hc4, Value.cells, Program.keyLits, Tryd.underlying29, hc2, w2, h1]
 exact Option.isSome_iff_exists.1 this
theorem kid_equal (w : World) {x : Kd} (hx : x.Wf) : (Op.equalIn 10000 71 x.val x.val).run Tryd.prog w = .ok true w := by
 obtain ⟨lx, ex⟩ := kid_key hx
 obtain ⟨r, hr, hiff⟩ := run_equal_deep (P := Tryd.prog) w (m := 3) (by omega) (k := 71) (by kernel_rfl) kid_wide ex ex
 rw [hiff.2 rfl] at hr
 exact hr
set_option maxHeartbeats 4000000 in
theorem sameNode_c (x : Nd) (da : Option Addr) (dc : Nat) (ka : Option Addr) (kc : Nat) (db : Option Addr) (dd : Nat) (kb : Option Addr) (kd : Nat) (w : World) (hx : (x.lie da dc ka kc).Ok w) (hy : (x.lie db dd kb kd).Ok w) (hm : x.ks.length ≤ 100000) :
   Calls Tryd.prog 47 #[(x.lie da dc ka kc).val, (x.lie db dd kb kd).val] w fun e w' => e = .returned (.bool true) ∧ Below w.heap.size w w' := by
 have b0 := below_1 w (.cells (x.lie da dc ka kc).cells.toArray 35)
 have h0 := heap_alloc_new w (.cells (x.lie da dc ka kc).cells.toArray 35)
 have b1 := below_1 (w.alloc (.cells (x.lie da dc ka kc).cells.toArray 35)) (.cells (x.lie db dd kb kd).cells.toArray 35)
 have h1 := heap_alloc_new (w.alloc (.cells (x.lie da dc ka kc).cells.toArray 35)) (.cells (x.lie db dd kb kd).cells.toArray 35)
 rw [show (w.alloc (.cells (x.lie da dc ka kc).cells.toArray 35)).heap.size = w.heap.size + 1 by simp] at h1
 have h0' := (b1.block _ (lt_blkR h0)).trans h0
 have bV := b0.trans (b1.mono b0.size)
 have hxV := hx.later bV
 have hyV := hy.later bV
 have cx := conv_anyN (pc := dc) hxV.2.2.2.2.1
 have cy := conv_anyN (pc := dd) hyV.2.2.2.2.1
 obtain ⟨y0, y1, y2, y3, y4, y5⟩ := nd_cells h0'
 obtain ⟨x0, x1, x2, x3, x4, x5⟩ := nd_cells h1
 have hg := kid_guard
 have KX := hid hxV.2.2.2.2.2
 have KY := hid hyV.2.2.2.2.2
 have BV := hid bV
 have H0 := hid h0'
 have H1 := hid h1
 clear hx hy b0 b1 h0 h1 h0' bV hxV hyV
 simp only [Nd.lie, Nd.val, Nd.cells] at *
 obtain ⟨fid, k, md, ln, da0, dc0, zs, ka0, kc0, ks⟩ := x
 dsimp only at *
 go_enter Tryd.func47, Tryd.ntmps47
 go_upto_region 1 with fail
 change Code.wp _ _ _ _ ((w.alloc (.cells #[.int .u32 fid, .int .u8 k, .int .u16 md, .int .u16 ln, .slice da zs.length dc, .slice ka ks.length kc] 35)).alloc (.cells #[.int .u32 fid, .int .u8 k, .int .u16 md, .int .u16 ln, .slice db zs.length dd, .slice kb ks.length kd] 35))
 generalize ((w.alloc (.cells #[.int .u32 fid, .int .u8 k, .int .u16 md, .int .u16 ln, .slice da zs.length dc, .slice ka ks.length kc] 35)).alloc (.cells #[.int .u32 fid, .int .u8 k, .int .u16 md, .int .u16 ln, .slice db zs.length dd, .slice kb ks.length kd] 35)) = V at *
 go_wp2
 go_loopg [5] ks.length (fun gk i wr => ∃ m : Nat, m + gk = ks.length ∧ i = .int .i64 m ∧ Hid (Below V.heap.size V wr))
 case atStart => exact ⟨0, by omega, rfl, hid (Below.refl _ _)⟩
 case round =>
   obtain ⟨m, hm2, rfl, HB⟩ := hrel
   have z5 := (nd_cells (x := ⟨fid, k, md, ln, da, dc, zs, ka, kc, ks⟩) ((HB.out.block _ (lt_blkR H0.out)).trans H0.out)).2.2.2.2.2
   have z6 := (nd_cells (x := ⟨fid, k, md, ln, db, dd, zs, kb, kd, ks⟩) ((HB.out.block _ (lt_blkR H1.out)).trans H1.out)).2.2.2.2.2
   dsimp only at z5 z6
   clear y0 y1 y2 y3 y4 y5 x0 x1 x2 x3 x4 x5 cx cy
   by_cases hlt : m < ks.length
   · have hltI : (m : Int) < ks.length := by omega
     have hx1 := KX.out.later HB.out
     have hy1 := KY.out.later HB.out
     obtain ⟨b1, o1, rfl, _⟩ := hx1.2.2 (by omega)
     obtain ⟨b2, o2, rfl, _⟩ := hy1.2.2 (by omega)
     obtain ⟨p0, p1⟩ := hx1.at (i := m) hlt
     obtain ⟨q0, q1⟩ := hy1.at (i := m) hlt
     have hq := fun W => kid_equal W (hx1.wf (i := m) hlt)
     clear hx1 hy1
     generalize ks.getD m Kd.no = y at *
     unfold Kd.val at hq
     go_wp2
     go_region
     go_wp2
     go_roundg (gk - 1)
     case measure => omega
     case rel => exact ⟨m + 1, by omega, by go_num, hid (Below.drew HB.out)⟩
   · have hge : ¬ (m : Int) < ks.length := by omega
     go_wp2
     go_ret
     exact ⟨rfl, BV.out.trans (HB.out.mono BV.out.size)⟩
def ncells (l : List Nd) : List Value := l.flatMap Nd.cells
theorem ncells_snoc (l : List Nd) (x : Nd) : ncells (l ++ [x]) = ncells l ++ x.cells := by unfold ncells; simp
theorem ncells_get (l : List Nd) (i j : Nat) (hi : i < l.length) (hj : j < 6) : (ncells l)[i * 6 + j]? = (l.getD i Nd.no).cells[j]? := by
 induction l generalizing i with
 | nil => cases hi
 | cons x t ih =>
   unfold ncells
   rw [List.flatMap_cons]
   rcases i with _ | i
   · rw [List.getElem?_append_left (by simp [Nd.cells]; omega)]
     simp
   · rw [List.getElem?_append_right (by simp [Nd.cells]; omega)]
     have e : (i + 1) * 6 + j - x.cells.length = i * 6 + j := by simp [Nd.cells]; omega
     rw [e]
     have := ih i (by simpa using hi)
     unfold ncells at this
     rw [this]
     simp [List.getD]
theorem info_nd : ∃ i : TypeInfo, Tryd.prog.info? 35 = some i ∧ i.zero = some Nd.no.val ∧ i.size = 6 ∧ i.bytes = 64 := by
 have h : (Tryd.prog.info? 35).map (fun i => (i.zero, i.size, i.bytes)) = some (some Nd.no.val, 6, 64) := by kernel_rfl
 cases hi : Tryd.prog.info? 35 with
 | none => rw [hi] at h; cases h
 | some i => rw [hi] at h; simp at h; exact ⟨i, rfl, h.1, h.2.1, h.2.2⟩
theorem nd_news {w : World} {g : Nat} {x : Nd} {t : TypeId} {fr : Nat × Nat} (hb : w.heap[g]? = some (.cells x.cells.toArray t fr)) : ∀ j u, x.cells[j]? = some u → w.cell? ((⟨g, 0, none⟩ : Addr).add j) = some u := fun j u hu => by
 have e : (⟨g, 0, none⟩ : Addr).add j = ⟨g, 0 + j, none⟩ := by unfold Addr.add; split <;> simp_all
 rw [e, cell_of_row w g _ _ t fr hb]
 simpa using hu
theorem nd_one (x : Nd) : ∀ u ∈ x.cells, u.oneCell' = true := fun u hu => by
 simp [Nd.cells] at hu
 rcases hu with rfl | rfl | rfl | rfl | rfl | rfl <;> rfl
end Go.Proofs.YtkokjkaclcjnjaaDoor
