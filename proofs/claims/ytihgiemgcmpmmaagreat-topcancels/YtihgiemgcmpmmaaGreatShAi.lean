/-
  Operations, entries and nodes in memory; the document's RightOp, Alone; the program's RightOp. (Written by nodebase.py out of the record's texts.)
-/
import Derived.Test.YtihgiemgcmpmmaaGreatShAa
import Derived.Test.YtihgiemgcmpmmaaGreatShAc
import Derived.Test.YtihgiemgcmpmmaaGreatShAg
import Derived.Test.YtihgiemgcmpmmaaGreatShAd
import Derived.Test.YtihgiemgcmpmmaaGreatShAh
import Derived.ChangeArms
import Derived.ChangeOld
import Derived.Below
import Derived.Deep.CutRange
import Derived.Laws.AppendOwnNone
import Derived.Deep.RegionLaw
import Derived.Deep.LoopGhost
import Derived.Laws.BitsLemmas
import Derived.Shelf.Abstract
import Derived.Defers
import Derived.Recover
import Derived.Laws.Pointers
import Derived.Deep.QuietTactic
import Derived.Maps.OwnOps
import Derived.Maps.Views
import Derived.DeepKeys4
import Derived.RegionTactic
import Derived.ChangeAlike
import Derived.BigRegion
import Derived.BigQuiet
import Derived.Laws.IdiomStrings
namespace Go.Proofs.YtihgiemgcmpmmaaGreat
open Go.RowKit Go.ChangeShapes Go.WideShapes Go.ChangeAt Go.Maps Go.Shelf
set_option linter.unusedVariables false
set_option linter.unusedSimpArgs false
set_option maxRecDepth 100000
def OwB (w : World) (base : Nat) (v : Value) (zs : List Int) : Prop := w.ownsRow base 5 1 v zs.length (zs.map u8V)
theorem OwB.later {w w' : World} {base : Nat} {v : Value} {zs : List Int} (h : OwB w base v zs) (hb : Below w.heap.size w w') : OwB w' base v zs := own_latR h hb
theorem u8V_one (zs : List Int) : ∀ u ∈ zs.map u8V, u.oneCell' = true := fun u hu => by
 obtain ⟨z, _, rfl⟩ := List.mem_map.1 hu
 rfl
structure Kd where
 nm : ByteArray
 fid : Int
def Kd.no : Kd := ⟨⟨#[]⟩, 0⟩
def Kd.cells (x : Kd) : List Value := [.string x.nm, .int .u32 x.fid]
def Kd.val (x : Kd) : Value := .agg #[.string x.nm, .int .u32 x.fid]
def Kd.Wf (x : Kd) : Prop := x.nm.size ≤ maxLen ∧ 0 ≤ x.fid ∧ x.fid < 4294967296
def KdAt (w : World) (b o : Nat) (x : Kd) : Prop := w.cell? ⟨b, o, none⟩ = some (.string x.nm) ∧ w.cell? ⟨b, o + 1, none⟩ = some (.int .u32 x.fid)
def IsKs (w : World) (a : Option Addr) (l : List Kd) : Prop :=
 l.length ≤ maxLen ∧ (∀ x ∈ l, x.Wf) ∧ (0 < l.length → ∃ b off, a = some ⟨b, off, none⟩ ∧ ∀ i, i < l.length → KdAt w b (off + i * 2) (l.getD i Kd.no))
theorem IsKs.later {w w' : World} {a : Option Addr} {l : List Kd} (h : IsKs w a l) (hb : Below w.heap.size w w') : IsKs w' a l := by
 obtain ⟨h1, h2, h3⟩ := h
 refine ⟨h1, h2, fun hp => ?_⟩
 obtain ⟨b, off, e, hc⟩ := h3 hp
 exact ⟨b, off, e, fun i hi => ⟨cell_later hb (hc i hi).1, cell_later hb (hc i hi).2⟩⟩
theorem IsKs.at {w : World} {b off : Nat} {l : List Kd} {i : Nat} (h : IsKs w (some ⟨b, off, none⟩) l) (hi : i < l.length) : KdAt w b (off + i * 2) (l.getD i Kd.no) := by
 obtain ⟨b', off', e, hc⟩ := h.2.2 (by omega)
 cases e
 exact hc i hi
theorem IsKs.wf {w : World} {a : Option Addr} {l : List Kd} (h : IsKs w a l) {i : Nat} (hi : i < l.length) : (l.getD i Kd.no).Wf := by
 rw [List.getD, List.getElem?_eq_getElem hi]
 exact h.2.1 _ (List.getElem_mem _)
structure Nd where
 fid : Int
 k : Int
 md : Int
 ln : Int
 da : Option Addr
 dc : Nat
 zs : List Int
 ka : Option Addr
 kc : Nat
 ks : List Kd
def Nd.cells (x : Nd) : List Value := [.int .u32 x.fid, .int .u8 x.k, .int .u16 x.md, .int .u16 x.ln, .slice x.da x.zs.length x.dc, .slice x.ka x.ks.length x.kc]
def Nd.val (x : Nd) : Value := .agg #[.int .u32 x.fid, .int .u8 x.k, .int .u16 x.md, .int .u16 x.ln, .slice x.da x.zs.length x.dc, .slice x.ka x.ks.length x.kc]
def Nd.Ok (w : World) (x : Nd) : Prop := (0 ≤ x.fid ∧ x.fid < 4294967296) ∧ (0 ≤ x.k ∧ x.k < 256) ∧ (0 ≤ x.md ∧ x.md < 65536) ∧ (0 ≤ x.ln ∧ x.ln < 65536) ∧ IsB w x.da x.zs.length x.zs ∧ IsKs w x.ka x.ks
theorem Nd.Ok.later {w w' : World} {x : Nd} (h : x.Ok w) (hb : Below w.heap.size w w') : x.Ok w' := by
 obtain ⟨a, b, c, d, e, f⟩ := h
 exact ⟨a, b, c, d, e.later hb, f.later hb⟩
theorem nd_cells {w : World} {g : Nat} {x : Nd} {t : TypeId} {fr : Nat × Nat} (h : w.heap[g]? = some (.cells x.cells.toArray t fr)) : w.cell? ⟨g, 0, none⟩ = some (.int .u32 x.fid) ∧ w.cell? ⟨g, 1, none⟩ = some (.int .u8 x.k) ∧ w.cell? ⟨g, 2, none⟩ = some (.int .u16 x.md) ∧ w.cell? ⟨g, 3, none⟩ = some (.int .u16 x.ln) ∧ w.cell? ⟨g, 4, none⟩ = some (.slice x.da x.zs.length x.dc) ∧ w.cell? ⟨g, 5, none⟩ = some (.slice x.ka x.ks.length x.kc) := by
 refine ⟨?_, ?_, ?_, ?_, ?_, ?_⟩ <;> (rw [cell_of_row w g _ _ t fr h]; rfl)
theorem cell_of_row2 {w : World} {g j : Nat} {cs : Array Value} {t : TypeId} {fr : Nat × Nat} {v : Value} (h : w.heap[g]? = some (.cells cs t fr)) (_ : Nat := j) (hv : cs[j]? = some v) : w.cell? ⟨g, j, none⟩ = some v := by rw [cell_of_row w g _ _ t fr h]; exact hv
def leS (x y : ByteArray) : Bool := Op.bytesLess x.toList y.toList || x.toList == y.toList
def lastK (l : List Kd) (m : Nat) : ByteArray := if m = 0 then ⟨#[]⟩ else (l.getD (m - 1) Kd.no).nm
def kOk (l : List Kd) (i : Nat) : Bool := Pa.nameB (l.getD i Kd.no).nm.data.toList && !leS (l.getD i Kd.no).nm (lastK l i) && (l.getD i Kd.no).fid != 0
def kidsTo (l : List Kd) : Nat → Bool
 | 0 => true
 | m + 1 => kidsTo l m && kOk l m
def kidsOk (l : List Kd) : Bool := kidsTo l l.length
theorem lastK_next (l : List Kd) (m : Nat) : lastK l (m + 1) = (l.getD m Kd.no).nm := by unfold lastK; simp
def nodeOk (x : Nd) : Bool := !(x.fid == 0 || decide (64 < x.zs.length) || decide (12 < x.ks.length)) && (bif x.k == 1 || x.k == 3 then decide (x.ks.length = 0) else bif x.k == 2 then decide (x.zs.length = 0) && kidsOk x.ks else false)
theorem conv_noneN (w : World) (p : Option Addr) (c : Nat) : (convert 38 9 (.slice p 0 c)).run Tryz.prog w = .ok (.string ByteArray.empty) w := by
 rw [run_convert_bytes_string w 38 9 5 _ 0 c Tryz.underlying38 Tryz.underlying5 Tryz.underlying9]
 cases p <;> simp [Conv.bytesToString, loadCells]
 all_goals rfl
theorem isB_convN {w : World} {b off len cap : Nat} {zs : List Int} (h : IsB w (some ⟨b, off, none⟩) len zs) (hp : 0 < len) : (convert 38 9 (.slice (some ⟨b, off, none⟩) len cap)).run Tryz.prog w = .ok (.string (Fr.tx zs)) w := by
 obtain ⟨h1, h2, h3, h4⟩ := h
 refine run_convert_bytes_arg w 38 5 Tryz.underlying38 Tryz.underlying5 b off len cap zs h1 (fun i hi => ?_) 9 Tryz.underlying9
 obtain ⟨b', off', e, hc⟩ := h3 (by omega)
 cases e
 exact hc i hi
theorem conv_anyN {w : World} {pa : Option Addr} {pc : Nat} {zs : List Int} (h : IsB w pa zs.length zs) : (convert 38 9 (.slice pa zs.length pc)).run Tryz.prog w = .ok (.string (Fr.tx zs)) w := by
 by_cases hp : 0 < zs.length
 · obtain ⟨b, off, rfl, _⟩ := h.2.2.1 hp
   exact isB_convN h hp
 · have h0 : zs.length = 0 := by omega
   rw [h0, conv_noneN, List.eq_nil_of_length_eq_zero h0]; rfl
theorem take_kid {l : List Kd} {m : Nat} (h : m < l.length) : l.take (m + 1) = l.take m ++ [l.getD m Kd.no] := by
 rw [List.take_add_one, List.getD, List.getElem?_eq_getElem h]; rfl
theorem isB_newsF {w : World} {b off len : Nat} {zs : List Int} (h : IsB w (some ⟨b, off, none⟩) len zs) : ∀ j u, (zs.map u8V)[j]? = some u → w.cell? ((⟨b, off, none⟩ : Addr).add j) = some u := by
 obtain ⟨h1, h2, h3, h4⟩ := h
 intro j u hu
 rw [List.getElem?_map] at hu
 rcases hj : zs[j]? with _ | x
 · rw [hj] at hu; cases hu
 · rw [hj] at hu
   simp only [Option.map_some, Option.some.injEq] at hu
   subst hu
   have hlt : j < zs.length := by
     rcases Nat.lt_or_ge j zs.length with q | q
     · exact q
     · rw [List.getElem?_eq_none q] at hj; cases hj
   obtain ⟨b', off', e, hc⟩ := h3 (by omega)
   cases e
   have := hc j (by omega)
   have hx : zs.getD j 0 = x := by simp [List.getD, hj]
   rw [hx] at this
   show _ = some (Value.int .u8 x)
   rw [← this]
   congr 1
   unfold Addr.add
   split
   · rename_i q; rw [q]; rfl
   · rfl
def kcells (l : List Kd) : List Value := l.flatMap Kd.cells
theorem kcells_snoc (l : List Kd) (x : Kd) : kcells (l ++ [x]) = kcells l ++ x.cells := by unfold kcells; simp
theorem kcells_len (l : List Kd) : (kcells l).length = l.length * 2 := by
 unfold kcells
 induction l with
 | nil => rfl
 | cons x t ih => rw [List.flatMap_cons, List.length_append, ih, List.length_cons]; simp [Kd.cells]; omega
theorem kcells_get (l : List Kd) (i j : Nat) (hi : i < l.length) (hj : j < 2) : (kcells l)[i * 2 + j]? = (l.getD i Kd.no).cells[j]? := by
 induction l generalizing i with
 | nil => cases hi
 | cons x t ih =>
   unfold kcells
   rw [List.flatMap_cons]
   rcases i with _ | i
   · rw [List.getElem?_append_left (by simp [Kd.cells]; omega)]
     simp
   · rw [List.getElem?_append_right (by simp [Kd.cells]; omega)]
     have e : (i + 1) * 2 + j - x.cells.length = i * 2 + j := by simp [Kd.cells]; omega
     rw [e]
     have := ih i (by simpa using hi)
     unfold kcells at this
     rw [this]
     simp [List.getD]
theorem info_kid : ∃ i : TypeInfo, Tryz.prog.info? 114 = some i ∧ i.zero = some Kd.no.val ∧ i.size = 2 ∧ i.bytes = 24 := by
 have h : (Tryz.prog.info? 114).map (fun i => (i.zero, i.size, i.bytes)) = some (some Kd.no.val, 2, 24) := by kernel_rfl
 cases hi : Tryz.prog.info? 114 with
 | none => rw [hi] at h; cases h
 | some i => rw [hi] at h; simp at h; exact ⟨i, rfl, h.1, h.2.1, h.2.2⟩
theorem isKs_own {w : World} {base : Nat} {v : Value} {l : List Kd} (h : w.ownsRow base 114 2 v l.length (kcells l)) (hw : ∀ x ∈ l, x.Wf) (hm : l.length ≤ 100000) : ∃ a cap, v = .slice a l.length cap ∧ IsKs w a l ∧ l.length ≤ cap ∧ (a = none → cap = 0) := by
 rcases h.2 with ⟨hv, hn⟩ | ⟨g, cap, cur, hv, hrest⟩
 · have e : l = [] := List.eq_nil_of_length_eq_zero hn
   subst e
   exact ⟨none, 0, hv, ⟨Nat.zero_le _, (fun x hx => by cases hx), fun hp => absurd hp (by simp)⟩, Nat.zero_le _, fun _ => rfl⟩
 · refine ⟨_, _, hv, ⟨by unfold maxLen; omega, hw, fun hp => ⟨g, 0, rfl, fun i hi => ?_⟩⟩, hrest.2.2.1, fun e => by cases e⟩
   have key : ∀ j, j < 2 → ∀ u, (l.getD i Kd.no).cells[j]? = some u → w.cell? ⟨g, 0 + i * 2 + j, none⟩ = some u := fun j hj u hu => by
     have e := h.cells (g := g) (by rw [hv]; rfl) (i * 2 + j) u (by rw [kcells_get l i j hi hj]; exact hu)
     rw [← e]
     congr 1
     unfold Addr.add
     split
     · rename_i q; simp [q]
     · simp
   exact ⟨key 0 (by omega) _ rfl, key 1 (by omega) _ rfl⟩
theorem kid_news {w : World} {g : Nat} {x : Kd} {t : TypeId} {fr : Nat × Nat} (hb : w.heap[g]? = some (.cells x.cells.toArray t fr)) : ∀ j u, x.cells[j]? = some u → w.cell? ((⟨g, 0, none⟩ : Addr).add j) = some u := fun j u hu => by
 have e : (⟨g, 0, none⟩ : Addr).add j = ⟨g, 0 + j, none⟩ := by unfold Addr.add; split <;> simp_all
 rw [e, cell_of_row w g _ _ t fr hb]
 simpa using hu
theorem kid_one (x : Kd) : ∀ u ∈ x.cells, u.oneCell' = true := fun u hu => by
 simp [Kd.cells] at hu
 rcases hu with rfl | rfl <;> rfl
def Nd.lie (x : Nd) (da : Option Addr) (dc : Nat) (ka : Option Addr) (kc : Nat) : Nd := ⟨x.fid, x.k, x.md, x.ln, da, dc, x.zs, ka, kc, x.ks⟩
def Nd.no : Nd := ⟨0, 0, 0, 0, none, 0, [], none, 0, []⟩
def Nd.Wf (x : Nd) : Prop := (0 ≤ x.fid ∧ x.fid < 4294967296) ∧ (0 ≤ x.k ∧ x.k < 256) ∧ (0 ≤ x.md ∧ x.md < 65536) ∧ (0 ≤ x.ln ∧ x.ln < 65536) ∧ InB x.zs ∧ x.zs.length ≤ 255 ∧ (∀ q ∈ x.ks, q.Wf ∧ q.nm.size ≤ 255) ∧ x.ks.length ≤ 255
def RowAt (w : World) (base : Nat) (t : TypeId) (p : Option Addr) (vs : List Value) : Prop := vs = [] ∨ ∃ (g : Nat) (cs : Array Value) (fr : Nat × Nat), p = some ⟨g, 0, none⟩ ∧ base ≤ g ∧ w.heap[g]? = some (.cells cs t fr) ∧ ∀ (i : Nat) (u : Value), vs[i]? = some u → cs[i]? = some u
theorem RowAt.later {w w' : World} {base : Nat} {t : TypeId} {p : Option Addr} {vs : List Value} (h : RowAt w base t p vs) (hb : Below w.heap.size w w') : RowAt w' base t p vs := by
 rcases h with h | ⟨g, cs, fr, h1, h2, h3, h4⟩
 · exact .inl h
 · exact .inr ⟨g, cs, fr, h1, h2, (hb.block _ (lt_blkR h3)).trans h3, h4⟩
theorem RowAt.own {w : World} {base : Nat} {t : TypeId} {sz n : Nat} {v : Value} {p : Option Addr} {m c : Nat} {vs : List Value} (h : w.ownsRow base t sz v n vs) (hv : v = .slice p m c) (hl : n = 0 → vs = []) : RowAt w base t p vs := by
 rcases h.2 with ⟨h1, h2⟩ | ⟨g, cap, cur, h1, h2, h3, h4⟩
 · exact .inl (hl h2)
 · rw [h1] at hv
   simp only [Value.slice.injEq] at hv
   refine .inr ⟨g, cur, _, hv.1.symm, h2, h3, fun i u hu => ?_⟩
   have e := h.cells (g := g) (by rw [h1]; rfl) i u hu
   have e2 : (⟨g, 0, none⟩ : Addr).add i = ⟨g, i, none⟩ := by unfold Addr.add; split <;> simp_all
   rw [e2, cell_of_row w g _ _ t _ h3] at e
   exact e
theorem RowAt.grown {w w' : World} {base b sz n : Nat} {t e : TypeId} {p : Option Addr} {vs xs : List Value} {v : Value} (h : RowAt w base t p vs) (hown : w.ownsRow b e sz v n xs) (hne : t ≠ e) (hg : w.grownBy w' v.ownBlock) : RowAt w' base t p vs := by
 rcases h with h | ⟨g, cs, fr, h1, h2, h3, h4⟩
 · exact .inl h
 · refine .inr ⟨g, cs, fr, h1, h2, (hg.block g (lt_blkR h3) (fun q => ?_)).trans h3, h4⟩
   rcases hown.2 with ⟨rfl, _⟩ | ⟨g', cap, cur, rfl, _, hg', _⟩
   · cases q
   · cases q
     rw [hg'] at h3
     cases h3
     exact hne rfl
theorem kid_wide : (match Tryz.prog.underlying 114 with | some (.array _ _) | some (.struct _) => true | _ => false) = true := by kernel_rfl
theorem kid_guard : Tryz.prog.eqGuardType Tryz.prog.depth 114 = false := by kernel_rfl
theorem kid_key {x : Kd} (h : x.Wf) : ∃ kl, keyOf Tryz.prog 114 x.val = some kl := by
 obtain ⟨h1, h2, h3⟩ := h
 have w2 : (Lit.int .u32 x.fid).wf = true := by simp [Lit.wf, IntKind.min, IntKind.max, IntKind.signed, IntKind.bits]; omega
 have : (keyOf Tryz.prog 114 x.val).isSome = true := by
   have hkt : Tryz.prog.keyType 114 = true := by kernel_rfl
   have hc : Tryz.prog.cellsOf 114 = 2 := by kernel_rfl
   have hc2 : Tryz.prog.cellsOf 31 = 1 := by kernel_rfl
   have hc4 : Tryz.prog.cellsOf 9 = 1 := by kernel_rfl
   have hs : decide (2 ≤ Tryz.prog.types.size) = true := by kernel_rfl
   obtain ⟨d, hd⟩ : ∃ d, Tryz.prog.types.size = d + 2 := ⟨Tryz.prog.types.size - 2, by have := of_decide_eq_true hs; omega⟩
   unfold Kd.val keyOf
   rw [Tryz.underlying114, hd]
   simp [hkt, Value.formed, Tryz.underlying114, Tryz.underlying9, hc, hc4, Value.cells, Program.keyLits, Tryz.underlying31, hc2, w2, h1]
 exact Option.isSome_iff_exists.1 this
def ncells (l : List Nd) : List Value := l.flatMap Nd.cells
theorem ncells_snoc (l : List Nd) (x : Nd) : ncells (l ++ [x]) = ncells l ++ x.cells := by unfold ncells; simp
theorem ncells_get (l : List Nd) (i j : Nat) (hi : i < l.length) (hj : j < 6) : (ncells l)[i * 6 + j]? = (l.getD i Nd.no).cells[j]? := by
 induction l generalizing i with
 | nil => cases hi
 | cons x t ih =>
   unfold ncells
   rw [List.flatMap_cons]
   rcases i with _ | i
   · rw [List.getElem?_append_left (by simp [Nd.cells]; omega)]
     simp
   · rw [List.getElem?_append_right (by simp [Nd.cells]; omega)]
     have e : (i + 1) * 6 + j - x.cells.length = i * 6 + j := by simp [Nd.cells]; omega
     rw [e]
     have := ih i (by simpa using hi)
     unfold ncells at this
     rw [this]
     simp [List.getD]
theorem info_nd : ∃ i : TypeInfo, Tryz.prog.info? 55 = some i ∧ i.zero = some Nd.no.val ∧ i.size = 6 ∧ i.bytes = 64 := by
 have h : (Tryz.prog.info? 55).map (fun i => (i.zero, i.size, i.bytes)) = some (some Nd.no.val, 6, 64) := by kernel_rfl
 cases hi : Tryz.prog.info? 55 with
 | none => rw [hi] at h; cases h
 | some i => rw [hi] at h; simp at h; exact ⟨i, rfl, h.1, h.2.1, h.2.2⟩
theorem nd_news {w : World} {g : Nat} {x : Nd} {t : TypeId} {fr : Nat × Nat} (hb : w.heap[g]? = some (.cells x.cells.toArray t fr)) : ∀ j u, x.cells[j]? = some u → w.cell? ((⟨g, 0, none⟩ : Addr).add j) = some u := fun j u hu => by
 have e : (⟨g, 0, none⟩ : Addr).add j = ⟨g, 0 + j, none⟩ := by unfold Addr.add; split <;> simp_all
 rw [e, cell_of_row w g _ _ t fr hb]
 simpa using hu
theorem nd_one (x : Nd) : ∀ u ∈ x.cells, u.oneCell' = true := fun u hu => by
 simp [Nd.cells] at hu
 rcases hu with rfl | rfl | rfl | rfl | rfl | rfl <;> rfl
end Go.Proofs.YtihgiemgcmpmmaaGreat
