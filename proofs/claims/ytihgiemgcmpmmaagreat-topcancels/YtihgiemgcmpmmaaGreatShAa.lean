/-
  Plain laws on numbers for the package bits: what Zig, Zag, Pack, Make, Turn, Low come to as arithmetic on integers; no program is named here.
  What each function of the package bits, and of the document's answer for it, returns: one contract a function.
  Records of a log: what lies in memory, what came in, rows that were made here.
  Logs that are gone through: without, Cut, Drop of the package cml.
  Touches, Ops of the package cml; Touches, Cut, Drop, Same of the document's.
  notNeeded of the package cml: the last place of each setting, in a map keyed by a struct.
  What stands in a PAIR's way: makes, unmakes, namesEntry, inTheWay of the package cml.
-/
import Derived.WalkKit
import Derived.ProofKit
import Derived.Test.YtihgiemgcmpmmaaGreatRows
import Derived.OpenShut
import Derived.ShutString
import Derived.WalkSpells
import Derived.WalkLawsBesides
import Derived.Lib.SlBytesConst
import Derived.Deep.QuietTactic
import Derived.BigQuiet
import Derived.ChangeArms
import Derived.ChangeOld
import Derived.Below
import Derived.Shelf.Abstract
import Derived.Maps.OwnOps
import Derived.Maps.Views
import Derived.DeepKeys4
namespace Go.Proofs.YtihgiemgcmpmmaaGreat.M
set_option linter.unusedVariables false
open Go.RowKit
theorem wrap_i64 (n : Int) : IntKind.i64.wrap n = wrap64 n := by
 rw [IntKind.wrap_i64]; unfold wrap64; omega
/-! ### Make -/
/-! ### Turn -/
/-! ### Low -/
/-! ### Fold -/
def foldS (s b : Int) : Int := IntKind.u32.wrap (bits .xor .u32 s b * 16777619)
def foldF (l : List Int) : Int := l.foldl foldS 2166136261
/-! ### Both ways -/
end Go.Proofs.YtihgiemgcmpmmaaGreat.M
namespace Go.Proofs.YtihgiemgcmpmmaaGreat
open Go.RowKit Go.ChangeShapes Go.WideShapes Go.ChangeAt
set_option linter.unusedVariables false
set_option linter.unusedSimpArgs false
theorem bd_u32 {a : Int} (h : (Lit.int .u32 a).wf = true) : 0 ≤ a ∧ a < 4294967296 := by
 simp [Lit.wf, IntKind.min, IntKind.max, IntKind.signed, IntKind.bits] at h; omega
theorem bd_u8 {a : Int} (h : (Lit.int .u8 a).wf = true) : 0 ≤ a ∧ a < 256 := by
 simp [Lit.wf, IntKind.min, IntKind.max, IntKind.signed, IntKind.bits] at h; omega
theorem ret_int {k : IntKind} {a b : Int} (h : a = b) : Ending.returned (.int k a) = .returned (.int k b) := by rw [h]
theorem val_int {k : IntKind} {a b : Int} (h : a = b) : Value.int k a = .int k b := by rw [h]
theorem hid {p : Prop} (h : p) : Hid p := h
theorem wp_region_class {P : Program} {id : Nat} {Q : Exit → Act → World → Prop} {a : Act} {w : World} {l : List Oper} (hm : P.follows .mixedOrders = true) (hB : Region.lexB .any l.toArray = true)
   (h : wpQuiet P l.toArray (fun w' => Below w.heap.size w w') (fun a' => ∀ w', Below w.heap.size w w' → Q .normal a' w') l a) : (Code.region id l.toArray true).wp P Q a w :=
 wp_region_quiet (C := fun w' => Below w.heap.size w w') hm hB ⟨rfl, rfl, rfl, Nat.le_refl _, fun _ _ => rfl⟩ (by simpa using h)
theorem quiet_by {P : Program} {o : Oper} {a a' : Act} {C : World → Prop} {K : Act → Prop} {v : Value} (h1 : ∀ w, C w → o.quietAt P a C w v) (h2 : a.put o.dst v = a') (h3 : K a') : o.quiet P a C K :=
 ⟨v, h1, by rw [h2]; exact h3⟩
theorem class_of {P : Program} {f : FuncId} {args : Array Value} {W w : World} {v : Value} (hw : Below W.heap.size W w)
   (h : Calls P f args w fun e w' => e = .returned v ∧ Below w.heap.size w w') : Calls P f args w fun e w'' => e = .returned v ∧ Below W.heap.size W w'' :=
 h.mono fun _ _ ⟨he, hb⟩ => ⟨he, hw.trans (hb.mono hw.size)⟩
theorem class_same {P : Program} {f : FuncId} {args : Array Value} {W w : World} {v : Value} (hw : Below W.heap.size W w)
   (h : Calls P f args w fun e w' => e = .returned v ∧ w' = w) : Calls P f args w fun e w'' => e = .returned v ∧ Below W.heap.size W w'' :=
 h.mono fun _ _ ⟨he, hb⟩ => ⟨he, by rw [hb]; exact hw⟩
def IsB (w : World) (a : Option Addr) (len : Nat) (zs : List Int) : Prop :=
 zs.length = len ∧ len ≤ maxLen ∧ (0 < len → ∃ b off, a = some ⟨b, off, none⟩ ∧ ∀ i, i < len → w.cell? ⟨b, off + i, none⟩ = some (.int .u8 (zs.getD i 0))) ∧ ∀ i, 0 ≤ zs.getD i 0 ∧ zs.getD i 0 ≤ 255
theorem take_snoc (l : List Int) (k : Nat) (h : k < l.length) : l.take (k + 1) = l.take k ++ [l.getD k 0] := by
 rw [List.take_succ_eq_append_getElem h]; simp [h]
theorem IsB.later {w w' : World} {a : Option Addr} {len : Nat} {zs : List Int} (h : IsB w a len zs) (hb : Below w.heap.size w w') : IsB w' a len zs := by
 obtain ⟨h1, h2, h3, h4⟩ := h
 refine ⟨h1, h2, fun hp => ?_, h4⟩
 obtain ⟨b, off, e, hc⟩ := h3 hp
 exact ⟨b, off, e, fun i hi => cell_later hb (hc i hi)⟩
theorem IsB.front {w : World} {a : Option Addr} {len : Nat} {zs : List Int} (h : IsB w a len zs) (m : Nat) (hm : m ≤ len) : IsB w a m (zs.take m) := by
 obtain ⟨h1, h2, h3, h4⟩ := h
 refine ⟨by rw [List.length_take]; omega, by omega, fun hp => ?_, fun i => ?_⟩
 · obtain ⟨b, off, e, hc⟩ := h3 (by omega)
   refine ⟨b, off, e, fun i hi => ?_⟩
   rw [hc i (by omega)]
   simp [List.getD, List.getElem?_take, hi]
 · by_cases hi : i < m
   · have := h4 i
     simpa [List.getD, List.getElem?_take, hi] using this
   · simp [List.getD, List.getElem?_take, hi]
end Go.Proofs.YtihgiemgcmpmmaaGreat
namespace Go.Proofs.YtihgiemgcmpmmaaGreat
open Go.RowKit Go.ChangeShapes Go.WideShapes Go.ChangeAt
set_option linter.unusedVariables false
set_option linter.unusedSimpArgs false
set_option maxRecDepth 100000
structure Rec where
 k : Int
 fid : Int
 dir : Int
 nm : ByteArray
 to : Int
 nm2 : ByteArray
 md : Int
 dt : ByteArray
 sn : Int
def Rec.ops (x : Rec) : List Value := [.int .u8 x.k, .int .u32 x.fid, .int .u32 x.dir, .string x.nm, .int .u32 x.to, .string x.nm2, .int .u16 x.md, .string x.dt]
def Rec.cells (x : Rec) : List Value := [.int .u8 x.k, .int .u32 x.fid, .int .u32 x.dir, .string x.nm, .int .u32 x.to, .string x.nm2, .int .u16 x.md, .string x.dt, .int .u64 x.sn]
def Rec.val (x : Rec) : Value := .agg #[.int .u8 x.k, .int .u32 x.fid, .int .u32 x.dir, .string x.nm, .int .u32 x.to, .string x.nm2, .int .u16 x.md, .string x.dt, .int .u64 x.sn]
def Rec.opV (x : Rec) : Value := .agg #[.int .u8 x.k, .int .u32 x.fid, .int .u32 x.dir, .string x.nm, .int .u32 x.to, .string x.nm2, .int .u16 x.md, .string x.dt]
def Rec.Wf (x : Rec) : Prop := (0 ≤ x.k ∧ x.k < 256) ∧ (0 ≤ x.fid ∧ x.fid < 4294967296) ∧ (0 ≤ x.dir ∧ x.dir < 4294967296) ∧ (0 ≤ x.to ∧ x.to < 4294967296) ∧ (0 ≤ x.md ∧ x.md < 65536) ∧ (0 ≤ x.sn ∧ x.sn < 18446744073709551616) ∧ x.nm.size ≤ maxLen ∧ x.nm2.size ≤ maxLen ∧ x.dt.size ≤ maxLen
def Rec.no : Rec := ⟨0, 0, 0, ⟨#[]⟩, 0, ⟨#[]⟩, 0, ⟨#[]⟩, 0⟩
theorem bd_u16r {a : Int} (h : (Lit.int .u16 a).wf = true) : 0 ≤ a ∧ a < 65536 := by
 simp [Lit.wf, IntKind.min, IntKind.max, IntKind.signed, IntKind.bits] at h; omega
theorem trod_op {H : Type} {enc : TypeId × Value → H} {W : World} {cs : List Value} {fuel : Nat} {x : DataW H × List MemPlace} {sp : Nat → Bool} {hd : Bool} {b0 : Nat} (hf : DataW.trod enc Tryz.prog W b0 sp hd fuel 34 cs = some x) :
   ∃ q : Rec, cs = q.ops ∧ q.Wf ∧ q.sn = 0 := by
 obtain ⟨xs, m, _, _, hlc, hlen, hel⟩ := DataW.trod_struct Tryz.underlying34 hf
 have hct : Tryz.prog.cellsOf 34 = 8 := by kernel_rfl
 have e1 : Tryz.prog.cellsOf 29 = 1 := by kernel_rfl
 have e2 : Tryz.prog.cellsOf 31 = 1 := by kernel_rfl
 have e3 : Tryz.prog.cellsOf 32 = 1 := by kernel_rfl
 have e4 : Tryz.prog.cellsOf 9 = 1 := by kernel_rfl
 rw [hct] at hlc
 match cs, hlc with
 | [c0, c1, c2, c3, c4, c5, c6, c7], _ =>
   match xs, hlen with
   | [x0, x1, x2, x3, x4, x5, x6, x7], _ =>
     have h0 := hel 0 _ rfl
     have h1 := hel 1 _ rfl
     have h2 := hel 2 _ rfl
     have h3 := hel 3 _ rfl
     have h4 := hel 4 _ rfl
     have h5 := hel 5 _ rfl
     have h6 := hel 6 _ rfl
     have h7 := hel 7 _ rfl
     simp [e1, e2, e3, e4] at h0 h1 h2 h3 h4 h5 h6 h7
     obtain ⟨n0, q0, _, w0⟩ := DataW.trod_int Tryz.underlying29 h0
     obtain ⟨n1, q1, _, w1⟩ := DataW.trod_int Tryz.underlying31 h1
     obtain ⟨n2, q2, _, w2⟩ := DataW.trod_int Tryz.underlying31 h2
     obtain ⟨s3, q3, _, w3⟩ := DataW.trod_string Tryz.underlying9 h3
     obtain ⟨n4, q4, _, w4⟩ := DataW.trod_int Tryz.underlying31 h4
     obtain ⟨s5, q5, _, w5⟩ := DataW.trod_string Tryz.underlying9 h5
     obtain ⟨n6, q6, _, w6⟩ := DataW.trod_int Tryz.underlying32 h6
     obtain ⟨s7, q7, _, w7⟩ := DataW.trod_string Tryz.underlying9 h7
     simp at q0 q1 q2 q3 q4 q5 q6 q7
     subst q0 q1 q2 q3 q4 q5 q6 q7
     exact ⟨⟨n0, n1, n2, s3, n4, s5, n6, s7, 0⟩, rfl, ⟨bd_u8 w0, bd_u32 w1, bd_u32 w2, bd_u32 w4, bd_u16r w6, ⟨Int.le_refl 0, (by decide : (0 : Int) < 18446744073709551616)⟩, w3, w5, w7⟩, rfl⟩
def RcAt (w : World) (b o : Nat) (x : Rec) : Prop := ∀ j v, x.cells[j]? = some v → w.cell? ⟨b, o + j, none⟩ = some v
theorem RcAt.later {w w' : World} {b o : Nat} {x : Rec} (h : RcAt w b o x) (hb : Below w.heap.size w w') : RcAt w' b o x := fun j v hv => cell_later hb (h j v hv)
def IsL (w : World) (a : Option Addr) (l : List Rec) : Prop :=
 l.length ≤ maxLen ∧ (∀ x ∈ l, x.Wf) ∧ (0 < l.length → ∃ b off, a = some ⟨b, off, none⟩ ∧ ∀ i, i < l.length → RcAt w b (off + i * 9) (l.getD i Rec.no))
theorem IsL.later {w w' : World} {a : Option Addr} {l : List Rec} (h : IsL w a l) (hb : Below w.heap.size w w') : IsL w' a l := by
 obtain ⟨h1, h2, h3⟩ := h
 refine ⟨h1, h2, fun hp => ?_⟩
 obtain ⟨b, off, e, hc⟩ := h3 hp
 exact ⟨b, off, e, fun i hi => (hc i hi).later hb⟩
theorem IsL.front {w : World} {a : Option Addr} {l : List Rec} (h : IsL w a l) (m : Nat) : IsL w a (l.take m) := by
 obtain ⟨h1, h2, h3⟩ := h
 refine ⟨by rw [List.length_take]; omega, fun x hx => h2 x (List.mem_of_mem_take hx), fun hp => ?_⟩
 rw [List.length_take] at hp
 obtain ⟨b, off, e, hc⟩ := h3 (by omega)
 refine ⟨b, off, e, fun i hi => ?_⟩
 rw [List.length_take] at hi
 have : (l.take m).getD i Rec.no = l.getD i Rec.no := by simp [List.getD, List.getElem?_take, show i < m by omega]
 rw [this]
 exact hc i (by omega)
def rcells (l : List Rec) : List Value := l.flatMap Rec.cells
theorem rcells_snoc (l : List Rec) (x : Rec) : rcells (l ++ [x]) = rcells l ++ x.cells := by unfold rcells; simp
theorem rcells_len (l : List Rec) : (rcells l).length = l.length * 9 := by
 unfold rcells
 induction l with
 | nil => rfl
 | cons p ps ih => rw [List.flatMap_cons, List.length_append, ih, List.length_cons]; simp [Rec.cells]; omega
theorem rcells_get (l : List Rec) (i : Nat) (h : i < l.length) (j : Nat) (hj : j < 9) : (rcells l)[i * 9 + j]? = ((l.getD i Rec.no).cells)[j]? := by
 unfold rcells
 induction l generalizing i with
 | nil => simp at h
 | cons p ps ih =>
   rw [List.flatMap_cons]
   rcases i with _ | i
   · rw [Nat.zero_mul, Nat.zero_add, List.getElem?_append_left (by simpa [Rec.cells] using hj)]; rfl
   · rw [List.getElem?_append_right (by simp [Rec.cells]; omega)]
     have : (i + 1) * 9 + j - (p.cells).length = i * 9 + j := by simp [Rec.cells]; omega
     rw [this, ih i (by simpa using h)]; simp [List.getD]
theorem isL_own {w : World} {base : Nat} {v : Value} {l : List Rec} (h : w.ownsRow base 37 9 v l.length (rcells l)) (hw : ∀ x ∈ l, x.Wf) : ∃ a cap, v = .slice a l.length cap ∧ IsL w a l ∧ l.length ≤ cap ∧ (a = none → cap = 0) := by
 rcases h.2 with ⟨rfl, hn⟩ | ⟨g, cap, cur, rfl, hb, hg, hn, hc, hs, ht⟩
 · exact ⟨none, 0, by rw [hn], ⟨by omega, hw, fun hp => absurd hp (by omega)⟩, by omega, fun _ => rfl⟩
 · refine ⟨some ⟨g, 0, none⟩, cap, rfl, ⟨by omega, hw, fun hp => ⟨g, 0, rfl, fun i hi j v hv => ?_⟩⟩, hn, fun e => by cases e⟩
   have hj : j < 9 := (List.getElem?_eq_some_iff.1 hv).1
   rw [Nat.zero_add, cell_of_row w g (i * 9 + j) cur _ _ hg]
   rw [← rcells_get l i hi j hj, ← ht, List.getElem?_take, if_pos (by omega)] at hv
   rw [← Array.getElem?_toList]; exact hv
theorem own_shapeR {w : World} {base e size n : Nat} {v : Value} {xs : List Value} (h : w.ownsRow base e size v n xs) : ∃ a cap, v = .slice a n cap := by
 rcases h.2 with ⟨hv, hn⟩ | ⟨g, cap, cur, hv, _⟩
 · exact ⟨_, _, by rw [hv, hn]⟩
 · exact ⟨_, _, hv⟩
theorem lt_blkR {w : World} {b : Nat} {o : Obj} (h : w.heap[b]? = some o) : b < w.heap.size := (Array.getElem?_eq_some_iff.1 h).1
theorem own_latR {w w' : World} {base e size n : Nat} {v : Value} {xs : List Value} (h : w.ownsRow base e size v n xs) (hb : Below w.heap.size w w') : w'.ownsRow base e size v n xs := by
 refine ⟨h.1, ?_⟩
 rcases h.2 with h | ⟨g, cap, cur, e1, e2, e3, e4⟩
 · exact .inl h
 · exact .inr ⟨g, cap, cur, e1, e2, (hb.block g (lt_blkR e3)).trans e3, e4⟩
theorem own_baseR {w : World} {base base' e size n : Nat} {v : Value} {xs : List Value} (h : w.ownsRow base e size v n xs) (hB : base' ≤ base) : w.ownsRow base' e size v n xs := by
 refine ⟨h.1, ?_⟩
 rcases h.2 with h | ⟨g, cap, cur, e1, e2, e3, e4⟩
 · exact .inl h
 · exact .inr ⟨g, cap, cur, e1, Nat.le_trans hB e2, e3, e4⟩
theorem below_grownR {B : Nat} {a w w' : World} {base : Nat} {e size n : Nat} {v : Value} {xs : List Value} (h : Below B a w) (hown : w.ownsRow base e size v n xs) (hB : B ≤ base) (hBw : B ≤ w.heap.size) (hg : w.grownBy w' v.ownBlock) : Below B a w' :=
 Below.grown h hg hBw (fun k hk => by have := (hown.lt k hk).1; omega)
theorem rec_box {w : World} {g : Nat} {x : Rec} {t : TypeId} {fr : Nat × Nat} (h : w.heap[g]? = some (.cells x.cells.toArray t fr)) : w.cell? ⟨g, 0, none⟩ = some (.int .u8 x.k) ∧ w.cell? ⟨g, 1, none⟩ = some (.int .u32 x.fid) ∧ w.cell? ⟨g, 2, none⟩ = some (.int .u32 x.dir) ∧ w.cell? ⟨g, 3, none⟩ = some (.string x.nm) ∧ w.cell? ⟨g, 4, none⟩ = some (.int .u32 x.to) ∧ w.cell? ⟨g, 5, none⟩ = some (.string x.nm2) ∧ w.cell? ⟨g, 6, none⟩ = some (.int .u16 x.md) ∧ w.cell? ⟨g, 7, none⟩ = some (.string x.dt) ∧ w.cell? ⟨g, 8, none⟩ = some (.int .u64 x.sn) := by
 refine ⟨?_, ?_, ?_, ?_, ?_, ?_, ?_, ?_, ?_⟩ <;> (rw [cell_of_row w g _ _ t fr h]; rfl)
theorem info_rec : ∃ i : TypeInfo, Tryz.prog.info? 37 = some i ∧ i.zero = some Rec.no.val ∧ i.size = 9 ∧ i.bytes = 88 := by
 have h : (Tryz.prog.info? 37).map (fun i => (i.zero, i.size, i.bytes)) = some (some Rec.no.val, 9, 88) := by kernel_rfl
 cases hi : Tryz.prog.info? 37 with
 | none => rw [hi] at h; cases h
 | some i => rw [hi] at h; simp at h; exact ⟨i, rfl, h.1, h.2.1, h.2.2⟩
end Go.Proofs.YtihgiemgcmpmmaaGreat
namespace Go.Proofs.YtihgiemgcmpmmaaGreat
open Go.RowKit Go.ChangeShapes Go.WideShapes Go.ChangeAt Go.Maps Go.Shelf
set_option linter.unusedVariables false
set_option linter.unusedSimpArgs false
def keepF (p : Nat → Bool) (l : List Rec) : Nat → List Rec
 | 0 => []
 | m + 1 => if p m then keepF p l m else keepF p l m ++ [l.getD m Rec.no]
theorem keep_wf {p : Nat → Bool} {l : List Rec} (h : ∀ x ∈ l, x.Wf) : ∀ m, m ≤ l.length → ∀ x ∈ keepF p l m, x.Wf
 | 0, _, x, hx => by simp [keepF] at hx
 | m + 1, hm, x, hx => by
   unfold keepF at hx
   split at hx
   · exact keep_wf h m (by omega) x hx
   · rcases List.mem_append.1 hx with hx | hx
     · exact keep_wf h m (by omega) x hx
     · rw [List.mem_singleton.1 hx, List.getD, List.getElem?_eq_getElem (by omega)]
       exact h _ (List.getElem_mem _)
theorem keep_len (p : Nat → Bool) (l : List Rec) : ∀ m, (keepF p l m).length ≤ m
 | 0 => by simp [keepF]
 | m + 1 => by
   have := keep_len p l m
   unfold keepF
   split
   · omega
   · simp; omega
theorem rec_news {w : World} {g : Nat} {x : Rec} {t : TypeId} {fr : Nat × Nat} (hb : w.heap[g]? = some (.cells x.cells.toArray t fr)) : ∀ j u, x.cells[j]? = some u → w.cell? ((⟨g, 0, none⟩ : Addr).add j) = some u := fun j u hu => by
 have e : (⟨g, 0, none⟩ : Addr).add j = ⟨g, 0 + j, none⟩ := by unfold Addr.add; split <;> simp_all
 rw [e, cell_of_row w g _ _ t fr hb]
 simpa using hu
theorem rec_one (x : Rec) : ∀ u ∈ x.cells, u.oneCell' = true := fun u hu => by
 simp [Rec.cells] at hu
 rcases hu with rfl | rfl | rfl | rfl | rfl | rfl | rfl | rfl | rfl <;> rfl
set_option maxRecDepth 20000 in
set_option maxHeartbeats 2000000 in
theorem without_c (a : Option Addr) (cap : Nat) (l : List Rec) (w : World) (h : IsL w a l) (hm : l.length ≤ 100000) (fid : Nat) (caps : Array Value) (p : Nat → Bool) (hE : ∀ (args : Array Value) (W : World), (callFunc fid args).run Tryz.prog W = .ok (.enter fid args) W)
   (hp : ∀ (i : Nat) (W : World), i < l.length → Below w.heap.size w W → Calls Tryz.prog fid (#[.int .i64 i] ++ caps) W fun e w' => e = .returned (.bool (p i)) ∧ Below W.heap.size W w') :
   Calls Tryz.prog 23 #[.slice a l.length cap, .func (.func fid) #[] caps] w fun e w' => ∃ v, e = .returned v ∧ w'.ownsRow w.heap.size 37 9 v (keepF p l l.length).length (rcells (keepF p l l.length)) ∧ Below w.heap.size w w' := by
 have H := hid h
 have HP := hid hp
 have HE := hid hE
 obtain ⟨i0, hi, hz0, hz1, hz2⟩ := info_rec
 clear h hp hE
 obtain ⟨n, hn⟩ : ∃ n, n = l.length := ⟨_, rfl⟩
 rw [← hn] at hm HP ⊢
 have HN := hid hn
 clear hn
 go_enter Tryz.func23, Tryz.ntmps23
 go_wp2
 go_loopw [5, 10] (fun v i wr => ∃ m : Nat, m ≤ n ∧ i = .int .i64 m ∧ Hid (wr.ownsRow w.heap.size 37 9 v (keepF p l m).length (rcells (keepF p l m))) ∧ Hid (Below w.heap.size w wr)) (fun _ i _ => (n - intOf i).toNat)
 case atStart => exact ⟨0, by omega, rfl, World.ownsRow_nil _ _ 37 9, Below.refl _ _⟩
 case round =>
   obtain ⟨m, hm2, rfl, HO, HB⟩ := hrel
   obtain ⟨va, vc, rfl⟩ := own_shapeR HO.out
   by_cases hlt : m < n
   · have hltI : (m : Int) < n := by omega
     obtain ⟨b, off, rfl, hc⟩ := H.out.2.2 (by rw [← HN.out]; omega)
     have hr := (hc m (by rw [← HN.out]; exact hlt)).later HB.out
     have PC := HP.out m
     have hk1 : keepF p l (m + 1) = if p m then keepF p l m else keepF p l m ++ [l.getD m Rec.no] := rfl
     have HK := hid hk1
     have hkl := keep_len p l m
     generalize l.getD m Rec.no = x at *
     have k0 : wr.cell? ⟨b, off + m * 9, none⟩ = some (.int .u8 x.k) := hr 0 _ rfl
     have k1 : wr.cell? ⟨b, off + m * 9 + 1, none⟩ = some (.int .u32 x.fid) := hr 1 _ rfl
     have k2 : wr.cell? ⟨b, off + m * 9 + 2, none⟩ = some (.int .u32 x.dir) := hr 2 _ rfl
     have k3 : wr.cell? ⟨b, off + m * 9 + 3, none⟩ = some (.string x.nm) := hr 3 _ rfl
     have k4 : wr.cell? ⟨b, off + m * 9 + 4, none⟩ = some (.int .u32 x.to) := hr 4 _ rfl
     have k5 : wr.cell? ⟨b, off + m * 9 + 5, none⟩ = some (.string x.nm2) := hr 5 _ rfl
     have k6 : wr.cell? ⟨b, off + m * 9 + 6, none⟩ = some (.int .u16 x.md) := hr 6 _ rfl
     have k7 : wr.cell? ⟨b, off + m * 9 + 7, none⟩ = some (.string x.dt) := hr 7 _ rfl
     have k8 : wr.cell? ⟨b, off + m * 9 + 8, none⟩ = some (.int .u64 x.sn) := hr 8 _ rfl
     clear hc hr
     go_wp2_with fail
     have hb1 : Below wr.heap.size wr (wr.alloc (.cells x.cells.toArray 37)) := (Below.refl _ _).alloc (Nat.le_refl _) _
     have hx1 := heap_alloc_new wr (.cells x.cells.toArray 37)
     rw [HE.out, Oper.upon_enter]
     refine (PC _ hlt (HB.out.trans (hb1.mono HB.out.size))).mono ?_
     rintro _ w2 ⟨rfl, hb2⟩
     have hx2 : w2.heap[wr.heap.size]? = some (.cells x.cells.toArray 37 (0, 0)) := (hb2.block _ (lt_blkR hx1)).trans hx1
     have HO2 := hid (own_latR (own_latR HO.out hb1) hb2)
     have HB2 := hid ((HB.out.trans (hb1.mono HB.out.size)).trans (hb2.mono (Nat.le_trans HB.out.size hb1.size)))
     obtain ⟨y0, y1, y2, y3, y4, y5, y6, y7, y8⟩ := rec_box hx2
     clear hx1 hx2 hb1 hb2 k0 k1 k2 k3 k4 k5 k6 k7 k8 HO
     cases hpm : p m with
     | true =>
       rw [hpm] at HK
       go_wp2
       go_roundw
       case rel => exact ⟨m + 1, by omega, by go_num, by rw [HK.out]; exact HO2.out, HB2⟩
       case measure => simp [intOf]; omega
     | false =>
       rw [hpm] at HK
       have hb3 : Below w2.heap.size w2 (w2.alloc (.cells x.cells.toArray 37)) := (Below.refl _ _).alloc (Nat.le_refl _) _
       have HO3 := hid (own_latR HO2.out hb3)
       have HB3 := hid (HB2.out.trans (hb3.mono HB2.out.size))
       have HN3 := hid (heap_alloc_new w2 (.cells x.cells.toArray 37))
       clear hb3
       go_wp2_with (at_builtin; refine wpList_append_own _ rfl _ _ 25 rfl w.heap.size 37 i0 Rec.no.val 9 88 Tryz.underlying25 hi hz0 hz1 hz2 (by rfl) (by decide) _ _ _ rfl HO3.out ⟨w2.heap.size, 0, none⟩ 1 1 x.cells rfl rfl (rec_news HN3.out) (rec_one x) (by unfold maxLen; omega) (by omega) HB3.out.size ?_; intro v9 w9 hown9 hgrow9 hnil9)
       have HB9 := hid (below_grownR HB3.out HO3.out (Nat.le_refl _) HB3.out.size hgrow9)
       have HO9 : Hid (w9.ownsRow w.heap.size 37 9 v9 (keepF p l (m + 1)).length (rcells (keepF p l (m + 1)))) := by
         show World.ownsRow _ _ _ _ _ _ _
         rw [HK.out]
         simp only [Bool.false_eq_true, if_false, List.length_append, List.length_cons, List.length_nil, rcells_snoc]
         exact hown9
       obtain ⟨a9, c9, rfl⟩ := own_shapeR hown9
       clear hown9 hgrow9 hnil9
       go_roundw
       case rel => exact ⟨m + 1, by omega, by go_num, HO9, HB9⟩
       case measure => simp [intOf]; omega
   · have em : m = n := by omega
     subst em
     have hge : ¬ (m : Int) < m := by omega
     go_wp2
     go_ret
     exact ⟨_, rfl, HO.out, HB.out⟩
def touchF (x : Rec) (f : Int) : Bool := (f != 0) && (x.fid == f || x.dir == f || x.to == f)
set_option maxRecDepth 20000 in
set_option maxHeartbeats 1000000 in
theorem touches_c (x : Rec) (f : Int) (w : World) :
   Calls Tryz.prog 13 #[x.val, .int .u32 f] w fun e w' => e = .returned (.bool (touchF x f)) ∧ Below w.heap.size w w' := by
 have hx : (w.alloc (.cells x.cells.toArray 37)).heap[w.heap.size]? = some (.cells x.cells.toArray 37 (0, 0)) := heap_alloc_new w _
 obtain ⟨y0, y1, y2, y3, y4, y5, y6, y7, y8⟩ := rec_box hx
 have HB : Hid (Below w.heap.size w (w.alloc (.cells x.cells.toArray 37))) := (Below.refl _ _).alloc (Nat.le_refl _) _
 unfold Rec.val touchF
 clear hx
 by_cases h0 : f = 0
 · subst h0
   go_enter Tryz.func13, Tryz.ntmps13
   go_wp2
   go_ret
   exact ⟨rfl, HB.out⟩
 · have e0 : (f != 0) = true := by simpa using h0
   have e0' : (f == 0) = false := by simpa using h0
   cases e1 : (x.fid == f) with
   | true =>
     go_enter Tryz.func13, Tryz.ntmps13
     go_wp2
     go_ret
     exact ⟨by first | rfl | (rw [e0]; rfl), HB.out⟩
   | false =>
     cases e2 : (x.dir == f) with
     | true =>
       go_enter Tryz.func13, Tryz.ntmps13
       go_wp2
       go_ret
       exact ⟨by first | rfl | (rw [e0]; rfl), HB.out⟩
     | false =>
       cases e3 : (x.to == f) with
       | true =>
         go_enter Tryz.func13, Tryz.ntmps13
         go_wp2
         go_ret
         exact ⟨by first | rfl | (rw [e0]; rfl), HB.out⟩
       | false =>
         go_enter Tryz.func13, Tryz.ntmps13
         go_wp2
         go_ret
         exact ⟨by first | rfl | (rw [e0]; rfl), HB.out⟩
end Go.Proofs.YtihgiemgcmpmmaaGreat
namespace Go.Proofs.YtihgiemgcmpmmaaGreat
open Go.RowKit Go.ChangeShapes Go.WideShapes Go.ChangeAt Go.Maps Go.Shelf
set_option linter.unusedVariables false
set_option linter.unusedSimpArgs false
set_option maxRecDepth 100000
theorem laidC : laidOutB Tryz.prog = true := by kernel_rfl
theorem setting_wide : (match Tryz.prog.underlying 94 with | some (.array _ _) | some (.struct _) => true | _ => false) = true := by kernel_rfl
theorem setting_law : WideMaps.KeyLaw Tryz.prog 94 := deep_law_laid laidC (m := 2) (by omega) (of_decide_eq_true (by kernel_rfl)) (by kernel_rfl) setting_wide
theorem setting_keyed : Keyed Tryz.prog 94 := Keyed.of_law setting_law
def kyV (k f : Int) : Value := .agg #[.int .u8 k, .int .u32 f]
def kyL (P : Program) (k f : Int) : Lit := (keyOf P 94 (kyV k f)).getD (.bool false)
theorem ky_some {k f : Int} (hk : 0 ≤ k ∧ k < 256) (hf : 0 ≤ f ∧ f < 4294967296) : keyOf Tryz.prog 94 (kyV k f) = some (kyL Tryz.prog k f) := by
 have h1 : (Lit.int .u8 k).wf = true := by simp [Lit.wf, IntKind.min, IntKind.max, IntKind.signed, IntKind.bits]; omega
 have h2 : (Lit.int .u32 f).wf = true := by simp [Lit.wf, IntKind.min, IntKind.max, IntKind.signed, IntKind.bits]; omega
 have : (keyOf Tryz.prog 94 (kyV k f)).isSome = true := by
   have hkt : Tryz.prog.keyType 94 = true := by kernel_rfl
   have hc : Tryz.prog.cellsOf 94 = 2 := by kernel_rfl
   have hc1 : Tryz.prog.cellsOf 29 = 1 := by kernel_rfl
   have hc2 : Tryz.prog.cellsOf 31 = 1 := by kernel_rfl
   have hs : decide (1 ≤ Tryz.prog.types.size) = true := by kernel_rfl
   obtain ⟨d, hd⟩ : ∃ d, Tryz.prog.types.size = d + 1 := ⟨Tryz.prog.types.size - 1, by have := of_decide_eq_true hs; omega⟩
   unfold kyV keyOf
   rw [Tryz.underlying94, hd]
   simp [hkt, Value.formed, Tryz.underlying94, hc, Value.cells, Program.keyLits, Tryz.underlying29, Tryz.underlying31, hc1, hc2, h1, h2]
 unfold kyL
 obtain ⟨x, hx⟩ := Option.isSome_iff_exists.1 this
 rw [hx]; rfl
theorem ky_inj {k f k' f' : Int} (hk : 0 ≤ k ∧ k < 256) (hf : 0 ≤ f ∧ f < 4294967296) (hk' : 0 ≤ k' ∧ k' < 256) (hf' : 0 ≤ f' ∧ f' < 4294967296) (h : kyL Tryz.prog k f = kyL Tryz.prog k' f') : k = k' ∧ f = f' := by
 have e := setting_law.inj (ky_some hk hf) (by rw [h]; exact ky_some hk' hf')
 simpa [kyV] using e
theorem ky_key {k f : Int} (hk : 0 ≤ k ∧ k < 256) (hf : 0 ≤ f ∧ f < 4294967296) : WideAt.IsKeyLit (kyL Tryz.prog k f) := setting_keyed.key (ky_some hk hf)
def lastF (l : List Rec) (k f : Int) : Nat → Nat
 | 0 => 0
 | m + 1 => if (l.getD m Rec.no).k = k ∧ (l.getD m Rec.no).fid = f then m else lastF l k f m
def LastD (l : List Rec) (m : Nat) (D : DataW Unit) : Prop := IsMap D ∧ ∀ k f : Int, (0 ≤ k ∧ k < 256) → (0 ≤ f ∧ f < 4294967296) → D.atKey (kyL Tryz.prog k f) (.lit (.int .i64 0)) = .lit (.int .i64 (lastF l k f m))
theorem LastD.start (l : List Rec) : LastD l 0 (.map []) := ⟨isMap_empty, fun k f _ _ => rfl⟩
theorem LastD.put {l : List Rec} {m : Nat} {D : DataW Unit} (h : LastD l m D) (hx : (l.getD m Rec.no).Wf) : LastD l (m + 1) (D.put (kyL Tryz.prog (l.getD m Rec.no).k (l.getD m Rec.no).fid) (.lit (.int .i64 m))) := by
 refine ⟨h.1.put _ _, fun k f hk hf => ?_⟩
 unfold lastF
 by_cases e : (l.getD m Rec.no).k = k ∧ (l.getD m Rec.no).fid = f
 · rw [if_pos e]
   obtain ⟨rfl, rfl⟩ := e
   rw [atKey_put_same h.1 (ky_key hk hf)]
 · rw [if_neg e, atKey_put_other (fun he => e (ky_inj hx.1 hx.2.1 hk hf he.symm))]
   exact h.2 k f hk hf
def MapAt (w : World) (b : Nat) (l : List Rec) (m : Nat) : Prop := ∃ D : DataW Unit, w.ownsMap Tryz.prog 94 (plainElem Tryz.prog 3) b m D ∧ LastD l m D
theorem MapAt.kept {w w' : World} {b : Nat} {l : List Rec} {m : Nat} {row : Option Nat} (h : MapAt w b l m) (hg : w.grownBy w' row) (hne : some b ≠ row) : MapAt w' b l m := by
 obtain ⟨D, h1, h2⟩ := h
 exact ⟨D, h1.kept hg hne, h2⟩
theorem MapAt.later {w w' : World} {b : Nat} {l : List Rec} {m : Nat} (h : MapAt w b l m) (hb : Below w.heap.size w w') : MapAt w' b l m := by
 obtain ⟨D, ⟨es, cl, h1, h2⟩, h3⟩ := h
 exact ⟨D, ⟨es, cl, (hb.block b (lt_blkR h1)).trans h1, h2⟩, h3⟩
theorem cell_grown {w w' : World} {g j : Nat} {u : Value} (h : w.grownBy w' (some g)) (hj : j ≠ g) (hu : w.cell? ⟨j, 0, none⟩ = some u) : w'.cell? ⟨j, 0, none⟩ = some u := by
 obtain ⟨_, _, _, _, hb⟩ := h
 have hlt : j < w.heap.size := by
   by_cases e : j < w.heap.size
   · exact e
   · have : w.heap[j]? = none := by simp; omega
     simp [World.cell?, this] at hu
 have e := hb j hlt (by simpa using hj)
 simp only [World.cell?, e] at hu ⊢
 exact hu
def setsF (k : Int) : Bool := k == 8 || k == 9
set_option maxHeartbeats 1000000 in
theorem sets_c (k : Int) (w : World) : Calls Tryz.prog 45 #[.int .u8 k] w fun e w' => e = .returned (.bool (setsF k)) ∧ w' = w := by
 unfold setsF
 cases e1 : (k == 8) <;> cases e2 : (k == 9) <;> (go_enter Tryz.func45, Tryz.ntmps45; go_wp2; go_ret; exact ⟨by first | rfl | simp_all, rfl⟩)
set_option maxRecDepth 20000 in
set_option maxHeartbeats 2000000 in
theorem notNeeded_c (a : Option Addr) (cap : Nat) (l : List Rec) (w : World) (h : IsL w a l) (hm : l.length ≤ 100000) :
   Calls Tryz.prog 24 #[.slice a l.length cap] w fun e w' => ∃ P1 P2 Mb, e = .returned (.func (.func 44) #[] #[.pointer (some ⟨P1, 0, none⟩), .pointer (some ⟨P2, 0, none⟩)]) ∧ w'.cell? ⟨P1, 0, none⟩ = some (.slice a l.length cap) ∧ w'.cell? ⟨P2, 0, none⟩ = some (.map (some Mb)) ∧ MapAt w' Mb l l.length ∧ Below w.heap.size w w' := by
 have H := hid h
 clear h
 obtain ⟨n, hn⟩ : ∃ n, n = l.length := ⟨_, rfl⟩
 rw [← hn] at hm ⊢
 have HN := hid hn
 clear hn
 have hmm := @run_makeMap Tryz.prog
 go_enter Tryz.func24, Tryz.ntmps24
 go_wp2
 go_loopw [9] (fun i wr => ∃ m : Nat, m ≤ n ∧ i = .int .i64 m ∧ Hid (MapAt wr (w.heap.size + 1) l m) ∧ Hid (wr.cell? ⟨w.heap.size, 0, none⟩ = some (.slice a n cap)) ∧ wr.cell? ⟨w.heap.size + 1 + 1, 0, none⟩ = some (.map (some (w.heap.size + 1))) ∧ Hid (Below w.heap.size w wr)) (fun i _ => (n - intOf i).toNat)
 case atStart =>
   have g0 := heap_alloc_new w (.cells #[.slice a n cap] 25)
   have b0 : Below w.heap.size w (w.alloc (.cells #[.slice a n cap] 25)) := (Below.refl _ _).alloc (Nat.le_refl _) _
   have s0 : (w.alloc (.cells #[.slice a n cap] 25)).heap.size = w.heap.size + 1 := by simp
   generalize w.alloc (.cells #[.slice a n cap] 25) = w1 at *
   have g1 := World.ownsMap_made (H := Unit) w1 Tryz.prog 94 (plainElem Tryz.prog 3)
   have b1 : Below w1.heap.size w1 (w1.alloc (.map #[] 0)) := (Below.refl _ _).alloc (Nat.le_refl _) _
   have s1 : (w1.alloc (.map #[] 0)).heap.size = w1.heap.size + 1 := by simp
   generalize w1.alloc (.map #[] 0) = w2 at *
   have g2 := heap_alloc_new w2 (.cells #[.map (some (w.heap.size + 1))] 92)
   have b2 : Below w2.heap.size w2 (w2.alloc (.cells #[.map (some (w.heap.size + 1))] 92)) := (Below.refl _ _).alloc (Nat.le_refl _) _
   generalize w2.alloc (.cells #[.map (some (w.heap.size + 1))] 92) = w3 at *
   rw [s1, s0] at g2
   rw [s0] at g1
   have m2 : MapAt w2 (w.heap.size + 1) l 0 := ⟨_, g1, LastD.start l⟩
   refine ⟨0, by omega, rfl, m2.later b2, cell_later b2 (cell_later b1 (by rw [cell_of_row _ _ _ _ _ _ g0]; rfl)), by rw [cell_of_row _ _ _ _ _ _ g2]; rfl, ?_⟩
   exact (b0.trans (b1.mono b0.size)).trans (b2.mono (by omega))
 case round =>
   obtain ⟨m, hm2, rfl, HM, HP, hq, HB⟩ := hrel
   by_cases hlt : m < n
   · have hltI : (m : Int) < n := by omega
     obtain ⟨b, off, rfl, hc⟩ := H.out.2.2 (by rw [← HN.out]; omega)
     have hr := (hc m (by rw [← HN.out]; exact hlt)).later HB.out
     have HW : Hid ((l.getD m Rec.no).Wf) := by
       show Rec.Wf _
       rw [List.getD, List.getElem?_eq_getElem (by rw [← HN.out]; exact hlt)]
       exact H.out.2.1 _ (List.getElem_mem _)
     have HL : Hid (∀ D, LastD l m D → LastD l (m + 1) (D.put (kyL Tryz.prog (l.getD m Rec.no).k (l.getD m Rec.no).fid) (.lit (.int .i64 m)))) := fun D hD => hD.put HW.out
     generalize l.getD m Rec.no = x at *
     have k0 : wr.cell? ⟨b, off + m * 9, none⟩ = some (.int .u8 x.k) := hr 0 _ rfl
     have k1 : wr.cell? ⟨b, off + m * 9 + 1, none⟩ = some (.int .u32 x.fid) := hr 1 _ rfl
     have k2 : wr.cell? ⟨b, off + m * 9 + 2, none⟩ = some (.int .u32 x.dir) := hr 2 _ rfl
     have k3 : wr.cell? ⟨b, off + m * 9 + 3, none⟩ = some (.string x.nm) := hr 3 _ rfl
     have k4 : wr.cell? ⟨b, off + m * 9 + 4, none⟩ = some (.int .u32 x.to) := hr 4 _ rfl
     have k5 : wr.cell? ⟨b, off + m * 9 + 5, none⟩ = some (.string x.nm2) := hr 5 _ rfl
     have k6 : wr.cell? ⟨b, off + m * 9 + 6, none⟩ = some (.int .u16 x.md) := hr 6 _ rfl
     have k7 : wr.cell? ⟨b, off + m * 9 + 7, none⟩ = some (.string x.dt) := hr 7 _ rfl
     have k8 : wr.cell? ⟨b, off + m * 9 + 8, none⟩ = some (.int .u64 x.sn) := hr 8 _ rfl
     clear hc hr
     have hb1 : Below wr.heap.size wr (wr.alloc (.cells x.cells.toArray 37)) := (Below.refl _ _).alloc (Nat.le_refl _) _
     have HM1 := hid (HM.out.later hb1)
     have HP1 := hid (cell_later hb1 HP.out)
     have hq1 : (wr.alloc (.cells #[.int .u8 x.k, .int .u32 x.fid, .int .u32 x.dir, .string x.nm, .int .u32 x.to, .string x.nm2, .int .u16 x.md, .string x.dt, .int .u64 x.sn] 37)).cell? ⟨w.heap.size + 1 + 1, 0, none⟩ = some (.map (some (w.heap.size + 1))) := cell_later hb1 hq
     have HB1 := hid (HB.out.trans (hb1.mono HB.out.size))
     clear hb1 HM HP
     obtain ⟨D, hD⟩ := HM1
     have HO := hid hD.1
     have HD := hid hD.2
     clear hD
     go_wp2_with (at_mapUpdate; refine wpList_mapUpdate_own _ rfl _ _ _ 92 rfl 94 3 setting_keyed Tryz.underlying92 _ (w.heap.size + 1) m D rfl HO.out (by unfold maxLen; omega) _ _ (kyL Tryz.prog x.k x.fid) rfl rfl (ky_some HW.out.1 HW.out.2.1) (.lit (.int .i64 m)) [] (plainElem_int Tryz.underlying3 (by simp [Lit.wf, IntKind.min, IntKind.max, IntKind.signed, IntKind.bits]; omega)) ?_; intro w9 hown9 hgrow9)
     have hne : ∀ j u, j ≠ w.heap.size + 1 → (wr.alloc (.cells x.cells.toArray 37)).cell? ⟨j, 0, none⟩ = some u → w9.cell? ⟨j, 0, none⟩ = some u := fun j u hj hu => cell_grown hgrow9 (by simpa using hj) hu
     have HM9 : Hid (MapAt w9 (w.heap.size + 1) l (m + 1)) := ⟨_, hown9, HL.out _ HD.out⟩
     have HP9 := hid (hne _ _ (by omega) HP1.out)
     have hq9 := hne _ _ (by omega) hq1
     have HB9 : Hid (Below w.heap.size w w9) := Below.grown HB1.out hgrow9 HB1.out.size (fun k hk => by cases hk; omega)
     clear hown9 hgrow9 hne
     go_roundw
     case rel => exact ⟨m + 1, by omega, by go_num, HM9, HP9, hq9, HB9⟩
     case measure => simp [intOf]; omega
   · have em : m = n := by omega
     subst em
     have hge : ¬ (m : Int) < m := by omega
     go_wp2
     go_ret
     exact ⟨w.heap.size, w.heap.size + 1 + 1, rfl, HP.out, w.heap.size + 1, hq, HM.out, HB.out⟩
def needF (l : List Rec) (i : Nat) : Bool := setsF (l.getD i Rec.no).k && decide (i < lastF l (l.getD i Rec.no).k (l.getD i Rec.no).fid l.length)
set_option maxRecDepth 20000 in
set_option maxHeartbeats 2000000 in
theorem notNeeded1_c (a : Option Addr) (cap : Nat) (l : List Rec) (i : Nat) (P1 P2 Mb : Nat) (w : World) (h : IsL w a l) (hm : l.length ≤ 100000) (hi : i < l.length) (h1 : w.cell? ⟨P1, 0, none⟩ = some (.slice a l.length cap)) (h2 : w.cell? ⟨P2, 0, none⟩ = some (.map (some Mb))) (hM : MapAt w Mb l l.length) :
   Calls Tryz.prog 44 #[.int .i64 i, .pointer (some ⟨P1, 0, none⟩), .pointer (some ⟨P2, 0, none⟩)] w fun e w' => e = .returned (.bool (needF l i)) ∧ Below w.heap.size w w' := by
 obtain ⟨b, off, rfl, hc⟩ := h.2.2 (by omega)
 have hr := hc i hi
 have HW : Hid ((l.getD i Rec.no).Wf) := by
   show Rec.Wf _
   rw [List.getD, List.getElem?_eq_getElem hi]
   exact h.2.1 _ (List.getElem_mem _)
 have hE : needF l i = (setsF (l.getD i Rec.no).k && decide (i < lastF l (l.getD i Rec.no).k (l.getD i Rec.no).fid l.length)) := rfl
 rw [hE]
 clear hE hc h
 generalize l.getD i Rec.no = x at *
 have k0 : w.cell? ⟨b, off + i * 9, none⟩ = some (.int .u8 x.k) := hr 0 _ rfl
 have k1 : w.cell? ⟨b, off + i * 9 + 1, none⟩ = some (.int .u32 x.fid) := hr 1 _ rfl
 have k2 : w.cell? ⟨b, off + i * 9 + 2, none⟩ = some (.int .u32 x.dir) := hr 2 _ rfl
 have k3 : w.cell? ⟨b, off + i * 9 + 3, none⟩ = some (.string x.nm) := hr 3 _ rfl
 have k4 : w.cell? ⟨b, off + i * 9 + 4, none⟩ = some (.int .u32 x.to) := hr 4 _ rfl
 have k5 : w.cell? ⟨b, off + i * 9 + 5, none⟩ = some (.string x.nm2) := hr 5 _ rfl
 have k6 : w.cell? ⟨b, off + i * 9 + 6, none⟩ = some (.int .u16 x.md) := hr 6 _ rfl
 have k7 : w.cell? ⟨b, off + i * 9 + 7, none⟩ = some (.string x.dt) := hr 7 _ rfl
 clear hr
 have hb1 : Below w.heap.size w (w.alloc (.cells #[.int .u8 x.k, .int .u32 x.fid, .int .u32 x.dir, .string x.nm, .int .u32 x.to, .string x.nm2, .int .u16 x.md, .string x.dt] 34)) := (Below.refl _ _).alloc (Nat.le_refl _) _
 have hq1 := cell_later hb1 h2
 obtain ⟨D, hO, hD⟩ := hM.later hb1
 obtain ⟨c, hrun, hat, hwc⟩ := hO.lookup_int setting_keyed Tryz.underlying92 Tryz.underlying3 (by kernel_rfl) (ky_some HW.out.1 HW.out.2.1)
 rw [hD.2 _ _ HW.out.1 HW.out.2.1] at hat
 obtain rfl : (lastF l x.k x.fid l.length : Int) = c := by simpa using hat
 unfold kyV at hrun
 have HB := hid hb1
 clear hat hwc hO hD hb1 hM
 generalize hlf : lastF l x.k x.fid l.length = lf at *
 generalize l.length = n at *
 have hiI : (i : Int) < n := by omega
 cases hs : setsF x.k with
 | false =>
   go_enter Tryz.func44, Tryz.ntmps44
   go_wp2_with (go_at_call 45; refine (sets_c x.k _).mono ?_; rintro _ _ ⟨rfl, rfl⟩; rw [hs])
   go_ret
   exact ⟨rfl, HB.out⟩
 | true =>
   go_enter Tryz.func44, Tryz.ntmps44
   go_wp2_with (go_at_call 45; refine (sets_c x.k _).mono ?_; rintro _ _ ⟨rfl, rfl⟩; rw [hs])
   go_ret
   exact ⟨rfl, HB.out⟩
end Go.Proofs.YtihgiemgcmpmmaaGreat
namespace Go.Proofs.YtihgiemgcmpmmaaGreat
open Go.RowKit Go.ChangeShapes Go.WideShapes Go.ChangeAt Go.Maps Go.Shelf
set_option linter.unusedVariables false
set_option linter.unusedSimpArgs false
def makesF (k : Int) : Bool := k == 1 || k == 2 || k == 3
def unmakesF (x m : Rec) : Bool := (x.k == if m.k = 2 then 6 else 5) && (x.dir == m.dir) && (x.nm.toList == m.nm.toList)
def namesF (x : Rec) (at' : Int) (nm : ByteArray) : Bool := (x.dir == at' && x.nm.toList == nm.toList) || (x.to == at' && x.nm2.toList == nm.toList)
def wayF (x m : Rec) : Bool := !(setsF x.k && x.fid == m.fid) && (touchF x m.fid || namesF x m.dir m.nm)
set_option maxHeartbeats 1000000 in
theorem makes_c (k : Int) (w : World) : Calls Tryz.prog 79 #[.int .u8 k] w fun e w' => e = .returned (.bool (makesF k)) ∧ w' = w := by
 unfold makesF
 cases e1 : (k == 1) <;> cases e2 : (k == 2) <;> cases e3 : (k == 3) <;> (go_enter Tryz.func79, Tryz.ntmps79; go_wp2; go_ret; exact ⟨by first | rfl | simp_all, rfl⟩)
set_option maxRecDepth 20000 in
set_option maxHeartbeats 1000000 in
theorem unmakes_c (x m : Rec) (b o b' o' : Nat) (w : World) (hx : RcAt w b o x) (hm : RcAt w b' o' m) :
   Calls Tryz.prog 80 #[.pointer (some ⟨b, o, none⟩), .pointer (some ⟨b', o', none⟩)] w fun e w' => e = .returned (.bool (unmakesF x m)) ∧ Below w.heap.size w w' := by
 have x0 : w.cell? ⟨b, o, none⟩ = some (.int .u8 x.k) := hx 0 _ rfl
 have x2 : w.cell? ⟨b, o + 2, none⟩ = some (.int .u32 x.dir) := hx 2 _ rfl
 have x3 : w.cell? ⟨b, o + 3, none⟩ = some (.string x.nm) := hx 3 _ rfl
 have m0 : w.cell? ⟨b', o', none⟩ = some (.int .u8 m.k) := hm 0 _ rfl
 have m2 : w.cell? ⟨b', o' + 2, none⟩ = some (.int .u32 m.dir) := hm 2 _ rfl
 have m3 : w.cell? ⟨b', o' + 3, none⟩ = some (.string m.nm) := hm 3 _ rfl
 clear hx hm
 unfold unmakesF
 by_cases e2 : m.k = 2
 · have e2' : (m.k == 2) = true := by simpa using e2
   rw [if_pos e2]
   cases e0 : (x.k == 6) <;> cases e1 : (x.dir == m.dir) <;> (go_enter Tryz.func80, Tryz.ntmps80; go_wp2; go_region; go_wp2; go_ret; exact ⟨by first | rfl | simp_all, by first | exact Below.refl _ _ | exact Below.drew (Below.refl _ _)⟩)
 · have e2' : (m.k == 2) = false := by simpa using e2
   rw [if_neg e2]
   cases e0 : (x.k == 5) <;> cases e1 : (x.dir == m.dir) <;> (go_enter Tryz.func80, Tryz.ntmps80; go_wp2; go_region; go_wp2; go_ret; exact ⟨by first | rfl | simp_all, by first | exact Below.refl _ _ | exact Below.drew (Below.refl _ _)⟩)
set_option maxRecDepth 20000 in
set_option maxHeartbeats 1000000 in
theorem names_c (x : Rec) (f : Int) (nm : ByteArray) (b o : Nat) (w : World) (hx : RcAt w b o x) :
   Calls Tryz.prog 99 #[.pointer (some ⟨b, o, none⟩), .int .u32 f, .string nm] w fun e w' => e = .returned (.bool (namesF x f nm)) ∧ w' = w := by
 have x2 : w.cell? ⟨b, o + 2, none⟩ = some (.int .u32 x.dir) := hx 2 _ rfl
 have x3 : w.cell? ⟨b, o + 3, none⟩ = some (.string x.nm) := hx 3 _ rfl
 have x4 : w.cell? ⟨b, o + 4, none⟩ = some (.int .u32 x.to) := hx 4 _ rfl
 have x5 : w.cell? ⟨b, o + 5, none⟩ = some (.string x.nm2) := hx 5 _ rfl
 clear hx
 unfold namesF
 cases e1 : (x.dir == f) <;> cases e2 : (x.nm.toList == nm.toList) <;> cases e3 : (x.to == f) <;> (go_enter Tryz.func99, Tryz.ntmps99; go_wp2; go_ret; exact ⟨by first | rfl | simp_all, rfl⟩)
set_option maxRecDepth 20000 in
set_option maxHeartbeats 4000000 in
theorem way_c (x m : Rec) (b o b' o' : Nat) (w : World) (hx : RcAt w b o x) (hm : RcAt w b' o' m) :
   Calls Tryz.prog 81 #[.pointer (some ⟨b, o, none⟩), .pointer (some ⟨b', o', none⟩)] w fun e w' => e = .returned (.bool (wayF x m)) ∧ Below w.heap.size w w' := by
 have HX := hid hx
 have HM := hid hm
 have x0 : ∀ w', Below w.heap.size w w' → w'.cell? ⟨b, o, none⟩ = some (.int .u8 x.k) := fun w' h => (hx.later h) 0 _ rfl
 have x1 : ∀ w', Below w.heap.size w w' → w'.cell? ⟨b, o + 1, none⟩ = some (.int .u32 x.fid) := fun w' h => (hx.later h) 1 _ rfl
 have m1 : ∀ w', Below w.heap.size w w' → w'.cell? ⟨b', o' + 1, none⟩ = some (.int .u32 m.fid) := fun w' h => (hm.later h) 1 _ rfl
 clear hx hm
 unfold wayF
 cases e0 : setsF x.k <;> cases e1 : (x.fid == m.fid)
 all_goals
   have SC0 := fun W => sets_c x.k W
   rw [e0] at SC0
   have SC := hid SC0
   clear SC0
   go_enter Tryz.func81, Tryz.ntmps81
   go_wp2
   refine wp_region_class (by kernel_rfl) (by kernel_rfl) ?_
   repeat (first
     | go_big_quiet_skip
     | (go_big_quiet_want
        apply quiet_by
        · intro w1 hw1
          have y0 := x0 w1 hw1
          have y1 := x1 w1 hw1
          have z1 := m1 w1 hw1
          first
            | (go_simp; first | rfl | (go_at_call 45; exact class_same hw1 (SC.out _)))
        · go_simp; rfl
        go_big_quiet_on))
   refine wpQuiet_nil ?_
   intro w1 hw1
   clear x0 x1 m1
   have HX1 := hid (HX.out.later hw1)
   have HM1 := hid (HM.out.later hw1)
   have HB1 := hid hw1
   clear HX HM hw1
   go_wp2_with fail
 all_goals first
   | (go_ret; exact ⟨rfl, HB1.out⟩)
   | skip
 all_goals
   cases e2 : touchF x m.fid
 all_goals
     have TC0 := fun W => touches_c x m.fid W
     rw [e2] at TC0
     have TC := hid TC0
     have NC := hid (fun W (h : Below w1.heap.size w1 W) => names_c x m.dir m.nm b o W (HX1.out.later h))
     clear TC0
     have x0 : ∀ w', Below w1.heap.size w1 w' → w'.cell? ⟨b, o, none⟩ = some (.int .u8 x.k) := fun w' h => (HX1.out.later h) 0 _ rfl
     have x1 : ∀ w', Below w1.heap.size w1 w' → w'.cell? ⟨b, o + 1, none⟩ = some (.int .u32 x.fid) := fun w' h => (HX1.out.later h) 1 _ rfl
     have x2 : ∀ w', Below w1.heap.size w1 w' → w'.cell? ⟨b, o + 2, none⟩ = some (.int .u32 x.dir) := fun w' h => (HX1.out.later h) 2 _ rfl
     have x3 : ∀ w', Below w1.heap.size w1 w' → w'.cell? ⟨b, o + 3, none⟩ = some (.string x.nm) := fun w' h => (HX1.out.later h) 3 _ rfl
     have x4 : ∀ w', Below w1.heap.size w1 w' → w'.cell? ⟨b, o + 4, none⟩ = some (.int .u32 x.to) := fun w' h => (HX1.out.later h) 4 _ rfl
     have x5 : ∀ w', Below w1.heap.size w1 w' → w'.cell? ⟨b, o + 5, none⟩ = some (.string x.nm2) := fun w' h => (HX1.out.later h) 5 _ rfl
     have x6 : ∀ w', Below w1.heap.size w1 w' → w'.cell? ⟨b, o + 6, none⟩ = some (.int .u16 x.md) := fun w' h => (HX1.out.later h) 6 _ rfl
     have x7 : ∀ w', Below w1.heap.size w1 w' → w'.cell? ⟨b, o + 7, none⟩ = some (.string x.dt) := fun w' h => (HX1.out.later h) 7 _ rfl
     have x8 : ∀ w', Below w1.heap.size w1 w' → w'.cell? ⟨b, o + 8, none⟩ = some (.int .u64 x.sn) := fun w' h => (HX1.out.later h) 8 _ rfl
     have m1 : ∀ w', Below w1.heap.size w1 w' → w'.cell? ⟨b', o' + 1, none⟩ = some (.int .u32 m.fid) := fun w' h => (HM1.out.later h) 1 _ rfl
     have m2 : ∀ w', Below w1.heap.size w1 w' → w'.cell? ⟨b', o' + 2, none⟩ = some (.int .u32 m.dir) := fun w' h => (HM1.out.later h) 2 _ rfl
     have m3 : ∀ w', Below w1.heap.size w1 w' → w'.cell? ⟨b', o' + 3, none⟩ = some (.string m.nm) := fun w' h => (HM1.out.later h) 3 _ rfl
     clear HX1 HM1
     refine wp_region_class (by kernel_rfl) (by kernel_rfl) ?_
     repeat (first
       | go_big_quiet_skip
       | (go_big_quiet_want
          apply quiet_by
          · intro w2 hw2
            have x0 := x0 w2 hw2
            have x1 := x1 w2 hw2
            have x2 := x2 w2 hw2
            have x3 := x3 w2 hw2
            have x4 := x4 w2 hw2
            have x5 := x5 w2 hw2
            have x6 := x6 w2 hw2
            have x7 := x7 w2 hw2
            have x8 := x8 w2 hw2
            have m1 := m1 w2 hw2
            have m2 := m2 w2 hw2
            have m3 := m3 w2 hw2
            go_simp
            first
              | rfl
              | (go_at_call 13; exact class_of hw2 (TC.out _))
              | (go_at_call 99; exact class_same hw2 (NC.out _ hw2))
          · go_simp; rfl
          go_big_quiet_on))
     refine wpQuiet_nil ?_
     intro w2 hw2
     go_wp2
     go_ret
     exact ⟨by rw [e2]; rfl, HB1.out.trans (hw2.mono HB1.out.size)⟩
end Go.Proofs.YtihgiemgcmpmmaaGreat
