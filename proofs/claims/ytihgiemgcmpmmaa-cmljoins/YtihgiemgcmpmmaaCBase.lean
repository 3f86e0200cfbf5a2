/-
  Records of a log: what lies in memory, what came in, rows that were made here.
-/
import Derived.Test.YtihgiemgcmpmmaaCalls
import Derived.ChangeArms
import Derived.ChangeOld
import Derived.Below
namespace Go.Proofs.Ytihgiemgcmpmmaa
open Go.RowKit Go.ChangeShapes Go.WideShapes Go.ChangeAt
set_option linter.unusedVariables false
set_option linter.unusedSimpArgs false
set_option maxRecDepth 100000
/-- A record: its operation's kind, fid, directory, name, other directory, other name, mode, data; the version that was seen. -/
structure Rec where
  k : Int
  fid : Int
  dir : Int
  nm : ByteArray
  to : Int
  nm2 : ByteArray
  md : Int
  dt : ByteArray
  sn : Int
/-- An operation's cells; a record's. -/
def Rec.ops (x : Rec) : List Value := [.int .u8 x.k, .int .u32 x.fid, .int .u32 x.dir, .string x.nm, .int .u32 x.to, .string x.nm2, .int .u16 x.md, .string x.dt]
def Rec.cells (x : Rec) : List Value := [.int .u8 x.k, .int .u32 x.fid, .int .u32 x.dir, .string x.nm, .int .u32 x.to, .string x.nm2, .int .u16 x.md, .string x.dt, .int .u64 x.sn]
def Rec.val (x : Rec) : Value := .agg #[.int .u8 x.k, .int .u32 x.fid, .int .u32 x.dir, .string x.nm, .int .u32 x.to, .string x.nm2, .int .u16 x.md, .string x.dt, .int .u64 x.sn]
def Rec.opV (x : Rec) : Value := .agg #[.int .u8 x.k, .int .u32 x.fid, .int .u32 x.dir, .string x.nm, .int .u32 x.to, .string x.nm2, .int .u16 x.md, .string x.dt]
def Rec.Wf (x : Rec) : Prop := (0 ≤ x.k ∧ x.k < 256) ∧ (0 ≤ x.fid ∧ x.fid < 4294967296) ∧ (0 ≤ x.dir ∧ x.dir < 4294967296) ∧ (0 ≤ x.to ∧ x.to < 4294967296) ∧ (0 ≤ x.md ∧ x.md < 65536) ∧ (0 ≤ x.sn ∧ x.sn < 18446744073709551616) ∧ x.nm.size ≤ maxLen ∧ x.nm2.size ≤ maxLen ∧ x.dt.size ≤ maxLen
def Rec.no : Rec := ⟨0, 0, 0, ⟨#[]⟩, 0, ⟨#[]⟩, 0, ⟨#[]⟩, 0⟩
theorem bd_u16r {a : Int} (h : (Lit.int .u16 a).wf = true) : 0 ≤ a ∧ a < 65536 := by
  simp [Lit.wf, IntKind.min, IntKind.max, IntKind.signed, IntKind.bits] at h; omega
theorem trod_op {H : Type} {enc : TypeId × Value → H} {W : World} {cs : List Value} {fuel : Nat} {x : DataW H × List MemPlace} {sp : Nat → Bool} {hd : Bool} {b0 : Nat} (hf : DataW.trod enc Try.prog W b0 sp hd fuel 46 cs = some x) :
    ∃ q : Rec, cs = q.ops ∧ q.Wf ∧ q.sn = 0 := by
  obtain ⟨xs, m, _, _, hlc, hlen, hel⟩ := DataW.trod_struct Try.underlying46 hf
  have hct : Try.prog.cellsOf 46 = 8 := by kernel_rfl
  have e1 : Try.prog.cellsOf 41 = 1 := by kernel_rfl
  have e2 : Try.prog.cellsOf 43 = 1 := by kernel_rfl
  have e3 : Try.prog.cellsOf 44 = 1 := by kernel_rfl
  have e4 : Try.prog.cellsOf 9 = 1 := by kernel_rfl
  rw [hct] at hlc
  match cs, hlc with
  | [c0, c1, c2, c3, c4, c5, c6, c7], _ =>
    match xs, hlen with
    | [x0, x1, x2, x3, x4, x5, x6, x7], _ =>
      have h0 := hel 0 _ rfl
      have h1 := hel 1 _ rfl
      have h2 := hel 2 _ rfl
      have h3 := hel 3 _ rfl
      have h4 := hel 4 _ rfl
      have h5 := hel 5 _ rfl
      have h6 := hel 6 _ rfl
      have h7 := hel 7 _ rfl
      simp [e1, e2, e3, e4] at h0 h1 h2 h3 h4 h5 h6 h7
      obtain ⟨n0, q0, _, w0⟩ := DataW.trod_int Try.underlying41 h0
      obtain ⟨n1, q1, _, w1⟩ := DataW.trod_int Try.underlying43 h1
      obtain ⟨n2, q2, _, w2⟩ := DataW.trod_int Try.underlying43 h2
      obtain ⟨s3, q3, _, w3⟩ := DataW.trod_string Try.underlying9 h3
      obtain ⟨n4, q4, _, w4⟩ := DataW.trod_int Try.underlying43 h4
      obtain ⟨s5, q5, _, w5⟩ := DataW.trod_string Try.underlying9 h5
      obtain ⟨n6, q6, _, w6⟩ := DataW.trod_int Try.underlying44 h6
      obtain ⟨s7, q7, _, w7⟩ := DataW.trod_string Try.underlying9 h7
      simp at q0 q1 q2 q3 q4 q5 q6 q7
      subst q0 q1 q2 q3 q4 q5 q6 q7
      exact ⟨⟨n0, n1, n2, s3, n4, s5, n6, s7, 0⟩, rfl, ⟨bd_u8 w0, bd_u32 w1, bd_u32 w2, bd_u32 w4, bd_u16r w6, ⟨Int.le_refl 0, (by decide : (0 : Int) < 18446744073709551616)⟩, w3, w5, w7⟩, rfl⟩
theorem trod_rec {H : Type} {enc : TypeId × Value → H} {W : World} {cs : List Value} {fuel : Nat} {x : DataW H × List MemPlace} {sp : Nat → Bool} {hd : Bool} {b0 : Nat} (hf : DataW.trod enc Try.prog W b0 sp hd fuel 49 cs = some x) :
    ∃ q : Rec, cs = q.cells ∧ q.Wf := by
  obtain ⟨xs, m, _, _, hlc, hlen, hel⟩ := DataW.trod_struct Try.underlying49 hf
  have hct : Try.prog.cellsOf 49 = 9 := by kernel_rfl
  have e1 : Try.prog.cellsOf 46 = 8 := by kernel_rfl
  have e2 : Try.prog.cellsOf 47 = 1 := by kernel_rfl
  rw [hct] at hlc
  match cs, hlc with
  | [c0, c1, c2, c3, c4, c5, c6, c7, c8], _ =>
    match xs, hlen with
    | [x0, x1], _ =>
      have h0 := hel 0 _ rfl
      have h1 := hel 1 _ rfl
      simp [e1, e2] at h0 h1
      obtain ⟨q, hq, hw, hs⟩ := trod_op h0
      obtain ⟨n8, q8, _, w8⟩ := DataW.trod_int Try.underlying47 h1
      simp at q8
      subst q8
      obtain ⟨k, fid, dir, nm, to, nm2, md, dt, sn⟩ := q
      simp [Rec.ops] at hq
      obtain ⟨rfl, rfl, rfl, rfl, rfl, rfl, rfl, rfl⟩ := hq
      exact ⟨⟨k, fid, dir, nm, to, nm2, md, dt, n8⟩, rfl, ⟨hw.1, hw.2.1, hw.2.2.1, hw.2.2.2.1, hw.2.2.2.2.1, bd_u64 w8, hw.2.2.2.2.2.2⟩⟩
/-- A record in memory. -/
def RcAt (w : World) (b o : Nat) (x : Rec) : Prop := ∀ j v, x.cells[j]? = some v → w.cell? ⟨b, o + j, none⟩ = some v
theorem RcAt.later {w w' : World} {b o : Nat} {x : Rec} (h : RcAt w b o x) (hb : Below w.heap.size w w') : RcAt w' b o x := fun j v hv => cell_later hb (h j v hv)
/-- A row of records. -/
def IsL (w : World) (a : Option Addr) (l : List Rec) : Prop :=
  l.length ≤ maxLen ∧ (∀ x ∈ l, x.Wf) ∧ (0 < l.length → ∃ b off, a = some ⟨b, off, none⟩ ∧ ∀ i, i < l.length → RcAt w b (off + i * 9) (l.getD i Rec.no))
theorem IsL.later {w w' : World} {a : Option Addr} {l : List Rec} (h : IsL w a l) (hb : Below w.heap.size w w') : IsL w' a l := by
  obtain ⟨h1, h2, h3⟩ := h
  refine ⟨h1, h2, fun hp => ?_⟩
  obtain ⟨b, off, e, hc⟩ := h3 hp
  exact ⟨b, off, e, fun i hi => (hc i hi).later hb⟩
theorem IsL.front {w : World} {a : Option Addr} {l : List Rec} (h : IsL w a l) (m : Nat) : IsL w a (l.take m) := by
  obtain ⟨h1, h2, h3⟩ := h
  refine ⟨by rw [List.length_take]; omega, fun x hx => h2 x (List.mem_of_mem_take hx), fun hp => ?_⟩
  rw [List.length_take] at hp
  obtain ⟨b, off, e, hc⟩ := h3 (by omega)
  refine ⟨b, off, e, fun i hi => ?_⟩
  rw [List.length_take] at hi
  have : (l.take m).getD i Rec.no = l.getD i Rec.no := by simp [List.getD, List.getElem?_take, show i < m by omega]
  rw [this]
  exact hc i (by omega)
theorem isL_of {H : Type} {enc : TypeId × Value → H} {W : World} {t : TypeId} {a : Option Addr} {len cap : Nat} {d : DataW H} {p : List MemPlace} (ht : Try.prog.underlying t = some (.slice 49))
    (h : DataW.Trod enc Try.prog W 0 (fun _ => true) true t (.slice a len cap) d p) : ∃ l : List Rec, l.length = len ∧ IsL W a l ∧ len ≤ cap := by
  obtain ⟨fuel, hf⟩ := h
  have hct : Try.prog.cellsOf 49 = 9 := by kernel_rfl
  rcases DataW.trod_slice ht hf with ⟨hcs, _⟩ | ⟨x, l, c, elems, rest, n, _, hcs, _, hb, hl, hm, hlen, hel, _⟩
  · simp [Value.cells] at hcs
    obtain ⟨rfl, rfl, rfl⟩ := hcs
    exact ⟨[], rfl, ⟨Nat.zero_le _, (fun x hx => by cases hx), (fun h => absurd h (by simp))⟩, by omega⟩
  · simp [Value.cells] at hcs
    obtain ⟨rfl, rfl, rfl⟩ := hcs
    rw [hct] at hel
    have each : ∀ i, i < len → ∃ q : Rec, (∀ j, j < 9 → W.cell? ((x.add (i * 9)).add j) = (q.cells)[j]?) ∧ q.Wf := by
      intro i hi
      have h1 := hel i hi
      have h2 : elems[i]? = some elems[i] := List.getElem?_eq_getElem (by omega)
      rw [h2, Option.bind_eq_some_iff] at h1
      obtain ⟨cs, hc, hy⟩ := h1
      obtain ⟨q, hq, hw⟩ := trod_rec hy
      obtain ⟨_, hl6, hg⟩ := World.cells?_some hc
      refine ⟨q, fun j hj => ?_, hw⟩
      rw [hg j hj, hq]
    obtain ⟨f, hf'⟩ : ∃ f : Nat → Rec, ∀ i, i < len → (∀ j, j < 9 → W.cell? ((x.add (i * 9)).add j) = ((f i).cells)[j]?) ∧ (f i).Wf := by
      classical
      refine ⟨fun i => if h : i < len then (each i h).choose else Rec.no, fun i hi => ?_⟩
      simp only [hi, dif_pos]
      exact (each i hi).choose_spec
    refine ⟨(List.range len).map f, by simp, ⟨by simp; omega, fun q hq => ?_, fun hp => ?_⟩, by omega⟩
    · obtain ⟨i, hi, rfl⟩ := List.mem_map.1 hq
      exact (hf' i (List.mem_range.1 hi)).2
    · rw [List.length_map, List.length_range] at hp
      obtain ⟨b, off, spot⟩ := x
      have hc0 := (hf' 0 hp).1 0 (by omega)
      have hspot : spot = none := by
        have e0 : ((f 0).cells)[0]? = some (.int .u8 (f 0).k) := rfl
        rw [e0] at hc0
        simpa [Addr.add] using World.cell?_spot hc0
      subst hspot
      refine ⟨b, off, rfl, fun i hi j v hv => ?_⟩
      rw [List.length_map, List.length_range] at hi
      have hadd : ∀ j, ((⟨b, off, none⟩ : Addr).add (i * 9)).add j = ⟨b, off + i * 9 + j, none⟩ := fun j => by unfold Addr.add; split <;> split <;> simp_all <;> omega
      have key := (hf' i hi).1
      have g : ((List.range len).map f).getD i Rec.no = f i := by simp [List.getD, hi]
      rw [g] at hv
      have hj : j < 9 := (List.getElem?_eq_some_iff.1 hv).1
      have := key j hj
      rw [hadd] at this
      rw [this]; exact hv
/-- The cells of a row of records. -/
def rcells (l : List Rec) : List Value := l.flatMap Rec.cells
theorem rcells_snoc (l : List Rec) (x : Rec) : rcells (l ++ [x]) = rcells l ++ x.cells := by unfold rcells; simp
theorem rcells_len (l : List Rec) : (rcells l).length = l.length * 9 := by
  unfold rcells
  induction l with
  | nil => rfl
  | cons p ps ih => rw [List.flatMap_cons, List.length_append, ih, List.length_cons]; simp [Rec.cells]; omega
theorem rcells_get (l : List Rec) (i : Nat) (h : i < l.length) (j : Nat) (hj : j < 9) : (rcells l)[i * 9 + j]? = ((l.getD i Rec.no).cells)[j]? := by
  unfold rcells
  induction l generalizing i with
  | nil => simp at h
  | cons p ps ih =>
    rw [List.flatMap_cons]
    rcases i with _ | i
    · rw [Nat.zero_mul, Nat.zero_add, List.getElem?_append_left (by simpa [Rec.cells] using hj)]; rfl
    · rw [List.getElem?_append_right (by simp [Rec.cells]; omega)]
      have : (i + 1) * 9 + j - (p.cells).length = i * 9 + j := by simp [Rec.cells]; omega
      rw [this, ih i (by simpa using h)]; simp [List.getD]
/-- What is read of a row that was made here. -/
theorem isL_own {w : World} {base : Nat} {v : Value} {l : List Rec} (h : w.ownsRow base 49 9 v l.length (rcells l)) (hw : ∀ x ∈ l, x.Wf) : ∃ a cap, v = .slice a l.length cap ∧ IsL w a l ∧ l.length ≤ cap ∧ (a = none → cap = 0) := by
  rcases h.2 with ⟨rfl, hn⟩ | ⟨g, cap, cur, rfl, hb, hg, hn, hc, hs, ht⟩
  · exact ⟨none, 0, by rw [hn], ⟨by omega, hw, fun hp => absurd hp (by omega)⟩, by omega, fun _ => rfl⟩
  · refine ⟨some ⟨g, 0, none⟩, cap, rfl, ⟨by omega, hw, fun hp => ⟨g, 0, rfl, fun i hi j v hv => ?_⟩⟩, hn, fun e => by cases e⟩
    have hj : j < 9 := (List.getElem?_eq_some_iff.1 hv).1
    rw [Nat.zero_add, cell_of_row w g (i * 9 + j) cur _ _ hg]
    rw [← rcells_get l i hi j hj, ← ht, List.getElem?_take, if_pos (by omega)] at hv
    rw [← Array.getElem?_toList]; exact hv
theorem own_shapeR {w : World} {base e size n : Nat} {v : Value} {xs : List Value} (h : w.ownsRow base e size v n xs) : ∃ a cap, v = .slice a n cap := by
  rcases h.2 with ⟨hv, hn⟩ | ⟨g, cap, cur, hv, _⟩
  · exact ⟨_, _, by rw [hv, hn]⟩
  · exact ⟨_, _, hv⟩
theorem lt_blkR {w : World} {b : Nat} {o : Obj} (h : w.heap[b]? = some o) : b < w.heap.size := (Array.getElem?_eq_some_iff.1 h).1
theorem own_latR {w w' : World} {base e size n : Nat} {v : Value} {xs : List Value} (h : w.ownsRow base e size v n xs) (hb : Below w.heap.size w w') : w'.ownsRow base e size v n xs := by
  refine ⟨h.1, ?_⟩
  rcases h.2 with h | ⟨g, cap, cur, e1, e2, e3, e4⟩
  · exact .inl h
  · exact .inr ⟨g, cap, cur, e1, e2, (hb.block g (lt_blkR e3)).trans e3, e4⟩
theorem own_baseR {w : World} {base base' e size n : Nat} {v : Value} {xs : List Value} (h : w.ownsRow base e size v n xs) (hB : base' ≤ base) : w.ownsRow base' e size v n xs := by
  refine ⟨h.1, ?_⟩
  rcases h.2 with h | ⟨g, cap, cur, e1, e2, e3, e4⟩
  · exact .inl h
  · exact .inr ⟨g, cap, cur, e1, Nat.le_trans hB e2, e3, e4⟩
theorem below_grownR {B : Nat} {a w w' : World} {base : Nat} {e size n : Nat} {v : Value} {xs : List Value} (h : Below B a w) (hown : w.ownsRow base e size v n xs) (hB : B ≤ base) (hBw : B ≤ w.heap.size) (hg : w.grownBy w' v.ownBlock) : Below B a w' :=
  Below.grown h hg hBw (fun k hk => by have := (hown.lt k hk).1; omega)
/-- The cells of a record in a block of its own. -/
theorem rec_box {w : World} {g : Nat} {x : Rec} {t : TypeId} {fr : Nat × Nat} (h : w.heap[g]? = some (.cells x.cells.toArray t fr)) : w.cell? ⟨g, 0, none⟩ = some (.int .u8 x.k) ∧ w.cell? ⟨g, 1, none⟩ = some (.int .u32 x.fid) ∧ w.cell? ⟨g, 2, none⟩ = some (.int .u32 x.dir) ∧ w.cell? ⟨g, 3, none⟩ = some (.string x.nm) ∧ w.cell? ⟨g, 4, none⟩ = some (.int .u32 x.to) ∧ w.cell? ⟨g, 5, none⟩ = some (.string x.nm2) ∧ w.cell? ⟨g, 6, none⟩ = some (.int .u16 x.md) ∧ w.cell? ⟨g, 7, none⟩ = some (.string x.dt) ∧ w.cell? ⟨g, 8, none⟩ = some (.int .u64 x.sn) := by
  refine ⟨?_, ?_, ?_, ?_, ?_, ?_, ?_, ?_, ?_⟩ <;> (rw [cell_of_row w g _ _ t fr h]; rfl)
theorem info_rec : ∃ i : TypeInfo, Try.prog.info? 49 = some i ∧ i.zero = some Rec.no.val ∧ i.size = 9 ∧ i.bytes = 88 := by
  have h : (Try.prog.info? 49).map (fun i => (i.zero, i.size, i.bytes)) = some (some Rec.no.val, 9, 88) := by kernel_rfl
  cases hi : Try.prog.info? 49 with
  | none => rw [hi] at h; cases h
  | some i => rw [hi] at h; simp at h; exact ⟨i, rfl, h.1, h.2.1, h.2.2⟩
end Go.Proofs.Ytihgiemgcmpmmaa
