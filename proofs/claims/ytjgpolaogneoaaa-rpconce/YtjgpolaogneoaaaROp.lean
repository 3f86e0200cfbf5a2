/-
  What is read of a packet, of a deed, of deeds and of texts that came in.
-/
import Derived.Test.YtjgpolaogneoaaaRLv
import Derived.SliceStrings
namespace Go.Proofs.Ytjgpolaogneoaaa
open Go.RowKit Go.ChangeShapes Go.WideShapes Go.ChangeAt
set_option linter.unusedVariables false
set_option linter.unusedSimpArgs false
set_option maxRecDepth 100000
theorem trod_pk {H : Type} {enc : TypeId × Value → H} {W : World} {cs : List Value} {fuel : Nat} {x : DataW H × List MemPlace} {sp : Nat → Bool} {hd : Bool} {b0 : Nat} (hf : DataW.trod enc Try.prog W b0 sp hd fuel 39 cs = some x) :
    ∃ q : Fr.Pk, cs = [.int .u8 q.k, .int .u8 q.f, .int .u8 q.t, .int .u32 q.e, .int .u32 q.s, .string q.b] ∧ Fr.Wf q ∧ q.b.size ≤ maxLen := by
  obtain ⟨xs, m, _, _, hlc, hlen, hel⟩ := DataW.trod_struct Try.underlying39 hf
  have hct : Try.prog.cellsOf 39 = 6 := by kernel_rfl
  have e1 : Try.prog.cellsOf 37 = 1 := by kernel_rfl
  have e2 : Try.prog.cellsOf 5 = 1 := by kernel_rfl
  have e3 : Try.prog.cellsOf 31 = 1 := by kernel_rfl
  have e4 : Try.prog.cellsOf 9 = 1 := by kernel_rfl
  rw [hct] at hlc
  match cs, hlc with
  | [c0, c1, c2, c3, c4, c5], _ =>
    match xs, hlen with
    | [x0, x1, x2, x3, x4, x5], _ =>
      have h0 := hel 0 _ rfl
      have h1 := hel 1 _ rfl
      have h2 := hel 2 _ rfl
      have h3 := hel 3 _ rfl
      have h4 := hel 4 _ rfl
      have h5 := hel 5 _ rfl
      simp [e1, e2, e3, e4] at h0 h1 h2 h3 h4 h5
      obtain ⟨n0, q0, _, w0⟩ := DataW.trod_int Try.underlying37 h0
      obtain ⟨n1, q1, _, w1⟩ := DataW.trod_int Try.underlying5 h1
      obtain ⟨n2, q2, _, w2⟩ := DataW.trod_int Try.underlying5 h2
      obtain ⟨n3, q3, _, w3⟩ := DataW.trod_int Try.underlying31 h3
      obtain ⟨n4, q4, _, w4⟩ := DataW.trod_int Try.underlying31 h4
      obtain ⟨s5, q5, _, w5⟩ := DataW.trod_string Try.underlying9 h5
      simp at q0 q1 q2 q3 q4 q5
      subst q0 q1 q2 q3 q4 q5
      exact ⟨⟨n0, n1, n2, n3, n4, s5⟩, rfl, ⟨bd_u8 w0, bd_u8 w1, bd_u8 w2, bd_u32 w3, bd_u32 w4⟩, w5⟩
theorem open_packet {H : Type} {enc : TypeId × Value → H} {W : World} {r : Reach} {b0 : Nat} {v : Value} {d : DataW H} {p : List MemPlace}
    (hv : Value.okWide Try.prog W r b0 39 v) (h : DataW.Trod enc Try.prog W 0 (fun _ => true) true 39 v d p) :
    ∃ q : Fr.Pk, v = Fr.val q ∧ Fr.Wf q ∧ q.b.size ≤ maxLen := by
  simp only [Value.okWide, Try.underlying39] at hv
  obtain ⟨cs, rfl, hsz, _⟩ := hv
  obtain ⟨fuel, hf⟩ := h
  obtain ⟨q, hq, hw, hs⟩ := trod_pk hf
  refine ⟨q, ?_, hw, hs⟩
  have : cs = #[.int .u8 q.k, .int .u8 q.f, .int .u8 q.t, .int .u32 q.e, .int .u32 q.s, .string q.b] := by
    apply Array.ext'
    simpa [Value.cells] using hq
  rw [this]; rfl
/-- A deed. -/
structure Dr where
  k : Int
  s : ByteArray
  now : Int
  p : Fr.Pk
  c : Int
  own : Bool
def Dr.cells (x : Dr) : List Value := [.int .i64 x.k, .string x.s, .int .u64 x.now, .int .u8 x.p.k, .int .u8 x.p.f, .int .u8 x.p.t, .int .u32 x.p.e, .int .u32 x.p.s, .string x.p.b, .int .u8 x.c, .bool x.own]
def Dr.val (x : Dr) : Value := .agg #[.int .i64 x.k, .string x.s, .int .u64 x.now, .int .u8 x.p.k, .int .u8 x.p.f, .int .u8 x.p.t, .int .u32 x.p.e, .int .u32 x.p.s, .string x.p.b, .int .u8 x.c, .bool x.own]
def Dr.Wf (x : Dr) : Prop := (-9223372036854775808 ≤ x.k ∧ x.k < 9223372036854775808) ∧ x.s.size ≤ maxLen ∧ (0 ≤ x.now ∧ x.now < 18446744073709551616) ∧ Fr.Wf x.p ∧ x.p.b.size ≤ maxLen ∧ (0 ≤ x.c ∧ x.c < 256)
theorem trod_dr {H : Type} {enc : TypeId × Value → H} {W : World} {cs : List Value} {fuel : Nat} {x : DataW H × List MemPlace} {sp : Nat → Bool} {hd : Bool} {b0 : Nat} (hf : DataW.trod enc Try.prog W b0 sp hd fuel 62 cs = some x) :
    ∃ q : Dr, cs = q.cells ∧ q.Wf := by
  obtain ⟨xs, m, _, _, hlc, hlen, hel⟩ := DataW.trod_struct Try.underlying62 hf
  have hct : Try.prog.cellsOf 62 = 11 := by kernel_rfl
  have e1 : Try.prog.cellsOf 3 = 1 := by kernel_rfl
  have e2 : Try.prog.cellsOf 5 = 1 := by kernel_rfl
  have e3 : Try.prog.cellsOf 42 = 1 := by kernel_rfl
  have e4 : Try.prog.cellsOf 9 = 1 := by kernel_rfl
  have e5 : Try.prog.cellsOf 4 = 1 := by kernel_rfl
  have e6 : Try.prog.cellsOf 39 = 6 := by kernel_rfl
  rw [hct] at hlc
  match cs, hlc with
  | [c0, c1, c2, c3, c4, c5, c6, c7, c8, c9, c10], _ =>
    match xs, hlen with
    | [x0, x1, x2, x3, x4, x5], _ =>
      have h0 := hel 0 _ rfl
      have h1 := hel 1 _ rfl
      have h2 := hel 2 _ rfl
      have h3 := hel 3 _ rfl
      have h4 := hel 4 _ rfl
      have h5 := hel 5 _ rfl
      simp [e1, e2, e3, e4, e5, e6] at h0 h1 h2 h3 h4 h5
      obtain ⟨n0, q0, _, w0⟩ := DataW.trod_int Try.underlying3 h0
      obtain ⟨s1, q1, _, w1⟩ := DataW.trod_string Try.underlying9 h1
      obtain ⟨n2, q2, _, w2⟩ := DataW.trod_int Try.underlying42 h2
      obtain ⟨p3, q3, w3, w3'⟩ := trod_pk h3
      obtain ⟨n4, q4, _, w4⟩ := DataW.trod_int Try.underlying5 h4
      obtain ⟨n5, q5, _⟩ := DataW.trod_bool Try.underlying4 h5
      simp at q0 q1 q2 q3 q4 q5
      obtain ⟨r0, r1, r2, r3, r4, r5⟩ := q3
      subst q0 q1 q2 q4 q5 r0 r1 r2 r3 r4 r5
      exact ⟨⟨n0, s1, n2, p3, n4, n5⟩, rfl, bd_i64 w0, w1, bd_u64 w2, w3, w3', bd_u8 w4⟩
theorem open_dr {H : Type} {enc : TypeId × Value → H} {W : World} {r : Reach} {b0 : Nat} {v : Value} {d : DataW H} {p : List MemPlace}
    (hv : Value.okWide Try.prog W r b0 62 v) (h : DataW.Trod enc Try.prog W 0 (fun _ => true) true 62 v d p) :
    ∃ q : Dr, v = q.val ∧ q.Wf := by
  simp only [Value.okWide, Try.underlying62] at hv
  obtain ⟨cs, rfl, hsz, _⟩ := hv
  obtain ⟨fuel, hf⟩ := h
  obtain ⟨q, hq, hw⟩ := trod_dr hf
  refine ⟨q, ?_, hw⟩
  have : cs = q.cells.toArray := by
    apply Array.ext'
    simpa [Value.cells] using hq
  rw [this]; rfl
/-- Deeds that came in. -/
def IsDr (w : World) (a : Option Addr) (len : Nat) (f : Nat → Dr) : Prop :=
  len ≤ maxLen ∧ ∀ m, m < len → ∃ b off, a = some ⟨b, off, none⟩ ∧ w.rangeAt b (off + m * 11) (f m).cells ∧ (f m).Wf
def dr0 : Dr := ⟨0, ⟨#[]⟩, 0, zpk, 0, false⟩
theorem isDr_of {H : Type} {enc : TypeId × Value → H} {W : World} {t : TypeId} {a : Option Addr} {len cap : Nat} {d : DataW H} {p : List MemPlace} (ht : Try.prog.underlying t = some (.slice 62))
    (h : DataW.Trod enc Try.prog W 0 (fun _ => true) true t (.slice a len cap) d p) : ∃ f, IsDr W a len f := by
  obtain ⟨fuel, hf⟩ := h
  have hct : Try.prog.cellsOf 62 = 11 := by kernel_rfl
  rcases DataW.trod_slice ht hf with ⟨hcs, _⟩ | ⟨x, l, c, elems, rest, n, _, hcs, _, hb, hl, hm, hlen, hel, _⟩
  · simp [Value.cells] at hcs
    obtain ⟨rfl, rfl, rfl⟩ := hcs
    exact ⟨fun _ => dr0, Nat.zero_le _, fun m h => absurd h (by omega)⟩
  · simp [Value.cells] at hcs
    obtain ⟨rfl, rfl, rfl⟩ := hcs
    rw [hct] at hel
    have each : ∀ i, i < len → ∃ q : Dr, (∀ j, j < 11 → W.cell? ((x.add (i * 11)).add j) = (q.cells)[j]?) ∧ q.Wf := by
      intro i hi
      have h1 := hel i hi
      have h2 : elems[i]? = some elems[i] := List.getElem?_eq_getElem (by omega)
      rw [h2, Option.bind_eq_some_iff] at h1
      obtain ⟨cs, hc, hy⟩ := h1
      obtain ⟨q, hq, hw⟩ := trod_dr hy
      obtain ⟨_, hl6, hg⟩ := World.cells?_some hc
      refine ⟨q, fun j hj => ?_, hw⟩
      rw [hg j hj, hq]
    obtain ⟨f, hf'⟩ : ∃ f : Nat → Dr, ∀ i, i < len → (∀ j, j < 11 → W.cell? ((x.add (i * 11)).add j) = ((f i).cells)[j]?) ∧ (f i).Wf := by
      classical
      refine ⟨fun i => if h : i < len then (each i h).choose else dr0, fun i hi => ?_⟩
      simp only [hi, dif_pos]
      exact (each i hi).choose_spec
    refine ⟨f, by omega, fun m hm => ?_⟩
    obtain ⟨b, off, spot⟩ := x
    have hc0 := (hf' 0 (by omega)).1 0 (by omega)
    have hspot : spot = none := by
      have e0 : ((f 0).cells)[0]? = some (.int .i64 (f 0).k) := rfl
      rw [e0] at hc0
      simpa [Addr.add] using World.cell?_spot hc0
    subst hspot
    have hadd : ∀ j, ((⟨b, off, none⟩ : Addr).add (m * 11)).add j = ⟨b, off + m * 11 + j, none⟩ := fun j => by unfold Addr.add; split <;> split <;> simp_all <;> omega
    obtain ⟨key, k2⟩ := hf' m hm
    refine ⟨b, off, rfl, fun j v hv => ?_, k2⟩
    have hj : j < 11 := (List.getElem?_eq_some_iff.1 hv).1
    have := key j hj
    rw [hadd] at this
    rw [this]; exact hv
theorem IsDr.later {w w' : World} {a : Option Addr} {len : Nat} {f : Nat → Dr} (h : IsDr w a len f) (hb : Below w.heap.size w w') : IsDr w' a len f :=
  ⟨h.1, fun m hm => by
    obtain ⟨b, off, e, h1, h2⟩ := h.2 m hm
    exact ⟨b, off, e, fun j v hv => cell_later hb (h1 j v hv), h2⟩⟩
/-- A deed in a variable. -/
def DrAt (w : World) (X : Nat) (x : Dr) : Prop := w.heap[X]? = some (.cells #[.int .i64 x.k, .string x.s, .int .u64 x.now, .int .u8 x.p.k, .int .u8 x.p.f, .int .u8 x.p.t, .int .u32 x.p.e, .int .u32 x.p.s, .string x.p.b, .int .u8 x.c, .bool x.own] 62 (0, 0))
theorem DrAt.cells {w : World} {X : Nat} {x : Dr} (h : DrAt w X x) : w.cell? ⟨X, 0, none⟩ = some (.int .i64 x.k) ∧ w.cell? ⟨X, 1, none⟩ = some (.string x.s) ∧ w.cell? ⟨X, 2, none⟩ = some (.int .u64 x.now) ∧ w.cell? ⟨X, 3, none⟩ = some (.int .u8 x.p.k) ∧ w.cell? ⟨X, 4, none⟩ = some (.int .u8 x.p.f) ∧ w.cell? ⟨X, 5, none⟩ = some (.int .u8 x.p.t) ∧ w.cell? ⟨X, 6, none⟩ = some (.int .u32 x.p.e) ∧ w.cell? ⟨X, 7, none⟩ = some (.int .u32 x.p.s) ∧ w.cell? ⟨X, 8, none⟩ = some (.string x.p.b) ∧ w.cell? ⟨X, 9, none⟩ = some (.int .u8 x.c) ∧ w.cell? ⟨X, 10, none⟩ = some (.bool x.own) := by
  unfold DrAt at h
  refine ⟨?_, ?_, ?_, ?_, ?_, ?_, ?_, ?_, ?_, ?_, ?_⟩
  all_goals simp [World.cell?, h]
theorem DrAt.out {S : Nat → Prop} {w w' : World} {g : Nat} {x : Dr} (h : DrAt w g x) (ho : Ou S w w') (hS : ¬ S g) : DrAt w' g x := by
  unfold DrAt at *; rw [ho.block g (lt_blkC h) hS]; exact h
theorem DrAt.later {w w' : World} {g : Nat} {x : Dr} (h : DrAt w g x) (hb : Below w.heap.size w w') : DrAt w' g x := h.out (S := fun _ => False) (Ou.of hb) id
theorem DrAt.lt {w : World} {g : Nat} {x : Dr} (h : DrAt w g x) : g < w.heap.size := lt_blkC h
/-- Texts that came in. -/
def IsTx (w : World) (a : Option Addr) (len : Nat) (ss : List ByteArray) : Prop :=
  ss.length = len ∧ len ≤ maxLen ∧ (0 < len → ∃ b off, a = some ⟨b, off, none⟩ ∧ ∀ i, i < len → w.cell? ⟨b, off + i, none⟩ = some (.string (ss.getD i ⟨#[]⟩)))
theorem IsTx.later {w w' : World} {a : Option Addr} {len : Nat} {ss : List ByteArray} (h : IsTx w a len ss) (hb : Below w.heap.size w w') : IsTx w' a len ss := by
  obtain ⟨h1, h2, h3⟩ := h
  refine ⟨h1, h2, fun hp => ?_⟩
  obtain ⟨b, off, e, hc⟩ := h3 hp
  exact ⟨b, off, e, fun i hi => cell_later hb (hc i hi)⟩
theorem isTx_of {H : Type} {enc : TypeId × Value → H} {P : Program} {W : World} {t e : TypeId} {a : Option Addr} {len cap : Nat} {d : DataW H} {p : List MemPlace}
    (ht : P.underlying t = some (.slice e)) (he : P.underlying e = some .string) (hc : P.cellsOf e = 1)
    (h : DataW.Trod enc P W 0 (fun _ => true) true t (.slice a len cap) d p) : ∃ ss, IsTx W a len ss := by
  obtain ⟨fuel, hf⟩ := h
  rcases open_strings ht he hc hf with ⟨hcs, _⟩ | ⟨x, l, c, ss, hcs, _, hl, hm, hz, _, hcell, hws⟩
  · simp [Value.cells] at hcs
    obtain ⟨rfl, rfl, rfl⟩ := hcs
    exact ⟨[], rfl, Nat.zero_le _, fun h => absurd h (by omega)⟩
  · simp [Value.cells] at hcs
    obtain ⟨rfl, rfl, rfl⟩ := hcs
    have hz' : ss.length = cap := by simpa using hz
    refine ⟨ss.take len, by rw [List.length_take]; omega, by omega, fun hp => ?_⟩
    obtain ⟨b, off, spot⟩ := x
    have hc0 := hcell 0 (by omega)
    have hspot : spot = none := by simpa [Addr.add] using World.cell?_spot hc0
    subst hspot
    refine ⟨b, off, rfl, fun i hi => ?_⟩
    have h1 := hcell i (by omega)
    have h2 : (⟨b, off, none⟩ : Addr).add i = ⟨b, off + i, none⟩ := by rcases i with _ | i <;> simp [Addr.add]
    rw [h2] at h1
    rw [h1]
    have hi' : i < ss.length := by omega
    simp [List.getD, hi', List.getElem?_take, hi]
end Go.Proofs.Ytjgpolaogneoaaa
