/-
  What is read of deeds on journals that came in.
-/
import Derived.Test.YtllohapbbmnipabJOpen
import Derived.Test.YtllohapbbmnipabJTorn
namespace Go.Proofs.Ytllohapbbmnipab
open Go.RowKit Go.ChangeShapes Go.WideShapes Go.ChangeAt
set_option linter.unusedVariables false
set_option linter.unusedSimpArgs false
set_option maxRecDepth 100000
/-- A deed: its kind, its group, whether it resets, its step, and the numbers that are kept. -/
structure De where
  k : Int
  ga : Option Addr
  gl : Nat
  gc : Nat
  g : Jo.Gr
  r : Bool
  st : Int
  a : Option Addr
  len : Nat
  cap : Nat
  zs : List Int
def De.cells (x : De) : List Value := [.int .i64 x.k, .slice x.ga x.gl x.gc, .bool x.r, .int .i64 x.st, .slice x.a x.len x.cap]
def De.val (x : De) : Value := .agg #[.int .i64 x.k, .slice x.ga x.gl x.gc, .bool x.r, .int .i64 x.st, .slice x.a x.len x.cap]
def De.Ok (w : World) (x : De) : Prop := (-9223372036854775808 ≤ x.k ∧ x.k < 9223372036854775808) ∧ (-9223372036854775808 ≤ x.st ∧ x.st < 9223372036854775808) ∧ (IsG0 w x.ga x.gl x.g ∧ x.gl ≤ x.gc ∧ (x.ga = none → x.gc = 0)) ∧ IsZ w x.a x.len x.zs
theorem isZ_trod {H : Type} {enc : TypeId × Value → H} {P : Program} {W : World} {t e : TypeId} {v : Value} {fuel : Nat} {x : DataW H × List MemPlace} {sp : Nat → Bool} {hd : Bool} {b0 : Nat}
    (ht : P.underlying t = some (.slice e)) (he : P.underlying e = some (.int .i64)) (hc : P.cellsOf e = 1)
    (hf : DataW.trod enc P W b0 sp hd fuel t [v] = some x) (hsp : ∀ k, sp k = true) : ∃ a len cap zs, v = .slice a len cap ∧ IsZ W a len zs := by
  rcases open_ints ht he hc hf with ⟨hcs, _⟩ | ⟨x, l, c, zs, hcs, _, hl, hm, hz, _, hcell, hwz⟩
  · simp at hcs
    exact ⟨none, 0, 0, [], hcs, rfl, Nat.zero_le _, fun h => absurd h (by omega), fun i => by simp⟩
  · simp at hcs
    rw [hsp] at hz
    have hz' : zs.length = c := by simpa using hz
    refine ⟨some x, l, c, zs.take l, hcs, by rw [List.length_take]; omega, by omega, fun hp => ?_, fun i => ?_⟩
    · obtain ⟨b, off, spot⟩ := x
      have hc0 := hcell 0 (by omega)
      have hspot : spot = none := by simpa [Addr.add] using World.cell?_spot hc0
      subst hspot
      refine ⟨b, off, rfl, fun i hi => ?_⟩
      have h := hcell i (by omega)
      have h2 : (⟨b, off, none⟩ : Addr).add i = ⟨b, off + i, none⟩ := by rcases i with _ | i <;> simp [Addr.add]
      rw [h2] at h
      rw [h]
      simp [List.getD, List.getElem?_take, hi]
    · by_cases hi : i < l
      · have hmem : (zs.take l).getD i 0 ∈ zs := by
          have : i < zs.length := by omega
          simp [List.getD, List.getElem?_take, hi, this]
        exact bd_i64 (hwz _ hmem)
      · simp [List.getD, List.getElem?_take, hi]
theorem trod_deed5 {H : Type} {enc : TypeId × Value → H} {W : World} {cs : List Value} {fuel : Nat} {x : DataW H × List MemPlace} {sp : Nat → Bool} {hd : Bool} {b0 : Nat} (hf : DataW.trod enc Try.prog W b0 sp hd fuel 26 cs = some x) (hsp : ∀ k, sp k = true) :
    ∃ q : De, cs = q.cells ∧ q.Ok W := by
  obtain ⟨xs, m, _, _, hlc, hlen, hel⟩ := DataW.trod_struct Try.underlying26 hf
  have hct : Try.prog.cellsOf 26 = 5 := by kernel_rfl
  have e1 : Try.prog.cellsOf 3 = 1 := by kernel_rfl
  have e2 : Try.prog.cellsOf 23 = 1 := by kernel_rfl
  have e3 : Try.prog.cellsOf 4 = 1 := by kernel_rfl
  have e4 : Try.prog.cellsOf 24 = 1 := by kernel_rfl
  rw [hct] at hlc
  match cs, hlc with
  | [c0, c1, c2, c3, c4], _ =>
    match xs, hlen with
    | [x0, x1, x2, x3, x4], _ =>
      have h0 := hel 0 _ rfl
      have h1 := hel 1 _ rfl
      have h2 := hel 2 _ rfl
      have h3 := hel 3 _ rfl
      have h4 := hel 4 _ rfl
      simp [e1, e2, e3, e4] at h0 h1 h2 h3 h4
      obtain ⟨n0, q0, _, w0⟩ := DataW.trod_int Try.underlying3 h0
      obtain ⟨ga, gl, gc, g, q1, hg⟩ := isG_trod h1 hsp
      obtain ⟨n2, q2, _⟩ := DataW.trod_bool Try.underlying4 h2
      obtain ⟨n3, q3, _, w3⟩ := DataW.trod_int Try.underlying3 h3
      obtain ⟨a, l, c, zs, q4, hz⟩ := isZ_trod Try.underlying24 Try.underlying3 e1 h4 hsp
      simp at q0 q1 q2 q3
      subst q0 q1 q2 q3 q4
      exact ⟨⟨n0, ga, gl, gc, g, n2, n3, a, l, c, zs⟩, rfl, bd_i64 w0, bd_i64 w3, hg, hz⟩
theorem open_deed5 {H : Type} {enc : TypeId × Value → H} {W : World} {r : Reach} {b0 : Nat} {v : Value} {d : DataW H} {p : List MemPlace}
    (hv : Value.okWide Try.prog W r b0 26 v) (h : DataW.Trod enc Try.prog W 0 (fun _ => true) true 26 v d p) :
    ∃ q : De, v = q.val ∧ q.Ok W := by
  simp only [Value.okWide, Try.underlying26] at hv
  obtain ⟨cs, rfl, hsz, _⟩ := hv
  obtain ⟨fuel, hf⟩ := h
  obtain ⟨q, hq, hw⟩ := trod_deed5 hf (fun _ => rfl)
  refine ⟨q, ?_, hw⟩
  have : cs = #[.int .i64 q.k, .slice q.ga q.gl q.gc, .bool q.r, .int .i64 q.st, .slice q.a q.len q.cap] := by
    apply Array.ext'
    simpa [Value.cells, De.cells] using hq
  rw [this]; rfl
def De.no : De := ⟨0, none, 0, 0, [], false, 0, none, 0, 0, []⟩
/-- Deeds that came in. -/
def IsD5s (w : World) (a : Option Addr) (len : Nat) (f : Nat → De) : Prop :=
  len ≤ maxLen ∧ ∀ m, m < len → ∃ b off, a = some ⟨b, off, none⟩ ∧ w.rangeAt b (off + m * 5) (f m).cells ∧ (f m).Ok w
theorem isD5s_of {H : Type} {enc : TypeId × Value → H} {W : World} {t : TypeId} {a : Option Addr} {len cap : Nat} {d : DataW H} {p : List MemPlace} (ht : Try.prog.underlying t = some (.slice 26))
    (h : DataW.Trod enc Try.prog W 0 (fun _ => true) true t (.slice a len cap) d p) : ∃ f, IsD5s W a len f := by
  obtain ⟨fuel, hf⟩ := h
  have hct : Try.prog.cellsOf 26 = 5 := by kernel_rfl
  rcases DataW.trod_slice ht hf with ⟨hcs, _⟩ | ⟨x, l, c, elems, rest, n, _, hcs, _, hb, hl, hm, hlen, hel, _⟩
  · simp [Value.cells] at hcs
    obtain ⟨rfl, rfl, rfl⟩ := hcs
    exact ⟨fun _ => De.no, Nat.zero_le _, fun m h => absurd h (by omega)⟩
  · simp [Value.cells] at hcs
    obtain ⟨rfl, rfl, rfl⟩ := hcs
    rw [hct] at hel
    have each : ∀ i, i < len → ∃ q : De, (∀ j, j < 5 → W.cell? ((x.add (i * 5)).add j) = (q.cells)[j]?) ∧ q.Ok W := by
      intro i hi
      have h1 := hel i hi
      have h2 : elems[i]? = some elems[i] := List.getElem?_eq_getElem (by omega)
      rw [h2, Option.bind_eq_some_iff] at h1
      obtain ⟨cs, hc, hy⟩ := h1
      obtain ⟨q, hq, hw⟩ := trod_deed5 hy (fun _ => rfl)
      obtain ⟨_, hl6, hg⟩ := World.cells?_some hc
      refine ⟨q, fun j hj => ?_, hw⟩
      rw [hg j hj, hq]
    obtain ⟨f, hf'⟩ : ∃ f : Nat → De, ∀ i, i < len → (∀ j, j < 5 → W.cell? ((x.add (i * 5)).add j) = ((f i).cells)[j]?) ∧ (f i).Ok W := by
      classical
      refine ⟨fun i => if h : i < len then (each i h).choose else De.no, fun i hi => ?_⟩
      simp only [hi, dif_pos]
      exact (each i hi).choose_spec
    refine ⟨f, by omega, fun m hm => ?_⟩
    obtain ⟨b, off, spot⟩ := x
    have hc0 := (hf' 0 (by omega)).1 0 (by omega)
    have hspot : spot = none := by
      have e0 : ((f 0).cells)[0]? = some (.int .i64 (f 0).k) := rfl
      rw [e0] at hc0
      simpa [Addr.add] using World.cell?_spot hc0
    subst hspot
    have hadd : ∀ j, ((⟨b, off, none⟩ : Addr).add (m * 5)).add j = ⟨b, off + m * 5 + j, none⟩ := fun j => by unfold Addr.add; split <;> split <;> simp_all <;> omega
    obtain ⟨key, k2⟩ := hf' m hm
    refine ⟨b, off, rfl, fun j v hv => ?_, k2⟩
    have hj : j < 5 := (List.getElem?_eq_some_iff.1 hv).1
    have := key j hj
    rw [hadd] at this
    rw [this]; exact hv
theorem range_out {w w' : World} {g o : Nat} {cs : List Value} (h : w.rangeAt g o cs) (hb : Below w.heap.size w w') : w'.rangeAt g o cs := fun j v hv => cell_later hb (h j v hv)
theorem De.Ok.later {w w' : World} {x : De} (h : x.Ok w) (hb : Below w.heap.size w w') : x.Ok w' :=
  ⟨h.1, h.2.1, ⟨h.2.2.1.1.later hb, h.2.2.1.2⟩, h.2.2.2.lat hb⟩
theorem IsD5s.later {w w' : World} {a : Option Addr} {len : Nat} {f : Nat → De} (h : IsD5s w a len f) (hb : Below w.heap.size w w') : IsD5s w' a len f :=
  ⟨h.1, fun m hm => by
    obtain ⟨b, off, e, h1, h2⟩ := h.2 m hm
    exact ⟨b, off, e, range_out h1 hb, h2.later hb⟩⟩
end Go.Proofs.Ytllohapbbmnipab
