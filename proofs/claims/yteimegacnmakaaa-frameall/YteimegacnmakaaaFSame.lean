/-
  Rows of packets: what is read of one that came in, or that a call owns; two that hold the same are told to be the same.
-/
import Derived.Test.YteimegacnmakaaaFSeq
import Derived.DataReads
namespace Go.Proofs.Yteimegacnmakaaa
open Go.RowKit Go.ChangeShapes Go.WideShapes Go.ChangeAt
set_option linter.unusedVariables false
set_option linter.unusedSimpArgs false
def PkAt (w : World) (b o : Nat) (p : Fr.Pk) : Prop :=
  w.cell? ⟨b, o, none⟩ = some (.int .u8 p.k) ∧ w.cell? ⟨b, o + 1, none⟩ = some (.int .u8 p.f) ∧ w.cell? ⟨b, o + 2, none⟩ = some (.int .u8 p.t) ∧ w.cell? ⟨b, o + 3, none⟩ = some (.int .u32 p.e) ∧ w.cell? ⟨b, o + 4, none⟩ = some (.int .u32 p.s) ∧ w.cell? ⟨b, o + 5, none⟩ = some (.string p.b)
theorem PkAt.later {w w' : World} {b o : Nat} {p : Fr.Pk} (h : PkAt w b o p) (hb : Below w.heap.size w w') : PkAt w' b o p := by
  obtain ⟨h0, h1, h2, h3, h4, h5⟩ := h
  exact ⟨cell_later hb h0, cell_later hb h1, cell_later hb h2, cell_later hb h3, cell_later hb h4, cell_later hb h5⟩
/-- A row of packets. -/
def IsP (w : World) (a : Option Addr) (ps : List Fr.Pk) : Prop :=
  ps.length ≤ maxLen ∧ (0 < ps.length → ∃ b off, a = some ⟨b, off, none⟩ ∧ ∀ i (h : i < ps.length), PkAt w b (off + i * 6) ps[i])
theorem IsP.later {w w' : World} {a : Option Addr} {ps : List Fr.Pk} (h : IsP w a ps) (hb : Below w.heap.size w w') : IsP w' a ps := by
  obtain ⟨h1, h2⟩ := h
  refine ⟨h1, fun hp => ?_⟩
  obtain ⟨b, off, e, hc⟩ := h2 hp
  exact ⟨b, off, e, fun i hi => (hc i hi).later hb⟩
theorem IsP.front {w : World} {a : Option Addr} {ps : List Fr.Pk} (h : IsP w a ps) (m : Nat) : IsP w a (ps.take m) := by
  obtain ⟨h1, h2⟩ := h
  refine ⟨by rw [List.length_take]; omega, fun hp => ?_⟩
  rw [List.length_take] at hp
  obtain ⟨b, off, e, hc⟩ := h2 (by omega)
  refine ⟨b, off, e, fun i hi => ?_⟩
  rw [List.length_take] at hi
  rw [List.getElem_take]
  exact hc i (by omega)
theorem flat_len (ps : List Fr.Pk) : (ps.flatMap pkCells).length = ps.length * 6 := by
  induction ps with
  | nil => rfl
  | cons p ps ih => rw [List.flatMap_cons, List.length_append, ih, List.length_cons]; simp [pkCells]; omega
theorem flat_get (ps : List Fr.Pk) (i : Nat) (h : i < ps.length) (j : Nat) (hj : j < 6) : (ps.flatMap pkCells)[i * 6 + j]? = (pkCells ps[i])[j]? := by
  induction ps generalizing i with
  | nil => simp at h
  | cons p ps ih =>
    rw [List.flatMap_cons]
    rcases i with _ | i
    · rw [Nat.zero_mul, Nat.zero_add, List.getElem?_append_left (by simpa [pkCells] using hj)]; rfl
    · rw [List.getElem?_append_right (by simp [pkCells]; omega)]
      have : (i + 1) * 6 + j - (pkCells p).length = i * 6 + j := by simp [pkCells]; omega
      rw [this, ih i (by simpa using h)]; rfl
theorem isP_own {w : World} {base : Nat} {v : Value} {ps : List Fr.Pk} (h : w.ownsRow base 25 6 v ps.length (ps.flatMap pkCells)) : ∃ a cap, v = .slice a ps.length cap ∧ IsP w a ps ∧ ps.length ≤ cap := by
  rcases h.2 with ⟨rfl, hn⟩ | ⟨g, cap, cur, rfl, hb, hg, hn, hc, hs, ht⟩
  · exact ⟨none, 0, by rw [hn], ⟨by omega, fun hp => absurd hp (by omega)⟩, by omega⟩
  · refine ⟨some ⟨g, 0, none⟩, cap, rfl, ⟨by omega, fun hp => ⟨g, 0, rfl, fun i hi => ?_⟩⟩, hn⟩
    have key : ∀ j, j < 6 → w.cell? ⟨g, i * 6 + j, none⟩ = (pkCells ps[i])[j]? := by
      intro j hj
      rw [cell_of_row w g (i * 6 + j) cur _ _ hg, ← flat_get ps i hi j hj, ← ht, List.getElem?_take, if_pos (by omega)]
      simp
    rw [Nat.zero_add]
    exact ⟨key 0 (by omega), key 1 (by omega), key 2 (by omega), key 3 (by omega), key 4 (by omega), key 5 (by omega)⟩
/-- What is read of a row of packets that came in. -/
theorem isP_of {H : Type} {enc : TypeId × Value → H} {W : World} {t : TypeId} {a : Option Addr} {len cap : Nat} {d : DataW H} {p : List MemPlace} (ht : Try.prog.underlying t = some (.slice 25))
    (h : DataW.Trod enc Try.prog W 0 (fun _ => true) true t (.slice a len cap) d p) : ∃ ps, ps.length = len ∧ IsP W a ps ∧ ∀ q ∈ ps, Fr.Wf q ∧ q.b.size ≤ maxLen := by
  obtain ⟨fuel, hf⟩ := h
  have hct : Try.prog.cellsOf 25 = 6 := by kernel_rfl
  rcases DataW.trod_slice ht hf with ⟨hcs, _⟩ | ⟨x, l, c, elems, rest, n, _, hcs, _, hb, hl, hm, hlen, hel, _⟩
  · simp [Value.cells] at hcs
    obtain ⟨rfl, rfl, rfl⟩ := hcs
    exact ⟨[], rfl, ⟨Nat.zero_le _, fun h => absurd h (by simp)⟩, fun q hq => by cases hq⟩
  · simp [Value.cells] at hcs
    obtain ⟨rfl, rfl, rfl⟩ := hcs
    rw [hct] at hel
    have each : ∀ i, i < len → ∃ q : Fr.Pk, (∀ j, j < 6 → W.cell? ((x.add (i * 6)).add j) = (pkCells q)[j]?) ∧ Fr.Wf q ∧ q.b.size ≤ maxLen := by
      intro i hi
      have h1 := hel i hi
      have h2 : elems[i]? = some elems[i] := List.getElem?_eq_getElem (by omega)
      rw [h2, Option.bind_eq_some_iff] at h1
      obtain ⟨cs, hc, hy⟩ := h1
      obtain ⟨q, hq, hw, hz⟩ := trod_packet hy
      obtain ⟨_, hl6, hg⟩ := World.cells?_some hc
      refine ⟨q, fun j hj => ?_, hw, hz⟩
      rw [hg j hj, hq]; rfl
    obtain ⟨f, hf'⟩ : ∃ f : Nat → Fr.Pk, ∀ i, i < len → (∀ j, j < 6 → W.cell? ((x.add (i * 6)).add j) = (pkCells (f i))[j]?) ∧ Fr.Wf (f i) ∧ (f i).b.size ≤ maxLen := by
      classical
      refine ⟨fun i => if h : i < len then (each i h).choose else ⟨0, 0, 0, 0, 0, ⟨#[]⟩⟩, fun i hi => ?_⟩
      simp only [hi, dif_pos]
      exact (each i hi).choose_spec
    refine ⟨(List.range len).map f, by simp, ⟨by simp; omega, fun hp => ?_⟩, fun q hq => ?_⟩
    · rw [List.length_map, List.length_range] at hp
      obtain ⟨b, off, spot⟩ := x
      have hc0 := (hf' 0 hp).1 0 (by omega)
      have hspot : spot = none := by
        have e0 : (pkCells (f 0))[0]? = some (.int .u8 (f 0).k) := rfl
        rw [e0] at hc0
        simpa [Addr.add] using World.cell?_spot hc0
      subst hspot
      refine ⟨b, off, rfl, fun i hi => ?_⟩
      rw [List.length_map, List.length_range] at hi
      have hadd : ∀ j, ((⟨b, off, none⟩ : Addr).add (i * 6)).add j = ⟨b, off + i * 6 + j, none⟩ := fun j => by unfold Addr.add; split <;> split <;> simp_all <;> omega
      have key := (hf' i hi).1
      have g : ((List.range len).map f)[i]'(by simpa using hi) = f i := by simp
      rw [g]
      refine ⟨?_, ?_, ?_, ?_, ?_, ?_⟩
      · have := key 0 (by omega); rw [hadd] at this; exact this
      · have := key 1 (by omega); rw [hadd] at this; exact this
      · have := key 2 (by omega); rw [hadd] at this; exact this
      · have := key 3 (by omega); rw [hadd] at this; exact this
      · have := key 4 (by omega); rw [hadd] at this; exact this
      · have := key 5 (by omega); rw [hadd] at this; exact this
    · obtain ⟨i, hi, rfl⟩ := List.mem_map.1 hq
      exact (hf' i (List.mem_range.1 hi)).2
set_option maxHeartbeats 1000000 in
theorem same_c (a a' : Option Addr) (cap cap' : Nat) (ps : List Fr.Pk) (w : World) (h : IsP w a ps) (h' : IsP w a' ps) :
    Calls Try.prog 21 #[.slice a ps.length cap, .slice a' ps.length cap'] w fun e w' => e = .returned (.bool true) ∧ Below w.heap.size w w' := by
  have H := hid h
  have H' := hid h'
  have hm := h.1
  unfold maxLen at hm
  generalize hL : ps.length = L at *
  have HL := hid hL
  clear h h' hL
  go_enter Try.func21, Try.ntmps21
  go_wp2
  go_loopw [5] (fun i wr => ∃ k : Nat, k ≤ L ∧ i = .int .i64 k ∧ Below w.heap.size w wr) (fun i _ => ((L : Int) - intOf i).toNat)
  case atStart => exact ⟨0, by omega, rfl, Below.refl _ _⟩
  case round =>
    obtain ⟨k, hk, rfl, hbw⟩ := hrel
    by_cases hlt : k < L
    · obtain ⟨b, off, rfl, hc⟩ := H.out.2 (by have := HL.out; omega)
      obtain ⟨b', off', rfl, hc'⟩ := H'.out.2 (by have := HL.out; omega)
      obtain ⟨c0, c1, c2, c3, c4, c5⟩ := (hc k (by have := HL.out; omega)).later hbw
      obtain ⟨d0, d1, d2, d3, d4, d5⟩ := (hc' k (by have := HL.out; omega)).later hbw
      generalize ps[k]'(by have := HL.out; omega) = q at *
      obtain ⟨qk, qf, qt, qe, qs, qb⟩ := q
      simp only at c0 c1 c2 c3 c4 c5 d0 d1 d2 d3 d4 d5
      clear hc hc'
      have hlt' : (k : Int) < L := by omega
      go_wp2_with fail
      go_quiet (fail)
      go_wp2
      go_roundw
      case rel => exact ⟨k + 1, by omega, by go_num, below_drewN hbw _⟩
      case measure => simp [intOf]; omega
    · go_wp2
      go_ret
      exact ⟨rfl, hbw⟩
end Go.Proofs.Yteimegacnmakaaa
