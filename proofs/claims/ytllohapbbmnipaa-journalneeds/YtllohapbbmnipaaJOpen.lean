/-
  What is read of groups, and of a deed on journals, that came in.
-/
import Derived.Test.YtllohapbbmnipaaJLive
import Derived.ChangeArms
import Derived.ChangeOld
import Derived.Below
namespace Go.Proofs.Ytllohapbbmnipaa
open Go.RowKit Go.ChangeShapes Go.WideShapes Go.ChangeAt
set_option linter.unusedVariables false
set_option linter.unusedSimpArgs false
set_option maxRecDepth 100000
theorem isB_trod {H : Type} {enc : TypeId × Value → H} {P : Program} {W : World} {t e : TypeId} {cs : List Value} {fuel : Nat} {x : DataW H × List MemPlace} {sp : Nat → Bool} {hd : Bool} {b0 : Nat}
    (ht : P.underlying t = some (.slice e)) (he : P.underlying e = some (.int .u8)) (hc : P.cellsOf e = 1)
    (hf : DataW.trod enc P W b0 sp hd fuel t cs = some x) (hsp : ∀ k, sp k = true) : ∃ a len cap zs, cs = [.slice a len cap] ∧ IsB W a len zs ∧ len ≤ cap ∧ (a = none → cap = 0) := by
  rcases open_ints ht he hc hf with ⟨hcs, _⟩ | ⟨x, l, c, zs, hcs, _, hl, hm, hz, _, hcell, hwz⟩
  · exact ⟨none, 0, 0, [], hcs, ⟨rfl, Nat.zero_le _, fun h => absurd h (by omega), fun i => by simp⟩, Nat.le_refl _, fun _ => rfl⟩
  · rw [hsp] at hz
    have hz' : zs.length = c := by simpa using hz
    have hb : IsB W (some x) c zs := by
      refine ⟨hz', hm, fun hp => ?_, fun i => ?_⟩
      · obtain ⟨b, off, spot⟩ := x
        have hc0 := hcell 0 (by omega)
        have hspot : spot = none := by simpa [Addr.add] using World.cell?_spot hc0
        subst hspot
        exact ⟨b, off, rfl, fun i hi => by
          have h := hcell i (by omega)
          rcases i with _ | i <;> simpa [Addr.add] using h⟩
      · by_cases hi : i < zs.length
        · have hmem : zs.getD i 0 ∈ zs := by simp [List.getD, hi]
          have := bd_u8 (hwz _ hmem)
          omega
        · simp [List.getD, List.getElem?_eq_none (by omega : zs.length ≤ i)]
    exact ⟨some x, l, c, zs.take l, hcs, hb.front l hl, hl, fun e => by cases e⟩
theorem isG_trod {H : Type} {enc : TypeId × Value → H} {W : World} {cs : List Value} {fuel : Nat} {x : DataW H × List MemPlace} {sp : Nat → Bool} {hd : Bool} {b0 : Nat}
    (hf : DataW.trod enc Try.prog W b0 sp hd fuel 30 cs = some x) (hsp : ∀ k, sp k = true) : ∃ a len cap g, cs = [.slice a len cap] ∧ IsG0 W a len g ∧ len ≤ cap ∧ (a = none → cap = 0) := by
  have hct : Try.prog.cellsOf 54 = 1 := by kernel_rfl
  have hcu : Try.prog.cellsOf 5 = 1 := by kernel_rfl
  rcases DataW.trod_slice Try.underlying30 hf with ⟨hcs, _⟩ | ⟨y, l, c, elems, rest, n, _, hcs, _, hb, hl, hm, hlen, hel, _⟩
  · exact ⟨none, 0, 0, [], hcs, ⟨rfl, Nat.zero_le _, fun h => absurd h (by omega)⟩, Nat.le_refl _, fun _ => rfl⟩
  · rw [hct] at hel
    have each : ∀ i, i < l → ∃ (q : (Option Addr × Nat) × List Int), W.cell? ((y.add (i * 1)).add 0) = some (.slice q.1.1 q.2.length q.1.2) ∧ IsB W q.1.1 q.2.length q.2 ∧ q.2.length ≤ q.1.2 ∧ (q.1.1 = none → q.1.2 = 0) := by
      intro i hi
      have h1 := hel i hi
      have h2 : elems[i]? = some elems[i] := List.getElem?_eq_getElem (by omega)
      rw [h2, Option.bind_eq_some_iff] at h1
      obtain ⟨cs', hc, hy⟩ := h1
      obtain ⟨pa, pl, pc, zs, hq, hB, hpl, hpn⟩ := isB_trod Try.underlying54 Try.underlying5 hcu hy hsp
      obtain ⟨_, hl6, hg⟩ := World.cells?_some hc
      refine ⟨((pa, pc), zs), ?_, ?_, ?_, hpn⟩
      · rw [hg 0 (by omega), hq, hB.1]; rfl
      · rw [hB.1]; exact hB
      · rw [hB.1]; exact hpl
    obtain ⟨f, hf'⟩ : ∃ f : Nat → (Option Addr × Nat) × List Int, ∀ i, i < l → W.cell? ((y.add (i * 1)).add 0) = some (.slice (f i).1.1 (f i).2.length (f i).1.2) ∧ IsB W (f i).1.1 (f i).2.length (f i).2 ∧ (f i).2.length ≤ (f i).1.2 ∧ ((f i).1.1 = none → (f i).1.2 = 0) := by
      classical
      refine ⟨fun i => if h : i < l then (each i h).choose else ((none, 0), []), fun i hi => ?_⟩
      simp only [hi, dif_pos]
      exact (each i hi).choose_spec
    refine ⟨some y, l, c, (List.range l).map fun i => (f i).2, hcs, ⟨by simp, by omega, fun hp => ?_⟩, hl, fun e => by cases e⟩
    obtain ⟨b, off, spot⟩ := y
    have hc0 := (hf' 0 hp).1
    have hspot : spot = none := by simpa [Addr.add] using World.cell?_spot hc0
    subst hspot
    refine ⟨b, off, rfl, fun i hi => ?_⟩
    have hadd : ((⟨b, off, none⟩ : Addr).add (i * 1)).add 0 = ⟨b, off + i, none⟩ := by unfold Addr.add; split <;> split <;> simp_all
    have g : ((List.range l).map fun i => (f i).2).getD i [] = (f i).2 := by simp [List.getD, hi]
    rw [g]
    obtain ⟨k1, k2, k3, k4⟩ := hf' i hi
    rw [hadd] at k1
    exact ⟨_, _, k1, k2, k3, k4⟩
theorem isG_of {H : Type} {enc : TypeId × Value → H} {W : World} {a : Option Addr} {len cap : Nat} {d : DataW H} {p : List MemPlace}
    (h : DataW.Trod enc Try.prog W 0 (fun _ => true) true 30 (.slice a len cap) d p) : ∃ g, IsG0 W a len g ∧ len ≤ cap ∧ (a = none → cap = 0) := by
  obtain ⟨fuel, hf⟩ := h
  obtain ⟨a', l', c', g, hcs, hG, hl, hn⟩ := isG_trod hf (fun _ => rfl)
  simp [Value.cells] at hcs
  obtain ⟨rfl, rfl, rfl⟩ := hcs
  exact ⟨g, hG, hl, hn⟩
theorem IsG0.front {w : World} {a : Option Addr} {len : Nat} {g : Jo.Gr} (h : IsG0 w a len g) (m : Nat) (hm : m ≤ len) : IsG0 w a m (g.take m) := by
  obtain ⟨h1, h2, h3⟩ := h
  refine ⟨by rw [List.length_take]; omega, by omega, fun hp => ?_⟩
  obtain ⟨b, off, e, hc⟩ := h3 (by omega)
  refine ⟨b, off, e, fun i hi => ?_⟩
  have hg : (g.take m).getD i [] = g.getD i [] := by simp [List.getD, List.getElem?_take, hi]
  rw [hg]
  exact hc i (by omega)
end Go.Proofs.Ytllohapbbmnipaa
