/-
  What play of the statements on disks does: deeds that came in, on both disks.
-/
import Derived.Test.YteimegacnmakaabRSame
namespace Go.Proofs.Yteimegacnmakaab
open Go.RowKit Go.ChangeShapes Go.WideShapes Go.ChangeAt Go.Maps
set_option linter.unusedVariables false
set_option linter.unusedSimpArgs false
/-- Deeds that came in. -/
def IsDs (w : World) (a : Option Addr) (len : Nat) (f : Nat → Dd) : Prop :=
  len ≤ maxLen ∧ ∀ m, m < len → ∃ b off, a = some ⟨b, off, none⟩ ∧ w.rangeAt b (off + m * 4) (f m).cells ∧ (f m).Wf ∧ IsZ w (f m).a (f m).len (f m).zs
theorem isDs_of {H : Type} {enc : TypeId × Value → H} {W : World} {t : TypeId} {a : Option Addr} {len cap : Nat} {d : DataW H} {p : List MemPlace} (ht : Try.prog.underlying t = some (.slice 51))
    (h : DataW.Trod enc Try.prog W 0 (fun _ => true) true t (.slice a len cap) d p) : ∃ f, IsDs W a len f := by
  obtain ⟨fuel, hf⟩ := h
  have hct : Try.prog.cellsOf 51 = 4 := by kernel_rfl
  rcases DataW.trod_slice ht hf with ⟨hcs, _⟩ | ⟨x, l, c, elems, rest, n, _, hcs, _, hb, hl, hm, hlen, hel, _⟩
  · simp [Value.cells] at hcs
    obtain ⟨rfl, rfl, rfl⟩ := hcs
    exact ⟨fun _ => ⟨0, 0, 0, none, 0, 0, []⟩, Nat.zero_le _, fun m h => absurd h (by omega)⟩
  · simp [Value.cells] at hcs
    obtain ⟨rfl, rfl, rfl⟩ := hcs
    rw [hct] at hel
    have each : ∀ i, i < len → ∃ q : Dd, (∀ j, j < 4 → W.cell? ((x.add (i * 4)).add j) = (q.cells)[j]?) ∧ q.Wf ∧ IsZ W q.a q.len q.zs := by
      intro i hi
      have h1 := hel i hi
      have h2 : elems[i]? = some elems[i] := List.getElem?_eq_getElem (by omega)
      rw [h2, Option.bind_eq_some_iff] at h1
      obtain ⟨cs, hc, hy⟩ := h1
      obtain ⟨q, hq, hw, hz⟩ := trod_deed hy (fun _ => rfl)
      obtain ⟨_, hl6, hg⟩ := World.cells?_some hc
      refine ⟨q, fun j hj => ?_, hw, hz⟩
      rw [hg j hj, hq]
    obtain ⟨f, hf'⟩ : ∃ f : Nat → Dd, ∀ i, i < len → (∀ j, j < 4 → W.cell? ((x.add (i * 4)).add j) = ((f i).cells)[j]?) ∧ (f i).Wf ∧ IsZ W (f i).a (f i).len (f i).zs := by
      classical
      refine ⟨fun i => if h : i < len then (each i h).choose else ⟨0, 0, 0, none, 0, 0, []⟩, fun i hi => ?_⟩
      simp only [hi, dif_pos]
      exact (each i hi).choose_spec
    refine ⟨f, by omega, fun m hm => ?_⟩
    obtain ⟨b, off, spot⟩ := x
    have hc0 := (hf' 0 (by omega)).1 0 (by omega)
    have hspot : spot = none := by
      have e0 : ((f 0).cells)[0]? = some (.int .i64 (f 0).k) := rfl
      rw [e0] at hc0
      simpa [Addr.add] using World.cell?_spot hc0
    subst hspot
    have hadd : ∀ j, ((⟨b, off, none⟩ : Addr).add (m * 4)).add j = ⟨b, off + m * 4 + j, none⟩ := fun j => by unfold Addr.add; split <;> split <;> simp_all <;> omega
    obtain ⟨key, k2, k3⟩ := hf' m hm
    refine ⟨b, off, rfl, fun j v hv => ?_, k2, k3⟩
    have hj : j < 4 := (List.getElem?_eq_some_iff.1 hv).1
    have := key j hj
    rw [hadd] at this
    rw [this]; exact hv
theorem range_out {w w' : World} {g o : Nat} {cs : List Value} (h : w.rangeAt g o cs) (hb : Below w.heap.size w w') : w'.rangeAt g o cs := fun j v hv => cell_later hb (h j v hv)
theorem IsDs.later {w w' : World} {a : Option Addr} {len : Nat} {f : Nat → Dd} (h : IsDs w a len f) (hb : Below w.heap.size w w') : IsDs w' a len f :=
  ⟨h.1, fun m hm => by
    obtain ⟨b, off, e, h1, h2, h3⟩ := h.2 m hm
    exact ⟨b, off, e, range_out h1 hb, h2, isZ_lat h3 hb⟩⟩
set_option maxRecDepth 100000 in
set_option maxHeartbeats 2000000 in
theorem play_c {w : World} (n : Nat) (hn : n < 256) (a : Option Addr) (len cap : Nat) (f : Nat → Dd) (h : IsDs w a len f) :
    Calls Try.prog 14 #[.int .u8 n, .slice a len cap] w fun e w' => ∃ d b1 b2 r on c, e = .returned (.tuple #[pD d, pD r, .bool true]) ∧ Pair w' d b1 b2 r (n % 8 + 1) on c ∧ (w.heap.size ≤ d ∧ w.heap.size ≤ b1 ∧ w.heap.size ≤ b2 ∧ w.heap.size ≤ r) ∧ Below w.heap.size w w' := by
  have H := hid h
  have hlm : len ≤ maxLen := h.1
  unfold maxLen at hlm
  have hnI : (n : Int) < 256 := by omega
  have NC : Hid (∀ W, Calls Try.prog 31 #[.int .i64 ((n : Int) % 8 + 1)] W fun e w' => e = .returned (pD (W.heap.size + 2)) ∧ IsD w' (W.heap.size + 2) W.heap.size (W.heap.size + 1) (n % 8 + 1) (fun _ => zsec) (fun _ => none) ∧ Below W.heap.size W w' ∧ w'.heap.size = W.heap.size + 3) := fun W => by
    rw [show ((n : Int) % 8 + 1) = ((n % 8 + 1 : Nat) : Int) by omega]; exact new_c (n % 8 + 1) W (by omega) (by omega)
  have RC : Hid (∀ W, Calls Try.prog 32 #[.int .i64 ((n : Int) % 8 + 1)] W fun e w' => ∃ r, e = .returned (pD r) ∧ W.heap.size ≤ r ∧ IsR w' r (n % 8 + 1) (List.replicate (n % 8 + 1) zsec) [] ∧ Below W.heap.size W w') := fun W => by
    rw [show ((n : Int) % 8 + 1) = ((n % 8 + 1 : Nat) : Int) by omega]; exact rnew_c (n % 8 + 1) W (by omega) (by omega)
  clear h
  go_enter Try.func14, Try.ntmps14
  go_wp2_with fail
  refine (NC.out w).mono ?_
  rintro _ w1 ⟨rfl, hD1, hb1, hs1⟩
  have HD1 := hid hD1
  have HB1 := hid hb1
  have HS1 := hid hs1
  clear hD1 hb1 hs1
  go_wp2_with (go_at_call 32; refine (RC.out w1).mono ?_; rintro _ w2 ⟨r, rfl, hrl, hR2, hb2⟩)
  have HP2 : Hid (Pair w2 (w.heap.size + 2) w.heap.size (w.heap.size + 1) r (n % 8 + 1) (fun _ => zsec) (fun _ => none)) := ⟨HD1.out.later hb2, _, [], hR2, fun j hj => by rw [List.getD_eq_getElem?_getD, List.getElem?_replicate, if_pos hj]; rfl, fun i => rfl⟩
  have HB2 := hid (HB1.out.trans (hb2.mono HB1.out.size))
  have hrw : w.heap.size ≤ r := by have := HS1.out; omega
  clear hR2 hb2 hrl
  go_loopw [9] (fun i wr => ∃ (m : Nat) (on : Int → Sec) (c : Int → Option Sec), m ≤ len ∧ m ≤ 60 ∧ i = .int .i64 m ∧ Hid (Pair wr (w.heap.size + 2) w.heap.size (w.heap.size + 1) r (n % 8 + 1) on c) ∧ Hid (Below w.heap.size w wr)) (fun i _ => (60 - intOf i).toNat)
  case atStart => exact ⟨0, _, _, by omega, by omega, rfl, HP2, HB2⟩
  case round =>
    obtain ⟨m, on, c, hm, hm60, rfl, HP, HB⟩ := hrel
    by_cases hml : m < len
    · by_cases hm6 : m < 60
      · obtain ⟨b, off, rfl, hrg, hwf, hz⟩ := (H.out.later HB.out).2 m hml
        have DC := hid (do_c HP.out (f m) hwf hz)
        unfold Dd.val at DC
        have HR := hid hrg
        have k0 : wr.cell? ⟨b, off + m * 4, none⟩ = some (.int .i64 (f m).k) := HR.out 0 _ rfl
        have k1 : wr.cell? ⟨b, off + m * 4 + 1, none⟩ = some (.int .i64 (f m).i) := HR.out 1 _ rfl
        have k2 : wr.cell? ⟨b, off + m * 4 + 2, none⟩ = some (.int .u8 (f m).c) := HR.out 2 _ rfl
        have k3 : wr.cell? ⟨b, off + m * 4 + 3, none⟩ = some (.slice (f m).a (f m).len (f m).cap) := HR.out 3 _ rfl
        clear hrg hwf hz HR
        generalize (f m).k = xk at *
        generalize (f m).i = xi at *
        generalize (f m).c = xc at *
        generalize (f m).a = xa at *
        generalize (f m).len = xl at *
        generalize (f m).cap = xp at *
        have hmI : (m : Int) < (len : Int) := by omega
        go_wp2_with (go_at_call 27; refine DC.out.mono ?_; rintro _ w4 ⟨rfl, ⟨on', c', hP4⟩, ho4⟩)
        go_roundw
        case rel => exact ⟨m + 1, on', c', by omega, by omega, by go_num, hP4, HB.out.trans (ho4.below HB.out.size (fun k e => by rcases e with e | e | e <;> omega))⟩
        case measure => simp [intOf]; omega
      · go_wp2
        go_ret3
        exact ⟨_, _, _, _, _, _, rfl, HP.out, ⟨by omega, by omega, by omega, hrw⟩, HB.out⟩
    · go_wp2
      go_ret3
      exact ⟨_, _, _, _, _, _, rfl, HP.out, ⟨by omega, by omega, by omega, hrw⟩, HB.out⟩
end Go.Proofs.Yteimegacnmakaab
