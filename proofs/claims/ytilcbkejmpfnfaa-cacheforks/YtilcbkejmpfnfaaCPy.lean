/-
  Rows of deeds that come in; what play of the statements on caches does.
-/
import Derived.Test.YtilcbkejmpfnfaaCDo
namespace Go.Proofs.Ytilcbkejmpfnfaa
open Go.RowKit Go.ChangeShapes Go.WideShapes Go.ChangeAt Go.Maps Go.Shelf
set_option linter.unusedVariables false
set_option linter.unusedSimpArgs false
set_option maxRecDepth 100000
def IsDc (w : World) (a : Option Addr) (len : Nat) (f : Nat → Dc) : Prop :=
  len ≤ maxLen ∧ ∀ m, m < len → ∃ b off, a = some ⟨b, off, none⟩ ∧ (∀ j v, ((f m).cells)[j]? = some v → w.cell? ⟨b, off + m * 4 + j, none⟩ = some v) ∧ (f m).Wf
def dc0 : Dc := ⟨0, 0, false, 0⟩
theorem isDc_of {H : Type} {enc : TypeId × Value → H} {W : World} {t : TypeId} {a : Option Addr} {len cap : Nat} {d : DataW H} {p : List MemPlace} (ht : Try.prog.underlying t = some (.slice 47))
    (h : DataW.Trod enc Try.prog W 0 (fun _ => true) true t (.slice a len cap) d p) : ∃ f, IsDc W a len f := by
  obtain ⟨fuel, hf⟩ := h
  have hct : Try.prog.cellsOf 47 = 4 := by kernel_rfl
  rcases DataW.trod_slice ht hf with ⟨hcs, _⟩ | ⟨x, l, c, elems, rest, n, _, hcs, _, hb, hl, hm, hlen, hel, _⟩
  · simp [Value.cells] at hcs
    obtain ⟨rfl, rfl, rfl⟩ := hcs
    exact ⟨fun _ => dc0, Nat.zero_le _, fun m h => absurd h (by omega)⟩
  · simp [Value.cells] at hcs
    obtain ⟨rfl, rfl, rfl⟩ := hcs
    rw [hct] at hel
    have each : ∀ i, i < len → ∃ q : Dc, (∀ j, j < 4 → W.cell? ((x.add (i * 4)).add j) = (q.cells)[j]?) ∧ q.Wf := by
      intro i hi
      have h1 := hel i hi
      have h2 : elems[i]? = some elems[i] := List.getElem?_eq_getElem (by omega)
      rw [h2, Option.bind_eq_some_iff] at h1
      obtain ⟨cs, hc, hy⟩ := h1
      obtain ⟨q, hq, hw⟩ := trod_dc hy
      obtain ⟨_, hl6, hg⟩ := World.cells?_some hc
      refine ⟨q, fun j hj => ?_, hw⟩
      rw [hg j hj, hq]
    obtain ⟨f, hf'⟩ : ∃ f : Nat → Dc, ∀ i, i < len → (∀ j, j < 4 → W.cell? ((x.add (i * 4)).add j) = ((f i).cells)[j]?) ∧ (f i).Wf := by
      classical
      refine ⟨fun i => if h : i < len then (each i h).choose else dc0, fun i hi => ?_⟩
      simp only [hi, dif_pos]
      exact (each i hi).choose_spec
    refine ⟨f, by omega, fun m hm => ?_⟩
    obtain ⟨b, off, spot⟩ := x
    have hc0 := (hf' 0 (by omega)).1 0 (by omega)
    have hspot : spot = none := by
      have e0 : ((f 0).cells)[0]? = some (.int .i64 (f 0).k) := rfl
      rw [e0] at hc0
      simpa [Addr.add] using World.cell?_spot hc0
    subst hspot
    have hadd : ∀ j, ((⟨b, off, none⟩ : Addr).add (m * 4)).add j = ⟨b, off + m * 4 + j, none⟩ := fun j => by unfold Addr.add; split <;> split <;> simp_all <;> omega
    obtain ⟨key, k2⟩ := hf' m hm
    refine ⟨b, off, rfl, fun j v hv => ?_, k2⟩
    have hj : j < 4 := (List.getElem?_eq_some_iff.1 hv).1
    have := key j hj
    rw [hadd] at this
    rw [this]; exact hv
theorem cell_laterC {w w' : World} {b o : Nat} {v : Value} (hb : Below w.heap.size w w') (h : w.cell? ⟨b, o, none⟩ = some v) : w'.cell? ⟨b, o, none⟩ = some v := by
  have hl : b < w.heap.size := by
    apply Classical.byContradiction
    intro q
    have : w.heap[b]? = none := Array.getElem?_eq_none (by omega)
    simp [World.cell?, this] at h
  rw [← h]
  exact World.cell?_of_block (hb.block b hl)
theorem IsDc.later {w w' : World} {a : Option Addr} {len : Nat} {f : Nat → Dc} (h : IsDc w a len f) (hb : Below w.heap.size w w') : IsDc w' a len f :=
  ⟨h.1, fun m hm => by
    obtain ⟨b, off, e, h1, h2⟩ := h.2 m hm
    exact ⟨b, off, e, fun j v hv => cell_laterC hb (h1 j v hv), h2⟩⟩
/-- Both behind the first k deeds. -/
def stP (n : Int) (f : Nat → Dc) : Nat → Ca × Rc
  | 0 => (⟨n, 0, 0, fun _ => none, 0, fun _ => none⟩, ⟨n, [], []⟩)
  | k + 1 => ((f k).onC (stP n f k).1 (stP n f k).2.ss, (f k).onR (stP n f k).2)
theorem Rl.zero {n : Int} (h0 : 1 ≤ n) (h1 : n ≤ 10) : Rl ⟨n, 0, 0, fun _ => none, 0, fun _ => none⟩ ⟨n, [], []⟩ where
  most := rfl
  mlo := h0
  mhi := h1
  ulo := Int.le_refl _
  rng := fun p h => by simp at h
  mem := fun x d => ⟨fun h => by simp at h, fun h => by cases h.1⟩
  ord := List.Pairwise.nil
  top := fun p h => by simp at h
  len := rfl
  few := by show (0 : Int) ≤ n; omega
  hmem := fun x n => ⟨fun h => by simp at h, fun h => by cases h⟩
  hnd := List.Pairwise.nil
  hlen := rfl
  hfew := Nat.zero_le _
  hrng := fun p h => by simp at h
theorem stP_rl {n : Int} (h0 : 1 ≤ n) (h1 : n ≤ 10) {f : Nat → Dc} : ∀ k, (∀ j, j < k → (f j).Wf) → Rl (stP n f k).1 (stP n f k).2 ∧ (stP n f k).1.uses ≤ k
  | 0, _ => ⟨Rl.zero h0 h1, Int.le_refl _⟩
  | k + 1, hw => by
    obtain ⟨a, b⟩ := stP_rl h0 h1 k (fun j hj => hw j (by omega))
    refine ⟨a.deed (f k) (hw k (by omega)), ?_⟩
    have := uses_deed (f k) (stP n f k).1 (stP n f k).2.ss
    show ((f k).onC (stP n f k).1 (stP n f k).2.ss).uses ≤ _
    omega
/-- What play leaves. -/
def PlayP (w : World) (n : Int) (f : Nat → Dc) (N : Nat) (e : Ending) (w' : World) : Prop :=
  ∃ p b1 b2 g vl vh, e = .returned (.tuple #[pA p, pA g, .bool true]) ∧ Bo w' p b1 b2 g vl vh (stP n f N).1 (stP n f N).2 ∧ (∀ k, PBk p b1 b2 g vl vh k → w.heap.size ≤ k) ∧ Below w.heap.size w w'
set_option maxHeartbeats 8000000 in
theorem play_c (n : Int) (h0 : 0 ≤ n) (h1 : n < 256) {M0 : Nat} (hM : M0 < 10) (eM : n.tmod 10 = (M0 : Int)) (a : Option Addr) (len cap : Nat) (f : Nat → Dc) (w : World) (hf : IsDc w a len f) :
    Calls Try.prog 9 #[.int .u8 n, .slice a len cap] w (PlayP w ((M0 : Int) + 1) f (min len 80)) := by
  have HF := hid hf
  have hml : len ≤ maxLen := hf.1
  clear hf
  have RLs : Hid (∀ k, k ≤ len → Rl (stP ((M0 : Int) + 1) f k).1 (stP ((M0 : Int) + 1) f k).2 ∧ (stP ((M0 : Int) + 1) f k).1.uses ≤ k) := hid (fun k hk => stP_rl (by omega) (by omega) k (fun j hj => by obtain ⟨_, _, _, _, q⟩ := HF.out.2 j (by omega); exact q))
  go_enter Try.func9, Try.ntmps9
  go_wp2_with fail
  refine (new_c ((M0 : Int) + 1) (by omega) (by omega) w).mono ?_
  rintro _ w1 ⟨rfl, hC1, hb1⟩
  have C1 := hid hC1
  have B1 := hid hb1
  clear hC1 hb1
  go_wp2_with fail
  refine (rcnew_c ((M0 : Int) + 1) (by omega) (by omega) w1).mono ?_
  rintro _ w2 ⟨rfl, hR2, hb2⟩
  have B0 : Hid (Bo w2 (w.heap.size + 2) w.heap.size (w.heap.size + 1) w1.heap.size (.slice none 0 0) (.slice none 0 0) (stP ((M0 : Int) + 1) f 0).1 (stP ((M0 : Int) + 1) f 0).2) := hid ⟨C1.out.later hb2, hR2, (RLs.out 0 (Nat.zero_le _)).1⟩
  have N0 : Hid (∀ k, PBk (w.heap.size + 2) w.heap.size (w.heap.size + 1) w1.heap.size (.slice none 0 0) (.slice none 0 0) k → w.heap.size ≤ k) := hid (fun k hk => by
    have := B1.out.size
    rcases hk with (e | e | e) | (e | e | e)
    · omega
    · omega
    · omega
    · omega
    · cases e
    · cases e)
  have B2 := hid (B1.out.trans (hb2.mono B1.out.size))
  clear hR2 hb2 C1
  generalize w1.heap.size = g at *
  generalize hp : w.heap.size + 2 = p at *
  generalize hb12 : w.heap.size + 1 = b2 at *
  obtain ⟨N, hN⟩ : ∃ N, N = min len 80 := ⟨_, rfl⟩
  have HNN := hid hN
  have hN1 : N ≤ len := by omega
  have hN2 : N ≤ 80 := by omega
  have hN3 : N < len → N = 80 := by omega
  clear hN
  go_wp2_with fail
  go_loopg [9] N (fun gk j wr => ∃ (m : Nat) (vl vh : Value), m + gk = N ∧ j = .int .i64 m ∧ Hid (Bo wr p w.heap.size b2 g vl vh (stP ((M0 : Int) + 1) f m).1 (stP ((M0 : Int) + 1) f m).2) ∧ Hid (∀ k, PBk p w.heap.size b2 g vl vh k → w.heap.size ≤ k) ∧ Hid (Below w.heap.size w wr))
  case atStart => exact ⟨0, _, _, by omega, rfl, B0, N0, B2⟩
  case round =>
    obtain ⟨m, vl, vh, hm, rfl, HB, HK, HW⟩ := hrel
    by_cases hlt : m < N
    · have hl1 : (m : Int) < (len : Int) := by omega
      have hl2 : (m : Int) < 80 := by omega
      obtain ⟨b, off, rfl, hcell, hwf⟩ := (HF.out.later HW.out).2 m (by omega)
      have k0 : wr.cell? ⟨b, off + m * 4, none⟩ = some (.int .i64 (f m).k) := hcell 0 _ rfl
      have k1 : wr.cell? ⟨b, off + m * 4 + 1, none⟩ = some (.int .u32 (f m).f) := hcell 1 _ rfl
      have k2 : wr.cell? ⟨b, off + m * 4 + 2, none⟩ = some (.bool (f m).dirty) := hcell 2 _ rfl
      have k3 : wr.cell? ⟨b, off + m * 4 + 3, none⟩ = some (.int .i64 (f m).dear) := hcell 3 _ rfl
      have DC := hid (do_c HB.out (by have := (RLs.out m (by omega)).2; omega) (f m) hwf)
      have ST : Hid (stP ((M0 : Int) + 1) f (m + 1) = ((f m).onC (stP ((M0 : Int) + 1) f m).1 (stP ((M0 : Int) + 1) f m).2.ss, (f m).onR (stP ((M0 : Int) + 1) f m).2)) := hid rfl
      have RN := hid (RLs.out (m + 1) (by omega)).1
      clear hcell hwf
      unfold Dc.val at DC
      generalize (f m).onC (stP ((M0 : Int) + 1) f m).1 (stP ((M0 : Int) + 1) f m).2.ss = cN at *
      generalize (f m).onR (stP ((M0 : Int) + 1) f m).2 = rN at *
      generalize (f m).k = fk at *
      generalize (f m).f = ff at *
      generalize (f m).dirty = fd at *
      generalize (f m).dear = fn at *
      go_wp2_with (go_at_call 22; refine DC.out.mono ?_; rintro _ w3 ⟨rfl, hD⟩; (have D3 := hid hD); clear hD)
      obtain ⟨vl', vh', q1, q2, q3, q4⟩ := D3.out
      have rn := RN.out
      rw [ST.out] at rn
      have BN : Hid (Bo w3 p w.heap.size b2 g vl' vh' (stP ((M0 : Int) + 1) f (m + 1)).1 (stP ((M0 : Int) + 1) f (m + 1)).2) := hid (by rw [ST.out]; exact ⟨q1, q2, rn⟩)
      have KN : Hid (∀ k, PBk p w.heap.size b2 g vl' vh' k → w.heap.size ≤ k) := hid (fun k hk => by
        rcases hk with e | e
        · exact HK.out k (.inl e)
        · rcases q4 k e with q | q
          · exact HK.out k (.inr q)
          · exact Nat.le_trans HW.out.size q)
      have WN := hid (HW.out.trans (q3.below HW.out.size HK.out))
      clear q1 q2 q3 q4 rn
      go_roundg (gk - 1)
      case measure => omega
      case rel => exact ⟨m + 1, vl', vh', by omega, by go_num, BN, KN, WN⟩
    · have em : m = N := by omega
      subst em
      have HB2 : Hid (Bo wr p w.heap.size b2 g vl vh (stP ((M0 : Int) + 1) f (min len 80)).1 (stP ((M0 : Int) + 1) f (min len 80)).2) := hid (by rw [← HNN.out]; exact HB.out)
      by_cases hl : m < len
      · have e80 := hN3 hl
        have hl1 : (m : Int) < (len : Int) := by omega
        have hl2 : ¬ (m : Int) < 80 := by omega
        have hl3 : decide ((m : Int) < 80) = false := decide_eq_false hl2
        have hl4 : decide ((m : Int) < (len : Int)) = true := decide_eq_true hl1
        clear e80 hN3
        go_wp2
        exact bodyPost_ret (v := .tuple #[pA p, pA g, .bool true]) (by simp [results, Try.results9, go_sem]) rfl ⟨p, w.heap.size, b2, g, vl, vh, rfl, HB2.out, HK.out, HW.out⟩
      · have hl1 : ¬ (m : Int) < (len : Int) := by omega
        have hl4 : decide ((m : Int) < (len : Int)) = false := decide_eq_false hl1
        go_wp2
        exact bodyPost_ret (v := .tuple #[pA p, pA g, .bool true]) (by simp [results, Try.results9, go_sem]) rfl ⟨p, w.heap.size, b2, g, vl, vh, rfl, HB2.out, HK.out, HW.out⟩
end Go.Proofs.Ytilcbkejmpfnfaa
