/-
  What deeds make of both caches, plainly; the document's calls, each in one contract.
-/
import Derived.Test.YtilcbkejmpfnfaaCR6
import Derived.Test.YtilcbkejmpfnfaaCLv
namespace Go.Proofs.Ytilcbkejmpfnfaa
open Go.RowKit Go.ChangeShapes Go.WideShapes Go.ChangeAt Go.Maps Go.Shelf
set_option linter.unusedVariables false
set_option linter.unusedSimpArgs false
set_option maxRecDepth 100000
def Rc.putR (r : Rc) (f : Int) : Int × Int := if f = 0 then (0, 2) else if 0 ≤ r.at f then (0, 0) else if (r.L.length : Int) < r.most then (0, 0) else if r.bst r.L.length < 0 then (0, 4) else (r.nx, 0)
def Rc.putS (r : Rc) (f : Int) : Rc := if f = 0 then r else if 0 ≤ r.at f then r.touchS f else if (r.L.length : Int) < r.most then ⟨r.most, r.L ++ [(f, false)], r.H⟩ else if r.bst r.L.length < 0 then r else ⟨r.most, r.L.eraseIdx (r.ix r.nx) ++ [(f, false)], r.H⟩
def Rc.dropE (r : Rc) (f : Int) : Int := if 0 ≤ r.at f then (if r.dty (r.at f).toNat = true then 13 else 0) else 5
def Rc.dropS (r : Rc) (f : Int) : Rc := if r.dropE f = 0 then ⟨r.most, r.L.eraseIdx (r.at f).toNat, r.H⟩ else r
def Rc.markE (r : Rc) (f : Int) : Int := if 0 ≤ r.at f then 0 else 5
def Rc.markS (r : Rc) (f : Int) (d : Bool) : Rc := if 0 ≤ r.at f then ⟨r.most, r.L.set (r.at f).toNat (r.fid (r.at f).toNat, d), r.H⟩ else r
def Rc.dearS (r : Rc) (f n : Int) : Rc := if r.hoardE f n = 0 then r.hoardS f n else r
theorem Rc.at_cases (r : Rc) (f : Int) : r.at f = -1 ∨ ∃ i : Nat, r.at f = (i : Int) ∧ i < r.L.length ∧ r.ix f = i := by
  unfold Rc.at
  by_cases h : r.ix f < r.L.length
  · rw [if_pos h]; exact .inr ⟨_, rfl, h, rfl⟩
  · rw [if_neg h]; exact .inl rfl
theorem Rc.dropE_no (r : Rc) {f : Int} (q : r.at f = -1) : r.dropE f = 5 := by unfold Rc.dropE; rw [q, if_neg (by decide)]
theorem Rc.dropS_no (r : Rc) {f : Int} (q : r.at f = -1) : r.dropS f = r := by unfold Rc.dropS; rw [r.dropE_no q, if_neg (by decide)]
theorem Rc.drop_busy (r : Rc) {f : Int} {i : Nat} (q : r.at f = (i : Int)) (hd : r.dty i = true) : r.dropE f = 13 ∧ r.dropS f = r := by
  have e : r.dropE f = 13 := by unfold Rc.dropE; rw [q, if_pos (Int.natCast_nonneg _)]; exact if_pos hd
  exact ⟨e, by unfold Rc.dropS; rw [e, if_neg (by decide)]⟩
theorem Rc.drop_ok (r : Rc) {f : Int} {i : Nat} (q : r.at f = (i : Int)) (hd : r.dty i = false) : r.dropE f = 0 ∧ r.dropS f = ⟨r.most, r.L.eraseIdx i, r.H⟩ := by
  have e : r.dropE f = 0 := by unfold Rc.dropE; rw [q, if_pos (Int.natCast_nonneg _)]; exact if_neg (by show ¬ r.dty i = true; simp [hd])
  exact ⟨e, by unfold Rc.dropS; rw [e, if_pos rfl, q]; rfl⟩
theorem rcput_c {w : World} {g : Nat} {vl vh : Value} {r : Rc} (h : IsRc w g vl vh r) (hm : r.L.length ≤ 900) (hm2 : r.H.length ≤ 900) (f : Int) :
    Calls Try.prog 45 #[pA g, .int .u32 f] w fun e w' => e = .returned (.tuple #[.int .u32 (r.putR f).1, .int .i64 (r.putR f).2]) ∧ TurnR w w' g vl vh (r.putS f) := by
  unfold Rc.putR Rc.putS
  by_cases h0 : f = 0
  · subst h0
    rw [if_pos rfl, if_pos rfl]
    exact (rcput_zero h).mono fun e w' q => ⟨q.1, by rw [q.2]; exact TurnR.refl h⟩
  rw [if_neg h0, if_neg h0]
  by_cases ha : 0 ≤ r.at f
  · rw [if_pos ha, if_pos ha]
    exact rcput_has h hm h0 ha
  rw [if_neg ha, if_neg ha]
  have ha1 : r.at f = -1 := by
    rcases r.at_cases f with q | ⟨i, q, _⟩
    · exact q
    · omega
  by_cases hl : (r.L.length : Int) < r.most
  · rw [if_pos hl, if_pos hl]
    exact rcput_room h hm h0 ha1 hl
  rw [if_neg hl, if_neg hl]
  by_cases hb : r.bst r.L.length < 0
  · rw [if_pos hb, if_pos hb]
    exact rcput_no h hm hm2 h0 ha1 (by omega) hb
  · rw [if_neg hb, if_neg hb]
    exact rcput_goes h hm hm2 h0 ha1 (by omega) (by omega)
theorem rcdrop_c {w : World} {g : Nat} {vl vh : Value} {r : Rc} (h : IsRc w g vl vh r) (hm : r.L.length ≤ 900) (f : Int) :
    Calls Try.prog 48 #[pA g, .int .u32 f] w fun e w' => e = .returned (.int .i64 (r.dropE f)) ∧ TurnR w w' g vl vh (r.dropS f) := by
  rcases r.at_cases f with q | ⟨i, q, hi, _⟩
  · rw [r.dropS_no q, r.dropE_no q]
    exact (rcdrop_no h hm q).mono fun e w' q => ⟨q.1, by rw [q.2]; exact TurnR.refl h⟩
  · cases hd : r.dty i with
    | true => rw [(r.drop_busy q hd).1, (r.drop_busy q hd).2]; exact (rcdrop_busy h hm q hi hd).mono fun e w' q => ⟨q.1, by rw [q.2]; exact TurnR.refl h⟩
    | false => rw [(r.drop_ok q hd).1, (r.drop_ok q hd).2]; exact rcdrop_ok h hm q hi hd
theorem rcmark_c {w : World} {g : Nat} {vl vh : Value} {r : Rc} (h : IsRc w g vl vh r) (hm : r.L.length ≤ 900) (f : Int) (d : Bool) :
    Calls Try.prog 49 #[pA g, .int .u32 f, .bool d] w fun e w' => e = .returned (.int .i64 (r.markE f)) ∧ TurnR w w' g vl vh (r.markS f d) := by
  unfold Rc.markS Rc.markE
  rcases r.at_cases f with q | ⟨i, q, hi, _⟩
  · rw [q, if_neg (by decide), if_neg (by decide)]
    exact (rcmark_no h hm q d).mono fun e w' q => ⟨q.1, by rw [q.2]; exact TurnR.refl h⟩
  · rw [q, if_pos (by omega), if_pos (by omega)]
    simp only [Int.toNat_natCast]
    exact rcmark_ok h hm q hi d
theorem rchoard_c {w : World} {g : Nat} {vl vh : Value} {r : Rc} (h : IsRc w g vl vh r) (hm : r.H.length ≤ 900) (f n : Int) :
    Calls Try.prog 51 #[pA g, .int .u32 f, .int .i64 n] w fun e w' => e = .returned (.int .i64 (r.hoardE f n)) ∧ TurnR w w' g vl vh (r.dearS f n) := by
  have stay : ∀ {z : Int}, r.hoardE f n = z → z ≠ 0 → (Calls Try.prog 51 #[pA g, .int .u32 f, .int .i64 n] w fun e w' => e = .returned (.int .i64 z) ∧ w' = w) → Calls Try.prog 51 #[pA g, .int .u32 f, .int .i64 n] w fun e w' => e = .returned (.int .i64 (r.hoardE f n)) ∧ TurnR w w' g vl vh (r.dearS f n) := by
    intro z ez hz hc
    unfold Rc.dearS
    rw [ez, if_neg hz]
    exact hc.mono fun e w' q => ⟨q.1, by rw [q.2]; exact TurnR.refl h⟩
  have goes : r.hoardE f n = 0 → (Calls Try.prog 51 #[pA g, .int .u32 f, .int .i64 n] w fun e w' => e = .returned (.int .i64 0) ∧ TurnR w w' g vl vh (r.hoardS f n)) → Calls Try.prog 51 #[pA g, .int .u32 f, .int .i64 n] w fun e w' => e = .returned (.int .i64 (r.hoardE f n)) ∧ TurnR w w' g vl vh (r.dearS f n) := by
    intro ez hc
    unfold Rc.dearS
    rw [ez, if_pos rfl]
    exact hc
  by_cases h0 : f = 0
  · exact stay (z := 2) (by unfold Rc.hoardE; rw [if_pos (.inl h0)]) (by decide) (rchoard_r0 h h0)
  by_cases h1 : n < 0
  · exact stay (z := 2) (by unfold Rc.hoardE; rw [if_pos (.inr (.inl h1))]) (by decide) (rchoard_r1 h h0 h1)
  by_cases h2 : 100 < n
  · exact stay (z := 2) (by unfold Rc.hoardE; rw [if_pos (.inr (.inr h2))]) (by decide) (rchoard_r2 h h0 h2)
  have hr : ¬ (f = 0 ∨ n < 0 ∨ 100 < n) := by omega
  by_cases h3 : n = 0
  · exact goes (by unfold Rc.hoardE; rw [if_neg hr, if_neg (by simp [h3])]) (rchoard_zero h hm h0 h3)
  by_cases h4 : r.dear f = 0
  · by_cases h5 : 8 ≤ r.H.length
    · exact stay (z := 4) (by unfold Rc.hoardE; rw [if_neg hr, if_pos ⟨h3, h4, h5⟩]) (by decide) (rchoard_full h hm h0 (by omega) (by omega) h4 h5)
    · exact goes (by unfold Rc.hoardE; rw [if_neg hr, if_neg (fun q => h5 q.2.2)]) (rchoard_new h hm h0 (by omega) (by omega) h4 (by omega))
  · exact goes (by unfold Rc.hoardE; rw [if_neg hr, if_neg (fun q => h4 q.2.1)]) (rchoard_more h hm h0 (by omega) (by omega) h4)
/-- Both answer the same, and turn alike: Touch. -/
theorem Rl.has_at {c : Ca} {r : Rc} (h : Rl c r) (f : Int) : decide (0 ≤ r.at f) = c.has f := by
  cases hh : c.has f with
  | true => obtain ⟨i, e, _⟩ := h.at_has hh; rw [e]; exact decide_eq_true (by omega)
  | false => rw [h.at_none hh]; rfl
theorem Rl.touch_eq {c : Ca} {r : Rc} (h : Rl c r) {f : Int} (hh : c.has f = true) : r.touchS f = ⟨r.most, fil f r.L ++ [(f, c.dirtyB f)], r.H⟩ := by
  obtain ⟨i, e, _, hi, e2, e3⟩ := h.at_has hh
  unfold Rc.touchS
  rw [e, if_pos (by omega)]
  simp only [Int.toNat_natCast]
  rw [(h.erase hi).1, e2, e3]
theorem Rl.touch {c : Ca} {r : Rc} (h : Rl c r) (f : Int) : Rl (c.touchS f) (r.touchS f) := by
  unfold Ca.touchS
  cases hh : c.has f with
  | true =>
    rw [if_pos rfl, h.touch_eq hh]
    exact h.use (h.has_rng hh).1 (h.has_rng hh).2 (.inl hh)
  | false =>
    have : r.touchS f = r := by unfold Rc.touchS; rw [h.at_none hh, if_neg (by decide)]
    rw [if_neg (by simp), this]
    exact h
theorem Rl.nx_pos {c : Ca} {r : Rc} (h : Rl c r) (hb : ¬ r.bst r.L.length < 0) : c.has r.nx = true ∧ c.dirtyB r.nx = false ∧ r.nx ≠ 0 ∧ ∃ b, b < r.L.length ∧ r.fid b = r.nx := by
  rcases r.bst_inv r.L.length with ⟨e, _⟩ | ⟨b, e, hlt, hd, _⟩
  · rw [e] at hb; omega
  · have en : r.nx = r.fid b := by unfold Rc.nx; rw [e, if_neg (by omega)]; rfl
    obtain ⟨a1, a2⟩ := h.at_mem hlt
    have := (h.has_rng a1).1
    rw [en]
    exact ⟨a1, by rw [a2, hd], by omega, b, hlt, rfl⟩
theorem Rl.dirty_no {c : Ca} {f : Int} (hh : c.has f = false) : c.dirtyB f = false := by
  unfold Ca.has at hh
  unfold Ca.dirtyB
  cases hf : c.f f with
  | none => rfl
  | some o => rw [hf] at hh; cases hh
theorem Rl.put {c : Ca} {r : Rc} (h : Rl c r) {f : Int} (f1 : f < 4294967296) (f0 : 0 ≤ f) {ss : List Int} (hs : RiseF c.f ss) : c.putR f (c.nextOf ss) = r.putR f ∧ Rl (c.putS f (c.nextOf ss)) (r.putS f) := by
  have hn := h.next hs
  unfold Ca.putR Ca.putS Rc.putR Rc.putS
  by_cases h0 : f = 0
  · rw [if_pos h0, if_pos h0, if_pos h0, if_pos h0]; exact ⟨rfl, h⟩
  rw [if_neg h0, if_neg h0, if_neg h0, if_neg h0]
  have hlen := h.len
  have hmo := h.most
  cases hh : c.has f with
  | true =>
    have ha : 0 ≤ r.at f := by obtain ⟨i, e, _⟩ := h.at_has hh; omega
    have hr : c.room f = true := by unfold Ca.room; rw [hh]; rfl
    have e1 : c.roomR f (c.nextOf ss) = (0, 0) := by unfold Ca.roomR; rw [if_pos hr]
    have e2 : c.roomS f (c.nextOf ss) = c := by unfold Ca.roomS; rw [if_pos hr]
    rw [if_pos ha, if_pos ha, e1, e2, if_pos rfl, h.touch_eq hh]
    exact ⟨rfl, h.use (by omega) f1 (.inl hh)⟩
  | false =>
    have ha : ¬ 0 ≤ r.at f := by rw [h.at_none hh]; decide
    have hdf := Rl.dirty_no hh
    rw [if_neg ha, if_neg ha]
    by_cases hl : (r.L.length : Int) < r.most
    · have hr : c.room f = true := by unfold Ca.room; rw [hh, hlen, decide_eq_true (by omega)]; rfl
      have e1 : c.roomR f (c.nextOf ss) = (0, 0) := by unfold Ca.roomR; rw [if_pos hr]
      have e2 : c.roomS f (c.nextOf ss) = c := by unfold Ca.roomS; rw [if_pos hr]
      rw [if_pos hl, if_pos hl, e1, e2, if_pos rfl]
      have := h.use (x := f) (by omega) f1 (.inr (by omega))
      rw [h.out_fil hh, hdf] at this
      exact ⟨rfl, this⟩
    · have hr : ¬ c.room f = true := by unfold Ca.room; rw [hh, hlen, decide_eq_false (by omega)]; simp
      rw [if_neg hl, if_neg hl]
      by_cases hb : r.bst r.L.length < 0
      · have en : c.nextOf ss = 0 := by rw [hn]; unfold Rc.nx; rw [if_pos hb]
        have e1 : c.roomR f (c.nextOf ss) = (0, 4) := by unfold Ca.roomR; rw [if_neg hr, if_pos en]
        rw [if_pos hb, if_pos hb, e1, if_neg (by decide)]
        exact ⟨rfl, h⟩
      · obtain ⟨n1, n2, n3, b, hb1, hb2⟩ := h.nx_pos hb
        have e1 : c.roomR f (c.nextOf ss) = (r.nx, 0) := by unfold Ca.roomR; rw [if_neg hr, hn, if_neg n3]
        have e2 : c.roomS f (c.nextOf ss) = c.dropS r.nx := by unfold Ca.roomS; rw [if_neg hr, hn, if_neg n3]
        rw [if_neg hb, if_neg hb, e1, e2, if_pos rfl]
        refine ⟨rfl, ?_⟩
        obtain ⟨i, _, ei, hi, ef, _⟩ := h.at_has n1
        have hD := h.drop n1
        have hne : f ≠ r.nx := fun e => by rw [e, n1] at hh; cases hh
        have hh2 : (c.dropS r.nx).has f = false := by rw [drop_has, if_neg hne, hh]
        have := hD.use (x := f) (by omega) f1 (.inr (by
          show ((fil r.nx r.L).length : Int) < c.most
          have h1 := (h.erase hi).2
          rw [ef] at h1
          have := h.few
          omega))
        have e3 : fil f (fil r.nx r.L) = fil r.nx r.L := hD.out_fil hh2
        rw [Rl.dirty_no hh2] at this
        rw [ei, (h.erase hi).1, ef]
        have e4 : (⟨r.most, fil r.nx r.L, r.H⟩ : Rc).L = fil r.nx r.L := rfl
        rw [e4, e3] at this
        exact this
theorem Rl.dropB {c : Ca} {r : Rc} (h : Rl c r) (f : Int) : c.dropE f = r.dropE f ∧ Rl (if c.dropE f = 0 then c.dropS f else c) (r.dropS f) := by
  cases hh : c.has f with
  | true =>
    obtain ⟨i, e, _, hi, e2, e3⟩ := h.at_has hh
    cases hd : c.dirtyB f with
    | true =>
      rw [hd] at e3
      have ec : c.dropE f = 13 := by unfold Ca.dropE; rw [hh, hd]; rfl
      rw [(r.drop_busy e e3).1, (r.drop_busy e e3).2, ec]
      exact ⟨rfl, h⟩
    | false =>
      rw [hd] at e3
      have ec : c.dropE f = 0 := by unfold Ca.dropE; rw [hh, hd]; rfl
      rw [(r.drop_ok e e3).1, (r.drop_ok e e3).2, ec, (h.erase hi).1, e2]
      exact ⟨rfl, h.drop hh⟩
  | false =>
    have ec : c.dropE f = 5 := by unfold Ca.dropE; rw [hh]; rfl
    rw [r.dropE_no (h.at_none hh), r.dropS_no (h.at_none hh), ec]
    exact ⟨rfl, h⟩
theorem Rl.markB {c : Ca} {r : Rc} (h : Rl c r) (f : Int) (d : Bool) : (if c.has f then (0 : Int) else 5) = r.markE f ∧ Rl (if c.has f then c.markS f d else c) (r.markS f d) := by
  cases hh : c.has f with
  | true =>
    obtain ⟨i, e, _, hi, e2, e3⟩ := h.at_has hh
    have em : r.markS f d = ⟨r.most, r.L.set i (r.fid i, d), r.H⟩ := by unfold Rc.markS; rw [e, if_pos (Int.natCast_nonneg _)]; rfl
    have ee : r.markE f = 0 := by unfold Rc.markE; rw [e, if_pos (Int.natCast_nonneg _)]
    rw [em, ee, e2]
    exact ⟨rfl, h.mark hi e2 d⟩
  | false =>
    have em : r.markS f d = r := by unfold Rc.markS; rw [h.at_none hh, if_neg (by decide)]
    have ee : r.markE f = 5 := by unfold Rc.markE; rw [h.at_none hh, if_neg (by decide)]
    rw [em, ee]
    exact ⟨rfl, h⟩
theorem Rl.hoardB {c : Ca} {r : Rc} (h : Rl c r) {f : Int} (n : Int) (f1 : f < 4294967296) (f0 : 0 ≤ f) : c.hoardE f n = r.hoardE f n ∧ Rl (c.hoardS f n) (r.dearS f n) := by
  have hd := h.dear f
  have hk := h.hlen
  have eE : c.hoardE f n = r.hoardE f n := by
    unfold Ca.hoardE Rc.hoardE
    by_cases h0 : f = 0 ∨ n < 0 ∨ 100 < n
    · rw [if_pos h0, if_pos h0]
    · rw [if_neg h0, if_neg h0]
      by_cases h3 : n = 0
      · rw [if_pos h3, if_neg (by simp [h3])]
      · rw [if_neg h3, hd, ← hk]
        by_cases h4 : c.dearN f = 0 ∧ 8 ≤ c.k
        · rw [if_pos h4, if_pos ⟨h3, h4⟩]
        · rw [if_neg h4, if_neg (fun q => h4 q.2)]
  refine ⟨eE, ?_⟩
  unfold Ca.hoardS Rc.dearS
  rw [← eE]
  by_cases hz : c.hoardE f n = 0
  · rw [if_pos hz, if_pos hz]
    unfold Ca.hoardE at hz
    by_cases h0 : f = 0 ∨ n < 0 ∨ 100 < n
    · rw [if_pos h0] at hz; cases hz
    · rw [if_neg h0] at hz
      by_cases h3 : n = 0
      · rw [if_pos h3, h3]; exact h.cold f
      · rw [if_neg h3] at hz ⊢
        refine h.warm (by omega) f1 (by omega) (by omega) (fun q => ?_)
        by_cases h5 : 8 ≤ c.k
        · rw [if_pos ⟨q, h5⟩] at hz; cases hz
        · omega
  · rw [if_neg hz, if_neg hz]; exact h
/-- What a deed makes of both. -/
def Dc.onC (x : Dc) (c : Ca) (ss : List Int) : Ca := if x.k = 0 then c.putS x.f (c.nextOf ss) else if x.k = 1 then c.touchS x.f else if x.k = 2 then (if c.dropE x.f = 0 then c.dropS x.f else c) else if x.k = 3 then (if c.has x.f then c.markS x.f x.dirty else c) else if x.k = 4 then c.hoardS x.f x.dear else c
def Dc.onR (x : Dc) (r : Rc) : Rc := if x.k = 0 then r.putS x.f else if x.k = 1 then r.touchS x.f else if x.k = 2 then r.dropS x.f else if x.k = 3 then r.markS x.f x.dirty else if x.k = 4 then r.dearS x.f x.dear else r
theorem Rl.deed {c : Ca} {r : Rc} (h : Rl c r) (x : Dc) (hx : x.Wf) : Rl (x.onC c r.ss) (x.onR r) := by
  unfold Dc.onC Dc.onR
  obtain ⟨_, ⟨f0, f1⟩, _⟩ := hx
  split
  · exact (h.put f1 f0 h.rise).2
  split
  · exact h.touch _
  split
  · exact (h.dropB _).2
  split
  · exact (h.markB _ _).2
  split
  · exact (h.hoardB _ f1 f0).2
  · exact h
theorem uses_put (c : Ca) (f nx : Int) : (c.putS f nx).uses ≤ c.uses + 1 := by
  unfold Ca.putS
  split
  · omega
  split
  · show (c.roomS f nx).uses + 1 ≤ _
    rw [(roomS_few c f nx).2]; omega
  · omega
theorem uses_deed (x : Dc) (c : Ca) (ss : List Int) : (x.onC c ss).uses ≤ c.uses + 1 := by
  unfold Dc.onC
  split
  · exact uses_put _ _ _
  split
  · unfold Ca.touchS
    split
    · exact Int.le_refl _
    · omega
  split
  · split
    · show c.uses ≤ _; omega
    · omega
  split
  · split
    · show c.uses ≤ _; omega
    · omega
  split
  · unfold Ca.hoardS
    split
    · split
      · show c.uses ≤ _; omega
      · show c.uses ≤ _; omega
    · omega
  · omega
end Go.Proofs.Ytilcbkejmpfnfaa
