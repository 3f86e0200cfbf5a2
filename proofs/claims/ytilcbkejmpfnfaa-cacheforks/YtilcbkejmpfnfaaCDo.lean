/-
  What do of the statements on caches does: a deed on both.
-/
import Derived.Test.YtilcbkejmpfnfaaCDe
namespace Go.Proofs.Ytilcbkejmpfnfaa
open Go.RowKit Go.ChangeShapes Go.WideShapes Go.ChangeAt Go.Maps Go.Shelf
set_option linter.unusedVariables false
set_option linter.unusedSimpArgs false
set_option maxRecDepth 100000
/-- The blocks of both caches. -/
def PBk (p b1 b2 g : Nat) (vl vh : Value) (k : Nat) : Prop := Tri p b1 b2 k ∨ Bk g vl vh k
/-- What is left of both behind a deed. -/
def DoneP (V w2 : World) (p b1 b2 g : Nat) (vl vh : Value) (c' : Ca) (r' : Rc) : Prop := ∃ vl' vh', IsCa w2 p b1 b2 c' ∧ IsRc w2 g vl' vh' r' ∧ Ou (PBk p b1 b2 g vl vh) V w2 ∧ ∀ k, Bk g vl' vh' k → Bk g vl vh k ∨ V.heap.size ≤ k
theorem IsCa.keepR {w w' : World} {p b1 b2 g : Nat} {vl vh : Value} {c : Ca} {r : Rc} (h : IsCa w p b1 b2 c) (hr : IsRc w g vl vh r) (ho : Ou (Bk g vl vh) w w') : IsCa w' p b1 b2 c :=
  h.out ho (fun q => hr.apart h q (.inl rfl)) (fun q => hr.apart h q (.inr (.inl rfl))) (fun q => hr.apart h q (.inr (.inr rfl)))
theorem IsRc.keepC {w w' : World} {p b1 b2 g : Nat} {vl vh : Value} {c : Ca} {r : Rc} (hr : IsRc w g vl vh r) (h : IsCa w p b1 b2 c) (ho : Ou (Tri p b1 b2) w w') : IsRc w' g vl vh r := hr.out ho (fun k hk => hr.apart h hk)
theorem both_PR {V w1 w2 : World} {p b1 b2 g : Nat} {vl vh : Value} {c c' : Ca} {r r' : Rc} (h : IsCa V p b1 b2 c) (hr : IsRc V g vl vh r) (o1 : Ou (Tri p b1 b2) V w1) (h1 : IsCa w1 p b1 b2 c') (t2 : TurnR w1 w2 g vl vh r') : DoneP V w2 p b1 b2 g vl vh c' r' := by
  obtain ⟨vl', vh', hr2, o2, hn⟩ := t2
  refine ⟨vl', vh', h1.keepR (hr.keepC h o1) o2, hr2, (o1.mono (T := PBk p b1 b2 g vl vh) fun k e => .inl e).trans (o2.mono fun k e => .inr e), fun k hk => ?_⟩
  rcases hn k hk with q | q
  · exact .inl q
  · exact .inr (Nat.le_trans o1.size q)
theorem both_RP {V w1 w2 : World} {p b1 b2 g : Nat} {vl vh : Value} {c c' : Ca} {r r' : Rc} (h : IsCa V p b1 b2 c) (hr : IsRc V g vl vh r) (t1 : TurnR V w1 g vl vh r') (h2 : IsCa w2 p b1 b2 c') (o2 : Ou (Tri p b1 b2) w1 w2) : DoneP V w2 p b1 b2 g vl vh c' r' := by
  obtain ⟨vl', vh', hr1, o1, hn⟩ := t1
  exact ⟨vl', vh', h2, hr1.keepC (h.keepR hr o1) o2, (o1.mono (T := PBk p b1 b2 g vl vh) fun k e => .inr e).trans (o2.mono fun k e => .inl e), hn⟩
theorem ou_P {p b1 b2 g : Nat} {vl vh : Value} {w w' : World} (h : Ou (Tri p b1 b2) w w') : Ou (PBk p b1 b2 g vl vh) w w' := h.mono fun k e => .inl e
theorem ou_R {p b1 b2 g : Nat} {vl vh : Value} {w w' : World} (h : Ou (Bk g vl vh) w w') : Ou (PBk p b1 b2 g vl vh) w w' := h.mono fun k e => .inr e
theorem TurnR.ou {w w' : World} {g : Nat} {vl vh : Value} {r : Rc} (h : TurnR w w' g vl vh r) : Ou (Bk g vl vh) w w' := by obtain ⟨_, _, _, o, _⟩ := h; exact o
theorem DoneP.later {V w2 w3 : World} {p b1 b2 g : Nat} {vl vh : Value} {c' : Ca} {r' : Rc} (h : DoneP V w2 p b1 b2 g vl vh c' r') (hb : Below w2.heap.size w2 w3) : DoneP V w3 p b1 b2 g vl vh c' r' := by
  obtain ⟨a, b, h1, h2, h3, h4⟩ := h
  exact ⟨a, b, h1.later hb, h2.later hb, h3.trans (Ou.of hb), h4⟩
theorem DoneP.after {w V w2 : World} {p b1 b2 g : Nat} {vl vh : Value} {c' : Ca} {r' : Rc} (hb : Below w.heap.size w V) (h : DoneP V w2 p b1 b2 g vl vh c' r') : DoneP w w2 p b1 b2 g vl vh c' r' := by
  obtain ⟨a, b, h1, h2, h3, h4⟩ := h
  exact ⟨a, b, h1, h2, (Ou.of hb).trans h3, fun k hk => (h4 k hk).imp id (fun q => Nat.le_trans hb.size q)⟩
/-- A deed in a variable. -/
def DcAt (w : World) (X : Nat) (x : Dc) : Prop := w.heap[X]? = some (.cells #[.int .i64 x.k, .int .u32 x.f, .bool x.dirty, .int .i64 x.dear] 47 (0, 0))
theorem DcAt.cells {w : World} {X : Nat} {x : Dc} (h : DcAt w X x) : w.cell? ⟨X, 0, none⟩ = some (.int .i64 x.k) ∧ w.cell? ⟨X, 1, none⟩ = some (.int .u32 x.f) ∧ w.cell? ⟨X, 2, none⟩ = some (.bool x.dirty) ∧ w.cell? ⟨X, 3, none⟩ = some (.int .i64 x.dear) := by
  unfold DcAt at h
  refine ⟨?_, ?_, ?_, ?_⟩
  all_goals simp [World.cell?, h]
theorem DcAt.out {S : Nat → Prop} {w w' : World} {g : Nat} {x : Dc} (h : DcAt w g x) (ho : Ou S w w') (hS : ¬ S g) : DcAt w' g x := by
  unfold DcAt at *; rw [ho.block g (lt_blkC h) hS]; exact h
/-- What do needs: both alike. -/
structure Bo (w : World) (p b1 b2 g : Nat) (vl vh : Value) (c : Ca) (r : Rc) : Prop where
  hc : IsCa w p b1 b2 c
  hr : IsRc w g vl vh r
  rl : Rl c r
theorem Bo.lts {w : World} {p b1 b2 g : Nat} {vl vh : Value} {c : Ca} {r : Rc} (h : Bo w p b1 b2 g vl vh c r) {k : Nat} (hk : PBk p b1 b2 g vl vh k) : k < w.heap.size := by
  rcases hk with hk | hk
  · obtain ⟨_, _, _, _, _, l0, l1, l2, _⟩ := h.hc.cells
    rcases hk with rfl | rfl | rfl
    · exact l0
    · exact l1
    · exact l2
  · exact h.hr.lt hk
theorem do_pre {w : World} {p b1 b2 g : Nat} {vl vh : Value} {c : Ca} {r : Rc} (h : Bo w p b1 b2 g vl vh c r) (x : Dc) :
    ∃ V : World, V = w.alloc (.cells #[.int .i64 x.k, .int .u32 x.f, .bool x.dirty, .int .i64 x.dear] 47) ∧ Below w.heap.size w V ∧ IsCa V p b1 b2 c ∧ IsRc V g vl vh r ∧ (∀ W, Ou (PBk p b1 b2 g vl vh) V W → DcAt W w.heap.size x) := by
  have hb : Below w.heap.size w (w.alloc (.cells #[.int .i64 x.k, .int .u32 x.f, .bool x.dirty, .int .i64 x.dear] 47)) := (Below.refl _ _).alloc (Nat.le_refl _) _
  refine ⟨_, rfl, hb, h.hc.later hb, h.hr.later hb, fun W ho => ?_⟩
  have h0 : DcAt (w.alloc (.cells #[.int .i64 x.k, .int .u32 x.f, .bool x.dirty, .int .i64 x.dear] 47)) w.heap.size x := heap_alloc_new w _
  exact h0.out ho (fun q => by have := h.lts q; omega)
theorem Rl.lens {c : Ca} {r : Rc} (h : Rl c r) : r.L.length ≤ 10 ∧ r.H.length ≤ 8 ∧ c.m ≤ 10 ∧ c.k ≤ 8 := by
  have h1 := h.few
  have h2 := h.mhi
  have h3 := h.hfew
  have h4 := h.len
  have h5 := h.hlen
  omega
def DoQ (w : World) (p b1 b2 g : Nat) (vl vh : Value) (c' : Ca) (r' : Rc) (e : Ending) (w' : World) : Prop := e = .returned (.bool true) ∧ DoneP w w' p b1 b2 g vl vh c' r'
set_option maxHeartbeats 4000000 in
theorem do_put {w : World} {p b1 b2 g : Nat} {vl vh : Value} {c : Ca} {r : Rc} (h : Bo w p b1 b2 g vl vh c r) (hu : c.uses < 1000) (x : Dc) (hx : x.Wf) (hk : x.k = 0) :
    Calls Try.prog 22 #[pA p, pA g, x.val] w (DoQ w p b1 b2 g vl vh (x.onC c r.ss) (x.onR r)) := by
  obtain ⟨V, hV, hb, hc, hr, hd⟩ := do_pre h x
  have RLn := h.rl.lens
  have hu0 := h.rl.ulo
  have EC : x.onC c r.ss = c.putS x.f (c.nextOf r.ss) := by unfold Dc.onC; simp [hk]
  have ER : x.onR r = r.putS x.f := by unfold Dc.onR; simp [hk]
  rw [EC, ER]
  clear EC ER
  obtain ⟨_, ⟨f0, f1⟩, n0, n1⟩ := hx
  obtain ⟨eP, _⟩ := h.rl.put f1 f0 h.rl.rise
  have CP : Hid (∀ W, IsCa W p b1 b2 c → Calls Try.prog 13 #[pA p, .int .u32 x.f] W fun e w' => e = .returned (.tuple #[.int .u32 (r.putR x.f).1, .int .i64 (r.putR x.f).2]) ∧ IsCa w' p b1 b2 (c.putS x.f (c.nextOf r.ss)) ∧ Ou (Tri p b1 b2) W w') := hid (fun W hW => by
    have := put_c hW (by omega) hu0 (by omega) h.rl.rise f0 f1
    rw [eP] at this
    exact this)
  have CR : Hid (∀ W, IsRc W g vl vh r → Calls Try.prog 45 #[pA g, .int .u32 x.f] W fun e w' => e = .returned (.tuple #[.int .u32 (r.putR x.f).1, .int .i64 (r.putR x.f).2]) ∧ TurnR W w' g vl vh (r.putS x.f)) := hid (fun W hW => rcput_c hW (by omega) (by omega) x.f)
  clear eP
  obtain ⟨xk, xf, xd, xn⟩ := x
  simp only at *
  subst hk
  unfold Dc.val
  have HC := hid hc
  have HR := hid hr
  have BV := hid hb
  have KS : Hid (∀ W, Ou (PBk p b1 b2 g vl vh) V W → W.cell? ⟨w.heap.size, 0, none⟩ = some (.int .i64 0) ∧ W.cell? ⟨w.heap.size, 1, none⟩ = some (.int .u32 xf) ∧ W.cell? ⟨w.heap.size, 2, none⟩ = some (.bool xd) ∧ W.cell? ⟨w.heap.size, 3, none⟩ = some (.int .i64 xn)) := hid (fun W ho => (hd W ho).cells)
  obtain ⟨x0, x1, x2, x3⟩ := KS.out V (Ou.refl _ _)
  clear h hc hr hb hd
  generalize (r.putR xf).1 = e1 at *
  generalize (r.putR xf).2 = e2 at *
  generalize c.putS xf (c.nextOf r.ss) = c9 at *
  generalize r.putS xf = r9 at *
  go_enter Try.func22, Try.ntmps22
  go_wp2_with fail
  rw [← hV]
  clear hV
  refine (CP.out _ HC.out).mono ?_
  rintro _ w1 ⟨rfl, h1, o1⟩
  have HRW := hid (HR.out.keepC HC.out o1)
  have O1 : Hid (Ou (PBk p b1 b2 g vl vh) V w1) := hid (ou_P o1)
  have H1 := hid h1
  have TP := hid o1
  obtain ⟨y0, y1, y2, y3⟩ := KS.out _ O1.out
  clear h1 o1
  go_wp2_with fail
  refine (CR.out _ HRW.out).mono ?_
  rintro _ w2 ⟨rfl, t2⟩
  have FN := hid (both_PR HC.out HR.out TP.out H1.out t2)
  clear t2
  go_wp2
  go_ret
  refine ⟨?_, DoneP.after BV.out FN.out⟩
  first | rfl | exact ret_bool (by simp)
set_option maxHeartbeats 4000000 in
theorem do_touch {w : World} {p b1 b2 g : Nat} {vl vh : Value} {c : Ca} {r : Rc} (h : Bo w p b1 b2 g vl vh c r) (hu : c.uses < 1000) (x : Dc) (hx : x.Wf) (hk : x.k = 1) :
    Calls Try.prog 22 #[pA p, pA g, x.val] w (DoQ w p b1 b2 g vl vh (x.onC c r.ss) (x.onR r)) := by
  obtain ⟨V, hV, hb, hc, hr, hd⟩ := do_pre h x
  have RLn := h.rl.lens
  have hu0 := h.rl.ulo
  have EC : x.onC c r.ss = c.touchS x.f := by unfold Dc.onC; simp [hk]
  have ER : x.onR r = r.touchS x.f := by unfold Dc.onR; simp [hk]
  rw [EC, ER]
  clear EC ER
  obtain ⟨_, ⟨f0, f1⟩, n0, n1⟩ := hx
  have CP : Hid (∀ W, IsCa W p b1 b2 c → Calls Try.prog 46 #[pA p, .int .u32 x.f] W fun e w' => e = .returned (.bool (c.has x.f)) ∧ IsCa w' p b1 b2 (c.touchS x.f) ∧ Ou (Tri p b1 b2) W w') := hid (fun W hW => touch_c hW hu0 (by omega) (by omega) f0 f1)
  have CR : Hid (∀ W, IsRc W g vl vh r → Calls Try.prog 47 #[pA g, .int .u32 x.f] W fun e w' => e = .returned (.bool (c.has x.f)) ∧ TurnR W w' g vl vh (r.touchS x.f)) := hid (fun W hW => by
    have := rctouch_c hW (by omega) x.f
    rw [h.rl.has_at] at this
    exact this)
  obtain ⟨xk, xf, xd, xn⟩ := x
  simp only at *
  subst hk
  unfold Dc.val
  have HC := hid hc
  have HR := hid hr
  have BV := hid hb
  have KS : Hid (∀ W, Ou (PBk p b1 b2 g vl vh) V W → W.cell? ⟨w.heap.size, 0, none⟩ = some (.int .i64 1) ∧ W.cell? ⟨w.heap.size, 1, none⟩ = some (.int .u32 xf) ∧ W.cell? ⟨w.heap.size, 2, none⟩ = some (.bool xd) ∧ W.cell? ⟨w.heap.size, 3, none⟩ = some (.int .i64 xn)) := hid (fun W ho => (hd W ho).cells)
  obtain ⟨x0, x1, x2, x3⟩ := KS.out V (Ou.refl _ _)
  clear h hc hr hb hd
  generalize c.has xf = e1 at *
  generalize c.touchS xf = c9 at *
  generalize r.touchS xf = r9 at *
  go_enter Try.func22, Try.ntmps22
  go_wp2_with fail
  rw [← hV]
  clear hV
  have HC1 : Hid (IsCa V.drew p b1 b2 c) := HC
  have HR1 : Hid (IsRc V.drew g vl vh r) := HR
  go_region_held3 (fun w' => w'.cell? ⟨w.heap.size, 1, none⟩ = some (.int .u32 xf) ∧ w'.cell? ⟨w.heap.size, 2, none⟩ = some (.bool xd) ∧ w'.cell? ⟨w.heap.size, 3, none⟩ = some (.int .i64 xn)) (first | (with_reducible exact (KS.out _ O2.out).2) | (with_reducible exact (KS.out _ O1.out).2) | go_keep)
    (first
      | (have _q := TP.out; clear _q; go_at_call 47; with_reducible refine (CR.out _ HRW.out).mono ?_; rintro _ w2 ⟨rfl, t2⟩; have FN := hid (both_PR HC1.out HR1.out TP.out HC2.out t2); have O2 : Hid (Ou (PBk p b1 b2 g vl vh) V w2) := hid (O1.out.trans (ou_R t2.ou)); clear t2)
      | (have _q := TR.out; clear _q; go_at_call 46; with_reducible refine (CP.out _ HCW.out).mono ?_; rintro _ w2 ⟨rfl, h2, o2⟩; have FN := hid (both_RP HC1.out HR1.out TR.out h2 o2); have O2 : Hid (Ou (PBk p b1 b2 g vl vh) V w2) := hid (O1.out.trans (ou_P o2)); clear h2 o2)
      | (go_at_call 46; with_reducible refine (CP.out _ HC1.out).mono ?_; rintro _ w1 ⟨rfl, h1, o1⟩; have TP := hid o1; have HC2 := hid h1; have HRW := hid (HR1.out.keepC HC1.out o1); have O1 : Hid (Ou (PBk p b1 b2 g vl vh) V w1) := hid (((Ou.refl _ V).drew).trans (ou_P o1)); clear h1 o1)
      | (go_at_call 47; with_reducible refine (CR.out _ HR1.out).mono ?_; rintro _ w1 ⟨rfl, t1⟩; have TR := hid t1; have HCW := hid (HC1.out.keepR HR1.out t1.ou); have O1 : Hid (Ou (PBk p b1 b2 g vl vh) V w1) := hid (((Ou.refl _ V).drew).trans (ou_R t1.ou)); clear t1)
      | fail)
  all_goals (
    go_wp2
    go_ret
    refine ⟨?_, DoneP.after (BV.out.drew) FN.out⟩
    first | rfl | exact ret_bool (by simp))
set_option maxHeartbeats 4000000 in
theorem do_drop {w : World} {p b1 b2 g : Nat} {vl vh : Value} {c : Ca} {r : Rc} (h : Bo w p b1 b2 g vl vh c r) (hu : c.uses < 1000) (x : Dc) (hx : x.Wf) (hk : x.k = 2) :
    Calls Try.prog 22 #[pA p, pA g, x.val] w (DoQ w p b1 b2 g vl vh (x.onC c r.ss) (x.onR r)) := by
  obtain ⟨V, hV, hb, hc, hr, hd⟩ := do_pre h x
  have RLn := h.rl.lens
  have hu0 := h.rl.ulo
  have EC : x.onC c r.ss = if c.dropE x.f = 0 then c.dropS x.f else c := by unfold Dc.onC; simp [hk]
  have ER : x.onR r = r.dropS x.f := by unfold Dc.onR; simp [hk]
  rw [EC, ER]
  clear EC ER
  obtain ⟨_, ⟨f0, f1⟩, n0, n1⟩ := hx
  have CP : Hid (∀ W, IsCa W p b1 b2 c → Calls Try.prog 17 #[pA p, .int .u32 x.f] W fun e w' => e = .returned (.int .i64 (c.dropE x.f)) ∧ IsCa w' p b1 b2 (if c.dropE x.f = 0 then c.dropS x.f else c) ∧ Ou (Tri p b1 b2) W w') := hid (fun W hW => drop_c hW f0 f1)
  have CR : Hid (∀ W, IsRc W g vl vh r → Calls Try.prog 48 #[pA g, .int .u32 x.f] W fun e w' => e = .returned (.int .i64 (c.dropE x.f)) ∧ TurnR W w' g vl vh (r.dropS x.f)) := hid (fun W hW => by
    have := rcdrop_c hW (by omega) x.f
    rw [← (h.rl.dropB x.f).1] at this
    exact this)
  obtain ⟨xk, xf, xd, xn⟩ := x
  simp only at *
  subst hk
  unfold Dc.val
  have HC := hid hc
  have HR := hid hr
  have BV := hid hb
  have KS : Hid (∀ W, Ou (PBk p b1 b2 g vl vh) V W → W.cell? ⟨w.heap.size, 0, none⟩ = some (.int .i64 2) ∧ W.cell? ⟨w.heap.size, 1, none⟩ = some (.int .u32 xf) ∧ W.cell? ⟨w.heap.size, 2, none⟩ = some (.bool xd) ∧ W.cell? ⟨w.heap.size, 3, none⟩ = some (.int .i64 xn)) := hid (fun W ho => (hd W ho).cells)
  obtain ⟨x0, x1, x2, x3⟩ := KS.out V (Ou.refl _ _)
  clear h hc hr hb hd
  generalize (if c.dropE xf = 0 then c.dropS xf else c) = c9 at *
  generalize c.dropE xf = e1 at *
  generalize r.dropS xf = r9 at *
  go_enter Try.func22, Try.ntmps22
  go_wp2_with fail
  rw [← hV]
  clear hV
  have HC1 : Hid (IsCa V.drew p b1 b2 c) := HC
  have HR1 : Hid (IsRc V.drew g vl vh r) := HR
  go_region_held3 (fun w' => w'.cell? ⟨w.heap.size, 1, none⟩ = some (.int .u32 xf) ∧ w'.cell? ⟨w.heap.size, 2, none⟩ = some (.bool xd) ∧ w'.cell? ⟨w.heap.size, 3, none⟩ = some (.int .i64 xn)) (first | (with_reducible exact (KS.out _ O2.out).2) | (with_reducible exact (KS.out _ O1.out).2) | go_keep)
    (first
      | (have _q := TP.out; clear _q; go_at_call 48; with_reducible refine (CR.out _ HRW.out).mono ?_; rintro _ w2 ⟨rfl, t2⟩; have FN := hid (both_PR HC1.out HR1.out TP.out HC2.out t2); have O2 : Hid (Ou (PBk p b1 b2 g vl vh) V w2) := hid (O1.out.trans (ou_R t2.ou)); clear t2)
      | (have _q := TR.out; clear _q; go_at_call 17; with_reducible refine (CP.out _ HCW.out).mono ?_; rintro _ w2 ⟨rfl, h2, o2⟩; have FN := hid (both_RP HC1.out HR1.out TR.out h2 o2); have O2 : Hid (Ou (PBk p b1 b2 g vl vh) V w2) := hid (O1.out.trans (ou_P o2)); clear h2 o2)
      | (go_at_call 17; with_reducible refine (CP.out _ HC1.out).mono ?_; rintro _ w1 ⟨rfl, h1, o1⟩; have TP := hid o1; have HC2 := hid h1; have HRW := hid (HR1.out.keepC HC1.out o1); have O1 : Hid (Ou (PBk p b1 b2 g vl vh) V w1) := hid (((Ou.refl _ V).drew).trans (ou_P o1)); clear h1 o1)
      | (go_at_call 48; with_reducible refine (CR.out _ HR1.out).mono ?_; rintro _ w1 ⟨rfl, t1⟩; have TR := hid t1; have HCW := hid (HC1.out.keepR HR1.out t1.ou); have O1 : Hid (Ou (PBk p b1 b2 g vl vh) V w1) := hid (((Ou.refl _ V).drew).trans (ou_R t1.ou)); clear t1)
      | fail)
  all_goals (
    go_wp2
    go_ret
    refine ⟨?_, DoneP.after (BV.out.drew) FN.out⟩
    first | rfl | exact ret_bool (by simp))
set_option maxHeartbeats 4000000 in
theorem do_mark {w : World} {p b1 b2 g : Nat} {vl vh : Value} {c : Ca} {r : Rc} (h : Bo w p b1 b2 g vl vh c r) (hu : c.uses < 1000) (x : Dc) (hx : x.Wf) (hk : x.k = 3) :
    Calls Try.prog 22 #[pA p, pA g, x.val] w (DoQ w p b1 b2 g vl vh (x.onC c r.ss) (x.onR r)) := by
  obtain ⟨V, hV, hb, hc, hr, hd⟩ := do_pre h x
  have RLn := h.rl.lens
  have hu0 := h.rl.ulo
  have EC : x.onC c r.ss = if c.has x.f then c.markS x.f x.dirty else c := by unfold Dc.onC; simp [hk]
  have ER : x.onR r = r.markS x.f x.dirty := by unfold Dc.onR; simp [hk]
  rw [EC, ER]
  clear EC ER
  obtain ⟨_, ⟨f0, f1⟩, n0, n1⟩ := hx
  have CP : Hid (∀ W, IsCa W p b1 b2 c → Calls Try.prog 25 #[pA p, .int .u32 x.f, .bool x.dirty] W fun e w' => e = .returned (.int .i64 (if c.has x.f then 0 else 5)) ∧ IsCa w' p b1 b2 (if c.has x.f then c.markS x.f x.dirty else c) ∧ Ou (Tri p b1 b2) W w') := hid (fun W hW => mark_c hW (by omega) f0 f1 x.dirty)
  have CR : Hid (∀ W, IsRc W g vl vh r → Calls Try.prog 49 #[pA g, .int .u32 x.f, .bool x.dirty] W fun e w' => e = .returned (.int .i64 (if c.has x.f then 0 else 5)) ∧ TurnR W w' g vl vh (r.markS x.f x.dirty)) := hid (fun W hW => by
    have := rcmark_c hW (by omega) x.f x.dirty
    rw [← (h.rl.markB x.f x.dirty).1] at this
    exact this)
  obtain ⟨xk, xf, xd, xn⟩ := x
  simp only at *
  subst hk
  unfold Dc.val
  have HC := hid hc
  have HR := hid hr
  have BV := hid hb
  have KS : Hid (∀ W, Ou (PBk p b1 b2 g vl vh) V W → W.cell? ⟨w.heap.size, 0, none⟩ = some (.int .i64 3) ∧ W.cell? ⟨w.heap.size, 1, none⟩ = some (.int .u32 xf) ∧ W.cell? ⟨w.heap.size, 2, none⟩ = some (.bool xd) ∧ W.cell? ⟨w.heap.size, 3, none⟩ = some (.int .i64 xn)) := hid (fun W ho => (hd W ho).cells)
  obtain ⟨x0, x1, x2, x3⟩ := KS.out V (Ou.refl _ _)
  clear h hc hr hb hd
  generalize (if c.has xf then c.markS xf xd else c) = c9 at *
  generalize (if c.has xf then (0 : Int) else 5) = e1 at *
  generalize r.markS xf xd = r9 at *
  go_enter Try.func22, Try.ntmps22
  go_wp2_with fail
  rw [← hV]
  clear hV
  have HC1 : Hid (IsCa V.drew p b1 b2 c) := HC
  have HR1 : Hid (IsRc V.drew g vl vh r) := HR
  go_region_held3 (fun w' => w'.cell? ⟨w.heap.size, 1, none⟩ = some (.int .u32 xf) ∧ w'.cell? ⟨w.heap.size, 2, none⟩ = some (.bool xd) ∧ w'.cell? ⟨w.heap.size, 3, none⟩ = some (.int .i64 xn)) (first | (with_reducible exact (KS.out _ O2.out).2) | (with_reducible exact (KS.out _ O1.out).2) | go_keep)
    (first
      | (have _q := TP.out; clear _q; go_at_call 49; with_reducible refine (CR.out _ HRW.out).mono ?_; rintro _ w2 ⟨rfl, t2⟩; have FN := hid (both_PR HC1.out HR1.out TP.out HC2.out t2); have O2 : Hid (Ou (PBk p b1 b2 g vl vh) V w2) := hid (O1.out.trans (ou_R t2.ou)); clear t2)
      | (have _q := TR.out; clear _q; go_at_call 25; with_reducible refine (CP.out _ HCW.out).mono ?_; rintro _ w2 ⟨rfl, h2, o2⟩; have FN := hid (both_RP HC1.out HR1.out TR.out h2 o2); have O2 : Hid (Ou (PBk p b1 b2 g vl vh) V w2) := hid (O1.out.trans (ou_P o2)); clear h2 o2)
      | (go_at_call 25; with_reducible refine (CP.out _ HC1.out).mono ?_; rintro _ w1 ⟨rfl, h1, o1⟩; have TP := hid o1; have HC2 := hid h1; have HRW := hid (HR1.out.keepC HC1.out o1); have O1 : Hid (Ou (PBk p b1 b2 g vl vh) V w1) := hid (((Ou.refl _ V).drew).trans (ou_P o1)); clear h1 o1)
      | (go_at_call 49; with_reducible refine (CR.out _ HR1.out).mono ?_; rintro _ w1 ⟨rfl, t1⟩; have TR := hid t1; have HCW := hid (HC1.out.keepR HR1.out t1.ou); have O1 : Hid (Ou (PBk p b1 b2 g vl vh) V w1) := hid (((Ou.refl _ V).drew).trans (ou_R t1.ou)); clear t1)
      | fail)
  all_goals (
    go_wp2
    go_ret
    refine ⟨?_, DoneP.after (BV.out.drew) FN.out⟩
    first | rfl | exact ret_bool (by simp))
set_option maxHeartbeats 4000000 in
theorem do_hoard {w : World} {p b1 b2 g : Nat} {vl vh : Value} {c : Ca} {r : Rc} (h : Bo w p b1 b2 g vl vh c r) (hu : c.uses < 1000) (x : Dc) (hx : x.Wf) (hk : x.k = 4) :
    Calls Try.prog 22 #[pA p, pA g, x.val] w (DoQ w p b1 b2 g vl vh (x.onC c r.ss) (x.onR r)) := by
  obtain ⟨V, hV, hb, hc, hr, hd⟩ := do_pre h x
  have RLn := h.rl.lens
  have hu0 := h.rl.ulo
  have EC : x.onC c r.ss = c.hoardS x.f x.dear := by unfold Dc.onC; simp [hk]
  have ER : x.onR r = r.dearS x.f x.dear := by unfold Dc.onR; simp [hk]
  rw [EC, ER]
  clear EC ER
  obtain ⟨_, ⟨f0, f1⟩, n0, n1⟩ := hx
  have CP : Hid (∀ W, IsCa W p b1 b2 c → Calls Try.prog 50 #[pA p, .int .u32 x.f, .int .i64 x.dear] W fun e w' => e = .returned (.int .i64 (c.hoardE x.f x.dear)) ∧ IsCa w' p b1 b2 (c.hoardS x.f x.dear) ∧ Ou (Tri p b1 b2) W w') := hid (fun W hW => hoard_c hW (by omega) f0 f1)
  have CR : Hid (∀ W, IsRc W g vl vh r → Calls Try.prog 51 #[pA g, .int .u32 x.f, .int .i64 x.dear] W fun e w' => e = .returned (.int .i64 (c.hoardE x.f x.dear)) ∧ TurnR W w' g vl vh (r.dearS x.f x.dear)) := hid (fun W hW => by
    have := rchoard_c hW (by omega) x.f x.dear
    rw [← (h.rl.hoardB x.dear f1 f0).1] at this
    exact this)
  obtain ⟨xk, xf, xd, xn⟩ := x
  simp only at *
  subst hk
  unfold Dc.val
  have HC := hid hc
  have HR := hid hr
  have BV := hid hb
  have KS : Hid (∀ W, Ou (PBk p b1 b2 g vl vh) V W → W.cell? ⟨w.heap.size, 0, none⟩ = some (.int .i64 4) ∧ W.cell? ⟨w.heap.size, 1, none⟩ = some (.int .u32 xf) ∧ W.cell? ⟨w.heap.size, 2, none⟩ = some (.bool xd) ∧ W.cell? ⟨w.heap.size, 3, none⟩ = some (.int .i64 xn)) := hid (fun W ho => (hd W ho).cells)
  obtain ⟨x0, x1, x2, x3⟩ := KS.out V (Ou.refl _ _)
  clear h hc hr hb hd
  generalize c.hoardE xf xn = e1 at *
  generalize c.hoardS xf xn = c9 at *
  generalize r.dearS xf xn = r9 at *
  go_enter Try.func22, Try.ntmps22
  go_wp2_with fail
  rw [← hV]
  clear hV
  have HC1 : Hid (IsCa V.drew p b1 b2 c) := HC
  have HR1 : Hid (IsRc V.drew g vl vh r) := HR
  go_region_held3 (fun w' => w'.cell? ⟨w.heap.size, 1, none⟩ = some (.int .u32 xf) ∧ w'.cell? ⟨w.heap.size, 2, none⟩ = some (.bool xd) ∧ w'.cell? ⟨w.heap.size, 3, none⟩ = some (.int .i64 xn)) (first | (with_reducible exact (KS.out _ O2.out).2) | (with_reducible exact (KS.out _ O1.out).2) | go_keep)
    (first
      | (have _q := TP.out; clear _q; go_at_call 51; with_reducible refine (CR.out _ HRW.out).mono ?_; rintro _ w2 ⟨rfl, t2⟩; have FN := hid (both_PR HC1.out HR1.out TP.out HC2.out t2); have O2 : Hid (Ou (PBk p b1 b2 g vl vh) V w2) := hid (O1.out.trans (ou_R t2.ou)); clear t2)
      | (have _q := TR.out; clear _q; go_at_call 50; with_reducible refine (CP.out _ HCW.out).mono ?_; rintro _ w2 ⟨rfl, h2, o2⟩; have FN := hid (both_RP HC1.out HR1.out TR.out h2 o2); have O2 : Hid (Ou (PBk p b1 b2 g vl vh) V w2) := hid (O1.out.trans (ou_P o2)); clear h2 o2)
      | (go_at_call 50; with_reducible refine (CP.out _ HC1.out).mono ?_; rintro _ w1 ⟨rfl, h1, o1⟩; have TP := hid o1; have HC2 := hid h1; have HRW := hid (HR1.out.keepC HC1.out o1); have O1 : Hid (Ou (PBk p b1 b2 g vl vh) V w1) := hid (((Ou.refl _ V).drew).trans (ou_P o1)); clear h1 o1)
      | (go_at_call 51; with_reducible refine (CR.out _ HR1.out).mono ?_; rintro _ w1 ⟨rfl, t1⟩; have TR := hid t1; have HCW := hid (HC1.out.keepR HR1.out t1.ou); have O1 : Hid (Ou (PBk p b1 b2 g vl vh) V w1) := hid (((Ou.refl _ V).drew).trans (ou_R t1.ou)); clear t1)
      | fail)
  all_goals (
    go_wp2
    go_ret
    refine ⟨?_, DoneP.after (BV.out.drew) FN.out⟩
    first | rfl | exact ret_bool (by simp))
set_option maxHeartbeats 2000000 in
theorem do_none {w : World} {p b1 b2 g : Nat} {vl vh : Value} {c : Ca} {r : Rc} (h : Bo w p b1 b2 g vl vh c r) (x : Dc) (h0 : x.k ≠ 0) (h1 : x.k ≠ 1) (h2 : x.k ≠ 2) (h3 : x.k ≠ 3) (h4 : x.k ≠ 4) :
    Calls Try.prog 22 #[pA p, pA g, x.val] w (DoQ w p b1 b2 g vl vh (x.onC c r.ss) (x.onR r)) := by
  have EC : x.onC c r.ss = c := by unfold Dc.onC; simp [h0, h1, h2, h3, h4]
  have ER : x.onR r = r := by unfold Dc.onR; simp [h0, h1, h2, h3, h4]
  rw [EC, ER]
  obtain ⟨V, hV, hb, hc, hr, hd⟩ := do_pre h x
  have HC := hid hc
  have HR := hid hr
  have BV := hid hb
  obtain ⟨x0, _⟩ := (hd V (Ou.refl _ _)).cells
  have e0 : (x.k == 0) = false := by simp [h0]
  have e1 : (x.k == 1) = false := by simp [h1]
  have e2 : (x.k == 2) = false := by simp [h2]
  have e3 : (x.k == 3) = false := by simp [h3]
  have e4 : (x.k == 4) = false := by simp [h4]
  obtain ⟨xk, xf, xd, xn⟩ := x
  simp only at *
  unfold Dc.val
  clear h hc hr hb hd EC ER
  go_enter Try.func22, Try.ntmps22
  go_wp2
  go_ret
  rw [← hV]
  exact ⟨rfl, DoneP.after BV.out ⟨vl, vh, HC.out, HR.out, Ou.refl _ _, fun k hk => .inl hk⟩⟩
theorem do_c {w : World} {p b1 b2 g : Nat} {vl vh : Value} {c : Ca} {r : Rc} (h : Bo w p b1 b2 g vl vh c r) (hu : c.uses < 1000) (x : Dc) (hx : x.Wf) :
    Calls Try.prog 22 #[pA p, pA g, x.val] w (DoQ w p b1 b2 g vl vh (x.onC c r.ss) (x.onR r)) := by
  by_cases h0 : x.k = 0
  · exact do_put h hu x hx h0
  by_cases h1 : x.k = 1
  · exact do_touch h hu x hx h1
  by_cases h2 : x.k = 2
  · exact do_drop h hu x hx h2
  by_cases h3 : x.k = 3
  · exact do_mark h hu x hx h3
  by_cases h4 : x.k = 4
  · exact do_hoard h hu x hx h4
  · exact do_none h x h0 h1 h2 h3 h4
end Go.Proofs.Ytilcbkejmpfnfaa
