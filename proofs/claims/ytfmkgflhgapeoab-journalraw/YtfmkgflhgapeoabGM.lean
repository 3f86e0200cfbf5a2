/-
  The journal and the document's journal side by side: what a deed on each makes of both.
  What do of the statements on journals does: a deed on both journals.
  What same of the statements on journals answers: both tell the same, to the last sector.
  What play of the statements on journals does: deeds that came in, on both journals.
-/
import Derived.Test.YtfmkgflhgapeoabGL
import Derived.Test.YtfmkgflhgapeoabGF
import Derived.Test.YtfmkgflhgapeoabGJ
import Derived.Test.YtfmkgflhgapeoabGI
namespace Go.Proofs.Ytfmkgflhgapeoab
open Go.RowKit Go.ChangeShapes Go.WideShapes Go.ChangeAt Go.Maps
set_option linter.unusedVariables false
set_option linter.unusedSimpArgs false
theorem cell_kc {w w' : World} {p : Addr} {v : Value} (h : w.cell? p = some v) (hk : KC w w') : w'.cell? p = some v := by
  have h6 : ∃ cur t fr, w.heap[p.block]? = some (.cells cur t fr) := by
    unfold World.cell? at h
    split at h
    · rename_i e5; exact ⟨_, _, _, e5⟩
    · cases h
  obtain ⟨cur, t, fr, e⟩ := h6
  rw [World.cell?_of_block (hk _ cur t fr e)]; exact h
theorem IsB.kc {w w' : World} {a : Option Addr} {len : Nat} {zs : List Int} (h : IsB w a len zs) (hk : KC w w') : IsB w' a len zs := by
  obtain ⟨h1, h2, h3, h4⟩ := h
  refine ⟨h1, h2, fun hp => ?_, h4⟩
  obtain ⟨b, off, e, hc⟩ := h3 hp
  exact ⟨b, off, e, fun i hi => cell_kc (hc i hi) hk⟩
theorem IsG0.kc {w w' : World} {a : Option Addr} {len : Nat} {g : Jo.Gr} (h : IsG0 w a len g) (hk : KC w w') : IsG0 w' a len g := by
  obtain ⟨h1, h2, h3⟩ := h
  refine ⟨h1, h2, fun hp => ?_⟩
  obtain ⟨b, off, e, hc⟩ := h3 hp
  refine ⟨b, off, e, fun i hi => ?_⟩
  obtain ⟨pa, cap, c1, c2, c3, c4⟩ := hc i hi
  exact ⟨pa, cap, cell_kc c1 hk, c2.kc hk, c3, c4⟩
theorem kc_disk {w w' : World} {d b1 b2 M : Nat} {on : Int → Sec} {c : Int → Option Sec} (hd : IsD w d b1 b2 M on c) (ho : Out (fun k => k = b1 ∨ k = b2) w w') : KC w w' := fun q cur e fr hq => by
  rw [row_disk hq hd ho]; exact hq.symm
/-- Both journals hold the same. -/
def PairJ (w : World) (j d b1 b2 rj r N : Nat) (on : Int → Sec) (c : Int → Option Sec) : Prop :=
  IsJ w j d b1 b2 N on c ∧ ∃ L B, IsRJ w rj r N L B ∧ (∀ k : Nat, k < N → on (k : Int) = L.getD k zsec) ∧ ∀ i, c i = bufAt B i
theorem PairJ.later {w w' : World} {j d b1 b2 rj r N : Nat} {on : Int → Sec} {c : Int → Option Sec} (h : PairJ w j d b1 b2 rj r N on c) (hb : Below w.heap.size w w') : PairJ w' j d b1 b2 rj r N on c := by
  obtain ⟨h1, L, B, h2, h3⟩ := h
  exact ⟨h1.later hb, L, B, h2.later hb, h3⟩
theorem IsRJ.disk {w w' : World} {j r N : Nat} {L : List Sec} {B : List (Int × Sec)} {d b1 b2 M : Nat} {on : Int → Sec} {c : Int → Option Sec} (h : IsRJ w j r N L B) (hd : IsD w d b1 b2 M on c) (ho : Out (fun k => k = b1 ∨ k = b2) w w') : IsRJ w' j r N L B :=
  ⟨row_disk h.1 hd ho, h.2.1.disk hd ho, h.2.2⟩
theorem IsJ.ref {w w' : World} {j d b1 b2 M r N : Nat} {on : Int → Sec} {c : Int → Option Sec} {L : List Sec} {B : List (Int × Sec)} (h : IsJ w j d b1 b2 M on c) (hr : IsR w r N L B) (ho : Out (fun k => k = r) w w') : IsJ w' j d b1 b2 M on c := by
  refine ⟨?_, h.2.1.ref hr ho, h.2.2⟩
  rw [ho.block j (lt_blk h.1) (fun e => ?_)]
  · exact h.1
  · obtain ⟨lv, bv, h2, _⟩ := hr.1
    have := h.1
    rw [e, h2] at this
    injection this with this
    injection this with _ this
    exact absurd this (by decide)
/-- What is read below N decides what is held. -/
theorem hold_cong {v v' : Int → Sec} {N : Nat} (h8 : 8 ≤ N) (h : ∀ k : Nat, k < N → v (k : Int) = v' (k : Int)) : best v 2 = best v' 2 ∧ grps v N = grps v' N ∧ arSt v N = arSt v' N ∧ arEnd v N = arEnd v' N ∧ otSt v N = otSt v' N := by
  have e1 : best v 2 = best v' 2 := best_cong (h 0 (by omega)) (h 1 (by omega))
  obtain ⟨k, t, hkt⟩ : ∃ k t, best v 2 = (k, t) := ⟨_, _, rfl⟩
  have hk := (best_le hkt).2.2
  have haz : 2 * asz N + 2 ≤ N := by unfold asz; omega
  have hle : k * asz N ≤ 1 * asz N := Nat.mul_le_mul_right _ hk
  have e2 : secs v (2 + k * asz N) (asz N) = secs v' (2 + k * asz N) (asz N) := secs_congr fun i hi => h _ (by omega)
  have e3 : grps v N = grps v' N := by unfold grps; rw [← e1, hkt]; simp only; rw [e2]
  have e4 : arSt v N = arSt v' N := by unfold arSt; rw [e1]
  exact ⟨e1, e3, e4, by unfold arEnd; rw [e4, e3], by unfold otSt; rw [e1]⟩
theorem PairJ.vw {w : World} {j d b1 b2 rj r N : Nat} {on : Int → Sec} {c : Int → Option Sec} {L : List Sec} {B : List (Int × Sec)} (h1 : ∀ k : Nat, k < N → on (k : Int) = L.getD k zsec) (h2 : ∀ i, c i = bufAt B i) : ∀ k : Nat, k < N → Go.Proofs.Ytfmkgflhgapeoab.vw on c (k : Int) = vwR L B (k : Int) := fun k hk => by
  unfold Go.Proofs.Ytfmkgflhgapeoab.vw vwR
  rw [h2, h1 k hk]; simp
/-- The numbers that Append and Reset answer. -/
def outA (v : Int → Sec) (N : Nat) (g : Jo.Gr) : Int := if Jo.needF g = 0 then 2 else if arSt v N + asz N < arEnd v N + Jo.needF g then 4 else 0
def outR (v : Int → Sec) (N : Nat) (g : Jo.Gr) : Int := if Jo.needF g = 0 then 2 else if asz N < Jo.needF g ∨ (best v 2).2 = 4294967295 then 4 else 0
/-- A deed on the journal that answers n and, where that is 0, leaves F on its disk. -/
def PS (j d b1 b2 N : Nat) (on : Int → Sec) (c : Int → Option Sec) (n : Int) (F : Int → Sec) (w : World) (e : Ending) (w' : World) : Prop :=
  e = .returned (.int .i64 n) ∧ (∃ on' c', IsJ w' j d b1 b2 N on' c' ∧ ((n ≠ 0 ∧ on' = on ∧ c' = c) ∨ (n = 0 ∧ on' = F ∧ c' = fun _ => none))) ∧ Out (fun k => k = b1 ∨ k = b2) w w'
/-- The same on the document's. -/
def RS (rj r N : Nat) (L : List Sec) (B : List (Int × Sec)) (n : Int) (F : Int → Sec) (w : World) (e : Ending) (w' : World) : Prop :=
  e = .returned (.int .i64 n) ∧ (∃ L' B', IsRJ w' rj r N L' B' ∧ ((n ≠ 0 ∧ L' = L ∧ B' = B) ∨ (n = 0 ∧ B' = [] ∧ ∀ k : Nat, k < N → L'.getD k zsec = F (k : Int)))) ∧ Out (fun k => k = r) w w'
theorem ps_add {j d b1 b2 N : Nat} {on : Int → Sec} {c : Int → Option Sec} {g : Jo.Gr} {w w' : World} {e : Ending} (h0 : IsJ w j d b1 b2 N on c) (h : AddPost j d b1 b2 N on c g w e w') : PS j d b1 b2 N on c (outA (vw on c) N g) (added (vw on c) N g) w e w' := by
  rcases h with ⟨hz, he, hb⟩ | ⟨hz, hs, he, hb⟩ | ⟨hz, hs, he, hJ, ho⟩
  · have e1 : outA (vw on c) N g = 2 := by unfold outA; rw [if_pos hz]
    rw [e1]; exact ⟨he, ⟨on, c, h0.later hb, .inl ⟨by decide, rfl, rfl⟩⟩, Out.of hb⟩
  · have e1 : outA (vw on c) N g = 4 := by unfold outA; rw [if_neg hz, if_pos hs]
    rw [e1]; exact ⟨he, ⟨on, c, h0.later hb, .inl ⟨by decide, rfl, rfl⟩⟩, Out.of hb⟩
  · have e1 : outA (vw on c) N g = 0 := by unfold outA; rw [if_neg hz, if_neg (by omega)]
    rw [e1]; exact ⟨he, ⟨_, _, hJ, .inr ⟨rfl, rfl, rfl⟩⟩, ho⟩
theorem ps_set {j d b1 b2 N : Nat} {on : Int → Sec} {c : Int → Option Sec} {g : Jo.Gr} {w w' : World} {e : Ending} (h0 : IsJ w j d b1 b2 N on c) (h : SetPost j d b1 b2 N on c g w e w') : PS j d b1 b2 N on c (outR (vw on c) N g) (setTo (vw on c) N g) w e w' := by
  rcases h with ⟨hz, he, hb⟩ | ⟨hz, hs, he, hb⟩ | ⟨hz, hs, ht, he, hJ, ho⟩
  · have e1 : outR (vw on c) N g = 2 := by unfold outR; rw [if_pos hz]
    rw [e1]; exact ⟨he, ⟨on, c, h0.later hb, .inl ⟨by decide, rfl, rfl⟩⟩, Out.of hb⟩
  · have e1 : outR (vw on c) N g = 4 := by unfold outR; rw [if_neg hz, if_pos hs]
    rw [e1]; exact ⟨he, ⟨on, c, h0.later hb, .inl ⟨by decide, rfl, rfl⟩⟩, Out.of hb⟩
  · have e1 : outR (vw on c) N g = 0 := by unfold outR; rw [if_neg hz, if_neg (by omega)]
    rw [e1]; exact ⟨he, ⟨_, _, hJ, .inr ⟨rfl, rfl, rfl⟩⟩, ho⟩
/-- What is on the disk behind a Torn. -/
def tornAF (v on : Int → Sec) (N : Nat) (g : Jo.Gr) (st : Int) (zs : List Int) : Int → Sec := tornF st zs on (updO v (arEnd v N) ((Jo.laid g (best v 2).2 ((grps v N).length + 1)).take (Jo.needF g - 1))) (added v N g)
def tornRF (v on : Int → Sec) (N : Nat) (g : Jo.Gr) (st : Int) (zs : List Int) : Int → Sec := tornF st zs on (updO v (otSt v N) (Jo.laid g ((best v 2).2 + 1) 1)) (setTo v N g)
theorem ps_torn {j d b1 b2 N : Nat} {on : Int → Sec} {c : Int → Option Sec} {g : Jo.Gr} {st : Int} {zs : List Int} {w w' : World} {e : Ending} (h0 : IsJ w j d b1 b2 N on c) (h : TornPost j d b1 b2 N on c g st zs w e w') : PS j d b1 b2 N on c (outA (vw on c) N g) (tornAF (vw on c) on N g st zs) w e w' := by
  rcases h with ⟨hz, he, hb⟩ | ⟨hz, hs, he, hb⟩ | ⟨hz, hs, he, hJ, ho⟩
  · have e1 : outA (vw on c) N g = 2 := by unfold outA; rw [if_pos hz]
    rw [e1]; exact ⟨he, ⟨on, c, h0.later hb, .inl ⟨by decide, rfl, rfl⟩⟩, Out.of hb⟩
  · have e1 : outA (vw on c) N g = 4 := by unfold outA; rw [if_neg hz, if_pos hs]
    rw [e1]; exact ⟨he, ⟨on, c, h0.later hb, .inl ⟨by decide, rfl, rfl⟩⟩, Out.of hb⟩
  · have e1 : outA (vw on c) N g = 0 := by unfold outA; rw [if_neg hz, if_neg (by omega)]
    rw [e1]; exact ⟨he, ⟨_, _, hJ, .inr ⟨rfl, rfl, rfl⟩⟩, ho⟩
theorem ps_tornR {j d b1 b2 N : Nat} {on : Int → Sec} {c : Int → Option Sec} {g : Jo.Gr} {st : Int} {zs : List Int} {w w' : World} {e : Ending} (h0 : IsJ w j d b1 b2 N on c) (h : TornRPost j d b1 b2 N on c g st zs w e w') : PS j d b1 b2 N on c (outR (vw on c) N g) (tornRF (vw on c) on N g st zs) w e w' := by
  rcases h with ⟨hz, he, hb⟩ | ⟨hz, hs, he, hb⟩ | ⟨hz, hs, ht, he, hJ, ho⟩
  · have e1 : outR (vw on c) N g = 2 := by unfold outR; rw [if_pos hz]
    rw [e1]; exact ⟨he, ⟨on, c, h0.later hb, .inl ⟨by decide, rfl, rfl⟩⟩, Out.of hb⟩
  · have e1 : outR (vw on c) N g = 4 := by unfold outR; rw [if_neg hz, if_pos hs]
    rw [e1]; exact ⟨he, ⟨on, c, h0.later hb, .inl ⟨by decide, rfl, rfl⟩⟩, Out.of hb⟩
  · have e1 : outR (vw on c) N g = 0 := by unfold outR; rw [if_neg hz, if_neg (by omega)]
    rw [e1]; exact ⟨he, ⟨_, _, hJ, .inr ⟨rfl, rfl, rfl⟩⟩, ho⟩
theorem rs_app {rj r N : Nat} {L : List Sec} {B : List (Int × Sec)} {g : Jo.Gr} {st : Int} {zs : List Int} {w w' : World} {e : Ending} (h0 : IsRJ w rj r N L B) (h : RAppPost rj r N L B g st zs w e w') : RS rj r N L B (outA (vwR L B) N g) (leftF st zs (onL L) (updO (vwR L B) (arEnd (vwR L B) N) ((Jo.laid g (best (vwR L B) 2).2 ((grps (vwR L B) N).length + 1)).take (Jo.needF g - 1))) (added (vwR L B) N g)) w e w' := by
  rcases h with ⟨hz, he, hb⟩ | ⟨hz, hs, he, hb⟩ | ⟨hz, hs, he, ⟨L', hJ, hL⟩, ho⟩
  · have e1 : outA (vwR L B) N g = 2 := by unfold outA; rw [if_pos hz]
    rw [e1]; exact ⟨he, ⟨L, B, h0.later hb, .inl ⟨by decide, rfl, rfl⟩⟩, Out.of hb⟩
  · have e1 : outA (vwR L B) N g = 4 := by unfold outA; rw [if_neg hz, if_pos hs]
    rw [e1]; exact ⟨he, ⟨L, B, h0.later hb, .inl ⟨by decide, rfl, rfl⟩⟩, Out.of hb⟩
  · have e1 : outA (vwR L B) N g = 0 := by unfold outA; rw [if_neg hz, if_neg (by omega)]
    rw [e1]; exact ⟨he, ⟨_, _, hJ, .inr ⟨rfl, rfl, hL⟩⟩, ho⟩
theorem rs_rst {rj r N : Nat} {L : List Sec} {B : List (Int × Sec)} {g : Jo.Gr} {st : Int} {zs : List Int} {w w' : World} {e : Ending} (h0 : IsRJ w rj r N L B) (h : RRstPost rj r N L B g st zs w e w') : RS rj r N L B (outR (vwR L B) N g) (leftF st zs (onL L) (updO (vwR L B) (otSt (vwR L B) N) (Jo.laid g ((best (vwR L B) 2).2 + 1) 1)) (setTo (vwR L B) N g)) w e w' := by
  rcases h with ⟨hz, he, hb⟩ | ⟨hz, hs, he, hb⟩ | ⟨hz, hs, ht, he, ⟨L', hJ, hL⟩, ho⟩
  · have e1 : outR (vwR L B) N g = 2 := by unfold outR; rw [if_pos hz]
    rw [e1]; exact ⟨he, ⟨L, B, h0.later hb, .inl ⟨by decide, rfl, rfl⟩⟩, Out.of hb⟩
  · have e1 : outR (vwR L B) N g = 4 := by unfold outR; rw [if_neg hz, if_pos hs]
    rw [e1]; exact ⟨he, ⟨L, B, h0.later hb, .inl ⟨by decide, rfl, rfl⟩⟩, Out.of hb⟩
  · have e1 : outR (vwR L B) N g = 0 := by unfold outR; rw [if_neg hz, if_neg (by omega)]
    rw [e1]; exact ⟨he, ⟨_, _, hJ, .inr ⟨rfl, rfl, hL⟩⟩, ho⟩
theorem out_cong {v v' : Int → Sec} {N : Nat} (h8 : 8 ≤ N) (h : ∀ k : Nat, k < N → v (k : Int) = v' (k : Int)) (g : Jo.Gr) : outA v N g = outA v' N g ∧ outR v N g = outR v' N g := by
  obtain ⟨e1, e2, e3, e4, e5⟩ := hold_cong h8 h
  exact ⟨by unfold outA; rw [e3, e4], by unfold outR; rw [e1]⟩
theorem tornF_cong {st : Int} {zs : List Int} {a b c a' b' c' : Int → Sec} {i : Int} (h1 : a i = a' i) (h2 : b i = b' i) (h3 : c i = c' i) : tornF st zs a b c i = tornF st zs a' b' c' i := by
  unfold tornF
  split
  · show (if i ∈ zs then _ else _) = (if i ∈ zs then _ else _)
    rw [h1, h2]
  · show (if i ∈ zs then _ else _) = (if i ∈ zs then _ else _)
    rw [h2, h3]
/-- What both leave is the same. -/
theorem left_cong {v v' on : Int → Sec} {L : List Sec} {N : Nat} (h8 : 8 ≤ N) (h : ∀ k : Nat, k < N → v (k : Int) = v' (k : Int)) (ho : ∀ k : Nat, k < N → on (k : Int) = onL L (k : Int)) (g : Jo.Gr) (zs : List Int) (k : Nat) (hk : k < N) :
    (added v N g (k : Int) = leftF (-1) zs (onL L) (updO v' (arEnd v' N) ((Jo.laid g (best v' 2).2 ((grps v' N).length + 1)).take (Jo.needF g - 1))) (added v' N g) (k : Int)) ∧
    (setTo v N g (k : Int) = leftF (-1) zs (onL L) (updO v' (otSt v' N) (Jo.laid g ((best v' 2).2 + 1) 1)) (setTo v' N g) (k : Int)) ∧
    (∀ st, st = 0 ∨ st = 1 → tornAF v on N g st zs (k : Int) = leftF st zs (onL L) (updO v' (arEnd v' N) ((Jo.laid g (best v' 2).2 ((grps v' N).length + 1)).take (Jo.needF g - 1))) (added v' N g) (k : Int)) ∧
    (∀ st, st = 0 ∨ st = 1 → tornRF v on N g st zs (k : Int) = leftF st zs (onL L) (updO v' (otSt v' N) (Jo.laid g ((best v' 2).2 + 1) 1)) (setTo v' N g) (k : Int)) := by
  obtain ⟨e1, e2, e3, e4, e5⟩ := hold_cong h8 h
  have a1 : added v N g (k : Int) = added v' N g (k : Int) := by unfold added; rw [e1, e2, e4]; exact updO_cong (h k hk)
  have a2 : updO v (otSt v N) (Jo.laid g ((best v 2).2 + 1) 1) (k : Int) = updO v' (otSt v' N) (Jo.laid g ((best v' 2).2 + 1) 1) (k : Int) := by rw [e1, e5]; exact updO_cong (h k hk)
  have a3 : setTo v N g (k : Int) = setTo v' N g (k : Int) := by unfold setTo; rw [e1] at a2 ⊢; exact updO_cong a2
  have a4 : updO v (arEnd v N) ((Jo.laid g (best v 2).2 ((grps v N).length + 1)).take (Jo.needF g - 1)) (k : Int) = updO v' (arEnd v' N) ((Jo.laid g (best v' 2).2 ((grps v' N).length + 1)).take (Jo.needF g - 1)) (k : Int) := by rw [e1, e2, e4]; exact updO_cong (h k hk)
  refine ⟨by rw [left_none (by decide) (by decide)]; exact a1, by rw [left_none (by decide) (by decide)]; exact a3, fun st hst => ?_, fun st hst => ?_⟩
  · unfold leftF tornAF; rw [if_pos hst]; exact tornF_cong (ho k hk) a4 a1
  · unfold leftF tornRF; rw [if_pos hst]; exact tornF_cong (ho k hk) a2 a3
/-- One deed on both. -/
theorem pair_step {w w1 w2 : World} {j d b1 b2 rj r N : Nat} {on : Int → Sec} {c : Int → Option Sec} {L : List Sec} {B : List (Int × Sec)} {n n' : Int} {F F' : Int → Sec} {e e' : Ending} (hon : ∀ k : Nat, k < N → on (k : Int) = L.getD k zsec) (hc : ∀ i, c i = bufAt B i) (h1 : PS j d b1 b2 N on c n F w e w1) (hr : IsRJ w1 rj r N L B) (h2 : RS rj r N L B n' F' w1 e' w2) (hn : n = n') (hF : ∀ k : Nat, k < N → F (k : Int) = F' (k : Int)) :
    e = e' ∧ (∃ on' c', PairJ w2 j d b1 b2 rj r N on' c' ∧ ((n ≠ 0 ∧ on' = on ∧ c' = c) ∨ (n = 0 ∧ on' = F ∧ c' = fun _ => none))) ∧ Out (Trio b1 b2 r) w w2 := by
  obtain ⟨he, ⟨on', c', hJ, hcase⟩, ho1⟩ := h1
  obtain ⟨he', ⟨L', B', hR, hcase'⟩, ho2⟩ := h2
  refine ⟨by rw [he, he', hn], ⟨on', c', ⟨hJ.ref hr.2.1 ho2, L', B', hR, ?_⟩, hcase⟩, (ho1.mono fun k e => by rcases e with e | e; exact .inl e; exact .inr (.inl e)).trans (ho2.mono fun k e => .inr (.inr e))⟩
  rcases hcase with ⟨q1, rfl, rfl⟩ | ⟨q1, rfl, rfl⟩
  · rcases hcase' with ⟨_, rfl, rfl⟩ | ⟨q2, _⟩
    · exact ⟨hon, hc⟩
    · exact absurd (hn.trans q2) q1
  · rcases hcase' with ⟨q2, _⟩ | ⟨_, rfl, hL⟩
    · exact absurd (hn.symm.trans q1) q2
    · exact ⟨fun k hk => by rw [hF k hk, hL k hk], fun i => rfl⟩
/-- A journal with nothing loose, that holds groups as journals do. -/
def Good (N : Nat) (on : Int → Sec) (c : Int → Option Sec) : Prop := (c = fun _ => none) ∧ ∃ k t L, Held on N k t L
theorem good_step {w : World} {j d b1 b2 N : Nat} {on on' : Int → Sec} {c c' : Int → Option Sec} {n : Int} {F : Int → Sec} (hc : (n ≠ 0 ∧ on' = on ∧ c' = c) ∨ (n = 0 ∧ on' = F ∧ c' = fun _ => none)) (hF : n = 0 → Good N on c → ∃ k t L, Held F N k t L) : Good N on c → Good N on' c' := fun hg => by
  rcases hc with ⟨_, rfl, rfl⟩ | ⟨h0, rfl, rfl⟩
  · exact hg
  · exact ⟨rfl, hF h0 hg⟩
theorem outA_zero {v : Int → Sec} {N : Nat} {g : Jo.Gr} (h : outA v N g = 0) : Jo.okG g = true ∧ arEnd v N + Jo.needF g ≤ arSt v N + asz N := by
  unfold outA at h
  split at h
  · cases h
  · rename_i hz
    split at h
    · cases h
    · exact ⟨(Jo.need_pos hz).1, by omega⟩
theorem outR_zero {v : Int → Sec} {N : Nat} {g : Jo.Gr} (h : outR v N g = 0) : Jo.okG g = true ∧ Jo.needF g ≤ asz N ∧ (best v 2).2 ≠ 4294967295 := by
  unfold outR at h
  split at h
  · cases h
  · rename_i hz
    split at h
    · cases h
    · rename_i hs; exact ⟨(Jo.need_pos hz).1, by omega, fun e => hs (.inr e)⟩
theorem Held.room {v : Int → Sec} {N k : Nat} {t : Int} {L : List Jo.Gr} (h : Held v N k t L) (hs : ∀ i, Jo.Sct (v i)) {g : Jo.Gr} (hr : arEnd v N + Jo.needF g ≤ arSt v N + asz N) : sumN L + Jo.needF g ≤ asz N := by
  obtain ⟨e1, e2, _⟩ := h.ar hs
  rw [e1, e2] at hr; omega
theorem good_all {w : World} {j d b1 b2 N : Nat} {on : Int → Sec} {c : Int → Option Sec} (hJ : IsJ w j d b1 b2 N on c) (g : Jo.Gr) (st : Int) (zs : List Int) (hg : Good N on c) :
    (outA (vw on c) N g = 0 → ∃ k t L, Held (added (vw on c) N g) N k t L) ∧ (outR (vw on c) N g = 0 → ∃ k t L, Held (setTo (vw on c) N g) N k t L) ∧
    (outA (vw on c) N g = 0 → ∃ k t L, Held (tornAF (vw on c) on N g st zs) N k t L) ∧ (outR (vw on c) N g = 0 → ∃ k t L, Held (tornRF (vw on c) on N g st zs) N k t L) := by
  obtain ⟨rfl, k, t, L, hH⟩ := hg
  have hs : ∀ i, Jo.Sct (on i) := fun i => hJ.2.1.sec i
  have e0 : vw on (fun _ => none) = on := rfl
  rw [e0]
  refine ⟨fun h => ?_, fun h => ?_, fun h => ?_, fun h => ?_⟩
  · obtain ⟨ho, hr⟩ := outA_zero h
    exact ⟨_, _, _, hH.added hs ho (hH.room hs hr)⟩
  · obtain ⟨ho, hr, ht⟩ := outR_zero h
    rw [hH.bst] at ht
    exact ⟨_, _, _, hH.setTo hJ.2.2 hs ht ho hr⟩
  · obtain ⟨ho, hr⟩ := outA_zero h
    rcases hH.tornA hJ.2.2 hs ho (hH.room hs hr) st zs with q | q
    · exact ⟨_, _, _, q⟩
    · exact ⟨_, _, _, q⟩
  · obtain ⟨ho, hr, ht⟩ := outR_zero h
    rw [hH.bst] at ht
    rcases hH.tornR hJ.2.2 hs ht ho hr st zs with q | q
    · exact ⟨_, _, _, q⟩
    · exact ⟨_, _, _, q⟩
end Go.Proofs.Ytfmkgflhgapeoab
namespace Go.Proofs.Ytfmkgflhgapeoab
open Go.RowKit Go.ChangeShapes Go.WideShapes Go.ChangeAt Go.Maps
set_option linter.unusedVariables false
set_option linter.unusedSimpArgs false
/-- What do answers. -/
def JDoPost (w : World) (j d b1 b2 rj r N : Nat) (on : Int → Sec) (c : Int → Option Sec) (e : Ending) (w' : World) : Prop :=
  e = .returned (.bool true) ∧ (∃ on' c', PairJ w' j d b1 b2 rj r N on' c' ∧ (Good N on c → Good N on' c')) ∧ Out (Trio b1 b2 r) w w'
/-- A deed in a variable. -/
def BoxJ (w : World) (X : Nat) (k : Int) (ga : Option Addr) (gl gc : Nat) (rs : Bool) (st : Int) (a : Option Addr) (len cap : Nat) : Prop := w.heap[X]? = some (.cells #[.int .i64 k, .slice ga gl gc, .bool rs, .int .i64 st, .slice a len cap] 25 (0, 0))
theorem BoxJ.cells {w : World} {X : Nat} {k : Int} {ga : Option Addr} {gl gc : Nat} {rs : Bool} {st : Int} {a : Option Addr} {len cap : Nat} (h : BoxJ w X k ga gl gc rs st a len cap) : w.cell? ⟨X, 0, none⟩ = some (.int .i64 k) ∧ w.cell? ⟨X, 1, none⟩ = some (.slice ga gl gc) ∧ w.cell? ⟨X, 2, none⟩ = some (.bool rs) ∧ w.cell? ⟨X, 3, none⟩ = some (.int .i64 st) ∧ w.cell? ⟨X, 4, none⟩ = some (.slice a len cap) := by
  unfold BoxJ at h
  simp [World.cell?, h]
theorem BoxJ.later {w w' : World} {X : Nat} {k : Int} {ga : Option Addr} {gl gc : Nat} {rs : Bool} {st : Int} {a : Option Addr} {len cap : Nat} (h : BoxJ w X k ga gl gc rs st a len cap) (hb : Below w.heap.size w w') : BoxJ w' X k ga gl gc rs st a len cap := by
  unfold BoxJ at *; rw [hb.block X (lt_blk h)]; exact h
theorem BoxJ.kc {w w' : World} {X : Nat} {k : Int} {ga : Option Addr} {gl gc : Nat} {rs : Bool} {st : Int} {a : Option Addr} {len cap : Nat} (h : BoxJ w X k ga gl gc rs st a len cap) (hk : KC w w') : BoxJ w' X k ga gl gc rs st a len cap := by
  unfold BoxJ at *; rw [hk X _ _ _ h]; exact h
set_option maxRecDepth 100000 in
set_option maxHeartbeats 2000000 in
theorem jdo_add {w : World} {j d b1 b2 rj r N : Nat} {on : Int → Sec} {c : Int → Option Sec} (h : PairJ w j d b1 b2 rj r N on c) (ga : Option Addr) (gl gc : Nat) (g : Jo.Gr) (rs : Bool) (st : Int) (a : Option Addr) (len cap : Nat) (hG : IsG0 w ga gl g) (hgc : gl ≤ gc) :
    Calls Try.prog 12 #[pB j, pB rj, .agg #[.int .i64 0, .slice ga gl gc, .bool rs, .int .i64 st, .slice a len cap]] w (JDoPost w j d b1 b2 rj r N on c) := by
  obtain ⟨hJ, L, B, hR, hon, hc⟩ := h
  have hN := hR.two
  have hvv := PairJ.vw (w := w) (j := j) (d := d) (b1 := b1) (b2 := b2) (rj := rj) (r := r) hon hc
  have hb0 : Below w.heap.size w (w.alloc (.cells #[.int .i64 0, .slice ga gl gc, .bool rs, .int .i64 st, .slice a len cap] 25)) := (Below.refl _ _).alloc (Nat.le_refl _) _
  have HX : Hid (BoxJ (w.alloc (.cells #[.int .i64 0, .slice ga gl gc, .bool rs, .int .i64 st, .slice a len cap] 25)) w.heap.size 0 ga gl gc rs st a len cap) := heap_alloc_new w _
  have FC := hid (few_c ga gl gc g _ (hG.later hb0) hgc)
  have HB0 := hid hb0
  have HJ := hid hJ
  have HR := hid hR
  have HON := hid hon
  have HC := hid hc
  have HVV := hid hvv
  have HPC : Hid (∀ (W : World) (q : Option Addr) (m p : Nat), Below w.heap.size w W → IsG0 W q m (fewG g) → Calls Try.prog 18 #[pB j, .slice q m p] W (PS j d b1 b2 N on c (outA (vw on c) N (fewG g)) (added (vw on c) N (fewG g)) W)) := fun W q m p hW hg => (append_c (hJ.later hW) q m p _ hg).mono fun e w' hp => ps_add (hJ.later hW) hp
  have HRC : Hid (∀ (W : World) (q : Option Addr) (m p : Nat), IsRJ W rj r N L B → IsG0 W q m (fewG g) → Calls Try.prog 31 #[pB rj, .slice q m p] W (RS rj r N L B (outA (vw on c) N (fewG g)) (added (vw on c) N (fewG g)) W)) := fun W q m p hW hg => (rAppend_c hW q m p _ hg).mono fun e w' hp => by
    have h1 := rs_app hW hp
    rw [← (out_cong hJ.2.2 hvv (fewG g)).1] at h1
    refine ⟨h1.1, ?_, h1.2.2⟩
    obtain ⟨L', B', h2, h3⟩ := h1.2.1
    refine ⟨L', B', h2, ?_⟩
    rcases h3 with h3 | ⟨h3, h4, h5⟩
    · exact .inl h3
    · exact .inr ⟨h3, h4, fun k hk => by rw [h5 k hk]; exact ((left_cong (L := L) (on := on) hJ.2.2 hvv (fun k hk => by rw [hon k hk, onL_at]) (fewG g) [] k hk).1).symm⟩
  have HGD : Hid (outA (vw on c) N (fewG g) = 0 → Good N on c → ∃ k t L, Held (added (vw on c) N (fewG g)) N k t L) := fun h0 hg => (good_all hJ (fewG g) 0 [] hg).1 h0
  generalize outA (vw on c) N (fewG g) = nn at *
  generalize added (vw on c) N (fewG g) = FF at *
  clear hJ hR hon hc hvv hb0 hG
  go_enter Try.func12, Try.ntmps12
  go_wp2_with fail
  generalize (w.alloc (.cells #[.int .i64 0, .slice ga gl gc, .bool rs, .int .i64 st, .slice a len cap] 25)) = W at *
  refine FC.out.mono ?_
  rintro _ w1 ⟨fa, fc, rfl, hG1, _, _, hb1⟩
  have HB1 := hid (HB0.out.trans (hb1.mono HB0.out.size))
  have HX1 := hid (HX.out.later hb1)
  obtain ⟨x0, x1, x2, x3, x4⟩ := HX1.out.cells
  have PC := hid (HPC.out w1 fa _ fc HB1.out hG1)
  have HG1 := hid hG1
  generalize (fewG g).length = fl at *
  clear hG1 hb1 FC
  go_wp2_with (first
    | (go_at_call 18; refine PC.out.mono ?_; intro e2 w2 hP2; (have HP2 := hid hP2); obtain ⟨he2, _, ho2⟩ := hP2; subst he2; (have HR2 := hid ((HR.out.later HB1.out).disk (HJ.out.later HB1.out).2.1 ho2)); (have RC := hid (HRC.out w2 fa fl fc HR2.out (HG1.out.kc (kc_disk (HJ.out.later HB1.out).2.1 ho2)))); clear ho2)
    | (go_at_call 31; refine RC.out.mono ?_; intro e3 w3 hP3; (have HP3 := hid hP3); obtain ⟨he3, _, ho3⟩ := hP3; subst he3; clear ho3))
  go_ret
  obtain ⟨_, ⟨on', c', hP, hcase⟩, ho⟩ := pair_step HON.out HC.out HP2.out HR2.out HP3.out rfl (fun _ _ => rfl)
  exact ⟨rfl, ⟨on', c', hP, good_step (w := w) (j := j) (d := d) (b1 := b1) (b2 := b2) hcase HGD.out⟩, (Out.of HB1.out).trans ho⟩
set_option maxRecDepth 100000 in
set_option maxHeartbeats 2000000 in
theorem jdo_set {w : World} {j d b1 b2 rj r N : Nat} {on : Int → Sec} {c : Int → Option Sec} (h : PairJ w j d b1 b2 rj r N on c) (ga : Option Addr) (gl gc : Nat) (g : Jo.Gr) (rs : Bool) (st : Int) (a : Option Addr) (len cap : Nat) (hG : IsG0 w ga gl g) (hgc : gl ≤ gc) :
    Calls Try.prog 12 #[pB j, pB rj, .agg #[.int .i64 1, .slice ga gl gc, .bool rs, .int .i64 st, .slice a len cap]] w (JDoPost w j d b1 b2 rj r N on c) := by
  obtain ⟨hJ, L, B, hR, hon, hc⟩ := h
  have hN := hR.two
  have hvv := PairJ.vw (w := w) (j := j) (d := d) (b1 := b1) (b2 := b2) (rj := rj) (r := r) hon hc
  have hb0 : Below w.heap.size w (w.alloc (.cells #[.int .i64 1, .slice ga gl gc, .bool rs, .int .i64 st, .slice a len cap] 25)) := (Below.refl _ _).alloc (Nat.le_refl _) _
  have HX : Hid (BoxJ (w.alloc (.cells #[.int .i64 1, .slice ga gl gc, .bool rs, .int .i64 st, .slice a len cap] 25)) w.heap.size 1 ga gl gc rs st a len cap) := heap_alloc_new w _
  have FC := hid (few_c ga gl gc g _ (hG.later hb0) hgc)
  have HB0 := hid hb0
  have HJ := hid hJ
  have HR := hid hR
  have HON := hid hon
  have HC := hid hc
  have HVV := hid hvv
  have HPC : Hid (∀ (W : World) (q : Option Addr) (m p : Nat), Below w.heap.size w W → IsG0 W q m (fewG g) → Calls Try.prog 20 #[pB j, .slice q m p] W (PS j d b1 b2 N on c (outR (vw on c) N (fewG g)) (setTo (vw on c) N (fewG g)) W)) := fun W q m p hW hg => (reset_c (hJ.later hW) q m p _ hg).mono fun e w' hp => ps_set (hJ.later hW) hp
  have HRC : Hid (∀ (W : World) (q : Option Addr) (m p : Nat), IsRJ W rj r N L B → IsG0 W q m (fewG g) → Calls Try.prog 32 #[pB rj, .slice q m p] W (RS rj r N L B (outR (vw on c) N (fewG g)) (setTo (vw on c) N (fewG g)) W)) := fun W q m p hW hg => (rReset_c hW q m p _ hg).mono fun e w' hp => by
    have h1 := rs_rst hW hp
    rw [← (out_cong hJ.2.2 hvv (fewG g)).2] at h1
    refine ⟨h1.1, ?_, h1.2.2⟩
    obtain ⟨L', B', h2, h3⟩ := h1.2.1
    refine ⟨L', B', h2, ?_⟩
    rcases h3 with h3 | ⟨h3, h4, h5⟩
    · exact .inl h3
    · exact .inr ⟨h3, h4, fun k hk => by rw [h5 k hk]; exact ((left_cong (L := L) (on := on) hJ.2.2 hvv (fun k hk => by rw [hon k hk, onL_at]) (fewG g) [] k hk).2.1).symm⟩
  have HGD : Hid (outR (vw on c) N (fewG g) = 0 → Good N on c → ∃ k t L, Held (setTo (vw on c) N (fewG g)) N k t L) := fun h0 hg => (good_all hJ (fewG g) 0 [] hg).2.1 h0
  generalize outR (vw on c) N (fewG g) = nn at *
  generalize setTo (vw on c) N (fewG g) = FF at *
  clear hJ hR hon hc hvv hb0 hG
  go_enter Try.func12, Try.ntmps12
  go_wp2_with fail
  generalize (w.alloc (.cells #[.int .i64 1, .slice ga gl gc, .bool rs, .int .i64 st, .slice a len cap] 25)) = W at *
  refine FC.out.mono ?_
  rintro _ w1 ⟨fa, fc, rfl, hG1, _, _, hb1⟩
  have HB1 := hid (HB0.out.trans (hb1.mono HB0.out.size))
  have HX1 := hid (HX.out.later hb1)
  obtain ⟨x0, x1, x2, x3, x4⟩ := HX1.out.cells
  have PC := hid (HPC.out w1 fa _ fc HB1.out hG1)
  have HG1 := hid hG1
  generalize (fewG g).length = fl at *
  clear hG1 hb1 FC
  go_wp2_with (first
    | (go_at_call 20; refine PC.out.mono ?_; intro e2 w2 hP2; (have HP2 := hid hP2); obtain ⟨he2, _, ho2⟩ := hP2; subst he2; (have HR2 := hid ((HR.out.later HB1.out).disk (HJ.out.later HB1.out).2.1 ho2)); (have RC := hid (HRC.out w2 fa fl fc HR2.out (HG1.out.kc (kc_disk (HJ.out.later HB1.out).2.1 ho2)))); clear ho2)
    | (go_at_call 32; refine RC.out.mono ?_; intro e3 w3 hP3; (have HP3 := hid hP3); obtain ⟨he3, _, ho3⟩ := hP3; subst he3; clear ho3))
  go_ret
  obtain ⟨_, ⟨on', c', hP, hcase⟩, ho⟩ := pair_step HON.out HC.out HP2.out HR2.out HP3.out rfl (fun _ _ => rfl)
  exact ⟨rfl, ⟨on', c', hP, good_step (w := w) (j := j) (d := d) (b1 := b1) (b2 := b2) hcase HGD.out⟩, (Out.of HB1.out).trans ho⟩
set_option maxRecDepth 100000 in
set_option maxHeartbeats 1000000 in
theorem jdo_other {w : World} {j d b1 b2 rj r N : Nat} {on : Int → Sec} {c : Int → Option Sec} (h : PairJ w j d b1 b2 rj r N on c) (k : Int) (hk0 : k ≠ 0) (hk1 : k ≠ 1) (hk2 : k ≠ 2) (ga : Option Addr) (gl gc : Nat) (g : Jo.Gr) (rs : Bool) (st : Int) (a : Option Addr) (len cap : Nat) (hG : IsG0 w ga gl g) (hgc : gl ≤ gc) :
    Calls Try.prog 12 #[pB j, pB rj, .agg #[.int .i64 k, .slice ga gl gc, .bool rs, .int .i64 st, .slice a len cap]] w (JDoPost w j d b1 b2 rj r N on c) := by
  have hb0 : Below w.heap.size w (w.alloc (.cells #[.int .i64 k, .slice ga gl gc, .bool rs, .int .i64 st, .slice a len cap] 25)) := (Below.refl _ _).alloc (Nat.le_refl _) _
  have HX : Hid (BoxJ (w.alloc (.cells #[.int .i64 k, .slice ga gl gc, .bool rs, .int .i64 st, .slice a len cap] 25)) w.heap.size k ga gl gc rs st a len cap) := heap_alloc_new w _
  have FC := hid (few_c ga gl gc g _ (hG.later hb0) hgc)
  have H := hid h
  have HB0 := hid hb0
  have e0 : (k == 0) = false := by simp [hk0]
  have e1 : (k == 1) = false := by simp [hk1]
  have e2 : (k == 2) = false := by simp [hk2]
  clear h hb0 hG
  go_enter Try.func12, Try.ntmps12
  go_wp2_with fail
  generalize (w.alloc (.cells #[.int .i64 k, .slice ga gl gc, .bool rs, .int .i64 st, .slice a len cap] 25)) = W at *
  refine FC.out.mono ?_
  rintro _ w1 ⟨fa, fc, rfl, hG1, _, _, hb1⟩
  have HB1 := hid (HB0.out.trans (hb1.mono HB0.out.size))
  obtain ⟨x0, x1, x2, x3, x4⟩ := (HX.out.later hb1).cells
  clear hG1 hb1 FC
  go_wp2
  go_ret
  exact ⟨rfl, ⟨on, c, H.out.later HB1.out, id⟩, Out.of HB1.out⟩
set_option maxRecDepth 100000 in
set_option maxHeartbeats 4000000 in
theorem jdo_tornG {w : World} {j d b1 b2 rj r N : Nat} {on : Int → Sec} {c : Int → Option Sec} (hJ : IsJ w j d b1 b2 N on c) {L : List Sec} {B : List (Int × Sec)} (hR : IsRJ w rj r N L B) (hon : ∀ k : Nat, k < N → on (k : Int) = L.getD k zsec) (hc : ∀ i, c i = bufAt B i) (ga : Option Addr) (gl gc : Nat) (g : Jo.Gr) (rs : Bool) (st : Int) (a : Option Addr) (len cap : Nat) (zs : List Int) (hG : IsG0 w ga gl g) (hgc : gl ≤ gc) (hZ : ∀ W, Out (Trio b1 b2 r) w W → IsZ W a len zs)
    (nn : Int) (FF : Int → Sec) (hPC : ∀ (W : World) (q : Option Addr) (m p : Nat), IsJ W j d b1 b2 N on c → IsG0 W q m (fewG g) → IsZ W a len zs → Calls Try.prog 33 #[pB j, .slice q m p, .bool rs, .int .i64 st, .slice a len cap] W (PS j d b1 b2 N on c nn FF W))
    (hRC : ∀ (W : World) (q : Option Addr) (m p : Nat), IsRJ W rj r N L B → IsG0 W q m (fewG g) → (∀ W', Out (fun k => k = r) W W' → IsZ W' a len zs) → Calls Try.prog 34 #[pB rj, .slice q m p, .bool rs, .int .i64 st, .slice a len cap] W (RS rj r N L B nn FF W))
    (hGD : nn = 0 → Good N on c → ∃ k t L, Held FF N k t L) :
    Calls Try.prog 12 #[pB j, pB rj, .agg #[.int .i64 2, .slice ga gl gc, .bool rs, .int .i64 st, .slice a len cap]] w (JDoPost w j d b1 b2 rj r N on c) := by
  have hb0 : Below w.heap.size w (w.alloc (.cells #[.int .i64 2, .slice ga gl gc, .bool rs, .int .i64 st, .slice a len cap] 25)) := (Below.refl _ _).alloc (Nat.le_refl _) _
  have HX : Hid (BoxJ (w.alloc (.cells #[.int .i64 2, .slice ga gl gc, .bool rs, .int .i64 st, .slice a len cap] 25)) w.heap.size 2 ga gl gc rs st a len cap) := heap_alloc_new w _
  have FC := hid (few_c ga gl gc g _ (hG.later hb0) hgc)
  have HB0 := hid hb0
  have HJ := hid hJ
  have HR := hid hR
  have HON := hid hon
  have HC := hid hc
  have HZ := hid hZ
  have HPC := hid hPC
  have HRC := hid hRC
  have HGD := hid hGD
  have hrl := hR.2.1.pair.2.2.2
  clear hJ hR hon hc hb0 hG hZ hPC hRC hGD
  go_enter Try.func12, Try.ntmps12
  go_wp2_with fail
  generalize hWe : (w.alloc (.cells #[.int .i64 2, .slice ga gl gc, .bool rs, .int .i64 st, .slice a len cap] 25)) = W at *
  have hXr : w.heap.size ≠ r := by omega
  clear hWe
  refine FC.out.mono ?_
  rintro _ w1 ⟨fa, fc, rfl, hG1, _, _, hb1⟩
  have HB1 := hid (HB0.out.trans (hb1.mono HB0.out.size))
  have HX1 : Hid (BoxJ w1.drew w.heap.size 2 ga gl gc rs st a len cap) := HX.out.later hb1.drew
  obtain ⟨x0', _⟩ := (HX.out.later hb1).cells
  obtain ⟨x0, x1, x2, x3, x4⟩ := HX1.out.cells
  have HJ1 : Hid (IsJ w1.drew j d b1 b2 N on c) := HJ.out.later HB1.out.drew
  have HR1 : Hid (IsRJ w1.drew rj r N L B) := HR.out.later HB1.out.drew
  have HG1 : Hid (IsG0 w1.drew fa (fewG g).length (fewG g)) := hG1
  have HO1 : Hid (Out (Trio b1 b2 r) w w1.drew) := (Out.of HB1.out).drew
  have PC := hid (HPC.out w1.drew fa _ fc HJ1.out HG1.out (HZ.out _ HO1.out))
  have CK1 : w1.drew.cell? ⟨w.heap.size, 2, none⟩ = some (.bool rs) ∧ w1.drew.cell? ⟨w.heap.size, 3, none⟩ = some (.int .i64 st) ∧ w1.drew.cell? ⟨w.heap.size, 4, none⟩ = some (.slice a len cap) := ⟨x2, x3, x4⟩
  generalize (fewG g).length = fl at *
  clear hG1 hb1 FC
  go_wp2_with fail
  go_region_held3 (fun w' => w'.cell? ⟨w.heap.size, 2, none⟩ = some (.bool rs) ∧ w'.cell? ⟨w.heap.size, 3, none⟩ = some (.int .i64 st) ∧ w'.cell? ⟨w.heap.size, 4, none⟩ = some (.slice a len cap)) (first | (with_reducible exact CK3) | (with_reducible exact CK2) | (with_reducible exact CK1) | go_keep)
    (first
      | (go_at_call 33; refine PC.out.mono ?_; intro e2 w2 hP2; (have HP2 := hid hP2); obtain ⟨he2, _, ho2⟩ := hP2; subst he2; (have HKC := hid (kc_disk HJ1.out.2.1 ho2)); (have HR2 := hid (HR1.out.disk HJ1.out.2.1 ho2)); (have HO2 := hid (HO1.out.trans (ho2.mono (T := Trio b1 b2 r) fun k e => by (rcases e with e | e; exact .inl e; exact .inr (.inl e))))); (have HX2 := hid (HX1.out.kc HKC.out)); (have CK2 := HX2.out.cells.2.2); (have RC := hid (HRC.out w2 fa fl fc HR2.out (HG1.out.kc HKC.out) (fun W' hW' => HZ.out W' (HO2.out.trans (hW'.mono fun k e => .inr (.inr e)))))); clear ho2)
      | (go_at_call 34; refine RC.out.mono ?_; intro e3 w3 hP3; (have HP3 := hid hP3); obtain ⟨he3, _, ho3⟩ := hP3; subst he3; (have HX3 : Hid (BoxJ w3 w.heap.size 2 ga gl gc rs st a len cap) := by (have q := HX2.out; unfold BoxJ at q ⊢; show _ = _; rw [ho3.block _ (lt_blk q) hXr]; exact q)); (have CK3 := HX3.out.cells.2.2); clear ho3))
  go_wp2
  go_ret
  obtain ⟨_, ⟨on', c', hP, hcase⟩, ho⟩ := pair_step HON.out HC.out HP2.out HR2.out HP3.out rfl (fun _ _ => rfl)
  exact ⟨rfl, ⟨on', c', hP, good_step (w := w) (j := j) (d := d) (b1 := b1) (b2 := b2) hcase HGD.out⟩, HO1.out.trans ho⟩
theorem jdo_torn {w : World} {j d b1 b2 rj r N : Nat} {on : Int → Sec} {c : Int → Option Sec} (h : PairJ w j d b1 b2 rj r N on c) (ga : Option Addr) (gl gc : Nat) (g : Jo.Gr) (rs : Bool) (st : Int) (a : Option Addr) (len cap : Nat) (zs : List Int) (hG : IsG0 w ga gl g) (hgc : gl ≤ gc) (hZ : ∀ W, Out (Trio b1 b2 r) w W → IsZ W a len zs) :
    Calls Try.prog 12 #[pB j, pB rj, .agg #[.int .i64 2, .slice ga gl gc, .bool rs, .int .i64 st, .slice a len cap]] w (JDoPost w j d b1 b2 rj r N on c) := by
  obtain ⟨hJ, L, B, hR, hon, hc⟩ := h
  have hvv := PairJ.vw (w := w) (j := j) (d := d) (b1 := b1) (b2 := b2) (rj := rj) (r := r) hon hc
  have hoc := out_cong hJ.2.2 hvv (fewG g)
  by_cases hst : st = 0 ∨ st = 1
  · have hlc := fun k hk => left_cong (L := L) (on := on) hJ.2.2 hvv (fun k hk => by rw [hon k hk, onL_at]) (fewG g) zs k hk
    cases rs with
    | false =>
      refine jdo_tornG hJ hR hon hc ga gl gc g false st a len cap zs hG hgc hZ (outA (vw on c) N (fewG g)) (tornAF (vw on c) on N (fewG g) st zs) (fun W q m p hW hg hz => ?_) (fun W q m p hW hg hz => ?_) (fun h0 hg => (good_all hJ (fewG g) st zs hg).2.2.1 h0)
      · rcases hst with rfl | rfl
        · exact (torn_a0 hW q m p _ hg a len cap zs hz).mono fun e w' hp => ps_torn hW hp
        · exact (torn_a1 hW q m p _ hg a len cap zs hz).mono fun e w' hp => ps_torn hW hp
      · refine (rTorn_a hW q m p _ hg st hst a len cap zs hz).mono fun e w' hp => ?_
        have h1 := rs_app hW hp
        rw [← hoc.1] at h1
        refine ⟨h1.1, ?_, h1.2.2⟩
        obtain ⟨L', B', h2, h3⟩ := h1.2.1
        refine ⟨L', B', h2, ?_⟩
        rcases h3 with h3 | ⟨h3, h4, h5⟩
        · exact .inl h3
        · exact .inr ⟨h3, h4, fun k hk => by rw [h5 k hk]; exact ((hlc k hk).2.2.1 st hst).symm⟩
    | true =>
      refine jdo_tornG hJ hR hon hc ga gl gc g true st a len cap zs hG hgc hZ (outR (vw on c) N (fewG g)) (tornRF (vw on c) on N (fewG g) st zs) (fun W q m p hW hg hz => ?_) (fun W q m p hW hg hz => ?_) (fun h0 hg => (good_all hJ (fewG g) st zs hg).2.2.2 h0)
      · rcases hst with rfl | rfl
        · exact (torn_r0 hW q m p _ hg a len cap zs hz).mono fun e w' hp => ps_tornR hW hp
        · exact (torn_r1 hW q m p _ hg a len cap zs hz).mono fun e w' hp => ps_tornR hW hp
      · refine (rTorn_r hW q m p _ hg st hst a len cap zs hz).mono fun e w' hp => ?_
        have h1 := rs_rst hW hp
        rw [← hoc.2] at h1
        refine ⟨h1.1, ?_, h1.2.2⟩
        obtain ⟨L', B', h2, h3⟩ := h1.2.1
        refine ⟨L', B', h2, ?_⟩
        rcases h3 with h3 | ⟨h3, h4, h5⟩
        · exact .inl h3
        · exact .inr ⟨h3, h4, fun k hk => by rw [h5 k hk]; exact ((hlc k hk).2.2.2 st hst).symm⟩
  · refine jdo_tornG hJ hR hon hc ga gl gc g rs st a len cap zs hG hgc hZ 2 on (fun W q m p hW hg hz => ?_) (fun W q m p hW hg hz => ?_) (fun h0 _ => absurd h0 (by decide))
    · exact (torn_step j rs st q a m p len cap W (fun e => hst (.inl e)) (fun e => hst (.inr e))).mono fun e w' hp => ⟨hp.1, ⟨on, c, by rw [hp.2]; exact hW, .inl ⟨by decide, rfl, rfl⟩⟩, by rw [hp.2]; exact Out.refl _ _⟩
    · exact (rTorn_step rj rs st q a m p len cap W (fun e => hst (.inl e)) (fun e => hst (.inr e))).mono fun e w' hp => ⟨hp.1, ⟨L, B, by rw [hp.2]; exact hW, .inl ⟨by decide, rfl, rfl⟩⟩, by rw [hp.2]; exact Out.refl _ _⟩
theorem jdo_c {w : World} {j d b1 b2 rj r N : Nat} {on : Int → Sec} {c : Int → Option Sec} (h : PairJ w j d b1 b2 rj r N on c) (x : De) (hG : IsG0 w x.ga x.gl x.g) (hgc : x.gl ≤ x.gc) (hZ : ∀ W, Out (Trio b1 b2 r) w W → IsZ W x.a x.len x.zs) :
    Calls Try.prog 12 #[pB j, pB rj, x.val] w (JDoPost w j d b1 b2 rj r N on c) := by
  obtain ⟨k, ga, gl, gc, g, rs, st, a, len, cap, zs⟩ := x
  show Calls Try.prog 12 #[pB j, pB rj, .agg #[.int .i64 k, .slice ga gl gc, .bool rs, .int .i64 st, .slice a len cap]] w (JDoPost w j d b1 b2 rj r N on c)
  by_cases h0 : k = 0
  · subst h0; exact jdo_add h ga gl gc g rs st a len cap hG hgc
  · by_cases h1 : k = 1
    · subst h1; exact jdo_set h ga gl gc g rs st a len cap hG hgc
    · by_cases h2 : k = 2
      · subst h2; exact jdo_torn h ga gl gc g rs st a len cap zs hG hgc hZ
      · exact jdo_other h k h0 h1 h2 ga gl gc g rs st a len cap hG hgc
end Go.Proofs.Ytfmkgflhgapeoab
namespace Go.Proofs.Ytfmkgflhgapeoab
open Go.RowKit Go.ChangeShapes Go.WideShapes Go.ChangeAt Go.Maps
set_option linter.unusedVariables false
set_option linter.unusedSimpArgs false
theorem groupsF_ok {t : Int} : ∀ (m : Nat) (n : Int) (ss : List (List Int)), (∀ s ∈ ss, Jo.Sct s) → ∀ g ∈ Jo.groupsF t m n ss, Jo.okG g = true ∧ ∀ p ∈ g, Jo.Bytes p
  | 0, n, ss, _, g, hg => by simp [Jo.groupsF] at hg
  | m + 1, n, ss, hss, g, hg => by
    unfold Jo.groupsF at hg
    cases hr : Jo.readF t n ss with
    | none => rw [hr] at hg; simp at hg
    | some g' =>
      rw [hr] at hg
      simp only at hg
      rcases List.mem_cons.1 hg with rfl | hg
      · obtain ⟨⟨ho, _⟩, hb⟩ := Jo.of_read hr hss
        exact ⟨ho, hb⟩
      · exact groupsF_ok m (n + 1) _ (fun s hs => hss s (List.mem_of_mem_drop hs)) g hg
theorem grps_ok {v : Int → Sec} (hs : ∀ i, Jo.Sct (v i)) (N : Nat) : ∀ g ∈ grps v N, Jo.okG g = true ∧ ∀ p ∈ g, Jo.Bytes p := by
  unfold grps allG
  exact groupsF_ok _ _ _ (secs_sct hs _ _)
theorem guardA5 : Try.prog.eqGuardType Try.prog.depth 30 = false := by kernel_rfl
/-- 's != u' of like sectors, as arrays. -/
theorem wpList_neqA (w : World) {ops : Array Oper} {rest : List Oper} {o : Oper} {a : Act} {Q : Exit → Act → World → Prop} (hg : o.guard = none) (x y : Operand) (t : TypeId) (hop : o.op = .binOp .neq 30 x y t)
    (s : Sec) (hx : a.eval x = secV s) (hy : a.eval y = secV s) (hs : IsSec s) (h : wpList Try.prog ops Q rest (a.put o.dst (.bool false)) w) : wpList Try.prog ops Q (o :: rest) a w := by
  refine wpList_plain hg fun K' hK' => ?_
  have e1 := secEq (P := Try.prog) w 30 5 Try.underlying30 Try.underlying5 size8 hs hs
  have e2 : (eqGuard .neq 30 x y (secV s) (secV s)).run Try.prog w = .ok () w := run_eqGuard_agg w .neq 30 x y _ _ guardA5
  have e3 : (binOp .neq 30 (secV s) (secV s)).run Try.prog w = .ok (.bool false) w := by
    have e4 := e1
    unfold secV at e4 ⊢
    rw [run_eql_struct] at e4
    rw [run_neq_struct]
    cases hR : (Op.equalIn 10000 30 (.agg (s.map by8).toArray) (.agg (s.map by8).toArray)).run Try.prog w with
    | ok b w' =>
      rw [hR] at e4
      simp [Result.andThen] at e4 ⊢
      exact e4
    | halt h w' =>
      rw [hR] at e4
      simp [Result.andThen] at e4
  unfold Oper.wp
  simp only [execOp, hop, hx, hy, Sem.run_bind, e3, e2, Result.andThen, Sem.run_pure]
  exact hK' _ _ h
set_option maxRecDepth 100000 in
set_option maxHeartbeats 2000000 in
theorem jsame_c {w : World} {j d b1 b2 rj r N : Nat} {on : Int → Sec} {c : Int → Option Sec} (h : PairJ w j d b1 b2 rj r N on c) :
    Calls Try.prog 11 #[pB j, pB rj] w fun e w' => e = .returned (.bool true) ∧ Below w.heap.size w w' := by
  obtain ⟨hJ, L, B, hR, hon, hc⟩ := h
  have hN := hR.two
  have hvv := PairJ.vw (w := w) (j := j) (d := d) (b1 := b1) (b2 := b2) (rj := rj) (r := r) hon hc
  have hV := fun i => hJ.2.1.sec i
  obtain ⟨q1, q2, q3, q4, q5⟩ := hold_cong hJ.2.2 hvv
  have DC := hid (jdisk_c hJ)
  have RD : Hid (∀ W, Below w.heap.size w W → Calls Try.prog 23 #[pB rj] W fun e w' => ∃ r', e = .returned (pD r') ∧ IsR w' r' N L B ∧ W.heap.size ≤ r' ∧ Below W.heap.size W w') := fun W hW => rjdisk_c (hR.later hW)
  have F1 : Hid (∀ W, Below w.heap.size w W → Calls Try.prog 26 #[pB j] W fun e w' => e = .returned (.int .i64 (((arSt (vw on c) N + asz N : Nat) : Int) - (arEnd (vw on c) N : Nat))) ∧ Below W.heap.size W w') := fun W hW => free_c (hJ.later hW)
  have F2 : Hid (∀ W, Below w.heap.size w W → Calls Try.prog 27 #[pB rj] W fun e w' => e = .returned (.int .i64 (((arSt (vw on c) N + asz N : Nat) : Int) - (arEnd (vw on c) N : Nat))) ∧ Below W.heap.size W w') := fun W hW => by
    rw [q3, q4]; exact rfree_c (hR.later hW)
  have G1 : Hid (∀ W, Below w.heap.size w W → Calls Try.prog 19 #[pB j] W fun e w' => ∃ v, e = .returned v ∧ PGs W.heap.size w' v (grps (vw on c) N) ∧ Below W.heap.size W w') := fun W hW => groups_all_c (hJ.later hW)
  have G2 : Hid (∀ W, Below w.heap.size w W → Calls Try.prog 29 #[pB rj] W fun e w' => ∃ v, e = .returned v ∧ PGs W.heap.size w' v (grps (vw on c) N) ∧ Below W.heap.size W w') := fun W hW => by
    rw [q2]; exact rgroups_c (hR.later hW)
  have hgl := grps_len (vw on c) N
  have hgo := grps_ok hV N
  have hgs : ∀ g ∈ grps (vw on c) N, g.length ≤ 100000 := fun g hg => by have := (Jo.ok_iff.1 (hgo g hg).1).2.1; omega
  have HGS := hid hgs
  have haz : asz N ≤ 1023 := by unfold asz; omega
  generalize grps (vw on c) N = gl at *
  generalize (((arSt (vw on c) N + asz N : Nat) : Int) - (arEnd (vw on c) N : Nat)) = fr at *
  have HVS : Hid (∀ k : Nat, k < N → IsSec ((c k).getD (on k)) ∧ (bufAt B k).getD (L.getD k zsec) = (c (k : Int)).getD (on (k : Int))) := fun k hk => ⟨sct_sec (hV k), by rw [hc, hon k hk]⟩
  have zz := zlit
  have zn : ¬ zsec = [] := by decide
  clear hJ hR hon hc hvv hV q1 q2 q3 q4 q5 hgo hgs
  go_enter Try.func11, Try.ntmps11
  go_wp2_with (first
    | (go_at_call 22; refine DC.out.mono ?_; rintro _ w1 ⟨d', p1, p2, rfl, hD1, hl1, hb1⟩; (have HB1 := hid hb1); have HD1 := hid hD1; clear hb1 hD1)
    | (go_at_call 23; refine (RD.out _ HB1.out).mono ?_; rintro _ w2 ⟨r', rfl, hR2, hl2, hb2⟩; (have HB2 := hid (HB1.out.trans (hb2.mono HB1.out.size))); (have HD2 := hid (HD1.out.later hb2)); have HR2 := hid hR2; clear hb2 hR2))
  have SD : Hid (∀ W, Below w2.heap.size w2 W → Calls Try.prog 14 #[pD d'] W fun e w' => e = .returned (.int .i64 N) ∧ w' = W) := fun W hW => size_c (HD2.out.later hW)
  have SR : Hid (∀ W, Below w2.heap.size w2 W → Calls Try.prog 16 #[pD r'] W fun e w' => e = .returned (.int .i64 N) ∧ w' = W) := fun W hW => rsize_c (HR2.out.later hW)
  go_loopw [7] (fun k wr => ∃ m : Nat, m ≤ N ∧ k = .int .i64 m ∧ Hid (Below w2.heap.size w2 wr)) (fun k _ => (N - intOf k).toNat)
  case atStart => exact ⟨0, by omega, rfl, Below.refl _ _⟩
  case round =>
    obtain ⟨m, hm, rfl, HB⟩ := hrel
    by_cases hlt : m < N
    · have hltI : (m : Int) < N := by omega
      obtain ⟨hs, he⟩ := HVS.out m hlt
      have R1 := hid (read_c (HD2.out.later HB.out) m (by omega) (by omega))
      have R2 : Hid (∀ W, Below wr.heap.size wr W → Calls Try.prog 25 #[pD r', .int .i64 m] W fun e w' => e = .returned (.tuple #[secV ((c (m : Int)).getD (on (m : Int))), .int .i64 0]) ∧ Below W.heap.size W w') := fun W hW => by
        have := rread_c ((HR2.out.later HB.out).later hW) m hlt
        rw [he] at this; exact this
      generalize (c (m : Int)).getD (on (m : Int)) = s at *
      have hs32 := hs.1
      clear he
      go_wp2_with (first
        | (go_at_call 16; refine (SR.out _ HB.out).mono ?_; rintro _ w3 ⟨rfl, hw3⟩; rw [hw3]; clear hw3)
        | (go_at_call 24; refine R1.out.mono ?_; rintro _ w4 ⟨rfl, hb4⟩; (have B4 : Hid (Below wr.heap.size wr (w4.alloc (.cells (s.map by8).toArray 34))) := hb4.alloc hb4.size _); clear hb4)
        | (refine wpList_storeS w4 rfl _ _ _ rfl sizeS _ rfl (by simp) s rfl hs32 _ (by simp; decide) ?_)
        | (go_at_call 25; refine (R2.out _ B4.out).mono ?_; rintro _ w5 ⟨rfl, hb5⟩; (have K5 : Hid (w5.heap[w4.heap.size]? = some (.cells (s.map by8).toArray 34)) := (hb5.block _ (by simp)).trans (heap_alloc_new w4 _)); (have B5 : Hid (Below wr.heap.size wr (w5.alloc (.cells (s.map by8).toArray 36))) := (B4.out.trans (hb5.mono B4.out.size)).alloc (Nat.le_trans B4.out.size hb5.size) _); (have l45 : w4.heap.size < w5.heap.size := by have := hb5.size; simp at this; omega); clear hb5)
        | (refine wpList_storeS w5 rfl _ _ _ rfl sizeR _ rfl (by simp) s rfl hs32 _ (by simp; decide) ?_)
        | (refine wpList_loadS _ rfl _ _ rfl sizeS Try.underlying34 _ rfl s hs32 _ _ ((Below.heap_alloc _ _ _ l45).trans K5.out) ?_)
        | (refine wpList_loadS _ rfl _ _ rfl sizeR Try.underlying36 _ rfl s hs32 _ _ (heap_alloc_new w5 _) ?_)
        | (refine wpList_neqA _ rfl _ _ _ rfl s rfl rfl hs ?_))
      go_roundw
      case rel => exact ⟨m + 1, by omega, by go_num, HB.out.trans (B5.out.mono HB.out.size)⟩
      case measure => simp [intOf]; omega
    · have em : m = N := by omega
      have hge : ¬ (m : Int) < N := by omega
      have HB9 := hid (HB2.out.trans (HB.out.mono HB2.out.size))
      go_wp2_with (first
        | (go_at_call 16; refine (SR.out _ HB.out).mono ?_; rintro _ w3 ⟨rfl, hw3⟩; rw [hw3]; clear hw3)
        | (go_at_call 14; refine (SD.out _ HB.out).mono ?_; rintro _ w3 ⟨rfl, hw3⟩; rw [hw3]; clear hw3)
        | (go_at_call 26; refine (F1.out _ HB9.out).mono ?_; rintro _ w4 ⟨rfl, hb4⟩; (have HB4 := hid (HB9.out.trans (hb4.mono HB9.out.size))); clear hb4)
        | (go_at_call 27; refine (F2.out _ HB4.out).mono ?_; rintro _ w5 ⟨rfl, hb5⟩; (have HB5 := hid (HB4.out.trans (hb5.mono HB4.out.size))); clear hb5)
        | (go_at_call 19; refine (G1.out _ HB5.out).mono ?_; rintro _ w6 ⟨v6, rfl, hP6, hb6⟩; (have HB6 := hid (HB5.out.trans (hb6.mono HB5.out.size))); (obtain ⟨a6, c6, hv6, hG6, _⟩ := hP6.isGs (by omega) HGS.out); subst hv6; have HG6 := hid hG6; clear hb6 hP6 hG6)
        | (go_at_call 29; refine (G2.out _ HB6.out).mono ?_; rintro _ w7 ⟨v7, rfl, hP7, hb7⟩; (have HB7 := hid (HB6.out.trans (hb7.mono HB6.out.size))); (obtain ⟨a7, c7, hv7, hG7, _⟩ := hP7.isGs (by omega) HGS.out); subst hv7; (have SC := hid (rsame_eq a6 a7 _ c6 c7 gl w7 (HG6.out.later hb7) hG7)); clear hb7 hP7 hG7)
        | (go_at_call 28; refine SC.out.mono ?_; rintro _ w8 ⟨rfl, hb8⟩; have HB8 := hid (HB7.out.trans (hb8.mono HB7.out.size)); clear hb8))
      go_ret
      exact ⟨rfl, HB8.out⟩
end Go.Proofs.Ytfmkgflhgapeoab
namespace Go.Proofs.Ytfmkgflhgapeoab
open Go.RowKit Go.ChangeShapes Go.WideShapes Go.ChangeAt Go.Maps
set_option linter.unusedVariables false
set_option linter.unusedSimpArgs false
end Go.Proofs.Ytfmkgflhgapeoab
