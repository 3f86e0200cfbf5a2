/-
  A caller and a callee, and the document's: what is alike of them.
-/
import Derived.Test.YtjgpolaogneoaaaRRk
namespace Go.Proofs.Ytjgpolaogneoaaa
open Go.RowKit Go.ChangeShapes Go.WideShapes Go.ChangeAt
set_option linter.unusedVariables false
set_option linter.unusedSimpArgs false
set_option maxRecDepth 100000
/-- The two callers say the same. -/
def RelC (C R : Cl) : Prop := C.cl = R.cl ∧ C.ep = R.ep ∧ C.num = R.num ∧ C.uw = R.uw ∧ (C.uw = true → C.body = R.body ∧ C.sends = R.sends ∧ C.lst = R.lst)
def CWf (C : Cl) (n : Nat) : Prop := C.cl = 2 ∧ C.ep = 3 ∧ (0 ≤ C.num ∧ C.num ≤ n) ∧ (0 ≤ C.sends ∧ C.sends ≤ n) ∧ (0 ≤ C.lst ∧ C.lst < 18446744073709551616) ∧ C.body.size ≤ 16384
theorem CWf.wf {C : Cl} {n : Nat} (h : CWf C n) (hn : n ≤ 100) : C.Wf := by
  obtain ⟨h1, h2, h3, h4, h5, h6⟩ := h
  exact ⟨by omega, by omega, by omega, by omega, h5, h6⟩
theorem CWf.up {C : Cl} {n : Nat} (h : CWf C n) : CWf C (n + 1) := by
  obtain ⟨h1, h2, h3, h4, h5, h6⟩ := h
  exact ⟨h1, h2, by omega, by omega, h5, h6⟩
theorem rel_call {C R : Cl} (h : RelC C R) (s : ByteArray) : callE C s = callE R s ∧ RelC (callS C s) (callS R s) := by
  obtain ⟨h1, h2, h3, h4, h5⟩ := h
  have e : callE C s = callE R s := by unfold callE; rw [h4, h3]
  refine ⟨e, ?_⟩
  unfold callS
  rw [e]
  by_cases hz : callE R s = 0
  · rw [if_pos hz, if_pos hz]
    exact ⟨h1, h2, by simp only; omega, rfl, fun _ => ⟨rfl, rfl, rfl⟩⟩
  · rw [if_neg hz, if_neg hz]
    exact ⟨h1, h2, h3, h4, h5⟩
theorem cwf_call {C : Cl} {n : Nat} (h : CWf C n) (s : ByteArray) : CWf (callS C s) (n + 1) := by
  unfold callS
  by_cases hz : callE C s = 0
  · rw [if_pos hz]
    obtain ⟨h1, h2, h3, h4, h5, h6⟩ := h
    refine ⟨h1, h2, by simp only; omega, by simp only; omega, by simp only; omega, ?_⟩
    unfold callE at hz
    simp only
    by_cases hs : 16384 < s.size
    · simp [hs] at hz
      split at hz <;> omega
    · omega
  · rw [if_neg hz]
    exact h.up
theorem rel_due {C R : Cl} (h : RelC C R) (now : Int) : tickB C now = tickB R now := by
  obtain ⟨h1, h2, h3, h4, h5⟩ := h
  unfold tickB
  cases hu : C.uw with
  | false => rw [← h4, hu]; rfl
  | true =>
    obtain ⟨e1, e2, e3⟩ := h5 hu
    rw [← h4, hu]
    unfold dueB
    rw [e2, e3]
theorem rel_tick {C R : Cl} (h : RelC C R) (now : Int) : tickP C now = tickP R now ∧ RelC (tickS C now) (tickS R now) := by
  have e := rel_due h now
  have h' := h
  obtain ⟨h1, h2, h3, h4, h5⟩ := h
  unfold tickP tickS
  rw [e]
  cases ht : tickB R now with
  | false => exact ⟨rfl, h'⟩
  | true =>
    have hu : C.uw = true := by
      rw [← e] at ht
      unfold tickB at ht
      cases hc : C.uw with
      | true => rfl
      | false => rw [hc] at ht; cases ht
    obtain ⟨e1, e2, e3⟩ := h5 hu
    refine ⟨by simp only [if_pos]; rw [h1, h2, h3, e1], ?_⟩
    simp only [if_pos]
    exact ⟨h1, h2, h3, h4, fun _ => ⟨e1, by simp only; omega, rfl⟩⟩
theorem cwf_tick {C : Cl} {n : Nat} (h : CWf C n) (now : Int) (n0 : 0 ≤ now) (n1 : now < 18446744073709551616) : CWf (tickS C now) (n + 1) := by
  unfold tickS
  cases tickB C now with
  | false => exact h.up
  | true =>
    obtain ⟨h1, h2, h3, h4, h5, h6⟩ := h
    exact ⟨h1, h2, by simp only [if_pos]; omega, by simp only [if_pos]; omega, by simp only [if_pos]; omega, h6⟩
theorem tick_wf {C : Cl} {n : Nat} (h : CWf C n) (hn : n ≤ 100) (now : Int) : Fr.Wf (tickP C now) ∧ (tickP C now).b.size ≤ 16384 := by
  unfold tickP
  obtain ⟨h1, h2, h3, h4, h5, h6⟩ := h
  cases tickB C now with
  | false => exact (show Fr.Wf zpk ∧ zpk.b.size ≤ 16384 from ⟨⟨by decide, by decide, by decide, by decide, by decide⟩, by decide⟩)
  | true => exact ⟨⟨by simp only [if_pos]; omega, by simp only [if_pos]; omega, by simp only [if_pos]; omega, by simp only [if_pos]; omega, by simp only [if_pos]; omega⟩, h6⟩
theorem rel_take {C R : Cl} (h : RelC C R) (p : Fr.Pk) : takeB C p = takeB R p ∧ takeT C p = takeT R p ∧ RelC (takeS C p) (rtakeS R p) := by
  have h' := h
  obtain ⟨h1, h2, h3, h4, h5⟩ := h
  have e : takeB C p = takeB R p := by unfold takeB awB; rw [h1, h2, h3, h4]
  refine ⟨e, by unfold takeT; rw [e], ?_⟩
  unfold takeS rtakeS
  rw [e]
  cases takeB R p with
  | false => exact h'
  | true => exact ⟨h1, h2, h3, rfl, fun hh => by cases hh⟩
theorem cwf_done {C : Cl} {n : Nat} (h : CWf C n) : CWf ⟨C.cl, C.ep, C.num, false, ⟨#[]⟩, 0, 0⟩ (n + 1) := by
  obtain ⟨h1, h2, h3, h4, h5, h6⟩ := h
  exact ⟨h1, h2, by simp only; omega, by simp only; omega, by simp only; omega, (show (⟨#[]⟩ : ByteArray).size ≤ 16384 by decide)⟩
theorem cwf_rdone {C : Cl} {n : Nat} (h : CWf C n) : CWf (rdoneS C) (n + 1) := by
  obtain ⟨h1, h2, h3, h4, h5, h6⟩ := h
  exact ⟨h1, h2, by unfold rdoneS; simp only; omega, by unfold rdoneS; simp only; omega, h5, h6⟩
theorem cwf_take {C : Cl} {n : Nat} (h : CWf C n) (p : Fr.Pk) : CWf (takeS C p) (n + 1) := by
  unfold takeS
  cases takeB C p with
  | false => exact h.up
  | true => exact cwf_done h
theorem cwf_rtake {C : Cl} {n : Nat} (h : CWf C n) (p : Fr.Pk) : CWf (rtakeS C p) (n + 1) := by
  unfold rtakeS
  cases takeB C p with
  | false => exact h.up
  | true => exact cwf_rdone h
theorem rel_cancel {C R : Cl} (h : RelC C R) : cancelE C = cancelE R ∧ RelC (cancelS C) (rcancelS R) := by
  have h' := h
  obtain ⟨h1, h2, h3, h4, h5⟩ := h
  unfold cancelE cancelS rcancelS
  rw [h4]
  refine ⟨rfl, ?_⟩
  cases R.uw with
  | false => exact h'
  | true => exact ⟨h1, h2, h3, rfl, fun hh => by cases hh⟩
theorem cwf_cancel {C : Cl} {n : Nat} (h : CWf C n) : CWf (cancelS C) (n + 1) := by
  unfold cancelS
  cases C.uw with
  | false => exact h.up
  | true => exact cwf_done h
theorem cwf_rcancel {C : Cl} {n : Nat} (h : CWf C n) : CWf (rcancelS C) (n + 1) := by
  unfold rcancelS
  cases C.uw with
  | false => exact h.up
  | true => exact cwf_rdone h
theorem wf_updK {F : Nat → Tk} (h : ∀ i, (F i).Wf) (j : Nat) {t : Tk} (ht : t.Wf) : ∀ i, (updK F j t i).Wf := fun i => by
  unfold updK
  split
  · exact ht
  · exact h i
theorem wf_ktS {F : Nat → Tk} (h : ∀ i, (F i).Wf) {p : Fr.Pk} (hp : Fr.Wf p) : ∀ i, (ktS F p i).Wf := by
  unfold ktS
  split
  · exact wf_updK h _ ⟨by simp only; omega, hp.2.2.2.1, hp.2.2.2.2, (show (⟨#[]⟩ : ByteArray).size ≤ 16384 by decide)⟩
  · exact h
theorem wf_rpS {F : Nat → Tk} (h : ∀ i, (F i).Wf) (n : Int) (b : ByteArray) : ∀ i, (rpS F n b i).Wf := by
  unfold rpS
  split
  · rename_i he
    obtain ⟨_, h2, h3, _⟩ := h n.toNat
    refine wf_updK h _ ⟨by simp only; omega, h2, h3, ?_⟩
    unfold rpE at he
    simp only
    split at he
    · cases he
    · split at he
      · cases he
      · split at he
        · cases he
        · omega
  · exact h
/-- The pair in memory. -/
def BoAt (w : World) (B c r s t : Nat) (l : Fr.Pk) : Prop := w.heap[B]? = some (.cells #[pC c, pC r, pC s, pC t, .int .u8 l.k, .int .u8 l.f, .int .u8 l.t, .int .u32 l.e, .int .u32 l.s, .string l.b] 56 (0, 0))
theorem BoAt.cells {w : World} {B c r s t : Nat} {l : Fr.Pk} (h : BoAt w B c r s t l) : w.cell? ⟨B, 0, none⟩ = some (pC c) ∧ w.cell? ⟨B, 1, none⟩ = some (pC r) ∧ w.cell? ⟨B, 2, none⟩ = some (pC s) ∧ w.cell? ⟨B, 3, none⟩ = some (pC t) ∧ w.cell? ⟨B, 4, none⟩ = some (.int .u8 l.k) ∧ w.cell? ⟨B, 5, none⟩ = some (.int .u8 l.f) ∧ w.cell? ⟨B, 6, none⟩ = some (.int .u8 l.t) ∧ w.cell? ⟨B, 7, none⟩ = some (.int .u32 l.e) ∧ w.cell? ⟨B, 8, none⟩ = some (.int .u32 l.s) ∧ w.cell? ⟨B, 9, none⟩ = some (.string l.b) ∧ ∀ o, w.frozen? ⟨B, o, none⟩ = false := by
  unfold BoAt at h
  refine ⟨?_, ?_, ?_, ?_, ?_, ?_, ?_, ?_, ?_, ?_, fun o => ?_⟩
  all_goals simp [World.cell?, World.frozen?, h]
theorem BoAt.out {S : Nat → Prop} {w w' : World} {B c r s t : Nat} {l : Fr.Pk} (h : BoAt w B c r s t l) (ho : Ou S w w') (hS : ¬ S B) : BoAt w' B c r s t l := by
  unfold BoAt at *; rw [ho.block B (lt_blkC h) hS]; exact h
theorem BoAt.later {w w' : World} {B c r s t : Nat} {l : Fr.Pk} (h : BoAt w B c r s t l) (hb : Below w.heap.size w w') : BoAt w' B c r s t l := h.out (S := fun _ => False) (Ou.of hb) id
theorem BoAt.lt {w : World} {B c r s t : Nat} {l : Fr.Pk} (h : BoAt w B c r s t l) : B < w.heap.size := lt_blkC h
structure Bo (w : World) (B c r s t : Nat) (l : Fr.Pk) (C R : Cl) (F : Nat → Tk) (n : Nat) : Prop where
  at' : BoAt w B c r s t l
  hc : IsC 73 w c C
  hr : IsC 86 w r R
  hs : IsK w s F
  ht : IsRK w t F
  rel : RelC C R
  wc : CWf C n
  wr : CWf R n
  wf : ∀ i, (F i).Wf
  wl : Fr.Wf l ∧ l.b.size ≤ 16384
def Five (B c r s t : Nat) (k : Nat) : Prop := k = B ∨ k = c ∨ k = r ∨ k = s ∨ k = t
theorem Bo.later {w w' : World} {B c r s t : Nat} {l : Fr.Pk} {C R : Cl} {F : Nat → Tk} {n : Nat} (h : Bo w B c r s t l C R F n) (hb : Below w.heap.size w w') : Bo w' B c r s t l C R F n :=
  ⟨h.at'.later hb, h.hc.later hb, h.hr.later hb, h.hs.later hb, h.ht.later hb, h.rel, h.wc, h.wr, h.wf, h.wl⟩
theorem blk_ne {w : World} {a b : Nat} {x y : Array Value} {t u : TypeId} (h : w.heap[a]? = some (.cells x t (0, 0))) (k : w.heap[b]? = some (.cells y u (0, 0))) (hn : t ≠ u) : a ≠ b := fun e => by
  subst e; rw [h] at k; cases k; exact hn rfl
theorem Bo.ne {w : World} {B c r s t : Nat} {l : Fr.Pk} {C R : Cl} {F : Nat → Tk} {n : Nat} (h : Bo w B c r s t l C R F n) : (B ≠ c ∧ B ≠ r ∧ B ≠ s ∧ B ≠ t) ∧ (c ≠ r ∧ c ≠ s ∧ c ≠ t) ∧ (r ≠ s ∧ r ≠ t) ∧ s ≠ t :=
  ⟨⟨blk_ne h.at' h.hc (by decide), blk_ne h.at' h.hr (by decide), blk_ne h.at' h.hs (by decide), blk_ne h.at' h.ht (by decide)⟩, ⟨blk_ne h.hc h.hr (by decide), blk_ne h.hc h.hs (by decide), blk_ne h.hc h.ht (by decide)⟩, ⟨blk_ne h.hr h.hs (by decide), blk_ne h.hr h.ht (by decide)⟩, blk_ne h.hs h.ht (by decide)⟩
theorem Bo.lts {w : World} {B c r s t : Nat} {l : Fr.Pk} {C R : Cl} {F : Nat → Tk} {n : Nat} (h : Bo w B c r s t l C R F n) : B < w.heap.size ∧ c < w.heap.size ∧ r < w.heap.size ∧ s < w.heap.size ∧ t < w.heap.size := ⟨h.at'.lt, h.hc.lt, h.hr.lt, h.hs.lt, h.ht.lt⟩
/-- Behind a change of one of the five. -/
theorem Bo.setC {w w' : World} {B c r s t : Nat} {l : Fr.Pk} {C R C' : Cl} {F : Nat → Tk} {n : Nat} (h : Bo w B c r s t l C R F n) (ho : Ou (fun k => k = c) w w') (hC : IsC 73 w' c C') : BoAt w' B c r s t l ∧ IsC 86 w' r R ∧ IsK w' s F ∧ IsRK w' t F := by
  obtain ⟨⟨a1, a2, a3, a4⟩, ⟨a5, a6, a7⟩, ⟨a8, a9⟩, a10⟩ := h.ne
  exact ⟨h.at'.out ho a1, h.hr.out ho a5.symm, h.hs.out ho a6.symm, h.ht.out ho a7.symm⟩
def DoP (w : World) (B c r s t n : Nat) (e : Ending) (w' : World) : Prop :=
  e = .returned (.bool true) ∧ (∃ l C R F, Bo w' B c r s t l C R F (n + 1)) ∧ Ou (Five B c r s t) w w'
end Go.Proofs.Ytjgpolaogneoaaa
