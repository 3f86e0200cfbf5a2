/-
  What the document's cache is, plainly: rows of what is at hand and of what is dear; that it and the program's turn alike.
-/
import Derived.Test.YtilcbkejmpfnfabCPu
namespace Go.Proofs.Ytilcbkejmpfnfab
open Go.RowKit Go.ChangeShapes Go.WideShapes Go.ChangeAt Go.Maps Go.Shelf
set_option linter.unusedVariables false
set_option linter.unusedSimpArgs false
set_option maxRecDepth 100000
/-- The document's cache: how many may be at hand; what is at hand as it was used, and whether it is dirty; what is dear. -/
structure Rc where
  most : Int
  L : List (Int × Bool)
  H : List (Int × Int)
def Rc.fid (r : Rc) (i : Nat) : Int := (r.L.getD i (0, false)).1
def Rc.dty (r : Rc) (i : Nat) : Bool := (r.L.getD i (0, false)).2
def dearL (H : List (Int × Int)) (x : Int) : Int := ((H.find? (fun p => p.1 == x)).map (·.2)).getD 0
def Rc.dear (r : Rc) (x : Int) : Int := dearL r.H x
def Rc.ix (r : Rc) (f : Int) : Nat := r.L.findIdx (fun p => p.1 == f)
/-- One's place, or -1. -/
def Rc.at (r : Rc) (f : Int) : Int := if r.ix f < r.L.length then (r.ix f : Int) else -1
theorem Rc.fid_eq {r : Rc} {i : Nat} (h : i < r.L.length) : r.fid i = r.L[i].1 := by unfold Rc.fid; simp [List.getD, List.getElem?_eq_getElem h]
theorem Rc.dty_eq {r : Rc} {i : Nat} (h : i < r.L.length) : r.dty i = r.L[i].2 := by unfold Rc.dty; simp [List.getD, List.getElem?_eq_getElem h]
theorem Rc.at_is {r : Rc} {f : Int} {i : Nat} (h : i < r.L.length) (hf : r.fid i = f) (hn : ∀ j, j < i → r.fid j ≠ f) : r.at f = (i : Int) ∧ r.ix f = i := by
  have : r.ix f = i := by
    unfold Rc.ix
    rw [List.findIdx_eq h]
    refine ⟨by rw [Rc.fid_eq h] at hf; simp [hf], fun j hj => ?_⟩
    have := hn j hj
    rw [Rc.fid_eq (by omega)] at this
    simpa using this
  exact ⟨by unfold Rc.at; rw [this, if_pos h], this⟩
theorem Rc.at_no {r : Rc} {f : Int} (hn : ∀ j, j < r.L.length → r.fid j ≠ f) : r.at f = -1 := by
  unfold Rc.at
  rw [if_neg]
  intro h
  have h2 := List.findIdx_getElem (w := h)
  have := hn _ h
  rw [Rc.fid_eq h] at this
  simp at h2
  exact this h2
theorem Rc.ix_is {r : Rc} {f : Int} (h : r.ix f < r.L.length) : r.fid (r.ix f) = f := by
  have h2 := List.findIdx_getElem (w := h)
  rw [Rc.fid_eq h]
  simp at h2
  exact h2
/-- The place of the one that would go, of the first k; -1: there is none. -/
def Rc.bst (r : Rc) : Nat → Int
  | 0 => -1
  | k + 1 => if r.dty k = false ∧ (r.bst k < 0 ∨ r.dear (r.fid k) < r.dear (r.fid (r.bst k).toNat)) then (k : Int) else r.bst k
def Rc.nx (r : Rc) : Int := if r.bst r.L.length < 0 then 0 else r.fid (r.bst r.L.length).toNat
theorem Rc.bst_inv (r : Rc) : ∀ k, (r.bst k = -1 ∧ ∀ j, j < k → r.dty j = true) ∨ (∃ b : Nat, r.bst k = (b : Int) ∧ b < k ∧ r.dty b = false ∧ ∀ j, j < k → r.dty j = false → r.dear (r.fid b) < r.dear (r.fid j) ∨ r.dear (r.fid b) = r.dear (r.fid j) ∧ b ≤ j)
  | 0 => .inl ⟨rfl, fun j h => by omega⟩
  | k + 1 => by
    have ih := Rc.bst_inv r k
    by_cases hc : r.dty k = false ∧ (r.bst k < 0 ∨ r.dear (r.fid k) < r.dear (r.fid (r.bst k).toNat))
    · have e : r.bst (k + 1) = (k : Int) := by rw [Rc.bst, if_pos hc]
      refine .inr ⟨k, e, by omega, hc.1, fun j hj hd => ?_⟩
      by_cases hjk : j = k
      · subst hjk; exact .inr ⟨rfl, Nat.le_refl _⟩
      · rcases ih with ⟨e1, h1⟩ | ⟨b, e1, hb, hd1, h1⟩
        · have := h1 j (by omega); rw [this] at hd; cases hd
        · rcases hc.2 with q | q
          · rw [e1] at q; omega
          · rw [e1] at q
            simp at q
            rcases h1 j (by omega) hd with p | p
            · exact .inl (by omega)
            · exact .inl (by omega)
    · have e : r.bst (k + 1) = r.bst k := by rw [Rc.bst, if_neg hc]
      rw [e]
      rcases ih with ⟨e1, h1⟩ | ⟨b, e1, hb, hd1, h1⟩
      · refine .inl ⟨e1, fun j hj => ?_⟩
        by_cases hjk : j = k
        · subst hjk
          cases hd : r.dty j with
          | true => rfl
          | false => exact absurd ⟨hd, .inl (by rw [e1]; decide)⟩ hc
        · exact h1 j (by omega)
      · refine .inr ⟨b, e1, by omega, hd1, fun j hj hd => ?_⟩
        by_cases hjk : j = k
        · subst hjk
          have : ¬ r.dear (r.fid j) < r.dear (r.fid b) := fun q => hc ⟨hd, .inr (by rw [e1]; simpa using q)⟩
          by_cases q : r.dear (r.fid b) = r.dear (r.fid j)
          · exact .inr ⟨q, by omega⟩
          · exact .inl (by omega)
        · exact h1 j (by omega) hd
/-- Both are alike. -/
structure Rl (c : Ca) (r : Rc) : Prop where
  most : r.most = c.most
  mlo : 1 ≤ c.most
  mhi : c.most ≤ 10
  ulo : 0 ≤ c.uses
  rng : ∀ p, p ∈ r.L → 1 ≤ p.1 ∧ p.1 < 4294967296
  mem : ∀ x d, (x, d) ∈ r.L ↔ (c.has x = true ∧ c.dirtyB x = d)
  ord : r.L.Pairwise (fun p q => c.usedAt p.1 < c.usedAt q.1)
  top : ∀ p, p ∈ r.L → c.usedAt p.1 ≤ c.uses
  len : c.m = r.L.length
  few : (r.L.length : Int) ≤ c.most
  hmem : ∀ x n, (x, n) ∈ r.H ↔ c.d x = some n
  hnd : r.H.Pairwise (fun p q => p.1 ≠ q.1)
  hlen : c.k = r.H.length
  hfew : r.H.length ≤ 8
  hrng : ∀ p, p ∈ r.H → (1 ≤ p.1 ∧ p.1 < 4294967296) ∧ 1 ≤ p.2 ∧ p.2 ≤ 100
theorem Rl.nd {c : Ca} {r : Rc} (h : Rl c r) : r.L.Pairwise (fun p q => p.1 ≠ q.1) := h.ord.imp (fun {a b} hab e => by rw [e] at hab; omega)
theorem Rl.at_mem {c : Ca} {r : Rc} (h : Rl c r) {i : Nat} (hi : i < r.L.length) : c.has (r.fid i) = true ∧ c.dirtyB (r.fid i) = r.dty i := by
  have := (h.mem r.L[i].1 r.L[i].2).1 (List.getElem_mem hi)
  rw [Rc.fid_eq hi, Rc.dty_eq hi]
  exact this
theorem Rl.find {c : Ca} {r : Rc} (h : Rl c r) {x : Int} (hx : c.has x = true) : ∃ i, i < r.L.length ∧ r.fid i = x ∧ r.dty i = c.dirtyB x := by
  have := (h.mem x (c.dirtyB x)).2 ⟨hx, rfl⟩
  obtain ⟨i, hi, e⟩ := List.getElem_of_mem this
  exact ⟨i, hi, by rw [Rc.fid_eq hi, e], by rw [Rc.dty_eq hi, e]⟩
theorem Rl.inj {c : Ca} {r : Rc} (h : Rl c r) {i j : Nat} (hi : i < r.L.length) (hj : j < r.L.length) (e : r.fid i = r.fid j) : i = j := by
  rw [Rc.fid_eq hi, Rc.fid_eq hj] at e
  have nd := List.pairwise_iff_getElem.1 h.nd
  rcases Nat.lt_trichotomy i j with q | q | q
  · exact absurd e (nd i j hi hj q)
  · exact q
  · exact absurd e.symm (nd j i hj hi q)
theorem Rl.at_has {c : Ca} {r : Rc} (h : Rl c r) {x : Int} (hx : c.has x = true) : ∃ i : Nat, r.at x = (i : Int) ∧ r.ix x = i ∧ i < r.L.length ∧ r.fid i = x ∧ r.dty i = c.dirtyB x := by
  obtain ⟨i, hi, e, e2⟩ := h.find hx
  obtain ⟨a, b⟩ := Rc.at_is hi e (fun j hj q => by have := h.inj (by omega) hi (q.trans e.symm); omega)
  exact ⟨i, a, b, hi, e, e2⟩
theorem Rl.at_none {c : Ca} {r : Rc} (h : Rl c r) {x : Int} (hx : c.has x = false) : r.at x = -1 := Rc.at_no (fun j hj e => by
  have := (h.at_mem hj).1
  rw [e, hx] at this; cases this)
theorem dearL_mem : ∀ {H : List (Int × Int)}, H.Pairwise (fun p q => p.1 ≠ q.1) → ∀ {x n}, (x, n) ∈ H → dearL H x = n
  | [], _, x, n, h => by cases h
  | p :: H, hp, x, n, h => by
    rw [List.pairwise_cons] at hp
    unfold dearL
    rw [List.find?_cons]
    rcases List.mem_cons.1 h with e | e
    · subst e; simp
    · have := hp.1 _ e
      have h2 : (p.1 == x) = false := by simpa using this
      rw [h2]
      exact dearL_mem hp.2 e
theorem dearL_none {H : List (Int × Int)} {x : Int} (h : ∀ n, (x, n) ∉ H) : dearL H x = 0 := by
  unfold dearL
  rw [List.find?_eq_none.2]
  · rfl
  · rintro ⟨a, b⟩ hp q
    simp at q
    subst q
    exact h _ hp
theorem Rl.dear {c : Ca} {r : Rc} (h : Rl c r) (x : Int) : r.dear x = c.dearN x := by
  unfold Rc.dear Ca.dearN
  cases hd : c.d x with
  | none => rw [dearL_none (fun n hn => by rw [h.hmem, hd] at hn; cases hn)]; rfl
  | some n => rw [dearL_mem h.hnd ((h.hmem x n).2 hd)]; rfl
/-- One goes no later than another one. -/
def Ca.le (c : Ca) (x y : Int) : Prop := c.dearN x < c.dearN y ∨ c.dearN x = c.dearN y ∧ c.usedAt x ≤ c.usedAt y
theorem first_t {c : Ca} {x y : Int} (h : c.first x y = true) : c.le x y := by
  unfold Ca.first at h
  unfold Ca.le
  split at h
  · rename_i e; have := of_decide_eq_true h; exact .inr ⟨e, by omega⟩
  · exact .inl (of_decide_eq_true h)
theorem first_f {c : Ca} {x y : Int} (h : c.first x y = false) : c.le y x := by
  unfold Ca.first at h
  unfold Ca.le
  split at h
  · rename_i e; have := of_decide_eq_false h; exact .inr ⟨e.symm, by omega⟩
  · have := of_decide_eq_false h; exact .inl (by omega)
theorem le_tr {c : Ca} {x y z : Int} (h1 : c.le x y) (h2 : c.le y z) : c.le x z := by unfold Ca.le at *; omega
theorem le_rf (c : Ca) (x : Int) : c.le x x := .inr ⟨rfl, Int.le_refl _⟩
theorem fold_one {c : Ca} : ∀ (l : List Int) (nx : Int), (∀ x, x ∈ l → 1 ≤ x) → nx ≠ 0 → (l.foldl c.step nx = nx ∨ l.foldl c.step nx ∈ l ∧ c.dirtyB (l.foldl c.step nx) = false) ∧ c.le (l.foldl c.step nx) nx ∧ ∀ x, x ∈ l → c.dirtyB x = false → c.le (l.foldl c.step nx) x := by
  intro l
  induction l with
  | nil => intro nx _ _; exact ⟨.inl rfl, le_rf _ _, fun x hx => by simp at hx⟩
  | cons y l ih =>
    intro nx hl hn
    have hy := hl y (by simp)
    rw [List.foldl_cons]
    cases hd : c.dirtyB y with
    | true =>
      rw [step_dirty hd]
      obtain ⟨a, b, d⟩ := ih nx (fun x hx => hl x (List.mem_cons_of_mem _ hx)) hn
      refine ⟨a.imp id (fun q => ⟨List.mem_cons_of_mem _ q.1, q.2⟩), b, fun x hx hx2 => ?_⟩
      rcases List.mem_cons.1 hx with e | e
      · rw [e, hd] at hx2; cases hx2
      · exact d x e hx2
    | false =>
      cases hf : c.first y nx with
      | true =>
        rw [step_first hd hf]
        obtain ⟨a, b, d⟩ := ih y (fun x hx => hl x (List.mem_cons_of_mem _ hx)) (by omega)
        refine ⟨.inr ?_, le_tr b (first_t hf), fun x hx hx2 => ?_⟩
        · rcases a with a | a
          · rw [a]; exact ⟨by simp, hd⟩
          · exact ⟨List.mem_cons_of_mem _ a.1, a.2⟩
        · rcases List.mem_cons.1 hx with e | e
          · rw [e]; exact b
          · exact d x e hx2
      | false =>
        rw [step_last hn hf]
        obtain ⟨a, b, d⟩ := ih nx (fun x hx => hl x (List.mem_cons_of_mem _ hx)) hn
        refine ⟨a.imp id (fun q => ⟨List.mem_cons_of_mem _ q.1, q.2⟩), b, fun x hx hx2 => ?_⟩
        rcases List.mem_cons.1 hx with e | e
        · rw [e]; exact le_tr b (first_f hf)
        · exact d x e hx2
theorem fold_nil {c : Ca} : ∀ (l : List Int), (∀ x, x ∈ l → 1 ≤ x) → (l.foldl c.step 0 = 0 ∧ ∀ x, x ∈ l → c.dirtyB x = true) ∨ (l.foldl c.step 0 ∈ l ∧ c.dirtyB (l.foldl c.step 0) = false ∧ ∀ x, x ∈ l → c.dirtyB x = false → c.le (l.foldl c.step 0) x) := by
  intro l
  induction l with
  | nil => intro _; exact .inl ⟨rfl, fun x hx => by simp at hx⟩
  | cons y l ih =>
    intro hl
    have hy := hl y (by simp)
    rw [List.foldl_cons]
    cases hd : c.dirtyB y with
    | true =>
      rw [step_dirty hd]
      rcases ih (fun x hx => hl x (List.mem_cons_of_mem _ hx)) with ⟨a, b⟩ | ⟨a, b, d⟩
      · refine .inl ⟨a, fun x hx => ?_⟩
        rcases List.mem_cons.1 hx with e | e
        · rw [e]; exact hd
        · exact b x e
      · refine .inr ⟨List.mem_cons_of_mem _ a, b, fun x hx hx2 => ?_⟩
        rcases List.mem_cons.1 hx with e | e
        · rw [e, hd] at hx2; cases hx2
        · exact d x e hx2
    | false =>
      rw [step_none hd rfl]
      obtain ⟨a, b, d⟩ := fold_one l y (fun x hx => hl x (List.mem_cons_of_mem _ hx)) (by omega)
      refine .inr ⟨?_, ?_, fun x hx hx2 => ?_⟩
      · rcases a with a | a
        · rw [a]; simp
        · exact List.mem_cons_of_mem _ a.1
      · rcases a with a | a
        · rw [a]; exact hd
        · exact a.2
      · rcases List.mem_cons.1 hx with e | e
        · rw [e]; exact b
        · exact d x e hx2
theorem Rl.has_rng {c : Ca} {r : Rc} (h : Rl c r) {x : Int} (hx : c.has x = true) : 1 ≤ x ∧ x < 4294967296 := h.rng _ ((h.mem x _).2 ⟨hx, rfl⟩)
/-- Both tell the same one that would go. -/
theorem Rl.next {c : Ca} {r : Rc} (h : Rl c r) {ss : List Int} (hr : RiseF c.f ss) : c.nextOf ss = r.nx := by
  have hin : ∀ x, x ∈ ss ↔ c.has x = true := hr.2
  unfold Ca.nextOf Rc.nx
  rcases r.bst_inv r.L.length with ⟨e1, h1⟩ | ⟨b, e1, hb, hd1, h1⟩
  · rw [e1, if_pos (by decide)]
    rcases fold_nil (c := c) ss (fun x hx => (h.has_rng ((hin x).1 hx)).1) with ⟨a, _⟩ | ⟨a, b, _⟩
    · exact a
    · exfalso
      obtain ⟨i, hi, e2, e3⟩ := h.find ((hin _).1 a)
      rw [h1 i hi, b] at e3; cases e3
  · rw [e1, if_neg (by omega)]
    simp only [Int.toNat_natCast]
    obtain ⟨m1, m2⟩ := h.at_mem hb
    rcases fold_nil (c := c) ss (fun x hx => (h.has_rng ((hin x).1 hx)).1) with ⟨_, a⟩ | ⟨a, b2, a3⟩
    · exfalso
      have := a _ ((hin _).2 m1)
      rw [m2, hd1] at this; cases this
    · obtain ⟨i, hi, e2, e3⟩ := h.find ((hin _).1 a)
      have p1 := a3 _ ((hin _).2 m1) (by rw [m2, hd1])
      have p2 := h1 i hi (by rw [e3, b2])
      rw [h.dear, h.dear, e2] at p2
      unfold Ca.le at p1
      have : i = b := by
        have o := List.pairwise_iff_getElem.1 h.ord
        rcases Nat.lt_trichotomy i b with q | q | q
        · omega
        · exact q
        · have := o b i hb hi q
          rw [← Rc.fid_eq hb, ← Rc.fid_eq hi, e2] at this
          omega
      rw [← e2, this]
/-- What is at hand, rising. -/
def insF (x : Int) : List Int → List Int
  | [] => [x]
  | y :: l => if x < y then x :: y :: l else y :: insF x l
theorem mem_insF (x z : Int) : ∀ l, z ∈ insF x l ↔ z = x ∨ z ∈ l
  | [] => by simp [insF]
  | y :: l => by
    unfold insF
    split
    · simp
    · rw [List.mem_cons, mem_insF x z l, List.mem_cons]
      constructor
      · rintro (a | a | a)
        · exact .inr (.inl a)
        · exact .inl a
        · exact .inr (.inr a)
      · rintro (a | a | a)
        · exact .inr (.inl a)
        · exact .inl a
        · exact .inr (.inr a)
theorem srt_insF (x : Int) : ∀ l : List Int, l.Pairwise (fun a b => a < b) → x ∉ l → (insF x l).Pairwise (fun a b => a < b)
  | [], _, _ => by simp [insF]
  | y :: l, h, hx => by
    rw [List.pairwise_cons] at h
    unfold insF
    by_cases q : x < y
    · rw [if_pos q, List.pairwise_cons]
      refine ⟨fun z hz => ?_, List.pairwise_cons.2 h⟩
      rcases List.mem_cons.1 hz with e | e
      · omega
      · have := h.1 z e; omega
    · rw [if_neg q, List.pairwise_cons]
      refine ⟨fun z hz => ?_, srt_insF x l h.2 (fun e => hx (List.mem_cons_of_mem _ e))⟩
      rcases (mem_insF x z l).1 hz with e | e
      · have : x ≠ y := fun e => hx (by rw [e]; simp)
        omega
      · exact h.1 z e
theorem len_insF (x : Int) : ∀ l, (insF x l).length = l.length + 1
  | [] => rfl
  | y :: l => by
    unfold insF
    split
    · rfl
    · rw [List.length_cons, len_insF x l, List.length_cons]
/-- Fids, put in order one by one. -/
def sortF (us : List Int) : List Int := us.foldl (fun l x => insF x l) []
theorem sortF_snoc (us : List Int) (x : Int) : sortF (us ++ [x]) = insF x (sortF us) := by unfold sortF; rw [List.foldl_append]; rfl
theorem sort_len (us : List Int) : (sortF us).length = us.length := by
  have : ∀ (us l : List Int), (us.foldl (fun l x => insF x l) l).length = l.length + us.length := by
    intro us
    induction us with
    | nil => intro l; rfl
    | cons x us ih => intro l; rw [List.foldl_cons, ih, len_insF, List.length_cons]; omega
  have := this us []
  unfold sortF
  rw [this]; simp
theorem sort_all (us : List Int) (h : us.Pairwise (fun a b => a ≠ b)) : (sortF us).Pairwise (fun a b => a < b) ∧ ∀ x, x ∈ sortF us ↔ x ∈ us := by
  have : ∀ (us l : List Int), us.Pairwise (fun a b => a ≠ b) → l.Pairwise (fun a b => a < b) → (∀ x, x ∈ us → x ∉ l) → (us.foldl (fun l x => insF x l) l).Pairwise (fun a b => a < b) ∧ ∀ x, x ∈ us.foldl (fun l x => insF x l) l ↔ x ∈ l ∨ x ∈ us := by
    intro us
    induction us with
    | nil => intro l _ hl _; exact ⟨hl, fun x => by simp⟩
    | cons y us ih =>
      intro l hu hl hd
      rw [List.pairwise_cons] at hu
      obtain ⟨a, b⟩ := ih (insF y l) hu.2 (srt_insF y l hl (hd y (by simp))) (fun x hx q => by
        rcases (mem_insF y x l).1 q with e | e
        · exact hu.1 x hx e.symm
        · exact hd x (List.mem_cons_of_mem _ hx) e)
      refine ⟨a, fun x => ?_⟩
      rw [List.foldl_cons, b x, mem_insF, List.mem_cons]
      constructor
      · rintro ((q | q) | q)
        · exact .inr (.inl q)
        · exact .inl q
        · exact .inr (.inr q)
      · rintro (q | q | q)
        · exact .inl (.inr q)
        · exact .inl (.inl q)
        · exact .inr q
  obtain ⟨a, b⟩ := this us [] h List.Pairwise.nil (fun x _ => by simp)
  exact ⟨a, fun x => by unfold sortF; rw [b x]; simp⟩
def Rc.ss (r : Rc) : List Int := sortF (r.L.map (·.1))
theorem Rl.rise {c : Ca} {r : Rc} (h : Rl c r) : RiseF c.f r.ss := by
  have nd : (r.L.map (·.1)).Pairwise (fun a b => a ≠ b) := List.pairwise_map.2 h.nd
  obtain ⟨a, b⟩ := sort_all _ nd
  refine ⟨a, fun x => ?_⟩
  unfold Rc.ss
  rw [b x, List.mem_map]
  constructor
  · rintro ⟨⟨y, d⟩, hp, rfl⟩; exact ((h.mem y d).1 hp).1
  · intro hx; exact ⟨(x, c.dirtyB x), (h.mem x _).2 ⟨hx, rfl⟩, rfl⟩
/-- All but one. -/
def fil (x : Int) (L : List (Int × Bool)) : List (Int × Bool) := L.filter (fun p => decide (p.1 ≠ x))
theorem mem_fil {x : Int} {L : List (Int × Bool)} {p : Int × Bool} : p ∈ fil x L ↔ p ∈ L ∧ p.1 ≠ x := by unfold fil; rw [List.mem_filter]; simp
theorem fil_out {x : Int} {L : List (Int × Bool)} (h : ∀ p, p ∈ L → p.1 ≠ x) : fil x L = L := by unfold fil; rw [List.filter_eq_self]; intro p hp; simpa using h p hp
theorem fil_erase {x : Int} : ∀ {L : List (Int × Bool)} {i : Nat} (hi : i < L.length), L.Pairwise (fun p q => p.1 ≠ q.1) → L[i].1 = x → L.eraseIdx i = fil x L ∧ (fil x L).length + 1 = L.length
  | [], i, hi, _, _ => by simp at hi
  | p :: L, 0, _, hp, e => by
    rw [List.pairwise_cons] at hp
    have e' : p.1 = x := e
    have : fil x (p :: L) = L := by
      unfold fil
      rw [List.filter_cons_of_neg (by simp [e'])]
      exact fil_out (fun q hq => fun q2 => hp.1 q hq (by rw [q2, e']))
    rw [this]; exact ⟨rfl, rfl⟩
  | p :: L, i + 1, hi, hp, e => by
    rw [List.pairwise_cons] at hp
    have hi' : i < L.length := by simpa using hi
    have e' : L[i].1 = x := e
    obtain ⟨a, b⟩ := fil_erase hi' hp.2 e'
    have hne : p.1 ≠ x := fun q => hp.1 L[i] (List.getElem_mem hi') (by rw [q, e'])
    have : fil x (p :: L) = p :: fil x L := by unfold fil; rw [List.filter_cons_of_pos (by simp [hne])]
    rw [this, List.eraseIdx_cons_succ, a]
    exact ⟨rfl, by simp [b]⟩
theorem Rl.erase {c : Ca} {r : Rc} (h : Rl c r) {i : Nat} (hi : i < r.L.length) : r.L.eraseIdx i = fil (r.fid i) r.L ∧ (fil (r.fid i) r.L).length + 1 = r.L.length := fil_erase hi h.nd (by rw [Rc.fid_eq hi])
theorem Rl.out_fil {c : Ca} {r : Rc} (h : Rl c r) {x : Int} (hx : c.has x = false) : fil x r.L = r.L := fil_out (fun p hp e => by
  have := ((h.mem p.1 p.2).1 hp).1
  rw [e, hx] at this; cases this)
theorem use_at (c : Ca) (f x : Int) : (c.useS f).usedAt x = if x = f then c.uses + 1 else c.usedAt x := by
  show ((updF c.f f _ x).getD zOb).1 = _
  unfold updF
  split
  · rfl
  · rfl
theorem use_dirty (c : Ca) (f x : Int) : (c.useS f).dirtyB x = c.dirtyB x := by
  show ((updF c.f f _ x).getD zOb).2 = _
  unfold updF
  split
  · rename_i e; rw [e]; rfl
  · rfl
theorem use_has (c : Ca) (f x : Int) : (c.useS f).has x = if x = f then true else c.has x := by
  show (updF c.f f _ x).isSome = _
  unfold updF
  split <;> rfl
theorem drop_at (c : Ca) (f x : Int) (h : x ≠ f) : (c.dropS f).usedAt x = c.usedAt x ∧ (c.dropS f).dirtyB x = c.dirtyB x := by
  have : (c.dropS f).f x = c.f x := by show updF c.f f none x = _; unfold updF; rw [if_neg h]
  unfold Ca.usedAt Ca.dirtyB
  rw [this]; exact ⟨rfl, rfl⟩
theorem drop_has (c : Ca) (f x : Int) : (c.dropS f).has x = if x = f then false else c.has x := by
  show (updF c.f f none x).isSome = _
  unfold updF
  split <;> rfl
theorem mark_at (c : Ca) (f x : Int) (d : Bool) : (c.markS f d).usedAt x = c.usedAt x := by
  show ((updF c.f f _ x).getD zOb).1 = _
  unfold updF
  split
  · rename_i e; rw [e]; rfl
  · rfl
theorem mark_dirty (c : Ca) (f x : Int) (d : Bool) : (c.markS f d).dirtyB x = if x = f then d else c.dirtyB x := by
  show ((updF c.f f _ x).getD zOb).2 = _
  unfold updF
  split <;> rfl
theorem mark_has (c : Ca) (f x : Int) (d : Bool) : (c.markS f d).has x = if x = f then true else c.has x := by
  show (updF c.f f _ x).isSome = _
  unfold updF
  split <;> rfl
theorem fil_le {x : Int} {L : List (Int × Bool)} : (fil x L).length ≤ L.length := List.length_filter_le _ _
/-- One is used. -/
theorem Rl.use {c : Ca} {r : Rc} (h : Rl c r) {x : Int} (x0 : 1 ≤ x) (x1 : x < 4294967296) (hroom : c.has x = true ∨ (r.L.length : Int) < c.most) : Rl (c.useS x) ⟨r.most, fil x r.L ++ [(x, c.dirtyB x)], r.H⟩ := by
  have hl : (fil x r.L).length + 1 = addN c.f x c.m ∧ (((fil x r.L).length + 1 : Nat) : Int) ≤ c.most := by
    have hm := h.len
    have hf := h.few
    unfold addN
    cases hh : c.has x with
    | true =>
      obtain ⟨i, _, _, hi, e, _⟩ := h.at_has hh
      have := (h.erase hi).2
      rw [e] at this
      rw [if_pos (show (c.f x).isSome = true from hh)]; omega
    | false =>
      rw [h.out_fil hh]
      have : ¬ (c.f x).isSome = true := by have := hh; unfold Ca.has at this; simp [this]
      rw [if_neg this]
      rcases hroom with q | q
      · rw [hh] at q; cases q
      · omega
  refine ⟨h.most, h.mlo, h.mhi, ?_, ?_, ?_, ?_, ?_, ?_, ?_, h.hmem, h.hnd, h.hlen, h.hfew, h.hrng⟩
  · show 0 ≤ c.uses + 1; have := h.ulo; omega
  · intro p hp
    rcases List.mem_append.1 hp with q | q
    · exact h.rng p (mem_fil.1 q).1
    · simp at q; rw [q]; exact ⟨x0, x1⟩
  · intro y d
    rw [use_has, use_dirty, List.mem_append, mem_fil]
    by_cases e : y = x
    · subst e; simp; exact ⟨fun q => q.symm, fun q => q.symm⟩
    · simp [e, h.mem]
  · rw [List.pairwise_append]
    refine ⟨(List.Pairwise.filter _ h.ord).imp_of_mem (fun {a b} ha hb hab => ?_), by simp, fun a ha b hb => ?_⟩
    · rw [use_at, use_at, if_neg (mem_fil.1 ha).2, if_neg (mem_fil.1 hb).2]; exact hab
    · simp at hb
      rw [hb, use_at, use_at, if_neg (mem_fil.1 ha).2, if_pos rfl]
      have := h.top a (mem_fil.1 ha).1
      omega
  · intro p hp
    show _ ≤ c.uses + 1
    rw [use_at]
    rcases List.mem_append.1 hp with q | q
    · rw [if_neg (mem_fil.1 q).2]; have := h.top p (mem_fil.1 q).1; omega
    · simp at q; rw [q, if_pos rfl]; exact Int.le_refl _
  · show addN c.f x c.m = _; rw [← hl.1]; simp
  · show _ ≤ c.most; simpa using hl.2
/-- One is dropped. -/
theorem Rl.drop {c : Ca} {r : Rc} (h : Rl c r) {x : Int} (hx : c.has x = true) : Rl (c.dropS x) ⟨r.most, fil x r.L, r.H⟩ := by
  have hl : (fil x r.L).length + 1 = r.L.length := by
    obtain ⟨i, _, _, hi, e, _⟩ := h.at_has hx
    have := (h.erase hi).2
    rw [e] at this
    exact this
  refine ⟨h.most, h.mlo, h.mhi, h.ulo, fun p hp => h.rng p (mem_fil.1 hp).1, ?_, ?_, ?_, ?_, ?_, h.hmem, h.hnd, h.hlen, h.hfew, h.hrng⟩
  · intro y d
    rw [drop_has, mem_fil]
    by_cases e : y = x
    · simp [e]
    · rw [if_neg e, (drop_at c x y e).2, h.mem]; simp [e]
  · refine (List.Pairwise.filter _ h.ord).imp_of_mem (fun {a b} ha hb hab => ?_)
    rw [(drop_at c x _ (mem_fil.1 ha).2).1, (drop_at c x _ (mem_fil.1 hb).2).1]; exact hab
  · intro p hp
    rw [(drop_at c x _ (mem_fil.1 hp).2).1]; exact h.top p (mem_fil.1 hp).1
  · show delN c.f x c.m = _
    unfold delN
    rw [if_pos (show (c.f x).isSome = true from hx)]
    have := h.len
    show c.m - 1 = (fil x r.L).length
    omega
  · show _ ≤ c.most
    have := h.few
    show ((fil x r.L).length : Int) ≤ _
    omega
/-- One is marked. -/
theorem Rl.mark {c : Ca} {r : Rc} (h : Rl c r) {x : Int} {i : Nat} (hi : i < r.L.length) (hx : r.fid i = x) (d : Bool) : Rl (c.markS x d) ⟨r.most, r.L.set i (x, d), r.H⟩ := by
  have hh : c.has x = true := by rw [← hx]; exact (h.at_mem hi).1
  have hf : r.L[i].1 = x := by rw [← Rc.fid_eq hi]; exact hx
  have hmp : (r.L.set i (x, d)).map (·.1) = r.L.map (·.1) := by
    apply List.ext_getElem
    · simp
    · intro j h1 h2
      simp only [List.getElem_map, List.getElem_set]
      split
      · rename_i e; subst e; exact hf.symm
      · rfl
  have hin : ∀ p, p ∈ r.L.set i (x, d) → ∃ q, q ∈ r.L ∧ q.1 = p.1 := fun p hp => by
    have : p.1 ∈ (r.L.set i (x, d)).map (·.1) := List.mem_map_of_mem hp
    rw [hmp, List.mem_map] at this
    exact this
  refine ⟨h.most, h.mlo, h.mhi, h.ulo, fun p hp => ?_, ?_, ?_, ?_, ?_, ?_, h.hmem, h.hnd, h.hlen, h.hfew, h.hrng⟩
  · obtain ⟨q, q1, q2⟩ := hin p hp
    rw [← q2]; exact h.rng q q1
  · intro y e
    rw [mark_has, mark_dirty]
    by_cases hy : y = x
    · subst hy
      rw [if_pos rfl, if_pos rfl]
      constructor
      · intro hm
        obtain ⟨j, hj, ej⟩ := List.getElem_of_mem hm
        rw [List.getElem_set] at ej
        split at ej
        · simp at ej; exact ⟨rfl, ej⟩
        · rename_i q
          exfalso
          have hj' : j < r.L.length := by simpa using hj
          have := h.inj hi hj' (by rw [hx, Rc.fid_eq hj', ej])
          exact q this
      · rintro ⟨_, rfl⟩
        exact List.mem_set hi _
    · rw [if_neg hy, if_neg hy, ← h.mem]
      constructor
      · intro hm
        rcases List.mem_or_eq_of_mem_set hm with q | q
        · exact q
        · cases q; exact absurd rfl hy
      · intro hm
        obtain ⟨j, hj, ej⟩ := List.getElem_of_mem hm
        have : (r.L.set i (x, d))[j]'(by simpa using hj) = (y, e) := by
          rw [List.getElem_set, if_neg, ej]
          intro q; subst q; rw [ej] at hf; exact hy hf
        rw [← this]; exact List.getElem_mem _
  · have : ((r.L.set i (x, d)).map (·.1)).Pairwise (fun a b => c.usedAt a < c.usedAt b) := by rw [hmp]; exact List.pairwise_map.2 h.ord
    exact (List.pairwise_map.1 this).imp (fun {a b} hab => by rw [mark_at, mark_at]; exact hab)
  · intro p hp
    obtain ⟨q, q1, q2⟩ := hin p hp
    rw [mark_at, ← q2]; exact h.top q q1
  · show addN c.f x c.m = _
    unfold addN
    rw [if_pos (show (c.f x).isSome = true from hh)]
    simpa using h.len
  · show _ ≤ c.most; simpa using h.few
def filH (x : Int) (H : List (Int × Int)) : List (Int × Int) := H.filter (fun p => decide (p.1 ≠ x))
theorem mem_filH {x : Int} {L : List (Int × Int)} {p : Int × Int} : p ∈ filH x L ↔ p ∈ L ∧ p.1 ≠ x := by unfold filH; rw [List.mem_filter]; simp
theorem filH_len {x : Int} : ∀ {L : List (Int × Int)}, L.Pairwise (fun p q => p.1 ≠ q.1) → (filH x L).length + (if L.any (fun p => p.1 == x) then 1 else 0) = L.length
  | [], _ => rfl
  | p :: L, hp => by
    rw [List.pairwise_cons] at hp
    have ih := filH_len (x := x) hp.2
    by_cases e : p.1 = x
    · have h1 : filH x (p :: L) = filH x L := by unfold filH; rw [List.filter_cons_of_neg (by simp [e])]
      have h2 : L.any (fun p => p.1 == x) = false := by
        rw [List.any_eq_false]
        intro q hq; simp; intro e2; exact hp.1 q hq (by rw [e, e2])
      rw [h2] at ih
      rw [h1, List.any_cons]
      simp [e] at ih ⊢
      exact ih
    · have h1 : filH x (p :: L) = p :: filH x L := by unfold filH; rw [List.filter_cons_of_pos (by simp [e])]
      have h2 : (p :: L).any (fun p => p.1 == x) = L.any (fun p => p.1 == x) := by rw [List.any_cons]; simp [e]
      rw [h1, h2, List.length_cons, List.length_cons]
      omega
theorem Rl.any {c : Ca} {r : Rc} (h : Rl c r) (x : Int) : r.H.any (fun p => p.1 == x) = (c.d x).isSome := by
  cases hd : c.d x with
  | none =>
    rw [List.any_eq_false.2]
    · rfl
    · rintro ⟨a, b⟩ hp q
      simp at q
      subst q
      rw [h.hmem, hd] at hp; cases hp
  | some n => rw [List.any_eq_true.2 ⟨_, (h.hmem x n).2 hd, by simp⟩]; rfl
def Rc.hoardS (r : Rc) (x n : Int) : Rc := ⟨r.most, r.L, filH x r.H ++ (if n = 0 then [] else [(x, n)])⟩
theorem Rl.cold {c : Ca} {r : Rc} (h : Rl c r) (x : Int) : Rl (c.coldS x) (r.hoardS x 0) := by
  refine ⟨h.most, h.mlo, h.mhi, h.ulo, h.rng, h.mem, h.ord, h.top, h.len, h.few, ?_, ?_, ?_, ?_, ?_⟩
  · intro y n
    show (y, n) ∈ filH x r.H ++ [] ↔ updF c.d x none y = some n
    rw [List.append_nil, mem_filH, h.hmem]
    unfold updF
    by_cases e : y = x
    · simp [e]
    · simp [e]
  · show (filH x r.H ++ []).Pairwise _
    rw [List.append_nil]; exact List.Pairwise.filter _ h.hnd
  · show delN c.d x c.k = (filH x r.H ++ []).length
    have := filH_len (x := x) h.hnd
    rw [h.any] at this
    have h2 := h.hlen
    rw [List.append_nil]
    unfold delN
    split <;> simp_all <;> omega
  · show (filH x r.H ++ []).length ≤ 8
    have := filH_len (x := x) h.hnd
    have h2 := h.hfew
    rw [List.append_nil]; omega
  · intro p hp
    have : p ∈ filH x r.H ++ [] := hp
    rw [List.append_nil] at this
    exact h.hrng p (mem_filH.1 this).1
theorem Rl.warm {c : Ca} {r : Rc} (h : Rl c r) {x n : Int} (x0 : 1 ≤ x) (x1 : x < 4294967296) (n0 : 1 ≤ n) (n1 : n ≤ 100) (hroom : c.dearN x = 0 → c.k < 8) : Rl (c.dearS x n) (r.hoardS x n) := by
  have en : n ≠ 0 := by omega
  have eH : (r.hoardS x n).H = filH x r.H ++ [(x, n)] := by unfold Rc.hoardS; rw [if_neg en]
  have hl := filH_len (x := x) h.hnd
  rw [h.any] at hl
  have h2 := h.hlen
  have h3 := h.hfew
  have hz : (c.d x).isSome = false → c.k < 8 := fun q => hroom (by
    unfold Ca.dearN
    cases hd : c.d x with
    | none => rfl
    | some m => rw [hd] at q; cases q)
  refine ⟨h.most, h.mlo, h.mhi, h.ulo, h.rng, h.mem, h.ord, h.top, h.len, h.few, ?_, ?_, ?_, ?_, ?_⟩
  · intro y m
    rw [eH]
    show _ ↔ updF c.d x (some n) y = some m
    rw [List.mem_append, mem_filH, h.hmem]
    unfold updF
    by_cases e : y = x
    · simp [e]; exact ⟨fun q => q.symm, fun q => q.symm⟩
    · simp [e]
  · rw [eH, List.pairwise_append]
    refine ⟨List.Pairwise.filter _ h.hnd, by simp, fun a ha b hb => ?_⟩
    simp at hb
    rw [hb]; exact (mem_filH.1 ha).2
  · rw [eH]
    show addN c.d x c.k = _
    unfold addN
    cases hs : (c.d x).isSome with
    | true => rw [hs] at hl; simp at hl ⊢; omega
    | false => rw [hs] at hl; simp at hl ⊢; omega
  · rw [eH]
    cases hs : (c.d x).isSome with
    | true => rw [hs] at hl; simp at hl ⊢; omega
    | false => rw [hs] at hl; have := hz hs; simp at hl ⊢; omega
  · intro p hp
    rw [eH] at hp
    rcases List.mem_append.1 hp with q | q
    · exact h.hrng p (mem_filH.1 q).1
    · simp at q; rw [q]; exact ⟨⟨x0, x1⟩, n0, n1⟩
end Go.Proofs.Ytilcbkejmpfnfab
