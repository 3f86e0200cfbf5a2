/-
  Trees, plainly: lists that rise by a key, with one put in, or taken out; what is found in them, and how often.
  Trees, plainly: which nodes are a tree, in words that an operation can be held against.
  Trees, plainly: what is right by itself, in plain words; a tree's words by what is found in it; who is above whom.
  Trees, plainly: a tree stays one where a node is written, made, gets one more entry, loses one.
  Trees, plainly: a tree stays one where a node gets one more entry, loses one.
  Trees, plainly: a tree stays one where an entry is moved.
  Trees, plainly: what lies above what, and a tree stays one behind a Rename.
  Trees, plainly: a tree stays one behind every operation, and so do folds.
  Trees, plainly: an object that is made and removed, and what stands between.
  Trees, plainly: what can be done beside an object that is made and removed can be done without it.
  Trees, plainly: what can be done beside an object that is made and removed can be done without it, and makes the same but for that.
  Trees, plainly: a setting that is set anew does not matter; nodes stay without places; operations one behind the other.
-/
import Derived.Test.YtihgiemgcmpmmaaGE
import Derived.Sort.Walk0
import Derived.Test.YtihgiemgcmpmmaaNAl
namespace Go.Proofs.Ytihgiemgcmpmmaa
set_option linter.unusedVariables false
set_option linter.unusedSimpArgs false
set_option linter.unusedSectionVars false
section
variable {α κ : Type} [DecidableEq κ] (key : α → κ) (le : κ → κ → Bool)
/-- One put in, in the place of that of its key. -/
def insR (n : α) : List α → List α
  | [] => [n]
  | x :: t => if le (key n) (key x) then n :: (x :: t).filter (fun y => decide (key y ≠ key n)) else x :: insR n t
/-- One found by its key. -/
def fnd (l : List α) (k : κ) : Option α := l.find? (fun x => decide (key x = k))
/-- They rise. -/
def Ris (l : List α) : Prop := l.Pairwise (fun x y => le (key y) (key x) = false)
theorem fnd_cons (x : α) (t : List α) (k : κ) : fnd key (x :: t) k = if key x = k then some x else fnd key t k := by
  unfold fnd
  rw [List.find?_cons]
  by_cases h : key x = k <;> simp [h]
theorem fnd_mem {l : List α} {k : κ} {x : α} (h : fnd key l k = some x) : x ∈ l ∧ key x = k :=
  ⟨List.mem_of_find?_eq_some h, by simpa using List.find?_some h⟩
theorem fnd_none {l : List α} {k : κ} (h : fnd key l k = none) : ∀ x ∈ l, key x ≠ k := by
  unfold fnd at h
  rw [List.find?_eq_none] at h
  intro x hx
  simpa using h x hx
theorem fnd_filter (l : List α) (f k : κ) : fnd key (l.filter (fun y => decide (key y ≠ f))) k = if k = f then none else fnd key l k := by
  induction l with
  | nil => simp [fnd]
  | cons x t ih =>
    by_cases hx : key x = f
    · rw [List.filter_cons_of_neg (by simp [hx]), ih, fnd_cons]
      by_cases hk : k = f
      · rw [if_pos hk, if_pos hk]
      · rw [if_neg hk, if_neg hk, if_neg (fun e => hk (by rw [← e, hx]))]
    · rw [List.filter_cons_of_pos (by simp [hx]), fnd_cons, fnd_cons, ih]
      by_cases hk : k = f
      · rw [if_pos hk, if_pos hk, if_neg (fun e => hx (by rw [e, hk]))]
      · rw [if_neg hk, if_neg hk]
variable (refl : ∀ a, le a a = true)
include refl in
theorem fnd_insR (n : α) (l : List α) (k : κ) : fnd key (insR key le n l) k = if k = key n then some n else fnd key l k := by
  induction l with
  | nil =>
    simp only [insR]
    rw [fnd_cons]
    by_cases h : key n = k
    · rw [if_pos h, if_pos h.symm]
    · rw [if_neg h, if_neg (fun e => h e.symm)]
  | cons x t ih =>
    simp only [insR]
    split
    · rw [fnd_cons, fnd_filter]
      by_cases h : key n = k
      · rw [if_pos h, if_pos h.symm]
      · rw [if_neg h, if_neg (fun e => h e.symm), if_neg (fun e => h e.symm)]
    · rename_i hle
      have hne : key x ≠ key n := fun e => hle (by rw [e]; exact refl _)
      rw [fnd_cons, fnd_cons, ih]
      by_cases hx : key x = k
      · rw [if_pos hx, if_pos hx, if_neg (fun e => hne (by rw [hx, e]))]
      · rw [if_neg hx, if_neg hx]
theorem insR_mem {n : α} {l : List α} {y : α} (h : y ∈ insR key le n l) : y = n ∨ y ∈ l := by
  induction l with
  | nil => simp only [insR, List.mem_singleton] at h; exact .inl h
  | cons x t ih =>
    simp only [insR] at h
    split at h
    · rcases List.mem_cons.1 h with h | h
      · exact .inl h
      · exact .inr (List.mem_filter.1 h).1
    · rcases List.mem_cons.1 h with h | h
      · exact .inr (by rw [h]; exact List.mem_cons_self)
      · rcases ih h with h | h
        · exact .inl h
        · exact .inr (List.mem_cons_of_mem _ h)
variable (total : ∀ a b, le a b = true ∨ le b a = true) (trans : ∀ a b c, le a b = true → le b c = true → le a c = true) (anti : ∀ a b, le a b = true → le b a = true → a = b)
include total trans anti in
theorem ris_insR (n : α) {l : List α} (h : Ris key le l) : Ris key le (insR key le n l) := by
  induction l with
  | nil => exact List.pairwise_singleton _ _
  | cons x t ih =>
    unfold Ris at h
    rw [List.pairwise_cons] at h
    simp only [insR]
    split
    · rename_i hle
      unfold Ris
      rw [List.pairwise_cons]
      refine ⟨fun y hy => ?_, ?_⟩
      · rw [List.mem_filter] at hy
        have hne : key y ≠ key n := by simpa using hy.2
        cases hq : le (key y) (key n) with
        | false => rfl
        | true =>
          exfalso
          rcases List.mem_cons.1 hy.1 with e | e
          · subst e; exact hne (anti _ _ hq hle)
          · have h1 := h.1 y e
            have h2 := trans _ _ _ hq hle
            rw [h1] at h2; cases h2
      · exact List.Pairwise.sublist List.filter_sublist (List.pairwise_cons.2 h)
    · rename_i hle
      unfold Ris
      rw [List.pairwise_cons]
      refine ⟨fun y hy => ?_, ih h.2⟩
      rcases insR_mem key le hy with e | e
      · subst e; simpa using hle
      · exact h.1 y e
theorem ris_filter {l : List α} (p : α → Bool) (h : Ris key le l) : Ris key le (l.filter p) := List.Pairwise.sublist List.filter_sublist h
include refl in
theorem ris_ne {x : α} {t : List α} (h : Ris key le (x :: t)) : ∀ y ∈ t, key y ≠ key x := fun y hy e => by
  have := (List.pairwise_cons.1 h).1 y hy
  rw [e, refl] at this
  cases this
include refl in
theorem fnd_of {l : List α} (h : Ris key le l) {x : α} (hx : x ∈ l) : fnd key l (key x) = some x := by
  induction l with
  | nil => cases hx
  | cons y t ih =>
    rw [fnd_cons]
    rcases List.mem_cons.1 hx with e | e
    · rw [e, if_pos rfl]
    · rw [if_neg (fun e2 => ris_ne key le refl h x e e2.symm)]
      exact ih (List.pairwise_cons.1 h).2 e
include refl total in
/-- Lists that rise, in which the same is found, are the same. -/
theorem ris_ext : ∀ {l m : List α}, Ris key le l → Ris key le m → (∀ k, fnd key l k = fnd key m k) → l = m
  | [], [], _, _, _ => rfl
  | [], y :: s, _, hm, h => by
    have := h (key y)
    rw [fnd_cons, if_pos rfl] at this
    cases this
  | x :: t, [], hl, _, h => by
    have := h (key x)
    rw [fnd_cons, if_pos rfl] at this
    cases this
  | x :: t, y :: s, hl, hm, h => by
    have hx := h (key x)
    rw [fnd_cons, if_pos rfl] at hx
    have hy := h (key y)
    rw [fnd_cons key y s, if_pos rfl] at hy
    have exy : x = y := by
      rcases List.mem_cons.1 (fnd_mem key hx.symm).1 with e | e
      · exact e
      · rcases List.mem_cons.1 (fnd_mem key hy).1 with e2 | e2
        · exact e2.symm
        · exfalso
          have h1 := (List.pairwise_cons.1 hm).1 x e
          have h2 := (List.pairwise_cons.1 hl).1 y e2
          rcases total (key x) (key y) with q | q
          · rw [q] at h1; cases h1
          · rw [q] at h2; cases h2
    subst exy
    congr 1
    refine ris_ext (List.pairwise_cons.1 hl).2 (List.pairwise_cons.1 hm).2 (fun k => ?_)
    have := h k
    rw [fnd_cons, fnd_cons] at this
    by_cases e : key x = k
    · have n1 : fnd key t k = none := by
        cases hq : fnd key t k with
        | none => rfl
        | some z => exact absurd ((fnd_mem key hq).2.trans e.symm) (ris_ne key le refl hl z (fnd_mem key hq).1)
      have n2 : fnd key s k = none := by
        cases hq : fnd key s k with
        | none => rfl
        | some z => exact absurd ((fnd_mem key hq).2.trans e.symm) (ris_ne key le refl hm z (fnd_mem key hq).1)
      rw [n1, n2]
    · rw [if_neg e, if_neg e] at this
      exact this
/-- How much a list weighs. -/
def wsm (ω : α → Nat) (l : List α) : Nat := (l.map ω).sum
theorem wsm_cons (ω : α → Nat) (x : α) (t : List α) : wsm ω (x :: t) = ω x + wsm ω t := by simp [wsm]
theorem filter_all {l : List α} {f : κ} (h : ∀ y ∈ l, key y ≠ f) : l.filter (fun y => decide (key y ≠ f)) = l := List.filter_eq_self.2 (fun y hy => by simpa using h y hy)
include refl in
theorem wsm_filter (ω : α → Nat) (f : κ) {l : List α} (h : Ris key le l) : wsm ω (l.filter (fun y => decide (key y ≠ f))) + (fnd key l f).elim 0 ω = wsm ω l := by
  induction l with
  | nil => rfl
  | cons x t ih =>
    rw [fnd_cons, wsm_cons]
    by_cases hx : key x = f
    · rw [if_pos hx, List.filter_cons_of_neg (by simp [hx]), filter_all key (fun y hy => by rw [← hx]; exact ris_ne key le refl h y hy)]
      simp only [Option.elim]
      omega
    · rw [if_neg hx, List.filter_cons_of_pos (by simp [hx]), wsm_cons]
      have := ih (List.pairwise_cons.1 h).2
      omega
include refl in
theorem wsm_insR (ω : α → Nat) (n : α) {l : List α} (h : Ris key le l) : wsm ω (insR key le n l) + (fnd key l (key n)).elim 0 ω = wsm ω l + ω n := by
  induction l with
  | nil => simp [insR, wsm, fnd]
  | cons x t ih =>
    simp only [insR]
    split
    · rw [wsm_cons]
      have := wsm_filter key le refl ω (key n) h
      omega
    · rename_i hle
      have hne : key x ≠ key n := fun e => hle (by rw [e]; exact refl _)
      rw [wsm_cons, wsm_cons, fnd_cons, if_neg hne]
      have := ih (List.pairwise_cons.1 h).2
      omega
theorem wsm_len (l : List α) : wsm (fun _ => 1) l = l.length := by
  induction l with
  | nil => rfl
  | cons x t ih => rw [wsm_cons, ih, List.length_cons]; omega
theorem wsm_pos {ω : α → Nat} {l : List α} {x : α} (hx : x ∈ l) (h : 0 < ω x) : 0 < wsm ω l := by
  induction l with
  | nil => cases hx
  | cons y t ih =>
    rw [wsm_cons]
    rcases List.mem_cons.1 hx with e | e
    · rw [← e]; omega
    · have := ih e; omega
theorem wsm_zero {ω : α → Nat} {l : List α} (h : wsm ω l = 0) : ∀ x ∈ l, ω x = 0 := fun x hx => by
  rcases Nat.eq_zero_or_pos (ω x) with q | q
  · exact q
  · have := wsm_pos hx q; omega
theorem wsm_ex {ω : α → Nat} {l : List α} (h : 0 < wsm ω l) : ∃ x ∈ l, 0 < ω x := by
  induction l with
  | nil => cases h
  | cons y t ih =>
    rw [wsm_cons] at h
    rcases Nat.eq_zero_or_pos (ω y) with q | q
    · obtain ⟨x, hx, hp⟩ := ih (by omega)
      exact ⟨x, List.mem_cons_of_mem _ hx, hp⟩
    · exact ⟨y, List.mem_cons_self, q⟩
end
/-! ### Nodes by their fids -/
def leI (a b : Int) : Bool := decide (a ≤ b)
theorem leI_refl (a : Int) : leI a a = true := by simp [leI]
theorem leI_total (a b : Int) : leI a b = true ∨ leI b a = true := by simp only [leI, decide_eq_true_eq]; omega
theorem leI_trans (a b c : Int) : leI a b = true → leI b c = true → leI a c = true := by simp only [leI, decide_eq_true_eq]; omega
theorem leI_anti (a b : Int) : leI a b = true → leI b a = true → a = b := by simp only [leI, decide_eq_true_eq]; omega
theorem getF_fnd (l : List Nd) (f : Int) : getF l f = fnd Nd.fid l f := by
  rfl
theorem outL_filter (l : List Nd) (f : Int) : outL l f = l.filter (fun y => decide (y.fid ≠ f)) := by
  unfold outL
  congr 1
  funext x
  rw [Bool.eq_iff_iff]; simp
theorem setFold_true (n : Nd) : ∀ (l : List Nd) (out : List Nd), l.foldl (setS n) (out, true) = (out ++ outL l n.fid, true)
  | [], out => by simp [outL]
  | x :: t, out => by
    rw [List.foldl_cons]
    have e : setS n (out, true) x = (out ++ (if x.fid != n.fid then [x] else []), true) := by simp [setS]
    rw [e, setFold_true n t]
    unfold outL
    rw [List.filter_cons]
    split <;> simp
theorem setFold_false (n : Nd) : ∀ (l : List Nd) (out : List Nd), (if (l.foldl (setS n) (out, false)).2 then (l.foldl (setS n) (out, false)).1 else (l.foldl (setS n) (out, false)).1 ++ [n]) = out ++ insR Nd.fid leI n l
  | [], out => by simp [insR]
  | x :: t, out => by
    rw [List.foldl_cons]
    by_cases h : n.fid ≤ x.fid
    · have e : setS n (out, false) x = ((out ++ [n]) ++ (if x.fid != n.fid then [x] else []), true) := by simp [setS, h]
      rw [e, setFold_true]
      have h2 : leI n.fid x.fid = true := by simpa [leI] using h
      simp only [if_true, insR, h2]
      rw [← outL_filter]
      unfold outL
      rw [List.filter_cons]
      split <;> simp
    · have hne : (x.fid != n.fid) = true := by simp; omega
      have e : setS n (out, false) x = (out ++ [x], false) := by simp [setS, h, hne]
      rw [e, setFold_false n t]
      have h2 : leI n.fid x.fid = false := by simpa [leI] using h
      simp only [insR, h2]
      simp
theorem setL_insR (l : List Nd) (n : Nd) : setL l n = insR Nd.fid leI n l := by
  have := setFold_false n l []
  simpa [setL] using this
/-! ### Entries by their names -/
theorem lessB (x y : ByteArray) : Op.bytesLess x.toList y.toList = decide (x.toList < y.toList) := bytesLess_eq _ _
theorem leS_iff (x y : ByteArray) : leS x y = true ↔ x.toList ≤ y.toList := by
  unfold leS
  rw [Bool.or_eq_true, lessB, decide_eq_true_eq, beq_iff_eq]
  exact List.le_iff_lt_or_eq.symm
theorem ba_inj {x y : ByteArray} (h : x.toList = y.toList) : x = y := by
  have := ba_eq (s := x) (t := y)
  rw [h] at this
  simpa using this.symm
theorem leS_refl (a : ByteArray) : leS a a = true := (leS_iff a a).2 (List.le_refl _)
theorem leS_total (a b : ByteArray) : leS a b = true ∨ leS b a = true := by
  rw [leS_iff, leS_iff]; exact List.le_total _ _
theorem leS_trans (a b c : ByteArray) : leS a b = true → leS b c = true → leS a c = true := by
  rw [leS_iff, leS_iff, leS_iff]; exact List.le_trans
theorem leS_anti (a b : ByteArray) : leS a b = true → leS b a = true → a = b := by
  rw [leS_iff, leS_iff]; exact fun h k => ba_inj (List.le_antisymm h k)
theorem entFold_true (s : ByteArray) (f : Int) : ∀ (l : List Kd) (out : List Kd), l.foldl (entS s f) (out, true) = (out ++ l.filter (fun y => decide (y.nm ≠ s)), true)
  | [], out => by simp
  | x :: t, out => by
    rw [List.foldl_cons]
    have e : entS s f (out, true) x = (out ++ (if decide (x.nm ≠ s) then [x] else []), true) := by simp [entS]
    rw [e, entFold_true s f t, List.filter_cons]
    split <;> simp
theorem entFold_false (s : ByteArray) (f : Int) : ∀ (l : List Kd) (out : List Kd), (if (l.foldl (entS s f) (out, false)).2 then (l.foldl (entS s f) (out, false)).1 else (l.foldl (entS s f) (out, false)).1 ++ [⟨s, f⟩]) = out ++ insR Kd.nm leS ⟨s, f⟩ l
  | [], out => by simp [insR]
  | x :: t, out => by
    rw [List.foldl_cons]
    cases h : leS s x.nm with
    | true =>
      have e : entS s f (out, false) x = ((out ++ [⟨s, f⟩]) ++ (if decide (x.nm ≠ s) then [x] else []), true) := by simp [entS, h]
      rw [e, entFold_true]
      simp only [if_true, insR, h]
      rw [List.filter_cons]
      split <;> simp
    | false =>
      have hne : x.nm ≠ s := fun e => by rw [e, leS_refl] at h; cases h
      have e : entS s f (out, false) x = (out ++ [x], false) := by simp [entS, h, hne]
      rw [e, entFold_false s f t]
      simp only [insR, h]
      simp
theorem entL_insR (l : List Kd) (s : ByteArray) {f : Int} (hf : f ≠ 0) : entL l s f = insR Kd.nm leS ⟨s, f⟩ l := by
  have e : (f == 0) = false := beq_eq_false_iff_ne.2 hf
  have := entFold_false s f l []
  unfold entL
  rw [e]
  simpa using this
theorem entL_zero (l : List Kd) (s : ByteArray) : entL l s 0 = l.filter (fun y => decide (y.nm ≠ s)) := by
  have e : ((0 : Int) == 0) = true := rfl
  unfold entL
  rw [e, entFold_true]
  simp
/-! ### What is found, how much there is -/
def kq (l : List Kd) (s : ByteArray) : Option Kd := fnd Kd.nm l s
theorem kidI_kq (l : List Kd) (s : ByteArray) : kidI l s = (kq l s).elim 0 (·.fid) := by
  unfold kidI kq fnd
  cases l.find? (fun k => decide (k.nm = s)) <;> rfl
abbrev Srt (l : List Nd) : Prop := Ris Nd.fid leI l
abbrev KSrt (l : List Kd) : Prop := Ris Kd.nm leS l
theorem getF_set (l : List Nd) (n : Nd) (g : Int) : getF (setL l n) g = if g = n.fid then some n else getF l g := by
  rw [getF_fnd, getF_fnd, setL_insR]; exact fnd_insR Nd.fid leI leI_refl n l g
theorem getF_out (l : List Nd) (f g : Int) : getF (outL l f) g = if g = f then none else getF l g := by
  rw [getF_fnd, getF_fnd, outL_filter]; exact fnd_filter Nd.fid l f g
theorem srt_set {l : List Nd} (n : Nd) (h : Srt l) : Srt (setL l n) := by
  rw [setL_insR]; exact ris_insR Nd.fid leI leI_total leI_trans leI_anti n h
theorem srt_out {l : List Nd} (f : Int) (h : Srt l) : Srt (outL l f) := by
  rw [outL_filter]; exact ris_filter Nd.fid leI _ h
theorem srt_ext {l m : List Nd} (hl : Srt l) (hm : Srt m) (h : ∀ g, getF l g = getF m g) : l = m := ris_ext Nd.fid leI leI_refl leI_total hl hm h
theorem srt_get {l : List Nd} (h : Srt l) {x : Nd} (hx : x ∈ l) : getF l x.fid = some x := fnd_of Nd.fid leI leI_refl h hx
theorem kq_ent (l : List Kd) (s : ByteArray) (f : Int) (t : ByteArray) : kq (entL l s f) t = if t = s then (if f = 0 then none else some ⟨s, f⟩) else kq l t := by
  by_cases hf : f = 0
  · subst hf
    rw [entL_zero, if_pos rfl]
    exact fnd_filter Kd.nm l s t
  · rw [entL_insR l s hf, if_neg hf]
    exact fnd_insR Kd.nm leS leS_refl ⟨s, f⟩ l t
theorem ksrt_ent {l : List Kd} (s : ByteArray) (f : Int) (h : KSrt l) : KSrt (entL l s f) := by
  by_cases hf : f = 0
  · subst hf; rw [entL_zero]; exact ris_filter Kd.nm leS _ h
  · rw [entL_insR l s hf]; exact ris_insR Kd.nm leS leS_total leS_trans leS_anti ⟨s, f⟩ h
theorem ksrt_ext {l m : List Kd} (hl : KSrt l) (hm : KSrt m) (h : ∀ s, kq l s = kq m s) : l = m := ris_ext Kd.nm leS leS_refl leS_total hl hm h
theorem ksrt_get {l : List Kd} (h : KSrt l) {x : Kd} (hx : x ∈ l) : kq l x.nm = some x := fnd_of Kd.nm leS leS_refl h hx
theorem wsm_set (ω : Nd → Nat) (n : Nd) {l : List Nd} (h : Srt l) : wsm ω (setL l n) + (getF l n.fid).elim 0 ω = wsm ω l + ω n := by
  rw [setL_insR]; exact wsm_insR Nd.fid leI leI_refl ω n h
theorem wsm_out (ω : Nd → Nat) (f : Int) {l : List Nd} (h : Srt l) : wsm ω (outL l f) + (getF l f).elim 0 ω = wsm ω l := by
  rw [outL_filter]; exact wsm_filter Nd.fid leI leI_refl ω f h
theorem wsm_ent (ω : Kd → Nat) (s : ByteArray) (f : Int) {l : List Kd} (h : KSrt l) : wsm ω (entL l s f) + (kq l s).elim 0 ω = wsm ω l + (if f = 0 then 0 else ω ⟨s, f⟩) := by
  by_cases hf : f = 0
  · subst hf
    rw [entL_zero, if_pos rfl]
    exact wsm_filter Kd.nm leS leS_refl ω s h
  · rw [entL_insR l s hf, if_neg hf]
    exact wsm_insR Kd.nm leS leS_refl ω ⟨s, f⟩ h
/-- How many entries of a list lead to a fid; of a node; of a tree. -/
def cK (g : Int) (l : List Kd) : Nat := wsm (fun q => if q.fid = g then 1 else 0) l
def cN (g : Int) (x : Nd) : Nat := cK g x.ks
def cT (g : Int) (l : List Nd) : Nat := wsm (cN g) l
theorem cK_count (g : Int) (l : List Kd) : cK g l = (l.map (·.fid)).count g := by
  unfold cK
  induction l with
  | nil => rfl
  | cons x t ih =>
    rw [wsm_cons, ih, List.map_cons, List.count_cons]
    by_cases e : x.fid = g
    · simp [e]; omega
    · simp [e]
theorem cT_count (g : Int) (l : List Nd) : cT g l = (kfs l).count g := by
  unfold cT kfs
  induction l with
  | nil => rfl
  | cons x t ih =>
    rw [wsm_cons, ih, List.flatMap_cons, List.count_append]
    unfold cN
    rw [cK_count]
end Go.Proofs.Ytihgiemgcmpmmaa
namespace Go.Proofs.Ytihgiemgcmpmmaa
set_option linter.unusedVariables false
set_option linter.unusedSimpArgs false
/-- A directory's entry leads to a directory. -/
def Ed (l : List Nd) (f g : Int) : Prop := ∃ x d, getF l f = some x ∧ (∃ q ∈ x.ks, q.fid = g) ∧ getF l g = some d ∧ d.k = 2
/-- Nodes are a tree. -/
structure Rt (l : List Nd) : Prop where
  few : l.length ≤ 40
  srt : Srt l
  ok : ∀ x ∈ l, nodeOk x = true ∧ 0 < x.fid
  kid : ∀ x ∈ l, ∀ q ∈ x.ks, q.fid ≠ 1 ∧ (getF l q.fid).isSome = true
  root : ∃ r, getF l 1 = some r ∧ r.k = 2 ∧ r.ln = 0
  lnk : ∀ x ∈ l, x.fid ≠ 1 → 1 ≤ cT x.fid l ∧ x.ln = cT x.fid l ∧ (x.k = 2 → cT x.fid l = 1)
  rank : ∃ r : Int → Nat, ∀ f g, Ed l f g → r f < r g
theorem getD_at {l : List Nd} {i : Nat} (hi : i < l.length) : l.getD i Nd.no = l[i] := by simp [List.getD, hi]
theorem srt_up {l : List Nd} (h : upTo l l.length = true) : Srt l := by
  unfold Srt Ris
  rw [List.pairwise_iff_getElem]
  intro i j hi hj hij
  have := up_mono h j i hij hj
  rw [getD_at hi, getD_at hj] at this
  unfold leI
  simpa using this
theorem up_srt {l : List Nd} (h : Srt l) (hp : ∀ x ∈ l, 0 < x.fid) : upTo l l.length = true := upTo_mk (fun i hi => by
  unfold lastFd
  split
  · rw [getD_at hi]; exact hp _ (List.getElem_mem hi)
  · rename_i h0
    rw [getD_at hi, getD_at (show i - 1 < l.length by omega)]
    have := List.pairwise_iff_getElem.1 h (i - 1) i (by omega) hi (by omega)
    unfold leI at this
    simpa using this)
theorem hasF_get (l : List Nd) (f : Int) (hf : f ≠ 0) : hasF l f = (getF l f).isSome := by
  have key : ∀ m, m ≤ l.length → hasTo l f m = (getF (l.take m) f).isSome := fun m => by
    induction m with
    | zero => intro _; rfl
    | succ m ih =>
      intro hm
      simp only [hasTo, ih (by omega)]
      unfold getF
      rw [List.take_add_one, List.getElem?_eq_getElem (by omega), List.find?_append, getD_at (by omega)]
      cases List.find? (fun x => x.fid == f) (List.take m l) with
      | some y => rfl
      | none =>
        simp only [Option.isSome_none, Bool.false_or, Option.none_or, Option.toList_some, List.find?_cons, List.find?_nil]
        cases (l[m].fid == f) <;> rfl
  have := key l.length (Nat.le_refl _)
  rwa [List.take_length] at this
theorem N0_get {l : List Nd} (hu : upTo l l.length = true) (f : Int) : (N0 l f).map (·.2) = getF l f := by
  cases hq : N0 l f with
  | none =>
    simp only [Option.map_none]
    cases hg : getF l f with
    | none => rfl
    | some x =>
      exfalso
      obtain ⟨hx, rfl⟩ := getF_mem hg
      obtain ⟨i, hi, rfl⟩ := List.getElem_of_mem hx
      obtain ⟨p, hp⟩ := N0_at hu hi
      rw [getD_at hi, hq] at hp
      cases hp
  | some z =>
    obtain ⟨p, x⟩ := z
    obtain ⟨i, hi, e, hf⟩ := N0_of hq
    simp only [Option.map_some]
    rw [getD_at hi] at e
    subst e
    rw [← hf, srt_get (srt_up hu) (List.getElem_mem hi)]
theorem dir_get {l : List Nd} (hu : upTo l l.length = true) (g : Int) : isDirT (N0 l) g = true ↔ ∃ d, getF l g = some d ∧ d.k = 2 := by
  unfold isDirT
  have := N0_get hu g
  cases hq : N0 l g with
  | none =>
    rw [hq] at this
    simp only [Option.map_none] at this
    constructor
    · intro h; cases h
    · rintro ⟨d, hd, _⟩; rw [← this] at hd; cases hd
  | some z =>
    rw [hq] at this
    simp only [Option.map_some] at this
    simp only
    constructor
    · intro h; exact ⟨z.2, this.symm, by simpa using h⟩
    · rintro ⟨d, hd, hk⟩
      rw [← this] at hd
      cases hd
      simpa using hk
theorem edge_ed {l : List Nd} (hu : upTo l l.length = true) (f g : Int) : Edge (N0 l) f g ↔ Ed l f g := by
  constructor
  · rintro ⟨p, x, i, h1, h2, h3, h4⟩
    obtain ⟨d, hd, hk⟩ := (dir_get hu g).1 h4
    have := N0_get hu f
    rw [h1] at this
    simp only [Option.map_some] at this
    exact ⟨x, d, this.symm, ⟨_, getD_mem x.ks Kd.no h2, h3⟩, hd, hk⟩
  · rintro ⟨x, d, h1, ⟨q, hq, e⟩, hd, hk⟩
    have := N0_get hu f
    rw [h1] at this
    cases hn : N0 l f with
    | none => rw [hn] at this; cases this
    | some z =>
      rw [hn] at this
      simp only [Option.map_some, Option.some.injEq] at this
      obtain ⟨i, hi, rfl⟩ := List.getElem_of_mem hq
      obtain ⟨p, y⟩ := z
      simp only at this
      subst this
      exact ⟨p, y, i, hn, hi, by simpa [List.getD, hi] using e, (dir_get hu g).2 ⟨d, hd, hk⟩⟩
/-- How many steps up to the root. -/
def stp (l : List Nd) : Nat → Int → Nat
  | 0, _ => 0
  | n + 1, f => bif f == 1 then 0 else 1 + stp l n (upD l f)
theorem stp_more (l : List Nd) : ∀ (n : Nat) (f : Int), abN l 1 n f = true → stp l (n + 1) f = stp l n f
  | 0, f, h => by cases h
  | n + 1, f, h => by
    unfold abN at h
    unfold stp
    cases q : (f == 1) with
    | true => rfl
    | false =>
      rw [q] at h
      cases q2 : (upD l f == 0) with
      | true => rw [q2] at h; cases h
      | false =>
        rw [q2] at h
        simp only [cond_false] at h ⊢
        rw [stp_more l n _ h]
theorem rightD_rt {l : List Nd} : rightD l = true ↔ Rt l := by
  constructor
  · intro h
    have hR := (rightD_iff l).2 h
    obtain ⟨htok, hz⟩ := rightD_tok h
    have hR' := hR
    obtain ⟨h1, h2, h3, h4, h5, h6⟩ := hR
    have hu : upTo l l.length = true := h2
    have B : Base l := ⟨h1, h2, h3, h4, h5⟩
    have hok := right_ok hR'
    have hs := srt_up hu
    have hpos : ∀ x ∈ l, 0 < x.fid := fun x hx => by
      obtain ⟨i, hi, rfl⟩ := List.getElem_of_mem hx
      have := B.pos i hi
      rwa [getD_at hi] at this
    have hlk : ∀ x ∈ l, linkB (kfs l) x = true := fun x hx => by
      obtain ⟨i, hi, rfl⟩ := List.getElem_of_mem hx
      have := linksTo_all h5 i hi
      rwa [getD_at hi] at this
    have hc1 : (kfs l).count 1 = 0 := no_root (fun x hx => (h4 x hx).2)
    refine ⟨h1, hs, fun x hx => ⟨hok x hx, hpos x hx⟩, fun x hx q hq => ?_, ?_, fun x hx hne => ?_, ?_⟩
    · obtain ⟨j, hj, rfl⟩ := List.getElem_of_mem hq
      have h7 := haveTo_all (h4 x hx).2 j hj
      rw [show x.ks.getD j Kd.no = x.ks[j] by simp [List.getD, hj]] at h7
      refine ⟨h7.1, ?_⟩
      have := N0_get hu (x.ks[j]).fid
      rw [← this, Option.isSome_map]
      exact h7.2
    · obtain ⟨r, hr, hk⟩ := (dir_get hu 1).1 h3
      have hm := getF_mem hr
      have := hlk r hm.1
      unfold linkB at this
      rw [Bool.and_eq_true, beq_iff_eq, hm.2, hc1] at this
      exact ⟨r, hr, hk, this.1⟩
    · have := hlk x hx
      unfold linkB at this
      have e : (x.fid == 1) = false := beq_eq_false_iff_ne.2 hne
      rw [e] at this
      simp only [Bool.and_eq_true, beq_iff_eq, Bool.false_or, Bool.not_eq_true', Bool.or_eq_false_iff, decide_eq_false_iff_not, Bool.and_eq_false_iff] at this
      rw [cT_count]
      refine ⟨by omega, this.1, fun hk => ?_⟩
      rcases this.2.2 with q | q
      · rw [hk] at q; cases q
      · omega
    · have hab := (ring_ab B).1 h6
      refine ⟨fun f => stp l (l.length + 1) f, fun f g hE => ?_⟩
      have hE2 := (edge_ed hu f g).2 hE
      have hup := B.upOf hE2
      have hne := B.ne1 hE2
      obtain ⟨x, d, hf, _, hd, hk⟩ := hE
      obtain ⟨i, hi, e⟩ := List.getElem_of_mem (getF_mem hd).1
      have h7 := hab i hi
      rw [getD_at hi, e] at h7
      unfold lkU at h7
      have e2 : (d.k == 2) = true := by rw [hk]; rfl
      rw [e2, (getF_mem hd).2] at h7
      simp only [Bool.not_true, Bool.false_or] at h7
      have e3 : (g == 1) = false := beq_eq_false_iff_ne.2 hne
      have h8 : abN l 1 l.length f = true := by
        unfold abN at h7
        rw [e3, hup] at h7
        simp only [cond_false] at h7
        cases q : (f == 0) with
        | true => rw [q] at h7; cases h7
        | false => rw [q] at h7; exact h7
      show stp l (l.length + 1) f < stp l (l.length + 1) g
      rw [stp_more l _ f h8]
      show _ < (bif g == 1 then 0 else 1 + stp l l.length (upD l g))
      rw [e3, hup]
      simp only [cond_false]
      omega
  · intro h
    obtain ⟨h1, hs, hok, hkid, ⟨r, hr, hrk, hrl⟩, hlnk, ⟨rk, hrank⟩⟩ := h
    rw [← rightD_iff]
    have hu : upTo l l.length = true := up_srt hs (fun x hx => (hok x hx).2)
    have h3 : isDirT (N0 l) 1 = true := (dir_get hu 1).2 ⟨r, hr, hrk⟩
    have h4 : ∀ x ∈ l, aloneB x = true ∧ haveB (N0 l) x.ks = true := fun x hx => by
      refine ⟨alone_of (hok x hx).1, ?_⟩
      unfold haveB
      have : ∀ m, m ≤ x.ks.length → haveTo (N0 l) x.ks m = true := fun m => by
        induction m with
        | zero => intro _; rfl
        | succ m ih =>
          intro hm
          simp only [haveTo, ih (by omega), Bool.true_and]
          rw [show x.ks.getD m Kd.no = x.ks[m] by simp [List.getD, show m < x.ks.length by omega]]
          obtain ⟨a1, a2⟩ := hkid x hx _ (List.getElem_mem (show m < x.ks.length by omega))
          rw [Bool.and_eq_true]
          refine ⟨by simpa using a1, ?_⟩
          have := N0_get hu (x.ks[m]).fid
          rw [← this, Option.isSome_map] at a2
          exact a2
      exact this _ (Nat.le_refl _)
    have hc1 : (kfs l).count 1 = 0 := no_root (fun x hx => (h4 x hx).2)
    have h5 : linksB l = true := by
      refine linksTo_mk (fun i hi => ?_)
      rw [getD_at hi]
      have hx := List.getElem_mem hi
      unfold linkB
      by_cases e : (l[i]).fid = 1
      · have : l[i] = r := by
          have := srt_get hs hx
          rw [e, hr] at this
          exact (Option.some.inj this).symm
        rw [this, (getF_mem hr).2, hc1, hrl]
        rfl
      · obtain ⟨b1, b2, b3⟩ := hlnk _ hx e
        rw [cT_count] at b1 b2 b3
        have e1 : ((l[i]).fid == 1) = false := beq_eq_false_iff_ne.2 e
        have e2 : decide (((kfs l).count (l[i]).fid : Int) < 1) = false := decide_eq_false (by omega)
        rw [e1, e2]
        simp only [Bool.and_eq_true, beq_iff_eq, Bool.false_or, Bool.not_eq_true', Bool.and_eq_false_iff, decide_eq_false_iff_not]
        refine ⟨b2, ?_⟩
        by_cases hk : (l[i]).k = 2
        · right; have := b3 hk; omega
        · left; simpa using hk
    refine ⟨h1, hu, h3, h4, h5, fun hring => ?_⟩
    obtain ⟨G, ks, f, p, _, _, hpar, hG, hlead⟩ := hring
    have hlt : ∀ f g, G g = some f → rk f < rk g := fun f g e => hrank f g ((edge_ed hu f g).1 ((hpar f g).1 e))
    have hup : ∀ (n : Nat) (top q : Int), upB G top n q = true → rk top < rk q := fun n => by
      induction n with
      | zero => intro top q e; cases e
      | succ n ih =>
        intro top q e
        unfold upB at e
        cases hq : G q with
        | none => rw [hq] at e; cases e
        | some a =>
          rw [hq] at e
          simp only [Bool.or_eq_true, beq_iff_eq] at e
          have h9 := hlt a q hq
          rcases e with e | e
          · rw [← e]; exact h9
          · have := ih top a e; omega
    have h9 := hlt p f hG
    unfold leadB at hlead
    simp only [Bool.or_eq_true, beq_iff_eq] at hlead
    rcases hlead with e | e
    · rw [e] at h9; omega
    · have := hup _ _ _ e; omega
end Go.Proofs.Ytihgiemgcmpmmaa
namespace Go.Proofs.Ytihgiemgcmpmmaa
set_option linter.unusedVariables false
set_option linter.unusedSimpArgs false
/-- Entries are right. -/
def KOk (l : List Kd) : Prop := KSrt l ∧ ∀ q ∈ l, Pa.nameB q.nm.data.toList = true ∧ q.fid ≠ 0
theorem kidsTo_mk {l : List Kd} : ∀ {m : Nat}, (∀ i, i < m → kOk l i = true) → kidsTo l m = true
  | 0, _ => rfl
  | m + 1, h => by
    unfold kidsTo
    rw [Bool.and_eq_true]
    exact ⟨kidsTo_mk (fun i hi => h i (by omega)), h m (by omega)⟩
theorem kgetD {l : List Kd} {i : Nat} (hi : i < l.length) : l.getD i Kd.no = l[i] := by simp [List.getD, hi]
theorem kidsOk_iff (l : List Kd) : kidsOk l = true ↔ KOk l := by
  unfold kidsOk
  constructor
  · intro h
    have hk := fun i hi => kidsTo_all h i hi
    have hstep : ∀ i, (hi : i + 1 < l.length) → leS (l[i + 1]).nm (l[i]).nm = false := fun i hi => by
      have := hk (i + 1) hi
      unfold kOk at this
      rw [lastK_next, kgetD hi, kgetD (show i < l.length by omega)] at this
      simp only [Bool.and_eq_true, Bool.not_eq_true'] at this
      exact this.1.2
    have hlt : ∀ j i, (hij : i < j) → (hj : j < l.length) → leS (l[j]).nm (l[i]'(by omega)).nm = false := fun j => by
      induction j with
      | zero => intro i hij; omega
      | succ j ih =>
        intro i hij hj
        have h1 := hstep j hj
        by_cases e : i = j
        · subst e; exact h1
        · have h2 := ih i (by omega) (by omega)
          cases q : leS (l[j + 1]).nm (l[i]'(by omega)).nm with
          | false => rfl
          | true =>
            exfalso
            rcases leS_total (l[j]).nm (l[j + 1]).nm with t | t
            · have := leS_trans _ _ _ t q
              rw [h2] at this; cases this
            · rw [h1] at t; cases t
    refine ⟨?_, fun q hq => ?_⟩
    · unfold KSrt Ris
      rw [List.pairwise_iff_getElem]
      exact fun i j hi hj hij => hlt j i hij hj
    · obtain ⟨i, hi, rfl⟩ := List.getElem_of_mem hq
      have := hk i hi
      unfold kOk at this
      rw [kgetD hi] at this
      simp only [Bool.and_eq_true, bne_iff_ne] at this
      exact ⟨this.1.1, this.2⟩
  · rintro ⟨hs, hq⟩
    refine kidsTo_mk (fun i hi => ?_)
    unfold kOk
    rw [kgetD hi]
    obtain ⟨h1, h2⟩ := hq _ (List.getElem_mem hi)
    simp only [Bool.and_eq_true, Bool.not_eq_true', bne_iff_ne]
    refine ⟨⟨h1, ?_⟩, h2⟩
    unfold lastK
    split
    · exact le_nil h1
    · rw [kgetD (show i - 1 < l.length by omega)]
      exact List.pairwise_iff_getElem.1 hs (i - 1) i (by omega) hi (by omega)
/-- A node is right by itself. -/
def NOk (x : Nd) : Prop := x.fid ≠ 0 ∧ x.zs.length ≤ 64 ∧ x.ks.length ≤ 12 ∧ (((x.k = 1 ∨ x.k = 3) ∧ x.ks = []) ∨ (x.k = 2 ∧ x.zs = [] ∧ KOk x.ks))
theorem nodeOk_iff (x : Nd) : nodeOk x = true ↔ NOk x := by
  unfold nodeOk NOk
  rw [Bool.and_eq_true]
  have e1 : ((!(x.fid == 0 || decide (64 < x.zs.length) || decide (12 < x.ks.length))) = true) ↔ (x.fid ≠ 0 ∧ x.zs.length ≤ 64 ∧ x.ks.length ≤ 12) := by
    simp only [Bool.not_eq_true', Bool.or_eq_false_iff, beq_eq_false_iff_ne, decide_eq_false_iff_not, Nat.not_lt]
    constructor
    · rintro ⟨⟨a, b⟩, c⟩; exact ⟨a, b, c⟩
    · rintro ⟨a, b, c⟩; exact ⟨⟨a, b⟩, c⟩
  rw [e1]
  have e2 : ((bif x.k == 1 || x.k == 3 then decide (x.ks.length = 0) else bif x.k == 2 then decide (x.zs.length = 0) && kidsOk x.ks else false) = true) ↔ (((x.k = 1 ∨ x.k = 3) ∧ x.ks = []) ∨ (x.k = 2 ∧ x.zs = [] ∧ KOk x.ks)) := by
    by_cases h13 : x.k = 1 ∨ x.k = 3
    · have : (x.k == 1 || x.k == 3) = true := by simpa using h13
      rw [this]
      simp only [cond_true, decide_eq_true_eq, List.length_eq_zero_iff]
      constructor
      · intro h; exact .inl ⟨h13, h⟩
      · rintro (h | h)
        · exact h.2
        · omega
    · have : (x.k == 1 || x.k == 3) = false := by
        cases q : (x.k == 1 || x.k == 3) with
        | false => rfl
        | true => exact absurd (by simpa using q) h13
      rw [this]
      simp only [cond_false]
      by_cases h2 : x.k = 2
      · have : (x.k == 2) = true := by rw [h2]; rfl
        rw [this]
        simp only [cond_true, Bool.and_eq_true, decide_eq_true_eq, List.length_eq_zero_iff, kidsOk_iff]
        constructor
        · intro h; exact .inr ⟨h2, h⟩
        · rintro (h | h)
          · exact absurd h.1 h13
          · exact h.2
      · have : (x.k == 2) = false := beq_eq_false_iff_ne.2 h2
        rw [this]
        simp only [cond_false]
        constructor
        · intro h; cases h
        · rintro (h | h)
          · exact absurd h.1 h13
          · exact absurd h.1 h2
  rw [e2]
  constructor
  · rintro ⟨⟨a, b, c⟩, d⟩; exact ⟨a, b, c, d⟩
  · rintro ⟨a, b, c, d⟩; exact ⟨⟨a, b, c⟩, d⟩
section
variable {l : List Nd} (R : Rt l)
include R
theorem Rt.at {f : Int} {x : Nd} (h : getF l f = some x) : NOk x ∧ 0 < f ∧ x.fid = f := by
  obtain ⟨hm, e⟩ := getF_mem h
  obtain ⟨h1, h2⟩ := R.ok x hm
  exact ⟨(nodeOk_iff x).1 h1, by omega, e⟩
theorem Rt.kids {f : Int} {x : Nd} (h : getF l f = some x) {q : Kd} (hq : q ∈ x.ks) : q.fid ≠ 1 ∧ ∃ y, getF l q.fid = some y := by
  obtain ⟨h1, h2⟩ := R.kid x (getF_mem h).1 q hq
  exact ⟨h1, Option.isSome_iff_exists.1 h2⟩
theorem Rt.links {f : Int} {x : Nd} (h : getF l f = some x) (hne : f ≠ 1) : 1 ≤ cT f l ∧ x.ln = cT f l ∧ (x.k = 2 → cT f l = 1) := by
  obtain ⟨hm, e⟩ := getF_mem h
  have := R.lnk x hm (by rw [e]; exact hne)
  rw [e] at this
  exact this
theorem Rt.isdir {f : Int} {x : Nd} (h : getF l f = some x) {q : Kd} (hq : q ∈ x.ks) : x.k = 2 := by
  obtain ⟨⟨_, _, _, h1⟩, _⟩ := R.at h
  rcases h1 with h1 | h1
  · rw [h1.2] at hq; cases hq
  · exact h1.1
theorem Rt.kok {f : Int} {x : Nd} (h : getF l f = some x) (hk : x.k = 2) : KOk x.ks := by
  obtain ⟨⟨_, _, _, h1⟩, _⟩ := R.at h
  rcases h1 with h1 | h1
  · omega
  · exact h1.2.2
/-- To what is not there no entry leads. -/
theorem Rt.noent {g : Int} (h : getF l g = none) : cT g l = 0 := by
  rcases Nat.eq_zero_or_pos (cT g l) with q | q
  · exact q
  · exfalso
    obtain ⟨x, hx, hp⟩ := wsm_ex q
    obtain ⟨k, hk, hp2⟩ := wsm_ex hp
    have e : k.fid = g := by
      by_cases e : k.fid = g
      · exact e
      · simp [e] at hp2
    have := (R.kid x hx k hk).2
    rw [e, h] at this
    cases this
theorem Rt.noroot : cT 1 l = 0 := by
  rcases Nat.eq_zero_or_pos (cT 1 l) with q | q
  · exact q
  · exfalso
    obtain ⟨x, hx, hp⟩ := wsm_ex q
    obtain ⟨k, hk, hp2⟩ := wsm_ex hp
    have e : k.fid = 1 := by
      by_cases e : k.fid = 1
      · exact e
      · simp [e] at hp2
    exact (R.kid x hx k hk).1 e
end
/-- A tree's words, by what is found in it. -/
theorem Rt.of {l : List Nd} (few : l.length ≤ 40) (srt : Srt l) (ok : ∀ f x, getF l f = some x → NOk x ∧ 0 < f)
    (kid : ∀ f x, getF l f = some x → ∀ q ∈ x.ks, q.fid ≠ 1 ∧ (getF l q.fid).isSome = true) (root : ∃ r, getF l 1 = some r ∧ r.k = 2 ∧ r.ln = 0)
    (lnk : ∀ f x, getF l f = some x → f ≠ 1 → 1 ≤ cT f l ∧ x.ln = cT f l ∧ (x.k = 2 → cT f l = 1)) (rank : ∃ r : Int → Nat, ∀ f g, Ed l f g → r f < r g) : Rt l :=
  ⟨few, srt, fun x hx => by have := ok _ _ (srt_get srt hx); exact ⟨(nodeOk_iff x).2 this.1, this.2⟩, fun x hx => kid _ _ (srt_get srt hx), root, fun x hx => lnk _ _ (srt_get srt hx), rank⟩
theorem cT_set (g : Int) (n : Nd) {l : List Nd} (h : Srt l) : cT g (setL l n) + (getF l n.fid).elim 0 (cN g) = cT g l + cN g n := wsm_set (cN g) n h
theorem cT_out (g f : Int) {l : List Nd} (h : Srt l) : cT g (outL l f) + (getF l f).elim 0 (cN g) = cT g l := wsm_out (cN g) f h
theorem len_set (n : Nd) {l : List Nd} (h : Srt l) : (setL l n).length + (getF l n.fid).elim 0 (fun _ => 1) = l.length + 1 := by
  have := wsm_set (fun _ => 1) n h
  rw [wsm_len, wsm_len] at this
  exact this
theorem len_out (f : Int) {l : List Nd} (h : Srt l) : (outL l f).length + (getF l f).elim 0 (fun _ => 1) = l.length := by
  have := wsm_out (fun _ => 1) f h
  rw [wsm_len, wsm_len] at this
  exact this
theorem cK_ent (g : Int) (s : ByteArray) (f : Int) {l : List Kd} (h : KSrt l) : cK g (entL l s f) + (kq l s).elim 0 (fun q => if q.fid = g then 1 else 0) = cK g l + (if f = 0 then 0 else if f = g then 1 else 0) := wsm_ent (fun q => if q.fid = g then 1 else 0) s f h
theorem klen_ent (s : ByteArray) (f : Int) {l : List Kd} (h : KSrt l) : (entL l s f).length + (kq l s).elim 0 (fun _ => 1) = l.length + (if f = 0 then 0 else 1) := by
  have := wsm_ent (fun _ => 1) s f h
  rw [wsm_len, wsm_len] at this
  exact this
theorem kok_ent {l : List Kd} (h : KOk l) (s : ByteArray) (f : Int) (hs : f ≠ 0 → Pa.nameB s.data.toList = true) : KOk (entL l s f) := by
  refine ⟨ksrt_ent s f h.1, fun q hq => ?_⟩
  by_cases hf : f = 0
  · subst hf
    rw [entL_zero] at hq
    exact h.2 q (List.mem_filter.1 hq).1
  · rcases entL_mem hq with e | e
    · rw [e]; exact ⟨hs hf, hf⟩
    · exact h.2 q e
end Go.Proofs.Ytihgiemgcmpmmaa
namespace Go.Proofs.Ytihgiemgcmpmmaa
set_option linter.unusedVariables false
set_option linter.unusedSimpArgs false
theorem kq_none_iff {l : List Kd} (h : ∀ q ∈ l, q.fid ≠ 0) (s : ByteArray) : kidI l s = 0 ↔ kq l s = none := by
  rw [kidI_kq]
  cases hq : kq l s with
  | none => simp
  | some q =>
    have hm := fnd_mem Kd.nm hq
    constructor
    · intro e; exact absurd e (h q hm.1)
    · intro e; cases e
theorem kq_some {l : List Kd} {s : ByteArray} {q : Kd} (h : kq l s = some q) : q ∈ l ∧ q.nm = s := fnd_mem Kd.nm h
theorem mem_kq {l : List Kd} (h : KSrt l) {q : Kd} : q ∈ l ↔ kq l q.nm = some q := ⟨fun hq => ksrt_get h hq, fun hq => (kq_some hq).1⟩
theorem ed_mono {l m : List Nd} (h : ∀ f x, getF m f = some x → ∀ q ∈ x.ks, ∃ y, getF l f = some y ∧ ∃ r ∈ y.ks, r.fid = q.fid) (hd : ∀ g d, getF m g = some d → d.k = 2 → ∃ e, getF l g = some e ∧ e.k = 2) {f g : Int} (hE : Ed m f g) : Ed l f g := by
  obtain ⟨x, d, h1, ⟨q, hq, e⟩, h3, h4⟩ := hE
  obtain ⟨y, h5, r, hr, e2⟩ := h f x h1 q hq
  obtain ⟨e3, h6, h7⟩ := hd g d h3 h4
  exact ⟨y, e3, h5, ⟨r, hr, by rw [e2, e]⟩, h6, h7⟩
/-- A node is written: its mode, its data. -/
theorem Rt.write {l : List Nd} (R : Rt l) {x y : Nd} (hx : getF l x.fid = some x) (hf : y.fid = x.fid) (hk : y.k = x.k) (hl : y.ln = x.ln) (hs : y.ks = x.ks) (hy : NOk y) : Rt (setL l y) := by
  have hN : ∀ g, getF (setL l y) g = if g = x.fid then some y else getF l g := fun g => by rw [getF_set, hf]
  have hc : ∀ g, cT g (setL l y) = cT g l := fun g => by
    have := cT_set g y R.srt
    rw [hf, hx] at this
    simp only [Option.elim, cN, hs] at this
    omega
  have hlen : (setL l y).length = l.length := by
    have := len_set y R.srt
    rw [hf, hx] at this
    simp only [Option.elim] at this
    omega
  have old : ∀ f z, getF (setL l y) f = some z → ∃ z0, getF l f = some z0 ∧ z.ks = z0.ks ∧ z.k = z0.k ∧ z.ln = z0.ln := fun f z hz => by
    rw [hN] at hz
    by_cases e : f = x.fid
    · rw [if_pos e] at hz; cases hz; exact ⟨x, by rw [e]; exact hx, hs, hk, hl⟩
    · rw [if_neg e] at hz; exact ⟨z, hz, rfl, rfl, rfl⟩
  have new : ∀ g, (getF (setL l y) g).isSome = (getF l g).isSome := fun g => by
    rw [hN]
    by_cases e : g = x.fid
    · rw [if_pos e, e, hx]; rfl
    · rw [if_neg e]
  refine Rt.of (by rw [hlen]; exact R.few) (srt_set y R.srt) (fun f z hz => ?_) (fun f z hz q hq => ?_) ?_ (fun f z hz hne => ?_) ?_
  · have hz' := hz
    rw [hN] at hz'
    by_cases e : f = x.fid
    · rw [if_pos e] at hz'; cases hz'
      exact ⟨hy, by rw [e]; exact (R.at hx).2.1⟩
    · rw [if_neg e] at hz'
      exact ⟨(R.at hz').1, (R.at hz').2.1⟩
  · obtain ⟨z0, h0, e1, _⟩ := old f z hz
    rw [e1] at hq
    obtain ⟨a, b, hb⟩ := R.kids h0 hq
    exact ⟨a, by rw [new, hb]; rfl⟩
  · obtain ⟨r, hr, h1, h2⟩ := R.root
    rw [hN]
    by_cases e : (1 : Int) = x.fid
    · rw [if_pos e]
      rw [← e, hr] at hx
      cases hx
      exact ⟨y, rfl, by rw [hk, h1], by rw [hl, h2]⟩
    · rw [if_neg e]; exact ⟨r, hr, h1, h2⟩
  · obtain ⟨z0, h0, _, e2, e3⟩ := old f z hz
    rw [hc, e2, e3]
    exact R.links h0 hne
  · obtain ⟨r, hr⟩ := R.rank
    refine ⟨r, fun f g hE => hr f g (ed_mono (fun f z hz q hq => ?_) (fun g d hg hd => ?_) hE)⟩
    · obtain ⟨z0, h0, e1, _⟩ := old f z hz
      exact ⟨z0, h0, q, by rw [← e1]; exact hq, rfl⟩
    · obtain ⟨z0, h0, _, e2, _⟩ := old g d hg
      exact ⟨z0, h0, by rw [← e2]; exact hd⟩
/-- A node is made, with the entry that leads to it. -/
theorem Rt.make {l : List Nd} (R : Rt l) {d n : Nd} {s : ByteArray} (hd : getF l d.fid = some d) (hk : d.k = 2) (hq : kq d.ks s = none) (hs : Pa.nameB s.data.toList = true) (h12 : d.ks.length < 12) (h40 : l.length < 40)
    (hn : NOk n) (hn0 : getF l n.fid = none) (hn1 : n.fid ≠ 1) (hnp : 0 < n.fid) (hnk : n.ks = []) (hnl : n.ln = 1) : Rt (setL (setL l (d.kids none 0 (entL d.ks s n.fid))) n) := by
  have hne : n.fid ≠ d.fid := fun e => by rw [e, hd] at hn0; cases hn0
  have hn00 : n.fid ≠ 0 := by omega
  have s1 := srt_set (d.kids none 0 (entL d.ks s n.fid)) R.srt
  have hN : ∀ g, getF (setL (setL l (d.kids none 0 (entL d.ks s n.fid))) n) g = if g = n.fid then some n else if g = d.fid then some (d.kids none 0 (entL d.ks s n.fid)) else getF l g := fun g => by
    rw [getF_set, getF_set]; rfl
  have hK := R.kok hd hk
  have hkk := hK.1
  have hcd : ∀ g, cK g (entL d.ks s n.fid) = cK g d.ks + (if n.fid = g then 1 else 0) := fun g => by
    have := cK_ent g s n.fid hkk
    rw [hq, if_neg hn00] at this
    simpa [Option.elim] using this
  have hc : ∀ g, cT g (setL (setL l (d.kids none 0 (entL d.ks s n.fid))) n) = cT g l + (if n.fid = g then 1 else 0) := fun g => by
    have h1 := cT_set g n s1
    have h2 := cT_set g (d.kids none 0 (entL d.ks s n.fid)) R.srt
    rw [getF_set, if_neg (show n.fid ≠ (d.kids none 0 (entL d.ks s n.fid)).fid from hne), hn0] at h1
    rw [show (d.kids none 0 (entL d.ks s n.fid)).fid = d.fid from rfl, hd] at h2
    simp only [Option.elim] at h1 h2
    have e1 : cN g (d.kids none 0 (entL d.ks s n.fid)) = cK g d.ks + (if n.fid = g then 1 else 0) := hcd g
    have e2 : cN g d = cK g d.ks := rfl
    have e3 : cN g n = 0 := by unfold cN; rw [hnk]; rfl
    omega
  have hmem : ∀ q, q ∈ entL d.ks s n.fid → q ∈ d.ks ∨ q = ⟨s, n.fid⟩ := fun q h => (entL_mem h).symm
  have hlen : (setL (setL l (d.kids none 0 (entL d.ks s n.fid))) n).length = l.length + 1 := by
    have h1 := len_set n s1
    have h2 := len_set (d.kids none 0 (entL d.ks s n.fid)) R.srt
    rw [getF_set, if_neg (show n.fid ≠ (d.kids none 0 (entL d.ks s n.fid)).fid from hne), hn0] at h1
    rw [show (d.kids none 0 (entL d.ks s n.fid)).fid = d.fid from rfl, hd] at h2
    simp only [Option.elim] at h1 h2
    omega
  have new : ∀ g, (getF l g).isSome = true → (getF (setL (setL l (d.kids none 0 (entL d.ks s n.fid))) n) g).isSome = true := fun g h => by
    rw [hN]; split
    · rfl
    · split
      · rfl
      · exact h
  have kl : (entL d.ks s n.fid).length ≤ 12 := by have := entL_len d.ks s n.fid; omega
  refine Rt.of (by omega) (srt_set n s1) (fun f z hz => ?_) (fun f z hz q hqz => ?_) ?_ (fun f z hz hne1 => ?_) ?_
  · rw [hN] at hz
    by_cases e : f = n.fid
    · rw [if_pos e] at hz; cases hz; exact ⟨hn, by omega⟩
    · rw [if_neg e] at hz
      by_cases e2 : f = d.fid
      · rw [if_pos e2] at hz; cases hz
        obtain ⟨⟨a1, a2, a3, a4⟩, a5, _⟩ := R.at hd
        refine ⟨⟨a1, a2, kl, .inr ⟨hk, ?_, kok_ent hK s n.fid (fun _ => hs)⟩⟩, by omega⟩
        rcases a4 with a4 | a4
        · omega
        · exact a4.2.1
      · rw [if_neg e2] at hz; exact ⟨(R.at hz).1, (R.at hz).2.1⟩
  · have hz' := hz
    rw [hN] at hz'
    by_cases e : f = n.fid
    · rw [if_pos e] at hz'; cases hz'; rw [hnk] at hqz; cases hqz
    · rw [if_neg e] at hz'
      by_cases e2 : f = d.fid
      · rw [if_pos e2] at hz'; cases hz'
        rcases hmem q hqz with h | h
        · obtain ⟨a, b, hb⟩ := R.kids hd h
          exact ⟨a, new _ (by rw [hb]; rfl)⟩
        · rw [h]; exact ⟨hn1, by rw [hN, if_pos rfl]; rfl⟩
      · rw [if_neg e2] at hz'
        obtain ⟨a, b, hb⟩ := R.kids hz' hqz
        exact ⟨a, new _ (by rw [hb]; rfl)⟩
  · obtain ⟨r, hr, h1, h2⟩ := R.root
    rw [hN, if_neg (fun e => hn1 e.symm)]
    by_cases e : (1 : Int) = d.fid
    · rw [if_pos e]
      rw [← e, hr] at hd
      cases hd
      exact ⟨_, rfl, h1, h2⟩
    · rw [if_neg e]; exact ⟨r, hr, h1, h2⟩
  · rw [hc]
    rw [hN] at hz
    by_cases e : f = n.fid
    · rw [if_pos e] at hz; cases hz
      rw [e, R.noent hn0, hnl, if_pos rfl]
      exact ⟨by omega, rfl, fun _ => rfl⟩
    · rw [if_neg e] at hz
      rw [if_neg (fun h => e h.symm)]
      by_cases e2 : f = d.fid
      · rw [if_pos e2] at hz; cases hz
        have := R.links hd (by rw [← e2]; exact hne1)
        rw [e2]; exact this
      · rw [if_neg e2] at hz
        exact R.links hz hne1
  · obtain ⟨r, hr⟩ := R.rank
    refine ⟨fun x => if x = n.fid then r d.fid + 1 else r x, fun f g hE => ?_⟩
    obtain ⟨x, dd, h1, ⟨q, hqx, eq⟩, h3, h4⟩ := hE
    rw [hN] at h1
    by_cases e : f = n.fid
    · rw [if_pos e] at h1; cases h1; rw [hnk] at hqx; cases hqx
    · rw [if_neg e] at h1
      simp only [if_neg e]
      by_cases eg : g = n.fid
      · simp only [if_pos eg]
        by_cases e2 : f = d.fid
        · rw [e2]; omega
        · rw [if_neg e2] at h1
          obtain ⟨_, b, hb⟩ := R.kids h1 hqx
          rw [eq, eg, hn0] at hb; cases hb
      · simp only [if_neg eg]
        rw [hN, if_neg eg] at h3
        have h3' : ∃ e, getF l g = some e ∧ e.k = 2 := by
          by_cases e3 : g = d.fid
          · exact ⟨d, by rw [e3]; exact hd, hk⟩
          · rw [if_neg e3] at h3; exact ⟨dd, h3, h4⟩
        obtain ⟨e5, h5, h6⟩ := h3'
        by_cases e2 : f = d.fid
        · rw [if_pos e2] at h1; cases h1
          rcases hmem q hqx with h | h
          · exact hr f g ⟨d, e5, by rw [e2]; exact hd, ⟨q, h, eq⟩, h5, h6⟩
          · rw [h] at eq; exact absurd eq.symm eg
        · rw [if_neg e2] at h1
          exact hr f g ⟨x, e5, h1, ⟨q, hqx, eq⟩, h5, h6⟩
end Go.Proofs.Ytihgiemgcmpmmaa
namespace Go.Proofs.Ytihgiemgcmpmmaa
set_option linter.unusedVariables false
set_option linter.unusedSimpArgs false
theorem Rt.self {l : List Nd} (R : Rt l) {d : Nd} (hd : getF l d.fid = some d) {q : Kd} (hq : q ∈ d.ks) : q.fid ≠ d.fid := fun e => by
  obtain ⟨r, hr⟩ := R.rank
  have := hr d.fid d.fid ⟨d, d, hd, ⟨q, hq, e⟩, hd, R.isdir hd hq⟩
  omega
/-- Nodes without one's entries keep their counts. -/
theorem cT_mem {l : List Nd} {f : Int} {x : Nd} (h : getF l f = some x) {q : Kd} (hq : q ∈ x.ks) : 0 < cT q.fid l := by
  refine wsm_pos (getF_mem h).1 ?_
  exact wsm_pos hq (by simp)
/-- One more entry leads to a node that is no directory. -/
theorem Rt.link {l : List Nd} (R : Rt l) {d n : Nd} {s : ByteArray} (hd : getF l d.fid = some d) (hk : d.k = 2) (hq : kq d.ks s = none) (hs : Pa.nameB s.data.toList = true) (h12 : d.ks.length < 12)
    (hn0 : getF l n.fid = some n) (hnk : n.k ≠ 2) : Rt (setL (setL l (d.kids none 0 (entL d.ks s n.fid))) (n.lnk (n.ln + 1))) := by
  have hne : n.fid ≠ d.fid := fun e => by rw [e, hd] at hn0; cases hn0; exact hnk hk
  have hn1 : n.fid ≠ 1 := fun e => by
    obtain ⟨r, hr, h1, _⟩ := R.root
    rw [e, hr] at hn0
    cases hn0
    exact hnk h1
  have hn00 : n.fid ≠ 0 := by have := (R.at hn0).2.1; omega
  have s1 := srt_set (d.kids none 0 (entL d.ks s n.fid)) R.srt
  have hN : ∀ g, getF (setL (setL l (d.kids none 0 (entL d.ks s n.fid))) (n.lnk (n.ln + 1))) g = if g = n.fid then some (n.lnk (n.ln + 1)) else if g = d.fid then some (d.kids none 0 (entL d.ks s n.fid)) else getF l g := fun g => by
    rw [getF_set, getF_set]; rfl
  have hK := R.kok hd hk
  have hkk := hK.1
  have hcd : ∀ g, cK g (entL d.ks s n.fid) = cK g d.ks + (if n.fid = g then 1 else 0) := fun g => by
    have := cK_ent g s n.fid hkk
    rw [hq, if_neg hn00] at this
    simpa [Option.elim] using this
  have hc : ∀ g, cT g (setL (setL l (d.kids none 0 (entL d.ks s n.fid))) (n.lnk (n.ln + 1))) = cT g l + (if n.fid = g then 1 else 0) := fun g => by
    have h1 := cT_set g (n.lnk (n.ln + 1)) s1
    have h2 := cT_set g (d.kids none 0 (entL d.ks s n.fid)) R.srt
    rw [show (n.lnk (n.ln + 1)).fid = n.fid from rfl, getF_set, if_neg (show n.fid ≠ (d.kids none 0 (entL d.ks s n.fid)).fid from hne), hn0] at h1
    rw [show (d.kids none 0 (entL d.ks s n.fid)).fid = d.fid from rfl, hd] at h2
    simp only [Option.elim] at h1 h2
    have e1 : cN g (d.kids none 0 (entL d.ks s n.fid)) = cK g d.ks + (if n.fid = g then 1 else 0) := hcd g
    have e2 : cN g d = cK g d.ks := rfl
    have e3 : cN g (n.lnk (n.ln + 1)) = cN g n := rfl
    omega
  have hmem : ∀ q, q ∈ entL d.ks s n.fid → q ∈ d.ks ∨ q = ⟨s, n.fid⟩ := fun q h => (entL_mem h).symm
  have hlen : (setL (setL l (d.kids none 0 (entL d.ks s n.fid))) (n.lnk (n.ln + 1))).length = l.length := by
    have h1 := len_set (n.lnk (n.ln + 1)) s1
    have h2 := len_set (d.kids none 0 (entL d.ks s n.fid)) R.srt
    rw [show (n.lnk (n.ln + 1)).fid = n.fid from rfl, getF_set, if_neg (show n.fid ≠ (d.kids none 0 (entL d.ks s n.fid)).fid from hne), hn0] at h1
    rw [show (d.kids none 0 (entL d.ks s n.fid)).fid = d.fid from rfl, hd] at h2
    simp only [Option.elim] at h1 h2
    omega
  have new : ∀ g, (getF l g).isSome = true → (getF (setL (setL l (d.kids none 0 (entL d.ks s n.fid))) (n.lnk (n.ln + 1))) g).isSome = true := fun g h => by
    rw [hN]; split
    · rfl
    · split
      · rfl
      · exact h
  have kl : (entL d.ks s n.fid).length ≤ 12 := by have := entL_len d.ks s n.fid; omega
  refine Rt.of (by rw [hlen]; exact R.few) (srt_set _ s1) (fun f z hz => ?_) (fun f z hz q hqz => ?_) ?_ (fun f z hz hne1 => ?_) ?_
  · rw [hN] at hz
    by_cases e : f = n.fid
    · rw [if_pos e] at hz; cases hz
      obtain ⟨⟨a1, a2, a3, a4⟩, a5, _⟩ := R.at hn0
      exact ⟨⟨a1, a2, a3, a4⟩, by omega⟩
    · rw [if_neg e] at hz
      by_cases e2 : f = d.fid
      · rw [if_pos e2] at hz; cases hz
        obtain ⟨⟨a1, a2, a3, a4⟩, a5, _⟩ := R.at hd
        refine ⟨⟨a1, a2, kl, .inr ⟨hk, ?_, kok_ent hK s n.fid (fun _ => hs)⟩⟩, by omega⟩
        rcases a4 with a4 | a4
        · omega
        · exact a4.2.1
      · rw [if_neg e2] at hz; exact ⟨(R.at hz).1, (R.at hz).2.1⟩
  · have hz' := hz
    rw [hN] at hz'
    by_cases e : f = n.fid
    · rw [if_pos e] at hz'; cases hz'
      obtain ⟨a, b, hb⟩ := R.kids hn0 hqz
      exact ⟨a, new _ (by rw [hb]; rfl)⟩
    · rw [if_neg e] at hz'
      by_cases e2 : f = d.fid
      · rw [if_pos e2] at hz'; cases hz'
        rcases hmem q hqz with h | h
        · obtain ⟨a, b, hb⟩ := R.kids hd h
          exact ⟨a, new _ (by rw [hb]; rfl)⟩
        · rw [h]; exact ⟨hn1, new _ (by rw [hn0]; rfl)⟩
      · rw [if_neg e2] at hz'
        obtain ⟨a, b, hb⟩ := R.kids hz' hqz
        exact ⟨a, new _ (by rw [hb]; rfl)⟩
  · obtain ⟨r, hr, h1, h2⟩ := R.root
    rw [hN, if_neg (fun e => hn1 e.symm)]
    by_cases e : (1 : Int) = d.fid
    · rw [if_pos e]
      rw [← e, hr] at hd
      cases hd
      exact ⟨_, rfl, h1, h2⟩
    · rw [if_neg e]; exact ⟨r, hr, h1, h2⟩
  · rw [hc]
    rw [hN] at hz
    by_cases e : f = n.fid
    · rw [if_pos e] at hz; cases hz
      obtain ⟨b1, b2, _⟩ := R.links hn0 hn1
      rw [e, if_pos rfl]
      exact ⟨by omega, by show n.ln + 1 = _; rw [b2]; push_cast; omega, fun h => absurd h hnk⟩
    · rw [if_neg e] at hz
      rw [if_neg (fun h => e h.symm)]
      by_cases e2 : f = d.fid
      · rw [if_pos e2] at hz; cases hz
        have := R.links hd (by rw [← e2]; exact hne1)
        rw [e2]; exact this
      · rw [if_neg e2] at hz
        exact R.links hz hne1
  · obtain ⟨r, hr⟩ := R.rank
    refine ⟨r, fun f g hE => ?_⟩
    obtain ⟨x, dd, h1, ⟨q, hqx, eq⟩, h3, h4⟩ := hE
    have hgd : ∃ e, getF l g = some e ∧ e.k = 2 := by
      rw [hN] at h3
      by_cases e3 : g = n.fid
      · rw [if_pos e3] at h3; cases h3; exact absurd h4 hnk
      · rw [if_neg e3] at h3
        by_cases e4 : g = d.fid
        · exact ⟨d, by rw [e4]; exact hd, hk⟩
        · rw [if_neg e4] at h3; exact ⟨dd, h3, h4⟩
    obtain ⟨e5, h5, h6⟩ := hgd
    have hgn : g ≠ n.fid := fun e => by rw [e, hn0] at h5; cases h5; exact hnk h6
    rw [hN] at h1
    by_cases e : f = n.fid
    · rw [if_pos e] at h1; cases h1
      exact hr f g ⟨n, e5, by rw [e]; exact hn0, ⟨q, hqx, eq⟩, h5, h6⟩
    · rw [if_neg e] at h1
      by_cases e2 : f = d.fid
      · rw [if_pos e2] at h1; cases h1
        rcases hmem q hqx with h | h
        · exact hr f g ⟨d, e5, by rw [e2]; exact hd, ⟨q, h, eq⟩, h5, h6⟩
        · rw [h] at eq; exact absurd eq.symm hgn
      · rw [if_neg e2] at h1
        exact hr f g ⟨x, e5, h1, ⟨q, hqx, eq⟩, h5, h6⟩
/-- An entry is taken away; a node without any goes. -/
theorem Rt.unlink {l : List Nd} (R : Rt l) {d n : Nd} {s : ByteArray} (hd : getF l d.fid = some d) (hq : kq d.ks s = some ⟨s, n.fid⟩) (hn0 : getF l n.fid = some n) (hnk : n.ks = []) :
    Rt (lessL (setL l (d.kids none 0 (entL d.ks s 0))) n) := by
  have hqm := (kq_some hq).1
  have hk := R.isdir hd hqm
  have hne : n.fid ≠ d.fid := R.self hd hqm
  have hn1 : n.fid ≠ 1 := (R.kids hd hqm).1
  have s1 := srt_set (d.kids none 0 (entL d.ks s 0)) R.srt
  have hN1 : ∀ g, getF (setL l (d.kids none 0 (entL d.ks s 0))) g = if g = d.fid then some (d.kids none 0 (entL d.ks s 0)) else getF l g := fun g => by rw [getF_set]; rfl
  have hK := R.kok hd hk
  have hkk := hK.1
  have hcd : ∀ g, cK g (entL d.ks s 0) + (if n.fid = g then 1 else 0) = cK g d.ks := fun g => by
    have := cK_ent g s 0 hkk
    rw [hq] at this
    simpa [Option.elim] using this
  have hc1 : ∀ g, cT g (setL l (d.kids none 0 (entL d.ks s 0))) + (if n.fid = g then 1 else 0) = cT g l := fun g => by
    have h2 := cT_set g (d.kids none 0 (entL d.ks s 0)) R.srt
    rw [show (d.kids none 0 (entL d.ks s 0)).fid = d.fid from rfl, hd] at h2
    simp only [Option.elim] at h2
    have e1 : cN g (d.kids none 0 (entL d.ks s 0)) + (if n.fid = g then 1 else 0) = cK g d.ks := hcd g
    have e2 : cN g d = cK g d.ks := rfl
    omega
  have hmem : ∀ q, q ∈ entL d.ks s 0 → q ∈ d.ks ∧ q.nm ≠ s := fun q h => by
    rw [entL_zero, List.mem_filter] at h
    exact ⟨h.1, by simpa using h.2⟩
  have hlen1 : (setL l (d.kids none 0 (entL d.ks s 0))).length = l.length := by
    have h2 := len_set (d.kids none 0 (entL d.ks s 0)) R.srt
    rw [show (d.kids none 0 (entL d.ks s 0)).fid = d.fid from rfl, hd] at h2
    simp only [Option.elim] at h2
    omega
  have kl : (entL d.ks s 0).length ≤ 12 := by
    rw [entL_zero]
    exact Nat.le_trans (List.length_filter_le _ _) (R.at hd).1.2.2.1
  obtain ⟨b1, b2, b3⟩ := R.links hn0 hn1
  have hcn : ∀ g, cN g n = 0 := fun g => by unfold cN; rw [hnk]; rfl
  have okd : NOk (d.kids none 0 (entL d.ks s 0)) := by
    obtain ⟨⟨a1, a2, a3, a4⟩, a5, _⟩ := R.at hd
    refine ⟨a1, a2, kl, .inr ⟨hk, ?_, kok_ent hK s 0 (fun h => absurd rfl h)⟩⟩
    rcases a4 with a4 | a4
    · omega
    · exact a4.2.1
  obtain ⟨r0, hr0, hr1, hr2⟩ := R.root
  obtain ⟨rk, hrk⟩ := R.rank
  have hN1n : getF (setL l (d.kids none 0 (entL d.ks s 0))) n.fid = some n := by rw [hN1, if_neg hne]; exact hn0
  unfold lessL
  by_cases hl : n.ln = 1
  · rw [if_pos hl]
    have hN : ∀ g, getF (outL (setL l (d.kids none 0 (entL d.ks s 0))) n.fid) g = if g = n.fid then none else if g = d.fid then some (d.kids none 0 (entL d.ks s 0)) else getF l g := fun g => by rw [getF_out, hN1]
    have hc : ∀ g, cT g (outL (setL l (d.kids none 0 (entL d.ks s 0))) n.fid) + (if n.fid = g then 1 else 0) = cT g l := fun g => by
      have h1 := cT_out g n.fid s1
      rw [hN1n] at h1
      simp only [Option.elim] at h1
      have := hcn g
      have := hc1 g
      omega
    have hz0 : cT n.fid (outL (setL l (d.kids none 0 (entL d.ks s 0))) n.fid) = 0 := by
      have := hc n.fid
      rw [if_pos rfl] at this
      omega
    have hlen : (outL (setL l (d.kids none 0 (entL d.ks s 0))) n.fid).length ≤ l.length := by rw [← hlen1]; exact outL_len2 _ _
    refine Rt.of (by have := R.few; omega) (srt_out _ s1) (fun f z hz => ?_) (fun f z hz q hqz => ?_) ?_ (fun f z hz hne1 => ?_) ?_
    · rw [hN] at hz
      by_cases e : f = n.fid
      · rw [if_pos e] at hz; cases hz
      · rw [if_neg e] at hz
        by_cases e2 : f = d.fid
        · rw [if_pos e2] at hz; cases hz; exact ⟨okd, by rw [e2]; exact (R.at hd).2.1⟩
        · rw [if_neg e2] at hz; exact ⟨(R.at hz).1, (R.at hz).2.1⟩
    · have hpos := cT_mem hz hqz
      have hqn : q.fid ≠ n.fid := fun e => by rw [e, hz0] at hpos; omega
      rw [hN] at hz
      by_cases e : f = n.fid
      · rw [if_pos e] at hz; cases hz
      · rw [if_neg e] at hz
        have key : q.fid ≠ 1 ∧ ∃ y, getF l q.fid = some y := by
          by_cases e2 : f = d.fid
          · rw [if_pos e2] at hz; cases hz; exact R.kids hd (hmem q hqz).1
          · rw [if_neg e2] at hz; exact R.kids hz hqz
        obtain ⟨a, b, hb⟩ := key
        refine ⟨a, ?_⟩
        rw [hN, if_neg hqn]
        split
        · rfl
        · rw [hb]; rfl
    · rw [hN, if_neg (fun e => hn1 e.symm)]
      by_cases e : (1 : Int) = d.fid
      · rw [if_pos e]
        rw [← e, hr0] at hd
        cases hd
        exact ⟨_, rfl, hr1, hr2⟩
      · rw [if_neg e]; exact ⟨r0, hr0, hr1, hr2⟩
    · have hcf := hc f
      rw [hN] at hz
      by_cases e : f = n.fid
      · rw [if_pos e] at hz; cases hz
      · rw [if_neg e] at hz
        rw [if_neg (fun h => e h.symm)] at hcf
        rw [show cT f (outL (setL l (d.kids none 0 (entL d.ks s 0))) n.fid) = cT f l by omega]
        by_cases e2 : f = d.fid
        · rw [if_pos e2] at hz; cases hz
          have := R.links hd (by rw [← e2]; exact hne1)
          rw [e2]; exact this
        · rw [if_neg e2] at hz
          exact R.links hz hne1
    · refine ⟨rk, fun f g hE => hrk f g (ed_mono (fun f z hz q hqz => ?_) (fun g dd hg hdk => ?_) hE)⟩
      · rw [hN] at hz
        by_cases e : f = n.fid
        · rw [if_pos e] at hz; cases hz
        · rw [if_neg e] at hz
          by_cases e2 : f = d.fid
          · rw [if_pos e2] at hz; cases hz; exact ⟨d, by rw [e2]; exact hd, q, (hmem q hqz).1, rfl⟩
          · rw [if_neg e2] at hz; exact ⟨z, hz, q, hqz, rfl⟩
      · rw [hN] at hg
        by_cases e : g = n.fid
        · rw [if_pos e] at hg; cases hg
        · rw [if_neg e] at hg
          by_cases e2 : g = d.fid
          · exact ⟨d, by rw [e2]; exact hd, hk⟩
          · rw [if_neg e2] at hg; exact ⟨dd, hg, hdk⟩
  · rw [if_neg hl]
    have hnd : n.k ≠ 2 := fun e => hl (by have := b3 e; omega)
    show Rt (setL (setL l (d.kids none 0 (entL d.ks s 0))) (n.lnk (n.ln - 1)))
    have hN : ∀ g, getF (setL (setL l (d.kids none 0 (entL d.ks s 0))) (n.lnk (n.ln - 1))) g = if g = n.fid then some (n.lnk (n.ln - 1)) else if g = d.fid then some (d.kids none 0 (entL d.ks s 0)) else getF l g := fun g => by rw [getF_set, hN1]; rfl
    have hc : ∀ g, cT g (setL (setL l (d.kids none 0 (entL d.ks s 0))) (n.lnk (n.ln - 1))) + (if n.fid = g then 1 else 0) = cT g l := fun g => by
      have h1 := cT_set g (n.lnk (n.ln - 1)) s1
      rw [show (n.lnk (n.ln - 1)).fid = n.fid from rfl, hN1n] at h1
      simp only [Option.elim] at h1
      have e3 : cN g (n.lnk (n.ln - 1)) = cN g n := rfl
      have := hc1 g
      omega
    have hlen : (setL (setL l (d.kids none 0 (entL d.ks s 0))) (n.lnk (n.ln - 1))).length = l.length := by
      have h1 := len_set (n.lnk (n.ln - 1)) s1
      rw [show (n.lnk (n.ln - 1)).fid = n.fid from rfl, hN1n] at h1
      simp only [Option.elim] at h1
      omega
    have new : ∀ g, (getF l g).isSome = true → (getF (setL (setL l (d.kids none 0 (entL d.ks s 0))) (n.lnk (n.ln - 1))) g).isSome = true := fun g h => by
      rw [hN]; split
      · rfl
      · split
        · rfl
        · exact h
    refine Rt.of (by rw [hlen]; exact R.few) (srt_set _ s1) (fun f z hz => ?_) (fun f z hz q hqz => ?_) ?_ (fun f z hz hne1 => ?_) ?_
    · rw [hN] at hz
      by_cases e : f = n.fid
      · rw [if_pos e] at hz; cases hz
        obtain ⟨⟨a1, a2, a3, a4⟩, a5, _⟩ := R.at hn0
        exact ⟨⟨a1, a2, a3, a4⟩, by omega⟩
      · rw [if_neg e] at hz
        by_cases e2 : f = d.fid
        · rw [if_pos e2] at hz; cases hz; exact ⟨okd, by rw [e2]; exact (R.at hd).2.1⟩
        · rw [if_neg e2] at hz; exact ⟨(R.at hz).1, (R.at hz).2.1⟩
    · rw [hN] at hz
      have key : q.fid ≠ 1 ∧ ∃ y, getF l q.fid = some y := by
        by_cases e : f = n.fid
        · rw [if_pos e] at hz; cases hz; exact R.kids hn0 hqz
        · rw [if_neg e] at hz
          by_cases e2 : f = d.fid
          · rw [if_pos e2] at hz; cases hz; exact R.kids hd (hmem q hqz).1
          · rw [if_neg e2] at hz; exact R.kids hz hqz
      obtain ⟨a, b, hb⟩ := key
      exact ⟨a, new _ (by rw [hb]; rfl)⟩
    · rw [hN, if_neg (fun e => hn1 e.symm)]
      by_cases e : (1 : Int) = d.fid
      · rw [if_pos e]
        rw [← e, hr0] at hd
        cases hd
        exact ⟨_, rfl, hr1, hr2⟩
      · rw [if_neg e]; exact ⟨r0, hr0, hr1, hr2⟩
    · have hcf := hc f
      rw [hN] at hz
      by_cases e : f = n.fid
      · rw [if_pos e] at hz; cases hz
        rw [e, if_pos rfl] at hcf
        rw [e]
        refine ⟨by omega, by show n.ln - 1 = _; omega, fun h => absurd h hnd⟩
      · rw [if_neg e] at hz
        rw [if_neg (fun h => e h.symm)] at hcf
        rw [show cT f (setL (setL l (d.kids none 0 (entL d.ks s 0))) (n.lnk (n.ln - 1))) = cT f l by omega]
        by_cases e2 : f = d.fid
        · rw [if_pos e2] at hz; cases hz
          have := R.links hd (by rw [← e2]; exact hne1)
          rw [e2]; exact this
        · rw [if_neg e2] at hz
          exact R.links hz hne1
    · refine ⟨rk, fun f g hE => hrk f g (ed_mono (fun f z hz q hqz => ?_) (fun g dd hg hdk => ?_) hE)⟩
      · rw [hN] at hz
        by_cases e : f = n.fid
        · rw [if_pos e] at hz; cases hz; exact ⟨n, by rw [e]; exact hn0, q, hqz, rfl⟩
        · rw [if_neg e] at hz
          by_cases e2 : f = d.fid
          · rw [if_pos e2] at hz; cases hz; exact ⟨d, by rw [e2]; exact hd, q, (hmem q hqz).1, rfl⟩
          · rw [if_neg e2] at hz; exact ⟨z, hz, q, hqz, rfl⟩
      · rw [hN] at hg
        by_cases e : g = n.fid
        · rw [if_pos e] at hg; cases hg; exact absurd hdk hnd
        · rw [if_neg e] at hg
          by_cases e2 : g = d.fid
          · exact ⟨d, by rw [e2]; exact hd, hk⟩
          · rw [if_neg e2] at hg; exact ⟨dd, hg, hdk⟩
end Go.Proofs.Ytihgiemgcmpmmaa
namespace Go.Proofs.Ytihgiemgcmpmmaa
set_option linter.unusedVariables false
set_option linter.unusedSimpArgs false
/-- Two nodes with an entry each: there are two. -/
theorem cT_two {m : List Nd} (hs : Srt m) {f b g : Int} {x y : Nd} (hf : getF m f = some x) (hb : getF m b = some y) (hne : f ≠ b) {q r : Kd} (hq : q ∈ x.ks) (hr : r ∈ y.ks) (eq : q.fid = g) (er : r.fid = g) : 2 ≤ cT g m := by
  have h1 := cT_out g b hs
  rw [hb] at h1
  simp only [Option.elim] at h1
  have h2 : 0 < cN g y := wsm_pos hr (by simp [er])
  have h3 : getF (outL m b) f = some x := by rw [getF_out, if_neg hne]; exact hf
  have h4 := cT_mem h3 hq
  rw [eq] at h4
  omega
/-- An entry without one of its name takes another one in: a node that has fewer entries than its number says. -/
theorem Rt.move0 {l : List Nd} (R : Rt l) {a b n : Nd} {s s2 : ByteArray} (ha : getF l a.fid = some a) (hq : kq a.ks s = some ⟨s, n.fid⟩) (hn : getF l n.fid = some n) (hb : getF l b.fid = some b) (hbk : b.k = 2)
    (hs2 : Pa.nameB s2.data.toList = true) (hfree : kq b.ks s2 = none) (hroom : b.fid = a.fid ∨ b.ks.length < 12)
    (hS : n.k = 2 → ∃ S : Int → Prop, S n.fid ∧ ¬ S b.fid ∧ ∀ f g, Ed l f g → g ≠ n.fid → (S f ↔ S g)) (m : List Nd) (hm : Srt m) (hml : m.length = l.length)
    (A B : List Kd) (hA : A = entL a.ks s 0) (hB : B = entL (if b.fid = a.fid then A else b.ks) s2 n.fid)
    (hN : ∀ g, getF m g = if g = b.fid then some (b.kids none 0 B) else if g = a.fid then some (a.kids none 0 A) else getF l g) : Rt m := by
  have hqm := (kq_some hq).1
  have hak := R.isdir ha hqm
  have hna : n.fid ≠ a.fid := R.self ha hqm
  have hn1 : n.fid ≠ 1 := (R.kids ha hqm).1
  have hn0 : n.fid ≠ 0 := by have := (R.at hn).2.1; omega
  have hKa := R.kok ha hak
  have hKb := R.kok hb hbk
  have hab : b.fid = a.fid → b = a := fun e => by rw [e, ha] at hb; exact (Option.some.inj hb).symm
  have hKA : KOk A := by rw [hA]; exact kok_ent hKa s 0 (fun h => absurd rfl h)
  have hK1 : KOk (if b.fid = a.fid then A else b.ks) := by split <;> assumption
  have hKB : KOk B := by rw [hB]; exact kok_ent hK1 s2 n.fid (fun _ => hs2)
  have hq1 : kq (if b.fid = a.fid then A else b.ks) s2 = none := by
    split
    · rename_i e
      rw [hA, kq_ent]
      split
      · rfl
      · rw [← hab e]; exact hfree
    · exact hfree
  have hcA : ∀ g, cK g A + (if n.fid = g then 1 else 0) = cK g a.ks := fun g => by
    have := cK_ent g s 0 hKa.1
    rw [hq, ← hA] at this
    simpa [Option.elim] using this
  have hcB : ∀ g, cK g B = cK g (if b.fid = a.fid then A else b.ks) + (if n.fid = g then 1 else 0) := fun g => by
    have := cK_ent g s2 n.fid hK1.1
    rw [hq1, if_neg hn0, ← hB] at this
    simpa [Option.elim] using this
  have hlA : A.length + 1 = a.ks.length := by
    have := klen_ent s 0 hKa.1
    rw [hq, ← hA] at this
    simpa [Option.elim] using this
  have hlB : B.length ≤ 12 := by
    have := klen_ent s2 n.fid hK1.1
    rw [hq1, if_neg hn0, ← hB] at this
    simp only [Option.elim] at this
    have h12 := (R.at ha).1.2.2.1
    split at this
    · omega
    · rename_i e
      rcases hroom with h | h
      · exact absurd h e
      · omega
  have memA : ∀ q ∈ A, q ∈ a.ks ∧ q.nm ≠ s := fun q h => by
    rw [hA, entL_zero, List.mem_filter] at h
    exact ⟨h.1, by simpa using h.2⟩
  have memB : ∀ q ∈ B, q ∈ b.ks ∨ q = ⟨s2, n.fid⟩ := fun q h => by
    rw [hB] at h
    rcases entL_mem h with e | e
    · exact .inr e
    · left
      split at e
      · rename_i e2; rw [hab e2]; exact (memA q e).1
      · exact e
  have inB : (⟨s2, n.fid⟩ : Kd) ∈ B := by
    have : kq B s2 = some ⟨s2, n.fid⟩ := by rw [hB, kq_ent, if_pos rfl, if_neg hn0]
    exact (kq_some this).1
  -- counts
  have hc : ∀ g, cT g m = cT g l := fun g => by
    by_cases e : b.fid = a.fid
    · have hmE : m = setL l (b.kids none 0 B) := srt_ext hm (srt_set _ R.srt) (fun g => by
        rw [hN, getF_set]
        show _ = if g = b.fid then some (b.kids none 0 B) else getF l g
        by_cases e1 : g = b.fid
        · rw [if_pos e1, if_pos e1]
        · rw [if_neg e1, if_neg e1, if_neg (by rw [← e]; exact e1)])
      have h1 := cT_set g (b.kids none 0 B) R.srt
      rw [← hmE, show (b.kids none 0 B).fid = b.fid from rfl, hb] at h1
      simp only [Option.elim] at h1
      have e2 : cN g (b.kids none 0 B) = cK g B := rfl
      have e3 : cN g b = cK g a.ks := by rw [hab e]; rfl
      have h2 := hcB g
      rw [if_pos e] at h2
      have h3 := hcA g
      omega
    · have hmE : m = setL (setL l (a.kids none 0 A)) (b.kids none 0 B) := srt_ext hm (srt_set _ (srt_set _ R.srt)) (fun g => by
        rw [hN, getF_set, getF_set]
        rfl)
      have h1 := cT_set g (b.kids none 0 B) (srt_set (a.kids none 0 A) R.srt)
      have h4 := cT_set g (a.kids none 0 A) R.srt
      rw [← hmE, show (b.kids none 0 B).fid = b.fid from rfl, getF_set, if_neg (show b.fid ≠ (a.kids none 0 A).fid from e), hb] at h1
      rw [show (a.kids none 0 A).fid = a.fid from rfl, ha] at h4
      simp only [Option.elim] at h1 h4
      have e2 : cN g (b.kids none 0 B) = cK g B := rfl
      have e3 : cN g b = cK g b.ks := rfl
      have e4 : cN g (a.kids none 0 A) = cK g A := rfl
      have e5 : cN g a = cK g a.ks := rfl
      have h2 := hcB g
      rw [if_neg e] at h2
      have h3 := hcA g
      omega
  have old : ∀ f z, getF m f = some z → ∃ z0, getF l f = some z0 ∧ z.k = z0.k ∧ z.ln = z0.ln := fun f z hz => by
    rw [hN] at hz
    by_cases e : f = b.fid
    · rw [if_pos e] at hz; cases hz; exact ⟨b, by rw [e]; exact hb, rfl, rfl⟩
    · rw [if_neg e] at hz
      by_cases e2 : f = a.fid
      · rw [if_pos e2] at hz; cases hz; exact ⟨a, by rw [e2]; exact ha, rfl, rfl⟩
      · rw [if_neg e2] at hz; exact ⟨z, hz, rfl, rfl⟩
  have new : ∀ g, (getF l g).isSome = true → (getF m g).isSome = true := fun g h => by
    rw [hN]; split
    · rfl
    · split
      · rfl
      · exact h
  have oldk : ∀ f z, getF m f = some z → ∀ q ∈ z.ks, (∃ z0, getF l f = some z0 ∧ q ∈ z0.ks) ∨ (f = b.fid ∧ q = ⟨s2, n.fid⟩) := fun f z hz q hqz => by
    rw [hN] at hz
    by_cases e : f = b.fid
    · rw [if_pos e] at hz; cases hz
      rcases memB q hqz with h | h
      · exact .inl ⟨b, by rw [e]; exact hb, h⟩
      · exact .inr ⟨e, h⟩
    · rw [if_neg e] at hz
      by_cases e2 : f = a.fid
      · rw [if_pos e2] at hz; cases hz; exact .inl ⟨a, by rw [e2]; exact ha, (memA q hqz).1⟩
      · rw [if_neg e2] at hz; exact .inl ⟨z, hz, hqz⟩
  have zsN : ∀ {d : Nd}, getF l d.fid = some d → d.k = 2 → d.zs = [] := fun {d} hd hk => by
    obtain ⟨⟨_, _, _, a4⟩, _⟩ := R.at hd
    rcases a4 with a4 | a4
    · omega
    · exact a4.2.1
  refine Rt.of (by rw [hml]; exact R.few) hm (fun f z hz => ?_) (fun f z hz q hqz => ?_) ?_ (fun f z hz hne1 => ?_) ?_
  · have hz' := hz
    rw [hN] at hz
    by_cases e : f = b.fid
    · rw [if_pos e] at hz; cases hz
      obtain ⟨⟨a1, a2, a3, a4⟩, a5, _⟩ := R.at hb
      exact ⟨⟨a1, a2, hlB, .inr ⟨hbk, (show b.zs = [] from zsN hb hbk), hKB⟩⟩, by omega⟩
    · rw [if_neg e] at hz
      by_cases e2 : f = a.fid
      · rw [if_pos e2] at hz; cases hz
        obtain ⟨⟨a1, a2, a3, a4⟩, a5, _⟩ := R.at ha
        exact ⟨⟨a1, a2, by show A.length ≤ 12; omega, .inr ⟨hak, (show a.zs = [] from zsN ha hak), hKA⟩⟩, by omega⟩
      · rw [if_neg e2] at hz; exact ⟨(R.at hz).1, (R.at hz).2.1⟩
  · rcases oldk f z hz q hqz with ⟨z0, h0, h1⟩ | ⟨_, h1⟩
    · obtain ⟨a1, y, hy⟩ := R.kids h0 h1
      exact ⟨a1, new _ (by rw [hy]; rfl)⟩
    · rw [h1]; exact ⟨hn1, new _ (by rw [hn]; rfl)⟩
  · obtain ⟨r, hr, h1, h2⟩ := R.root
    have := new 1 (by rw [hr]; rfl)
    obtain ⟨z, hz⟩ := Option.isSome_iff_exists.1 this
    obtain ⟨z0, h0, e1, e2⟩ := old 1 z hz
    rw [hr] at h0
    cases h0
    exact ⟨z, hz, by rw [e1, h1], by rw [e2, h2]⟩
  · obtain ⟨z0, h0, e1, e2⟩ := old f z hz
    rw [hc, e1, e2]
    exact R.links h0 hne1
  · obtain ⟨r, hr⟩ := R.rank
    have hbm : getF m b.fid = some (b.kids none 0 B) := by rw [hN, if_pos rfl]
    have edo : ∀ f g, Ed m f g → g ≠ n.fid ∨ n.k ≠ 2 → Ed l f g := fun f g hE hg => by
      obtain ⟨x, d, h1, ⟨q, hqx, eq⟩, h3, h4⟩ := hE
      obtain ⟨d0, h5, e1, _⟩ := old g d h3
      rcases oldk f x h1 q hqx with ⟨z0, h0, h2⟩ | ⟨_, h2⟩
      · exact ⟨z0, d0, h0, ⟨q, h2, eq⟩, h5, by rw [← e1]; exact h4⟩
      · exfalso
        rw [h2] at eq
        simp only at eq
        rcases hg with hg | hg
        · exact hg eq.symm
        · rw [← eq, hn] at h5
          cases h5
          exact hg (by rw [← e1]; exact h4)
    by_cases hnk : n.k = 2
    · obtain ⟨S, s1, s2', s3⟩ := hS hnk
      classical
      refine ⟨fun x => if S x then r x + (r b.fid + 1) else r x, fun f g hE => ?_⟩
      by_cases eg : g = n.fid
      · have efb : f = b.fid := by
          by_cases e : f = b.fid
          · exact e
          · exfalso
            obtain ⟨x, d, h1, ⟨q, hqx, eq⟩, h3, h4⟩ := hE
            have h2 := cT_two hm h1 hbm e hqx inB (eq.trans eg) rfl
            rw [hc] at h2
            have := (R.links hn hn1).2.2 hnk
            omega
        rw [efb, eg]
        simp only [if_neg s2', if_pos s1]
        omega
      · have h1 := edo f g hE (.inl eg)
        have h2 := hr f g h1
        have h3 := s3 f g h1 eg
        by_cases hf : S f
        · simp only [if_pos hf, if_pos (h3.1 hf)]; omega
        · simp only [if_neg hf, if_neg (fun h => hf (h3.2 h))]; omega
    · exact ⟨r, fun f g hE => hr f g (edo f g hE (.inr hnk))⟩
end Go.Proofs.Ytihgiemgcmpmmaa
namespace Go.Proofs.Ytihgiemgcmpmmaa
set_option linter.unusedVariables false
set_option linter.unusedSimpArgs false
theorem Rt.up {l : List Nd} (R : Rt l) {f g : Int} (h : Ed l f g) : upD l g = f := by
  have hR := (rightD_iff l).2 (rightD_rt.2 R)
  obtain ⟨h1, h2, h3, h4, h5, h6⟩ := hR
  have B : Base l := ⟨h1, h2, h3, h4, h5⟩
  exact B.upOf ((edge_ed h2 f g).2 h)
theorem Rt.reach {l : List Nd} (R : Rt l) {g : Int} {d : Nd} (h : getF l g = some d) (hk : d.k = 2) : abN l 1 (l.length + 1) g = true := by
  have hR := (rightD_iff l).2 (rightD_rt.2 R)
  obtain ⟨h1, h2, h3, h4, h5, h6⟩ := hR
  have B : Base l := ⟨h1, h2, h3, h4, h5⟩
  obtain ⟨i, hi, e⟩ := List.getElem_of_mem (getF_mem h).1
  have h7 := (ring_ab B).1 h6 i hi
  rw [getD_at hi, e] at h7
  unfold lkU at h7
  have e2 : (d.k == 2) = true := by rw [hk]; rfl
  rw [e2, (getF_mem h).2] at h7
  simpa using h7
theorem Rt.up1 {l : List Nd} (R : Rt l) : upD l 1 = 0 := by
  by_cases e : upD l 1 = 0
  · exact e
  · obtain ⟨i, hi, _, j, hj, ej⟩ := upK_ne l 1 l.length e
    rw [getD_at hi] at hj ej
    have hm := kgetD hj
    rw [hm] at ej
    exact absurd ej (R.kid _ (List.getElem_mem hi) _ (List.getElem_mem hj)).1
theorem ab_up {l : List Nd} (h1 : upD l 1 = 0) (f : Int) : ∀ (N k : Nat) (g : Int), abN l 1 N g = true → abN l f k g = true → abN l f N g = true
  | 0, _, _, h, _ => by cases h
  | N + 1, 0, _, _, h => by cases h
  | N + 1, k + 1, g, h, h2 => by
    unfold abN at h h2 ⊢
    cases q : (g == f) with
    | true => rfl
    | false =>
      rw [q] at h2
      simp only [cond_false] at h2 ⊢
      cases q2 : (upD l g == 0) with
      | true => rw [q2] at h2; cases h2
      | false =>
        rw [q2] at h h2
        simp only [cond_false] at h h2 ⊢
        cases q3 : (g == 1) with
        | true =>
          have := eq_of_beq q3
          rw [this, h1] at q2
          cases q2
        | false =>
          rw [q3] at h
          exact ab_up h1 f N k _ h h2
/-- What lies below a directory: the entries' way leads there and back. -/
theorem Rt.below {l : List Nd} (R : Rt l) {n b : Int} {d : Nd} (hb : getF l b = some d) (hk : d.k = 2) (hno : abN l n (l.length + 1) b ≠ true) :
    ∃ S : Int → Prop, S n ∧ ¬ S b ∧ ∀ f g, Ed l f g → g ≠ n → (S f ↔ S g) := by
  refine ⟨fun g => ∃ k, abN l n k g = true, ⟨1, by simp [abN]⟩, fun ⟨k, h⟩ => hno (ab_up R.up1 n _ k b (R.reach hb hk) h), fun f g hE hne => ?_⟩
  have hu := R.up hE
  have hf0 : f ≠ 0 := by
    obtain ⟨x, d, hx, _⟩ := hE
    have := (R.at hx).2.1
    omega
  constructor
  · rintro ⟨k, h⟩
    refine ⟨k + 1, ?_⟩
    unfold abN
    rw [hu, beq_eq_false_iff_ne.2 hne, beq_eq_false_iff_ne.2 hf0]
    exact h
  · rintro ⟨k, h⟩
    cases k with
    | zero => cases h
    | succ k =>
      unfold abN at h
      rw [hu, beq_eq_false_iff_ne.2 hne, beq_eq_false_iff_ne.2 hf0] at h
      exact ⟨k, h⟩
/-- A node's fid alone. -/
def Nd.only (x : Nd) : Nd := ⟨x.fid, 0, 0, 0, none, 0, [], none, 0, []⟩
theorem len_same {l m : List Nd} (hl : Srt l) (hm : Srt m) (h : ∀ g, (getF l g).isSome = (getF m g).isSome) : l.length = m.length := by
  have hg : ∀ (l : List Nd) (g : Int), getF (l.map Nd.only) g = (getF l g).map Nd.only := fun l g => by
    unfold getF
    rw [List.find?_map]
    rfl
  have hs : ∀ {l : List Nd}, Srt l → Srt (l.map Nd.only) := fun {l} h => by
    unfold Srt Ris at h ⊢
    rw [List.pairwise_map]
    exact h
  have := srt_ext (hs hl) (hs hm) (fun g => by
    rw [hg, hg]
    have := h g
    cases e1 : getF l g with
    | none =>
      cases e2 : getF m g with
      | none => rfl
      | some y => rw [e1, e2] at this; cases this
    | some x =>
      cases e2 : getF m g with
      | none => rw [e1, e2] at this; cases this
      | some y =>
        have a1 := (getF_mem e1).2
        have a2 := (getF_mem e2).2
        simp only [Option.map_some, Nd.only, a1, a2])
  simpa using congrArg List.length this
theorem getF_less (l : List Nd) (x : Nd) (g : Int) : getF (lessL l x) g = if g = x.fid then (if x.ln = 1 then none else some (x.lnk (x.ln - 1))) else getF l g := by
  unfold lessL
  split
  · rw [getF_out]
  · rw [getF_set]; rfl
theorem srt_less {l : List Nd} (x : Nd) (h : Srt l) : Srt (lessL l x) := by
  unfold lessL
  split
  · exact srt_out _ h
  · exact srt_set _ h
/-- What is found in the tree behind a Rename. -/
theorem getF_moved (l : List Nd) (o : Rec) (f : Int) (d : List Nd) {a b : Nd} (ha : getF d o.dir = some a) (hb : getF d o.to = some b) (g : Int) :
    getF (movedL l o f d) g = if g = o.to then some (b.kids none 0 (entL (if o.to = o.dir then entL a.ks o.nm 0 else b.ks) o.nm2 f)) else if g = o.dir then some (a.kids none 0 (entL a.ks o.nm 0)) else getF d g := by
  have fa := (getF_mem ha).2
  have fb := (getF_mem hb).2
  unfold movedL
  rw [ha]
  simp only [Option.getD_some]
  have e1 : ∀ g, getF (setL d (a.kids none 0 (entL a.ks o.nm 0))) g = if g = o.dir then some (a.kids none 0 (entL a.ks o.nm 0)) else getF d g := fun g => by
    rw [getF_set]; show (if g = a.fid then _ else _) = _; rw [fa]
  by_cases e : o.to = o.dir
  · have hab : b = a := by rw [e, ha] at hb; exact (Option.some.inj hb).symm
    subst hab
    rw [e1 o.to, if_pos e]
    simp only [Option.getD_some]
    rw [getF_set, if_pos e]
    show (if g = b.fid then _ else _) = _
    rw [fa, e]
    by_cases e2 : g = o.dir
    · rw [if_pos e2, if_pos e2]; rfl
    · rw [if_neg e2, if_neg e2, e1, if_neg e2]
  · rw [e1 o.to, if_neg e, hb]
    simp only [Option.getD_some]
    rw [getF_set, if_neg e]
    show (if g = b.fid then _ else _) = _
    rw [fb]
    by_cases e2 : g = o.to
    · rw [if_pos e2, if_pos e2]
    · rw [if_neg e2, if_neg e2, e1]
theorem srt_moved {l : List Nd} {o : Rec} {f : Int} {d : List Nd} (h : Srt d) : Srt (movedL l o f d) := srt_set _ (srt_set _ h)
/-- A Rename that can be done: what was there. -/
theorem rename_ok {l : List Nd} (R : Rt l) {o : Rec} (h : (renameL l o).1 = 0) : (renameL l o).2 = l ∨ ∃ a b n, getF l o.dir = some a ∧ getF l o.to = some b ∧ a.k = 2 ∧ b.k = 2 ∧ getF l n.fid = some n ∧ kq a.ks o.nm = some ⟨o.nm, n.fid⟩ ∧
    (n.k = 2 → abN l n.fid (l.length + 1) o.to ≠ true) ∧
    ((kq b.ks o.nm2 = none ∧ (o.to = o.dir ∨ b.ks.length < 12) ∧ (renameL l o).2 = movedL l o n.fid l) ∨
      ∃ y, kq b.ks o.nm2 = some ⟨o.nm2, y.fid⟩ ∧ getF l y.fid = some y ∧ y.fid ≠ n.fid ∧ y.ks = [] ∧ (renameL l o).2 = movedL l o n.fid (lessL l y)) := by
  unfold renameL at h ⊢
  by_cases c1 : lookE (getF l o.dir) o.nm ≠ 0
  · rw [if_pos c1] at h; exact absurd h c1
  rw [if_neg c1] at h ⊢
  by_cases c2 : dirE (getF l o.to) ≠ 0
  · rw [if_pos c2] at h; exact absurd h c2
  rw [if_neg c2] at h ⊢
  obtain ⟨a1, a2, a3, a4⟩ := lookE_ok (Decidable.not_not.1 c1)
  obtain ⟨b1, b2⟩ := dirE_ok (Decidable.not_not.1 c2)
  generalize (getF l o.dir).getD Nd.no = a at a1 a2 a3 a4
  generalize dirN (getF l o.to) = b at *
  rw [a3] at a4 h ⊢
  have hka := R.kok a1 a2
  have hkb := R.kok b1 b2
  obtain ⟨q, hq, hqs, hqf⟩ : ∃ q, q ∈ a.ks ∧ q.nm = o.nm ∧ kidI a.ks o.nm = q.fid := kidI_mem a4
  have hkq : kq a.ks o.nm = some q := by rw [← hqs]; exact ksrt_get hka.1 hq
  obtain ⟨_, n, hn⟩ := R.kids a1 hq
  have fn := (getF_mem hn).2
  have eq : q = ⟨o.nm, n.fid⟩ := by
    cases q; simp only at hqs fn; rw [hqs, fn]
  rw [hqf, ← fn] at h ⊢
  rw [← fn] at hn
  rw [hn] at h ⊢
  simp only [Option.getD_some] at h ⊢
  by_cases c3 : n.k = 2 ∧ abN l n.fid (l.length + 1) o.to = true
  · rw [if_pos c3] at h; cases h
  rw [if_neg c3] at h ⊢
  by_cases c4 : kidI b.ks o.nm2 = n.fid
  · rw [if_pos c4]; exact .inl rfl
  rw [if_neg c4] at h ⊢
  right
  have hno : n.k = 2 → abN l n.fid (l.length + 1) o.to ≠ true := fun e e2 => c3 ⟨e, e2⟩
  cases hk2 : kq b.ks o.nm2 with
  | none =>
    have e0 : kidI b.ks o.nm2 = 0 := by rw [kidI_kq, hk2]; rfl
    have g0 : getF l 0 = none := by
      cases e : getF l 0 with
      | none => rfl
      | some z => have := (R.at e).2.1; omega
    rw [e0, g0] at h ⊢
    simp only [Option.isSome_none, Bool.false_and, Bool.not_false, Bool.true_and, if_neg (show ¬ (false = true) by decide)] at h ⊢
    by_cases c5 : (o.to != o.dir && decide (12 ≤ b.ks.length)) = true
    · rw [if_pos c5] at h; cases h
    rw [if_neg c5]
    refine ⟨a, b, n, a1, b1, a2, b2, hn, by rw [hkq, eq], hno, .inl ⟨hk2, ?_, rfl⟩⟩
    by_cases e : o.to = o.dir
    · exact .inl e
    · right
      simp only [Bool.and_eq_true, bne_iff_ne, decide_eq_true_eq, not_and] at c5
      have := c5 e
      omega
  | some r =>
    obtain ⟨r1, r2⟩ := kq_some hk2
    obtain ⟨_, y, hy⟩ := R.kids b1 r1
    have fy := (getF_mem hy).2
    have e0 : kidI b.ks o.nm2 = y.fid := by rw [kidI_kq, hk2, fy]; rfl
    rw [← fy] at hy
    rw [e0] at c4
    rw [e0, hy] at h ⊢
    simp only [Option.isSome_some, Option.getD_some, Bool.true_and, Bool.not_true, Bool.false_and, if_neg (show ¬ (false = true) by decide)] at h ⊢
    by_cases c5 : (y.k == 2 && n.k != 2) = true
    · rw [if_pos c5] at h; cases h
    rw [if_neg c5] at h ⊢
    by_cases c6 : (y.k != 2 && n.k == 2) = true
    · rw [if_pos c6] at h; cases h
    rw [if_neg c6] at h ⊢
    by_cases c7 : decide (0 < y.ks.length) = true
    · rw [if_pos c7] at h; cases h
    rw [if_neg c7]
    refine ⟨a, b, n, a1, b1, a2, b2, hn, by rw [hkq, eq], hno, .inr ⟨y, ?_, hy, c4, ?_, rfl⟩⟩
    · rw [hk2]; cases r; simp only at r2 fy; rw [r2, fy]
    · have : ¬ 0 < y.ks.length := by simpa using c7
      exact List.length_eq_zero_iff.1 (by omega)
theorem Rt.rename {l : List Nd} (R : Rt l) {o : Rec} (hs2 : Pa.nameB o.nm2.data.toList = true) (h : (renameL l o).1 = 0) : Rt (renameL l o).2 := by
  rcases rename_ok R h with e | ⟨a, b, n, ha, hb, hak, hbk, hn, hq, hno, h2⟩
  · rw [e]; exact R
  have fa := (getF_mem ha).2
  have fb := (getF_mem hb).2
  have hS : n.k = 2 → ∃ S : Int → Prop, S n.fid ∧ ¬ S b.fid ∧ ∀ f g, Ed l f g → g ≠ n.fid → (S f ↔ S g) := fun e => by
    rw [fb]; exact R.below hb hbk (hno e)
  rcases h2 with ⟨hk2, hroom, e⟩ | ⟨y, hk2, hy, hyn, hyk, e⟩
  · rw [e]
    have hG := getF_moved l o n.fid l ha hb
    have hm := srt_moved (l := l) (o := o) (f := n.fid) R.srt
    rw [← fa, ← fb] at hG
    have hroom2 : b.fid = a.fid ∨ b.ks.length < 12 := by rw [fa, fb]; exact hroom
    rw [← fa] at ha
    rw [← fb] at hb
    refine R.move0 ha hq hn hb hbk hs2 hk2 hroom2 hS _ hm (len_same hm R.srt (fun g => ?_)) _ _ rfl rfl hG
    rw [hG]
    split
    · rename_i e; rw [e, hb]; rfl
    · split
      · rename_i e; rw [e, ha]; rfl
      · rfl
  · rw [e]
    have hb' := hb
    have ha' := ha
    rw [← fb] at hb'
    rw [← fa] at ha'
    have hR0 := R.unlink hb' hk2 hy hyk
    have hqm := (kq_some hq).1
    have hka := R.kok ha hak
    have hkb := R.kok hb hbk
    have hyb : y.fid ≠ b.fid := R.self hb' (kq_some hk2).1
    have hya : y.fid ≠ a.fid := fun e => by
      rw [e, ha'] at hy
      cases hy
      rw [hyk] at hqm
      cases hqm
    have hL0 : ∀ g, getF (lessL (setL l (b.kids none 0 (entL b.ks o.nm2 0))) y) g = if g = y.fid then (if y.ln = 1 then none else some (y.lnk (y.ln - 1))) else if g = b.fid then some (b.kids none 0 (entL b.ks o.nm2 0)) else getF l g := fun g => by
      rw [getF_less, getF_set]; rfl
    have hG := getF_moved l o n.fid (lessL l y) (a := a) (b := b) (by rw [getF_less, if_neg (by rw [← fa]; exact hya.symm)]; exact ha) (by rw [getF_less, if_neg (by rw [← fb]; exact hyb.symm)]; exact hb)
    have hm := srt_moved (l := l) (o := o) (f := n.fid) (srt_less y R.srt)
    rw [← fa, ← fb] at hG
    generalize movedL l o n.fid (lessL l y) = m at hG hm ⊢
    generalize lessL (setL l (b.kids none 0 (entL b.ks o.nm2 0))) y = l0 at hR0 hL0
    have hnm : b.fid = a.fid → o.nm ≠ o.nm2 := fun e1 e2 => by
      rw [e1, ha'] at hb'
      cases hb'
      rw [e2, hk2] at hq
      exact hyn (congrArg Kd.fid (Option.some.inj hq))
    have hnb : n.fid ≠ b.fid ∨ n.fid = b.fid := by omega
    have hnn : ∃ n', getF l0 n.fid = some n' ∧ n'.fid = n.fid ∧ n'.k = n.k := by
      rw [hL0, if_neg hyn.symm]
      by_cases e1 : n.fid = b.fid
      · rw [if_pos e1]
        refine ⟨_, rfl, e1.symm, ?_⟩
        rw [e1, hb'] at hn
        cases hn
        rfl
      · rw [if_neg e1]; exact ⟨n, hn, rfl, rfl⟩
    obtain ⟨n', hn', fn', kn'⟩ := hnn
    have hedge : ∀ f g, Ed l0 f g → Ed l f g := fun f g hE => ed_mono (fun f x hx q hqx => by
      rw [hL0] at hx
      by_cases e1 : f = y.fid
      · rw [if_pos e1] at hx
        exfalso
        split at hx
        · cases hx
        · cases hx
          rw [show (y.lnk (y.ln - 1)).ks = y.ks from rfl, hyk] at hqx
          cases hqx
      · rw [if_neg e1] at hx
        by_cases e2 : f = b.fid
        · rw [if_pos e2] at hx
          cases hx
          rw [show (b.kids none 0 (entL b.ks o.nm2 0)).ks = entL b.ks o.nm2 0 from rfl, entL_zero, List.mem_filter] at hqx
          exact ⟨b, by rw [e2]; exact hb', q, hqx.1, rfl⟩
        · rw [if_neg e2] at hx
          exact ⟨x, hx, q, hqx, rfl⟩) (fun g d hd hk => by
      rw [hL0] at hd
      by_cases e1 : g = y.fid
      · rw [if_pos e1] at hd
        split at hd
        · cases hd
        · cases hd
          exact ⟨y, by rw [e1]; exact hy, hk⟩
      · rw [if_neg e1] at hd
        by_cases e2 : g = b.fid
        · rw [if_pos e2] at hd
          cases hd
          exact ⟨b, by rw [e2]; exact hb', hbk⟩
        · rw [if_neg e2] at hd
          exact ⟨d, hd, hk⟩) hE
    have hS0 : n'.k = 2 → ∃ S : Int → Prop, S n'.fid ∧ ¬ S b.fid ∧ ∀ f g, Ed l0 f g → g ≠ n'.fid → (S f ↔ S g) := fun e => by
      obtain ⟨S, s1, s2, s3⟩ := hS (by rw [← kn']; exact e)
      rw [fn']
      exact ⟨S, s1, s2, fun f g hE => s3 f g (hedge f g hE)⟩
    have hb0 : getF l0 b.fid = some (b.kids none 0 (entL b.ks o.nm2 0)) := by rw [hL0, if_neg hyb.symm, if_pos rfl]
    have hlen : (entL b.ks o.nm2 0).length + 1 = b.ks.length := by
      have := klen_ent o.nm2 0 hkb.1
      rw [hk2] at this
      simpa [Option.elim] using this
    have h12 := (R.at hb).1.2.2.1
    have hsome : ∀ g, (getF m g).isSome = (getF l0 g).isSome := fun g => by
      rw [hG, hL0]
      by_cases e1 : g = b.fid
      · subst e1
        rw [if_pos rfl, if_neg hyb.symm, if_pos rfl]; rfl
      · rw [if_neg e1, if_neg e1]
        by_cases e2 : g = a.fid
        · rw [if_pos e2, if_neg (by rw [e2]; exact hya.symm), e2, ha']; rfl
        · rw [if_neg e2, getF_less]
    have hn0 : n.fid ≠ 0 := by have := (R.at hn).2.1; omega
    by_cases eab : b.fid = a.fid
    · have hab : a = b := by rw [eab, ha'] at hb'; exact Option.some.inj hb'
      subst hab
      have hq0 : kq (a.kids none 0 (entL a.ks o.nm2 0)).ks o.nm = some ⟨o.nm, n'.fid⟩ := by
        show kq (entL a.ks o.nm2 0) o.nm = _
        rw [kq_ent, if_neg (hnm rfl), hq, fn']
      refine hR0.move0 (a := a.kids none 0 (entL a.ks o.nm2 0)) (b := a.kids none 0 (entL a.ks o.nm2 0)) hb0 hq0 (by rw [fn']; exact hn') hb0 hak hs2 (by show kq (entL a.ks o.nm2 0) o.nm2 = none; rw [kq_ent, if_pos rfl, if_pos rfl]) (.inl rfl) hS0 m hm (len_same hm hR0.srt hsome) _ _ rfl rfl (fun g => ?_)
      rw [hG, fn']
      show _ = if g = a.fid then some (a.kids none 0 (entL (if a.fid = a.fid then entL (entL a.ks o.nm2 0) o.nm 0 else entL a.ks o.nm2 0) o.nm2 n.fid)) else if g = a.fid then _ else _
      rw [if_pos rfl, if_pos rfl]
      have : entL (entL a.ks o.nm 0) o.nm2 n.fid = entL (entL (entL a.ks o.nm2 0) o.nm 0) o.nm2 n.fid := ksrt_ext (ksrt_ent _ _ (ksrt_ent _ _ hka.1)) (ksrt_ent _ _ (ksrt_ent _ _ (ksrt_ent _ _ hka.1))) (fun s => by
        simp only [kq_ent]
        by_cases e1 : s = o.nm2
        · rw [if_pos e1, if_pos e1]
        · rw [if_neg e1, if_neg e1, if_neg e1])
      rw [this]
      by_cases e1 : g = a.fid
      · rw [if_pos e1, if_pos e1]
      · rw [if_neg e1, if_neg e1, if_neg e1, if_neg e1, getF_less, hL0, if_neg e1]
    · have ha0 : getF l0 a.fid = some a := by rw [hL0, if_neg hya.symm, if_neg (fun e => eab e.symm)]; exact ha'
      refine hR0.move0 (a := a) (b := b.kids none 0 (entL b.ks o.nm2 0)) ha0 (by rw [fn']; exact hq) (by rw [fn']; exact hn') hb0 hbk hs2 (by show kq (entL b.ks o.nm2 0) o.nm2 = none; rw [kq_ent, if_pos rfl, if_pos rfl]) (.inr (by show (entL b.ks o.nm2 0).length < 12; omega)) hS0 m hm (len_same hm hR0.srt hsome) _ _ rfl rfl (fun g => ?_)
      rw [hG, fn']
      show _ = if g = b.fid then some (b.kids none 0 (entL (if b.fid = a.fid then entL a.ks o.nm 0 else entL b.ks o.nm2 0) o.nm2 n.fid)) else if g = a.fid then _ else _
      rw [if_neg eab, if_neg eab]
      have : entL b.ks o.nm2 n.fid = entL (entL b.ks o.nm2 0) o.nm2 n.fid := ksrt_ext (ksrt_ent _ _ hkb.1) (ksrt_ent _ _ (ksrt_ent _ _ hkb.1)) (fun s => by
        simp only [kq_ent]
        by_cases e1 : s = o.nm2
        · rw [if_pos e1, if_pos e1]
        · rw [if_neg e1, if_neg e1, if_neg e1])
      rw [this]
      by_cases e1 : g = b.fid
      · rw [if_pos e1, if_pos e1]
      · rw [if_neg e1, if_neg e1]
        by_cases e2 : g = a.fid
        · rw [if_pos e2, if_pos e2]
        · rw [if_neg e2, if_neg e2, getF_less, hL0, if_neg e1]
end Go.Proofs.Ytihgiemgcmpmmaa
namespace Go.Proofs.Ytihgiemgcmpmmaa
set_option linter.unusedVariables false
set_option linter.unusedSimpArgs false
theorem rightF_ent {o : Rec} (h : rightF o = true) (hk : pEnt o.k = true) : Pa.nameB o.nm.data.toList = true := by
  unfold rightF at h
  rw [hk] at h
  simp only [Bool.and_eq_true, entF, if_pos] at h
  exact h.2.1.1.1.2
theorem rightF_goal {o : Rec} (h : rightF o = true) (hk : pGoal o.k = true) : Pa.nameB o.nm2.data.toList = true := by
  unfold rightF at h
  rw [hk] at h
  simp only [Bool.and_eq_true, entF, if_pos] at h
  exact h.2.1.1.2.2
theorem rightF_make {o : Rec} (h : rightF o = true) (hk : mkF o.k = true) : o.fid ≠ 0 ∧ o.fid ≠ 1 := by
  unfold rightF at h
  have hp : pFid o.k = true := by
    simp only [mkF, pFid, Bool.or_eq_true] at hk ⊢
    rcases hk with (h | h) | h <;> simp [h]
  rw [hk, hp] at h
  simp only [Bool.and_eq_true, Bool.not_eq_true', Bool.or_eq_false_iff, Bool.true_and, beq_eq_false_iff_ne, bne_eq_false_iff_eq] at h
  obtain ⟨⟨⟨_, h1⟩, h2⟩, _⟩ := h
  refine ⟨?_, h2⟩
  have := h1.symm
  simpa using this
/-- What createL does where it can. -/
theorem create_ok {l : List Nd} (R : Rt l) {o : Rec} (h : (createL l o).1 = 0) : ∃ d, getF l o.dir = some d ∧ d.k = 2 ∧ kq d.ks o.nm = none ∧ getF l o.fid = none ∧ l.length < 40 ∧ d.ks.length < 12 ∧ (createL l o).2 = setL (setL l (d.kids none 0 (entL d.ks o.nm o.fid))) (newN o) := by
  unfold createL at h ⊢
  by_cases c1 : dirE (getF l o.dir) ≠ 0
  · rw [if_pos c1] at h; exact absurd h c1
  rw [if_neg c1] at h ⊢
  obtain ⟨b1, b2⟩ := dirE_ok (Decidable.not_not.1 c1)
  generalize dirN (getF l o.dir) = d at *
  by_cases c2 : kidI d.ks o.nm ≠ 0 ∨ (getF l o.fid).isSome = true
  · rw [if_pos c2] at h; cases h
  rw [if_neg c2] at h ⊢
  by_cases c3 : 40 ≤ l.length ∨ 12 ≤ d.ks.length
  · rw [if_pos c3] at h; cases h
  rw [if_neg c3]
  have hk := R.kok b1 b2
  refine ⟨d, b1, b2, (kq_none_iff (fun q hq => (hk.2 q hq).2) o.nm).1 (by simpa using fun e => c2 (.inl e)), ?_, by omega, by omega, rfl⟩
  cases e : getF l o.fid with
  | none => rfl
  | some x => exact absurd (.inr (by rw [e]; rfl)) c2
theorem Rt.create {l : List Nd} (R : Rt l) {o : Rec} (hr : rightF o = true) (hw : o.Wf) (hk : o.k = 1 ∨ o.k = 2 ∨ o.k = 3) (h : (createL l o).1 = 0) : Rt (createL l o).2 := by
  obtain ⟨d, h1, h2, h3, h4, h5, h6, e⟩ := create_ok R h
  rw [e]
  have hm : mkF o.k = true := by rcases hk with h | h | h <;> rw [h] <;> rfl
  have hp : pEnt o.k = true := by rcases hk with h | h | h <;> rw [h] <;> rfl
  obtain ⟨f0, f1⟩ := rightF_make hr hm
  have fd := (getF_mem h1).2
  rw [← fd] at h1
  have hpos : 0 < o.fid := by have := hw.2.1.1; omega
  have := R.make (n := newN o) (s := o.nm) h1 h2 h3 (rightF_ent hr hp) h6 h5 ?_ h4 f1 hpos rfl rfl
  · exact this
  · refine ⟨f0, ?_, Nat.zero_le _, ?_⟩
    · show (if o.k = 3 then txB o.dt else []).length ≤ 64
      split
      · rw [txB_len]; exact rightF_dt hr
      · exact Nat.zero_le _
    · show (((if o.k = 2 then (2 : Int) else if o.k = 3 then 3 else 1) = 1 ∨ (if o.k = 2 then (2 : Int) else if o.k = 3 then 3 else 1) = 3) ∧ ([] : List Kd) = []) ∨ ((if o.k = 2 then (2 : Int) else if o.k = 3 then 3 else 1) = 2 ∧ (if o.k = 3 then txB o.dt else []) = [] ∧ KOk [])
      rcases hk with h | h | h
      · left; rw [h]; exact ⟨.inl rfl, rfl⟩
      · right; rw [h]; exact ⟨rfl, rfl, List.Pairwise.nil, fun q hq => by cases hq⟩
      · left; rw [h]; exact ⟨.inr rfl, rfl⟩
theorem hard_ok {l : List Nd} (R : Rt l) {o : Rec} (h : (hardL l o).1 = 0) : ∃ d n, getF l o.fid = some n ∧ n.k ≠ 2 ∧ getF l o.dir = some d ∧ d.k = 2 ∧ kq d.ks o.nm = none ∧ d.ks.length < 12 ∧ (hardL l o).2 = setL (setL l (d.kids none 0 (entL d.ks o.nm o.fid))) (n.lnk (n.ln + 1)) := by
  unfold hardL at h ⊢
  cases hn : getF l o.fid with
  | none => rw [hn] at h; cases h
  | some n =>
    rw [hn] at h
    simp only [Option.isSome_some, Option.getD_some, if_neg (show ¬ (true = false) by decide)] at h ⊢
    by_cases c0 : n.k = 2
    · rw [if_pos c0] at h; cases h
    rw [if_neg c0] at h ⊢
    by_cases c1 : dirE (getF l o.dir) ≠ 0
    · rw [if_pos c1] at h; exact absurd h c1
    rw [if_neg c1] at h ⊢
    obtain ⟨b1, b2⟩ := dirE_ok (Decidable.not_not.1 c1)
    generalize dirN (getF l o.dir) = d at *
    by_cases c2 : kidI d.ks o.nm ≠ 0
    · rw [if_pos c2] at h; cases h
    rw [if_neg c2] at h ⊢
    by_cases c3 : 12 ≤ d.ks.length
    · rw [if_pos c3] at h; cases h
    rw [if_neg c3]
    have hk := R.kok b1 b2
    exact ⟨d, n, rfl, c0, b1, b2, (kq_none_iff (fun q hq => (hk.2 q hq).2) o.nm).1 (Decidable.not_not.1 c2), by omega, rfl⟩
theorem Rt.hard {l : List Nd} (R : Rt l) {o : Rec} (hr : rightF o = true) (hk : o.k = 4) (h : (hardL l o).1 = 0) : Rt (hardL l o).2 := by
  obtain ⟨d, n, h1, h2, h3, h4, h5, h6, e⟩ := hard_ok R h
  rw [e]
  have fd := (getF_mem h3).2
  have fn := (getF_mem h1).2
  rw [← fd] at h3
  rw [← fn] at h1 ⊢
  exact R.link h3 h4 h5 (rightF_ent hr (by rw [hk]; rfl)) h6 h1 h2
theorem remove_ok {l : List Nd} (R : Rt l) {o : Rec} (hk : o.k = 5 ∨ o.k = 6) (h : (removeL l o).1 = 0) : ∃ d n, getF l o.dir = some d ∧ d.k = 2 ∧ kq d.ks o.nm = some ⟨o.nm, n.fid⟩ ∧ getF l n.fid = some n ∧ (o.k = 6 ↔ n.k = 2) ∧ n.ks = [] ∧ (removeL l o).2 = lessL (setL l (d.kids none 0 (entL d.ks o.nm 0))) n := by
  unfold removeL at h ⊢
  by_cases c1 : lookE (getF l o.dir) o.nm ≠ 0
  · rw [if_pos c1] at h; exact absurd h c1
  rw [if_neg c1] at h ⊢
  obtain ⟨a1, a2, a3, a4⟩ := lookE_ok (Decidable.not_not.1 c1)
  generalize (getF l o.dir).getD Nd.no = a at a1 a2 a3 a4 h ⊢
  rw [a3] at a4 h ⊢
  have hka := R.kok a1 a2
  obtain ⟨q, hq, hqs, hqf⟩ : ∃ q, q ∈ a.ks ∧ q.nm = o.nm ∧ kidI a.ks o.nm = q.fid := kidI_mem a4
  have hkq : kq a.ks o.nm = some q := by rw [← hqs]; exact ksrt_get hka.1 hq
  obtain ⟨_, n, hn⟩ := R.kids a1 hq
  have fn := (getF_mem hn).2
  have eq : q = ⟨o.nm, n.fid⟩ := by
    cases q; simp only at hqs fn; rw [hqs, fn]
  rw [hqf, hn] at h ⊢
  simp only [Option.getD_some] at h ⊢
  by_cases c2 : o.k = 5 ∧ n.k = 2
  · rw [if_pos c2] at h; cases h
  rw [if_neg c2] at h ⊢
  by_cases c3 : o.k = 6 ∧ n.k ≠ 2
  · rw [if_pos c3] at h; cases h
  rw [if_neg c3] at h ⊢
  by_cases c4 : o.k = 6 ∧ 0 < n.ks.length
  · rw [if_pos c4] at h; cases h
  rw [if_neg c4]
  refine ⟨a, n, a1, a2, by rw [hkq, eq], by rw [fn]; exact hn, ?_, ?_, rfl⟩
  · constructor
    · intro e; exact Decidable.not_not.1 (fun e2 => c3 ⟨e, e2⟩)
    · intro e; rcases hk with h5 | h6
      · exact absurd ⟨h5, e⟩ c2
      · exact h6
  · rcases hk with h5 | h6
    · obtain ⟨⟨_, _, _, b⟩, _⟩ := R.at hn
      rcases b with b | b
      · exact b.2
      · exact absurd ⟨h5, b.1⟩ c2
    · exact List.length_eq_zero_iff.1 (by have : ¬ 0 < n.ks.length := fun e => c4 ⟨h6, e⟩
                                          omega)
theorem Rt.remove {l : List Nd} (R : Rt l) {o : Rec} (hk : o.k = 5 ∨ o.k = 6) (h : (removeL l o).1 = 0) : Rt (removeL l o).2 := by
  obtain ⟨d, n, h1, h2, h3, h4, _, h5, e⟩ := remove_ok R hk h
  rw [e]
  rw [← (getF_mem h1).2] at h1
  exact R.unlink h1 h3 h4 h5
/-- A node's mode, or its data, written. -/
def Nd.wr (n : Nd) (o : Rec) : Nd := if o.k = 9 then ⟨n.fid, n.k, o.md, n.ln, none, 0, n.zs, none, 0, n.ks⟩ else ⟨n.fid, n.k, n.md, n.ln, none, 0, txB o.dt, none, 0, n.ks⟩
theorem write_ok {l : List Nd} {o : Rec} (h : (writeL l o).1 = 0) : ∃ n, getF l o.fid = some n ∧ (o.k = 9 ∨ (n.k ≠ 2 ∧ n.k ≠ 3)) ∧ (writeL l o).2 = setL l (n.wr o) := by
  unfold writeL at h ⊢
  cases hn : getF l o.fid with
  | none => rw [hn] at h; cases h
  | some n =>
    rw [hn] at h
    simp only [Option.isSome_some, Option.getD_some, if_neg (show ¬ (true = false) by decide)] at h ⊢
    by_cases c0 : o.k = 9
    · rw [if_pos c0]; exact ⟨n, rfl, .inl c0, by unfold Nd.wr; rw [if_pos c0]⟩
    rw [if_neg c0] at h ⊢
    by_cases c1 : n.k = 2
    · rw [if_pos c1] at h; cases h
    rw [if_neg c1] at h ⊢
    by_cases c2 : n.k = 3
    · rw [if_pos c2] at h; cases h
    rw [if_neg c2]
    exact ⟨n, rfl, .inr ⟨c1, c2⟩, by unfold Nd.wr; rw [if_neg c0]⟩
theorem Rt.writes {l : List Nd} (R : Rt l) {o : Rec} (hr : rightF o = true) (h : (writeL l o).1 = 0) : Rt (writeL l o).2 := by
  obtain ⟨n, h1, h2, e⟩ := write_ok h
  rw [e]
  have fn := (getF_mem h1).2
  obtain ⟨⟨a1, a2, a3, a4⟩, _⟩ := R.at h1
  rw [← fn] at h1
  unfold Nd.wr
  split
  · exact R.write h1 rfl rfl rfl rfl ⟨a1, a2, a3, a4⟩
  · rename_i c0
    refine R.write h1 rfl rfl rfl rfl ⟨a1, by show (txB o.dt).length ≤ 64; rw [txB_len]; exact rightF_dt hr, a3, ?_⟩
    rcases a4 with a4 | a4
    · exact .inl a4
    · rcases h2 with h2 | h2
      · exact absurd h2 c0
      · exact absurd a4.1 h2.1
/-- A tree stays one. -/
theorem Rt.apply {l : List Nd} (R : Rt l) {o : Rec} (hr : rightF o = true) (hw : o.Wf) (h : (applyL l o).1 = 0) : Rt (applyL l o).2 := by
  unfold applyL at h ⊢
  split
  · rename_i c; rw [if_pos c] at h; exact R.create hr hw c h
  · rename_i c; rw [if_neg c] at h
    split
    · rename_i c; rw [if_pos c] at h; exact R.hard hr c h
    · rename_i c; rw [if_neg c] at h
      split
      · rename_i c; rw [if_pos c] at h; exact R.remove c h
      · rename_i c; rw [if_neg c] at h
        split
        · rename_i c; rw [if_pos c] at h; exact R.rename (rightF_goal hr (by rw [c]; rfl)) h
        · rename_i c; rw [if_neg c] at h; exact R.writes hr h
theorem ApplyL_rt {l : List Nd} {o : Rec} (hw : o.Wf) (h : (ApplyL l o).1 = 0) : Rt (ApplyL l o).2 := by
  unfold ApplyL at h ⊢
  split
  · rename_i c
    rw [if_pos c] at h
    rw [Bool.and_eq_true] at c
    exact (rightD_rt.1 c.1).apply c.2 hw h
  · rename_i c; rw [if_neg c] at h; cases h
theorem foldS_rt {p : List Nd × List Int} {o : Rec} (R : Rt p.1) (hw : o.Wf) : Rt (foldS p o).1 := by
  unfold foldS
  split
  · rename_i e; exact ApplyL_rt hw e
  · exact R
theorem fold_rt : ∀ (ops : List Rec) (p : List Nd × List Int), Rt p.1 → (∀ o ∈ ops, o.Wf) → Rt (ops.foldl foldS p).1
  | [], p, h, _ => h
  | o :: t, p, h, hw => fold_rt t _ (foldS_rt h (hw o (List.mem_cons_self ..))) (fun o ho => hw o (List.mem_cons_of_mem _ ho))
end Go.Proofs.Ytihgiemgcmpmmaa
namespace Go.Proofs.Ytihgiemgcmpmmaa
set_option linter.unusedVariables false
set_option linter.unusedSimpArgs false
/-- Nodes that say nothing of where they lie. -/
def Er (l : List Nd) : Prop := ∀ x ∈ l, x.er = x
theorem er_kids (x : Nd) (K : List Kd) (h : x.er = x) : (x.kids none 0 K).er = x.kids none 0 K := by
  have a : none = x.da := congrArg Nd.da h
  have b : 0 = x.dc := congrArg Nd.dc h
  obtain ⟨_, _, _, _, da, dc, _, _, _, _⟩ := x
  simp only at a b
  subst a b
  rfl
theorem er_lnk (x : Nd) (n : Int) (h : x.er = x) : (x.lnk n).er = x.lnk n := by
  have a : none = x.da := congrArg Nd.da h
  have b : 0 = x.dc := congrArg Nd.dc h
  have c : none = x.ka := congrArg Nd.ka h
  have d : 0 = x.kc := congrArg Nd.kc h
  obtain ⟨_, _, _, _, da, dc, _, ka, kc, _⟩ := x
  simp only at a b c d
  subst a b c d
  rfl
theorem er_wr (x : Nd) (o : Rec) : (x.wr o).er = x.wr o := by unfold Nd.wr; split <;> rfl
theorem er_new (o : Rec) : (newN o).er = newN o := rfl
theorem er_ka {x : Nd} (h : x.er = x) : x.ka = none ∧ x.kc = 0 := ⟨(congrArg Nd.ka h).symm, (congrArg Nd.kc h).symm⟩
theorem Er.get {l : List Nd} (h : Er l) {g : Int} {x : Nd} (hx : getF l g = some x) : x.er = x := h x (getF_mem hx).1
theorem Er.set {l : List Nd} (h : Er l) {n : Nd} (hn : n.er = n) : Er (setL l n) := fun x hx => by
  rw [setL_insR] at hx
  rcases insR_mem Nd.fid leI hx with e | e
  · rw [e]; exact hn
  · exact h x e
theorem Er.out {l : List Nd} (h : Er l) (g : Int) : Er (outL l g) := fun x hx => h x (List.mem_filter.1 hx).1
theorem Er.less {l : List Nd} (h : Er l) {n : Nd} (hn : n.er = n) : Er (lessL l n) := by
  unfold lessL
  split
  · exact h.out _
  · exact h.set (er_lnk n (n.ln - 1) hn)
/-- A node without an entry of a name. -/
def stripN (d : Int) (s : ByteArray) (x : Nd) : Nd := if x.fid = d then x.kids none 0 (entL x.ks s 0) else x
/-- Nodes without a node, and without its entry. -/
def strip (f d : Int) (s : ByteArray) (l : List Nd) : List Nd := (outL l f).map (stripN d s)
theorem stripN_fid (d : Int) (s : ByteArray) (x : Nd) : (stripN d s x).fid = x.fid := by unfold stripN; split <;> rfl
theorem stripN_k (d : Int) (s : ByteArray) (x : Nd) : (stripN d s x).k = x.k := by unfold stripN; split <;> rfl
theorem stripN_ln (d : Int) (s : ByteArray) (x : Nd) : (stripN d s x).ln = x.ln := by unfold stripN; split <;> rfl
theorem stripN_ne {d : Int} {s : ByteArray} {x : Nd} (h : x.fid ≠ d) : stripN d s x = x := by unfold stripN; rw [if_neg h]
theorem stripN_ks (d : Int) (s : ByteArray) (x : Nd) : (stripN d s x).ks = if x.fid = d then entL x.ks s 0 else x.ks := by unfold stripN; split <;> rfl
theorem stripN_len (d : Int) (s : ByteArray) (x : Nd) : (stripN d s x).ks.length ≤ x.ks.length := by
  rw [stripN_ks]
  split
  · rw [entL_zero]; exact List.length_filter_le _ _
  · exact Nat.le_refl _
theorem stripN_kq {d : Int} {s t : ByteArray} {x : Nd} (h : ¬ (x.fid = d ∧ t = s)) : kq (stripN d s x).ks t = kq x.ks t := by
  rw [stripN_ks]
  split
  · rename_i e
    rw [kq_ent, if_neg (fun e2 => h ⟨e, e2⟩)]
  · rfl
theorem stripN_kids {d : Int} {s t : ByteArray} {x : Nd} (g : Int) (h : ¬ (x.fid = d ∧ t = s)) (hk : KSrt x.ks) : stripN d s (x.kids none 0 (entL x.ks t g)) = (stripN d s x).kids none 0 (entL (stripN d s x).ks t g) := by
  by_cases e : x.fid = d
  · have hne : t ≠ s := fun e2 => h ⟨e, e2⟩
    have e2 : (x.kids none 0 (entL x.ks t g)).fid = d := e
    unfold stripN
    rw [if_pos e2, if_pos e]
    have : entL (entL x.ks t g) s 0 = entL (entL x.ks s 0) t g := ksrt_ext (ksrt_ent _ _ (ksrt_ent _ _ hk)) (ksrt_ent _ _ (ksrt_ent _ _ hk)) (fun u => by
      simp only [kq_ent]
      by_cases e1 : u = s
      · subst e1
        simp [hne.symm]
      · rw [if_neg e1]
        by_cases e3 : u = t
        · rw [if_pos e3, if_pos e3]
        · rw [if_neg e3, if_neg e3, if_neg e1])
    show x.kids none 0 (entL (entL x.ks t g) s 0) = x.kids none 0 (entL (entL x.ks s 0) t g)
    rw [this]
  · rw [stripN_ne e, stripN_ne (show (x.kids none 0 (entL x.ks t g)).fid ≠ d from e)]
theorem stripN_lnk (d : Int) (s : ByteArray) (x : Nd) (n : Int) (h : x.fid ≠ d) : stripN d s (x.lnk n) = (stripN d s x).lnk n := by
  rw [stripN_ne h, stripN_ne (show (x.lnk n).fid ≠ d from h)]
theorem getF_strip (f d : Int) (s : ByteArray) (l : List Nd) (g : Int) : getF (strip f d s l) g = if g = f then none else (getF l g).map (stripN d s) := by
  have : getF (strip f d s l) g = (getF (outL l f) g).map (stripN d s) := by
    unfold strip getF
    rw [List.find?_map]
    congr 2
    funext x
    show ((stripN d s x).fid == g) = _
    rw [stripN_fid]
  rw [this, getF_out]
  split <;> rfl
theorem srt_strip {f d : Int} {s : ByteArray} {l : List Nd} (h : Srt l) : Srt (strip f d s l) := by
  have := srt_out f h
  unfold strip Srt Ris at *
  rw [List.pairwise_map]
  refine this.imp (fun {a b} h => ?_)
  rw [stripN_fid, stripN_fid]
  exact h
theorem strip_set {f d : Int} {s : ByteArray} {l : List Nd} {n : Nd} (h : Srt l) (hn : n.fid ≠ f) : strip f d s (setL l n) = setL (strip f d s l) (stripN d s n) :=
  srt_ext (srt_strip (srt_set _ h)) (srt_set _ (srt_strip h)) (fun g => by
    rw [getF_strip, getF_set, getF_set, getF_strip, stripN_fid]
    by_cases e : g = f
    · rw [if_pos e, if_neg (by rw [e]; exact hn.symm), if_pos e]
    · rw [if_neg e, if_neg e]
      split <;> rfl)
theorem strip_own {f d : Int} {s : ByteArray} {l : List Nd} {n : Nd} (h : Srt l) (hn : n.fid = f) : strip f d s (setL l n) = strip f d s l :=
  srt_ext (srt_strip (srt_set _ h)) (srt_strip h) (fun g => by
    rw [getF_strip, getF_set, getF_strip]
    by_cases e : g = f
    · rw [if_pos e, if_pos e]
    · rw [if_neg e, if_neg e, if_neg (by rw [hn]; exact e)])
theorem strip_out {f d : Int} {s : ByteArray} {l : List Nd} {g0 : Int} (h : Srt l) : strip f d s (outL l g0) = outL (strip f d s l) g0 :=
  srt_ext (srt_strip (srt_out _ h)) (srt_out _ (srt_strip h)) (fun g => by
    rw [getF_strip, getF_out, getF_out, getF_strip]
    by_cases e : g = f
    · rw [if_pos e, if_pos e]; simp
    · rw [if_neg e, if_neg e]
      split <;> rfl)
theorem strip_less {f d : Int} {s : ByteArray} {l : List Nd} {n : Nd} (h : Srt l) (hn : n.fid ≠ f) (hd : n.fid ≠ d) : strip f d s (lessL l n) = lessL (strip f d s l) n := by
  unfold lessL
  split
  · exact strip_out h
  · exact (strip_set (n := n.lnk (n.ln - 1)) h hn).trans (by rw [stripN_ne (show (n.lnk (n.ln - 1)).fid ≠ d from hd)]; rfl)
/-- A node that has one entry, and its entry. -/
structure Hl (f d : Int) (s : ByteArray) (k : Int) (l : List Nd) : Prop where
  nd : ∃ n, getF l f = some n ∧ n.k = k ∧ n.ks = [] ∧ n.ln = 1
  en : ∃ x, getF l d = some x ∧ kq x.ks s = some ⟨s, f⟩
section
variable {f d : Int} {s : ByteArray} {k : Int} {l : List Nd}
theorem Hl.ne (h : Hl f d s k l) : f ≠ d := fun e => by
  obtain ⟨n, h1, _, h2, _⟩ := h.nd
  obtain ⟨x, h3, h4⟩ := h.en
  rw [e, h3] at h1
  cases h1
  rw [h2] at h4
  cases h4
theorem Hl.set (h : Hl f d s k l) {n : Nd} (hn : n.fid ≠ f) (hk : n.fid = d → kq n.ks s = some ⟨s, f⟩) : Hl f d s k (setL l n) := by
  obtain ⟨x, h3, h4⟩ := h.en
  obtain ⟨m, h1, h2⟩ := h.nd
  refine ⟨⟨m, by rw [getF_set, if_neg hn.symm]; exact h1, h2⟩, ?_⟩
  by_cases e : n.fid = d
  · exact ⟨n, by rw [getF_set, if_pos e.symm], hk e⟩
  · exact ⟨x, by rw [getF_set, if_neg (fun e2 => e e2.symm)]; exact h3, h4⟩
theorem Hl.out (h : Hl f d s k l) {g : Int} (h1 : g ≠ f) (h2 : g ≠ d) : Hl f d s k (outL l g) := by
  obtain ⟨x, h3, h4⟩ := h.en
  obtain ⟨m, h5, h6⟩ := h.nd
  exact ⟨⟨m, by rw [getF_out, if_neg h1.symm]; exact h5, h6⟩, ⟨x, by rw [getF_out, if_neg h2.symm]; exact h3, h4⟩⟩
theorem Hl.less (h : Hl f d s k l) {n : Nd} (h1 : n.fid ≠ f) (h2 : n.fid ≠ d) : Hl f d s k (lessL l n) := by
  unfold lessL
  split
  · exact h.out h1 h2
  · exact h.set h1 (fun e => absurd e h2)
theorem cN_le {l : List Nd} (hs : Srt l) {g f : Int} {x : Nd} (hx : getF l f = some x) : cK g x.ks ≤ cT g l := by
  have h1 := cT_out g f hs
  rw [hx] at h1
  simp only [Option.elim] at h1
  have : cN g x = cK g x.ks := rfl
  omega
theorem Hl.only (h : Hl f d s k l) (R : Rt l) {g : Int} {x : Nd} {q : Kd} (hx : getF l g = some x) (hq : q ∈ x.ks) (e : q.fid = f) : g = d ∧ q.nm = s := by
  obtain ⟨y, h3, h4⟩ := h.en
  obtain ⟨m, h5, _, h6, h7⟩ := h.nd
  have h41 := (kq_some h4).1
  have hf1 : f ≠ 1 := (R.kids h3 h41).1
  have hc : cT f l = 1 := by have := (R.links h5 hf1).2.1; omega
  have hgd : g = d := by
    by_cases e1 : g = d
    · exact e1
    · have := cT_two R.srt hx h3 e1 hq h41 e rfl
      omega
  refine ⟨hgd, ?_⟩
  subst hgd
  rw [hx] at h3
  cases h3
  by_cases e1 : q.nm = s
  · exact e1
  · exfalso
    have hK := R.kok hx (R.isdir hx hq)
    have h8 := cK_ent f s 0 hK.1
    rw [h4] at h8
    simp only [Option.elim, if_pos] at h8
    have h9 : 0 < cK f (entL x.ks s 0) := wsm_pos (x := q) (by rw [entL_zero, List.mem_filter]; exact ⟨hq, by simpa using e1⟩) (by simp [e])
    have h10 := cN_le (g := f) R.srt hx
    omega
theorem Hl.less_eq (h : Hl f d s k l) (R : Rt l) {n y : Nd} (hn : getF l f = some n) (hy : getF l d = some y) : lessL (setL l (y.kids none 0 (entL y.ks s 0))) n = strip f d s l := by
  obtain ⟨m, h5, _, h6, h7⟩ := h.nd
  rw [hn] at h5
  cases h5
  have fn := (getF_mem hn).2
  have fy := (getF_mem hy).2
  refine srt_ext (srt_less _ (srt_set _ R.srt)) (srt_strip R.srt) (fun g => ?_)
  rw [getF_less, getF_set, getF_strip, h7]
  show (if g = n.fid then _ else if g = y.fid then _ else _) = _
  rw [fn, fy]
  by_cases e : g = f
  · rw [if_pos e, if_pos e]; rfl
  · rw [if_neg e, if_neg e]
    by_cases e2 : g = d
    · rw [if_pos e2, e2, hy]
      simp only [Option.map_some]
      unfold stripN
      rw [if_pos fy]
    · rw [if_neg e2]
      cases e3 : getF l g with
      | none => rfl
      | some z => rw [Option.map_some, stripN_ne (by rw [(getF_mem e3).2]; exact e2)]
theorem Hl.rt (h : Hl f d s k l) (R : Rt l) : Rt (strip f d s l) := by
  obtain ⟨y, h3, h4⟩ := h.en
  obtain ⟨m, h5, _, h6, h7⟩ := h.nd
  rw [← h.less_eq R h5 h3]
  have fn := (getF_mem h5).2
  have fy := (getF_mem h3).2
  exact R.unlink (by rw [fy]; exact h3) (by rw [fn]; exact h4) (by rw [fn]; exact h5) h6
theorem Hl.len (h : Hl f d s k l) (R : Rt l) : (strip f d s l).length + 1 = l.length := by
  obtain ⟨m, h5, _, h6, h7⟩ := h.nd
  have := len_out f R.srt
  rw [h5] at this
  unfold strip
  rw [List.length_map]
  simpa using this
theorem Hl.fpos (h : Hl f d s k l) (R : Rt l) : 0 < f := by
  obtain ⟨m, h5, _, h6, h7⟩ := h.nd
  exact (R.at h5).2.1
end
end Go.Proofs.Ytihgiemgcmpmmaa
namespace Go.Proofs.Ytihgiemgcmpmmaa
set_option linter.unusedVariables false
set_option linter.unusedSimpArgs false
theorem kidI_of {l : List Kd} {s : ByteArray} {g : Int} (h : kq l s = some ⟨s, g⟩) : kidI l s = g := by rw [kidI_kq, h]; rfl
theorem kidI_no {l : List Kd} {s : ByteArray} (h : kq l s = none) : kidI l s = 0 := by rw [kidI_kq, h]; rfl
theorem dir_of {o : Option Nd} {x : Nd} (h : o = some x) (hk : x.k = 2) : dirE o = 0 ∧ dirN o = x := by
  subst h
  simp [dirE, dirN, hk]
theorem look_of {o : Option Nd} {x : Nd} {s : ByteArray} {g : Int} (h : o = some x) (hk : x.k = 2) (hq : kq x.ks s = some ⟨s, g⟩) (hg : g ≠ 0) : lookE o s = 0 ∧ lookI o s = g := by
  subst h
  simp [lookE, lookI, hk, kidI_of hq, hg]
theorem create_do {l : List Nd} {o : Rec} {d : Nd} (h1 : getF l o.dir = some d) (h2 : d.k = 2) (h3 : kq d.ks o.nm = none) (h4 : getF l o.fid = none) (h5 : l.length < 40) (h6 : d.ks.length < 12) :
    createL l o = (0, setL (setL l (d.kids none 0 (entL d.ks o.nm o.fid))) (newN o)) := by
  obtain ⟨e1, e2⟩ := dir_of h1 h2
  unfold createL
  rw [e1, e2, kidI_no h3, h4]
  have c3 : ¬ (40 ≤ l.length ∨ 12 ≤ d.ks.length) := by omega
  simp [c3]
theorem hard_do {l : List Nd} {o : Rec} {d n : Nd} (h0 : getF l o.fid = some n) (hn : n.k ≠ 2) (h1 : getF l o.dir = some d) (h2 : d.k = 2) (h3 : kq d.ks o.nm = none) (h6 : d.ks.length < 12) :
    hardL l o = (0, setL (setL l (d.kids none 0 (entL d.ks o.nm o.fid))) (n.lnk (n.ln + 1))) := by
  obtain ⟨e1, e2⟩ := dir_of h1 h2
  unfold hardL
  rw [e1, e2, kidI_no h3, h0]
  have c3 : ¬ 12 ≤ d.ks.length := by omega
  simp [c3, hn]
theorem remove_do {l : List Nd} {o : Rec} {d n : Nd} (h1 : getF l o.dir = some d) (h2 : d.k = 2) (h3 : kq d.ks o.nm = some ⟨o.nm, n.fid⟩) (h4 : getF l n.fid = some n) (h0 : n.fid ≠ 0) (hk : o.k = 5 ∨ o.k = 6) (h5 : o.k = 6 ↔ n.k = 2) (h6 : n.ks = []) :
    removeL l o = (0, lessL (setL l (d.kids none 0 (entL d.ks o.nm 0))) n) := by
  obtain ⟨e1, e2⟩ := look_of h1 h2 h3 h0
  unfold removeL
  rw [e1, e2, h4, h1]
  simp only [Option.getD_some]
  rw [if_neg (by simp), if_neg (fun h => by have := h5.2 h.2; omega), if_neg (fun h => h.2 (h5.1 h.1)), if_neg (by rw [h6]; simp)]
theorem write_do {l : List Nd} {o : Rec} {n : Nd} (h1 : getF l o.fid = some n) (h2 : o.k = 9 ∨ (n.k ≠ 2 ∧ n.k ≠ 3)) : writeL l o = (0, setL l (n.wr o)) := by
  unfold writeL Nd.wr
  rw [h1]
  simp only [Option.isSome_some, Option.getD_some, if_neg (show ¬ (true = false) by decide)]
  by_cases c : o.k = 9
  · rw [if_pos c, if_pos c]
  · rw [if_neg c, if_neg c]
    rcases h2 with h | h
    · exact absurd h c
    · rw [if_neg h.1, if_neg h.2]
/-- A Rename onto the same object. -/
theorem rename_same {l : List Nd} {o : Rec} {a b : Nd} {g : Int} {n : Nd} (ha : getF l o.dir = some a) (hak : a.k = 2) (hb : getF l o.to = some b) (hbk : b.k = 2) (hq : kq a.ks o.nm = some ⟨o.nm, n.fid⟩) (hn : getF l n.fid = some n) (h0 : n.fid ≠ 0)
    (hno : n.k = 2 → abN l n.fid (l.length + 1) o.to ≠ true) (h2 : kidI b.ks o.nm2 = n.fid) : renameL l o = (0, l) := by
  obtain ⟨e1, e2⟩ := look_of ha hak hq h0
  obtain ⟨e3, e4⟩ := dir_of hb hbk
  unfold renameL
  rw [e1, e2, e3, e4, hn]
  simp only [Option.getD_some]
  rw [if_neg (by simp), if_neg (by simp), if_neg (fun h => hno h.1 h.2), if_pos h2]
theorem rename_new {l : List Nd} {o : Rec} {a b n : Nd} (ha : getF l o.dir = some a) (hak : a.k = 2) (hb : getF l o.to = some b) (hbk : b.k = 2) (hq : kq a.ks o.nm = some ⟨o.nm, n.fid⟩) (hn : getF l n.fid = some n) (h0 : n.fid ≠ 0)
    (hno : n.k = 2 → abN l n.fid (l.length + 1) o.to ≠ true) (h2 : kq b.ks o.nm2 = none) (hz : getF l 0 = none) (hroom : o.to = o.dir ∨ b.ks.length < 12) : renameL l o = (0, movedL l o n.fid l) := by
  obtain ⟨e1, e2⟩ := look_of ha hak hq h0
  obtain ⟨e3, e4⟩ := dir_of hb hbk
  unfold renameL
  rw [e1, e2, e3, e4, hn, kidI_no h2, hz]
  simp only [Option.getD_some, Option.isSome_none, Bool.false_and, Bool.not_false, Bool.true_and, if_neg (show ¬ (false = true) by decide)]
  rw [if_neg (by simp), if_neg (by simp), if_neg (fun h => hno h.1 h.2), if_neg (fun e => h0 e.symm), if_neg]
  · rfl
  · rintro h
    simp only [Bool.and_eq_true, bne_iff_ne, decide_eq_true_eq] at h
    rcases hroom with e | e
    · exact h.1 e
    · omega
theorem rename_old {l : List Nd} {o : Rec} {a b n y : Nd} (ha : getF l o.dir = some a) (hak : a.k = 2) (hb : getF l o.to = some b) (hbk : b.k = 2) (hq : kq a.ks o.nm = some ⟨o.nm, n.fid⟩) (hn : getF l n.fid = some n) (h0 : n.fid ≠ 0)
    (hno : n.k = 2 → abN l n.fid (l.length + 1) o.to ≠ true) (h2 : kq b.ks o.nm2 = some ⟨o.nm2, y.fid⟩) (hy : getF l y.fid = some y) (hyn : y.fid ≠ n.fid) (hyk : y.ks = []) (hkk : n.k = 2 ↔ y.k = 2) : renameL l o = (0, movedL l o n.fid (lessL l y)) := by
  obtain ⟨e1, e2⟩ := look_of ha hak hq h0
  obtain ⟨e3, e4⟩ := dir_of hb hbk
  unfold renameL
  rw [e1, e2, e3, e4, hn, kidI_of h2, hy]
  simp only [Option.getD_some, Option.isSome_some, Bool.true_and, Bool.not_true, Bool.false_and, if_neg (show ¬ (false = true) by decide)]
  rw [if_neg (by simp), if_neg (by simp), if_neg (fun h => hno h.1 h.2), if_neg hyn, if_neg, if_neg, if_neg]
  · rfl
  · simp [hyk]
  · simp only [Bool.and_eq_true, bne_iff_ne, beq_iff_eq]; intro h; exact h.1 (hkk.1 h.2)
  · simp only [Bool.and_eq_true, bne_iff_ne, beq_iff_eq]; intro h; exact h.2 (hkk.2 h.1)
/-- A Rename that can be done, whole. -/
theorem rename_how {l : List Nd} (R : Rt l) {o : Rec} (h : (renameL l o).1 = 0) : ∃ a b n, getF l o.dir = some a ∧ getF l o.to = some b ∧ a.k = 2 ∧ b.k = 2 ∧ getF l n.fid = some n ∧ kq a.ks o.nm = some ⟨o.nm, n.fid⟩ ∧
    (n.k = 2 → abN l n.fid (l.length + 1) o.to ≠ true) ∧
    ((kq b.ks o.nm2 = none ∧ (o.to = o.dir ∨ b.ks.length < 12) ∧ (renameL l o).2 = movedL l o n.fid l) ∨
      (kq b.ks o.nm2 = some ⟨o.nm2, n.fid⟩ ∧ (renameL l o).2 = l) ∨
      ∃ y, kq b.ks o.nm2 = some ⟨o.nm2, y.fid⟩ ∧ getF l y.fid = some y ∧ y.fid ≠ n.fid ∧ y.ks = [] ∧ (n.k = 2 ↔ y.k = 2) ∧ (renameL l o).2 = movedL l o n.fid (lessL l y)) := by
  unfold renameL at h ⊢
  by_cases c1 : lookE (getF l o.dir) o.nm ≠ 0
  · rw [if_pos c1] at h; exact absurd h c1
  rw [if_neg c1] at h ⊢
  by_cases c2 : dirE (getF l o.to) ≠ 0
  · rw [if_pos c2] at h; exact absurd h c2
  rw [if_neg c2] at h ⊢
  obtain ⟨a1, a2, a3, a4⟩ := lookE_ok (Decidable.not_not.1 c1)
  obtain ⟨b1, b2⟩ := dirE_ok (Decidable.not_not.1 c2)
  generalize (getF l o.dir).getD Nd.no = a at a1 a2 a3 a4
  generalize dirN (getF l o.to) = b at *
  rw [a3] at a4 h ⊢
  have hka := R.kok a1 a2
  have hkb := R.kok b1 b2
  obtain ⟨q, hq, hqs, hqf⟩ : ∃ q, q ∈ a.ks ∧ q.nm = o.nm ∧ kidI a.ks o.nm = q.fid := kidI_mem a4
  have hkq : kq a.ks o.nm = some q := by rw [← hqs]; exact ksrt_get hka.1 hq
  obtain ⟨_, n, hn⟩ := R.kids a1 hq
  have fn := (getF_mem hn).2
  have eq : q = ⟨o.nm, n.fid⟩ := by
    cases q; simp only at hqs fn; rw [hqs, fn]
  rw [hqf, ← fn] at h ⊢
  rw [← fn] at hn
  rw [hn] at h ⊢
  simp only [Option.getD_some] at h ⊢
  by_cases c3 : n.k = 2 ∧ abN l n.fid (l.length + 1) o.to = true
  · rw [if_pos c3] at h; cases h
  rw [if_neg c3] at h ⊢
  have hno : n.k = 2 → abN l n.fid (l.length + 1) o.to ≠ true := fun e e2 => c3 ⟨e, e2⟩
  refine ⟨a, b, n, a1, b1, a2, b2, hn, by rw [hkq, eq], hno, ?_⟩
  cases hk2 : kq b.ks o.nm2 with
  | none =>
    have e0 : kidI b.ks o.nm2 = 0 := by rw [kidI_kq, hk2]; rfl
    have g0 : getF l 0 = none := by
      cases e : getF l 0 with
      | none => rfl
      | some z => have := (R.at e).2.1; omega
    have hn0 : n.fid ≠ 0 := by have := (R.at hn).2.1; omega
    rw [e0, g0, if_neg (fun e => hn0 e.symm)] at h ⊢
    simp only [Option.isSome_none, Bool.false_and, Bool.not_false, Bool.true_and, if_neg (show ¬ (false = true) by decide)] at h ⊢
    by_cases c5 : (o.to != o.dir && decide (12 ≤ b.ks.length)) = true
    · rw [if_pos c5] at h; cases h
    rw [if_neg c5]
    refine .inl ⟨by first | rfl | trivial, ?_, rfl⟩
    by_cases e : o.to = o.dir
    · exact .inl e
    · right
      simp only [Bool.and_eq_true, bne_iff_ne, decide_eq_true_eq, not_and] at c5
      have := c5 e
      omega
  | some r =>
    obtain ⟨r1, r2⟩ := kq_some hk2
    obtain ⟨_, y, hy⟩ := R.kids b1 r1
    have fy := (getF_mem hy).2
    have e0 : kidI b.ks o.nm2 = y.fid := by rw [kidI_kq, hk2, fy]; rfl
    have er : r = ⟨o.nm2, y.fid⟩ := by cases r; simp only at r2 fy; rw [r2, fy]
    rw [← fy] at hy
    right
    by_cases c4 : y.fid = n.fid
    · rw [e0, if_pos c4]
      exact .inl ⟨by rw [er, c4], rfl⟩
    right
    rw [e0, if_neg c4, hy] at h ⊢
    simp only [Option.isSome_some, Option.getD_some, Bool.true_and, Bool.not_true, Bool.false_and, if_neg (show ¬ (false = true) by decide)] at h ⊢
    by_cases c5 : (y.k == 2 && n.k != 2) = true
    · rw [if_pos c5] at h; cases h
    rw [if_neg c5] at h ⊢
    by_cases c6 : (y.k != 2 && n.k == 2) = true
    · rw [if_pos c6] at h; cases h
    rw [if_neg c6] at h ⊢
    by_cases c7 : decide (0 < y.ks.length) = true
    · rw [if_pos c7] at h; cases h
    rw [if_neg c7]
    refine ⟨y, by rw [er], hy, c4, ?_, ?_, rfl⟩
    · have : ¬ 0 < y.ks.length := by simpa using c7
      exact List.length_eq_zero_iff.1 (by omega)
    · simp only [Bool.and_eq_true, bne_iff_ne, beq_iff_eq, not_and, Decidable.not_not] at c5 c6
      exact ⟨fun e => Decidable.not_not.1 (fun e2 => (c6 e2) e), fun e => c5 e⟩
/-- What lies above in a part of a tree lies above in it. -/
theorem ab_part {l m : List Nd} (R : Rt l) (M : Rt m) (hE : ∀ f g, Ed m f g → Ed l f g) (n : Int) : ∀ (k : Nat) (g : Int), (∃ d, getF m g = some d ∧ d.k = 2) → abN m n k g = true → abN l n k g = true
  | 0, _, _, h => by cases h
  | k + 1, g, hd, h => by
    unfold abN at h ⊢
    cases q : (g == n) with
    | true => rfl
    | false =>
      rw [q] at h
      simp only [cond_false] at h ⊢
      have hne : g ≠ 1 := fun e => by
        rw [e, M.up1] at h
        cases h
      obtain ⟨d, hd1, hd2⟩ := hd
      have hc := (M.links hd1 hne).1
      have : ∃ p x, getF m p = some x ∧ ∃ q ∈ x.ks, q.fid = g := by
        obtain ⟨x, hx, hx2⟩ := wsm_ex (ω := cN g) (l := m) (by show 0 < cT g m; omega)
        obtain ⟨q, hq, hq2⟩ := wsm_ex (ω := fun q : Kd => if q.fid = g then 1 else 0) (l := x.ks) hx2
        refine ⟨x.fid, x, srt_get M.srt hx, q, hq, ?_⟩
        by_cases e : q.fid = g
        · exact e
        · simp [e] at hq2
      obtain ⟨p, x, hp, q', hq1, hq2⟩ := this
      have hEd : Ed m p g := ⟨x, d, hp, ⟨q', hq1, hq2⟩, hd1, hd2⟩
      rw [M.up hEd] at h
      rw [R.up (hE p g hEd)]
      cases q2 : (p == 0) with
      | true => rw [q2] at h; cases h
      | false =>
        rw [q2] at h
        simp only [cond_false] at h ⊢
        exact ab_part R M hE n k p ⟨x, hp, M.isdir hp hq1⟩ h
end Go.Proofs.Ytihgiemgcmpmmaa
namespace Go.Proofs.Ytihgiemgcmpmmaa
set_option linter.unusedVariables false
set_option linter.unusedSimpArgs false
section
variable {f d : Int} {s : ByteArray} {k : Int} {l : List Nd}
theorem Hl.ed (h : Hl f d s k l) (f' g : Int) (hE : Ed (strip f d s l) f' g) : Ed l f' g := ed_mono (fun f' x hx q hq => by
    rw [getF_strip] at hx
    split at hx
    · cases hx
    · cases e : getF l f' with
      | none => rw [e] at hx; cases hx
      | some y =>
        rw [e] at hx
        cases hx
        refine ⟨y, rfl, q, ?_, rfl⟩
        rw [stripN_ks] at hq
        split at hq
        · rw [entL_zero, List.mem_filter] at hq; exact hq.1
        · exact hq) (fun g z hz hk => by
    rw [getF_strip] at hz
    split at hz
    · cases hz
    · cases e : getF l g with
      | none => rw [e] at hz; cases hz
      | some y =>
        rw [e] at hz
        cases hz
        exact ⟨y, rfl, by rw [stripN_k] at hk; exact hk⟩) hE
theorem getF_strip_some {g : Int} {x : Nd} (hg : g ≠ f) (hx : getF l g = some x) : getF (strip f d s l) g = some (stripN d s x) := by
  rw [getF_strip, if_neg hg, hx]; rfl
theorem getF_strip_none {g : Int} (hx : getF l g = none) : getF (strip f d s l) g = none := by
  rw [getF_strip, hx]; split <;> rfl
theorem strip_moved {o : Rec} {g : Int} {D : List Nd} {a b : Nd} (hs : Srt D) (ha : getF D o.dir = some a) (hb : getF D o.to = some b) (hka : KSrt a.ks) (hkb : KSrt b.ks) (hd : o.dir ≠ f) (ht : o.to ≠ f)
    (h1 : ¬ (o.dir = d ∧ o.nm = s)) (h2 : ¬ (o.to = d ∧ o.nm2 = s)) (L L' : List Nd) : strip f d s (movedL L o g D) = movedL L' o g (strip f d s D) := by
  have fa := (getF_mem ha).2
  have fb := (getF_mem hb).2
  refine srt_ext (srt_strip (srt_moved hs)) (srt_moved (srt_strip hs)) (fun t => ?_)
  rw [getF_strip, getF_moved L o g D ha hb, getF_moved L' o g _ (getF_strip_some hd ha) (getF_strip_some ht hb), getF_strip]
  have ea : stripN d s (a.kids none 0 (entL a.ks o.nm 0)) = (stripN d s a).kids none 0 (entL (stripN d s a).ks o.nm 0) := stripN_kids 0 (by rw [fa]; exact h1) hka
  have eb : stripN d s (b.kids none 0 (entL (if o.to = o.dir then entL a.ks o.nm 0 else b.ks) o.nm2 g)) = (stripN d s b).kids none 0 (entL (if o.to = o.dir then entL (stripN d s a).ks o.nm 0 else (stripN d s b).ks) o.nm2 g) := by
    by_cases e : o.to = o.dir
    · rw [if_pos e, if_pos e]
      have hab : b = a := by rw [e, ha] at hb; exact (Option.some.inj hb).symm
      subst hab
      have := stripN_kids (d := d) (s := s) (t := o.nm2) (x := b.kids none 0 (entL b.ks o.nm 0)) g (by show ¬ (b.fid = d ∧ _); rw [fb]; exact h2) (ksrt_ent _ _ hka)
      rw [ea] at this
      exact this
    · rw [if_neg e, if_neg e]
      exact stripN_kids g (by rw [fb]; exact h2) hkb
  by_cases e1 : t = o.to
  · rw [if_neg (by rw [e1]; exact ht), if_pos e1, if_pos e1, Option.map_some, eb]
  · rw [if_neg e1, if_neg e1]
    by_cases e2 : t = o.dir
    · rw [if_neg (by rw [e2]; exact hd), if_pos e2, if_pos e2, Option.map_some, ea]
    · rw [if_neg e2, if_neg e2]
theorem Hl.moved {o : Rec} {g : Int} {D : List Nd} {a b : Nd} (H : Hl f d s k D) (ha : getF D o.dir = some a) (hb : getF D o.to = some b) (hd : o.dir ≠ f) (ht : o.to ≠ f)
    (h1 : ¬ (o.dir = d ∧ o.nm = s)) (h2 : ¬ (o.to = d ∧ o.nm2 = s)) (L : List Nd) : Hl f d s k (movedL L o g D) := by
  have hG := getF_moved L o g D ha hb
  obtain ⟨x, h3, h4⟩ := H.en
  obtain ⟨m, h5, h6⟩ := H.nd
  refine ⟨⟨m, by rw [hG, if_neg ht.symm, if_neg hd.symm]; exact h5, h6⟩, ?_⟩
  by_cases e1 : d = o.to
  · refine ⟨_, by rw [hG, if_pos e1], ?_⟩
    show kq (entL (if o.to = o.dir then entL a.ks o.nm 0 else b.ks) o.nm2 g) s = _
    rw [kq_ent, if_neg (fun e => h2 ⟨e1.symm, e.symm⟩)]
    by_cases e : o.to = o.dir
    · rw [if_pos e, kq_ent, if_neg (fun e2 => h1 ⟨by rw [← e, e1], e2.symm⟩)]
      rw [e1, e, ha] at h3
      cases h3
      exact h4
    · rw [if_neg e]
      rw [e1, hb] at h3
      cases h3
      exact h4
  · by_cases e2 : d = o.dir
    · refine ⟨_, by rw [hG, if_neg e1, if_pos e2], ?_⟩
      show kq (entL a.ks o.nm 0) s = _
      rw [kq_ent, if_neg (fun e => h1 ⟨e2.symm, e.symm⟩)]
      rw [e2, ha] at h3
      cases h3
      exact h4
    · exact ⟨x, by rw [hG, if_neg e1, if_neg e2]; exact h3, h4⟩
/-- An operation that speaks neither of the object nor of its entry. -/
structure Far (f d : Int) (s : ByteArray) (o : Rec) : Prop where
  fid : o.fid ≠ f
  dir : o.dir ≠ f
  to' : o.to ≠ f
  en : ¬ (o.dir = d ∧ o.nm = s)
  go : ¬ (o.to = d ∧ o.nm2 = s)
theorem far_create (H : Hl f d s k l) (R : Rt l) {o : Rec} (F : Far f d s o) (h : (createL l o).1 = 0) :
    createL (strip f d s l) o = (0, strip f d s (createL l o).2) ∧ Hl f d s k (createL l o).2 := by
  obtain ⟨a, h1, h2, h3, h4, h5, h6, e⟩ := create_ok R h
  have fa := (getF_mem h1).2
  have hka := R.kok h1 h2
  have hlen := H.len R
  have hsl := stripN_len d s a
  obtain ⟨x, hx, hxq⟩ := H.en
  have hnd : o.fid ≠ d := fun e => by rw [e, hx] at h4; cases h4
  have hen : ¬ (a.fid = d ∧ o.nm = s) := by rw [fa]; exact F.en
  rw [create_do (getF_strip_some F.dir h1) (by rw [stripN_k]; exact h2) (by rw [stripN_kq hen]; exact h3) (getF_strip_none h4) (by omega) (by omega), e]
  constructor
  · rw [strip_set (srt_set _ R.srt) (show (newN o).fid ≠ f from F.fid), strip_set R.srt (show (a.kids none 0 _).fid ≠ f by show a.fid ≠ f; rw [fa]; exact F.dir), stripN_kids _ hen hka.1, stripN_ne (show (newN o).fid ≠ d from hnd)]
  · refine (H.set (by show a.fid ≠ f; rw [fa]; exact F.dir) (fun e => ?_)).set (show (newN o).fid ≠ f from F.fid) (fun e => absurd e hnd)
    show kq (entL a.ks o.nm o.fid) s = _
    have e' : a.fid = d := e
    rw [kq_ent, if_neg (fun e2 => hen ⟨e', e2.symm⟩)]
    rw [← e', fa, h1] at hx
    cases hx
    exact hxq
theorem far_hard (H : Hl f d s k l) (R : Rt l) {o : Rec} (F : Far f d s o) (h : (hardL l o).1 = 0) :
    hardL (strip f d s l) o = (0, strip f d s (hardL l o).2) ∧ Hl f d s k (hardL l o).2 := by
  obtain ⟨a, n, h0, hn, h1, h2, h3, h6, e⟩ := hard_ok R h
  have fa := (getF_mem h1).2
  have fn := (getF_mem h0).2
  have hka := R.kok h1 h2
  have hsl := stripN_len d s a
  obtain ⟨x, hx, hxq⟩ := H.en
  have hnd : n.fid ≠ d := fun e => by
    rw [← fn, e, hx] at h0
    cases h0
    exact hn (R.isdir hx (kq_some hxq).1)
  have hen : ¬ (a.fid = d ∧ o.nm = s) := by rw [fa]; exact F.en
  rw [hard_do (n := stripN d s n) (getF_strip_some F.fid h0) (by rw [stripN_k]; exact hn) (getF_strip_some F.dir h1) (by rw [stripN_k]; exact h2) (by rw [stripN_kq hen]; exact h3) (by omega), e]
  constructor
  · rw [strip_set (srt_set _ R.srt) (show (n.lnk (n.ln + 1)).fid ≠ f by show n.fid ≠ f; rw [fn]; exact F.fid), strip_set R.srt (show (a.kids none 0 _).fid ≠ f by show a.fid ≠ f; rw [fa]; exact F.dir), stripN_kids _ hen hka.1, stripN_lnk d s n _ hnd, stripN_ln]
  · refine (H.set (by show a.fid ≠ f; rw [fa]; exact F.dir) (fun e => ?_)).set (show (n.lnk (n.ln + 1)).fid ≠ f by show n.fid ≠ f; rw [fn]; exact F.fid) (fun e => absurd e hnd)
    show kq (entL a.ks o.nm o.fid) s = _
    have e' : a.fid = d := e
    rw [kq_ent, if_neg (fun e2 => hen ⟨e', e2.symm⟩)]
    rw [← e', fa, h1] at hx
    cases hx
    exact hxq
theorem far_remove (H : Hl f d s k l) (R : Rt l) {o : Rec} (hk : o.k = 5 ∨ o.k = 6) (F : Far f d s o) (h : (removeL l o).1 = 0) :
    removeL (strip f d s l) o = (0, strip f d s (removeL l o).2) ∧ Hl f d s k (removeL l o).2 := by
  obtain ⟨a, n, h1, h2, h3, h4, h5, h6, e⟩ := remove_ok R hk h
  have fa := (getF_mem h1).2
  have hka := R.kok h1 h2
  obtain ⟨x, hx, hxq⟩ := H.en
  have hen : ¬ (a.fid = d ∧ o.nm = s) := by rw [fa]; exact F.en
  have hnf : n.fid ≠ f := fun e => by
    have := H.only R h1 (kq_some h3).1 e
    exact F.en this
  have hnd : n.fid ≠ d := fun e => by
    rw [e, hx] at h4
    cases h4
    rw [h6] at hxq
    cases hxq
  have hn0 : n.fid ≠ 0 := by have := (R.at h4).2.1; omega
  have h4' : getF (strip f d s l) n.fid = some n := by rw [getF_strip_some hnf h4, stripN_ne hnd]
  rw [remove_do (getF_strip_some F.dir h1) (by rw [stripN_k]; exact h2) (by rw [stripN_kq hen]; exact h3) h4' hn0 hk h5 h6, e]
  constructor
  · rw [strip_less (srt_set _ R.srt) hnf hnd, strip_set R.srt (show (a.kids none 0 _).fid ≠ f by show a.fid ≠ f; rw [fa]; exact F.dir), stripN_kids _ hen hka.1]
  · refine (H.set (by show a.fid ≠ f; rw [fa]; exact F.dir) (fun e => ?_)).less hnf hnd
    show kq (entL a.ks o.nm 0) s = _
    have e' : a.fid = d := e
    rw [kq_ent, if_neg (fun e2 => hen ⟨e', e2.symm⟩)]
    rw [← e', fa, h1] at hx
    cases hx
    exact hxq
theorem stripN_wr (n : Nd) (o : Rec) (h : n.fid = d → n.k = 2) (h2 : o.k = 9 ∨ (n.k ≠ 2 ∧ n.k ≠ 3)) : stripN d s (n.wr o) = (stripN d s n).wr o := by
  by_cases e : n.fid = d
  · have hk := h e
    have e9 : o.k = 9 := by rcases h2 with h2 | h2; exact h2; exact absurd hk h2.1
    unfold Nd.wr
    rw [if_pos e9, if_pos e9]
    unfold stripN
    rw [if_pos e, if_pos (show (⟨n.fid, n.k, o.md, n.ln, none, 0, n.zs, none, 0, n.ks⟩ : Nd).fid = d from e)]
    rfl
  · have : (n.wr o).fid ≠ d := by unfold Nd.wr; split <;> exact e
    rw [stripN_ne e, stripN_ne this]
theorem wr_fid (n : Nd) (o : Rec) : (n.wr o).fid = n.fid := by unfold Nd.wr; split <;> rfl
theorem wr_ks (n : Nd) (o : Rec) : (n.wr o).ks = n.ks := by unfold Nd.wr; split <;> rfl
theorem wr_k (n : Nd) (o : Rec) : (n.wr o).k = n.k := by unfold Nd.wr; split <;> rfl
theorem wr_ln (n : Nd) (o : Rec) : (n.wr o).ln = n.ln := by unfold Nd.wr; split <;> rfl
theorem far_write (H : Hl f d s k l) (R : Rt l) {o : Rec} (F : Far f d s o) (h : (writeL l o).1 = 0) :
    writeL (strip f d s l) o = (0, strip f d s (writeL l o).2) ∧ Hl f d s k (writeL l o).2 := by
  obtain ⟨n, h1, h2, e⟩ := write_ok h
  have fn := (getF_mem h1).2
  obtain ⟨x, hx, hxq⟩ := H.en
  have hd2 : n.fid = d → n.k = 2 := fun e => by
    rw [← fn, e, hx] at h1
    cases h1
    exact R.isdir hx (kq_some hxq).1
  rw [write_do (getF_strip_some F.fid h1) (by rw [stripN_k]; exact h2), e]
  constructor
  · rw [strip_set R.srt (by rw [wr_fid, fn]; exact F.fid), stripN_wr n o hd2 h2]
  · refine H.set (by rw [wr_fid, fn]; exact F.fid) (fun e => ?_)
    rw [wr_fid] at e
    rw [← fn, e, hx] at h1
    cases h1
    rw [wr_ks]
    exact hxq
theorem own_write (H : Hl f d s k l) (R : Rt l) {o : Rec} (F : o.fid = f) (h : (writeL l o).1 = 0) :
    strip f d s (writeL l o).2 = strip f d s l ∧ Hl f d s k (writeL l o).2 := by
  obtain ⟨n, h1, h2, e⟩ := write_ok h
  have fn := (getF_mem h1).2
  obtain ⟨x, hx, hxq⟩ := H.en
  obtain ⟨m, h5, h6, h7, h8⟩ := H.nd
  rw [F, h5] at h1
  cases h1
  rw [e]
  refine ⟨strip_own R.srt (by rw [wr_fid, fn]; exact F), ⟨⟨_, by rw [getF_set, if_pos (by rw [wr_fid, fn, F])], by rw [wr_k]; exact h6, by rw [wr_ks]; exact h7, by rw [wr_ln]; exact h8⟩, ⟨x, ?_, hxq⟩⟩⟩
  rw [getF_set, if_neg (by rw [wr_fid, fn, F]; exact H.ne.symm)]
  exact hx
theorem far_rename (H : Hl f d s k l) (R : Rt l) {o : Rec} (F : Far f d s o) (h : (renameL l o).1 = 0) :
    renameL (strip f d s l) o = (0, strip f d s (renameL l o).2) ∧ Hl f d s k (renameL l o).2 := by
  obtain ⟨a, b, n, ha, hb, hak, hbk, hn, hq, hno, h2⟩ := rename_how R h
  have fa := (getF_mem ha).2
  have fb := (getF_mem hb).2
  have hka := R.kok ha hak
  have hkb := R.kok hb hbk
  obtain ⟨x, hx, hxq⟩ := H.en
  have hen : ¬ (a.fid = d ∧ o.nm = s) := by rw [fa]; exact F.en
  have hgo : ¬ (b.fid = d ∧ o.nm2 = s) := by rw [fb]; exact F.go
  have hnf : n.fid ≠ f := fun e => F.en (H.only R ha (kq_some hq).1 e)
  have hn0 : n.fid ≠ 0 := by have := (R.at hn).2.1; omega
  have M := H.rt R
  have hlen := H.len R
  have ha' := getF_strip_some (d := d) (s := s) F.dir ha
  have hb' := getF_strip_some (d := d) (s := s) F.to' hb
  have hn' := getF_strip_some (d := d) (s := s) hnf hn
  have hq' : kq (stripN d s a).ks o.nm = some ⟨o.nm, (stripN d s n).fid⟩ := by rw [stripN_kq hen, stripN_fid]; exact hq
  have hn'' : getF (strip f d s l) (stripN d s n).fid = some (stripN d s n) := by rw [stripN_fid]; exact hn'
  have hno' : (stripN d s n).k = 2 → abN (strip f d s l) (stripN d s n).fid ((strip f d s l).length + 1) o.to ≠ true := fun e e2 => by
    rw [stripN_k] at e
    rw [stripN_fid] at e2
    have h3 := ab_part R M H.ed n.fid _ o.to ⟨_, hb', by rw [stripN_k]; exact hbk⟩ e2
    exact hno e (ab_up R.up1 n.fid _ _ o.to (R.reach hb hbk) h3)
  have k2a : (stripN d s a).k = 2 := by rw [stripN_k]; exact hak
  have k2b : (stripN d s b).k = 2 := by rw [stripN_k]; exact hbk
  have hn0' : (stripN d s n).fid ≠ 0 := by rw [stripN_fid]; exact hn0
  rcases h2 with ⟨h3, h4, e⟩ | ⟨h3, e⟩ | ⟨y, h3, hy, hyn, hyk, hkk, e⟩
  · rw [e]
    have hz : getF (strip f d s l) 0 = none := getF_strip_none (by
      cases e : getF l 0 with
      | none => rfl
      | some z => have := (R.at e).2.1; omega)
    have hsl := stripN_len d s b
    rw [rename_new ha' k2a hb' k2b hq' hn'' hn0' hno' (by rw [stripN_kq hgo]; exact h3) hz (by rcases h4 with h4 | h4; exact .inl h4; exact .inr (by omega)), stripN_fid]
    exact ⟨by rw [strip_moved R.srt ha hb hka.1 hkb.1 F.dir F.to' F.en F.go], H.moved ha hb F.dir F.to' F.en F.go _⟩
  · rw [e]
    rw [rename_same (g := 0) ha' k2a hb' k2b hq' hn'' hn0' hno' (by rw [kidI_kq, stripN_kq hgo, h3, stripN_fid]; rfl)]
    exact ⟨rfl, H⟩
  · rw [e]
    have hyf : y.fid ≠ f := fun e => F.go (H.only R hb (kq_some h3).1 e)
    have hyd : y.fid ≠ d := fun e => by
      rw [e, hx] at hy
      cases hy
      rw [hyk] at hxq
      cases hxq
    have hyb : y.fid ≠ o.to := fun e => by
      have := R.self (d := b) (by rw [fb]; exact hb) (kq_some h3).1
      rw [fb] at this
      exact this e
    have hya : y.fid ≠ o.dir := fun e => by
      rw [e, ha] at hy
      cases hy
      have := (kq_some hq).1
      rw [hyk] at this
      cases this
    have hy' : getF (strip f d s l) y.fid = some y := by rw [getF_strip_some hyf hy, stripN_ne hyd]
    rw [rename_old ha' k2a hb' k2b hq' hn'' hn0' hno' (by rw [stripN_kq hgo]; exact h3) hy' (by rw [stripN_fid]; exact hyn) hyk (by rw [stripN_k]; exact hkk), stripN_fid]
    have la : getF (lessL l y) o.dir = some a := by rw [getF_less, if_neg (fun e => hya e.symm)]; exact ha
    have lb : getF (lessL l y) o.to = some b := by rw [getF_less, if_neg (fun e => hyb e.symm)]; exact hb
    refine ⟨by rw [← strip_less R.srt hyf hyd, strip_moved (srt_less _ R.srt) la lb hka.1 hkb.1 F.dir F.to' F.en F.go], (H.less hyf hyd).moved la lb F.dir F.to' F.en F.go _⟩
theorem far_apply (H : Hl f d s k l) (R : Rt l) {o : Rec} (F : Far f d s o) (h : (applyL l o).1 = 0) :
    applyL (strip f d s l) o = (0, strip f d s (applyL l o).2) ∧ Hl f d s k (applyL l o).2 := by
  unfold applyL at h ⊢
  by_cases c1 : o.k = 1 ∨ o.k = 2 ∨ o.k = 3
  · rw [if_pos c1] at h; rw [if_pos c1, if_pos c1]; exact far_create H R F h
  rw [if_neg c1] at h; rw [if_neg c1, if_neg c1]
  by_cases c2 : o.k = 4
  · rw [if_pos c2] at h; rw [if_pos c2, if_pos c2]; exact far_hard H R F h
  rw [if_neg c2] at h; rw [if_neg c2, if_neg c2]
  by_cases c3 : o.k = 5 ∨ o.k = 6
  · rw [if_pos c3] at h; rw [if_pos c3, if_pos c3]; exact far_remove H R c3 F h
  rw [if_neg c3] at h; rw [if_neg c3, if_neg c3]
  by_cases c4 : o.k = 7
  · rw [if_pos c4] at h; rw [if_pos c4, if_pos c4]; exact far_rename H R F h
  rw [if_neg c4] at h; rw [if_neg c4, if_neg c4]
  exact far_write H R F h
end
end Go.Proofs.Ytihgiemgcmpmmaa
namespace Go.Proofs.Ytihgiemgcmpmmaa
set_option linter.unusedVariables false
set_option linter.unusedSimpArgs false
theorem Er.getd {l : List Nd} (h : Er l) (g : Int) : ((getF l g).getD Nd.no).er = (getF l g).getD Nd.no := by
  cases e : getF l g with
  | none => rfl
  | some x => exact h.get e
theorem Er.moved {l : List Nd} (h : Er l) (L : List Nd) (o : Rec) (f : Int) : Er (movedL L o f l) := by
  unfold movedL
  have h1 : Er (setL l (((getF l o.dir).getD Nd.no).kids none 0 (entL ((getF l o.dir).getD Nd.no).ks o.nm 0))) := h.set (er_kids _ _ (h.getd _))
  exact h1.set (er_kids _ _ (h1.getd _))
theorem Er.apply {l : List Nd} (h : Er l) (R : Rt l) {o : Rec} (hok : (applyL l o).1 = 0) : Er (applyL l o).2 := by
  unfold applyL at hok ⊢
  by_cases c1 : o.k = 1 ∨ o.k = 2 ∨ o.k = 3
  · rw [if_pos c1] at hok ⊢
    obtain ⟨d, h1, h2, h3, h4, h5, h6, e⟩ := create_ok R hok
    rw [e]
    exact (h.set (er_kids _ _ (h.get h1))).set (er_new o)
  rw [if_neg c1] at hok ⊢
  by_cases c2 : o.k = 4
  · rw [if_pos c2] at hok ⊢
    obtain ⟨d, n, h1, h2, h3, h4, h5, h6, e⟩ := hard_ok R hok
    rw [e]
    exact (h.set (er_kids _ _ (h.get h3))).set (er_lnk _ _ (h.get h1))
  rw [if_neg c2] at hok ⊢
  by_cases c3 : o.k = 5 ∨ o.k = 6
  · rw [if_pos c3] at hok ⊢
    obtain ⟨d, n, h1, h2, h3, h4, h5, h6, e⟩ := remove_ok R c3 hok
    rw [e]
    exact (h.set (er_kids _ _ (h.get h1))).less (h.get h4)
  rw [if_neg c3] at hok ⊢
  by_cases c4 : o.k = 7
  · rw [if_pos c4] at hok ⊢
    obtain ⟨a, b, n, ha, hb, hak, hbk, hn, hq, hno, h2⟩ := rename_how R hok
    rcases h2 with ⟨_, _, e⟩ | ⟨_, e⟩ | ⟨y, _, hy, _, _, _, e⟩
    · rw [e]; exact h.moved _ _ _
    · rw [e]; exact h
    · rw [e]; exact (h.less (h.get hy)).moved _ _ _
  rw [if_neg c4] at hok ⊢
  obtain ⟨n, h1, h2, e⟩ := write_ok hok
  rw [e]
  exact h.set (er_wr n o)
/-- A node whose mode (9) or data (8) is not looked at. -/
def blank (c f : Int) (x : Nd) : Nd := if x.fid = f then (if c = 9 then ⟨x.fid, x.k, 0, x.ln, none, 0, x.zs, none, 0, x.ks⟩ else ⟨x.fid, x.k, x.md, x.ln, none, 0, [], none, 0, x.ks⟩) else x
def blankL (c f : Int) (l : List Nd) : List Nd := l.map (blank c f)
theorem blank_fid (c f : Int) (x : Nd) : (blank c f x).fid = x.fid := by unfold blank; split <;> (try split) <;> rfl
theorem blank_k (c f : Int) (x : Nd) : (blank c f x).k = x.k := by unfold blank; split <;> (try split) <;> rfl
theorem blank_ln (c f : Int) (x : Nd) : (blank c f x).ln = x.ln := by unfold blank; split <;> (try split) <;> rfl
theorem blank_ks (c f : Int) (x : Nd) : (blank c f x).ks = x.ks := by unfold blank; split <;> (try split) <;> rfl
theorem blank_kids (c f : Int) (x : Nd) (K : List Kd) : blank c f (x.kids none 0 K) = (blank c f x).kids none 0 K := by
  by_cases e : x.fid = f
  · unfold blank
    rw [if_pos e, if_pos (show (x.kids none 0 K).fid = f from e)]
    by_cases e2 : c = 9
    · rw [if_pos e2, if_pos e2]; rfl
    · rw [if_neg e2, if_neg e2]; rfl
  · unfold blank
    rw [if_neg e, if_neg (show (x.kids none 0 K).fid ≠ f from e)]
theorem blank_lnk (c f : Int) (x : Nd) (n : Int) : blank c f (x.lnk n) = (blank c f x).lnk n := by
  by_cases e : x.fid = f
  · unfold blank
    rw [if_pos e, if_pos (show (x.lnk n).fid = f from e)]
    by_cases e2 : c = 9
    · rw [if_pos e2, if_pos e2]; rfl
    · rw [if_neg e2, if_neg e2]; rfl
  · unfold blank
    rw [if_neg e, if_neg (show (x.lnk n).fid ≠ f from e)]
theorem getF_blank (c f : Int) (l : List Nd) (g : Int) : getF (blankL c f l) g = (getF l g).map (blank c f) := by
  unfold blankL getF
  rw [List.find?_map]
  congr 2
  funext x
  show ((blank c f x).fid == g) = _
  rw [blank_fid]
theorem srt_blank {c f : Int} {l : List Nd} (h : Srt l) : Srt (blankL c f l) := by
  unfold blankL Srt Ris at *
  rw [List.pairwise_map]
  refine h.imp (fun {a b} h => ?_)
  rw [blank_fid, blank_fid]
  exact h
theorem blank_set {c f : Int} {l : List Nd} (n : Nd) (h : Srt l) : blankL c f (setL l n) = setL (blankL c f l) (blank c f n) :=
  srt_ext (srt_blank (srt_set _ h)) (srt_set _ (srt_blank h)) (fun g => by
    rw [getF_blank, getF_set, getF_set, getF_blank, blank_fid]
    split <;> rfl)
theorem blank_out {c f : Int} {l : List Nd} (g0 : Int) (h : Srt l) : blankL c f (outL l g0) = outL (blankL c f l) g0 :=
  srt_ext (srt_blank (srt_out _ h)) (srt_out _ (srt_blank h)) (fun g => by
    rw [getF_blank, getF_out, getF_out, getF_blank]
    split <;> rfl)
theorem blank_less {c f : Int} {l : List Nd} (n : Nd) (h : Srt l) : blankL c f (lessL l n) = lessL (blankL c f l) (blank c f n) := by
  unfold lessL
  rw [blank_ln, blank_fid]
  split
  · exact blank_out _ h
  · exact (blank_set (n.lnk (n.ln - 1)) h).trans (by rw [blank_lnk]; rw [show (blank c f n).lnk (n.ln - 1) = ⟨n.fid, (blank c f n).k, (blank c f n).md, n.ln - 1, (blank c f n).da, (blank c f n).dc, (blank c f n).zs, (blank c f n).ka, (blank c f n).kc, (blank c f n).ks⟩ by unfold Nd.lnk; rw [blank_fid]])
theorem getD_map {l : List Nd} {ψ : Nd → Nd} {α : Type} (P : Nd → α) (h : ∀ x, P (ψ x) = P x) (i : Nat) : P ((l.map ψ).getD i Nd.no) = P (l.getD i Nd.no) := by
  by_cases hi : i < l.length
  · simp [List.getD, hi, h]
  · simp [List.getD, hi]
theorem upM_map {x y : Nd} (hf : x.fid = y.fid) (hs : x.ks = y.ks) (f acc : Int) : ∀ m, upM x f acc m = upM y f acc m
  | 0 => rfl
  | m + 1 => by unfold upM; rw [hf, hs, upM_map hf hs f acc m]
theorem upK_map {l : List Nd} {ψ : Nd → Nd} (hf : ∀ x, (ψ x).fid = x.fid) (hs : ∀ x, (ψ x).ks = x.ks) (f : Int) : ∀ k, upK (l.map ψ) f k = upK l f k
  | 0 => rfl
  | k + 1 => by
    unfold upK
    rw [upK_map hf hs f k, getD_map (fun x => x.ks) hs k]
    exact upM_map (getD_map (fun x => x.fid) hf k) (getD_map (fun x => x.ks) hs k) f _ _
theorem abN_map {l : List Nd} {ψ : Nd → Nd} (hf : ∀ x, (ψ x).fid = x.fid) (hs : ∀ x, (ψ x).ks = x.ks) (f : Int) : ∀ (n : Nat) (t : Int), abN (l.map ψ) f n t = abN l f n t
  | 0, _ => rfl
  | n + 1, t => by
    have e : ∀ v, upD (l.map ψ) v = upD l v := fun v => by unfold upD; rw [List.length_map]; exact upK_map hf hs v _
    unfold abN
    rw [e, abN_map hf hs f n]
section
variable {c f : Int} {l m : List Nd}
theorem bl_get (h : blankL c f l = blankL c f m) {g : Int} {x : Nd} (hx : getF l g = some x) : ∃ y, getF m g = some y ∧ blank c f x = blank c f y ∧ y.fid = x.fid ∧ y.k = x.k ∧ y.ln = x.ln ∧ y.ks = x.ks := by
  have h1 := getF_blank c f l g
  rw [h, getF_blank, hx] at h1
  cases hy : getF m g with
  | none => rw [hy] at h1; cases h1
  | some y =>
    rw [hy] at h1
    have e : blank c f y = blank c f x := Option.some.inj h1
    refine ⟨y, rfl, e.symm, ?_, ?_, ?_, ?_⟩
    · rw [← blank_fid c f y, e, blank_fid]
    · rw [← blank_k c f y, e, blank_k]
    · rw [← blank_ln c f y, e, blank_ln]
    · rw [← blank_ks c f y, e, blank_ks]
theorem bl_none (h : blankL c f l = blankL c f m) {g : Int} (hx : getF l g = none) : getF m g = none := by
  cases hy : getF m g with
  | none => rfl
  | some y => obtain ⟨x, h1, _⟩ := bl_get h.symm hy; rw [hx] at h1; cases h1
theorem bl_len (h : blankL c f l = blankL c f m) : l.length = m.length := by simpa [blankL] using congrArg List.length h
theorem bl_ab (h : blankL c f l = blankL c f m) (n : Int) (k : Nat) (t : Int) : abN m n k t = abN l n k t := by
  rw [← abN_map (l := l) (blank_fid c f) (blank_ks c f), ← abN_map (l := m) (blank_fid c f) (blank_ks c f)]
  show abN (blankL c f m) n k t = abN (blankL c f l) n k t
  rw [h]
theorem bl_create (h : blankL c f l = blankL c f m) (R : Rt l) (M : Rt m) {o : Rec} (hok : (createL l o).1 = 0) : (createL m o).1 = 0 ∧ blankL c f (createL l o).2 = blankL c f (createL m o).2 := by
  obtain ⟨d, h1, h2, h3, h4, h5, h6, e⟩ := create_ok R hok
  obtain ⟨d', q1, q2, q3, q4, q5, q6⟩ := bl_get h h1
  have hl := bl_len h
  rw [create_do q1 (by rw [q4]; exact h2) (by rw [q6]; exact h3) (bl_none h h4) (by omega) (by rw [q6]; exact h6), e]
  refine ⟨rfl, ?_⟩
  show blankL c f _ = blankL c f _
  rw [blank_set _ (srt_set _ R.srt), blank_set _ R.srt, blank_set _ (srt_set _ M.srt), blank_set _ M.srt, blank_kids, blank_kids, q2, q6, h]
theorem bl_hard (h : blankL c f l = blankL c f m) (R : Rt l) (M : Rt m) {o : Rec} (hok : (hardL l o).1 = 0) : (hardL m o).1 = 0 ∧ blankL c f (hardL l o).2 = blankL c f (hardL m o).2 := by
  obtain ⟨d, n, h0, hn, h1, h2, h3, h6, e⟩ := hard_ok R hok
  obtain ⟨d', q1, q2, q3, q4, q5, q6⟩ := bl_get h h1
  obtain ⟨n', p1, p2, p3, p4, p5, p6⟩ := bl_get h h0
  rw [hard_do p1 (by rw [p4]; exact hn) q1 (by rw [q4]; exact h2) (by rw [q6]; exact h3) (by rw [q6]; exact h6), e]
  refine ⟨rfl, ?_⟩
  show blankL c f _ = blankL c f _
  rw [blank_set _ (srt_set _ R.srt), blank_set _ R.srt, blank_set _ (srt_set _ M.srt), blank_set _ M.srt, blank_kids, blank_kids, blank_lnk, blank_lnk, q2, q6, p2, p5, h]
theorem bl_remove (h : blankL c f l = blankL c f m) (R : Rt l) (M : Rt m) {o : Rec} (hk : o.k = 5 ∨ o.k = 6) (hok : (removeL l o).1 = 0) : (removeL m o).1 = 0 ∧ blankL c f (removeL l o).2 = blankL c f (removeL m o).2 := by
  obtain ⟨d, n, h1, h2, h3, h4, h5, h6, e⟩ := remove_ok R hk hok
  obtain ⟨d', q1, q2, q3, q4, q5, q6⟩ := bl_get h h1
  obtain ⟨n', p1, p2, p3, p4, p5, p6⟩ := bl_get h h4
  have hn0 : n'.fid ≠ 0 := by have := (R.at h4).2.1; omega
  rw [remove_do q1 (by rw [q4]; exact h2) (by rw [q6, p3]; exact h3) (by rw [p3]; exact p1) hn0 hk (by rw [p4]; exact h5) (by rw [p6]; exact h6), e]
  refine ⟨rfl, ?_⟩
  show blankL c f _ = blankL c f _
  rw [blank_less _ (srt_set _ R.srt), blank_set _ R.srt, blank_less _ (srt_set _ M.srt), blank_set _ M.srt, blank_kids, blank_kids, q2, q6, p2, h]
theorem blank_moved {o : Rec} {g : Int} {D : List Nd} {a b : Nd} (hs : Srt D) (ha : getF D o.dir = some a) (hb : getF D o.to = some b) (L L' : List Nd) : blankL c f (movedL L o g D) = movedL L' o g (blankL c f D) := by
  refine srt_ext (srt_blank (srt_moved hs)) (srt_moved (srt_blank hs)) (fun t => ?_)
  have a' : getF (blankL c f D) o.dir = some (blank c f a) := by rw [getF_blank, ha]; rfl
  have b' : getF (blankL c f D) o.to = some (blank c f b) := by rw [getF_blank, hb]; rfl
  rw [getF_blank, getF_moved L o g D ha hb, getF_moved L' o g _ a' b', getF_blank, blank_ks, blank_ks]
  split
  · rw [Option.map_some, blank_kids]
  · split
    · rw [Option.map_some, blank_kids]
    · rfl
theorem bl_rename (h : blankL c f l = blankL c f m) (R : Rt l) (M : Rt m) {o : Rec} (hok : (renameL l o).1 = 0) : (renameL m o).1 = 0 ∧ blankL c f (renameL l o).2 = blankL c f (renameL m o).2 := by
  obtain ⟨a, b, n, ha, hb, hak, hbk, hn, hq, hno, h2⟩ := rename_how R hok
  obtain ⟨a', q1, q2, q3, q4, q5, q6⟩ := bl_get h ha
  obtain ⟨b', r1, r2, r3, r4, r5, r6⟩ := bl_get h hb
  obtain ⟨n', p1, p2, p3, p4, p5, p6⟩ := bl_get h hn
  have hn0 : n'.fid ≠ 0 := by have := (R.at hn).2.1; omega
  have hq' : kq a'.ks o.nm = some ⟨o.nm, n'.fid⟩ := by rw [q6, p3]; exact hq
  have hn' : getF m n'.fid = some n' := by rw [p3]; exact p1
  have hno' : n'.k = 2 → abN m n'.fid (m.length + 1) o.to ≠ true := fun e => by
    rw [p3, bl_ab h, ← bl_len h]
    exact hno (by rw [← p4]; exact e)
  have ka : a'.k = 2 := by rw [q4]; exact hak
  have kb : b'.k = 2 := by rw [r4]; exact hbk
  rcases h2 with ⟨h3, h4, e⟩ | ⟨h3, e⟩ | ⟨y, h3, hy, hyn, hyk, hkk, e⟩
  · have hz : getF m 0 = none := by
      cases e : getF m 0 with
      | none => rfl
      | some z => have := (M.at e).2.1; omega
    rw [e, rename_new q1 ka r1 kb hq' hn' hn0 hno' (by rw [r6]; exact h3) hz (by rw [r6]; exact h4)]
    refine ⟨rfl, ?_⟩
    show blankL c f _ = blankL c f _
    rw [blank_moved R.srt ha hb l l, blank_moved M.srt q1 r1 m l, h, p3]
  · rw [e, rename_same (g := 0) q1 ka r1 kb hq' hn' hn0 hno' (by rw [kidI_kq, r6, h3, p3]; rfl)]
    exact ⟨rfl, h⟩
  · obtain ⟨y', s1, s2, s3, s4, s5, s6⟩ := bl_get h hy
    rw [e, rename_old q1 ka r1 kb hq' hn' hn0 hno' (by rw [r6, s3]; exact h3) (by rw [s3]; exact s1) (by rw [s3, p3]; exact hyn) (by rw [s6]; exact hyk) (by rw [s4, p4]; exact hkk)]
    refine ⟨rfl, ?_⟩
    show blankL c f _ = blankL c f _
    have fb := (getF_mem hb).2
    have hyb : y.fid ≠ o.to := fun e => by
      have := R.self (d := b) (by rw [fb]; exact hb) (kq_some h3).1
      rw [fb] at this
      exact this e
    have hya : y.fid ≠ o.dir := fun e => by
      rw [e, ha] at hy
      cases hy
      have := (kq_some hq).1
      rw [hyk] at this
      cases this
    have la : getF (lessL l y) o.dir = some a := by rw [getF_less, if_neg (fun e => hya e.symm)]; exact ha
    have lb : getF (lessL l y) o.to = some b := by rw [getF_less, if_neg (fun e => hyb e.symm)]; exact hb
    have la' : getF (lessL m y') o.dir = some a' := by rw [getF_less, if_neg (by rw [s3]; exact fun e => hya e.symm)]; exact q1
    have lb' : getF (lessL m y') o.to = some b' := by rw [getF_less, if_neg (by rw [s3]; exact fun e => hyb e.symm)]; exact r1
    rw [blank_moved (srt_less _ R.srt) la lb l l, blank_moved (srt_less _ M.srt) la' lb' m l, blank_less _ R.srt, blank_less _ M.srt, h, s2, p3]
theorem blank_wr {x y : Nd} (h : blank c f x = blank c f y) (o : Rec) : blank c f (x.wr o) = blank c f (y.wr o) := by
  have hf : x.fid = y.fid := by rw [← blank_fid c f x, h, blank_fid]
  by_cases e : x.fid = f
  · have e' : y.fid = f := by rw [← hf]; exact e
    have ex : (x.wr o).fid = f := by rw [wr_fid]; exact e
    have ey : (y.wr o).fid = f := by rw [wr_fid]; exact e'
    unfold blank at h ⊢
    rw [if_pos e, if_pos e'] at h
    rw [if_pos ex, if_pos ey]
    unfold Nd.wr
    by_cases c9 : c = 9
    · rw [if_pos c9, if_pos c9] at h
      rw [if_pos c9, if_pos c9]
      injection h with a1 a2 a3 a4 a5 a6 a7 a8 a9 a10
      by_cases k9 : o.k = 9
      · simp only [if_pos k9, a1, a2, a4, a7, a10]
      · simp only [if_neg k9, a1, a2, a4, a7, a10]
    · rw [if_neg c9, if_neg c9] at h
      rw [if_neg c9, if_neg c9]
      injection h with a1 a2 a3 a4 a5 a6 a7 a8 a9 a10
      by_cases k9 : o.k = 9
      · simp only [if_pos k9, a1, a2, a3, a4, a10]
      · simp only [if_neg k9, a1, a2, a3, a4, a10]
  · have e' : y.fid ≠ f := by rw [← hf]; exact e
    have : x = y := by unfold blank at h; rwa [if_neg e, if_neg e'] at h
    rw [this]
theorem wr_same {x y : Nd} (h : blank c f x = blank c f y) {o : Rec} (hf : x.fid = f) (hc : o.k = c) (h89 : c = 8 ∨ c = 9) : x.wr o = y.wr o := by
  have hf2 : x.fid = y.fid := by rw [← blank_fid c f x, h, blank_fid]
  have e' : y.fid = f := by rw [← hf2]; exact hf
  unfold blank at h
  rw [if_pos hf, if_pos e'] at h
  unfold Nd.wr
  by_cases c9 : c = 9
  · rw [if_pos c9, if_pos c9] at h
    injection h with a1 a2 a3 a4 a5 a6 a7 a8 a9 a10
    simp only [if_pos (hc.trans c9), a1, a2, a4, a7, a10]
  · rw [if_neg c9, if_neg c9] at h
    injection h with a1 a2 a3 a4 a5 a6 a7 a8 a9 a10
    simp only [if_neg (fun e => c9 (hc.symm.trans e)), a1, a2, a3, a4, a10]
theorem bl_write (h : blankL c f l = blankL c f m) (R : Rt l) (M : Rt m) {o : Rec} (hok : (writeL l o).1 = 0) : (writeL m o).1 = 0 ∧ blankL c f (writeL l o).2 = blankL c f (writeL m o).2 ∧
    (o.fid = f → o.k = c → (c = 8 ∨ c = 9) → (writeL l o).2 = (writeL m o).2) := by
  obtain ⟨n, h1, h2, e⟩ := write_ok hok
  obtain ⟨n', p1, p2, p3, p4, p5, p6⟩ := bl_get h h1
  rw [write_do p1 (by rw [p4]; exact h2), e]
  refine ⟨rfl, ?_, fun ef ec e89 => ?_⟩
  · show blankL c f _ = blankL c f _
    rw [blank_set _ R.srt, blank_set _ M.srt, h, blank_wr p2]
  · have fn := (getF_mem h1).2
    have ew := wr_same p2 (o := o) (by rw [fn]; exact ef) ec e89
    refine srt_ext (srt_set _ R.srt) (srt_set _ M.srt) (fun g => ?_)
    show _ = getF (setL m (n'.wr o)) g
    rw [getF_set, getF_set, ew]
    split
    · rfl
    · rename_i hg
      rw [wr_fid, p3, fn, ef] at hg
      have h3 := getF_blank c f l g
      rw [h, getF_blank] at h3
      cases e1 : getF l g with
      | none => exact (bl_none h e1).symm
      | some x =>
        obtain ⟨y, y1, y2, y3, _⟩ := bl_get h e1
        have fx : x.fid ≠ f := by rw [(getF_mem e1).2]; exact hg
        unfold blank at y2
        rw [if_neg fx, if_neg (by rw [y3]; exact fx)] at y2
        rw [y1, y2]
theorem bl_apply (h : blankL c f l = blankL c f m) (R : Rt l) (M : Rt m) {o : Rec} (hk : 1 ≤ o.k ∧ o.k ≤ 9) (hok : (applyL l o).1 = 0) : (applyL m o).1 = 0 ∧ blankL c f (applyL l o).2 = blankL c f (applyL m o).2 ∧
    (o.fid = f → o.k = c → (c = 8 ∨ c = 9) → (applyL l o).2 = (applyL m o).2) := by
  unfold applyL at hok ⊢
  by_cases c1 : o.k = 1 ∨ o.k = 2 ∨ o.k = 3
  · simp only [if_pos c1] at hok ⊢
    exact ⟨(bl_create h R M hok).1, (bl_create h R M hok).2, fun _ e1 e2 => by omega⟩
  simp only [if_neg c1] at hok ⊢
  by_cases c2 : o.k = 4
  · simp only [if_pos c2] at hok ⊢
    exact ⟨(bl_hard h R M hok).1, (bl_hard h R M hok).2, fun _ e1 e2 => by omega⟩
  simp only [if_neg c2] at hok ⊢
  by_cases c3 : o.k = 5 ∨ o.k = 6
  · simp only [if_pos c3] at hok ⊢
    exact ⟨(bl_remove h R M c3 hok).1, (bl_remove h R M c3 hok).2, fun _ e1 e2 => by omega⟩
  simp only [if_neg c3] at hok ⊢
  by_cases c4 : o.k = 7
  · simp only [if_pos c4] at hok ⊢
    exact ⟨(bl_rename h R M hok).1, (bl_rename h R M hok).2, fun _ e1 e2 => by omega⟩
  simp only [if_neg c4] at hok ⊢
  exact bl_write h R M hok
end
/-- Operations one behind the other, all of which can be done. -/
def runL : List Nd → List Rec → Option (List Nd)
  | l, [] => some l
  | l, o :: t => if (ApplyL l o).1 = 0 then runL (ApplyL l o).2 t else none
theorem ApplyL_ok {l : List Nd} {o : Rec} (h : (ApplyL l o).1 = 0) : Rt l ∧ rightF o = true ∧ ApplyL l o = applyL l o := by
  unfold ApplyL at h ⊢
  split
  · rename_i c
    rw [Bool.and_eq_true] at c
    exact ⟨rightD_rt.1 c.1, c.2, rfl⟩
  · rename_i c; rw [if_neg c] at h; cases h
theorem ApplyL_of {l : List Nd} {o : Rec} (R : Rt l) (h : rightF o = true) : ApplyL l o = applyL l o := by
  unfold ApplyL
  rw [rightD_rt.2 R, h]
  rfl
/-- A setting that is set anew may be left out. -/
theorem run_anew {c f : Int} (h89 : c = 8 ∨ c = 9) : ∀ (t : List Rec) (l m : List Nd) (r : List Nd), blankL c f l = blankL c f m → Rt l → Rt m → (∀ o ∈ t, o.Wf) → runL l t = some r → (∃ o ∈ t, o.k = c ∧ o.fid = f) → runL m t = some r
  | [], _, _, _, _, _, _, _, _, h => by obtain ⟨o, ho, _⟩ := h; cases ho
  | o :: t, l, m, r, h, R, M, hw, hr, hex => by
    unfold runL at hr ⊢
    by_cases c0 : (ApplyL l o).1 = 0
    · rw [if_pos c0] at hr
      obtain ⟨_, hF, e⟩ := ApplyL_ok c0
      rw [e] at c0 hr
      obtain ⟨b1, b2, b3⟩ := bl_apply h R M (rightF_k hF) c0
      rw [ApplyL_of M hF, if_pos b1]
      have wo := hw o (List.mem_cons_self ..)
      have hw' : ∀ o ∈ t, o.Wf := fun o ho => hw o (List.mem_cons_of_mem _ ho)
      by_cases q : o.k = c ∧ o.fid = f
      · rw [← b3 q.2 q.1 h89]; exact hr
      · refine run_anew h89 t _ _ r b2 (R.apply hF wo c0) (M.apply hF wo b1) hw' hr ?_
        obtain ⟨o', ho', h'⟩ := hex
        rcases List.mem_cons.1 ho' with e1 | e1
        · rw [e1] at h'; exact absurd h' q
        · exact ⟨o', e1, h'⟩
    · rw [if_neg c0] at hr; cases hr
theorem set_blank {l : List Nd} (R : Rt l) {o : Rec} (hk : o.k = 8 ∨ o.k = 9) (hok : (applyL l o).1 = 0) : blankL o.k o.fid (applyL l o).2 = blankL o.k o.fid l := by
  have e : applyL l o = writeL l o := by
    unfold applyL
    rw [if_neg (by omega), if_neg (by omega), if_neg (by omega), if_neg (by omega)]
  rw [e] at hok ⊢
  obtain ⟨n, h1, h2, e⟩ := write_ok hok
  have fn := (getF_mem h1).2
  rw [e]
  refine srt_ext (srt_blank (srt_set _ R.srt)) (srt_blank R.srt) (fun g => ?_)
  rw [getF_blank, getF_blank, getF_set, wr_fid, fn]
  split
  · rename_i e2
    rw [e2, h1, Option.map_some, Option.map_some]
    congr 1
    unfold blank Nd.wr
    rw [if_pos fn]
    by_cases k9 : o.k = 9
    · simp only [if_pos k9, if_pos fn]
    · simp only [if_neg k9, if_pos fn]
  · rfl
theorem run_less {l : List Nd} {x : Rec} {t : List Rec} {r : List Nd} (hw : ∀ o ∈ x :: t, o.Wf) (h : runL l (x :: t) = some r) (hk : x.k = 8 ∨ x.k = 9) (hex : ∃ o ∈ t, o.k = x.k ∧ o.fid = x.fid) : runL l t = some r := by
  unfold runL at h
  by_cases c0 : (ApplyL l x).1 = 0
  · rw [if_pos c0] at h
    obtain ⟨R, hF, e⟩ := ApplyL_ok c0
    rw [e] at c0 h
    have wx := hw x (List.mem_cons_self ..)
    exact run_anew hk t _ l r (set_blank R hk c0) (R.apply hF wx c0) R (fun o ho => hw o (List.mem_cons_of_mem _ ho)) h hex
  · rw [if_neg c0] at h; cases h
end Go.Proofs.Ytihgiemgcmpmmaa
