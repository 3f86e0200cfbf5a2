/-
  Trees, plainly: lists that rise by a key, with one put in, or taken out; what is found in them, and how often.
-/
import Derived.Test.YtkokjkaclcjnjaaGreatDoorPtBc
import Derived.Sort.Walk0
namespace Go.Proofs.YtkokjkaclcjnjaaGreatDoor
set_option linter.unusedVariables false
set_option linter.unusedSimpArgs false
set_option linter.unusedSectionVars false
section
variable {α κ : Type} [DecidableEq κ] (key : α → κ) (le : κ → κ → Bool)
def insR (n : α) : List α → List α
 | [] => [n]
 | x :: t => if le (key n) (key x) then n :: (x :: t).filter (fun y => decide (key y ≠ key n)) else x :: insR n t
def fnd (l : List α) (k : κ) : Option α := l.find? (fun x => decide (key x = k))
def Ris (l : List α) : Prop := l.Pairwise (fun x y => le (key y) (key x) = false)
theorem fnd_cons (x : α) (t : List α) (k : κ) : fnd key (x :: t) k = if key x = k then some x else fnd key t k := by
 unfold fnd
 rw [List.find?_cons]
 by_cases h : key x = k <;> simp [h]
theorem fnd_mem {l : List α} {k : κ} {x : α} (h : fnd key l k = some x) : x ∈ l ∧ key x = k :=
 ⟨List.mem_of_find?_eq_some h, by simpa using List.find?_some h⟩
theorem fnd_filter (l : List α) (f k : κ) : fnd key (l.filter (fun y => decide (key y ≠ f))) k = if k = f then none else fnd key l k := by
 induction l with
 | nil => simp [fnd]
 | cons x t ih =>
   by_cases hx : key x = f
   · rw [List.filter_cons_of_neg (by simp [hx]), ih, fnd_cons]
     by_cases hk : k = f
     · rw [if_pos hk, if_pos hk]
     · rw [if_neg hk, if_neg hk, if_neg (fun e => hk (by rw [← e, hx]))]
   · rw [List.filter_cons_of_pos (by simp [hx]), fnd_cons, fnd_cons, ih]
     by_cases hk : k = f
     · rw [if_pos hk, if_pos hk, if_neg (fun e => hx (by rw [e, hk]))]
     · rw [if_neg hk, if_neg hk]
variable (refl : ∀ a, le a a = true)
include refl in
theorem fnd_insR (n : α) (l : List α) (k : κ) : fnd key (insR key le n l) k = if k = key n then some n else fnd key l k := by
 induction l with
 | nil =>
   simp only [insR]
   rw [fnd_cons]
   by_cases h : key n = k
   · rw [if_pos h, if_pos h.symm]
   · rw [if_neg h, if_neg (fun e => h e.symm)]
 | cons x t ih =>
   simp only [insR]
   split
   · rw [fnd_cons, fnd_filter]
     by_cases h : key n = k
     · rw [if_pos h, if_pos h.symm]
     · rw [if_neg h, if_neg (fun e => h e.symm), if_neg (fun e => h e.symm)]
   · rename_i hle
     have hne : key x ≠ key n := fun e => hle (by rw [e]; exact refl _)
     rw [fnd_cons, fnd_cons, ih]
     by_cases hx : key x = k
     · rw [if_pos hx, if_pos hx, if_neg (fun e => hne (by rw [hx, e]))]
     · rw [if_neg hx, if_neg hx]
theorem insR_mem {n : α} {l : List α} {y : α} (h : y ∈ insR key le n l) : y = n ∨ y ∈ l := by
 induction l with
 | nil => simp only [insR, List.mem_singleton] at h; exact .inl h
 | cons x t ih =>
   simp only [insR] at h
   split at h
   · rcases List.mem_cons.1 h with h | h
     · exact .inl h
     · exact .inr (List.mem_filter.1 h).1
   · rcases List.mem_cons.1 h with h | h
     · exact .inr (by rw [h]; exact List.mem_cons_self)
     · rcases ih h with h | h
       · exact .inl h
       · exact .inr (List.mem_cons_of_mem _ h)
variable (total : ∀ a b, le a b = true ∨ le b a = true) (trans : ∀ a b c, le a b = true → le b c = true → le a c = true) (anti : ∀ a b, le a b = true → le b a = true → a = b)
include total trans anti in
theorem ris_insR (n : α) {l : List α} (h : Ris key le l) : Ris key le (insR key le n l) := by
 induction l with
 | nil => exact List.pairwise_singleton _ _
 | cons x t ih =>
   unfold Ris at h
   rw [List.pairwise_cons] at h
   simp only [insR]
   split
   · rename_i hle
     unfold Ris
     rw [List.pairwise_cons]
     refine ⟨fun y hy => ?_, ?_⟩
     · rw [List.mem_filter] at hy
       have hne : key y ≠ key n := by simpa using hy.2
       cases hq : le (key y) (key n) with
       | false => rfl
       | true =>
         exfalso
         rcases List.mem_cons.1 hy.1 with e | e
         · subst e; exact hne (anti _ _ hq hle)
         · have h1 := h.1 y e
           have h2 := trans _ _ _ hq hle
           rw [h1] at h2; cases h2
     · exact List.Pairwise.sublist List.filter_sublist (List.pairwise_cons.2 h)
   · rename_i hle
     unfold Ris
     rw [List.pairwise_cons]
     refine ⟨fun y hy => ?_, ih h.2⟩
     rcases insR_mem key le hy with e | e
     · subst e; simpa using hle
     · exact h.1 y e
theorem ris_filter {l : List α} (p : α → Bool) (h : Ris key le l) : Ris key le (l.filter p) := List.Pairwise.sublist List.filter_sublist h
include refl in
theorem ris_ne {x : α} {t : List α} (h : Ris key le (x :: t)) : ∀ y ∈ t, key y ≠ key x := fun y hy e => by
 have := (List.pairwise_cons.1 h).1 y hy
 rw [e, refl] at this
 cases this
include refl in
theorem fnd_of {l : List α} (h : Ris key le l) {x : α} (hx : x ∈ l) : fnd key l (key x) = some x := by
 induction l with
 | nil => cases hx
 | cons y t ih =>
   rw [fnd_cons]
   rcases List.mem_cons.1 hx with e | e
   · rw [e, if_pos rfl]
   · rw [if_neg (fun e2 => ris_ne key le refl h x e e2.symm)]
     exact ih (List.pairwise_cons.1 h).2 e
include refl total in
theorem ris_ext : ∀ {l m : List α}, Ris key le l → Ris key le m → (∀ k, fnd key l k = fnd key m k) → l = m
 | [], [], _, _, _ => rfl
 | [], y :: s, _, hm, h => by
   have := h (key y)
   rw [fnd_cons, if_pos rfl] at this
   cases this
 | x :: t, [], hl, _, h => by
   have := h (key x)
   rw [fnd_cons, if_pos rfl] at this
   cases this
 | x :: t, y :: s, hl, hm, h => by
   have hx := h (key x)
   rw [fnd_cons, if_pos rfl] at hx
   have hy := h (key y)
   rw [fnd_cons key y s, if_pos rfl] at hy
   have exy : x = y := by
     rcases List.mem_cons.1 (fnd_mem key hx.symm).1 with e | e
     · exact e
     · rcases List.mem_cons.1 (fnd_mem key hy).1 with e2 | e2
       · exact e2.symm
       · exfalso
         have h1 := (List.pairwise_cons.1 hm).1 x e
         have h2 := (List.pairwise_cons.1 hl).1 y e2
         rcases total (key x) (key y) with q | q
         · rw [q] at h1; cases h1
         · rw [q] at h2; cases h2
   subst exy
   congr 1
   refine ris_ext (List.pairwise_cons.1 hl).2 (List.pairwise_cons.1 hm).2 (fun k => ?_)
   have := h k
   rw [fnd_cons, fnd_cons] at this
   by_cases e : key x = k
   · have n1 : fnd key t k = none := by
       cases hq : fnd key t k with
       | none => rfl
       | some z => exact absurd ((fnd_mem key hq).2.trans e.symm) (ris_ne key le refl hl z (fnd_mem key hq).1)
     have n2 : fnd key s k = none := by
       cases hq : fnd key s k with
       | none => rfl
       | some z => exact absurd ((fnd_mem key hq).2.trans e.symm) (ris_ne key le refl hm z (fnd_mem key hq).1)
     rw [n1, n2]
   · rw [if_neg e, if_neg e] at this
     exact this
def wsm (ω : α → Nat) (l : List α) : Nat := (l.map ω).sum
theorem wsm_cons (ω : α → Nat) (x : α) (t : List α) : wsm ω (x :: t) = ω x + wsm ω t := by simp [wsm]
theorem filter_all {l : List α} {f : κ} (h : ∀ y ∈ l, key y ≠ f) : l.filter (fun y => decide (key y ≠ f)) = l := List.filter_eq_self.2 (fun y hy => by simpa using h y hy)
include refl in
theorem wsm_filter (ω : α → Nat) (f : κ) {l : List α} (h : Ris key le l) : wsm ω (l.filter (fun y => decide (key y ≠ f))) + (fnd key l f).elim 0 ω = wsm ω l := by
 induction l with
 | nil => rfl
 | cons x t ih =>
   rw [fnd_cons, wsm_cons]
   by_cases hx : key x = f
   · rw [if_pos hx, List.filter_cons_of_neg (by simp [hx]), filter_all key (fun y hy => by rw [← hx]; exact ris_ne key le refl h y hy)]
     simp only [Option.elim]
     omega
   · rw [if_neg hx, List.filter_cons_of_pos (by simp [hx]), wsm_cons]
     have := ih (List.pairwise_cons.1 h).2
     omega
include refl in
theorem wsm_insR (ω : α → Nat) (n : α) {l : List α} (h : Ris key le l) : wsm ω (insR key le n l) + (fnd key l (key n)).elim 0 ω = wsm ω l + ω n := by
 induction l with
 | nil => simp [insR, wsm, fnd]
 | cons x t ih =>
   simp only [insR]
   split
   · rw [wsm_cons]
     have := wsm_filter key le refl ω (key n) h
     omega
   · rename_i hle
     have hne : key x ≠ key n := fun e => hle (by rw [e]; exact refl _)
     rw [wsm_cons, wsm_cons, fnd_cons, if_neg hne]
     have := ih (List.pairwise_cons.1 h).2
     omega
theorem wsm_len (l : List α) : wsm (fun _ => 1) l = l.length := by
 induction l with
 | nil => rfl
 | cons x t ih => rw [wsm_cons, ih, List.length_cons]; omega
theorem wsm_pos {ω : α → Nat} {l : List α} {x : α} (hx : x ∈ l) (h : 0 < ω x) : 0 < wsm ω l := by
 induction l with
 | nil => cases hx
 | cons y t ih =>
   rw [wsm_cons]
   rcases List.mem_cons.1 hx with e | e
   · rw [← e]; omega
   · have := ih e; omega
theorem wsm_ex {ω : α → Nat} {l : List α} (h : 0 < wsm ω l) : ∃ x ∈ l, 0 < ω x := by
 induction l with
 | nil => cases h
 | cons y t ih =>
   rw [wsm_cons] at h
   rcases Nat.eq_zero_or_pos (ω y) with q | q
   · obtain ⟨x, hx, hp⟩ := ih (by omega)
     exact ⟨x, List.mem_cons_of_mem _ hx, hp⟩
   · exact ⟨y, List.mem_cons_self, q⟩
end
/-! ### Nodes by their fids -/
def leI (a b : Int) : Bool := decide (a ≤ b)
theorem leI_refl (a : Int) : leI a a = true := by simp [leI]
theorem leI_total (a b : Int) : leI a b = true ∨ leI b a = true := by simp only [leI, decide_eq_true_eq]; omega
theorem leI_trans (a b c : Int) : leI a b = true → leI b c = true → leI a c = true := by simp only [leI, decide_eq_true_eq]; omega
theorem leI_anti (a b : Int) : leI a b = true → leI b a = true → a = b := by simp only [leI, decide_eq_true_eq]; omega
theorem getF_fnd (l : List Nd) (f : Int) : getF l f = fnd Nd.fid l f := by
 rfl
theorem outL_filter (l : List Nd) (f : Int) : outL l f = l.filter (fun y => decide (y.fid ≠ f)) := by
 unfold outL
 congr 1
 funext x
 rw [Bool.eq_iff_iff]; simp
theorem setFold_true (n : Nd) : ∀ (l : List Nd) (out : List Nd), l.foldl (setS n) (out, true) = (out ++ outL l n.fid, true)
 | [], out => by simp [outL]
 | x :: t, out => by
   rw [List.foldl_cons]
   have e : setS n (out, true) x = (out ++ (if x.fid != n.fid then [x] else []), true) := by simp [setS]
   rw [e, setFold_true n t]
   unfold outL
   rw [List.filter_cons]
   split <;> simp
theorem setFold_false (n : Nd) : ∀ (l : List Nd) (out : List Nd), (if (l.foldl (setS n) (out, false)).2 then (l.foldl (setS n) (out, false)).1 else (l.foldl (setS n) (out, false)).1 ++ [n]) = out ++ insR Nd.fid leI n l
 | [], out => by simp [insR]
 | x :: t, out => by
   rw [List.foldl_cons]
   by_cases h : n.fid ≤ x.fid
   · have e : setS n (out, false) x = ((out ++ [n]) ++ (if x.fid != n.fid then [x] else []), true) := by simp [setS, h]
     rw [e, setFold_true]
     have h2 : leI n.fid x.fid = true := by simpa [leI] using h
     simp only [if_true, insR, h2]
     rw [← outL_filter]
     unfold outL
     rw [List.filter_cons]
     split <;> simp
   · have hne : (x.fid != n.fid) = true := by simp; omega
     have e : setS n (out, false) x = (out ++ [x], false) := by simp [setS, h, hne]
     rw [e, setFold_false n t]
     have h2 : leI n.fid x.fid = false := by simpa [leI] using h
     simp only [insR, h2]
     simp
theorem setL_insR (l : List Nd) (n : Nd) : setL l n = insR Nd.fid leI n l := by
 have := setFold_false n l []
 simpa [setL] using this
/-! ### Entries by their names -/
theorem lessB (x y : ByteArray) : Op.bytesLess x.toList y.toList = decide (x.toList < y.toList) := bytesLess_eq _ _
theorem leS_iff (x y : ByteArray) : leS x y = true ↔ x.toList ≤ y.toList := by
 unfold leS
 rw [Bool.or_eq_true, lessB, decide_eq_true_eq, beq_iff_eq]
 exact List.le_iff_lt_or_eq.symm
theorem ba_inj {x y : ByteArray} (h : x.toList = y.toList) : x = y := by
 have := ba_eq (s := x) (t := y)
 rw [h] at this
 simpa using this.symm
theorem leS_refl (a : ByteArray) : leS a a = true := (leS_iff a a).2 (List.le_refl _)
theorem leS_total (a b : ByteArray) : leS a b = true ∨ leS b a = true := by
 rw [leS_iff, leS_iff]; exact List.le_total _ _
theorem leS_trans (a b c : ByteArray) : leS a b = true → leS b c = true → leS a c = true := by
 rw [leS_iff, leS_iff, leS_iff]; exact List.le_trans
theorem leS_anti (a b : ByteArray) : leS a b = true → leS b a = true → a = b := by
 rw [leS_iff, leS_iff]; exact fun h k => ba_inj (List.le_antisymm h k)
theorem entFold_true (s : ByteArray) (f : Int) : ∀ (l : List Kd) (out : List Kd), l.foldl (entS s f) (out, true) = (out ++ l.filter (fun y => decide (y.nm ≠ s)), true)
 | [], out => by simp
 | x :: t, out => by
   rw [List.foldl_cons]
   have e : entS s f (out, true) x = (out ++ (if decide (x.nm ≠ s) then [x] else []), true) := by simp [entS]
   rw [e, entFold_true s f t, List.filter_cons]
   split <;> simp
theorem entFold_false (s : ByteArray) (f : Int) : ∀ (l : List Kd) (out : List Kd), (if (l.foldl (entS s f) (out, false)).2 then (l.foldl (entS s f) (out, false)).1 else (l.foldl (entS s f) (out, false)).1 ++ [⟨s, f⟩]) = out ++ insR Kd.nm leS ⟨s, f⟩ l
 | [], out => by simp [insR]
 | x :: t, out => by
   rw [List.foldl_cons]
   cases h : leS s x.nm with
   | true =>
     have e : entS s f (out, false) x = ((out ++ [⟨s, f⟩]) ++ (if decide (x.nm ≠ s) then [x] else []), true) := by simp [entS, h]
     rw [e, entFold_true]
     simp only [if_true, insR, h]
     rw [List.filter_cons]
     split <;> simp
   | false =>
     have hne : x.nm ≠ s := fun e => by rw [e, leS_refl] at h; cases h
     have e : entS s f (out, false) x = (out ++ [x], false) := by simp [entS, h, hne]
     rw [e, entFold_false s f t]
     simp only [insR, h]
     simp
theorem entL_insR (l : List Kd) (s : ByteArray) {f : Int} (hf : f ≠ 0) : entL l s f = insR Kd.nm leS ⟨s, f⟩ l := by
 have e : (f == 0) = false := beq_eq_false_iff_ne.2 hf
 have := entFold_false s f l []
 unfold entL
 rw [e]
 simpa using this
theorem entL_zero (l : List Kd) (s : ByteArray) : entL l s 0 = l.filter (fun y => decide (y.nm ≠ s)) := by
 have e : ((0 : Int) == 0) = true := rfl
 unfold entL
 rw [e, entFold_true]
 simp
/-! ### What is found, how much there is -/
def kq (l : List Kd) (s : ByteArray) : Option Kd := fnd Kd.nm l s
theorem kidI_kq (l : List Kd) (s : ByteArray) : kidI l s = (kq l s).elim 0 (·.fid) := by
 unfold kidI kq fnd
 cases l.find? (fun k => decide (k.nm = s)) <;> rfl
abbrev Srt (l : List Nd) : Prop := Ris Nd.fid leI l
abbrev KSrt (l : List Kd) : Prop := Ris Kd.nm leS l
theorem getF_set (l : List Nd) (n : Nd) (g : Int) : getF (setL l n) g = if g = n.fid then some n else getF l g := by
 rw [getF_fnd, getF_fnd, setL_insR]; exact fnd_insR Nd.fid leI leI_refl n l g
theorem getF_out (l : List Nd) (f g : Int) : getF (outL l f) g = if g = f then none else getF l g := by
 rw [getF_fnd, getF_fnd, outL_filter]; exact fnd_filter Nd.fid l f g
theorem srt_set {l : List Nd} (n : Nd) (h : Srt l) : Srt (setL l n) := by
 rw [setL_insR]; exact ris_insR Nd.fid leI leI_total leI_trans leI_anti n h
theorem srt_out {l : List Nd} (f : Int) (h : Srt l) : Srt (outL l f) := by
 rw [outL_filter]; exact ris_filter Nd.fid leI _ h
theorem srt_ext {l m : List Nd} (hl : Srt l) (hm : Srt m) (h : ∀ g, getF l g = getF m g) : l = m := ris_ext Nd.fid leI leI_refl leI_total hl hm h
theorem srt_get {l : List Nd} (h : Srt l) {x : Nd} (hx : x ∈ l) : getF l x.fid = some x := fnd_of Nd.fid leI leI_refl h hx
theorem kq_ent (l : List Kd) (s : ByteArray) (f : Int) (t : ByteArray) : kq (entL l s f) t = if t = s then (if f = 0 then none else some ⟨s, f⟩) else kq l t := by
 by_cases hf : f = 0
 · subst hf
   rw [entL_zero, if_pos rfl]
   exact fnd_filter Kd.nm l s t
 · rw [entL_insR l s hf, if_neg hf]
   exact fnd_insR Kd.nm leS leS_refl ⟨s, f⟩ l t
theorem ksrt_ent {l : List Kd} (s : ByteArray) (f : Int) (h : KSrt l) : KSrt (entL l s f) := by
 by_cases hf : f = 0
 · subst hf; rw [entL_zero]; exact ris_filter Kd.nm leS _ h
 · rw [entL_insR l s hf]; exact ris_insR Kd.nm leS leS_total leS_trans leS_anti ⟨s, f⟩ h
theorem ksrt_ext {l m : List Kd} (hl : KSrt l) (hm : KSrt m) (h : ∀ s, kq l s = kq m s) : l = m := ris_ext Kd.nm leS leS_refl leS_total hl hm h
theorem ksrt_get {l : List Kd} (h : KSrt l) {x : Kd} (hx : x ∈ l) : kq l x.nm = some x := fnd_of Kd.nm leS leS_refl h hx
theorem wsm_set (ω : Nd → Nat) (n : Nd) {l : List Nd} (h : Srt l) : wsm ω (setL l n) + (getF l n.fid).elim 0 ω = wsm ω l + ω n := by
 rw [setL_insR]; exact wsm_insR Nd.fid leI leI_refl ω n h
theorem wsm_out (ω : Nd → Nat) (f : Int) {l : List Nd} (h : Srt l) : wsm ω (outL l f) + (getF l f).elim 0 ω = wsm ω l := by
 rw [outL_filter]; exact wsm_filter Nd.fid leI leI_refl ω f h
theorem wsm_ent (ω : Kd → Nat) (s : ByteArray) (f : Int) {l : List Kd} (h : KSrt l) : wsm ω (entL l s f) + (kq l s).elim 0 ω = wsm ω l + (if f = 0 then 0 else ω ⟨s, f⟩) := by
 by_cases hf : f = 0
 · subst hf
   rw [entL_zero, if_pos rfl]
   exact wsm_filter Kd.nm leS leS_refl ω s h
 · rw [entL_insR l s hf, if_neg hf]
   exact wsm_insR Kd.nm leS leS_refl ω ⟨s, f⟩ h
def cK (g : Int) (l : List Kd) : Nat := wsm (fun q => if q.fid = g then 1 else 0) l
def cN (g : Int) (x : Nd) : Nat := cK g x.ks
def cT (g : Int) (l : List Nd) : Nat := wsm (cN g) l
theorem cK_count (g : Int) (l : List Kd) : cK g l = (l.map (·.fid)).count g := by
 unfold cK
 induction l with
 | nil => rfl
 | cons x t ih =>
   rw [wsm_cons, ih, List.map_cons, List.count_cons]
   by_cases e : x.fid = g
   · simp [e]; omega
   · simp [e]
theorem cT_count (g : Int) (l : List Nd) : cT g l = (kfs l).count g := by
 unfold cT kfs
 induction l with
 | nil => rfl
 | cons x t ih =>
   rw [wsm_cons, ih, List.flatMap_cons, List.count_append]
   unfold cN
   rw [cK_count]
end Go.Proofs.YtkokjkaclcjnjaaGreatDoor
