/-
  
-/
import Derived.Test.YtfmghbennahlfaaGreatCnAr
import Derived.Sort.Walk0
import Derived.Test.YtfmghbennahlfaaGreatCnAn
namespace Go.Proofs.YtfmghbennahlfaaGreat
set_option linter.unusedVariables false
set_option linter.unusedSimpArgs false
set_option linter.unusedSectionVars false
section
variable {α κ : Type} [DecidableEq κ] (key : α → κ) (le : κ → κ → Bool)
def insR (n : α) : List α → List α
 | [] => [n]
 | x :: t => if le (key n) (key x) then n :: (x :: t).filter (fun y => decide (key y ≠ key n)) else x :: insR n t
def fnd (l : List α) (k : κ) : Option α := l.find? (fun x => decide (key x = k))
def Ris (l : List α) : Prop := l.Pairwise (fun x y => le (key y) (key x) = false)
theorem fnd_cons (x : α) (t : List α) (k : κ) : fnd key (x :: t) k = if key x = k then some x else fnd key t k := by
 unfold fnd
 rw [List.find?_cons]
 by_cases h : key x = k <;> simp [h]
theorem fnd_mem {l : List α} {k : κ} {x : α} (h : fnd key l k = some x) : x ∈ l ∧ key x = k :=
 ⟨List.mem_of_find?_eq_some h, by simpa using List.find?_some h⟩
theorem fnd_none {l : List α} {k : κ} (h : fnd key l k = none) : ∀ x ∈ l, key x ≠ k := by
 unfold fnd at h
 rw [List.find?_eq_none] at h
 intro x hx
 simpa using h x hx
theorem fnd_filter (l : List α) (f k : κ) : fnd key (l.filter (fun y => decide (key y ≠ f))) k = if k = f then none else fnd key l k := by
 induction l with
 | nil => simp [fnd]
 | cons x t ih =>
   by_cases hx : key x = f
   · rw [List.filter_cons_of_neg (by simp [hx]), ih, fnd_cons]
     by_cases hk : k = f
     · rw [if_pos hk, if_pos hk]
     · rw [if_neg hk, if_neg hk, if_neg (fun e => hk (by rw [← e, hx]))]
   · rw [List.filter_cons_of_pos (by simp [hx]), fnd_cons, fnd_cons, ih]
     by_cases hk : k = f
     · rw [if_pos hk, if_pos hk, if_neg (fun e => hx (by rw [e, hk]))]
     · rw [if_neg hk, if_neg hk]
variable (refl : ∀ a, le a a = true)
include refl in
theorem fnd_insR (n : α) (l : List α) (k : κ) : fnd key (insR key le n l) k = if k = key n then some n else fnd key l k := by
 induction l with
 | nil =>
   simp only [insR]
   rw [fnd_cons]
   by_cases h : key n = k
   · rw [if_pos h, if_pos h.symm]
   · rw [if_neg h, if_neg (fun e => h e.symm)]
 | cons x t ih =>
   simp only [insR]
   split
   · rw [fnd_cons, fnd_filter]
     by_cases h : key n = k
     · rw [if_pos h, if_pos h.symm]
     · rw [if_neg h, if_neg (fun e => h e.symm), if_neg (fun e => h e.symm)]
   · rename_i hle
     have hne : key x ≠ key n := fun e => hle (by rw [e]; exact refl _)
     rw [fnd_cons, fnd_cons, ih]
     by_cases hx : key x = k
     · rw [if_pos hx, if_pos hx, if_neg (fun e => hne (by rw [hx, e]))]
     · rw [if_neg hx, if_neg hx]
theorem insR_mem {n : α} {l : List α} {y : α} (h : y ∈ insR key le n l) : y = n ∨ y ∈ l := by
 induction l with
 | nil => simp only [insR, List.mem_singleton] at h; exact .inl h
 | cons x t ih =>
   simp only [insR] at h
   split at h
   · rcases List.mem_cons.1 h with h | h
     · exact .inl h
     · exact .inr (List.mem_filter.1 h).1
   · rcases List.mem_cons.1 h with h | h
     · exact .inr (by rw [h]; exact List.mem_cons_self)
     · rcases ih h with h | h
       · exact .inl h
       · exact .inr (List.mem_cons_of_mem _ h)
variable (total : ∀ a b, le a b = true ∨ le b a = true) (trans : ∀ a b c, le a b = true → le b c = true → le a c = true) (anti : ∀ a b, le a b = true → le b a = true → a = b)
include total trans anti in
theorem ris_insR (n : α) {l : List α} (h : Ris key le l) : Ris key le (insR key le n l) := by
 induction l with
 | nil => exact List.pairwise_singleton _ _
 | cons x t ih =>
   unfold Ris at h
   rw [List.pairwise_cons] at h
   simp only [insR]
   split
   · rename_i hle
     unfold Ris
     rw [List.pairwise_cons]
     refine ⟨fun y hy => ?_, ?_⟩
     · rw [List.mem_filter] at hy
       have hne : key y ≠ key n := by simpa using hy.2
       cases hq : le (key y) (key n) with
       | false => rfl
       | true =>
         exfalso
         rcases List.mem_cons.1 hy.1 with e | e
         · subst e; exact hne (anti _ _ hq hle)
         · have h1 := h.1 y e
           have h2 := trans _ _ _ hq hle
           rw [h1] at h2; cases h2
     · exact List.Pairwise.sublist List.filter_sublist (List.pairwise_cons.2 h)
   · rename_i hle
     unfold Ris
     rw [List.pairwise_cons]
     refine ⟨fun y hy => ?_, ih h.2⟩
     rcases insR_mem key le hy with e | e
     · subst e; simpa using hle
     · exact h.1 y e
theorem ris_filter {l : List α} (p : α → Bool) (h : Ris key le l) : Ris key le (l.filter p) := List.Pairwise.sublist List.filter_sublist h
include refl in
theorem ris_ne {x : α} {t : List α} (h : Ris key le (x :: t)) : ∀ y ∈ t, key y ≠ key x := fun y hy e => by
 have := (List.pairwise_cons.1 h).1 y hy
 rw [e, refl] at this
 cases this
include refl in
theorem fnd_of {l : List α} (h : Ris key le l) {x : α} (hx : x ∈ l) : fnd key l (key x) = some x := by
 induction l with
 | nil => cases hx
 | cons y t ih =>
   rw [fnd_cons]
   rcases List.mem_cons.1 hx with e | e
   · rw [e, if_pos rfl]
   · rw [if_neg (fun e2 => ris_ne key le refl h x e e2.symm)]
     exact ih (List.pairwise_cons.1 h).2 e
include refl total in
theorem ris_ext : ∀ {l m : List α}, Ris key le l → Ris key le m → (∀ k, fnd key l k = fnd key m k) → l = m
 | [], [], _, _, _ => rfl
 | [], y :: s, _, hm, h => by
   have := h (key y)
   rw [fnd_cons, if_pos rfl] at this
   cases this
 | x :: t, [], hl, _, h => by
   have := h (key x)
   rw [fnd_cons, if_pos rfl] at this
   cases this
 | x :: t, y :: s, hl, hm, h => by
   have hx := h (key x)
   rw [fnd_cons, if_pos rfl] at hx
   have hy := h (key y)
   rw [fnd_cons key y s, if_pos rfl] at hy
   have exy : x = y := by
     rcases List.mem_cons.1 (fnd_mem key hx.symm).1 with e | e
     · exact e
     · rcases List.mem_cons.1 (fnd_mem key hy).1 with e2 | e2
       · exact e2.symm
       · exfalso
         have h1 := (List.pairwise_cons.1 hm).1 x e
         have h2 := (List.pairwise_cons.1 hl).1 y e2
         rcases total (key x) (key y) with q | q
         · rw [q] at h1; cases h1
         · rw [q] at h2; cases h2
   subst exy
   congr 1
   refine ris_ext (List.pairwise_cons.1 hl).2 (List.pairwise_cons.1 hm).2 (fun k => ?_)
   have := h k
   rw [fnd_cons, fnd_cons] at this
   by_cases e : key x = k
   · have n1 : fnd key t k = none := by
       cases hq : fnd key t k with
       | none => rfl
       | some z => exact absurd ((fnd_mem key hq).2.trans e.symm) (ris_ne key le refl hl z (fnd_mem key hq).1)
     have n2 : fnd key s k = none := by
       cases hq : fnd key s k with
       | none => rfl
       | some z => exact absurd ((fnd_mem key hq).2.trans e.symm) (ris_ne key le refl hm z (fnd_mem key hq).1)
     rw [n1, n2]
   · rw [if_neg e, if_neg e] at this
     exact this
def wsm (ω : α → Nat) (l : List α) : Nat := (l.map ω).sum
theorem wsm_cons (ω : α → Nat) (x : α) (t : List α) : wsm ω (x :: t) = ω x + wsm ω t := by simp [wsm]
theorem filter_all {l : List α} {f : κ} (h : ∀ y ∈ l, key y ≠ f) : l.filter (fun y => decide (key y ≠ f)) = l := List.filter_eq_self.2 (fun y hy => by simpa using h y hy)
include refl in
theorem wsm_filter (ω : α → Nat) (f : κ) {l : List α} (h : Ris key le l) : wsm ω (l.filter (fun y => decide (key y ≠ f))) + (fnd key l f).elim 0 ω = wsm ω l := by
 induction l with
 | nil => rfl
 | cons x t ih =>
   rw [fnd_cons, wsm_cons]
   by_cases hx : key x = f
   · rw [if_pos hx, List.filter_cons_of_neg (by simp [hx]), filter_all key (fun y hy => by rw [← hx]; exact ris_ne key le refl h y hy)]
     simp only [Option.elim]
     omega
   · rw [if_neg hx, List.filter_cons_of_pos (by simp [hx]), wsm_cons]
     have := ih (List.pairwise_cons.1 h).2
     omega
include refl in
theorem wsm_insR (ω : α → Nat) (n : α) {l : List α} (h : Ris key le l) : wsm ω (insR key le n l) + (fnd key l (key n)).elim 0 ω = wsm ω l + ω n := by
 induction l with
 | nil => simp [insR, wsm, fnd]
 | cons x t ih =>
   simp only [insR]
   split
   · rw [wsm_cons]
     have := wsm_filter key le refl ω (key n) h
     omega
   · rename_i hle
     have hne : key x ≠ key n := fun e => hle (by rw [e]; exact refl _)
     rw [wsm_cons, wsm_cons, fnd_cons, if_neg hne]
     have := ih (List.pairwise_cons.1 h).2
     omega
theorem wsm_len (l : List α) : wsm (fun _ => 1) l = l.length := by
 induction l with
 | nil => rfl
 | cons x t ih => rw [wsm_cons, ih, List.length_cons]; omega
theorem wsm_pos {ω : α → Nat} {l : List α} {x : α} (hx : x ∈ l) (h : 0 < ω x) : 0 < wsm ω l := by
 induction l with
 | nil => cases hx
 | cons y t ih =>
   rw [wsm_cons]
   rcases List.mem_cons.1 hx with e | e
   · rw [← e]; omega
   · have := ih e; omega
theorem wsm_ex {ω : α → Nat} {l : List α} (h : 0 < wsm ω l) : ∃ x ∈ l, 0 < ω x := by
 induction l with
 | nil => cases h
 | cons y t ih =>
   rw [wsm_cons] at h
   rcases Nat.eq_zero_or_pos (ω y) with q | q
   · obtain ⟨x, hx, hp⟩ := ih (by omega)
     exact ⟨x, List.mem_cons_of_mem _ hx, hp⟩
   · exact ⟨y, List.mem_cons_self, q⟩
end
/-! ### Nodes by their fids -/
def leI (a b : Int) : Bool := decide (a ≤ b)
theorem leI_refl (a : Int) : leI a a = true := by simp [leI]
theorem leI_total (a b : Int) : leI a b = true ∨ leI b a = true := by simp only [leI, decide_eq_true_eq]; omega
theorem leI_trans (a b c : Int) : leI a b = true → leI b c = true → leI a c = true := by simp only [leI, decide_eq_true_eq]; omega
theorem leI_anti (a b : Int) : leI a b = true → leI b a = true → a = b := by simp only [leI, decide_eq_true_eq]; omega
theorem getF_fnd (l : List Nd) (f : Int) : getF l f = fnd Nd.fid l f := by
 rfl
theorem outL_filter (l : List Nd) (f : Int) : outL l f = l.filter (fun y => decide (y.fid ≠ f)) := by
 unfold outL
 congr 1
 funext x
 rw [Bool.eq_iff_iff]; simp
theorem setFold_true (n : Nd) : ∀ (l : List Nd) (out : List Nd), l.foldl (setS n) (out, true) = (out ++ outL l n.fid, true)
 | [], out => by simp [outL]
 | x :: t, out => by
   rw [List.foldl_cons]
   have e : setS n (out, true) x = (out ++ (if x.fid != n.fid then [x] else []), true) := by simp [setS]
   rw [e, setFold_true n t]
   unfold outL
   rw [List.filter_cons]
   split <;> simp
theorem setFold_false (n : Nd) : ∀ (l : List Nd) (out : List Nd), (if (l.foldl (setS n) (out, false)).2 then (l.foldl (setS n) (out, false)).1 else (l.foldl (setS n) (out, false)).1 ++ [n]) = out ++ insR Nd.fid leI n l
 | [], out => by simp [insR]
 | x :: t, out => by
   rw [List.foldl_cons]
   by_cases h : n.fid ≤ x.fid
   · have e : setS n (out, false) x = ((out ++ [n]) ++ (if x.fid != n.fid then [x] else []), true) := by simp [setS, h]
     rw [e, setFold_true]
     have h2 : leI n.fid x.fid = true := by simpa [leI] using h
     simp only [if_true, insR, h2]
     rw [← outL_filter]
     unfold outL
     rw [List.filter_cons]
     split <;> simp
   · have hne : (x.fid != n.fid) = true := by simp; omega
     have e : setS n (out, false) x = (out ++ [x], false) := by simp [setS, h, hne]
     rw [e, setFold_false n t]
     have h2 : leI n.fid x.fid = false := by simpa [leI] using h
     simp only [insR, h2]
     simp
theorem setL_insR (l : List Nd) (n : Nd) : setL l n = insR Nd.fid leI n l := by
 have := setFold_false n l []
 simpa [setL] using this
/-! ### Entries by their names -/
theorem lessB (x y : ByteArray) : Op.bytesLess x.toList y.toList = decide (x.toList < y.toList) := bytesLess_eq _ _
theorem leS_iff (x y : ByteArray) : leS x y = true ↔ x.toList ≤ y.toList := by
 unfold leS
 rw [Bool.or_eq_true, lessB, decide_eq_true_eq, beq_iff_eq]
 exact List.le_iff_lt_or_eq.symm
theorem ba_inj {x y : ByteArray} (h : x.toList = y.toList) : x = y := by
 have := ba_eq (s := x) (t := y)
 rw [h] at this
 simpa using this.symm
theorem leS_refl (a : ByteArray) : leS a a = true := (leS_iff a a).2 (List.le_refl _)
theorem leS_total (a b : ByteArray) : leS a b = true ∨ leS b a = true := by
 rw [leS_iff, leS_iff]; exact List.le_total _ _
theorem leS_trans (a b c : ByteArray) : leS a b = true → leS b c = true → leS a c = true := by
 rw [leS_iff, leS_iff, leS_iff]; exact List.le_trans
theorem leS_anti (a b : ByteArray) : leS a b = true → leS b a = true → a = b := by
 rw [leS_iff, leS_iff]; exact fun h k => ba_inj (List.le_antisymm h k)
theorem entFold_true (s : ByteArray) (f : Int) : ∀ (l : List Kd) (out : List Kd), l.foldl (entS s f) (out, true) = (out ++ l.filter (fun y => decide (y.nm ≠ s)), true)
 | [], out => by simp
 | x :: t, out => by
   rw [List.foldl_cons]
   have e : entS s f (out, true) x = (out ++ (if decide (x.nm ≠ s) then [x] else []), true) := by simp [entS]
   rw [e, entFold_true s f t, List.filter_cons]
   split <;> simp
theorem entFold_false (s : ByteArray) (f : Int) : ∀ (l : List Kd) (out : List Kd), (if (l.foldl (entS s f) (out, false)).2 then (l.foldl (entS s f) (out, false)).1 else (l.foldl (entS s f) (out, false)).1 ++ [⟨s, f⟩]) = out ++ insR Kd.nm leS ⟨s, f⟩ l
 | [], out => by simp [insR]
 | x :: t, out => by
   rw [List.foldl_cons]
   cases h : leS s x.nm with
   | true =>
     have e : entS s f (out, false) x = ((out ++ [⟨s, f⟩]) ++ (if decide (x.nm ≠ s) then [x] else []), true) := by simp [entS, h]
     rw [e, entFold_true]
     simp only [if_true, insR, h]
     rw [List.filter_cons]
     split <;> simp
   | false =>
     have hne : x.nm ≠ s := fun e => by rw [e, leS_refl] at h; cases h
     have e : entS s f (out, false) x = (out ++ [x], false) := by simp [entS, h, hne]
     rw [e, entFold_false s f t]
     simp only [insR, h]
     simp
theorem entL_insR (l : List Kd) (s : ByteArray) {f : Int} (hf : f ≠ 0) : entL l s f = insR Kd.nm leS ⟨s, f⟩ l := by
 have e : (f == 0) = false := beq_eq_false_iff_ne.2 hf
 have := entFold_false s f l []
 unfold entL
 rw [e]
 simpa using this
theorem entL_zero (l : List Kd) (s : ByteArray) : entL l s 0 = l.filter (fun y => decide (y.nm ≠ s)) := by
 have e : ((0 : Int) == 0) = true := rfl
 unfold entL
 rw [e, entFold_true]
 simp
/-! ### What is found, how much there is -/
def kq (l : List Kd) (s : ByteArray) : Option Kd := fnd Kd.nm l s
theorem kidI_kq (l : List Kd) (s : ByteArray) : kidI l s = (kq l s).elim 0 (·.fid) := by
 unfold kidI kq fnd
 cases l.find? (fun k => decide (k.nm = s)) <;> rfl
abbrev Srt (l : List Nd) : Prop := Ris Nd.fid leI l
abbrev KSrt (l : List Kd) : Prop := Ris Kd.nm leS l
theorem getF_set (l : List Nd) (n : Nd) (g : Int) : getF (setL l n) g = if g = n.fid then some n else getF l g := by
 rw [getF_fnd, getF_fnd, setL_insR]; exact fnd_insR Nd.fid leI leI_refl n l g
theorem getF_out (l : List Nd) (f g : Int) : getF (outL l f) g = if g = f then none else getF l g := by
 rw [getF_fnd, getF_fnd, outL_filter]; exact fnd_filter Nd.fid l f g
theorem srt_set {l : List Nd} (n : Nd) (h : Srt l) : Srt (setL l n) := by
 rw [setL_insR]; exact ris_insR Nd.fid leI leI_total leI_trans leI_anti n h
theorem srt_out {l : List Nd} (f : Int) (h : Srt l) : Srt (outL l f) := by
 rw [outL_filter]; exact ris_filter Nd.fid leI _ h
theorem srt_ext {l m : List Nd} (hl : Srt l) (hm : Srt m) (h : ∀ g, getF l g = getF m g) : l = m := ris_ext Nd.fid leI leI_refl leI_total hl hm h
theorem srt_get {l : List Nd} (h : Srt l) {x : Nd} (hx : x ∈ l) : getF l x.fid = some x := fnd_of Nd.fid leI leI_refl h hx
theorem kq_ent (l : List Kd) (s : ByteArray) (f : Int) (t : ByteArray) : kq (entL l s f) t = if t = s then (if f = 0 then none else some ⟨s, f⟩) else kq l t := by
 by_cases hf : f = 0
 · subst hf
   rw [entL_zero, if_pos rfl]
   exact fnd_filter Kd.nm l s t
 · rw [entL_insR l s hf, if_neg hf]
   exact fnd_insR Kd.nm leS leS_refl ⟨s, f⟩ l t
theorem ksrt_ent {l : List Kd} (s : ByteArray) (f : Int) (h : KSrt l) : KSrt (entL l s f) := by
 by_cases hf : f = 0
 · subst hf; rw [entL_zero]; exact ris_filter Kd.nm leS _ h
 · rw [entL_insR l s hf]; exact ris_insR Kd.nm leS leS_total leS_trans leS_anti ⟨s, f⟩ h
theorem ksrt_ext {l m : List Kd} (hl : KSrt l) (hm : KSrt m) (h : ∀ s, kq l s = kq m s) : l = m := ris_ext Kd.nm leS leS_refl leS_total hl hm h
theorem ksrt_get {l : List Kd} (h : KSrt l) {x : Kd} (hx : x ∈ l) : kq l x.nm = some x := fnd_of Kd.nm leS leS_refl h hx
theorem wsm_set (ω : Nd → Nat) (n : Nd) {l : List Nd} (h : Srt l) : wsm ω (setL l n) + (getF l n.fid).elim 0 ω = wsm ω l + ω n := by
 rw [setL_insR]; exact wsm_insR Nd.fid leI leI_refl ω n h
theorem wsm_out (ω : Nd → Nat) (f : Int) {l : List Nd} (h : Srt l) : wsm ω (outL l f) + (getF l f).elim 0 ω = wsm ω l := by
 rw [outL_filter]; exact wsm_filter Nd.fid leI leI_refl ω f h
theorem wsm_ent (ω : Kd → Nat) (s : ByteArray) (f : Int) {l : List Kd} (h : KSrt l) : wsm ω (entL l s f) + (kq l s).elim 0 ω = wsm ω l + (if f = 0 then 0 else ω ⟨s, f⟩) := by
 by_cases hf : f = 0
 · subst hf
   rw [entL_zero, if_pos rfl]
   exact wsm_filter Kd.nm leS leS_refl ω s h
 · rw [entL_insR l s hf, if_neg hf]
   exact wsm_insR Kd.nm leS leS_refl ω ⟨s, f⟩ h
def cK (g : Int) (l : List Kd) : Nat := wsm (fun q => if q.fid = g then 1 else 0) l
def cN (g : Int) (x : Nd) : Nat := cK g x.ks
def cT (g : Int) (l : List Nd) : Nat := wsm (cN g) l
theorem cK_count (g : Int) (l : List Kd) : cK g l = (l.map (·.fid)).count g := by
 unfold cK
 induction l with
 | nil => rfl
 | cons x t ih =>
   rw [wsm_cons, ih, List.map_cons, List.count_cons]
   by_cases e : x.fid = g
   · simp [e]; omega
   · simp [e]
theorem cT_count (g : Int) (l : List Nd) : cT g l = (kfs l).count g := by
 unfold cT kfs
 induction l with
 | nil => rfl
 | cons x t ih =>
   rw [wsm_cons, ih, List.flatMap_cons, List.count_append]
   unfold cN
   rw [cK_count]
end Go.Proofs.YtfmghbennahlfaaGreat
namespace Go.Proofs.YtfmghbennahlfaaGreat
set_option linter.unusedVariables false
set_option linter.unusedSimpArgs false
def Ed (l : List Nd) (f g : Int) : Prop := ∃ x d, getF l f = some x ∧ (∃ q ∈ x.ks, q.fid = g) ∧ getF l g = some d ∧ d.k = 2
structure Rt (l : List Nd) : Prop where
 few : l.length ≤ 40
 srt : Srt l
 ok : ∀ x ∈ l, nodeOk x = true ∧ 0 < x.fid
 kid : ∀ x ∈ l, ∀ q ∈ x.ks, q.fid ≠ 1 ∧ (getF l q.fid).isSome = true
 root : ∃ r, getF l 1 = some r ∧ r.k = 2 ∧ r.ln = 0
 lnk : ∀ x ∈ l, x.fid ≠ 1 → 1 ≤ cT x.fid l ∧ x.ln = cT x.fid l ∧ (x.k = 2 → cT x.fid l = 1)
 rank : ∃ r : Int → Nat, ∀ f g, Ed l f g → r f < r g
theorem getD_at {l : List Nd} {i : Nat} (hi : i < l.length) : l.getD i Nd.no = l[i] := by simp [List.getD, hi]
theorem srt_up {l : List Nd} (h : upTo l l.length = true) : Srt l := by
 unfold Srt Ris
 rw [List.pairwise_iff_getElem]
 intro i j hi hj hij
 have := up_mono h j i hij hj
 rw [getD_at hi, getD_at hj] at this
 unfold leI
 simpa using this
theorem up_srt {l : List Nd} (h : Srt l) (hp : ∀ x ∈ l, 0 < x.fid) : upTo l l.length = true := upTo_mk (fun i hi => by
 unfold lastFd
 split
 · rw [getD_at hi]; exact hp _ (List.getElem_mem hi)
 · rename_i h0
   rw [getD_at hi, getD_at (show i - 1 < l.length by omega)]
   have := List.pairwise_iff_getElem.1 h (i - 1) i (by omega) hi (by omega)
   unfold leI at this
   simpa using this)
theorem N0_get {l : List Nd} (hu : upTo l l.length = true) (f : Int) : (N0 l f).map (·.2) = getF l f := by
 cases hq : N0 l f with
 | none =>
   simp only [Option.map_none]
   cases hg : getF l f with
   | none => rfl
   | some x =>
     exfalso
     obtain ⟨hx, rfl⟩ := getF_mem hg
     obtain ⟨i, hi, rfl⟩ := List.getElem_of_mem hx
     obtain ⟨p, hp⟩ := N0_at hu hi
     rw [getD_at hi, hq] at hp
     cases hp
 | some z =>
   obtain ⟨p, x⟩ := z
   obtain ⟨i, hi, e, hf⟩ := N0_of hq
   simp only [Option.map_some]
   rw [getD_at hi] at e
   subst e
   rw [← hf, srt_get (srt_up hu) (List.getElem_mem hi)]
theorem dir_get {l : List Nd} (hu : upTo l l.length = true) (g : Int) : isDirT (N0 l) g = true ↔ ∃ d, getF l g = some d ∧ d.k = 2 := by
 unfold isDirT
 have := N0_get hu g
 cases hq : N0 l g with
 | none =>
   rw [hq] at this
   simp only [Option.map_none] at this
   constructor
   · intro h; cases h
   · rintro ⟨d, hd, _⟩; rw [← this] at hd; cases hd
 | some z =>
   rw [hq] at this
   simp only [Option.map_some] at this
   simp only
   constructor
   · intro h; exact ⟨z.2, this.symm, by simpa using h⟩
   · rintro ⟨d, hd, hk⟩
     rw [← this] at hd
     cases hd
     simpa using hk
theorem edge_ed {l : List Nd} (hu : upTo l l.length = true) (f g : Int) : Edge (N0 l) f g ↔ Ed l f g := by
 constructor
 · rintro ⟨p, x, i, h1, h2, h3, h4⟩
   obtain ⟨d, hd, hk⟩ := (dir_get hu g).1 h4
   have := N0_get hu f
   rw [h1] at this
   simp only [Option.map_some] at this
   exact ⟨x, d, this.symm, ⟨_, getD_mem x.ks Kd.no h2, h3⟩, hd, hk⟩
 · rintro ⟨x, d, h1, ⟨q, hq, e⟩, hd, hk⟩
   have := N0_get hu f
   rw [h1] at this
   cases hn : N0 l f with
   | none => rw [hn] at this; cases this
   | some z =>
     rw [hn] at this
     simp only [Option.map_some, Option.some.injEq] at this
     obtain ⟨i, hi, rfl⟩ := List.getElem_of_mem hq
     obtain ⟨p, y⟩ := z
     simp only at this
     subst this
     exact ⟨p, y, i, hn, hi, by simpa [List.getD, hi] using e, (dir_get hu g).2 ⟨d, hd, hk⟩⟩
def stp (l : List Nd) : Nat → Int → Nat
 | 0, _ => 0
 | n + 1, f => bif f == 1 then 0 else 1 + stp l n (upD l f)
theorem stp_more (l : List Nd) : ∀ (n : Nat) (f : Int), abN l 1 n f = true → stp l (n + 1) f = stp l n f
 | 0, f, h => by cases h
 | n + 1, f, h => by
   unfold abN at h
   unfold stp
   cases q : (f == 1) with
   | true => rfl
   | false =>
     rw [q] at h
     cases q2 : (upD l f == 0) with
     | true => rw [q2] at h; cases h
     | false =>
       rw [q2] at h
       simp only [cond_false] at h ⊢
       rw [stp_more l n _ h]
theorem rightD_rt {l : List Nd} : rightD l = true ↔ Rt l := by
 constructor
 · intro h
   have hR := (rightD_iff l).2 h
   obtain ⟨htok, hz⟩ := rightD_tok h
   have hR' := hR
   obtain ⟨h1, h2, h3, h4, h5, h6⟩ := hR
   have hu : upTo l l.length = true := h2
   have B : Base l := ⟨h1, h2, h3, h4, h5⟩
   have hok := right_ok hR'
   have hs := srt_up hu
   have hpos : ∀ x ∈ l, 0 < x.fid := fun x hx => by
     obtain ⟨i, hi, rfl⟩ := List.getElem_of_mem hx
     have := B.pos i hi
     rwa [getD_at hi] at this
   have hlk : ∀ x ∈ l, linkB (kfs l) x = true := fun x hx => by
     obtain ⟨i, hi, rfl⟩ := List.getElem_of_mem hx
     have := linksTo_all h5 i hi
     rwa [getD_at hi] at this
   have hc1 : (kfs l).count 1 = 0 := no_root (fun x hx => (h4 x hx).2)
   refine ⟨h1, hs, fun x hx => ⟨hok x hx, hpos x hx⟩, fun x hx q hq => ?_, ?_, fun x hx hne => ?_, ?_⟩
   · obtain ⟨j, hj, rfl⟩ := List.getElem_of_mem hq
     have h7 := haveTo_all (h4 x hx).2 j hj
     rw [show x.ks.getD j Kd.no = x.ks[j] by simp [List.getD, hj]] at h7
     refine ⟨h7.1, ?_⟩
     have := N0_get hu (x.ks[j]).fid
     rw [← this, Option.isSome_map]
     exact h7.2
   · obtain ⟨r, hr, hk⟩ := (dir_get hu 1).1 h3
     have hm := getF_mem hr
     have := hlk r hm.1
     unfold linkB at this
     rw [Bool.and_eq_true, beq_iff_eq, hm.2, hc1] at this
     exact ⟨r, hr, hk, this.1⟩
   · have := hlk x hx
     unfold linkB at this
     have e : (x.fid == 1) = false := beq_eq_false_iff_ne.2 hne
     rw [e] at this
     simp only [Bool.and_eq_true, beq_iff_eq, Bool.false_or, Bool.not_eq_true', Bool.or_eq_false_iff, decide_eq_false_iff_not, Bool.and_eq_false_iff] at this
     rw [cT_count]
     refine ⟨by omega, this.1, fun hk => ?_⟩
     rcases this.2.2 with q | q
     · rw [hk] at q; cases q
     · omega
   · have hab := (ring_ab B).1 h6
     refine ⟨fun f => stp l (l.length + 1) f, fun f g hE => ?_⟩
     have hE2 := (edge_ed hu f g).2 hE
     have hup := B.upOf hE2
     have hne := B.ne1 hE2
     obtain ⟨x, d, hf, _, hd, hk⟩ := hE
     obtain ⟨i, hi, e⟩ := List.getElem_of_mem (getF_mem hd).1
     have h7 := hab i hi
     rw [getD_at hi, e] at h7
     unfold lkU at h7
     have e2 : (d.k == 2) = true := by rw [hk]; rfl
     rw [e2, (getF_mem hd).2] at h7
     simp only [Bool.not_true, Bool.false_or] at h7
     have e3 : (g == 1) = false := beq_eq_false_iff_ne.2 hne
     have h8 : abN l 1 l.length f = true := by
       unfold abN at h7
       rw [e3, hup] at h7
       simp only [cond_false] at h7
       cases q : (f == 0) with
       | true => rw [q] at h7; cases h7
       | false => rw [q] at h7; exact h7
     show stp l (l.length + 1) f < stp l (l.length + 1) g
     rw [stp_more l _ f h8]
     show _ < (bif g == 1 then 0 else 1 + stp l l.length (upD l g))
     rw [e3, hup]
     simp only [cond_false]
     omega
 · intro h
   obtain ⟨h1, hs, hok, hkid, ⟨r, hr, hrk, hrl⟩, hlnk, ⟨rk, hrank⟩⟩ := h
   rw [← rightD_iff]
   have hu : upTo l l.length = true := up_srt hs (fun x hx => (hok x hx).2)
   have h3 : isDirT (N0 l) 1 = true := (dir_get hu 1).2 ⟨r, hr, hrk⟩
   have h4 : ∀ x ∈ l, aloneB x = true ∧ haveB (N0 l) x.ks = true := fun x hx => by
     refine ⟨alone_of (hok x hx).1, ?_⟩
     unfold haveB
     have : ∀ m, m ≤ x.ks.length → haveTo (N0 l) x.ks m = true := fun m => by
       induction m with
       | zero => intro _; rfl
       | succ m ih =>
         intro hm
         simp only [haveTo, ih (by omega), Bool.true_and]
         rw [show x.ks.getD m Kd.no = x.ks[m] by simp [List.getD, show m < x.ks.length by omega]]
         obtain ⟨a1, a2⟩ := hkid x hx _ (List.getElem_mem (show m < x.ks.length by omega))
         rw [Bool.and_eq_true]
         refine ⟨by simpa using a1, ?_⟩
         have := N0_get hu (x.ks[m]).fid
         rw [← this, Option.isSome_map] at a2
         exact a2
     exact this _ (Nat.le_refl _)
   have hc1 : (kfs l).count 1 = 0 := no_root (fun x hx => (h4 x hx).2)
   have h5 : linksB l = true := by
     refine linksTo_mk (fun i hi => ?_)
     rw [getD_at hi]
     have hx := List.getElem_mem hi
     unfold linkB
     by_cases e : (l[i]).fid = 1
     · have : l[i] = r := by
         have := srt_get hs hx
         rw [e, hr] at this
         exact (Option.some.inj this).symm
       rw [this, (getF_mem hr).2, hc1, hrl]
       rfl
     · obtain ⟨b1, b2, b3⟩ := hlnk _ hx e
       rw [cT_count] at b1 b2 b3
       have e1 : ((l[i]).fid == 1) = false := beq_eq_false_iff_ne.2 e
       have e2 : decide (((kfs l).count (l[i]).fid : Int) < 1) = false := decide_eq_false (by omega)
       rw [e1, e2]
       simp only [Bool.and_eq_true, beq_iff_eq, Bool.false_or, Bool.not_eq_true', Bool.and_eq_false_iff, decide_eq_false_iff_not]
       refine ⟨b2, ?_⟩
       by_cases hk : (l[i]).k = 2
       · right; have := b3 hk; omega
       · left; simpa using hk
   refine ⟨h1, hu, h3, h4, h5, fun hring => ?_⟩
   obtain ⟨G, ks, f, p, _, _, hpar, hG, hlead⟩ := hring
   have hlt : ∀ f g, G g = some f → rk f < rk g := fun f g e => hrank f g ((edge_ed hu f g).1 ((hpar f g).1 e))
   have hup : ∀ (n : Nat) (top q : Int), upB G top n q = true → rk top < rk q := fun n => by
     induction n with
     | zero => intro top q e; cases e
     | succ n ih =>
       intro top q e
       unfold upB at e
       cases hq : G q with
       | none => rw [hq] at e; cases e
       | some a =>
         rw [hq] at e
         simp only [Bool.or_eq_true, beq_iff_eq] at e
         have h9 := hlt a q hq
         rcases e with e | e
         · rw [← e]; exact h9
         · have := ih top a e; omega
   have h9 := hlt p f hG
   unfold leadB at hlead
   simp only [Bool.or_eq_true, beq_iff_eq] at hlead
   rcases hlead with e | e
   · rw [e] at h9; omega
   · have := hup _ _ _ e; omega
end Go.Proofs.YtfmghbennahlfaaGreat
namespace Go.Proofs.YtfmghbennahlfaaGreat
set_option linter.unusedVariables false
set_option linter.unusedSimpArgs false
def KOk (l : List Kd) : Prop := KSrt l ∧ ∀ q ∈ l, Pa.nameB q.nm.data.toList = true ∧ q.fid ≠ 0
theorem kidsTo_mk {l : List Kd} : ∀ {m : Nat}, (∀ i, i < m → kOk l i = true) → kidsTo l m = true
 | 0, _ => rfl
 | m + 1, h => by
   unfold kidsTo
   rw [Bool.and_eq_true]
   exact ⟨kidsTo_mk (fun i hi => h i (by omega)), h m (by omega)⟩
theorem kgetD {l : List Kd} {i : Nat} (hi : i < l.length) : l.getD i Kd.no = l[i] := by simp [List.getD, hi]
theorem kidsOk_iff (l : List Kd) : kidsOk l = true ↔ KOk l := by
 unfold kidsOk
 constructor
 · intro h
   have hk := fun i hi => kidsTo_all h i hi
   have hstep : ∀ i, (hi : i + 1 < l.length) → leS (l[i + 1]).nm (l[i]).nm = false := fun i hi => by
     have := hk (i + 1) hi
     unfold kOk at this
     rw [lastK_next, kgetD hi, kgetD (show i < l.length by omega)] at this
     simp only [Bool.and_eq_true, Bool.not_eq_true'] at this
     exact this.1.2
   have hlt : ∀ j i, (hij : i < j) → (hj : j < l.length) → leS (l[j]).nm (l[i]'(by omega)).nm = false := fun j => by
     induction j with
     | zero => intro i hij; omega
     | succ j ih =>
       intro i hij hj
       have h1 := hstep j hj
       by_cases e : i = j
       · subst e; exact h1
       · have h2 := ih i (by omega) (by omega)
         cases q : leS (l[j + 1]).nm (l[i]'(by omega)).nm with
         | false => rfl
         | true =>
           exfalso
           rcases leS_total (l[j]).nm (l[j + 1]).nm with t | t
           · have := leS_trans _ _ _ t q
             rw [h2] at this; cases this
           · rw [h1] at t; cases t
   refine ⟨?_, fun q hq => ?_⟩
   · unfold KSrt Ris
     rw [List.pairwise_iff_getElem]
     exact fun i j hi hj hij => hlt j i hij hj
   · obtain ⟨i, hi, rfl⟩ := List.getElem_of_mem hq
     have := hk i hi
     unfold kOk at this
     rw [kgetD hi] at this
     simp only [Bool.and_eq_true, bne_iff_ne] at this
     exact ⟨this.1.1, this.2⟩
 · rintro ⟨hs, hq⟩
   refine kidsTo_mk (fun i hi => ?_)
   unfold kOk
   rw [kgetD hi]
   obtain ⟨h1, h2⟩ := hq _ (List.getElem_mem hi)
   simp only [Bool.and_eq_true, Bool.not_eq_true', bne_iff_ne]
   refine ⟨⟨h1, ?_⟩, h2⟩
   unfold lastK
   split
   · exact le_nil h1
   · rw [kgetD (show i - 1 < l.length by omega)]
     exact List.pairwise_iff_getElem.1 hs (i - 1) i (by omega) hi (by omega)
def NOk (x : Nd) : Prop := x.fid ≠ 0 ∧ x.zs.length ≤ 64 ∧ x.ks.length ≤ 12 ∧ (((x.k = 1 ∨ x.k = 3) ∧ x.ks = []) ∨ (x.k = 2 ∧ x.zs = [] ∧ KOk x.ks))
theorem nodeOk_iff (x : Nd) : nodeOk x = true ↔ NOk x := by
 unfold nodeOk NOk
 rw [Bool.and_eq_true]
 have e1 : ((!(x.fid == 0 || decide (64 < x.zs.length) || decide (12 < x.ks.length))) = true) ↔ (x.fid ≠ 0 ∧ x.zs.length ≤ 64 ∧ x.ks.length ≤ 12) := by
   simp only [Bool.not_eq_true', Bool.or_eq_false_iff, beq_eq_false_iff_ne, decide_eq_false_iff_not, Nat.not_lt]
   constructor
   · rintro ⟨⟨a, b⟩, c⟩; exact ⟨a, b, c⟩
   · rintro ⟨a, b, c⟩; exact ⟨⟨a, b⟩, c⟩
 rw [e1]
 have e2 : ((bif x.k == 1 || x.k == 3 then decide (x.ks.length = 0) else bif x.k == 2 then decide (x.zs.length = 0) && kidsOk x.ks else false) = true) ↔ (((x.k = 1 ∨ x.k = 3) ∧ x.ks = []) ∨ (x.k = 2 ∧ x.zs = [] ∧ KOk x.ks)) := by
   by_cases h13 : x.k = 1 ∨ x.k = 3
   · have : (x.k == 1 || x.k == 3) = true := by simpa using h13
     rw [this]
     simp only [cond_true, decide_eq_true_eq, List.length_eq_zero_iff]
     constructor
     · intro h; exact .inl ⟨h13, h⟩
     · rintro (h | h)
       · exact h.2
       · omega
   · have : (x.k == 1 || x.k == 3) = false := by
       cases q : (x.k == 1 || x.k == 3) with
       | false => rfl
       | true => exact absurd (by simpa using q) h13
     rw [this]
     simp only [cond_false]
     by_cases h2 : x.k = 2
     · have : (x.k == 2) = true := by rw [h2]; rfl
       rw [this]
       simp only [cond_true, Bool.and_eq_true, decide_eq_true_eq, List.length_eq_zero_iff, kidsOk_iff]
       constructor
       · intro h; exact .inr ⟨h2, h⟩
       · rintro (h | h)
         · exact absurd h.1 h13
         · exact h.2
     · have : (x.k == 2) = false := beq_eq_false_iff_ne.2 h2
       rw [this]
       simp only [cond_false]
       constructor
       · intro h; cases h
       · rintro (h | h)
         · exact absurd h.1 h13
         · exact absurd h.1 h2
 rw [e2]
 constructor
 · rintro ⟨⟨a, b, c⟩, d⟩; exact ⟨a, b, c, d⟩
 · rintro ⟨a, b, c, d⟩; exact ⟨⟨a, b, c⟩, d⟩
section
variable {l : List Nd} (R : Rt l)
include R
theorem Rt.at {f : Int} {x : Nd} (h : getF l f = some x) : NOk x ∧ 0 < f ∧ x.fid = f := by
 obtain ⟨hm, e⟩ := getF_mem h
 obtain ⟨h1, h2⟩ := R.ok x hm
 exact ⟨(nodeOk_iff x).1 h1, by omega, e⟩
theorem Rt.kids {f : Int} {x : Nd} (h : getF l f = some x) {q : Kd} (hq : q ∈ x.ks) : q.fid ≠ 1 ∧ ∃ y, getF l q.fid = some y := by
 obtain ⟨h1, h2⟩ := R.kid x (getF_mem h).1 q hq
 exact ⟨h1, Option.isSome_iff_exists.1 h2⟩
theorem Rt.links {f : Int} {x : Nd} (h : getF l f = some x) (hne : f ≠ 1) : 1 ≤ cT f l ∧ x.ln = cT f l ∧ (x.k = 2 → cT f l = 1) := by
 obtain ⟨hm, e⟩ := getF_mem h
 have := R.lnk x hm (by rw [e]; exact hne)
 rw [e] at this
 exact this
theorem Rt.isdir {f : Int} {x : Nd} (h : getF l f = some x) {q : Kd} (hq : q ∈ x.ks) : x.k = 2 := by
 obtain ⟨⟨_, _, _, h1⟩, _⟩ := R.at h
 rcases h1 with h1 | h1
 · rw [h1.2] at hq; cases hq
 · exact h1.1
theorem Rt.kok {f : Int} {x : Nd} (h : getF l f = some x) (hk : x.k = 2) : KOk x.ks := by
 obtain ⟨⟨_, _, _, h1⟩, _⟩ := R.at h
 rcases h1 with h1 | h1
 · omega
 · exact h1.2.2
theorem Rt.noent {g : Int} (h : getF l g = none) : cT g l = 0 := by
 rcases Nat.eq_zero_or_pos (cT g l) with q | q
 · exact q
 · exfalso
   obtain ⟨x, hx, hp⟩ := wsm_ex q
   obtain ⟨k, hk, hp2⟩ := wsm_ex hp
   have e : k.fid = g := by
     by_cases e : k.fid = g
     · exact e
     · simp [e] at hp2
   have := (R.kid x hx k hk).2
   rw [e, h] at this
   cases this
end
theorem Rt.of {l : List Nd} (few : l.length ≤ 40) (srt : Srt l) (ok : ∀ f x, getF l f = some x → NOk x ∧ 0 < f)
   (kid : ∀ f x, getF l f = some x → ∀ q ∈ x.ks, q.fid ≠ 1 ∧ (getF l q.fid).isSome = true) (root : ∃ r, getF l 1 = some r ∧ r.k = 2 ∧ r.ln = 0)
   (lnk : ∀ f x, getF l f = some x → f ≠ 1 → 1 ≤ cT f l ∧ x.ln = cT f l ∧ (x.k = 2 → cT f l = 1)) (rank : ∃ r : Int → Nat, ∀ f g, Ed l f g → r f < r g) : Rt l :=
 ⟨few, srt, fun x hx => by have := ok _ _ (srt_get srt hx); exact ⟨(nodeOk_iff x).2 this.1, this.2⟩, fun x hx => kid _ _ (srt_get srt hx), root, fun x hx => lnk _ _ (srt_get srt hx), rank⟩
theorem cT_set (g : Int) (n : Nd) {l : List Nd} (h : Srt l) : cT g (setL l n) + (getF l n.fid).elim 0 (cN g) = cT g l + cN g n := wsm_set (cN g) n h
theorem cT_out (g f : Int) {l : List Nd} (h : Srt l) : cT g (outL l f) + (getF l f).elim 0 (cN g) = cT g l := wsm_out (cN g) f h
theorem len_set (n : Nd) {l : List Nd} (h : Srt l) : (setL l n).length + (getF l n.fid).elim 0 (fun _ => 1) = l.length + 1 := by
 have := wsm_set (fun _ => 1) n h
 rw [wsm_len, wsm_len] at this
 exact this
theorem cK_ent (g : Int) (s : ByteArray) (f : Int) {l : List Kd} (h : KSrt l) : cK g (entL l s f) + (kq l s).elim 0 (fun q => if q.fid = g then 1 else 0) = cK g l + (if f = 0 then 0 else if f = g then 1 else 0) := wsm_ent (fun q => if q.fid = g then 1 else 0) s f h
theorem klen_ent (s : ByteArray) (f : Int) {l : List Kd} (h : KSrt l) : (entL l s f).length + (kq l s).elim 0 (fun _ => 1) = l.length + (if f = 0 then 0 else 1) := by
 have := wsm_ent (fun _ => 1) s f h
 rw [wsm_len, wsm_len] at this
 exact this
theorem kok_ent {l : List Kd} (h : KOk l) (s : ByteArray) (f : Int) (hs : f ≠ 0 → Pa.nameB s.data.toList = true) : KOk (entL l s f) := by
 refine ⟨ksrt_ent s f h.1, fun q hq => ?_⟩
 by_cases hf : f = 0
 · subst hf
   rw [entL_zero] at hq
   exact h.2 q (List.mem_filter.1 hq).1
 · rcases entL_mem hq with e | e
   · rw [e]; exact ⟨hs hf, hf⟩
   · exact h.2 q e
theorem kq_none_iff {l : List Kd} (h : ∀ q ∈ l, q.fid ≠ 0) (s : ByteArray) : kidI l s = 0 ↔ kq l s = none := by
 rw [kidI_kq]
 cases hq : kq l s with
 | none => simp
 | some q =>
   have hm := fnd_mem Kd.nm hq
   constructor
   · intro e; exact absurd e (h q hm.1)
   · intro e; cases e
theorem kq_some {l : List Kd} {s : ByteArray} {q : Kd} (h : kq l s = some q) : q ∈ l ∧ q.nm = s := fnd_mem Kd.nm h
theorem ed_mono {l m : List Nd} (h : ∀ f x, getF m f = some x → ∀ q ∈ x.ks, ∃ y, getF l f = some y ∧ ∃ r ∈ y.ks, r.fid = q.fid) (hd : ∀ g d, getF m g = some d → d.k = 2 → ∃ e, getF l g = some e ∧ e.k = 2) {f g : Int} (hE : Ed m f g) : Ed l f g := by
 obtain ⟨x, d, h1, ⟨q, hq, e⟩, h3, h4⟩ := hE
 obtain ⟨y, h5, r, hr, e2⟩ := h f x h1 q hq
 obtain ⟨e3, h6, h7⟩ := hd g d h3 h4
 exact ⟨y, e3, h5, ⟨r, hr, by rw [e2, e]⟩, h6, h7⟩
theorem Rt.write {l : List Nd} (R : Rt l) {x y : Nd} (hx : getF l x.fid = some x) (hf : y.fid = x.fid) (hk : y.k = x.k) (hl : y.ln = x.ln) (hs : y.ks = x.ks) (hy : NOk y) : Rt (setL l y) := by
 have hN : ∀ g, getF (setL l y) g = if g = x.fid then some y else getF l g := fun g => by rw [getF_set, hf]
 have hc : ∀ g, cT g (setL l y) = cT g l := fun g => by
   have := cT_set g y R.srt
   rw [hf, hx] at this
   simp only [Option.elim, cN, hs] at this
   omega
 have hlen : (setL l y).length = l.length := by
   have := len_set y R.srt
   rw [hf, hx] at this
   simp only [Option.elim] at this
   omega
 have old : ∀ f z, getF (setL l y) f = some z → ∃ z0, getF l f = some z0 ∧ z.ks = z0.ks ∧ z.k = z0.k ∧ z.ln = z0.ln := fun f z hz => by
   rw [hN] at hz
   by_cases e : f = x.fid
   · rw [if_pos e] at hz; cases hz; exact ⟨x, by rw [e]; exact hx, hs, hk, hl⟩
   · rw [if_neg e] at hz; exact ⟨z, hz, rfl, rfl, rfl⟩
 have new : ∀ g, (getF (setL l y) g).isSome = (getF l g).isSome := fun g => by
   rw [hN]
   by_cases e : g = x.fid
   · rw [if_pos e, e, hx]; rfl
   · rw [if_neg e]
 refine Rt.of (by rw [hlen]; exact R.few) (srt_set y R.srt) (fun f z hz => ?_) (fun f z hz q hq => ?_) ?_ (fun f z hz hne => ?_) ?_
 · have hz' := hz
   rw [hN] at hz'
   by_cases e : f = x.fid
   · rw [if_pos e] at hz'; cases hz'
     exact ⟨hy, by rw [e]; exact (R.at hx).2.1⟩
   · rw [if_neg e] at hz'
     exact ⟨(R.at hz').1, (R.at hz').2.1⟩
 · obtain ⟨z0, h0, e1, _⟩ := old f z hz
   rw [e1] at hq
   obtain ⟨a, b, hb⟩ := R.kids h0 hq
   exact ⟨a, by rw [new, hb]; rfl⟩
 · obtain ⟨r, hr, h1, h2⟩ := R.root
   rw [hN]
   by_cases e : (1 : Int) = x.fid
   · rw [if_pos e]
     rw [← e, hr] at hx
     cases hx
     exact ⟨y, rfl, by rw [hk, h1], by rw [hl, h2]⟩
   · rw [if_neg e]; exact ⟨r, hr, h1, h2⟩
 · obtain ⟨z0, h0, _, e2, e3⟩ := old f z hz
   rw [hc, e2, e3]
   exact R.links h0 hne
 · obtain ⟨r, hr⟩ := R.rank
   refine ⟨r, fun f g hE => hr f g (ed_mono (fun f z hz q hq => ?_) (fun g d hg hd => ?_) hE)⟩
   · obtain ⟨z0, h0, e1, _⟩ := old f z hz
     exact ⟨z0, h0, q, by rw [← e1]; exact hq, rfl⟩
   · obtain ⟨z0, h0, _, e2, _⟩ := old g d hg
     exact ⟨z0, h0, by rw [← e2]; exact hd⟩
theorem Rt.make {l : List Nd} (R : Rt l) {d n : Nd} {s : ByteArray} (hd : getF l d.fid = some d) (hk : d.k = 2) (hq : kq d.ks s = none) (hs : Pa.nameB s.data.toList = true) (h12 : d.ks.length < 12) (h40 : l.length < 40)
   (hn : NOk n) (hn0 : getF l n.fid = none) (hn1 : n.fid ≠ 1) (hnp : 0 < n.fid) (hnk : n.ks = []) (hnl : n.ln = 1) : Rt (setL (setL l (d.kids none 0 (entL d.ks s n.fid))) n) := by
 have hne : n.fid ≠ d.fid := fun e => by rw [e, hd] at hn0; cases hn0
 have hn00 : n.fid ≠ 0 := by omega
 have s1 := srt_set (d.kids none 0 (entL d.ks s n.fid)) R.srt
 have hN : ∀ g, getF (setL (setL l (d.kids none 0 (entL d.ks s n.fid))) n) g = if g = n.fid then some n else if g = d.fid then some (d.kids none 0 (entL d.ks s n.fid)) else getF l g := fun g => by
   rw [getF_set, getF_set]; rfl
 have hK := R.kok hd hk
 have hkk := hK.1
 have hcd : ∀ g, cK g (entL d.ks s n.fid) = cK g d.ks + (if n.fid = g then 1 else 0) := fun g => by
   have := cK_ent g s n.fid hkk
   rw [hq, if_neg hn00] at this
   simpa [Option.elim] using this
 have hc : ∀ g, cT g (setL (setL l (d.kids none 0 (entL d.ks s n.fid))) n) = cT g l + (if n.fid = g then 1 else 0) := fun g => by
   have h1 := cT_set g n s1
   have h2 := cT_set g (d.kids none 0 (entL d.ks s n.fid)) R.srt
   rw [getF_set, if_neg (show n.fid ≠ (d.kids none 0 (entL d.ks s n.fid)).fid from hne), hn0] at h1
   rw [show (d.kids none 0 (entL d.ks s n.fid)).fid = d.fid from rfl, hd] at h2
   simp only [Option.elim] at h1 h2
   have e1 : cN g (d.kids none 0 (entL d.ks s n.fid)) = cK g d.ks + (if n.fid = g then 1 else 0) := hcd g
   have e2 : cN g d = cK g d.ks := rfl
   have e3 : cN g n = 0 := by unfold cN; rw [hnk]; rfl
   omega
 have hmem : ∀ q, q ∈ entL d.ks s n.fid → q ∈ d.ks ∨ q = ⟨s, n.fid⟩ := fun q h => (entL_mem h).symm
 have hlen : (setL (setL l (d.kids none 0 (entL d.ks s n.fid))) n).length = l.length + 1 := by
   have h1 := len_set n s1
   have h2 := len_set (d.kids none 0 (entL d.ks s n.fid)) R.srt
   rw [getF_set, if_neg (show n.fid ≠ (d.kids none 0 (entL d.ks s n.fid)).fid from hne), hn0] at h1
   rw [show (d.kids none 0 (entL d.ks s n.fid)).fid = d.fid from rfl, hd] at h2
   simp only [Option.elim] at h1 h2
   omega
 have new : ∀ g, (getF l g).isSome = true → (getF (setL (setL l (d.kids none 0 (entL d.ks s n.fid))) n) g).isSome = true := fun g h => by
   rw [hN]; split
   · rfl
   · split
     · rfl
     · exact h
 have kl : (entL d.ks s n.fid).length ≤ 12 := by have := entL_len d.ks s n.fid; omega
 refine Rt.of (by omega) (srt_set n s1) (fun f z hz => ?_) (fun f z hz q hqz => ?_) ?_ (fun f z hz hne1 => ?_) ?_
 · rw [hN] at hz
   by_cases e : f = n.fid
   · rw [if_pos e] at hz; cases hz; exact ⟨hn, by omega⟩
   · rw [if_neg e] at hz
     by_cases e2 : f = d.fid
     · rw [if_pos e2] at hz; cases hz
       obtain ⟨⟨a1, a2, a3, a4⟩, a5, _⟩ := R.at hd
       refine ⟨⟨a1, a2, kl, .inr ⟨hk, ?_, kok_ent hK s n.fid (fun _ => hs)⟩⟩, by omega⟩
       rcases a4 with a4 | a4
       · omega
       · exact a4.2.1
     · rw [if_neg e2] at hz; exact ⟨(R.at hz).1, (R.at hz).2.1⟩
 · have hz' := hz
   rw [hN] at hz'
   by_cases e : f = n.fid
   · rw [if_pos e] at hz'; cases hz'; rw [hnk] at hqz; cases hqz
   · rw [if_neg e] at hz'
     by_cases e2 : f = d.fid
     · rw [if_pos e2] at hz'; cases hz'
       rcases hmem q hqz with h | h
       · obtain ⟨a, b, hb⟩ := R.kids hd h
         exact ⟨a, new _ (by rw [hb]; rfl)⟩
       · rw [h]; exact ⟨hn1, by rw [hN, if_pos rfl]; rfl⟩
     · rw [if_neg e2] at hz'
       obtain ⟨a, b, hb⟩ := R.kids hz' hqz
       exact ⟨a, new _ (by rw [hb]; rfl)⟩
 · obtain ⟨r, hr, h1, h2⟩ := R.root
   rw [hN, if_neg (fun e => hn1 e.symm)]
   by_cases e : (1 : Int) = d.fid
   · rw [if_pos e]
     rw [← e, hr] at hd
     cases hd
     exact ⟨_, rfl, h1, h2⟩
   · rw [if_neg e]; exact ⟨r, hr, h1, h2⟩
 · rw [hc]
   rw [hN] at hz
   by_cases e : f = n.fid
   · rw [if_pos e] at hz; cases hz
     rw [e, R.noent hn0, hnl, if_pos rfl]
     exact ⟨by omega, rfl, fun _ => rfl⟩
   · rw [if_neg e] at hz
     rw [if_neg (fun h => e h.symm)]
     by_cases e2 : f = d.fid
     · rw [if_pos e2] at hz; cases hz
       have := R.links hd (by rw [← e2]; exact hne1)
       rw [e2]; exact this
     · rw [if_neg e2] at hz
       exact R.links hz hne1
 · obtain ⟨r, hr⟩ := R.rank
   refine ⟨fun x => if x = n.fid then r d.fid + 1 else r x, fun f g hE => ?_⟩
   obtain ⟨x, dd, h1, ⟨q, hqx, eq⟩, h3, h4⟩ := hE
   rw [hN] at h1
   by_cases e : f = n.fid
   · rw [if_pos e] at h1; cases h1; rw [hnk] at hqx; cases hqx
   · rw [if_neg e] at h1
     simp only [if_neg e]
     by_cases eg : g = n.fid
     · simp only [if_pos eg]
       by_cases e2 : f = d.fid
       · rw [e2]; omega
       · rw [if_neg e2] at h1
         obtain ⟨_, b, hb⟩ := R.kids h1 hqx
         rw [eq, eg, hn0] at hb; cases hb
     · simp only [if_neg eg]
       rw [hN, if_neg eg] at h3
       have h3' : ∃ e, getF l g = some e ∧ e.k = 2 := by
         by_cases e3 : g = d.fid
         · exact ⟨d, by rw [e3]; exact hd, hk⟩
         · rw [if_neg e3] at h3; exact ⟨dd, h3, h4⟩
       obtain ⟨e5, h5, h6⟩ := h3'
       by_cases e2 : f = d.fid
       · rw [if_pos e2] at h1; cases h1
         rcases hmem q hqx with h | h
         · exact hr f g ⟨d, e5, by rw [e2]; exact hd, ⟨q, h, eq⟩, h5, h6⟩
         · rw [h] at eq; exact absurd eq.symm eg
       · rw [if_neg e2] at h1
         exact hr f g ⟨x, e5, h1, ⟨q, hqx, eq⟩, h5, h6⟩
end Go.Proofs.YtfmghbennahlfaaGreat
