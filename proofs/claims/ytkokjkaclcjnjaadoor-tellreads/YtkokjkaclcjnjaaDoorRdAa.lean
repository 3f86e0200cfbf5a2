/-
  Rows of bytes cut, and digits read: plainly.
-/
import Derived.Lib.ItoaMem
import Derived.Lib.SplitLaws
import Derived.Lib.IndexLaws
import Derived.Lib.Join
namespace Go.Proofs.YtkokjkaclcjnjaaDoor
set_option linter.unusedVariables false
set_option linter.unusedSimpArgs false
def cutL (c : UInt8) : List UInt8 → List UInt8 × Option (List UInt8)
 | [] => ([], none)
 | a :: t => if a = c then ([], some t) else (a :: (cutL c t).1, (cutL c t).2)
def splN (c : UInt8) : Nat → List UInt8 → List (List UInt8)
 | 0, s => [s]
 | k + 1, s => match (cutL c s).2 with
   | none => [s]
   | some t => (cutL c s).1 :: splN c k t
def joinL (c : UInt8) : List (List UInt8) → List UInt8
 | [] => []
 | [a] => a
 | a :: b :: t => a ++ c :: joinL c (b :: t)
theorem cut_app {c : UInt8} : ∀ {a : List UInt8} (t : List UInt8), c ∉ a → cutL c (a ++ c :: t) = (a, some t)
 | [], t, _ => by simp [cutL]
 | x :: a, t, h => by
   have h1 : x ≠ c := fun e => h (by rw [e]; exact List.mem_cons_self ..)
   have h2 := cut_app (a := a) t (fun e => h (List.mem_cons_of_mem _ e))
   rw [List.cons_append, cutL, if_neg h1, h2]
theorem cut_none {c : UInt8} : ∀ {a : List UInt8}, c ∉ a → cutL c a = (a, none)
 | [], _ => rfl
 | x :: a, h => by
   have h1 : x ≠ c := fun e => h (by rw [e]; exact List.mem_cons_self ..)
   rw [cutL, if_neg h1, cut_none (fun e => h (List.mem_cons_of_mem _ e))]
theorem cut_some {c : UInt8} : ∀ {s t : List UInt8}, (cutL c s).2 = some t → s = (cutL c s).1 ++ c :: t ∧ c ∉ (cutL c s).1
 | [], t, h => by cases h
 | x :: s, t, h => by
   rw [cutL] at h ⊢
   by_cases e : x = c
   · rw [if_pos e] at h ⊢
     cases h
     exact ⟨by rw [e]; rfl, by simp⟩
   · rw [if_neg e] at h ⊢
     obtain ⟨h1, h2⟩ := cut_some (s := s) h
     refine ⟨by rw [List.cons_append, ← h1], fun q => ?_⟩
     rcases List.mem_cons.1 q with q | q
     · exact e q.symm
     · exact h2 q
theorem cut_miss {c : UInt8} : ∀ {s : List UInt8}, (cutL c s).2 = none → (cutL c s).1 = s ∧ c ∉ s
 | [], _ => ⟨rfl, by simp⟩
 | x :: s, h => by
   rw [cutL] at h ⊢
   by_cases e : x = c
   · rw [if_pos e] at h; cases h
   · rw [if_neg e] at h ⊢
     obtain ⟨h1, h2⟩ := cut_miss (s := s) h
     refine ⟨by rw [h1], fun q => ?_⟩
     rcases List.mem_cons.1 q with q | q
     · exact e q.symm
     · exact h2 q
theorem spl_ne (c : UInt8) (k : Nat) (s : List UInt8) : splN c k s ≠ [] := by
 cases k with
 | zero => simp [splN]
 | succ k => rw [splN]; split <;> simp
theorem join_spl (c : UInt8) : ∀ (k : Nat) (s : List UInt8), joinL c (splN c k s) = s
 | 0, s => rfl
 | k + 1, s => by
   rw [splN]
   split
   · rfl
   · rename_i t h
     obtain ⟨h1, h2⟩ := cut_some h
     have h3 := join_spl c k t
     cases e : splN c k t with
     | nil => exact absurd e (spl_ne c k t)
     | cons b r =>
       rw [joinL, ← e, h3]
       exact h1.symm
theorem spl_none {c : UInt8} (k : Nat) {a : List UInt8} (h : c ∉ a) : splN c k a = [a] := by
 cases k with
 | zero => rfl
 | succ k => rw [splN, cut_none h]
theorem spl_cons {c : UInt8} (k : Nat) {a : List UInt8} (t : List UInt8) (h : c ∉ a) : splN c (k + 1) (a ++ c :: t) = a :: splN c k t := by
 rw [splN, cut_app t h]
theorem spl_join {c : UInt8} : ∀ {l : List (List UInt8)} (k : Nat), l ≠ [] → (∀ a ∈ l, c ∉ a) → l.length ≤ k + 1 → splN c k (joinL c l) = l
 | [], _, h, _, _ => absurd rfl h
 | [a], k, _, h, _ => spl_none k (h a (List.mem_cons_self ..))
 | a :: b :: t, 0, _, _, hl => by simp at hl
 | a :: b :: t, k + 1, _, h, hl => by
   rw [joinL, spl_cons k _ (h a (List.mem_cons_self ..)), spl_join k (by simp) (fun x hx => h x (List.mem_cons_of_mem _ hx)) (by simp at hl ⊢; omega)]
theorem spl_len (c : UInt8) : ∀ (k : Nat) (s : List UInt8), (splN c k s).length ≤ k + 1
 | 0, s => by simp [splN]
 | k + 1, s => by
   rw [splN]
   split
   · simp
   · rename_i t h
     have := spl_len c k t
     rw [List.length_cons]
     omega
theorem spl_all (c : UInt8) : ∀ (k m : Nat) (s : List UInt8), s.length ≤ k → s.length ≤ m → splN c k s = splN c m s
 | 0, m, s, h, _ => by
   have : s = [] := List.eq_nil_of_length_eq_zero (by omega)
   subst this
   exact (spl_none m (by simp)).symm
 | k + 1, 0, s, _, h => by
   have : s = [] := List.eq_nil_of_length_eq_zero (by omega)
   subst this
   exact spl_none (k + 1) (by simp)
 | k + 1, m + 1, s, h, h' => by
   rw [splN, splN]
   split
   · rfl
   · rename_i t e
     obtain ⟨h1, _⟩ := cut_some e
     have : t.length < s.length := by rw [h1, List.length_append, List.length_cons]; omega
     rw [spl_all c k m t (by omega) (by omega)]
/-! ### Digits -/
def runD (most : Nat) : Nat → List UInt8 → Option Nat
 | n, [] => some n
 | n, a :: t => if a < 48 ∨ 57 < a then none else if most < n * 10 + (a.toNat - 48) then none else runD most (n * 10 + (a.toNat - 48)) t
def readD (most : Nat) (s : List UInt8) : Option Nat := if s = [] ∨ (s.headD 0 = 48 ∧ s ≠ [48]) then none else runD most 0 s
def stepD (most n : Nat) (a : UInt8) : Option Nat := if a < 48 ∨ 57 < a then none else if most < n * 10 + (a.toNat - 48) then none else some (n * 10 + (a.toNat - 48))
theorem run_snoc (most : Nat) : ∀ (l : List UInt8) (n : Nat) (a : UInt8), runD most n (l ++ [a]) = (runD most n l).bind fun m => stepD most m a
 | [], n, a => by
   rw [List.nil_append, runD, runD]
   unfold stepD
   simp only [Option.bind_some, runD]
 | x :: l, n, a => by
   rw [List.cons_append, runD, runD]
   split
   · rfl
   · split
     · rfl
     · exact run_snoc most l _ a
theorem dig_nat {d : Nat} (h : d < 10) : (UInt8.ofNat (48 + d)).toNat = 48 + d := by
 rw [UInt8.toNat_ofNat']
 omega
theorem dig_in {d : Nat} (h : d < 10) : ¬ (UInt8.ofNat (48 + d) < 48 ∨ 57 < UInt8.ofNat (48 + d)) := by
 rw [UInt8.lt_iff_toNat_lt, UInt8.lt_iff_toNat_lt, dig_nat h]
 have e1 : (48 : UInt8).toNat = 48 := rfl
 have e2 : (57 : UInt8).toNat = 57 := rfl
 omega
theorem dec_big {u : Nat} (h : ¬ u < 10) : Lib.decDigits u = Lib.decDigits (u / 10) ++ [UInt8.ofNat (48 + u % 10)] := by
 conv => lhs; rw [Lib.decDigits]
 rw [dif_neg h]
theorem dec_ne (u : Nat) : Lib.decDigits u ≠ [] := by
 by_cases h : u < 10
 · rw [Lib.decDigits_one h]; simp
 · rw [dec_big h]; simp
theorem run_dec {most : Nat} : ∀ (k n : Nat), n ≤ k → n ≤ most → runD most 0 (Lib.decDigits n) = some n
 | k, n, hk, hm => by
   by_cases h : n < 10
   · rw [Lib.decDigits_one h, runD, if_neg (dig_in h), dig_nat h, if_neg (by omega), runD]
     congr 1; omega
   · match k with
     | 0 => omega
     | k + 1 =>
       rw [dec_big h, run_snoc, run_dec k (n / 10) (by omega) (by omega)]
       show stepD most (n / 10) _ = _
       unfold stepD
       rw [if_neg (dig_in (by omega)), dig_nat (by omega), if_neg (by omega)]
       congr 1; omega
theorem dec_head (k n : Nat) (hk : n ≤ k) : (Lib.decDigits n).headD 0 = 48 → n = 0 := by
 induction k generalizing n with
 | zero => intro _; omega
 | succ k ih =>
   intro e
   by_cases h : n < 10
   · rw [Lib.decDigits_one h] at e
     have e1 : UInt8.ofNat (48 + n) = 48 := e
     have := congrArg UInt8.toNat e1
     rw [dig_nat h] at this
     have e2 : (48 : UInt8).toNat = 48 := rfl
     omega
   · rw [dec_big h] at e
     cases q : Lib.decDigits (n / 10) with
     | nil => exact absurd q (dec_ne _)
     | cons a t =>
       rw [q] at e
       have := ih (n / 10) (by omega) (by rw [q]; exact e)
       omega
theorem read_dec {most n : Nat} (h : n ≤ most) : readD most (Lib.decDigits n) = some n := by
 unfold readD
 rw [if_neg, run_dec n n (Nat.le_refl _) h]
 rintro (e | ⟨e1, e2⟩)
 · exact dec_ne _ e
 · have := dec_head n n (Nat.le_refl _) e1
   subst this
   exact e2 (by rw [Lib.decDigits_one (by omega)]; rfl)
theorem run_back {most : Nat} : ∀ (k : Nat) (s : List UInt8), s.length ≤ k → s ≠ [] → (s.headD 0 ≠ 48 ∨ s = [48]) → ∀ n, runD most 0 s = some n → Lib.decDigits n = s ∧ n ≤ most
 | 0, s, h, hn, _, n, _ => absurd (List.eq_nil_of_length_eq_zero (by omega)) hn
 | k + 1, s, h, hn, hh, n, hr => by
   obtain ⟨l, a, rfl⟩ : ∃ l a, s = l ++ [a] := ⟨s.dropLast, s.getLast hn, (List.dropLast_concat_getLast hn).symm⟩
   rw [run_snoc] at hr
   cases hl : runD most 0 l with
   | none => rw [hl] at hr; cases hr
   | some m =>
     rw [hl] at hr
     have hs : stepD most m a = some n := hr
     unfold stepD at hs
     split at hs
     · cases hs
     · rename_i ha
       split at hs
       · cases hs
       · rename_i hm
         cases hs
         have a1 : 48 ≤ a.toNat ∧ a.toNat ≤ 57 := by
           rw [UInt8.lt_iff_toNat_lt, UInt8.lt_iff_toNat_lt] at ha
           have e1 : (48 : UInt8).toNat = 48 := rfl
           have e2 : (57 : UInt8).toNat = 57 := rfl
           omega
         have ea : UInt8.ofNat (48 + (a.toNat - 48)) = a := by
           rw [show 48 + (a.toNat - 48) = a.toNat by omega]
           exact UInt8.ofNat_toNat
         refine ⟨?_, by omega⟩
         by_cases e : l = []
         · subst e
           cases hl
           rw [Nat.zero_mul, Nat.zero_add, Lib.decDigits_one (by omega), ea]
           rfl
         · have hh' : l.headD 0 ≠ 48 := by
             cases l with
             | nil => exact absurd rfl e
             | cons x t =>
               rcases hh with q | q
               · exact q
               · have := congrArg List.length q
                 simp at this
           obtain ⟨h1, h2⟩ := run_back k l (by simp at h; omega) e (.inl hh') m hl
           have hm0 : m ≠ 0 := fun e0 => by
             rw [e0, Lib.decDigits_one (by omega)] at h1
             rw [← h1] at hh'
             exact hh' rfl
           rw [dec_big (by omega), show (m * 10 + (a.toNat - 48)) / 10 = m by omega, show (m * 10 + (a.toNat - 48)) % 10 = a.toNat - 48 by omega, h1, ea]
theorem read_back {most n : Nat} {s : List UInt8} (h : readD most s = some n) : Lib.decDigits n = s ∧ n ≤ most := by
 unfold readD at h
 split at h
 · cases h
 · rename_i q
   refine run_back s.length s (Nat.le_refl _) (fun e => q (.inl e)) ?_ n h
   by_cases e : s.headD 0 = 48
   · right
     apply Classical.byContradiction
     intro e2
     exact q (.inr ⟨e, e2⟩)
   · exact .inl e
def numD : Nat → List UInt8 → Nat
 | n, [] => n
 | n, a :: t => if a < 48 ∨ 57 < a then 0 else numD (n * 10 + (a.toNat - 48)) t
def numQ (s : List UInt8) : Nat := if 10 < s.length then 0 else numD 0 s
theorem num_run {most : Nat} : ∀ (s : List UInt8) (n v : Nat), runD most n s = some v → numD n s = v
 | [], n, v, h => by cases h; rfl
 | a :: t, n, v, h => by
   rw [runD] at h
   rw [numD]
   split at h
   · cases h
   · rename_i q
     rw [if_neg q]
     split at h
     · cases h
     · exact num_run t _ v h
theorem nD_le : ∀ (k n : Nat), n < 10 ^ (k + 1) → Lib.nDigits n ≤ k + 1
 | 0, n, h => by rw [Lib.nDigits_small (by simpa using h)]; omega
 | k + 1, n, h => by
   by_cases h0 : n < 10
   · rw [Lib.nDigits_small h0]; omega
   · rw [Nat.pow_succ] at h
     rw [Lib.nDigits_big h0]
     have := nD_le k (n / 10) (by omega)
     omega
theorem dec_len {n : Nat} (h : n < 10000000000) : (Lib.decDigits n).length ≤ 10 := by
 rw [Lib.decDigits_length]
 exact nD_le 9 n (by omega)
theorem num_dec {n : Nat} (h : n < 4294967296) : numQ (Lib.decDigits n) = n := by
 unfold numQ
 rw [if_neg (by have := dec_len (n := n) (by omega); omega)]
 exact num_run (most := n) _ _ _ (run_dec n n (Nat.le_refl _) (Nat.le_refl _))
end Go.Proofs.YtkokjkaclcjnjaaDoor
