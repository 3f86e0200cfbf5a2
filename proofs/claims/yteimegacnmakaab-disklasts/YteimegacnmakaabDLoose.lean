/-
  What Loose of the package disk returns: the numbers in the buffer, rising.
-/
import Derived.Test.YteimegacnmakaabDEnds
import Derived.Test.YteimegacnmakaabIter
namespace Go.Proofs.Yteimegacnmakaab
open Go.RowKit Go.ChangeShapes Go.WideShapes Go.ChangeAt Go.Maps Go.Sort Go.Shelf
set_option linter.unusedVariables false
set_option linter.unusedSimpArgs false
/-- The numbers that f has something for, rising. -/
def Keys (f : Int → Option Sec) (ss : List Int) : Prop := ss.Pairwise (· < ·) ∧ ∀ i, i ∈ ss ↔ (f i).isSome = true
theorem Keys.one {f : Int → Option Sec} : ∀ {s t : List Int}, Keys f s → Keys f t → s = t := by
  have key : ∀ (s t : List Int), s.Pairwise (· < ·) → t.Pairwise (· < ·) → (∀ i, i ∈ s ↔ i ∈ t) → s = t := by
    intro s t hs ht hm
    have n1 : s.Nodup := hs.imp fun {a b} h => by omega
    have n2 : t.Nodup := ht.imp fun {a b} h => by omega
    refine List.Perm.eq_of_pairwise (le := fun a b => a < b) (fun a b _ _ h1 h2 => by omega) hs ht ?_
    exact (List.perm_ext_iff_of_nodup n1 n2).2 hm
  intro s t h1 h2
  exact key s t h1.1 h2.1 fun i => by rw [h1.2, h2.2]
theorem keys_of {w : World} {b n : Nat} {D : DataW Sec} (h : w.ownsMap Try.prog 3 secR b n D) {ss : List Int} (hp : ss.Perm (intKeys D)) : Keys (look D) (ss.mergeSort fun x y => decide (x ≤ y)) := by
  obtain ⟨es, e, hpw, hs⟩ := own_entries h
  subst e
  have hnd : (intKeys (.map es : DataW Sec)).Pairwise (· ≠ ·) := by
    show (es.map fun p => _).Pairwise (· ≠ ·)
    rw [List.pairwise_map]
    refine hpw.imp_of_mem fun {a c} ha hc hne => ?_
    obtain ⟨i, s, rfl, _⟩ := hs a ha
    obtain ⟨j, u, rfl, _⟩ := hs c hc
    intro e
    apply hne
    have : i = j := e
    rw [this]
  have hmem : ∀ i, i ∈ intKeys (.map es : DataW Sec) ↔ (look (.map es) i).isSome = true := by
    intro i
    constructor
    · intro hi
      obtain ⟨p, hp1, e⟩ := List.mem_map.1 (show i ∈ es.map fun p => _ from hi)
      obtain ⟨j, s, rfl, _⟩ := hs p hp1
      have : j = i := e
      subst this
      rw [look_mem hpw hp1]; rfl
    · intro hi
      have h2 := (look_at h i zsec).2
      rw [hi, Maps.has_eq, List.any_eq_true] at h2
      obtain ⟨p, hp1, hp2⟩ := h2
      obtain ⟨j, s, rfl, _⟩ := hs p hp1
      rw [same_ky] at hp2
      have : j = i := by simpa using hp2
      subst this
      exact List.mem_map.2 ⟨_, hp1, rfl⟩
  have hperm : (ss.mergeSort fun x y => decide (x ≤ y)).Perm (intKeys (.map es : DataW Sec)) := (List.mergeSort_perm ss _).trans hp
  refine ⟨?_, fun i => by rw [← hmem i]; exact hperm.mem_iff⟩
  have h1 : (ss.mergeSort fun x y => decide (x ≤ y)).Pairwise (fun a b => decide (a ≤ b) = true) := List.pairwise_mergeSort (fun a b c h1 h2 => by simp only [decide_eq_true_eq] at *; omega) (fun a b => by simp only [Bool.or_eq_true, decide_eq_true_eq]; omega) ss
  have h2 : (ss.mergeSort fun x y => decide (x ≤ y)).Pairwise (· ≠ ·) := (hperm.pairwise_iff (fun {a b} h => h.symm)).2 hnd
  refine (h1.and h2).imp fun {a b} h => ?_
  have h3 : a ≤ b := by simpa using h.1
  have h4 := h.2
  omega
theorem sortsA (m : Nat) : AnyZI.SortsIn Try.prog Try.sortedA_ren Fence.wide m :=
  ⟨fun blk off cap ss W hH hblk hsz => callsIn_wide.2 (AnyM.slices_Sort_int Try.sortA blk off cap ss W hH hblk hsz),
   fun p cap W => callsIn_wide.2 (AnyM.slices_Sort_int_none Try.sortA p cap W)⟩
set_option maxHeartbeats 400000 in
theorem loose_nil (w : World) : Calls Try.prog 22 #[.pointer none] w fun e w' => e = .returned (.slice none 0 0) ∧ w' = w := by
  go_enter Try.func22, Try.ntmps22
  go_wp2
  go_ret
  exact ⟨rfl, rfl⟩
set_option maxRecDepth 100000 in
set_option maxHeartbeats 1000000 in
theorem loose_c {w : World} {d b1 b2 N : Nat} {on : Int → Sec} {c : Int → Option Sec} (h : IsD w d b1 b2 N on c) :
    Calls Try.prog 22 #[pD d] w fun e w' => ∃ v ss, e = .returned v ∧ Keys c ss ∧ w'.ownsRow w.heap.size 3 1 v ss.length (ss.map encZ) ∧ Below w.heap.size w w' := by
  obtain ⟨c0, c1, c2, l0, l1, l2, d1, d2, d3⟩ := h.cells
  obtain ⟨D, hown, hf⟩ := h.2.2.2.2.1.1
  have hN := h.2.2.2.1
  have hsz : Maps.size D ≤ N := hown.size_le
  refine (callsIn_wide (n := 6)).1 ?_
  have hseq : SeqGives Fence.wide 2 Try.prog 54 #[.pointer (some ⟨w.heap.size, 0, none⟩)] encZ (fun ss => ss.Perm (intKeys D)) (Maps.size D) (w.alloc (.cells #[.map (some b2)] 80)) :=
    AnyZI.keys_gives (ρ := Try.keysA_ren) { Try.keysA with } Fence.wide _ trivial rfl (by omega) w.heap.size b2 N D _ (by simp) (by simp) (by
      obtain ⟨es, clock, hb, Ft, hs, hD⟩ := hown
      exact ⟨es, clock, (Below.heap_alloc _ _ b2 l2).trans hb, Ft, hs, hD⟩)
  have cK : ∀ mb W, CallsIn Fence.wide 5 Try.prog 42 #[.map mb] W fun e w' => e = .returned (.func (.func 54) #[] #[.pointer (some ⟨W.heap.size, 0, none⟩)]) ∧ w' = W.alloc (.cells #[.map mb] 80) := fun mb W => AnyZI.keys_in Try.keysA Fence.wide 5 trivial rfl mb W
  have cS := AnyZI.sorted_in Try.sortedA Fence.wide 5 trivial trivial trivial trivial rfl (by omega) (sortsA _) (enters_of Try.func53 (by kernel_rfl) rfl) 54 #[.pointer (some ⟨w.heap.size, 0, none⟩)] trivial (enters_of Try.func54 (by kernel_rfl) rfl) _ _ (by unfold maxLen; omega) (by omega) _ hseq
  change CallsIn _ _ Try.prog 41 _ _ _ at cS
  have hfK : Fence.wide.fn 42 := trivial
  have hfS : Fence.wide.fn 41 := trivial
  have HO := hid hown
  have HF := hid hf
  have CS := hid cS
  have CK := hid cK
  clear h c0 c1 hown hf cS cK hseq hN hsz
  refine callsIn_of_wp Try.func22 rfl trivial ?_ rfl
  simp only [Try.ntmps22, List.size_toArray, List.length_cons, List.length_nil, Nat.reduceAdd, Nat.reduceSub, Array.replicate_succ, Array.replicate_zero, List.push_toArray, List.append_toArray, List.nil_append, List.cons_append]
  gi_wp2_with (first
    | (gi_at_call 42; refine (CK.out _ _).mono ?_; rintro e w' ⟨rfl, rfl⟩)
    | (gi_at_call 41; refine CS.out.mono ?_; rintro e w' ⟨v, ss, rfl, hS, hrow, hnil, hb⟩))
  go_ret
  have hk := keys_of HO.out hS
  have e1 : c = look D := funext HF.out
  refine ⟨v, ss.mergeSort (fun x y => decide (x ≤ y)), rfl, by rw [e1]; exact hk, ?_, ((Below.refl _ w).alloc (Nat.le_refl _) _).trans (hb.mono (by simp))⟩
  rw [(List.mergeSort_perm ss _).length_eq]
  exact ownsRow_base_a hrow (by simp)
end Go.Proofs.Yteimegacnmakaab
