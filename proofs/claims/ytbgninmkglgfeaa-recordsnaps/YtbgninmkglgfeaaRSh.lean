/-
  Bytes that are taken off, with where they lie: piece, short of the package record. (Written by gen_recshort.py.)
-/
import Derived.Test.YtbgninmkglgfeaaRRd
namespace Go.Proofs.Ytbgninmkglgfeaa
open Go.RowKit Go.ChangeShapes Go.WideShapes Go.ChangeAt Go.Shelf
set_option linter.unusedVariables false
set_option linter.unusedSimpArgs false
def PiecePost2 (w : World) (r : Nat) (a : Option Addr) (c : Nat) (zs : List Int) (k : Nat) (e : Ending) (w' : World) : Prop :=
  if k ≤ zs.length then (e = .returned (.slice a k c) ∧ IsB w' a k (zs.take k)) ∧ ∃ a' u, w' = w.setCell ⟨r, 0, none⟩ u ∧ Rdr w' r a' (c - k) (zs.drop k) else e = PN ∧ w' = w
set_option maxRecDepth 20000 in
set_option maxHeartbeats 1000000 in
theorem piece2_c (r : Nat) (a : Option Addr) (c : Nat) (zs : List Int) (k : Nat) (w : World) (h : Rdr w r a c zs) (hk : k < 9223372036854775808) :
    Calls Try.prog 94 #[.pointer (some ⟨r, 0, none⟩), .int .i64 k] w (PiecePost2 w r a c zs k) := by
  obtain ⟨hcell, hfr⟩ := h.cell
  have hm := h.2.1.2.1
  unfold maxLen at hm
  have HH := hid h
  have hlc := h.2.2.1
  by_cases q : k ≤ zs.length
  · have qI : ¬ (zs.length : Int) < k := by omega
    have qI2 : (k : Int) ≤ zs.length := by omega
    have hcI : (k : Int) ≤ c := by omega
    have hcN : k ≤ c := by omega
    have hcm : (c : Int) - k = ((c - k : Nat) : Int) := by omega
    rcases h.2.2.2 with ⟨rfl, rfl⟩ | ⟨b, off, rfl, hbr⟩
    · have hz : zs = [] := List.eq_nil_of_length_eq_zero (by omega)
      subst hz
      obtain rfl : k = 0 := by simpa using q
      clear h qI qI2 hcI hcN
      go_enter Try.func94, Try.ntmps94
      go_wp2_with (go_at_call 54; refine (refuse_f _).mono ?_; rintro _ _ ⟨rfl, rfl⟩)
      go_ret
      unfold PiecePost2
      rw [if_pos (by simp)]
      refine ⟨⟨rfl, ?_⟩, none, _, rfl, heap_setBox _ HH.out.1, ?_, by simp, .inl ⟨rfl, rfl⟩⟩
      · exact ⟨rfl, by unfold maxLen; omega, fun hp => absurd hp (by omega), fun i => by simp⟩
      · exact ⟨rfl, by unfold maxLen; simp, fun hp => absurd hp (by simp), fun i => by simp⟩
    · have HD := hid (isB_drop (c := c) h.2.1 k q)
      clear h
      have HF := hid ((HH.out.2.1.front k q).1)
      by_cases hck : c = k
      · subst hck
        have hzl : zs.length - c = 0 := by omega
        go_enter Try.func94, Try.ntmps94
        go_wp2_with (go_at_call 54; refine (refuse_f _).mono ?_; rintro _ wf ⟨rfl, hwf⟩; have hwf2 := hwf.symm; clear hwf; subst hwf2)
        go_ret
        unfold PiecePost2
        rw [if_pos q]
        refine ⟨⟨rfl, isB_set (HH.out.2.1.front c q) HH.out.1 (slice_no8 _ _ _) _⟩, some ⟨b, off, none⟩, _, rfl, ?_, ?_, ?_, .inr ⟨_, _, rfl, hbr⟩⟩
        · rw [List.length_drop, Nat.sub_self]; first | exact heap_setBox _ HH.out.1 | (rw [hzl]; exact heap_setBox _ HH.out.1)
        · rw [List.length_drop]
          rcases HD.out with hd | hd
          · first | rw [if_pos rfl] at hd | rw [if_pos trivial] at hd
            exact isB_set hd HH.out.1 (slice_no8 _ _ _) _
          · omega
        · rw [List.length_drop]; omega
      · go_enter Try.func94, Try.ntmps94
        go_wp2_with (go_at_call 54; refine (refuse_f _).mono ?_; rintro _ wf ⟨rfl, hwf⟩; have hwf2 := hwf.symm; clear hwf; subst hwf2)
        go_ret
        unfold PiecePost2
        rw [if_pos q]
        refine ⟨⟨rfl, isB_set (HH.out.2.1.front k q) HH.out.1 (slice_no8 _ _ _) _⟩, some ⟨b, off + k, none⟩, _, rfl, ?_, ?_, ?_, .inr ⟨_, _, rfl, hbr⟩⟩
        · rw [List.length_drop]; exact heap_setBox _ HH.out.1
        · rw [List.length_drop]
          rcases HD.out with hd | hd
          · rw [if_neg hck] at hd
            exact isB_set hd HH.out.1 (slice_no8 _ _ _) _
          · omega
        · rw [List.length_drop]; omega
  · have qI : (zs.length : Int) < k := by omega
    clear h
    go_enter Try.func94, Try.ntmps94
    go_wp2_with (go_at_call 54; refine (refuse_t _).mono ?_; rintro _ _ ⟨rfl, rfl⟩)
    refine ⟨rfl, ?_⟩
    unfold PiecePost2
    rw [if_neg q]
    exact ⟨rfl, rfl⟩
def ShortPost2 (w : World) (r : Nat) (res : Option (List Int × List Int)) (e : Ending) (w' : World) : Prop :=
  Kr r w w' ∧ match res with
    | some (ys, rest) => (∃ p c', e = .returned (.slice p ys.length c') ∧ IsB w' p ys.length ys ∧ ys.length ≤ c' ∧ (p = none ∧ c' = 0 ∨ ∃ b off, p = some ⟨b, off, none⟩ ∧ b < r)) ∧ ∃ a c, Rdr w' r a c rest
    | none => e = PN
set_option maxRecDepth 20000 in
set_option maxHeartbeats 1000000 in
theorem short2_c {r : Nat} {a : Option Addr} {c : Nat} {zs : List Int} {w : World} (h : Rdr w r a c zs) :
    Calls Try.prog 63 #[.pointer (some ⟨r, 0, none⟩)] w (ShortPost2 w r (shortP zs)) := by
  have NC := hid (tnum_c 1 h (by omega))
  have HBD := hid (fun m t (e : numP 1 zs = some (m, t)) => numP_bd h e)
  clear h
  unfold shortP
  unfold Takes at NC
  rcases hn : numP 1 zs with _ | ⟨m, t⟩
  · rw [hn] at NC
    simp only [Option.map_none] at NC ⊢
    go_enter Try.func63, Try.ntmps63
    go_wp2_with (go_at_call 51; refine NC.out.mono ?_; rintro _ w1 ⟨hk, rfl⟩)
    exact ⟨rfl, hk, rfl⟩
  · obtain ⟨m0, m1⟩ := HBD.out m t hn
    rw [hn] at NC
    simp only [Option.map_some] at NC ⊢
    have m1' : m < 256 := by simpa using m1
    have kc : IntKind.i64.wrap m = m := by rw [IntKind.wrap_i64]; omega
    obtain ⟨k, rfl⟩ : ∃ k : Nat, m = k := ⟨m.toNat, by omega⟩
    rw [Int.toNat_natCast]
    clear m1 HBD hn
    by_cases q : k ≤ t.length
    · rw [if_pos q]
      go_enter Try.func63, Try.ntmps63
      go_wp2_with (first
        | (go_at_call 94; refine PC.out.mono ?_; rintro _ w2 ⟨⟨rfl, hI⟩, a2, u2, hw2, hR2⟩)
        | (go_at_call 51; refine NC.out.mono ?_; rintro _ w1 ⟨hk, rfl, a1, c1, hR1⟩; have K1 := hid hk; have PC := hid (piece2_c r a1 c1 t k w1 hR1 (by omega)); unfold PiecePost2 at PC; simp only [if_pos q] at PC; have HL1 := hid hR1.2.2; clear hk hR1))
      have hl : (t.take k).length = k := hI.1
      go_ret
      subst hw2
      exact ⟨K1.out.trans (Kr.set _ _ _), ⟨a1, c1, by rw [hl]; rfl, by rw [hl]; exact hI, by rw [hl]; exact Nat.le_trans q HL1.out.1, HL1.out.2⟩, _, _, hR2⟩
    · rw [if_neg q]
      go_enter Try.func63, Try.ntmps63
      go_wp2_with (first
        | (go_at_call 94; refine PC.out.mono ?_; rintro _ w2 ⟨rfl, hw2⟩)
        | (go_at_call 51; refine NC.out.mono ?_; rintro _ w1 ⟨hk, rfl, a1, c1, hR1⟩; have K1 := hid hk; have PC := hid (piece2_c r a1 c1 t k w1 hR1 (by omega)); unfold PiecePost2 at PC; simp only [if_neg q] at PC; clear hk hR1))
      refine ⟨rfl, ?_, rfl⟩
      first | exact K1.out | (rw [hw2]; exact K1.out)
end Go.Proofs.Ytbgninmkglgfeaa
