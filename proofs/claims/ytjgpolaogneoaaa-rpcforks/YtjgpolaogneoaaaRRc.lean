/-
  The document's caller: Tick and Take whole.
-/
import Derived.Test.YtjgpolaogneoaaaRRf
import Derived.Deep.Cut
namespace Go.Proofs.Ytjgpolaogneoaaa
open Go.RowKit Go.ChangeShapes Go.WideShapes Go.ChangeAt
set_option linter.unusedVariables false
set_option linter.unusedSimpArgs false
set_option maxRecDepth 100000
theorem rtick_c {w : World} {g : Nat} {c : Cl} (h : IsC 86 w g c) (hw : c.Wf) (now : Int) (n0 : 0 ≤ now) (n1 : now < 18446744073709551616) :
    Calls Try.prog 37 #[pC g, .int .u64 now] w fun e w' => e = .returned (.tuple #[Fr.val (tickP c now), .bool (tickB c now)]) ∧ IsC 86 w' g (tickS c now) ∧ Ou (fun k => k = g) w w' := by
  obtain ⟨cl, ep, num, uw, body, sends, lst⟩ := c
  obtain ⟨_, _, _, hsn, hl, _⟩ := hw
  simp only at hsn hl
  have no : tickB ⟨cl, ep, num, uw, body, sends, lst⟩ now = false → ∀ (e : Ending) (w' : World), (e = .returned (.tuple #[Fr.val zpk, .bool false]) ∧ Below w.heap.size w w') → e = .returned (.tuple #[Fr.val (tickP ⟨cl, ep, num, uw, body, sends, lst⟩ now), .bool (tickB ⟨cl, ep, num, uw, body, sends, lst⟩ now)]) ∧ IsC 86 w' g (tickS ⟨cl, ep, num, uw, body, sends, lst⟩ now) ∧ Ou (fun k => k = g) w w' := fun ht e w' q => by
    unfold tickP tickS
    rw [ht]
    exact ⟨q.1, h.later q.2, Ou.of q.2⟩
  have yes : tickB ⟨cl, ep, num, uw, body, sends, lst⟩ now = true → ∀ (e : Ending) (w' : World), (e = .returned (.tuple #[Fr.val ⟨1, cl, 0, ep, num, body⟩, .bool true]) ∧ IsC 86 w' g ⟨cl, ep, num, uw, body, sends + 1, now⟩ ∧ Ou (fun k => k = g) w w') → e = .returned (.tuple #[Fr.val (tickP ⟨cl, ep, num, uw, body, sends, lst⟩ now), .bool (tickB ⟨cl, ep, num, uw, body, sends, lst⟩ now)]) ∧ IsC 86 w' g (tickS ⟨cl, ep, num, uw, body, sends, lst⟩ now) ∧ Ou (fun k => k = g) w w' := fun ht e w' q => by
    unfold tickP tickS
    rw [ht]
    exact q
  cases uw with
  | false => exact (rtick_noa cl ep num false body sends lst h hl now n0 n1 rfl).mono (no rfl)
  | true =>
    by_cases h2 : 0 < sends
    · by_cases h3 : now < lst
      · exact (rtick_nob cl ep num true body sends lst h hl now n0 n1 rfl h2 h3).mono (no (by simp [tickB, dueB]; omega))
      · by_cases h4 : now - lst < 4
        · exact (rtick_noc cl ep num true body sends lst h hl now n0 n1 rfl h2 h3 h4).mono (no (by simp [tickB, dueB]; omega))
        · exact (rtick_yese cl ep num true body sends lst h hl hsn now n0 n1 rfl h2 h3 h4).mono (yes (by simp [tickB, dueB]; omega))
    · exact (rtick_yesd cl ep num true body sends lst h hl hsn now n0 n1 rfl h2).mono (yes (by simp [tickB, dueB]; omega))
def rtakeS (c : Cl) (p : Fr.Pk) : Cl := if takeB c p then rdoneS c else c
theorem rtake_c {w : World} {g : Nat} {c : Cl} (h : IsC 86 w g c) (p : Fr.Pk) (hp : Fr.Wf p) (hs : p.b.size ≤ maxLen) :
    Calls Try.prog 38 #[pC g, Fr.val p] w fun x w' => x = .returned (.tuple #[.string (takeT c p), .bool (takeB c p)]) ∧ IsC 86 w' g (rtakeS c p) ∧ Ou (fun k => k = g) w w' := by
  obtain ⟨cl, ep, num, uw, body, sends, lst⟩ := c
  obtain ⟨k, f, t, e, s, b⟩ := p
  have no : takeB ⟨cl, ep, num, uw, body, sends, lst⟩ ⟨k, f, t, e, s, b⟩ = false → ∀ (x : Ending) (w' : World), (x = .returned (.tuple #[.string ⟨#[]⟩, .bool false]) ∧ Below w.heap.size w w') → x = .returned (.tuple #[.string (takeT ⟨cl, ep, num, uw, body, sends, lst⟩ ⟨k, f, t, e, s, b⟩), .bool (takeB ⟨cl, ep, num, uw, body, sends, lst⟩ ⟨k, f, t, e, s, b⟩)]) ∧ IsC 86 w' g (rtakeS ⟨cl, ep, num, uw, body, sends, lst⟩ ⟨k, f, t, e, s, b⟩) ∧ Ou (fun k => k = g) w w' := fun ht x w' q => by
    unfold takeT rtakeS
    rw [ht]
    exact ⟨q.1, h.later q.2, Ou.of q.2⟩
  unfold Fr.val
  cases h0 : uw with
  | false => subst h0; exact (rtake_0 cl ep num false body sends lst h k f t e s b hp hs rfl).mono (no rfl)
  | true =>
    subst h0
    cases h1 : Fr.rightB ⟨k, f, t, e, s, b⟩ with
    | false => exact (rtake_1 cl ep num true body sends lst h k f t e s b hp hs rfl h1).mono (no (by simp [takeB, awB, h1]))
    | true =>
      cases h2 : (k != 2) with
      | true => exact (rtake_2 cl ep num true body sends lst h k f t e s b hp hs rfl h1 h2).mono (no (by have := bne_iff_ne.1 h2; simp [takeB, awB, this]))
      | false =>
        cases h3 : (t != cl) with
        | true => exact (rtake_3 cl ep num true body sends lst h k f t e s b hp hs rfl h1 h2 h3).mono (no (by have := bne_iff_ne.1 h3; simp [takeB, awB, this]))
        | false =>
          cases h4 : (e != ep) with
          | true => exact (rtake_4 cl ep num true body sends lst h k f t e s b hp hs rfl h1 h2 h3 h4).mono (no (by have := bne_iff_ne.1 h4; simp [takeB, awB, this]))
          | false =>
            cases h5 : (s != num) with
            | true => exact (rtake_5 cl ep num true body sends lst h k f t e s b hp hs rfl h1 h2 h3 h4 h5).mono (no (by have := bne_iff_ne.1 h5; simp [takeB, awB, this]))
            | false =>
              have ht : takeB ⟨cl, ep, num, true, body, sends, lst⟩ ⟨k, f, t, e, s, b⟩ = true := by
                have e2 : (k == 2) = true := by simpa using h2
                have e3 : (t == cl) = true := by simpa using h3
                have e4 : (e == ep) = true := by simpa using h4
                have e5 : (s == num) = true := by simpa using h5
                simp only [takeB, awB, h1, e2, e3, e4, e5, Bool.and_self]
              refine (rtake_6 cl ep num true body sends lst h k f t e s b hp hs rfl h1 h2 h3 h4 h5).mono fun x w' q => ?_
              unfold takeT rtakeS
              rw [ht]
              exact q
end Go.Proofs.Ytjgpolaogneoaaa
