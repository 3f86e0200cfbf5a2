/-
  The document's callee: Take and Reply whole.
-/
import Derived.Test.YtmoeljieafninaaRK1
import Derived.Test.YtmoeljieafninaaRK2
import Derived.Test.YtmoeljieafninaaRK3
import Derived.Test.YtmoeljieafninaaRRr
namespace Go.Proofs.Ytmoeljieafninaa
open Go.RowKit Go.ChangeShapes Go.WideShapes Go.ChangeAt
set_option linter.unusedVariables false
set_option linter.unusedSimpArgs false
set_option maxRecDepth 100000
theorem age_lt (e0 e1 s0 s1 : Int) : decide (orF (cmpF e0 e1) (cmpF s0 s1) < 0) = (decide (e0 < e1) || (e1 == e0 && decide (s0 < s1))) := by
  unfold orF cmpF
  by_cases h1 : e0 < e1
  · simp [h1]
  · by_cases h2 : e1 < e0
    · have h3 : ¬ e1 = e0 := by omega
      simp [h1, h2, h3]
    · have h3 : e1 = e0 := by omega
      subst h3
      by_cases h4 : s0 < s1
      · simp [h4]
      · by_cases h5 : s1 < s0
        · simp [h4, h5]
        · simp [h4, h5]
theorem age_eq (e0 e1 s0 s1 : Int) : decide (orF (cmpF e0 e1) (cmpF s0 s1) = 0) = (e1 == e0 && s1 == s0) := by
  unfold orF cmpF
  by_cases h1 : e0 < e1
  · have h3 : ¬ e1 = e0 := by omega
    simp [h1, h3]
  · by_cases h2 : e1 < e0
    · have h3 : ¬ e1 = e0 := by omega
      simp [h1, h2, h3]
    · have h3 : e1 = e0 := by omega
      subst h3
      by_cases h4 : s0 < s1
      · have h6 : ¬ s1 = s0 := by omega
        simp [h4, h6]
      · by_cases h5 : s1 < s0
        · have h6 : ¬ s1 = s0 := by omega
          simp [h4, h5, h6]
        · have h6 : s1 = s0 := by omega
          simp [h4, h5, h6]
def RktPost (w : World) (g : Nat) (F : Nat → Tk) (p : Fr.Pk) (x : Ending) (w' : World) : Prop :=
  x = .returned (.tuple #[.string (ktBody F p), .bool (ktOk F p), Fr.val (ktPk F p), .bool (ktIs F p)]) ∧ IsRK w' g (ktS F p) ∧ Ou (fun k => k = g) w w'
theorem rkt_fresh {w w' : World} {g : Nat} {F : Nat → Tk} {p : Fr.Pk} {x : Ending} (h1 : asksB p = true) (h2 : newerB (F p.f.toNat) p = true) (h : x = .returned (.tuple #[.string p.b, .bool true, Fr.val zpk, .bool false]) ∧ IsRK w' g (updK F p.f.toNat ⟨1, p.e, p.s, ⟨#[]⟩⟩) ∧ Ou (fun k => k = g) w w') : RktPost w g F p x w' := by
  have e1 : ktOk F p = true := by unfold ktOk; rw [h1, h2]; rfl
  have e2 : ktIs F p = false := by unfold ktIs; rw [h1, h2]; rfl
  unfold RktPost ktBody ktPk ktS
  rw [e1, e2]
  exact h
theorem rkt_none {w w' : World} {g : Nat} {F : Nat → Tk} {p : Fr.Pk} {x : Ending} (hK : IsRK w g F) (h1 : ktOk F p = false) (h2 : ktIs F p = false) (h : x = .returned (.tuple #[.string ⟨#[]⟩, .bool false, Fr.val zpk, .bool false]) ∧ Below w.heap.size w w') : RktPost w g F p x w' := by
  unfold RktPost ktBody ktPk ktS
  rw [h1, h2]
  exact ⟨h.1, hK.later h.2, Ou.of h.2⟩
theorem rkt_again {w w' : World} {g : Nat} {F : Nat → Tk} {p : Fr.Pk} {x : Ending} (hK : IsRK w g F) (h1 : ktOk F p = false) (h2 : ktIs F p = true) (h : x = .returned (.tuple #[.string ⟨#[]⟩, .bool false, Fr.val ⟨2, 0, p.f, (F p.f.toNat).ep, (F p.f.toNat).num, (F p.f.toNat).body⟩, .bool true]) ∧ Below w.heap.size w w') : RktPost w g F p x w' := by
  unfold RktPost ktBody ktPk ktS
  rw [h1, h2]
  exact ⟨h.1, hK.later h.2, Ou.of h.2⟩
theorem rkt_at1 {w : World} {g : Nat} {F : Nat → Tk} (h : IsRK w g F) (hF : (F 1).Wf) (e s : Int) (b : ByteArray) (hp : Fr.Wf ⟨1, 1, 0, e, s, b⟩) (hs : b.size ≤ maxLen) (hr : Fr.rightB ⟨1, 1, 0, e, s, b⟩ = true) :
    Calls Try.prog 10 #[pC g, Fr.val ⟨1, 1, 0, e, s, b⟩] w (RktPost w g F ⟨1, 1, 0, e, s, b⟩) := by
  have ha : asksB ⟨1, 1, 0, e, s, b⟩ = true := by unfold asksB; rw [hr]; rfl
  have hst := hF.1
  have hst' : (F 1).st = 0 ∨ (F 1).st = 1 ∨ (F 1).st = 2 := by omega
  rcases hst' with h0 | h0 | h0
  · exact (rkt_1_z h e s b hp hs hr h0).mono fun x w' q => rkt_fresh ha (by show newerB (F 1) _ = true; unfold newerB; rw [decide_eq_true h0]; rfl) q
  · have e0 : newerB (F 1) ⟨1, 1, 0, e, s, b⟩ = (decide ((F 1).ep < e) || (e == (F 1).ep && decide ((F 1).num < s))) := by
      unfold newerB; rw [age_lt]; simp [h0]
    by_cases hd : (F 1).ep < e
    · exact (rkt_1_a1 h e s b hp hs hr h0 hd).mono fun x w' q => rkt_fresh ha (by show newerB (F 1) _ = true; rw [e0]; simp [hd]) q
    · cases he : (e == (F 1).ep) with
      | false =>
        have e1 : newerB (F 1) ⟨1, 1, 0, e, s, b⟩ = false := by rw [e0, he]; simp [hd]
        have e2 : ktOk F ⟨1, 1, 0, e, s, b⟩ = false := by show (_ && newerB (F 1) _) = false; rw [e1]; simp
        have e3 : ktIs F ⟨1, 1, 0, e, s, b⟩ = false := by show (_ && _ && _ && decide (orF (cmpF (F 1).ep e) (cmpF (F 1).num s) = 0)) = false; rw [age_eq, he]; simp
        exact (rkt_1_c1 h e s b hp hs hr h0 hd he).mono fun x w' q => rkt_none h e2 e3 q
      | true =>
        by_cases hx : (F 1).num < s
        · exact (rkt_1_b1 h e s b hp hs hr h0 hd he hx).mono fun x w' q => rkt_fresh ha (by show newerB (F 1) _ = true; rw [e0, he]; simp [hx]) q
        · have e1 : newerB (F 1) ⟨1, 1, 0, e, s, b⟩ = false := by rw [e0, he]; simp [hd, hx]
          have e2 : ktOk F ⟨1, 1, 0, e, s, b⟩ = false := by show (_ && newerB (F 1) _) = false; rw [e1]; simp
          have e3 : ktIs F ⟨1, 1, 0, e, s, b⟩ = false := by show (_ && _ && decide ((F 1).st = 2) && _) = false; rw [h0]; simp
          exact (rkt_1_d1 h e s b hp hs hr h0 hd he hx).mono fun x w' q => rkt_none h e2 e3 q
  · have e0 : newerB (F 1) ⟨1, 1, 0, e, s, b⟩ = (decide ((F 1).ep < e) || (e == (F 1).ep && decide ((F 1).num < s))) := by
      unfold newerB; rw [age_lt]; simp [h0]
    by_cases hd : (F 1).ep < e
    · exact (rkt_1_a2 h e s b hp hs hr h0 hd).mono fun x w' q => rkt_fresh ha (by show newerB (F 1) _ = true; rw [e0]; simp [hd]) q
    · cases he : (e == (F 1).ep) with
      | false =>
        have e1 : newerB (F 1) ⟨1, 1, 0, e, s, b⟩ = false := by rw [e0, he]; simp [hd]
        have e2 : ktOk F ⟨1, 1, 0, e, s, b⟩ = false := by show (_ && newerB (F 1) _) = false; rw [e1]; simp
        have e3 : ktIs F ⟨1, 1, 0, e, s, b⟩ = false := by show (_ && _ && _ && decide (orF (cmpF (F 1).ep e) (cmpF (F 1).num s) = 0)) = false; rw [age_eq, he]; simp
        exact (rkt_1_c2 h e s b hp hs hr h0 hd he).mono fun x w' q => rkt_none h e2 e3 q
      | true =>
        by_cases hx : (F 1).num < s
        · exact (rkt_1_b2 h e s b hp hs hr h0 hd he hx).mono fun x w' q => rkt_fresh ha (by show newerB (F 1) _ = true; rw [e0, he]; simp [hx]) q
        · have e1 : newerB (F 1) ⟨1, 1, 0, e, s, b⟩ = false := by rw [e0, he]; simp [hd, hx]
          have e2 : ktOk F ⟨1, 1, 0, e, s, b⟩ = false := by show (_ && newerB (F 1) _) = false; rw [e1]; simp
          cases hy : (s == (F 1).num) with
          | true =>
            have e3 : ktIs F ⟨1, 1, 0, e, s, b⟩ = true := by show (asksB _ && !newerB (F 1) _ && decide ((F 1).st = 2) && decide (orF (cmpF (F 1).ep e) (cmpF (F 1).num s) = 0)) = true; rw [age_eq, ha, e1, h0, he, hy]; rfl
            exact (rkt_1_d2 h e s b hp hs hr h0 hd he hx hy).mono fun x w' q => rkt_again h e2 e3 q
          | false =>
            have e3 : ktIs F ⟨1, 1, 0, e, s, b⟩ = false := by show (_ && _ && _ && decide (orF (cmpF (F 1).ep e) (cmpF (F 1).num s) = 0)) = false; rw [age_eq, hy]; simp
            exact (rkt_1_d3 h e s b hp hs hr h0 hd he hx hy).mono fun x w' q => rkt_none h e2 e3 q
theorem rkt_at2 {w : World} {g : Nat} {F : Nat → Tk} (h : IsRK w g F) (hF : (F 2).Wf) (e s : Int) (b : ByteArray) (hp : Fr.Wf ⟨1, 2, 0, e, s, b⟩) (hs : b.size ≤ maxLen) (hr : Fr.rightB ⟨1, 2, 0, e, s, b⟩ = true) :
    Calls Try.prog 10 #[pC g, Fr.val ⟨1, 2, 0, e, s, b⟩] w (RktPost w g F ⟨1, 2, 0, e, s, b⟩) := by
  have ha : asksB ⟨1, 2, 0, e, s, b⟩ = true := by unfold asksB; rw [hr]; rfl
  have hst := hF.1
  have hst' : (F 2).st = 0 ∨ (F 2).st = 1 ∨ (F 2).st = 2 := by omega
  rcases hst' with h0 | h0 | h0
  · exact (rkt_2_z h e s b hp hs hr h0).mono fun x w' q => rkt_fresh ha (by show newerB (F 2) _ = true; unfold newerB; rw [decide_eq_true h0]; rfl) q
  · have e0 : newerB (F 2) ⟨1, 2, 0, e, s, b⟩ = (decide ((F 2).ep < e) || (e == (F 2).ep && decide ((F 2).num < s))) := by
      unfold newerB; rw [age_lt]; simp [h0]
    by_cases hd : (F 2).ep < e
    · exact (rkt_2_a1 h e s b hp hs hr h0 hd).mono fun x w' q => rkt_fresh ha (by show newerB (F 2) _ = true; rw [e0]; simp [hd]) q
    · cases he : (e == (F 2).ep) with
      | false =>
        have e1 : newerB (F 2) ⟨1, 2, 0, e, s, b⟩ = false := by rw [e0, he]; simp [hd]
        have e2 : ktOk F ⟨1, 2, 0, e, s, b⟩ = false := by show (_ && newerB (F 2) _) = false; rw [e1]; simp
        have e3 : ktIs F ⟨1, 2, 0, e, s, b⟩ = false := by show (_ && _ && _ && decide (orF (cmpF (F 2).ep e) (cmpF (F 2).num s) = 0)) = false; rw [age_eq, he]; simp
        exact (rkt_2_c1 h e s b hp hs hr h0 hd he).mono fun x w' q => rkt_none h e2 e3 q
      | true =>
        by_cases hx : (F 2).num < s
        · exact (rkt_2_b1 h e s b hp hs hr h0 hd he hx).mono fun x w' q => rkt_fresh ha (by show newerB (F 2) _ = true; rw [e0, he]; simp [hx]) q
        · have e1 : newerB (F 2) ⟨1, 2, 0, e, s, b⟩ = false := by rw [e0, he]; simp [hd, hx]
          have e2 : ktOk F ⟨1, 2, 0, e, s, b⟩ = false := by show (_ && newerB (F 2) _) = false; rw [e1]; simp
          have e3 : ktIs F ⟨1, 2, 0, e, s, b⟩ = false := by show (_ && _ && decide ((F 2).st = 2) && _) = false; rw [h0]; simp
          exact (rkt_2_d1 h e s b hp hs hr h0 hd he hx).mono fun x w' q => rkt_none h e2 e3 q
  · have e0 : newerB (F 2) ⟨1, 2, 0, e, s, b⟩ = (decide ((F 2).ep < e) || (e == (F 2).ep && decide ((F 2).num < s))) := by
      unfold newerB; rw [age_lt]; simp [h0]
    by_cases hd : (F 2).ep < e
    · exact (rkt_2_a2 h e s b hp hs hr h0 hd).mono fun x w' q => rkt_fresh ha (by show newerB (F 2) _ = true; rw [e0]; simp [hd]) q
    · cases he : (e == (F 2).ep) with
      | false =>
        have e1 : newerB (F 2) ⟨1, 2, 0, e, s, b⟩ = false := by rw [e0, he]; simp [hd]
        have e2 : ktOk F ⟨1, 2, 0, e, s, b⟩ = false := by show (_ && newerB (F 2) _) = false; rw [e1]; simp
        have e3 : ktIs F ⟨1, 2, 0, e, s, b⟩ = false := by show (_ && _ && _ && decide (orF (cmpF (F 2).ep e) (cmpF (F 2).num s) = 0)) = false; rw [age_eq, he]; simp
        exact (rkt_2_c2 h e s b hp hs hr h0 hd he).mono fun x w' q => rkt_none h e2 e3 q
      | true =>
        by_cases hx : (F 2).num < s
        · exact (rkt_2_b2 h e s b hp hs hr h0 hd he hx).mono fun x w' q => rkt_fresh ha (by show newerB (F 2) _ = true; rw [e0, he]; simp [hx]) q
        · have e1 : newerB (F 2) ⟨1, 2, 0, e, s, b⟩ = false := by rw [e0, he]; simp [hd, hx]
          have e2 : ktOk F ⟨1, 2, 0, e, s, b⟩ = false := by show (_ && newerB (F 2) _) = false; rw [e1]; simp
          cases hy : (s == (F 2).num) with
          | true =>
            have e3 : ktIs F ⟨1, 2, 0, e, s, b⟩ = true := by show (asksB _ && !newerB (F 2) _ && decide ((F 2).st = 2) && decide (orF (cmpF (F 2).ep e) (cmpF (F 2).num s) = 0)) = true; rw [age_eq, ha, e1, h0, he, hy]; rfl
            exact (rkt_2_d2 h e s b hp hs hr h0 hd he hx hy).mono fun x w' q => rkt_again h e2 e3 q
          | false =>
            have e3 : ktIs F ⟨1, 2, 0, e, s, b⟩ = false := by show (_ && _ && _ && decide (orF (cmpF (F 2).ep e) (cmpF (F 2).num s) = 0)) = false; rw [age_eq, hy]; simp
            exact (rkt_2_d3 h e s b hp hs hr h0 hd he hx hy).mono fun x w' q => rkt_none h e2 e3 q
theorem rkt_at3 {w : World} {g : Nat} {F : Nat → Tk} (h : IsRK w g F) (hF : (F 3).Wf) (e s : Int) (b : ByteArray) (hp : Fr.Wf ⟨1, 3, 0, e, s, b⟩) (hs : b.size ≤ maxLen) (hr : Fr.rightB ⟨1, 3, 0, e, s, b⟩ = true) :
    Calls Try.prog 10 #[pC g, Fr.val ⟨1, 3, 0, e, s, b⟩] w (RktPost w g F ⟨1, 3, 0, e, s, b⟩) := by
  have ha : asksB ⟨1, 3, 0, e, s, b⟩ = true := by unfold asksB; rw [hr]; rfl
  have hst := hF.1
  have hst' : (F 3).st = 0 ∨ (F 3).st = 1 ∨ (F 3).st = 2 := by omega
  rcases hst' with h0 | h0 | h0
  · exact (rkt_3_z h e s b hp hs hr h0).mono fun x w' q => rkt_fresh ha (by show newerB (F 3) _ = true; unfold newerB; rw [decide_eq_true h0]; rfl) q
  · have e0 : newerB (F 3) ⟨1, 3, 0, e, s, b⟩ = (decide ((F 3).ep < e) || (e == (F 3).ep && decide ((F 3).num < s))) := by
      unfold newerB; rw [age_lt]; simp [h0]
    by_cases hd : (F 3).ep < e
    · exact (rkt_3_a1 h e s b hp hs hr h0 hd).mono fun x w' q => rkt_fresh ha (by show newerB (F 3) _ = true; rw [e0]; simp [hd]) q
    · cases he : (e == (F 3).ep) with
      | false =>
        have e1 : newerB (F 3) ⟨1, 3, 0, e, s, b⟩ = false := by rw [e0, he]; simp [hd]
        have e2 : ktOk F ⟨1, 3, 0, e, s, b⟩ = false := by show (_ && newerB (F 3) _) = false; rw [e1]; simp
        have e3 : ktIs F ⟨1, 3, 0, e, s, b⟩ = false := by show (_ && _ && _ && decide (orF (cmpF (F 3).ep e) (cmpF (F 3).num s) = 0)) = false; rw [age_eq, he]; simp
        exact (rkt_3_c1 h e s b hp hs hr h0 hd he).mono fun x w' q => rkt_none h e2 e3 q
      | true =>
        by_cases hx : (F 3).num < s
        · exact (rkt_3_b1 h e s b hp hs hr h0 hd he hx).mono fun x w' q => rkt_fresh ha (by show newerB (F 3) _ = true; rw [e0, he]; simp [hx]) q
        · have e1 : newerB (F 3) ⟨1, 3, 0, e, s, b⟩ = false := by rw [e0, he]; simp [hd, hx]
          have e2 : ktOk F ⟨1, 3, 0, e, s, b⟩ = false := by show (_ && newerB (F 3) _) = false; rw [e1]; simp
          have e3 : ktIs F ⟨1, 3, 0, e, s, b⟩ = false := by show (_ && _ && decide ((F 3).st = 2) && _) = false; rw [h0]; simp
          exact (rkt_3_d1 h e s b hp hs hr h0 hd he hx).mono fun x w' q => rkt_none h e2 e3 q
  · have e0 : newerB (F 3) ⟨1, 3, 0, e, s, b⟩ = (decide ((F 3).ep < e) || (e == (F 3).ep && decide ((F 3).num < s))) := by
      unfold newerB; rw [age_lt]; simp [h0]
    by_cases hd : (F 3).ep < e
    · exact (rkt_3_a2 h e s b hp hs hr h0 hd).mono fun x w' q => rkt_fresh ha (by show newerB (F 3) _ = true; rw [e0]; simp [hd]) q
    · cases he : (e == (F 3).ep) with
      | false =>
        have e1 : newerB (F 3) ⟨1, 3, 0, e, s, b⟩ = false := by rw [e0, he]; simp [hd]
        have e2 : ktOk F ⟨1, 3, 0, e, s, b⟩ = false := by show (_ && newerB (F 3) _) = false; rw [e1]; simp
        have e3 : ktIs F ⟨1, 3, 0, e, s, b⟩ = false := by show (_ && _ && _ && decide (orF (cmpF (F 3).ep e) (cmpF (F 3).num s) = 0)) = false; rw [age_eq, he]; simp
        exact (rkt_3_c2 h e s b hp hs hr h0 hd he).mono fun x w' q => rkt_none h e2 e3 q
      | true =>
        by_cases hx : (F 3).num < s
        · exact (rkt_3_b2 h e s b hp hs hr h0 hd he hx).mono fun x w' q => rkt_fresh ha (by show newerB (F 3) _ = true; rw [e0, he]; simp [hx]) q
        · have e1 : newerB (F 3) ⟨1, 3, 0, e, s, b⟩ = false := by rw [e0, he]; simp [hd, hx]
          have e2 : ktOk F ⟨1, 3, 0, e, s, b⟩ = false := by show (_ && newerB (F 3) _) = false; rw [e1]; simp
          cases hy : (s == (F 3).num) with
          | true =>
            have e3 : ktIs F ⟨1, 3, 0, e, s, b⟩ = true := by show (asksB _ && !newerB (F 3) _ && decide ((F 3).st = 2) && decide (orF (cmpF (F 3).ep e) (cmpF (F 3).num s) = 0)) = true; rw [age_eq, ha, e1, h0, he, hy]; rfl
            exact (rkt_3_d2 h e s b hp hs hr h0 hd he hx hy).mono fun x w' q => rkt_again h e2 e3 q
          | false =>
            have e3 : ktIs F ⟨1, 3, 0, e, s, b⟩ = false := by show (_ && _ && _ && decide (orF (cmpF (F 3).ep e) (cmpF (F 3).num s) = 0)) = false; rw [age_eq, hy]; simp
            exact (rkt_3_d3 h e s b hp hs hr h0 hd he hx hy).mono fun x w' q => rkt_none h e2 e3 q
theorem rkt_c {w : World} {g : Nat} {F : Nat → Tk} (h : IsRK w g F) (hF : ∀ i, (F i).Wf) (p : Fr.Pk) (hp : Fr.Wf p) (hs : p.b.size ≤ maxLen) :
    Calls Try.prog 10 #[pC g, Fr.val p] w (RktPost w g F p) := by
  obtain ⟨k, f, t, e, s, b⟩ := p
  cases hr : Fr.rightB ⟨k, f, t, e, s, b⟩ with
  | false =>
    have ha : asksB ⟨k, f, t, e, s, b⟩ = false := by unfold asksB; rw [hr]; simp
    exact (rkt_r g k f t e s b w hp hs hr).mono fun x w' q => rkt_none h (by unfold ktOk; rw [ha]; rfl) (by unfold ktIs; rw [ha]; rfl) q
  | true =>
    by_cases hk : k = 1
    · subst hk
      have hr' := hr
      unfold Fr.rightB at hr'
      simp at hr'
      obtain ⟨hp1, hp2, hp3, hp4, hp5⟩ := hp
      simp only at hp2
      have ht : t = 0 := by omega
      have hf : f = 1 ∨ f = 2 ∨ f = 3 := by omega
      subst ht
      rcases hf with rfl | rfl | rfl
      · exact rkt_at1 h (hF 1) e s b ⟨hp1, hp2, hp3, hp4, hp5⟩ hs hr
      · exact rkt_at2 h (hF 2) e s b ⟨hp1, hp2, hp3, hp4, hp5⟩ hs hr
      · exact rkt_at3 h (hF 3) e s b ⟨hp1, hp2, hp3, hp4, hp5⟩ hs hr
    · have hb : (k != 1) = true := by rw [bne_iff_ne]; exact hk
      have ha : asksB ⟨k, f, t, e, s, b⟩ = false := by unfold asksB; simp [hk]
      exact (rkt_k g k f t e s b w hp hs hr hb).mono fun x w' q => rkt_none h (by unfold ktOk; rw [ha]; rfl) (by unfold ktIs; rw [ha]; rfl) q
end Go.Proofs.Ytmoeljieafninaa
