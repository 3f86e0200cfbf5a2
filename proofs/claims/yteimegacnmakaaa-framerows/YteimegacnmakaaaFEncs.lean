/-
  Packets' bytes one behind the other: which packets are cut off them, also where the bytes end early; rows of numbers.
-/
import Derived.Test.YteimegacnmakaaaFSame
namespace Go.Proofs.Yteimegacnmakaaa
open Go.RowKit Go.ChangeShapes Go.WideShapes Go.ChangeAt
set_option linter.unusedVariables false
set_option linter.unusedSimpArgs false
/-- Packets' bytes, one behind the other. -/
def encAll (ps : List Fr.Pk) : List Int := ps.flatMap Fr.enc
theorem encAll_len (ps : List Fr.Pk) : (encAll ps).length = encLen ps := by
  induction ps with
  | nil => rfl
  | cons p ps ih => unfold encAll encLen at *; simp [Fr.enc_length, ih]
theorem encAll_snoc (ps : List Fr.Pk) (p : Fr.Pk) : encAll (ps ++ [p]) = encAll ps ++ Fr.enc p := by unfold encAll; simp
theorem cuts_eq {zs r : List Int} {ps : List Fr.Pk} (h : Cuts zs ps r) : zs = encAll ps ++ r ∧ ∀ p ∈ ps, Fr.Wf p ∧ Fr.rightB p = true := by
  refine h (fun ps r => zs = encAll ps ++ r ∧ ∀ p ∈ ps, Fr.Wf p ∧ Fr.rightB p = true) ⟨rfl, fun p hp => by cases hp⟩ (fun ps p r ih hp => ?_)
  obtain ⟨h1, h2, q, e⟩ := hp
  obtain ⟨i1, i2⟩ := ih
  refine ⟨?_, fun x hx => ?_⟩
  · rw [encAll_snoc, i1, e, ← Fr.enc_length, List.drop_left, List.append_assoc]
  · rcases List.mem_append.1 hx with h9 | h9
    · exact i2 x h9
    · rw [List.mem_singleton.1 h9]; exact ⟨h1, h2⟩
theorem rows_one (ps qs : List Fr.Pk) (r t : List Int) (hp : ∀ p ∈ ps, Fr.Wf p ∧ Fr.rightB p = true) (hq : ∀ p ∈ qs, Fr.Wf p ∧ Fr.rightB p = true) (hr : ∀ p, ¬ Fr.Begins p r) (ht : ∀ p, ¬ Fr.Begins p t)
    (e : encAll ps ++ r = encAll qs ++ t) : ps = qs ∧ r = t := by
  induction ps generalizing qs with
  | nil =>
    cases qs with
    | nil => exact ⟨rfl, by simpa [encAll] using e⟩
    | cons q qs =>
      exfalso
      refine hr q ⟨(hq q (by simp)).1, (hq q (by simp)).2, encAll qs ++ t, ?_⟩
      simpa [encAll] using e
  | cons p ps ih =>
    cases qs with
    | nil =>
      exfalso
      refine ht p ⟨(hp p (by simp)).1, (hp p (by simp)).2, encAll ps ++ r, ?_⟩
      simpa [encAll] using e.symm
    | cons q qs =>
      have e1 : Fr.enc p ++ (encAll ps ++ r) = Fr.enc q ++ (encAll qs ++ t) := by simpa [encAll] using e
      have e2 : p = q := Fr.begins_one (zs := Fr.enc p ++ (encAll ps ++ r)) ⟨(hp p (by simp)).1, (hp p (by simp)).2, _, rfl⟩ ⟨(hq q (by simp)).1, (hq q (by simp)).2, _, e1⟩
      subst e2
      obtain ⟨i1, i2⟩ := ih qs (fun x hx => hp x (by simp [hx])) (fun x hx => hq x (by simp [hx])) (List.append_cancel_left e1)
      exact ⟨by rw [i1], i2⟩
theorem no_begins_nil (p : Fr.Pk) : ¬ Fr.Begins p [] := fun h => by have := (begins_long h).1; simp at this
theorem own_len {w : World} {base e size n : Nat} {v : Value} {xs : List Value} (h : w.ownsRow base e size v n xs) : ∃ a cap, v = .slice a n cap := by
  rcases h.2 with ⟨hv, hn⟩ | ⟨g, cap, cur, hv, _⟩
  · exact ⟨none, 0, by rw [hv, hn]⟩
  · exact ⟨_, _, hv⟩
theorem own_later {w w' : World} {base : Nat} {e : TypeId} {size : Nat} {v : Value} {n : Nat} {xs : List Value} (h : w.ownsRow base e size v n xs) (hb : Below w.heap.size w w') : w'.ownsRow base e size v n xs := by
  obtain ⟨h1, h2⟩ := h
  refine ⟨h1, ?_⟩
  rcases h2 with h2 | ⟨g, cap, cur, a, b, c, d⟩
  · exact .inl h2
  · exact .inr ⟨g, cap, cur, a, b, by rw [hb.block g (lt_of_blk c)]; exact c, d⟩
theorem encAll_app (ps qs : List Fr.Pk) : encAll (ps ++ qs) = encAll ps ++ encAll qs := by unfold encAll; simp
theorem encLen_take (ps : List Fr.Pk) (m : Nat) (h : m < ps.length) : encLen (ps.take (m + 1)) = encLen (ps.take m) + (19 + ps[m].b.size) := by
  rw [List.take_succ_eq_append_getElem h, encLen_snoc]
theorem encLen_le (ps : List Fr.Pk) (m : Nat) : encLen (ps.take m) ≤ encLen ps := by
  have : encLen ps = encLen (ps.take m) + encLen (ps.drop m) := by
    unfold encLen; rw [← List.sum_append, ← List.map_append, List.take_append_drop]
  omega
/-- Where packets' bytes end early, just the packets that are whole are cut off. -/
theorem cut_rows (ps : List Fr.Pk) (hp : ∀ p ∈ ps, Fr.Wf p ∧ Fr.rightB p = true) (m n : Nat) (hm : m ≤ ps.length) (h1 : encLen (ps.take m) ≤ n) (h2 : m < ps.length → n < encLen (ps.take (m + 1))) (h3 : n ≤ encLen ps)
    {qs : List Fr.Pk} {r : List Int} (hC : Cuts ((encAll ps).take n) qs r) (hN : ∀ p, ¬ Fr.Begins p r) : qs = ps.take m := by
  obtain ⟨e1, e2⟩ := cuts_eq hC
  have key : ∃ t, (encAll ps).take n = encAll (ps.take m) ++ t ∧ ∀ p, ¬ Fr.Begins p t := by
    have e3 : encAll ps = encAll (ps.take m) ++ encAll (ps.drop m) := by rw [← encAll_app, List.take_append_drop]
    refine ⟨(encAll (ps.drop m)).take (n - encLen (ps.take m)), ?_, ?_⟩
    · rw [e3, List.take_append, encAll_len, List.take_of_length_le (by rw [encAll_len]; exact h1)]
    · intro q hq
      by_cases hml : m < ps.length
      · have e4 : ps.drop m = ps[m] :: ps.drop (m + 1) := List.drop_eq_getElem_cons hml
        have hw := hp ps[m] (List.getElem_mem hml)
        have h5 := h2 hml
        rw [encLen_take ps m hml] at h5
        have e5 : encAll (ps.drop m) = Fr.enc ps[m] ++ encAll (ps.drop (m + 1)) := by rw [e4]; show List.flatMap Fr.enc (ps[m] :: ps.drop (m + 1)) = _; rw [List.flatMap_cons]; rfl
        rw [e5, List.take_append_of_le_length (by rw [Fr.enc_length]; omega)] at hq
        obtain ⟨q1, q2, s, e6⟩ := hq
        have hb : Fr.Begins q (Fr.enc ps[m]) := ⟨q1, q2, s ++ (Fr.enc ps[m]).drop (n - encLen (ps.take m)), by rw [← List.append_assoc, ← e6, List.take_append_drop]⟩
        have e7 := Fr.begins_one hb ⟨hw.1, hw.2, [], by simp⟩
        subst e7
        have h8 := congrArg List.length e6
        rw [List.length_take, List.length_append, Fr.enc_length] at h8
        omega
      · have : ps.drop m = [] := List.drop_eq_nil_of_le (by omega)
        rw [this] at hq
        have := (begins_long hq).1
        simp [encAll] at this
  obtain ⟨t, e3, ht⟩ := key
  exact ((rows_one (ps.take m) qs t r (fun p h => hp p (List.mem_of_mem_take h)) e2 ht hN (by rw [← e3]; exact e1)).1).symm
def intV (x : Int) : Value := .int .i64 x
def endsOf (ps : List Fr.Pk) : List Int := (List.range (ps.length + 1)).map fun j => (encLen (ps.take j) : Int)
theorem endsOf_len (ps : List Fr.Pk) : (endsOf ps).length = ps.length + 1 := by unfold endsOf; simp
theorem endsOf_get (ps : List Fr.Pk) (m : Nat) (h : m ≤ ps.length) : (endsOf ps)[m]? = some (encLen (ps.take m) : Int) := by
  unfold endsOf; rw [List.getElem?_map, List.getElem?_range (by omega)]; rfl
theorem endsOf_snoc (ps : List Fr.Pk) (p : Fr.Pk) : endsOf (ps ++ [p]) = endsOf ps ++ [(encLen (ps ++ [p]) : Int)] := by
  unfold endsOf
  rw [List.length_append, List.length_singleton, List.range_succ, List.map_append]
  congr 1
  · apply List.map_congr_left
    intro j hj
    rw [List.mem_range] at hj
    rw [List.take_append_of_le_length (by omega)]
  · rw [List.map_singleton, List.take_of_length_le (by simp)]
theorem info_partsI : ∃ i : TypeInfo, Try.prog.info? 3 = some i ∧ i.zero = some (.int .i64 0) ∧ i.size = 1 ∧ i.bytes = 8 := by
  have h : (Try.prog.info? 3).map (fun i => (i.zero, i.size, i.bytes)) = some (some (.int .i64 0), 1, 8) := by kernel_rfl
  cases hi : Try.prog.info? 3 with
  | none => rw [hi] at h; cases h
  | some i =>
    rw [hi] at h
    simp at h
    exact ⟨i, rfl, h.1, h.2.1, h.2.2⟩
/-- Two rows lie apart. -/
def Dj (u v : Value) : Prop := ∀ k, u.ownBlock = some k → v.ownBlock ≠ some k
theorem Dj.symm {u v : Value} (h : Dj u v) : Dj v u := fun k h1 h2 => h k h2 h1
theorem row_kept {w w' : World} {base e s n : Nat} {v u : Value} {xs : List Value} (h : w.ownsRow base e s v n xs) (hg : w.grownBy w' u.ownBlock) (hd : Dj v u) : w'.ownsRow base e s v n xs := by
  refine ⟨h.1, ?_⟩
  rcases h.2 with h2 | ⟨q, cap, cur, rfl, e2, e3, e4⟩
  · exact .inl h2
  · exact .inr ⟨q, cap, cur, rfl, e2, by rw [hg.block q (lt_of_blk e3) (fun e => hd q rfl e.symm)]; exact e3, e4⟩
theorem dj_new {w : World} {base e s n : Nat} {v v' u : Value} {xs : List Value} {H : Nat} (hu : w.ownsRow base e s u n xs) (hH : w.heap.size ≤ H) (hd : Dj v u) (hv : v'.ownBlock = v.ownBlock ∨ v'.ownBlock = some H) : Dj v' u := by
  intro k h1 h2
  rcases hv with hv | hv
  · rw [hv] at h1; exact hd k h1 h2
  · rw [hv] at h1
    cases h1
    have := (hu.lt _ h2).2
    omega
theorem int_cell {w : World} {base : Nat} {v : Value} {xs : List Int} (h : w.ownsRow base 3 1 v xs.length (xs.map intV)) (hp : 0 < xs.length) : ∃ g cap, v = .slice (some ⟨g, 0, none⟩) xs.length cap ∧ ∀ i x, xs[i]? = some x → w.cell? ⟨g, i, none⟩ = some (.int .i64 x) := by
  rcases h.2 with ⟨_, hn⟩ | ⟨g, cap, cur, rfl, hb, hg, hn, hc, hs, ht⟩
  · omega
  · refine ⟨g, cap, rfl, fun i x hx => ?_⟩
    have hi : i < xs.length := (List.getElem?_eq_some_iff.1 hx).1
    rw [cell_of_row w g i cur _ _ hg]
    have e : (cur.toList.take (xs.length * 1))[i]? = (xs.map intV)[i]? := by rw [ht]
    rw [List.getElem?_take, if_pos (by omega), List.getElem?_map, hx] at e
    simpa [intV] using e
end Go.Proofs.Yteimegacnmakaaa
