/-
  Snapshots, plainly: their bytes, what bytes say; which nodes are a tree does not hang on where they lie.
-/
import Derived.Test.YtbgninmkglgfeaaTR2
import Derived.Test.YtbgninmkglgfeaaRBp
import Derived.Test.YtbgninmkglgfeaaRNr
namespace Go.Proofs.Ytbgninmkglgfeaa
open Go.RowKit Go.ChangeShapes Go.WideShapes Go.ChangeAt Go.Maps
set_option linter.unusedVariables false
set_option linter.unusedSimpArgs false
set_option maxRecDepth 100000
/-- A node without where it lies. -/
def Nd.er (x : Nd) : Nd := x.lie none 0 none 0
theorem er_lie (x : Nd) (da : Option Addr) (dc : Nat) (ka : Option Addr) (kc : Nat) : (x.lie da dc ka kc).er = x.er := rfl
theorem er_er (x : Nd) : x.er.er = x.er := rfl
theorem er_no : Nd.no.er = Nd.no := rfl
theorem nodeB_er (x : Nd) : nodeB x.er = nodeB x := rfl
theorem nodeOk_er (x : Nd) : nodeOk x.er = nodeOk x := rfl
theorem er_lie2 {x y : Nd} (h : x.er = y.er) : x = y.lie x.da x.dc x.ka x.kc := by
  cases x; cases y
  simp only [Nd.er, Nd.lie, Nd.mk.injEq] at h ⊢
  simp_all
theorem getD_er (l : List Nd) (i : Nat) : (l.map Nd.er).getD i Nd.no = (l.getD i Nd.no).er := by
  rcases Nat.lt_or_ge i l.length with h | h
  · simp [List.getD, h]
  · simp [List.getD, h, er_no]
theorem plTo_er (l : List Nd) : ∀ m, plTo (l.map Nd.er) m = plTo l m
  | 0 => rfl
  | m + 1 => by
    funext f
    show updF (plTo (l.map Nd.er) m) ((l.map Nd.er).getD m Nd.no).fid (some m) f = updF (plTo l m) (l.getD m Nd.no).fid (some m) f
    rw [plTo_er l m, getD_er]; rfl
theorem N0_er (l : List Nd) (f : Int) : N0 (l.map Nd.er) f = (N0 l f).map fun p => (p.1, p.2.er) := by
  unfold N0 ndF
  rw [List.length_map, plTo_er]
  cases plTo l l.length f with
  | none => rfl
  | some i => simp only [Option.map_some, getD_er]
theorem isDir_er (l : List Nd) (g : Int) : isDirT (N0 (l.map Nd.er)) g = isDirT (N0 l) g := by
  unfold isDirT
  rw [N0_er]
  cases N0 l g with
  | none => rfl
  | some p => rfl
theorem edge_er (l : List Nd) (f g : Int) : Edge (N0 (l.map Nd.er)) f g ↔ Edge (N0 l) f g := by
  constructor
  · rintro ⟨p, x, i, h1, h2, h3, h4⟩
    rw [N0_er] at h1
    cases hN : N0 l f with
    | none => rw [hN] at h1; cases h1
    | some q =>
      rw [hN] at h1
      cases h1
      exact ⟨q.1, q.2, i, hN, h2, h3, by rw [isDir_er] at h4; exact h4⟩
  · rintro ⟨p, x, i, h1, h2, h3, h4⟩
    exact ⟨p, x.er, i, by rw [N0_er, h1]; rfl, h2, h3, by rw [isDir_er]; exact h4⟩
theorem ring_er (l : List Nd) : RingN (N0 (l.map Nd.er)) ↔ RingN (N0 l) := by
  have e : ∀ G, IsPar (N0 (l.map Nd.er)) G ↔ IsPar (N0 l) G := fun G => by
    unfold IsPar
    constructor
    · intro h f g; rw [h f g, edge_er]
    · intro h f g; rw [h f g, edge_er]
  unfold RingN
  simp only [e]
theorem haveTo_er (l : List Nd) (ks : List Kd) : ∀ n, haveTo (N0 (l.map Nd.er)) ks n = haveTo (N0 l) ks n
  | 0 => rfl
  | n + 1 => by
    simp only [haveTo, haveTo_er l ks n, N0_er]
    cases N0 l (ks.getD n Kd.no).fid <;> rfl
theorem upTo_er (l : List Nd) : ∀ m, upTo (l.map Nd.er) m = upTo l m
  | 0 => rfl
  | m + 1 => by
    simp only [upTo, upTo_er l m, getD_er, lastFd]
    rfl
theorem kfs_er (l : List Nd) : kfs (l.map Nd.er) = kfs l := by
  unfold kfs
  rw [List.flatMap_map]
  rfl
theorem linksTo_er (P : List Int) (l : List Nd) : ∀ m, linksTo P (l.map Nd.er) m = linksTo P l m
  | 0 => rfl
  | m + 1 => by
    simp only [linksTo, linksTo_er P l m, getD_er]
    rfl
/-- Which nodes are a tree does not hang on where they lie. -/
theorem right_er (l : List Nd) : RightP (l.map Nd.er) ↔ RightP l := by
  unfold RightP fidsUp linksB
  simp only [List.length_map, upTo_er, isDir_er, ring_er, kfs_er, linksTo_er]
  have e : (∀ x ∈ l.map Nd.er, aloneB x = true ∧ haveB (N0 (l.map Nd.er)) x.ks = true) ↔ (∀ x ∈ l, aloneB x = true ∧ haveB (N0 l) x.ks = true) := by
    constructor
    · intro h x hx
      have := h x.er (List.mem_map.2 ⟨x, hx, rfl⟩)
      unfold haveB at this ⊢
      rw [haveTo_er] at this
      exact this
    · intro h x hx
      obtain ⟨y, hy, rfl⟩ := List.mem_map.1 hx
      have := h y hy
      unfold haveB at this ⊢
      rw [haveTo_er]
      exact this
  rw [e]
theorem upTo_pos {l : List Nd} : ∀ {m : Nat}, upTo l m = true → ∀ i, i < m → lastFd l i < (l.getD i Nd.no).fid
  | 0, _, i, hi => by omega
  | m + 1, h, i, hi => by
    unfold upTo at h
    rw [Bool.and_eq_true] at h
    by_cases e : i = m
    · subst e; exact of_decide_eq_true h.2
    · exact upTo_pos h.1 i (by omega)
theorem upTo_pos2 {l : List Nd} {m : Nat} (h : upTo l m = true) : ∀ i, i < m → 0 < (l.getD i Nd.no).fid
  | 0, hi => by have := upTo_pos h 0 hi; simpa [lastFd] using this
  | i + 1, hi => by
    have h1 := upTo_pos h (i + 1) hi
    have h2 := upTo_pos2 h i (by omega)
    rw [lastFd_next] at h1
    omega
theorem kidsTo_of {N : Tab} {l : List Kd} (hp : ∀ f p, N f = some p → f ≠ 0) : ∀ {m : Nat}, namesTo l m = true → haveTo N l m = true → kidsTo l m = true
  | 0, _, _ => rfl
  | m + 1, h, h2 => by
    unfold namesTo at h
    unfold haveTo at h2
    rw [Bool.and_eq_true] at h h2
    unfold kidsTo
    rw [kidsTo_of hp h.1 h2.1, Bool.true_and]
    unfold kOk
    have h3 := h.2
    unfold nmK at h3
    rw [h3, Bool.true_and]
    have h4 := h2.2
    rw [Bool.and_eq_true] at h4
    cases hN : N (l.getD m Kd.no).fid with
    | none => rw [hN] at h4; simp at h4
    | some p => have := hp _ _ hN; simpa using this
/-- A tree's nodes are right by themselves. -/
theorem right_ok {l : List Nd} (h : RightP l) : ∀ x ∈ l, nodeOk x = true := by
  obtain ⟨h1, h2, h3, h4, h5, h6⟩ := h
  intro x hx
  obtain ⟨i, hi, rfl⟩ := List.getElem_of_mem hx
  have hg : l.getD i Nd.no = l[i] := by simp [List.getD, hi]
  have hf := upTo_pos2 h2 i hi
  rw [hg] at hf
  obtain ⟨ha, hh⟩ := h4 _ hx
  have hp : ∀ f p, N0 l f = some p → f ≠ 0 := fun f p e => by
    unfold N0 ndF at e
    cases hq : plTo l l.length f with
    | none => rw [hq] at e; cases e
    | some j =>
      obtain ⟨q1, q2⟩ := plTo_lt l _ hq
      have := upTo_pos2 h2 j q1
      omega
  generalize l[i] = y at *
  unfold nodeOk
  have f0 : (y.fid == 0) = false := beq_eq_false_iff_ne.2 (by omega)
  rw [f0]
  have h12 := alone_few ha
  unfold aloneB at ha
  cases q : (y.k == 1 || y.k == 3) with
  | true =>
    rw [q] at ha
    simp only [cond_true, Bool.and_eq_true, decide_eq_true_eq] at ha ⊢
    simp [ha.2]
    omega
  | false =>
    rw [q] at ha
    cases q2 : (y.k == 2) with
    | true =>
      rw [q2] at ha
      simp only [cond_false, cond_true, Bool.and_eq_true, decide_eq_true_eq] at ha ⊢
      have := kidsTo_of hp ha.2.2 hh
      have hk : kidsOk y.ks = true := this
      rw [hk]
      simp [ha.1]
      omega
    | false => rw [q2] at ha; cases ha
theorem kidP_kidB (x : Kd) (rest : List Int) (h : x.Wf) (hs : x.nm.size ≤ 255) : kidP (kidB x ++ rest) = some (x, rest) := by
  unfold kidP kidB
  rw [List.append_assoc, shortP_tx x.nm _ hs]
  simp only
  rw [numP_be x.fid 4 _ h.2.1 (by have := h.2.2; simpa using this)]
  simp only [Fr.tx_bs]
theorem kidsN_kidsB : ∀ (l : List Kd) (rest : List Int), (∀ x ∈ l, x.Wf ∧ x.nm.size ≤ 255) → kidsN l.length (kidsB l ++ rest) = some (l, rest)
  | [], rest, _ => rfl
  | x :: l, rest, h => by
    have e : kidsB (x :: l) ++ rest = kidB x ++ (kidsB l ++ rest) := by unfold kidsB; rw [List.flatMap_cons, List.append_assoc]
    rw [e, List.length_cons, kidsN_step, kidP_kidB x _ (h x (by simp)).1 (h x (by simp)).2]
    simp only
    rw [kidsN_kidsB l rest (fun y hy => h y (by simp [hy]))]
/-- WHAT IS READ OF A NODE's BYTES IS THE NODE. -/
theorem nodeP_nodeB {x : Nd} (rest : List Int) (hw : x.Wf) (ho : nodeOk x = true) : nodeP (nodeB x ++ rest) = some (x.er, rest) := by
  obtain ⟨h1, h2, h3, h4, h5, h6, h7, h8⟩ := hw
  have hys : Fr.bs (Fr.tx x.zs) = x.zs := Fr.bs_tx x.zs (byt_of h5)
  have h12 : x.ks.length ≤ 12 := by
    unfold nodeOk at ho
    simp only [Bool.and_eq_true, Bool.not_eq_true', Bool.or_eq_false_iff, decide_eq_false_iff_not] at ho
    omega
  unfold nodeP nodeB
  simp only [List.append_assoc]
  rw [numP_be x.fid 4 _ h1.1 (by simpa using h1.2)]
  simp only
  rw [numP_be x.k 1 _ h2.1 (by simpa using h2.2)]
  simp only
  rw [numP_be x.md 2 _ h3.1 (by simpa using h3.2)]
  simp only
  rw [numP_be x.ln 2 _ h4.1 (by simpa using h4.2)]
  simp only
  rw [shortP_tx (Fr.tx x.zs) _ (by rw [Fr.tx_size]; exact h6), hys]
  simp only
  unfold kidsP
  rw [numP_be (x.ks.length : Int) 1 _ (by omega) (by simp; omega)]
  simp only [Int.toNat_natCast]
  rw [if_pos (by omega), kidsN_kidsB x.ks rest h7]
  simp only
  rw [if_pos (show nodeOk ⟨x.fid, x.k, x.md, x.ln, none, 0, x.zs, none, 0, x.ks⟩ = true from ho)]
  rfl
theorem nodeAll_nodeB {x : Nd} (hw : x.Wf) (ho : nodeOk x = true) : nodeAll (nodeB x) = some x.er := by
  have := nodeP_nodeB [] hw ho
  rw [List.append_nil] at this
  unfold nodeAll
  rw [this]
theorem kidP_back {z t : List Int} {x : Kd} (h : Byt z) (hp : kidP z = some (x, t)) : z = kidB x ++ t := by
  unfold kidP at hp
  rcases h0 : shortP z with _ | ⟨ys, z1⟩
  · rw [h0] at hp; cases hp
  rw [h0] at hp; simp only at hp
  have e0 := shortP_back h h0
  have i1 : Byt z1 := by rw [e0] at h; exact h.tail
  rcases h1 : numP 4 z1 with _ | ⟨f, z2⟩
  · rw [h1] at hp; cases hp
  rw [h1] at hp
  simp only [Option.some.injEq, Prod.mk.injEq] at hp
  have e1 := numP_back i1 h1
  obtain ⟨rfl, rfl⟩ := hp
  unfold kidB
  rw [List.append_assoc, ← e1, ← e0]
theorem kidsN_back : ∀ (n : Nat) {z t : List Int} {l : List Kd}, Byt z → kidsN n z = some (l, t) → z = kidsB l ++ t ∧ l.length = n
  | 0, z, t, l, h, hp => by
    simp only [kidsN, Option.some.injEq, Prod.mk.injEq] at hp
    obtain ⟨rfl, rfl⟩ := hp
    exact ⟨rfl, rfl⟩
  | n + 1, z, t, l, h, hp => by
    rw [kidsN_step] at hp
    rcases h0 : kidP z with _ | ⟨x, z1⟩
    · rw [h0] at hp; cases hp
    rw [h0] at hp; simp only at hp
    have e0 := kidP_back h h0
    have i1 : Byt z1 := by rw [e0] at h; exact h.tail
    rcases h1 : kidsN n z1 with _ | ⟨l', u⟩
    · rw [h1] at hp; cases hp
    rw [h1] at hp; simp only [Option.some.injEq, Prod.mk.injEq] at hp
    obtain ⟨rfl, rfl⟩ := hp
    obtain ⟨e2, n2⟩ := kidsN_back n i1 h1
    have e3 : kidsB (x :: l') = kidB x ++ kidsB l' := by unfold kidsB; rw [List.flatMap_cons]
    exact ⟨by rw [e3, List.append_assoc, ← e2, ← e0], by rw [List.length_cons, n2]⟩
/-- WHAT IS WRITTEN OF A NODE THAT WAS READ ARE ITS BYTES. -/
theorem nodeP_back {z t : List Int} {x : Nd} (hi : InB z) (hp : nodeP z = some (x, t)) : z = nodeB x ++ t ∧ nodeOk x = true ∧ x.er = x ∧ x.Wf ∧ InB t := by
  have h := byt_of hi
  unfold nodeP at hp
  rcases h0 : numP 4 z with _ | ⟨fid, z1⟩
  · rw [h0] at hp; cases hp
  rw [h0] at hp; simp only at hp
  have e0 := numP_back h h0
  have i1 : Byt z1 := by rw [e0] at h; exact h.tail
  rcases h1 : numP 1 z1 with _ | ⟨k, z2⟩
  · rw [h1] at hp; cases hp
  rw [h1] at hp; simp only at hp
  have e1 := numP_back i1 h1
  have i2 : Byt z2 := by rw [e1] at i1; exact i1.tail
  rcases h2 : numP 2 z2 with _ | ⟨md, z3⟩
  · rw [h2] at hp; cases hp
  rw [h2] at hp; simp only at hp
  have e2 := numP_back i2 h2
  have i3 : Byt z3 := by rw [e2] at i2; exact i2.tail
  rcases h3 : numP 2 z3 with _ | ⟨ln, z4⟩
  · rw [h3] at hp; cases hp
  rw [h3] at hp; simp only at hp
  have e3 := numP_back i3 h3
  have i4 : Byt z4 := by rw [e3] at i3; exact i3.tail
  rcases h4 : shortP z4 with _ | ⟨ys, z5⟩
  · rw [h4] at hp; cases hp
  rw [h4] at hp; simp only at hp
  have e4 := shortP_back i4 h4
  have i5 : Byt z5 := by rw [e4] at i4; exact i4.tail
  rcases h5 : kidsP z5 with _ | ⟨ks, z6⟩
  · rw [h5] at hp; cases hp
  rw [h5] at hp; simp only at hp
  have hwf := node_wf hi h0 h1 h2 h3 h4 h5 none 0 none 0
  have hin : InB t ∨ True := .inr trivial
  cases hr : nodeOk ⟨fid, k, md, ln, none, 0, ys, none, 0, ks⟩ with
  | false => rw [hr] at hp; simp at hp
  | true =>
    rw [hr, if_pos rfl] at hp
    simp only [Option.some.injEq, Prod.mk.injEq] at hp
    obtain ⟨rfl, rfl⟩ := hp
    have j5 : InB z5 := (shortP_in (numP_in (numP_in (numP_in (numP_in hi h0).2 h1).2 h2).2 h3).2 h4).2
    refine ⟨?_, hr, rfl, hwf, (kidsP_in j5 h5).2.1⟩
    unfold kidsP at h5
    rcases h6 : numP 1 z5 with _ | ⟨m, z7⟩
    · rw [h6] at h5; cases h5
    rw [h6] at h5; simp only at h5
    have e6 := numP_back i5 h6
    have i7 : Byt z7 := by rw [e6] at i5; exact i5.tail
    obtain ⟨⟨b0, _⟩, _⟩ := numP_in j5 h6
    split at h5
    · obtain ⟨e7, n7⟩ := kidsN_back _ i7 h5
      have hm : (ks.length : Int) = m := by omega
      unfold nodeB
      simp only [List.append_assoc]
      rw [hm, ← e7, ← e6, ← e4, ← e3, ← e2, ← e1, ← e0]
    · cases h5
theorem nodeAll_back {z : List Int} {x : Nd} (hi : InB z) (hp : nodeAll z = some x) : nodeB x = z ∧ nodeOk x = true ∧ x.er = x ∧ x.Wf := by
  unfold nodeAll at hp
  split at hp
  · rename_i y e
    cases hp
    obtain ⟨h1, h2, h3, h4, _⟩ := nodeP_back hi e
    rw [List.append_nil] at h1
    exact ⟨h1.symm, h2, h3, h4⟩
  · cases hp
end Go.Proofs.Ytbgninmkglgfeaa
