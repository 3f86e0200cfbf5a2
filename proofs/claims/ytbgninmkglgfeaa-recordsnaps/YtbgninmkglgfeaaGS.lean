/-
  Snapshots, plainly: their bytes, what bytes say; which nodes are a tree does not hang on where they lie.
  Stamps in memory; rightStamp, EqualFunc, rightSnapshot of the package record; what bytes say as stamps, as a snapshot, plainly.
  A snapshot's bytes: putStamp, putMeasured, putList, putSnapshot, written, Snapshot of the package record. (Written by gen_snapw.py.)
  A snapshot's bytes: putList, putSnapshot, written, Snapshot of the package record.
-/
import Derived.Test.YtbgninmkglgfeaaGT
import Derived.Test.YtbgninmkglgfeaaRBp
import Derived.Test.YtbgninmkglgfeaaRNr
import Derived.Maps.AppendAt
namespace Go.Proofs.Ytbgninmkglgfeaa
open Go.RowKit Go.ChangeShapes Go.WideShapes Go.ChangeAt Go.Maps
set_option linter.unusedVariables false
set_option linter.unusedSimpArgs false
set_option maxRecDepth 100000
/-- A node without where it lies. -/
def Nd.er (x : Nd) : Nd := x.lie none 0 none 0
theorem er_lie (x : Nd) (da : Option Addr) (dc : Nat) (ka : Option Addr) (kc : Nat) : (x.lie da dc ka kc).er = x.er := rfl
theorem er_er (x : Nd) : x.er.er = x.er := rfl
theorem er_no : Nd.no.er = Nd.no := rfl
theorem nodeB_er (x : Nd) : nodeB x.er = nodeB x := rfl
theorem nodeOk_er (x : Nd) : nodeOk x.er = nodeOk x := rfl
theorem er_lie2 {x y : Nd} (h : x.er = y.er) : x = y.lie x.da x.dc x.ka x.kc := by
  cases x; cases y
  simp only [Nd.er, Nd.lie, Nd.mk.injEq] at h ⊢
  simp_all
theorem getD_er (l : List Nd) (i : Nat) : (l.map Nd.er).getD i Nd.no = (l.getD i Nd.no).er := by
  rcases Nat.lt_or_ge i l.length with h | h
  · simp [List.getD, h]
  · simp [List.getD, h, er_no]
theorem plTo_er (l : List Nd) : ∀ m, plTo (l.map Nd.er) m = plTo l m
  | 0 => rfl
  | m + 1 => by
    funext f
    show updF (plTo (l.map Nd.er) m) ((l.map Nd.er).getD m Nd.no).fid (some m) f = updF (plTo l m) (l.getD m Nd.no).fid (some m) f
    rw [plTo_er l m, getD_er]; rfl
theorem N0_er (l : List Nd) (f : Int) : N0 (l.map Nd.er) f = (N0 l f).map fun p => (p.1, p.2.er) := by
  unfold N0 ndF
  rw [List.length_map, plTo_er]
  cases plTo l l.length f with
  | none => rfl
  | some i => simp only [Option.map_some, getD_er]
theorem isDir_er (l : List Nd) (g : Int) : isDirT (N0 (l.map Nd.er)) g = isDirT (N0 l) g := by
  unfold isDirT
  rw [N0_er]
  cases N0 l g with
  | none => rfl
  | some p => rfl
theorem edge_er (l : List Nd) (f g : Int) : Edge (N0 (l.map Nd.er)) f g ↔ Edge (N0 l) f g := by
  constructor
  · rintro ⟨p, x, i, h1, h2, h3, h4⟩
    rw [N0_er] at h1
    cases hN : N0 l f with
    | none => rw [hN] at h1; cases h1
    | some q =>
      rw [hN] at h1
      cases h1
      exact ⟨q.1, q.2, i, hN, h2, h3, by rw [isDir_er] at h4; exact h4⟩
  · rintro ⟨p, x, i, h1, h2, h3, h4⟩
    exact ⟨p, x.er, i, by rw [N0_er, h1]; rfl, h2, h3, by rw [isDir_er]; exact h4⟩
theorem ring_er (l : List Nd) : RingN (N0 (l.map Nd.er)) ↔ RingN (N0 l) := by
  have e : ∀ G, IsPar (N0 (l.map Nd.er)) G ↔ IsPar (N0 l) G := fun G => by
    unfold IsPar
    constructor
    · intro h f g; rw [h f g, edge_er]
    · intro h f g; rw [h f g, edge_er]
  unfold RingN
  simp only [e]
theorem haveTo_er (l : List Nd) (ks : List Kd) : ∀ n, haveTo (N0 (l.map Nd.er)) ks n = haveTo (N0 l) ks n
  | 0 => rfl
  | n + 1 => by
    simp only [haveTo, haveTo_er l ks n, N0_er]
    cases N0 l (ks.getD n Kd.no).fid <;> rfl
theorem upTo_er (l : List Nd) : ∀ m, upTo (l.map Nd.er) m = upTo l m
  | 0 => rfl
  | m + 1 => by
    simp only [upTo, upTo_er l m, getD_er, lastFd]
    rfl
theorem kfs_er (l : List Nd) : kfs (l.map Nd.er) = kfs l := by
  unfold kfs
  rw [List.flatMap_map]
  rfl
theorem linksTo_er (P : List Int) (l : List Nd) : ∀ m, linksTo P (l.map Nd.er) m = linksTo P l m
  | 0 => rfl
  | m + 1 => by
    simp only [linksTo, linksTo_er P l m, getD_er]
    rfl
/-- Which nodes are a tree does not hang on where they lie. -/
theorem right_er (l : List Nd) : RightP (l.map Nd.er) ↔ RightP l := by
  unfold RightP fidsUp linksB
  simp only [List.length_map, upTo_er, isDir_er, ring_er, kfs_er, linksTo_er]
  have e : (∀ x ∈ l.map Nd.er, aloneB x = true ∧ haveB (N0 (l.map Nd.er)) x.ks = true) ↔ (∀ x ∈ l, aloneB x = true ∧ haveB (N0 l) x.ks = true) := by
    constructor
    · intro h x hx
      have := h x.er (List.mem_map.2 ⟨x, hx, rfl⟩)
      unfold haveB at this ⊢
      rw [haveTo_er] at this
      exact this
    · intro h x hx
      obtain ⟨y, hy, rfl⟩ := List.mem_map.1 hx
      have := h y hy
      unfold haveB at this ⊢
      rw [haveTo_er]
      exact this
  rw [e]
theorem upTo_pos {l : List Nd} : ∀ {m : Nat}, upTo l m = true → ∀ i, i < m → lastFd l i < (l.getD i Nd.no).fid
  | 0, _, i, hi => by omega
  | m + 1, h, i, hi => by
    unfold upTo at h
    rw [Bool.and_eq_true] at h
    by_cases e : i = m
    · subst e; exact of_decide_eq_true h.2
    · exact upTo_pos h.1 i (by omega)
theorem upTo_pos2 {l : List Nd} {m : Nat} (h : upTo l m = true) : ∀ i, i < m → 0 < (l.getD i Nd.no).fid
  | 0, hi => by have := upTo_pos h 0 hi; simpa [lastFd] using this
  | i + 1, hi => by
    have h1 := upTo_pos h (i + 1) hi
    have h2 := upTo_pos2 h i (by omega)
    rw [lastFd_next] at h1
    omega
theorem kidsTo_of {N : Tab} {l : List Kd} (hp : ∀ f p, N f = some p → f ≠ 0) : ∀ {m : Nat}, namesTo l m = true → haveTo N l m = true → kidsTo l m = true
  | 0, _, _ => rfl
  | m + 1, h, h2 => by
    unfold namesTo at h
    unfold haveTo at h2
    rw [Bool.and_eq_true] at h h2
    unfold kidsTo
    rw [kidsTo_of hp h.1 h2.1, Bool.true_and]
    unfold kOk
    have h3 := h.2
    unfold nmK at h3
    rw [h3, Bool.true_and]
    have h4 := h2.2
    rw [Bool.and_eq_true] at h4
    cases hN : N (l.getD m Kd.no).fid with
    | none => rw [hN] at h4; simp at h4
    | some p => have := hp _ _ hN; simpa using this
/-- A tree's nodes are right by themselves. -/
theorem right_ok {l : List Nd} (h : RightP l) : ∀ x ∈ l, nodeOk x = true := by
  obtain ⟨h1, h2, h3, h4, h5, h6⟩ := h
  intro x hx
  obtain ⟨i, hi, rfl⟩ := List.getElem_of_mem hx
  have hg : l.getD i Nd.no = l[i] := by simp [List.getD, hi]
  have hf := upTo_pos2 h2 i hi
  rw [hg] at hf
  obtain ⟨ha, hh⟩ := h4 _ hx
  have hp : ∀ f p, N0 l f = some p → f ≠ 0 := fun f p e => by
    unfold N0 ndF at e
    cases hq : plTo l l.length f with
    | none => rw [hq] at e; cases e
    | some j =>
      obtain ⟨q1, q2⟩ := plTo_lt l _ hq
      have := upTo_pos2 h2 j q1
      omega
  generalize l[i] = y at *
  unfold nodeOk
  have f0 : (y.fid == 0) = false := beq_eq_false_iff_ne.2 (by omega)
  rw [f0]
  have h12 := alone_few ha
  unfold aloneB at ha
  cases q : (y.k == 1 || y.k == 3) with
  | true =>
    rw [q] at ha
    simp only [cond_true, Bool.and_eq_true, decide_eq_true_eq] at ha ⊢
    simp [ha.2]
    omega
  | false =>
    rw [q] at ha
    cases q2 : (y.k == 2) with
    | true =>
      rw [q2] at ha
      simp only [cond_false, cond_true, Bool.and_eq_true, decide_eq_true_eq] at ha ⊢
      have := kidsTo_of hp ha.2.2 hh
      have hk : kidsOk y.ks = true := this
      rw [hk]
      simp [ha.1]
      omega
    | false => rw [q2] at ha; cases ha
theorem kidP_kidB (x : Kd) (rest : List Int) (h : x.Wf) (hs : x.nm.size ≤ 255) : kidP (kidB x ++ rest) = some (x, rest) := by
  unfold kidP kidB
  rw [List.append_assoc, shortP_tx x.nm _ hs]
  simp only
  rw [numP_be x.fid 4 _ h.2.1 (by have := h.2.2; simpa using this)]
  simp only [Fr.tx_bs]
theorem kidsN_kidsB : ∀ (l : List Kd) (rest : List Int), (∀ x ∈ l, x.Wf ∧ x.nm.size ≤ 255) → kidsN l.length (kidsB l ++ rest) = some (l, rest)
  | [], rest, _ => rfl
  | x :: l, rest, h => by
    have e : kidsB (x :: l) ++ rest = kidB x ++ (kidsB l ++ rest) := by unfold kidsB; rw [List.flatMap_cons, List.append_assoc]
    rw [e, List.length_cons, kidsN_step, kidP_kidB x _ (h x (by simp)).1 (h x (by simp)).2]
    simp only
    rw [kidsN_kidsB l rest (fun y hy => h y (by simp [hy]))]
/-- WHAT IS READ OF A NODE's BYTES IS THE NODE. -/
theorem nodeP_nodeB {x : Nd} (rest : List Int) (hw : x.Wf) (ho : nodeOk x = true) : nodeP (nodeB x ++ rest) = some (x.er, rest) := by
  obtain ⟨h1, h2, h3, h4, h5, h6, h7, h8⟩ := hw
  have hys : Fr.bs (Fr.tx x.zs) = x.zs := Fr.bs_tx x.zs (byt_of h5)
  have h12 : x.ks.length ≤ 12 := by
    unfold nodeOk at ho
    simp only [Bool.and_eq_true, Bool.not_eq_true', Bool.or_eq_false_iff, decide_eq_false_iff_not] at ho
    omega
  unfold nodeP nodeB
  simp only [List.append_assoc]
  rw [numP_be x.fid 4 _ h1.1 (by simpa using h1.2)]
  simp only
  rw [numP_be x.k 1 _ h2.1 (by simpa using h2.2)]
  simp only
  rw [numP_be x.md 2 _ h3.1 (by simpa using h3.2)]
  simp only
  rw [numP_be x.ln 2 _ h4.1 (by simpa using h4.2)]
  simp only
  rw [shortP_tx (Fr.tx x.zs) _ (by rw [Fr.tx_size]; exact h6), hys]
  simp only
  unfold kidsP
  rw [numP_be (x.ks.length : Int) 1 _ (by omega) (by simp; omega)]
  simp only [Int.toNat_natCast]
  rw [if_pos (by omega), kidsN_kidsB x.ks rest h7]
  simp only
  rw [if_pos (show nodeOk ⟨x.fid, x.k, x.md, x.ln, none, 0, x.zs, none, 0, x.ks⟩ = true from ho)]
  rfl
theorem nodeAll_nodeB {x : Nd} (hw : x.Wf) (ho : nodeOk x = true) : nodeAll (nodeB x) = some x.er := by
  have := nodeP_nodeB [] hw ho
  rw [List.append_nil] at this
  unfold nodeAll
  rw [this]
theorem kidP_back {z t : List Int} {x : Kd} (h : Byt z) (hp : kidP z = some (x, t)) : z = kidB x ++ t := by
  unfold kidP at hp
  rcases h0 : shortP z with _ | ⟨ys, z1⟩
  · rw [h0] at hp; cases hp
  rw [h0] at hp; simp only at hp
  have e0 := shortP_back h h0
  have i1 : Byt z1 := by rw [e0] at h; exact h.tail
  rcases h1 : numP 4 z1 with _ | ⟨f, z2⟩
  · rw [h1] at hp; cases hp
  rw [h1] at hp
  simp only [Option.some.injEq, Prod.mk.injEq] at hp
  have e1 := numP_back i1 h1
  obtain ⟨rfl, rfl⟩ := hp
  unfold kidB
  rw [List.append_assoc, ← e1, ← e0]
theorem kidsN_back : ∀ (n : Nat) {z t : List Int} {l : List Kd}, Byt z → kidsN n z = some (l, t) → z = kidsB l ++ t ∧ l.length = n
  | 0, z, t, l, h, hp => by
    simp only [kidsN, Option.some.injEq, Prod.mk.injEq] at hp
    obtain ⟨rfl, rfl⟩ := hp
    exact ⟨rfl, rfl⟩
  | n + 1, z, t, l, h, hp => by
    rw [kidsN_step] at hp
    rcases h0 : kidP z with _ | ⟨x, z1⟩
    · rw [h0] at hp; cases hp
    rw [h0] at hp; simp only at hp
    have e0 := kidP_back h h0
    have i1 : Byt z1 := by rw [e0] at h; exact h.tail
    rcases h1 : kidsN n z1 with _ | ⟨l', u⟩
    · rw [h1] at hp; cases hp
    rw [h1] at hp; simp only [Option.some.injEq, Prod.mk.injEq] at hp
    obtain ⟨rfl, rfl⟩ := hp
    obtain ⟨e2, n2⟩ := kidsN_back n i1 h1
    have e3 : kidsB (x :: l') = kidB x ++ kidsB l' := by unfold kidsB; rw [List.flatMap_cons]
    exact ⟨by rw [e3, List.append_assoc, ← e2, ← e0], by rw [List.length_cons, n2]⟩
/-- WHAT IS WRITTEN OF A NODE THAT WAS READ ARE ITS BYTES. -/
theorem nodeP_back {z t : List Int} {x : Nd} (hi : InB z) (hp : nodeP z = some (x, t)) : z = nodeB x ++ t ∧ nodeOk x = true ∧ x.er = x ∧ x.Wf ∧ InB t := by
  have h := byt_of hi
  unfold nodeP at hp
  rcases h0 : numP 4 z with _ | ⟨fid, z1⟩
  · rw [h0] at hp; cases hp
  rw [h0] at hp; simp only at hp
  have e0 := numP_back h h0
  have i1 : Byt z1 := by rw [e0] at h; exact h.tail
  rcases h1 : numP 1 z1 with _ | ⟨k, z2⟩
  · rw [h1] at hp; cases hp
  rw [h1] at hp; simp only at hp
  have e1 := numP_back i1 h1
  have i2 : Byt z2 := by rw [e1] at i1; exact i1.tail
  rcases h2 : numP 2 z2 with _ | ⟨md, z3⟩
  · rw [h2] at hp; cases hp
  rw [h2] at hp; simp only at hp
  have e2 := numP_back i2 h2
  have i3 : Byt z3 := by rw [e2] at i2; exact i2.tail
  rcases h3 : numP 2 z3 with _ | ⟨ln, z4⟩
  · rw [h3] at hp; cases hp
  rw [h3] at hp; simp only at hp
  have e3 := numP_back i3 h3
  have i4 : Byt z4 := by rw [e3] at i3; exact i3.tail
  rcases h4 : shortP z4 with _ | ⟨ys, z5⟩
  · rw [h4] at hp; cases hp
  rw [h4] at hp; simp only at hp
  have e4 := shortP_back i4 h4
  have i5 : Byt z5 := by rw [e4] at i4; exact i4.tail
  rcases h5 : kidsP z5 with _ | ⟨ks, z6⟩
  · rw [h5] at hp; cases hp
  rw [h5] at hp; simp only at hp
  have hwf := node_wf hi h0 h1 h2 h3 h4 h5 none 0 none 0
  have hin : InB t ∨ True := .inr trivial
  cases hr : nodeOk ⟨fid, k, md, ln, none, 0, ys, none, 0, ks⟩ with
  | false => rw [hr] at hp; simp at hp
  | true =>
    rw [hr, if_pos rfl] at hp
    simp only [Option.some.injEq, Prod.mk.injEq] at hp
    obtain ⟨rfl, rfl⟩ := hp
    have j5 : InB z5 := (shortP_in (numP_in (numP_in (numP_in (numP_in hi h0).2 h1).2 h2).2 h3).2 h4).2
    refine ⟨?_, hr, rfl, hwf, (kidsP_in j5 h5).2.1⟩
    unfold kidsP at h5
    rcases h6 : numP 1 z5 with _ | ⟨m, z7⟩
    · rw [h6] at h5; cases h5
    rw [h6] at h5; simp only at h5
    have e6 := numP_back i5 h6
    have i7 : Byt z7 := by rw [e6] at i5; exact i5.tail
    obtain ⟨⟨b0, _⟩, _⟩ := numP_in j5 h6
    split at h5
    · obtain ⟨e7, n7⟩ := kidsN_back _ i7 h5
      have hm : (ks.length : Int) = m := by omega
      unfold nodeB
      simp only [List.append_assoc]
      rw [hm, ← e7, ← e6, ← e4, ← e3, ← e2, ← e1, ← e0]
    · cases h5
theorem nodeAll_back {z : List Int} {x : Nd} (hi : InB z) (hp : nodeAll z = some x) : nodeB x = z ∧ nodeOk x = true ∧ x.er = x ∧ x.Wf := by
  unfold nodeAll at hp
  split at hp
  · rename_i y e
    cases hp
    obtain ⟨h1, h2, h3, h4, _⟩ := nodeP_back hi e
    rw [List.append_nil] at h1
    exact ⟨h1.symm, h2, h3, h4⟩
  · cases hp
end Go.Proofs.Ytbgninmkglgfeaa
namespace Go.Proofs.Ytbgninmkglgfeaa
open Go.RowKit Go.ChangeShapes Go.WideShapes Go.ChangeAt Go.Maps
set_option linter.unusedVariables false
set_option linter.unusedSimpArgs false
set_option maxRecDepth 100000
/-- A stamp: an object, its version, who made it. -/
structure St where
  fid : Int
  ver : Int
  wr : Int
def St.no : St := ⟨0, 0, 0⟩
def St.cells (x : St) : List Value := [.int .u32 x.fid, .int .u64 x.ver, .int .u8 x.wr]
def St.val (x : St) : Value := .agg #[.int .u32 x.fid, .int .u64 x.ver, .int .u8 x.wr]
def St.Wf (x : St) : Prop := (0 ≤ x.fid ∧ x.fid < 4294967296) ∧ (0 ≤ x.ver ∧ x.ver < 18446744073709551616) ∧ (0 ≤ x.wr ∧ x.wr < 256)
def StC (w : World) (b o : Nat) (x : St) : Prop := w.cell? ⟨b, o, none⟩ = some (.int .u32 x.fid) ∧ w.cell? ⟨b, o + 1, none⟩ = some (.int .u64 x.ver) ∧ w.cell? ⟨b, o + 2, none⟩ = some (.int .u8 x.wr)
/-- Stamps that lie in memory. -/
def IsSs (w : World) (a : Option Addr) (l : List St) : Prop :=
  l.length ≤ maxLen ∧ (∀ x ∈ l, x.Wf) ∧ (0 < l.length → ∃ b off, a = some ⟨b, off, none⟩ ∧ ∀ i, i < l.length → StC w b (off + i * 3) (l.getD i St.no))
theorem IsSs.later {w w' : World} {a : Option Addr} {l : List St} (h : IsSs w a l) (hb : Below w.heap.size w w') : IsSs w' a l := by
  obtain ⟨h1, h2, h3⟩ := h
  refine ⟨h1, h2, fun hp => ?_⟩
  obtain ⟨b, off, e, hc⟩ := h3 hp
  exact ⟨b, off, e, fun i hi => ⟨cell_later hb (hc i hi).1, cell_later hb (hc i hi).2.1, cell_later hb (hc i hi).2.2⟩⟩
theorem IsSs.at {w : World} {b off : Nat} {l : List St} {i : Nat} (h : IsSs w (some ⟨b, off, none⟩) l) (hi : i < l.length) : StC w b (off + i * 3) (l.getD i St.no) := by
  obtain ⟨b', off', e, hc⟩ := h.2.2 (by omega)
  cases e
  exact hc i hi
theorem IsSs.wf {w : World} {a : Option Addr} {l : List St} (h : IsSs w a l) {i : Nat} (hi : i < l.length) : (l.getD i St.no).Wf := h.2.1 _ (getD_mem l St.no hi)
/-- May a version be that of a node? -/
def stB (x : Nd) (s : St) : Bool := s.fid == x.fid && decide (s.wr ≤ 3)
set_option maxHeartbeats 1000000 in
theorem rightStamp_c (x : Nd) (s : St) (w : World) :
    Calls Try.prog 76 #[x.val, s.val] w fun e w' => e = .returned (.bool (stB x s)) ∧ Below w.heap.size w w' := by
  have b0 := below_1 w (.cells x.cells.toArray 39)
  have h0 := heap_alloc_new w (.cells x.cells.toArray 39)
  have b1 := below_1 (w.alloc (.cells x.cells.toArray 39)) (.cells s.cells.toArray 85)
  have h1 := heap_alloc_new (w.alloc (.cells x.cells.toArray 39)) (.cells s.cells.toArray 85)
  rw [show (w.alloc (.cells x.cells.toArray 39)).heap.size = w.heap.size + 1 by simp] at h1
  have h0' := (b1.block _ (lt_blkR h0)).trans h0
  have BV := hid (b0.trans (b1.mono b0.size))
  have y0 := (nd_cells h0').1
  have z0 : ((w.alloc (.cells x.cells.toArray 39)).alloc (.cells s.cells.toArray 85)).cell? ⟨w.heap.size + 1, 0, none⟩ = some (.int .u32 s.fid) := cell_of_row2 h1 0 rfl
  have z2 : ((w.alloc (.cells x.cells.toArray 39)).alloc (.cells s.cells.toArray 85)).cell? ⟨w.heap.size + 1, 2, none⟩ = some (.int .u8 s.wr) := cell_of_row2 h1 2 rfl
  obtain ⟨nk, hnk⟩ : ∃ nk, nk = stB x s := ⟨_, rfl⟩
  rw [← hnk]
  unfold stB at hnk
  have HE := hid hnk
  clear hnk b0 b1 h0 h1 h0'
  obtain ⟨fid, k, md, ln, da, dc, zs, ka, kc, ks⟩ := x
  obtain ⟨sf, sv, sw⟩ := s
  simp only [Nd.val, Nd.cells, St.val, St.cells] at *
  by_cases q1 : sf = fid
  · have q1B : (sf == fid) = true := by rw [q1]; simp
    by_cases q2 : sw ≤ 3
    · have F : Hid (nk = true) := hid (by rw [HE.out, q1B, decide_eq_true q2]; rfl)
      clear HE q1
      go_enter Try.func76, Try.ntmps76
      go_wp2
      go_ret
      exact ⟨ret_bool' F.out.symm, BV.out⟩
    · have F : Hid (nk = false) := hid (by rw [HE.out, q1B, decide_eq_false q2]; rfl)
      clear HE q1
      go_enter Try.func76, Try.ntmps76
      go_wp2
      go_ret
      exact ⟨ret_bool' F.out.symm, BV.out⟩
  · have q1B : (sf == fid) = false := beq_eq_false_iff_ne.2 q1
    have F : Hid (nk = false) := hid (by rw [HE.out, q1B]; rfl)
    clear HE
    go_enter Try.func76, Try.ntmps76
    go_wp2
    go_ret
    exact ⟨ret_bool' F.out.symm, BV.out⟩
def stTo (ns : List Nd) (ss : List St) : Nat → Bool
  | 0 => true
  | m + 1 => stTo ns ss m && stB (ns.getD m Nd.no) (ss.getD m St.no)
/-- Is there just a version for each node? -/
def stOk (ns : List Nd) (ss : List St) : Bool := decide (ns.length = ss.length) && stTo ns ss ns.length
theorem st_no (ns : List Nd) (ss : List St) (m : Nat) (h : stB (ns.getD m Nd.no) (ss.getD m St.no) = false) : ∀ d, stTo ns ss (m + 1 + d) = false
  | 0 => by simp only [Nat.add_zero, stTo, h, Bool.and_false]
  | d + 1 => by rw [← Nat.add_assoc]; simp only [stTo, st_no ns ss m h d, Bool.false_and]
theorem stTo_no {ns : List Nd} {ss : List St} {m : Nat} (hm : m < ns.length) (h : stB (ns.getD m Nd.no) (ss.getD m St.no) = false) : stTo ns ss ns.length = false := by
  obtain ⟨d, hd⟩ : ∃ d, ns.length = m + 1 + d := ⟨ns.length - (m + 1), by omega⟩
  rw [hd]; exact st_no ns ss m h d
theorem stTo_er (ns : List Nd) (ss : List St) : ∀ m, stTo (ns.map Nd.er) ss m = stTo ns ss m
  | 0 => rfl
  | m + 1 => by
    simp only [stTo, stTo_er ns ss m, getD_er]
    rfl
theorem stOk_er (ns : List Nd) (ss : List St) : stOk (ns.map Nd.er) ss = stOk ns ss := by
  unfold stOk
  rw [List.length_map, stTo_er]
set_option maxHeartbeats 2000000 in
theorem equalSt_c (a b : Option Addr) (ca cb : Nat) (ns : List Nd) (ss : List St) (w : World) (hn : IsNs w a ns) (hs : IsSs w b ss) (hm : ns.length ≤ 100000) (hm' : ss.length ≤ 100000) :
    Calls Try.prog 75 #[.slice a ns.length ca, .slice b ss.length cb, .func (.func 76) #[] #[]] w fun e w' => e = .returned (.bool (stOk ns ss)) ∧ Below w.heap.size w w' := by
  unfold stOk
  by_cases q : ns.length = ss.length
  · have qB : ((ns.length : Int) != (ss.length : Int)) = false := by rw [q]; simp
    rw [decide_eq_true q, Bool.true_and]
    have HN := hid hn
    have HS := hid hs
    have HQ := hid q
    obtain ⟨n, hnn⟩ : ∃ n, n = ns.length := ⟨_, rfl⟩
    have HNN := hid hnn
    rw [← q]
    obtain ⟨R, hR⟩ : ∃ R, R = stTo ns ss ns.length := ⟨_, rfl⟩
    rw [← hR]
    have HR := hid hR
    rw [← hnn] at hm ⊢
    clear hn hs qB q hm' hnn hR
    go_enter Try.func75, Try.ntmps75
    go_wp2
    go_loopg [17] n (fun gk i wr => ∃ m : Nat, m + gk = n ∧ i = .int .i64 m ∧ Hid (Below w.heap.size w wr) ∧ Hid (stTo ns ss m = true))
    case atStart => exact ⟨0, by omega, rfl, hid (Below.refl _ _), hid rfl⟩
    case round =>
      obtain ⟨m, hm2, rfl, HB, HI⟩ := hrel
      by_cases hlt : m < n
      · have hltI : (m : Int) < n := by omega
        have h1 : m < ns.length := by rw [← HNN.out]; exact hlt
        have h2 : m < ss.length := by rw [← HQ.out]; exact h1
        obtain ⟨b1, o1, rfl, _⟩ := HN.out.2.2 (by omega)
        obtain ⟨b2, o2, rfl, _⟩ := HS.out.2.2 (by omega)
        obtain ⟨y0, y1, y2, y3, y4, y5⟩ := ((HN.out.later HB.out).at (i := m) h1).all
        obtain ⟨z0, z1, z2⟩ := (HS.out.later HB.out).at (i := m) h2
        have NO := hid (stTo_no (ss := ss) h1)
        have NX : Hid (stB (ns.getD m Nd.no) (ss.getD m St.no) = true → stTo ns ss (m + 1) = true) := hid (fun h => by simp only [stTo, HI.out, h, Bool.and_self])
        clear h1 h2
        generalize ns.getD m Nd.no = x at *
        generalize ss.getD m St.no = s at *
        have RC := hid (fun W => rightStamp_c x s W)
        have bA := below_1 wr (.cells x.cells.toArray 39)
        have hA := heap_alloc_new wr (.cells x.cells.toArray 39)
        have bB := below_1 (wr.alloc (.cells x.cells.toArray 39)) (.cells s.cells.toArray 85)
        have hB := heap_alloc_new (wr.alloc (.cells x.cells.toArray 39)) (.cells s.cells.toArray 85)
        rw [show (wr.alloc (.cells x.cells.toArray 39)).heap.size = wr.heap.size + 1 by simp] at hB
        have hA2 := (bB.block _ (lt_blkR hA)).trans hA
        obtain ⟨p0, p1, p2, p3, p4, p5⟩ := nd_cells hA2
        have r0 : ((wr.alloc (.cells x.cells.toArray 39)).alloc (.cells s.cells.toArray 85)).cell? ⟨wr.heap.size + 1, 0, none⟩ = some (.int .u32 s.fid) := cell_of_row2 hB 0 rfl
        have r1 : ((wr.alloc (.cells x.cells.toArray 39)).alloc (.cells s.cells.toArray 85)).cell? ⟨wr.heap.size + 1, 1, none⟩ = some (.int .u64 s.ver) := cell_of_row2 hB 1 rfl
        have r2 : ((wr.alloc (.cells x.cells.toArray 39)).alloc (.cells s.cells.toArray 85)).cell? ⟨wr.heap.size + 1, 2, none⟩ = some (.int .u8 s.wr) := cell_of_row2 hB 2 rfl
        have w0 := cell_later bA z0
        have w1 := cell_later bA z1
        have w2 := cell_later bA z2
        have HB2 := hid (HB.out.trans ((bA.trans (bB.mono bA.size)).mono HB.out.size))
        clear bA bB hA hB hA2 z0 z1 z2
        cases qs : stB x s with
        | false =>
          have EF := hid (HR.out.trans (NO.out qs))
          rw [qs] at RC
          clear NO NX qs
          obtain ⟨fid, k, md, ln, da, dc, zs, ka, kc, ks⟩ := x
          obtain ⟨sf, sv, sw⟩ := s
          simp only [Nd.val, Nd.cells, St.val, St.cells] at *
          go_wp2_with (go_at_call 76; refine (RC.out _).mono ?_; rintro _ w9 ⟨rfl, hb9⟩)
          go_ret
          exact ⟨ret_bool' EF.out.symm, HB2.out.trans (hb9.mono HB2.out.size)⟩
        | true =>
          have ET := hid (NX.out qs)
          rw [qs] at RC
          clear NO NX qs
          obtain ⟨fid, k, md, ln, da, dc, zs, ka, kc, ks⟩ := x
          obtain ⟨sf, sv, sw⟩ := s
          simp only [Nd.val, Nd.cells, St.val, St.cells] at *
          go_wp2_with (go_at_call 76; refine (RC.out _).mono ?_; rintro _ w9 ⟨rfl, hb9⟩)
          go_roundg (gk - 1)
          case measure => omega
          case rel => exact ⟨m + 1, by omega, by go_num, hid (HB2.out.trans (hb9.mono HB2.out.size)), ET⟩
      · have hge : ¬ (m : Int) < n := by omega
        have EF : Hid (R = true) := hid (by rw [HR.out, ← HNN.out, show n = m by omega]; exact HI.out)
        go_wp2
        go_ret
        exact ⟨ret_bool' EF.out.symm, HB.out⟩
  · have qB : ((ns.length : Int) != (ss.length : Int)) = true := by rw [bne_iff_ne]; omega
    rw [decide_eq_false q, Bool.false_and]
    clear hn hs
    go_enter Try.func75, Try.ntmps75
    go_wp2
    go_ret
    exact ⟨rfl, Below.refl _ _⟩
/-- Is a snapshot right? -/
def RSnap (ns : List Nd) (ss : List St) : Prop := RightP ns ∧ stOk ns ss = true
theorem rsnap_er (ns : List Nd) (ss : List St) : RSnap (ns.map Nd.er) ss ↔ RSnap ns ss := by
  unfold RSnap
  rw [right_er, stOk_er]
def RsP2 (ns : List Nd) (ss : List St) (w : World) (e : Ending) (w' : World) : Prop := ∃ b, e = .returned (.bool b) ∧ (b = true ↔ RSnap ns ss) ∧ Below w.heap.size w w'
set_option maxHeartbeats 2000000 in
theorem rightSnapshot_c (a b : Option Addr) (ca cb : Nat) (ns : List Nd) (ss : List St) (w : World) (hn : IsNs w a ns) (hs : IsSs w b ss) (hm : ns.length ≤ 100000) (hm' : ss.length ≤ 100000) :
    Calls Try.prog 36 #[.agg #[.slice a ns.length ca, .slice b ss.length cb]] w fun e w' => RsP2 ns ss w e w' := by
  have b0 := below_1 w (.cells #[.slice a ns.length ca, .slice b ss.length cb] 49)
  have h0 := heap_alloc_new w (.cells #[.slice a ns.length ca, .slice b ss.length cb] 49)
  have y0 : (w.alloc (.cells #[.slice a ns.length ca, .slice b ss.length cb] 49)).cell? ⟨w.heap.size, 0, none⟩ = some (.slice a ns.length ca) := cell_of_row2 h0 0 rfl
  have RC := hid (right_c a ca ns _ (hn.later b0) hm)
  have EC := hid (fun W (hW : Below w.heap.size w W) => equalSt_c a b ca cb ns ss W (hn.later hW) (hs.later hW) hm hm')
  have B0 := hid b0
  have H0 := hid h0
  clear b0 h0 hn hs
  unfold RtP at RC
  go_enter Try.func36, Try.ntmps36
  go_upto_region 1 with fail
  generalize (w.alloc (.cells #[.slice a ns.length ca, .slice b ss.length cb] 49)) = V at *
  go_wp2_with (first
    | (go_at_call 74; refine RC.out.mono ?_; rintro _ w1 ⟨b1, rfl, hq1, hb1⟩
       have Q1 := hid hq1
       have B1 := hid (B0.out.trans (hb1.mono B0.out.size))
       have z0 : w1.cell? ⟨w.heap.size, 0, none⟩ = some (.slice a ns.length ca) := cell_of_row2 ((hb1.block _ (lt_blkR H0.out)).trans H0.out) 0 rfl
       have z1 : w1.cell? ⟨w.heap.size, 1, none⟩ = some (.slice b ss.length cb) := cell_of_row2 ((hb1.block _ (lt_blkR H0.out)).trans H0.out) 1 rfl
       clear hq1 hb1)
    | (go_at_call 75; refine (EC.out _ B1.out).mono ?_; rintro _ w2 ⟨rfl, hb2⟩; have B2 := hid (B1.out.trans (hb2.mono B1.out.size)); clear hb2))
  · rename_i hb
    go_ret
    exact ⟨stOk ns ss, rfl, ⟨fun h => ⟨Q1.out.1 hb, h⟩, fun h => h.2⟩, B2.out⟩
  · rename_i hb
    go_ret
    exact ⟨false, rfl, ⟨(fun h => by cases h), fun h => absurd (Q1.out.2 h.1) hb⟩, B1.out⟩
/-- A stamp's bytes; those of stamps; a node's with its length ahead; a snapshot's. -/
def stampB (s : St) : List Int := beF s.fid 4 ++ (beF s.ver 8 ++ beF s.wr 1)
def stampsB (l : List St) : List Int := l.flatMap stampB
def measB (x : Nd) : List Int := beF (nodeB x).length 2 ++ nodeB x
def measuresB (l : List Nd) : List Int := l.flatMap measB
def snapB (ns : List Nd) (ss : List St) : List Int := (beF ns.length 1 ++ measuresB ns) ++ (beF ss.length 1 ++ stampsB ss)
theorem measB_er (x : Nd) : measB x.er = measB x := rfl
theorem measuresB_er (l : List Nd) : measuresB (l.map Nd.er) = measuresB l := by
  unfold measuresB
  rw [List.flatMap_map]
  rfl
theorem snapB_er (ns : List Nd) (ss : List St) : snapB (ns.map Nd.er) ss = snapB ns ss := by
  unfold snapB
  rw [List.length_map, measuresB_er]
def stampP (z : List Int) : Option (St × List Int) := match numP 4 z with
  | none => none
  | some (f, t) => match numP 8 t with
    | none => none
    | some (v, u) => match numP 1 u with
      | none => none
      | some (k, r) => some (⟨f, v, k⟩, r)
def stampsN : Nat → List Int → Option (List St × List Int)
  | 0, z => some ([], z)
  | n + 1, z => match stampP z with
    | none => none
    | some (x, t) => match stampsN n t with
      | none => none
      | some (l, u) => some (x :: l, u)
def stampsP (z : List Int) : Option (List St × List Int) := match numP 1 z with
  | none => none
  | some (m, t) => if m ≤ 40 then stampsN m.toNat t else none
def measP (z : List Int) : Option (Nd × List Int) := match numP 2 z with
  | none => none
  | some (m, t) => if m.toNat ≤ t.length then (match nodeAll (t.take m.toNat) with
    | none => none
    | some x => some (x, t.drop m.toNat)) else none
def measN : Nat → List Int → Option (List Nd × List Int)
  | 0, z => some ([], z)
  | n + 1, z => match measP z with
    | none => none
    | some (x, t) => match measN n t with
      | none => none
      | some (l, u) => some (x :: l, u)
def measuresP (z : List Int) : Option (List Nd × List Int) := match numP 1 z with
  | none => none
  | some (m, t) => if m ≤ 40 then measN m.toNat t else none
/-- What bytes say, as a snapshot, whether it is right or not, and what is left. -/
def snapP (z : List Int) : Option ((List Nd × List St) × List Int) := match measuresP z with
  | none => none
  | some (ns, t) => match stampsP t with
    | none => none
    | some (ss, u) => some ((ns, ss), u)
theorem stampP_stampB (x : St) (rest : List Int) (h : x.Wf) : stampP (stampB x ++ rest) = some (x, rest) := by
  obtain ⟨h1, h2, h3⟩ := h
  unfold stampP stampB
  simp only [List.append_assoc]
  rw [numP_be x.fid 4 _ h1.1 (by simpa using h1.2)]
  simp only
  rw [numP_be x.ver 8 _ h2.1 (by simpa using h2.2)]
  simp only
  rw [numP_be x.wr 1 _ h3.1 (by simpa using h3.2)]
theorem stampsN_B : ∀ (l : List St) (rest : List Int), (∀ x ∈ l, x.Wf) → stampsN l.length (stampsB l ++ rest) = some (l, rest)
  | [], rest, _ => rfl
  | x :: l, rest, h => by
    have e : stampsB (x :: l) ++ rest = stampB x ++ (stampsB l ++ rest) := by unfold stampsB; rw [List.flatMap_cons, List.append_assoc]
    rw [e, List.length_cons, stampsN, stampP_stampB x _ (h x (by simp))]
    simp only
    rw [stampsN_B l rest (fun y hy => h y (by simp [hy]))]
theorem nodeB_len {x : Nd} (hw : x.Wf) (ho : nodeOk x = true) : (nodeB x).length ≤ 2000 := by
  obtain ⟨s1, s2, s3⟩ := node_small ho
  have := kidsB_le s3
  unfold nodeB
  simp only [List.length_append, beF_len, txF_len, Fr.tx_size]
  omega
theorem measP_B {x : Nd} (rest : List Int) (hw : x.Wf) (ho : nodeOk x = true) : measP (measB x ++ rest) = some (x.er, rest) := by
  have hl := nodeB_len hw ho
  unfold measP measB
  rw [List.append_assoc, numP_be ((nodeB x).length : Int) 2 _ (by omega) (by simp; omega)]
  simp only [Int.toNat_natCast]
  rw [if_pos (by rw [List.length_append]; omega), List.take_append_of_le_length (Nat.le_refl _), List.take_of_length_le (Nat.le_refl _), nodeAll_nodeB hw ho, List.drop_append_of_le_length (Nat.le_refl _), List.drop_eq_nil_of_le (Nat.le_refl _), List.nil_append]
theorem measN_B : ∀ (l : List Nd) (rest : List Int), (∀ x ∈ l, x.Wf ∧ nodeOk x = true) → measN l.length (measuresB l ++ rest) = some (l.map Nd.er, rest)
  | [], rest, _ => rfl
  | x :: l, rest, h => by
    have e : measuresB (x :: l) ++ rest = measB x ++ (measuresB l ++ rest) := by unfold measuresB; rw [List.flatMap_cons, List.append_assoc]
    rw [e, List.length_cons, measN, measP_B _ (h x (by simp)).1 (h x (by simp)).2]
    simp only
    rw [measN_B l rest (fun y hy => h y (by simp [hy]))]
    rfl
/-- WHAT IS READ OF A SNAPSHOT's BYTES IS IT. -/
theorem snapP_B {ns : List Nd} {ss : List St} (hn : ∀ x ∈ ns, x.Wf ∧ nodeOk x = true) (hs : ∀ x ∈ ss, x.Wf) (h1 : ns.length ≤ 40) (h2 : ss.length ≤ 40) : snapP (snapB ns ss) = some ((ns.map Nd.er, ss), []) := by
  unfold snapP measuresP snapB
  rw [List.append_assoc, numP_be (ns.length : Int) 1 _ (by omega) (by simp; omega)]
  simp only [Int.toNat_natCast]
  rw [if_pos (by omega), measN_B ns _ hn]
  simp only
  unfold stampsP
  rw [numP_be (ss.length : Int) 1 _ (by omega) (by simp; omega)]
  simp only [Int.toNat_natCast]
  have := stampsN_B ss [] hs
  rw [List.append_nil] at this
  rw [if_pos (by omega), this]
theorem stampP_back {z t : List Int} {x : St} (hi : InB z) (hp : stampP z = some (x, t)) : z = stampB x ++ t ∧ x.Wf ∧ InB t := by
  have h := byt_of hi
  unfold stampP at hp
  rcases h0 : numP 4 z with _ | ⟨f, z1⟩
  · rw [h0] at hp; cases hp
  rw [h0] at hp; simp only at hp
  have e0 := numP_back h h0
  have i1 : Byt z1 := by rw [e0] at h; exact h.tail
  obtain ⟨b0, j1⟩ := numP_in hi h0
  rcases h1 : numP 8 z1 with _ | ⟨v, z2⟩
  · rw [h1] at hp; cases hp
  rw [h1] at hp; simp only at hp
  have e1 := numP_back i1 h1
  have i2 : Byt z2 := by rw [e1] at i1; exact i1.tail
  obtain ⟨b1, j2⟩ := numP_in j1 h1
  rcases h2 : numP 1 z2 with _ | ⟨k, z3⟩
  · rw [h2] at hp; cases hp
  rw [h2] at hp
  simp only [Option.some.injEq, Prod.mk.injEq] at hp
  have e2 := numP_back i2 h2
  obtain ⟨b2, j3⟩ := numP_in j2 h2
  obtain ⟨rfl, rfl⟩ := hp
  refine ⟨?_, ⟨⟨b0.1, by simpa using b0.2⟩, ⟨b1.1, by simpa using b1.2⟩, ⟨b2.1, by simpa using b2.2⟩⟩, j3⟩
  unfold stampB
  simp only [List.append_assoc]
  rw [← e2, ← e1, ← e0]
theorem stampsN_back : ∀ (n : Nat) {z t : List Int} {l : List St}, InB z → stampsN n z = some (l, t) → z = stampsB l ++ t ∧ l.length = n ∧ (∀ x ∈ l, x.Wf) ∧ InB t
  | 0, z, t, l, h, hp => by
    simp only [stampsN, Option.some.injEq, Prod.mk.injEq] at hp
    obtain ⟨rfl, rfl⟩ := hp
    exact ⟨rfl, rfl, (fun x hx => by cases hx), h⟩
  | n + 1, z, t, l, h, hp => by
    rw [stampsN] at hp
    rcases h0 : stampP z with _ | ⟨x, z1⟩
    · rw [h0] at hp; cases hp
    rw [h0] at hp; simp only at hp
    obtain ⟨e0, w0, i1⟩ := stampP_back h h0
    rcases h1 : stampsN n z1 with _ | ⟨l', u⟩
    · rw [h1] at hp; cases hp
    rw [h1] at hp; simp only [Option.some.injEq, Prod.mk.injEq] at hp
    obtain ⟨rfl, rfl⟩ := hp
    obtain ⟨e2, n2, w2, i2⟩ := stampsN_back n i1 h1
    have e3 : stampsB (x :: l') = stampB x ++ stampsB l' := by unfold stampsB; rw [List.flatMap_cons]
    exact ⟨by rw [e3, List.append_assoc, ← e2, ← e0], by rw [List.length_cons, n2], fun y hy => (List.mem_cons.1 hy).elim (fun e => by rw [e]; exact w0) (w2 y), i2⟩
theorem measP_back {z t : List Int} {x : Nd} (hi : InB z) (hp : measP z = some (x, t)) : z = measB x ++ t ∧ nodeOk x = true ∧ x.er = x ∧ x.Wf ∧ InB t := by
  have h := byt_of hi
  unfold measP at hp
  rcases h0 : numP 2 z with _ | ⟨m, z1⟩
  · rw [h0] at hp; cases hp
  rw [h0] at hp; simp only at hp
  have e0 := numP_back h h0
  obtain ⟨b0, j1⟩ := numP_in hi h0
  by_cases q : m.toNat ≤ z1.length
  · rw [if_pos q] at hp
    rcases h1 : nodeAll (z1.take m.toNat) with _ | y
    · rw [h1] at hp; cases hp
    rw [h1] at hp
    simp only [Option.some.injEq, Prod.mk.injEq] at hp
    obtain ⟨rfl, rfl⟩ := hp
    obtain ⟨e1, o1, r1, w1⟩ := nodeAll_back (j1.take _) h1
    refine ⟨?_, o1, r1, w1, j1.drop _⟩
    have hl : ((nodeB y).length : Int) = m := by rw [e1, List.length_take]; omega
    unfold measB
    rw [hl, e1, List.append_assoc, List.take_append_drop, ← e0]
  · rw [if_neg q] at hp; cases hp
theorem measN_back : ∀ (n : Nat) {z t : List Int} {l : List Nd}, InB z → measN n z = some (l, t) → z = measuresB l ++ t ∧ l.length = n ∧ (∀ x ∈ l, nodeOk x = true ∧ x.er = x ∧ x.Wf) ∧ InB t
  | 0, z, t, l, h, hp => by
    simp only [measN, Option.some.injEq, Prod.mk.injEq] at hp
    obtain ⟨rfl, rfl⟩ := hp
    exact ⟨rfl, rfl, (fun x hx => by cases hx), h⟩
  | n + 1, z, t, l, h, hp => by
    rw [measN] at hp
    rcases h0 : measP z with _ | ⟨x, z1⟩
    · rw [h0] at hp; cases hp
    rw [h0] at hp; simp only at hp
    obtain ⟨e0, o0, r0, w0, i1⟩ := measP_back h h0
    rcases h1 : measN n z1 with _ | ⟨l', u⟩
    · rw [h1] at hp; cases hp
    rw [h1] at hp; simp only [Option.some.injEq, Prod.mk.injEq] at hp
    obtain ⟨rfl, rfl⟩ := hp
    obtain ⟨e2, n2, w2, i2⟩ := measN_back n i1 h1
    have e3 : measuresB (x :: l') = measB x ++ measuresB l' := by unfold measuresB; rw [List.flatMap_cons]
    exact ⟨by rw [e3, List.append_assoc, ← e2, ← e0], by rw [List.length_cons, n2], fun y hy => (List.mem_cons.1 hy).elim (fun e => by rw [e]; exact ⟨o0, r0, w0⟩) (w2 y), i2⟩
/-- WHAT IS WRITTEN OF A SNAPSHOT THAT WAS READ ARE ITS BYTES. -/
theorem snapP_back {z t : List Int} {ns : List Nd} {ss : List St} (hi : InB z) (hp : snapP z = some ((ns, ss), t)) : z = snapB ns ss ++ t ∧ ns.length ≤ 40 ∧ ss.length ≤ 40 ∧ (∀ x ∈ ns, nodeOk x = true ∧ x.er = x ∧ x.Wf) ∧ ∀ x ∈ ss, x.Wf := by
  unfold snapP at hp
  rcases h0 : measuresP z with _ | ⟨ns', z1⟩
  · rw [h0] at hp; cases hp
  rw [h0] at hp; simp only at hp
  rcases h1 : stampsP z1 with _ | ⟨ss', z2⟩
  · rw [h1] at hp; cases hp
  rw [h1] at hp
  simp only [Option.some.injEq, Prod.mk.injEq] at hp
  obtain ⟨⟨rfl, rfl⟩, rfl⟩ := hp
  unfold measuresP at h0
  rcases h2 : numP 1 z with _ | ⟨m, z3⟩
  · rw [h2] at h0; cases h0
  rw [h2] at h0; simp only at h0
  have e2 := numP_back (byt_of hi) h2
  obtain ⟨b2, j3⟩ := numP_in hi h2
  split at h0
  · obtain ⟨e3, n3, w3, j1⟩ := measN_back _ j3 h0
    unfold stampsP at h1
    rcases h4 : numP 1 z1 with _ | ⟨k, z5⟩
    · rw [h4] at h1; cases h1
    rw [h4] at h1; simp only at h1
    have e4 := numP_back (byt_of j1) h4
    obtain ⟨b4, j5⟩ := numP_in j1 h4
    split at h1
    · obtain ⟨e5, n5, w5, _⟩ := stampsN_back _ j5 h1
      have hm : (ns'.length : Int) = m := by omega
      have hk : (ss'.length : Int) = k := by omega
      refine ⟨?_, by omega, by omega, w3, w5⟩
      unfold snapB
      simp only [List.append_assoc]
      rw [hm, hk, ← e5, ← e4, ← e3, ← e2]
    · cases h1
  · cases h0
end Go.Proofs.Ytbgninmkglgfeaa
namespace Go.Proofs.Ytbgninmkglgfeaa
open Go.RowKit Go.ChangeShapes Go.WideShapes Go.ChangeAt Go.Maps
set_option linter.unusedVariables false
set_option linter.unusedSimpArgs false
set_option maxRecDepth 100000
/-- append of one byte, and where the row lies behind it. -/
theorem step_app1q (w : World) {ops : Array Oper} {o : Oper} {a : Act} {K : Act → World → Prop} {Q : Exit → Act → World → Prop} {E : Prop} (hgd : o.guard = none) (s x : Operand)
    (ho : o.op = .call { callee := .builtin .append, args := #[s, x], argTypes := #[22, 22] }) (base : Nat) (v : Value) (n : Nat) (xs : List Value) (hs : a.eval s = v) (hown : w.ownsRow base 5 1 v n xs)
    (g : Nat) (b : Int) (hx : a.eval x = .slice (some ⟨g, 0, none⟩) 1 1) (hb : w.heap[g]? = some (.cells #[.int .u8 b] 5 (0, 0))) (h63 : n ≤ 1000000) (hbase : base ≤ w.heap.size)
    (h : ∀ v' w', w'.ownsRow base 5 1 v' (n + 1) (xs ++ [.int .u8 b]) → w.grownBy w' v.ownBlock → (v'.ownBlock = v.ownBlock ∨ v'.ownBlock = some w.heap.size) → K (a.put o.dst v') w') :
    if Region.wanted o (yielded ops a.tmps) = true then Oper.wp Try.prog o a w K Q else E := by
  rw [if_pos (by simp [Region.wanted, hgd])]
  obtain ⟨i0, hi, hz0, hz1, hz2⟩ := info_parts8
  have hnews : ∀ (j : Nat) (u : Value), [Value.int .u8 b][j]? = some u → w.cell? ((⟨g, 0, none⟩ : Addr).add j) = some u := fun j u hu => by
    have e : (⟨g, 0, none⟩ : Addr).add j = ⟨g, 0 + j, none⟩ := by unfold Addr.add; split <;> simp_all
    rw [e, cell_of_row w g _ _ _ _ hb]
    simpa using hu
  obtain ⟨v', w', hr, h2, h3, h4, h5⟩ := run_append_own_at (P := Try.prog) w base 22 o.type 5 i0 (.int .u8 0) 1 1 Try.underlying22 hi hz0 hz1 hz2 rfl (by decide) v n xs hown ⟨g, 0, none⟩ 1 1 [.int .u8 b] rfl hnews (fun y hy => by simp at hy; subst hy; rfl) (by unfold maxLen; omega) (by omega) hbase
  unfold Oper.wp execOp
  simp only [ho, resolve, invoke, builtin, Sem.run_bind, Sem.run_pure, Result.andThen_ok, List.map_toArray, List.map_cons, List.map_nil, hs, hx, hr]
  exact h v' w' h2 h3 h5
/-- A writer whose row is not in block q. -/
def PileQ (w : World) (T base g q : Nat) (zs : List Int) : Prop :=
  g < base ∧ base ≤ w.heap.size ∧ ∃ v, w.heap[g]? = some (.cells #[v] T (0, 0)) ∧ w.ownsRow base 5 1 v zs.length (zs.map u8V) ∧ v.ownBlock ≠ some q
theorem PileQ.pile {w : World} {T base g q : Nat} {zs : List Int} (h : PileQ w T base g q zs) : Pile w T base g zs := by
  obtain ⟨h1, h2, v, h3, h4, _⟩ := h
  exact ⟨h1, h2, v, h3, h4⟩
theorem Pile.later {w w' : World} {T base g : Nat} {zs : List Int} (h : Pile w T base g zs) (hb : Below w.heap.size w w') : Pile w' T base g zs := by
  obtain ⟨h1, h2, v, h3, h4⟩ := h
  exact ⟨h1, Nat.le_trans h2 hb.size, v, (hb.block _ (lt_blkR h3)).trans h3, own_latR h4 hb⟩
theorem Pile.q {w w' : World} {T base g q : Nat} {zs : List Int} (h : Pile w T base g zs) (hb : Below w.heap.size w w') (hq : w.heap.size ≤ q) : PileQ w' T base g q zs := by
  obtain ⟨h1, h2, v, h3, h4⟩ := h
  exact ⟨h1, Nat.le_trans h2 hb.size, v, (hb.block _ (lt_blkR h3)).trans h3, own_latR h4 hb, fun e => by have := (h4.lt q e).2; omega⟩
theorem below_kpT {w w' : World} {base g : Nat} (hb : Below w.heap.size w w') (hbase : base ≤ w.heap.size) : KpT base g w w' :=
  ⟨hb.os, hb.tape, hb.output, hb.size, fun k hk _ => hb.block k (by omega), fun k o h _ _ => (hb.block k (lt_blkR h)).trans h⟩
set_option maxRecDepth 20000 in
set_option maxHeartbeats 1000000 in
theorem number_q (T base g q : Nat) (zs : List Int) (n : Int) (s : Nat) (w : World) (hp : PileQ w T base g q zs) (oq : Obj) (hqo : w.heap[q]? = some oq) (hqg : q ≠ g) (hn : zs.length < 900000) (hs : s ≤ 8) (h0 : 0 ≤ n) (h1 : n < 18446744073709551616) :
    Calls Try.prog 90 #[.pointer (some ⟨g, 0, none⟩), .int .u64 n, .int .i64 s] w fun e w' => e = .returned (.tuple #[]) ∧ PileQ w' T base g q (zs ++ beF n s) ∧ KpT base g w w' ∧ w'.heap[q]? = some oq := by
  have HP := hid hp
  have HQO := hid hqo
  clear hp hqo
  go_enter Try.func90, Try.ntmps90
  go_wp2
  go_loopg [8] s (fun k v wr => ∃ i : Nat, i + k = s ∧ v = .int .i64 i ∧ Hid (PileQ wr T base g q (zs ++ (beF n s).take i)) ∧ Hid (KpT base g w wr) ∧ Hid (wr.heap[q]? = some oq))
  case atStart => exact ⟨0, by omega, rfl, hid (by simpa using HP.out), hid (KpT.refl _ _ _), HQO⟩
  case round =>
    obtain ⟨i, hik, rfl, HPi, HK, HQ⟩ := hrel
    by_cases hlt : i < s
    · have hltI : (i : Int) < s := by omega
      obtain ⟨hg, hbase, v, hbox, hown, hvq⟩ := HPi.out
      obtain ⟨va, vn, vc, rfl⟩ := own_slice hown
      have hc := cell_box hbox
      have hgl : g < wr.heap.size := by omega
      have hdown : wr.drew.ownsRow base 5 1 (.slice va vn vc) (zs ++ (beF n s).take i).length ((zs ++ (beF n s).take i).map u8V) := hown
      have hll : (zs ++ (beF n s).take i).length ≤ 1000000 := by rw [List.length_append, List.length_take, beF_len]; omega
      obtain ⟨d, hd⟩ : ∃ d, d = s - 1 - i := ⟨_, rfl⟩
      have HD := hid hd
      have k1 : IntKind.i64.wrap ((s : Int) - 1) = (s : Int) - 1 := by rw [IntKind.wrap_i64]; omega
      have k2 : IntKind.i64.wrap ((s : Int) - 1 - i) = d := by rw [IntKind.wrap_i64]; omega
      have k3 : IntKind.i64.wrap (8 * (d : Int)) = 8 * (d : Int) := by rw [IntKind.wrap_i64]; omega
      have k4 := shr_u64 n d (by omega)
      have HBT := hid (beF_take n s i hlt)
      rw [← hd] at HBT
      clear hd
      go_upto_region 3 with fail
      go_region_law (first | (refine step_app1q _ (by rfl) _ _ (by rfl) base (.slice va vn vc) _ _ (by rfl) (hdown.alloc _) wr.heap.size _ (by rfl) (heap_alloc_new _ _) hll (Nat.le_trans hbase (below_1 _ _).size) ?_; intro v' w5 hown' hgrow5 hat5; (have hbox5 := lay_box (w := wr.drew) hbox hdown hg hgrow5 hgl); (have hc5 := cell_box hbox5); (have hf5 := frozen_box hbox5); obtain ⟨a5, n5, c5, rfl⟩ := own_slice hown'))
      all_goals
        have hqr : q < wr.heap.size := lt_blkR HQ.out
        have HQ2 : Hid ((w5.setCell ⟨g, 0, none⟩ (.slice a5 n5 c5)).heap[q]? = some oq) := hid (by
          rw [heap_setCell_other _ _ _ _ hqg, hgrow5.block q (by simp; omega) (fun e => hvq e.symm)]
          exact (Below.heap_alloc wr _ q hqr).trans HQ.out)
        have HP2 : Hid (PileQ (w5.setCell ⟨g, 0, none⟩ (.slice a5 n5 c5)) T base g q (zs ++ (beF n s).take (i + 1))) := hid (by
          refine ⟨hg, ?_, _, heap_setBox _ hbox5, ?_, ?_⟩
          · have := hgrow5.size; simp at this ⊢; omega
          · rw [HBT.out, ← List.append_assoc]
            have := ownsRow_setCell_below hown' (a := ⟨g, 0, none⟩) hg (.slice a5 n5 c5)
            rw [List.length_append, List.map_append]
            simpa [u8V, IntKind.wrap_u8'] using this
          · intro e
            rcases hat5 with h5 | h5
            · rw [h5] at e; exact hvq e
            · rw [h5] at e
              have e2 := Option.some.inj e
              simp at e2
              omega)
        have HK2 := hid (HK.out.on (lay_kpT (w := wr.drew) (v' := .slice a5 n5 c5) hdown hg hgrow5 hbase))
        go_wp2
        go_roundg (gk - 1)
        case measure => omega
        case rel => exact ⟨i + 1, by omega, by go_num, HP2, HK2, HQ2⟩
    · have em : i = s := by omega
      subst em
      have hge : ¬ (i : Int) < i := by omega
      have HP3 : Hid (PileQ wr T base g q (zs ++ beF n i)) := hid (by have := HPi.out; rw [List.take_of_length_le (by rw [beF_len]; omega)] at this; exact this)
      go_wp2
      exact body_end (by kernel_rfl) rfl ⟨rfl, HP3.out, HK.out, HQ.out⟩
theorem stamp_notU8 (x : St) : NotU8 (.cells x.cells.toArray 85 (0, 0)) := fun cs fr e => by
  injection e with e1 e2
  cases e2
set_option maxHeartbeats 2000000 in
theorem putStamp_c (T base g : Nat) (zs : List Int) (x : St) (w : World) (hp : Pile w T base g zs) (hn : zs.length < 400000) (hw : x.Wf) :
    Calls Try.prog 80 #[.pointer (some ⟨g, 0, none⟩), x.val] w fun e w' => e = .returned (.tuple #[]) ∧ Pile w' T base g (zs ++ stampB x) ∧ KpT base g w w' := by
  obtain ⟨h1, h2, h3⟩ := hw
  have u1 : IntKind.u64.wrap x.fid = x.fid := by rw [IntKind.wrap_u64]; omega
  have u3 : IntKind.u64.wrap x.wr = x.wr := by rw [IntKind.wrap_u64]; omega
  have hx : (w.alloc (.cells x.cells.toArray 85)).heap[w.heap.size]? = some (.cells x.cells.toArray 85 (0, 0)) := heap_alloc_new w _
  have y0 : (w.alloc (.cells x.cells.toArray 85)).cell? ⟨w.heap.size, 0, none⟩ = some (.int .u32 x.fid) := cell_of_row2 hx 0 rfl
  have hne : w.heap.size ≠ g := by have := hp.len; omega
  have HX := hid hx
  have K0 : Hid (KpT base g w (w.alloc (.cells x.cells.toArray 85))) := hid (alloc_kpT _ hp.len.2)
  have N1 := hid (num4_c (n := x.fid) (hp.other (w' := w) (.cells x.cells.toArray 85)) (by omega) h1.1 (by omega))
  have N2 := hid (fun W (hq : Pile W T base g (zs ++ beF x.fid 4)) => num8_c (n := x.ver) hq (by rw [List.length_append, beF_len]; omega) h2.1 (by omega))
  have N3 := hid (fun W (hq : Pile W T base g (zs ++ beF x.fid 4 ++ beF x.ver 8)) => num1_c (n := x.wr) hq (by simp only [List.length_append, beF_len]; omega) h3.1 (by omega))
  have t0 := hid True.intro
  have EB : Hid (zs ++ stampB x = zs ++ beF x.fid 4 ++ beF x.ver 8 ++ beF x.wr 1) := hid (by unfold stampB; simp only [List.append_assoc])
  rw [EB.out]
  clear hx hp h1 h2 h3
  obtain ⟨sf, sv, sw⟩ := x
  simp only [St.val, St.cells] at *
  go_enter Try.func80, Try.ntmps80
  go_wp2_with (first
    | (have _q := t2.out; clear _q; go_at_call 90; refine (N3.out _ HP2.out).mono ?_; rintro _ w3 ⟨rfl, hp3, hk3⟩)
    | (have _q := t1.out; clear _q; go_at_call 90; refine (N2.out _ HP1.out).mono ?_; rintro _ w2 ⟨rfl, hp2, hk2⟩
       have HP2 := hid hp2
       have K2 := hid (K1.out.trans hk2)
       have z2 : w2.cell? ⟨w.heap.size, 2, none⟩ = some (.int .u8 sw) := cell_of_row2 (hk2.other _ _ HX1.out hne (stamp_notU8 ⟨sf, sv, sw⟩)) 2 rfl
       have t2 := hid True.intro
       clear hp2 hk2 t1)
    | (have _q := t0.out; clear _q; go_at_call 90; refine N1.out.mono ?_; rintro _ w1 ⟨rfl, hp1, hk1⟩
       have HP1 := hid hp1
       have K1 := hid (K0.out.trans hk1)
       have HX1 := hid (hk1.other _ _ HX.out hne (stamp_notU8 ⟨sf, sv, sw⟩))
       have z1 : w1.cell? ⟨w.heap.size, 1, none⟩ = some (.int .u64 sv) := cell_of_row2 HX1.out 1 rfl
       have t1 := hid True.intro
       clear hp1 hk1 t0))
  exact body_end (by kernel_rfl) rfl ⟨rfl, hp3, K2.out.trans hk3⟩
set_option maxHeartbeats 2000000 in
theorem putMeasured_c (T base g : Nat) (zs : List Int) (x : Nd) (w : World) (hp : Pile w T base g zs) (hn : zs.length < 90000) (hok : x.Ok w) (hw : x.Wf) (ho : nodeOk x = true) :
    Calls Try.prog 78 #[.pointer (some ⟨g, 0, none⟩), x.val] w fun e w' => e = .returned (.tuple #[]) ∧ Pile w' T base g (zs ++ measB x) ∧ KpT base g w w' := by
  obtain ⟨s1, s2, s3⟩ := node_small ho
  have hlen := nodeB_len hw ho
  have hpos : 0 < (nodeB x).length := by unfold nodeB; simp only [List.length_append, beF_len]; omega
  have b0 := below_1 w (.cells x.cells.toArray 39)
  have hx := heap_alloc_new w (.cells x.cells.toArray 39)
  obtain ⟨y0, y1, y2, y3, y4, y5⟩ := nd_cells hx
  have WC := hid (writtenNode_c x _ (hok.later b0) s1 (by omega) s3)
  have hb2 := hp.len
  have HP := hid hp
  have B0 := hid b0
  have S0 : Hid ((w.alloc (.cells x.cells.toArray 39)).heap.size = w.heap.size + 1) := hid (by simp)
  obtain ⟨N, hN⟩ : ∃ N, N = nodeB x := ⟨_, rfl⟩
  have EB : Hid (zs ++ measB x = zs ++ beF N.length 2 ++ N) := hid (by unfold measB; rw [hN]; simp only [List.append_assoc])
  rw [EB.out]
  rw [← hN] at WC hlen hpos
  clear hN hp b0 hx hok hw ho s1 s2 s3
  have ku : IntKind.u64.wrap (N.length : Int) = N.length := by rw [IntKind.wrap_u64]; omega
  have t0 := hid True.intro
  obtain ⟨fid, k, md, ln, da, dc, ds, ka, kc, ks⟩ := x
  simp only [Nd.val, Nd.cells] at *
  go_enter Try.func78, Try.ntmps78
  go_wp2_with (first
    | (have _q := t2.out; clear _q; at_builtin; refine wpList_plain rfl fun K hK => wp_appB _ _ _ rfl base _ _ rfl OB.out _ _ rfl SRC.out (by rw [List.length_append, beF_len]; omega) (by omega) (Nat.le_trans hb2.2 SZ.out) (fun v9 w9 ho9 hg9 => hK _ _ ?_)
       have hbx9 : w9.heap[g]? = some (.cells #[.slice va vn vc] T (0, 0)) := (hg9.block g (lt_blkR BX.out) (fun e => by have := (OB.out.lt g e.symm).1; omega)).trans BX.out
       have c9 := cell_box hbx9
       have f9 := frozen_box hbx9
       have HBX := hid hbx9
       have O9 := hid ho9
       have KP := hid (text_kpT (v' := v9) OB.out (by omega) hg9 (Nat.le_trans hb2.2 SZ.out))
       have S9 := hid (Nat.le_trans SZ.out hg9.size)
       obtain ⟨a9, n9, c9', rfl⟩ := ho9.any
       clear ho9 hg9 hbx9 t2)
    | (have _q := t1.out; clear _q; go_at_call 90; refine (number_q T base g q zs (N.length : Int) 2 w2 PQ.out _ HQ2.out QG.out (by omega) (by omega) (by omega) (by omega)).mono ?_; rintro _ w3 ⟨rfl, hp3, hk3, hq3⟩
       obtain ⟨_, _, v3, hbox3, hown3, _⟩ := hp3
       have SRC := hid (show OwB w3 0 (.slice (some ⟨q, 0, none⟩) N.length qc) N from ⟨OQ.out.1, .inr ⟨q, qc, cur, rfl, Nat.zero_le _, hq3, OQ2.out⟩⟩)
       have OB := hid (show OwB w3 base v3 (zs ++ beF (N.length : Int) 2) from hown3)
       have BX := hid hbox3
       have c3 := cell_box hbox3
       have K3 := hid (K2.out.trans hk3)
       have SZ := hid (Nat.le_trans SZ2.out hk3.size)
       obtain ⟨va, vn, vc, rfl⟩ := own_slice hown3
       have t2 := hid True.intro
       clear hbox3 hown3 hk3 hq3 t1)
    | (have _q := t0.out; clear _q; go_at_call 47; refine WC.out.mono ?_; rintro _ w2 ⟨v2, rfl, hO2, hb3⟩
       have OQ := hid hO2
       rcases hO2.2 with ⟨_, h0⟩ | ⟨q, qc, cur, rfl, hq1, hq2, hq3⟩
       · exact absurd h0 (by omega)
       have BB := hid (B0.out.trans (hb3.mono B0.out.size))
       have PQ := hid (HP.out.q BB.out (show w.heap.size ≤ q by rw [S0.out] at hq1; omega))
       have K2 := hid (below_kpT (g := g) BB.out hb2.2)
       have QL := hid (lt_blkR hq2)
       have QG : Hid (q ≠ g) := hid (by rw [S0.out] at hq1; omega)
       have HQ2 := hid hq2
       have OQ2 := hid hq3
       have SZ2 := hid BB.out.size
       have t1 := hid True.intro
       clear hO2 hb3 hq1 hq2 hq3 t0))
  refine body_end (by kernel_rfl) rfl ⟨rfl, ⟨hb2.1, by have := Nat.le_trans hb2.2 S9.out; simpa [World.setCell] using this, _, heap_setBox _ HBX.out, ?_⟩, K3.out.trans KP.out⟩
  exact own_set O9.out (p := ⟨g, 0, none⟩) hb2.1 _
end Go.Proofs.Ytbgninmkglgfeaa
namespace Go.Proofs.Ytbgninmkglgfeaa
open Go.RowKit Go.ChangeShapes Go.WideShapes Go.ChangeAt Go.Maps
set_option linter.unusedVariables false
set_option linter.unusedSimpArgs false
set_option maxRecDepth 100000
theorem measB_len {x : Nd} (hw : x.Wf) (ho : nodeOk x = true) : (measB x).length ≤ 2002 := by
  have := nodeB_len hw ho
  unfold measB
  rw [List.length_append, beF_len]; omega
theorem measuresB_le : ∀ {l : List Nd}, (∀ x ∈ l, x.Wf ∧ nodeOk x = true) → (measuresB l).length ≤ l.length * 2002
  | [], _ => by simp [measuresB]
  | x :: t, h => by
    have h1 := measB_len (h x (by simp)).1 (h x (by simp)).2
    have h2 := measuresB_le (l := t) (fun y hy => h y (by simp [hy]))
    have e : measuresB (x :: t) = measB x ++ measuresB t := by unfold measuresB; rw [List.flatMap_cons]
    rw [e, List.length_append, List.length_cons]
    omega
theorem measuresB_snoc (l : List Nd) (x : Nd) : measuresB (l ++ [x]) = measuresB l ++ measB x := by unfold measuresB; simp
theorem take_nd {l : List Nd} {m : Nat} (h : m < l.length) : l.take (m + 1) = l.take m ++ [l.getD m Nd.no] := by
  rw [List.take_add_one, List.getD, List.getElem?_eq_getElem h]; rfl
theorem stampB_len (s : St) : (stampB s).length = 13 := by unfold stampB; simp only [List.length_append, beF_len]
theorem stampsB_len : ∀ (l : List St), (stampsB l).length = l.length * 13
  | [] => rfl
  | x :: t => by
    have e : stampsB (x :: t) = stampB x ++ stampsB t := by unfold stampsB; rw [List.flatMap_cons]
    rw [e, List.length_append, List.length_cons, stampB_len, stampsB_len t]
    omega
theorem stampsB_snoc (l : List St) (x : St) : stampsB (l ++ [x]) = stampsB l ++ stampB x := by unfold stampsB; simp
theorem take_st {l : List St} {m : Nat} (h : m < l.length) : l.take (m + 1) = l.take m ++ [l.getD m St.no] := by
  rw [List.take_add_one, List.getD, List.getElem?_eq_getElem h]; rfl
set_option maxHeartbeats 2000000 in
theorem putListN_c (T base g : Nat) (zs : List Int) (a : Option Addr) (cap : Nat) (l : List Nd) (w : World) (hp : Pile w T base g zs) (hn : zs.length < 1000) (hl : ∀ W, KpT base g w W → IsNs W a l) (hm : l.length ≤ 40) (hs : ∀ x ∈ l, x.Wf ∧ nodeOk x = true) :
    Calls Try.prog 77 #[.pointer (some ⟨g, 0, none⟩), .slice a l.length cap, .func (.func 78) #[] #[]] w fun e w' => e = .returned (.tuple #[]) ∧ Pile w' T base g (zs ++ (beF l.length 1 ++ measuresB l)) ∧ KpT base g w w' := by
  have NC := hid (num1_c (n := (l.length : Int)) hp (by omega) (by omega) (by omega))
  have HL := hid hl
  have HS := hid hs
  have ku : IntKind.u64.wrap (l.length : Int) = l.length := by rw [IntKind.wrap_u64]; omega
  clear hp hl hs
  obtain ⟨n, hnn⟩ : ∃ n, n = l.length := ⟨_, rfl⟩
  rw [← hnn] at hm NC ku ⊢
  have HN := hid hnn
  clear hnn
  go_enter Try.func77, Try.ntmps77
  go_wp2_with (go_at_call 90; refine NC.out.mono ?_; rintro _ w1 ⟨rfl, hp1, hk1⟩; have HP1 := hid hp1; have K1 := hid hk1; clear hp1 hk1)
  clear NC
  go_loopg [15] n (fun k v wr => ∃ m : Nat, m + k = n ∧ v = .int .i64 m ∧ Hid (Pile wr T base g (zs ++ beF n 1 ++ measuresB (l.take m))) ∧ Hid (KpT base g w wr))
  case atStart => exact ⟨0, by omega, rfl, hid (by simpa [measuresB] using HP1.out), K1⟩
  case round =>
    clear HP1 K1
    obtain ⟨m, hmk, rfl, HP, HK⟩ := hrel
    by_cases hlt : m < n
    · have hltI : (m : Int) < n := by omega
      have hln : m < l.length := by rw [← HN.out]; exact hlt
      have KA : Hid (∀ o, KpT base g w (wr.alloc o)) := hid (fun o => HK.out.trans (alloc_kpT o HP.out.len.2))
      have hil := HL.out wr HK.out
      obtain ⟨b, off, rfl, _⟩ := hil.2.2 (by omega)
      obtain ⟨y0, y1, y2, y3, y4, y5⟩ := (hil.at (i := m) hln).all
      have hok := fun o => (HL.out _ (KA.out o)).ok (i := m) hln
      have hgd := HS.out _ (getD_mem l Nd.no hln)
      have HT := hid (take_nd (l := l) (m := m) hln)
      have hlen : (zs ++ beF n 1 ++ measuresB (l.take m)).length < 90000 := by
        have := measuresB_le (l := l.take m) (fun x hx => HS.out x (List.mem_of_mem_take hx))
        rw [List.length_take] at this
        rw [List.length_append, List.length_append, beF_len]
        omega
      clear hil hln
      generalize l.getD m Nd.no = x at *
      have PC := hid (putMeasured_c T base g _ x _ (HP.out.other (w' := wr) (.cells x.cells.toArray 39)) hlen (hok _) hgd.1 hgd.2)
      have hA := heap_alloc_new wr (.cells x.cells.toArray 39)
      obtain ⟨p0, p1, p2, p3, p4, p5⟩ := nd_cells hA
      clear hok hgd hlen hA
      obtain ⟨fid, k, md, ln, da, dc, ds, ka, kc, ks⟩ := x
      simp only [Nd.val, Nd.cells] at *
      go_wp2_with (go_at_call 78; refine PC.out.mono ?_; rintro _ w2 ⟨rfl, hp2, hk2⟩)
      go_roundg (gk - 1)
      case measure => omega
      case rel => exact ⟨m + 1, by omega, by go_num, hid (by rw [HT.out, measuresB_snoc, ← List.append_assoc]; exact hp2), hid ((KA.out _).trans hk2)⟩
    · have em : m = n := by omega
      have hge : ¬ (m : Int) < n := by omega
      have HP2 : Hid (Pile wr T base g (zs ++ (beF n 1 ++ measuresB l))) := hid (by
        have := HP.out
        rw [List.take_of_length_le (by rw [← HN.out]; omega), List.append_assoc] at this
        exact this)
      go_wp2
      exact body_end (by kernel_rfl) rfl ⟨rfl, HP2.out, HK.out⟩
set_option maxHeartbeats 2000000 in
theorem putListS_c (T base g : Nat) (zs : List Int) (a : Option Addr) (cap : Nat) (l : List St) (w : World) (hp : Pile w T base g zs) (hn : zs.length < 100000) (hl : ∀ W, KpT base g w W → IsSs W a l) (hm : l.length ≤ 40) :
    Calls Try.prog 79 #[.pointer (some ⟨g, 0, none⟩), .slice a l.length cap, .func (.func 80) #[] #[]] w fun e w' => e = .returned (.tuple #[]) ∧ Pile w' T base g (zs ++ (beF l.length 1 ++ stampsB l)) ∧ KpT base g w w' := by
  have NC := hid (num1_c (n := (l.length : Int)) hp (by omega) (by omega) (by omega))
  have HL := hid hl
  have ku : IntKind.u64.wrap (l.length : Int) = l.length := by rw [IntKind.wrap_u64]; omega
  clear hp hl
  obtain ⟨n, hnn⟩ : ∃ n, n = l.length := ⟨_, rfl⟩
  rw [← hnn] at hm NC ku ⊢
  have HN := hid hnn
  clear hnn
  go_enter Try.func79, Try.ntmps79
  go_wp2_with (go_at_call 90; refine NC.out.mono ?_; rintro _ w1 ⟨rfl, hp1, hk1⟩; have HP1 := hid hp1; have K1 := hid hk1; clear hp1 hk1)
  clear NC
  go_loopg [15] n (fun k v wr => ∃ m : Nat, m + k = n ∧ v = .int .i64 m ∧ Hid (Pile wr T base g (zs ++ beF n 1 ++ stampsB (l.take m))) ∧ Hid (KpT base g w wr))
  case atStart => exact ⟨0, by omega, rfl, hid (by simpa [stampsB] using HP1.out), K1⟩
  case round =>
    clear HP1 K1
    obtain ⟨m, hmk, rfl, HP, HK⟩ := hrel
    by_cases hlt : m < n
    · have hltI : (m : Int) < n := by omega
      have hln : m < l.length := by rw [← HN.out]; exact hlt
      have hil := HL.out wr HK.out
      obtain ⟨b, off, rfl, _⟩ := hil.2.2 (by omega)
      obtain ⟨y0, y1, y2⟩ := hil.at (i := m) hln
      have hwf := hil.wf (i := m) hln
      have HT := hid (take_st (l := l) (m := m) hln)
      have hlen : (zs ++ beF n 1 ++ stampsB (l.take m)).length < 400000 := by
        rw [List.length_append, List.length_append, beF_len, stampsB_len, List.length_take]
        omega
      clear hil hln
      generalize l.getD m St.no = x at *
      have PC := hid (putStamp_c T base g _ x _ (HP.out.other (w' := wr) (.cells x.cells.toArray 85)) hlen hwf)
      have KA : Hid (KpT base g w (wr.alloc (.cells x.cells.toArray 85))) := hid (HK.out.trans (alloc_kpT _ HP.out.len.2))
      clear hwf hlen
      obtain ⟨sf, sv, sw⟩ := x
      simp only [St.val, St.cells] at *
      go_wp2_with (go_at_call 80; refine PC.out.mono ?_; rintro _ w2 ⟨rfl, hp2, hk2⟩)
      go_roundg (gk - 1)
      case measure => omega
      case rel => exact ⟨m + 1, by omega, by go_num, hid (by rw [HT.out, stampsB_snoc, ← List.append_assoc]; exact hp2), hid (KA.out.trans hk2)⟩
    · have em : m = n := by omega
      have hge : ¬ (m : Int) < n := by omega
      have HP2 : Hid (Pile wr T base g (zs ++ (beF n 1 ++ stampsB l))) := hid (by
        have := HP.out
        rw [List.take_of_length_le (by rw [← HN.out]; omega), List.append_assoc] at this
        exact this)
      go_wp2
      exact body_end (by kernel_rfl) rfl ⟨rfl, HP2.out, HK.out⟩
theorem snap_notU8 (a b : Value) : NotU8 (.cells #[a, b] 49 (0, 0)) := fun cs fr e => by
  injection e with e1 e2
  cases e2
set_option maxHeartbeats 2000000 in
theorem putSnapshot_c (T base g : Nat) (a b : Option Addr) (ca cb : Nat) (ns : List Nd) (ss : List St) (w : World) (hp : Pile w T base g []) (hl : ∀ W, KpT base g w W → IsNs W a ns ∧ IsSs W b ss) (hm : ns.length ≤ 40) (hm' : ss.length ≤ 40) (hs : ∀ x ∈ ns, x.Wf ∧ nodeOk x = true) :
    Calls Try.prog 38 #[.pointer (some ⟨g, 0, none⟩), .agg #[.slice a ns.length ca, .slice b ss.length cb]] w fun e w' => e = .returned (.tuple #[]) ∧ Pile w' T base g (snapB ns ss) ∧ KpT base g w w' := by
  have hx := heap_alloc_new w (.cells #[.slice a ns.length ca, .slice b ss.length cb] 49)
  have y0 : (w.alloc (.cells #[.slice a ns.length ca, .slice b ss.length cb] 49)).cell? ⟨w.heap.size, 0, none⟩ = some (.slice a ns.length ca) := cell_of_row2 hx 0 rfl
  have hne : w.heap.size ≠ g := by have := hp.len; omega
  have HX := hid hx
  have K0 : Hid (KpT base g w (w.alloc (.cells #[.slice a ns.length ca, .slice b ss.length cb] 49))) := hid (alloc_kpT _ hp.len.2)
  have C1 := hid (putListN_c T base g [] a ca ns _ (hp.other (w' := w) (.cells #[.slice a ns.length ca, .slice b ss.length cb] 49)) (by simp) (fun W hW => (hl W (K0.out.trans hW)).1) hm hs)
  have ML := measuresB_le hs
  have C2 := hid (fun W (hW : KpT base g w W) (hq : Pile W T base g (beF ns.length 1 ++ measuresB ns)) => putListS_c T base g _ b cb ss W hq (by rw [List.length_append, beF_len]; omega) (fun V hV => (hl V (hW.trans hV)).2) hm')
  rw [List.nil_append] at C1
  clear hx hp hl hs ML
  unfold snapB
  go_enter Try.func38, Try.ntmps38
  go_wp2_with (first
    | (go_at_call 79; refine (C2.out _ K1.out HP1.out).mono ?_; rintro _ w2 ⟨rfl, hp2, hk2⟩)
    | (go_at_call 77; refine C1.out.mono ?_; rintro _ w1 ⟨rfl, hp1, hk1⟩
       have HP1 := hid hp1
       have K1 := hid (K0.out.trans hk1)
       have z1 : w1.cell? ⟨w.heap.size, 1, none⟩ = some (.slice b ss.length cb) := cell_of_row2 (hk1.other _ _ HX.out hne (snap_notU8 _ _)) 1 rfl
       clear hp1 hk1))
  exact body_end (by kernel_rfl) rfl ⟨rfl, hp2, K1.out.trans hk2⟩
set_option maxHeartbeats 2000000 in
theorem writtenSnap_c (a b : Option Addr) (ca cb : Nat) (ns : List Nd) (ss : List St) (w : World) (hn : IsNs w a ns) (hb : IsSs w b ss) (hm : ns.length ≤ 40) (hm' : ss.length ≤ 40) (hs : ∀ x ∈ ns, x.Wf ∧ nodeOk x = true) :
    Calls Try.prog 37 #[.agg #[.slice a ns.length ca, .slice b ss.length cb], .func (.func 38) #[] #[]] w fun e w' => ∃ v, e = .returned v ∧ w'.ownsRow w.heap.size 5 1 v (snapB ns ss).length ((snapB ns ss).map u8V) ∧ Below w.heap.size w w' := by
  have hx := heap_alloc_new w (.cells #[.slice a ns.length ca, .slice b ss.length cb] 49)
  have b1 := below_1 w (.cells #[.slice a ns.length ca, .slice b ss.length cb] 49)
  have hx2 := ((below_1 (w.alloc (.cells #[.slice a ns.length ca, .slice b ss.length cb] 49)) (.cells #[.slice none 0 0] 118)).block _ (lt_blkR hx)).trans hx
  have y0 : ((w.alloc (.cells #[.slice a ns.length ca, .slice b ss.length cb] 49)).alloc (.cells #[.slice none 0 0] 118)).cell? ⟨w.heap.size, 0, none⟩ = some (.slice a ns.length ca) := cell_of_row2 hx2 0 rfl
  have y1 : ((w.alloc (.cells #[.slice a ns.length ca, .slice b ss.length cb] 49)).alloc (.cells #[.slice none 0 0] 118)).cell? ⟨w.heap.size, 1, none⟩ = some (.slice b ss.length cb) := cell_of_row2 hx2 1 rfl
  have hg2 := heap_alloc_new (w.alloc (.cells #[.slice a ns.length ca, .slice b ss.length cb] 49)) (.cells #[.slice none 0 0] 118)
  have hs1 : (w.alloc (.cells #[.slice a ns.length ca, .slice b ss.length cb] 49)).heap.size = w.heap.size + 1 := by simp
  have hs2 : ((w.alloc (.cells #[.slice a ns.length ca, .slice b ss.length cb] 49)).alloc (.cells #[.slice none 0 0] 118)).heap.size = w.heap.size + 2 := by simp
  rw [hs1] at hg2
  have b2 := b1.trans ((below_1 (w.alloc (.cells #[.slice a ns.length ca, .slice b ss.length cb] 49)) (.cells #[.slice none 0 0] 118)).mono b1.size)
  have B2 := hid b2
  have HP : Hid (Pile ((w.alloc (.cells #[.slice a ns.length ca, .slice b ss.length cb] 49)).alloc (.cells #[.slice none 0 0] 118)) 118 (w.heap.size + 2) (w.heap.size + 1) []) := hid ⟨by omega, by rw [hs2]; omega, _, hg2, World.ownsRow_nil _ _ _ _⟩
  have PC := hid (putSnapshot_c 118 (w.heap.size + 2) (w.heap.size + 1) a b ca cb ns ss _ HP.out (fun W hW => ⟨hn.later (b2.trans (hW.below (by omega) (by omega))), hb.later (b2.trans (hW.below (by omega) (by omega)))⟩) hm hm' hs)
  clear hx hx2 hg2 hs1 hs2 b1 HP hn hb b2 hs
  go_enter Try.func37, Try.ntmps37
  go_wp2_with (first | (go_at_call 38; refine PC.out.mono ?_; rintro _ w1 ⟨rfl, ⟨hg, hbase, v, hbox, hown⟩, hk⟩; have hc := cell_box hbox; obtain ⟨va, vn, vc, rfl⟩ := own_slice hown))
  go_ret
  exact ⟨_, rfl, own_baseR hown (by omega), B2.out.trans (hk.below (by omega) (by omega))⟩
/-- What Snapshot answers. -/
def SnapPost (ns : List Nd) (ss : List St) (w : World) (e : Ending) (w' : World) : Prop :=
  ((RSnap ns ss ∧ ∃ v, e = .returned (.tuple #[v, .int .i64 0]) ∧ OwB w' w.heap.size v (snapB ns ss)) ∨ (¬ RSnap ns ss ∧ e = .returned (.tuple #[.slice none 0 0, .int .i64 3]))) ∧ Below w.heap.size w w'
set_option maxHeartbeats 2000000 in
theorem snapshot_c (a b : Option Addr) (ca cb : Nat) (ns : List Nd) (ss : List St) (w : World) (hn : IsNs w a ns) (hb : IsSs w b ss) (hm : ns.length ≤ 100000) (hm' : ss.length ≤ 100000) (hs : RSnap ns ss → ∀ x ∈ ns, x.Wf) :
    Calls Try.prog 17 #[.agg #[.slice a ns.length ca, .slice b ss.length cb]] w fun e w' => SnapPost ns ss w e w' := by
  have b0 := below_1 w (.cells #[.slice a ns.length ca, .slice b ss.length cb] 49)
  have h0 := heap_alloc_new w (.cells #[.slice a ns.length ca, .slice b ss.length cb] 49)
  have y0 : (w.alloc (.cells #[.slice a ns.length ca, .slice b ss.length cb] 49)).cell? ⟨w.heap.size, 0, none⟩ = some (.slice a ns.length ca) := cell_of_row2 h0 0 rfl
  have y1 : (w.alloc (.cells #[.slice a ns.length ca, .slice b ss.length cb] 49)).cell? ⟨w.heap.size, 1, none⟩ = some (.slice b ss.length cb) := cell_of_row2 h0 1 rfl
  have RC := hid (rightSnapshot_c a b ca cb ns ss _ (hn.later b0) (hb.later b0) hm hm')
  have WC := hid (fun W (hW : Below w.heap.size w W) (hr : RSnap ns ss) => writtenSnap_c a b ca cb ns ss W (hn.later hW) (hb.later hW) hr.1.1 (by
    have h1 := hr.2
    unfold stOk at h1
    rw [Bool.and_eq_true, decide_eq_true_eq] at h1
    have := hr.1.1
    omega) (fun x hx => ⟨hs hr x hx, right_ok hr.1 x hx⟩))
  have B0 := hid b0
  have H0 := hid h0
  clear b0 h0 hn hb hs
  unfold RsP2 at RC
  go_enter Try.func17, Try.ntmps17
  go_upto_region 1 with fail
  generalize (w.alloc (.cells #[.slice a ns.length ca, .slice b ss.length cb] 49)) = V at *
  go_wp2_with (first
    | (go_at_call 36; refine RC.out.mono ?_; rintro _ w1 ⟨b1, rfl, hq1, hb1⟩
       have Q1 := hid hq1
       have B1 := hid (B0.out.trans (hb1.mono B0.out.size))
       have z0 : w1.cell? ⟨w.heap.size, 0, none⟩ = some (.slice a ns.length ca) := cell_of_row2 ((hb1.block _ (lt_blkR H0.out)).trans H0.out) 0 rfl
       have z1 : w1.cell? ⟨w.heap.size, 1, none⟩ = some (.slice b ss.length cb) := cell_of_row2 ((hb1.block _ (lt_blkR H0.out)).trans H0.out) 1 rfl
       clear hq1 hb1))
  · have hb : ¬ b1 = true := by have h9 := ‹(!b1) = true›; intro e; rw [e] at h9; cases h9
    go_ret2
    exact ⟨.inr ⟨fun h => hb (Q1.out.2 h), rfl⟩, B1.out⟩
  · have hb : b1 = true := by have h9 := ‹(!b1) = false›; simpa using h9
    have HR := hid (Q1.out.1 hb)
    refine (WC.out _ B1.out HR.out).mono ?_
    rintro _ w2 ⟨v2, rfl, hO2, hb2⟩
    obtain ⟨a2, c2, rfl⟩ := own_shapeR hO2
    have O2 := hid hO2
    clear hO2
    go_wp2
    go_ret2
    exact ⟨.inl ⟨HR.out, _, rfl, own_baseR O2.out B1.out.size⟩, B1.out.trans (hb2.mono B1.out.size)⟩
end Go.Proofs.Ytbgninmkglgfeaa
