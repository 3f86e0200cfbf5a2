/-
  Plain laws on groups as sectors: which sectors a group has, when sectors begin with a group's, and that they tell which; no program is named here.
-/
import Derived.Test.YtllohapbbmnipadFMath
namespace Go.Proofs.Ytllohapbbmnipad.Jo
set_option linter.unusedVariables false
open Go.RowKit Go.Proofs.Ytllohapbbmnipad.Fr
/-- A group: its parts' bytes. -/
abbrev Gr := List (List Int)
def Bytes (l : List Int) : Prop := ∀ x ∈ l, 0 ≤ x ∧ x < 256
def Sct (l : List Int) : Prop := l.length = 32 ∧ Bytes l
/-- Bytes, filled up to a sector. -/
def pad (l : List Int) : List Int := l ++ List.replicate (32 - l.length) 0
def sealed (l : List Int) : List Int := pad (l ++ le4 (M.foldF l))
def headS (t : Int) : List Int := sealed (72 :: le4 t)
def firstS (t n k len : Int) : List Int := sealed (71 :: (le4 t ++ le4 n ++ k :: le4 len))
def lastS (t n : Int) : List Int := sealed (67 :: (le4 t ++ le4 n))
def loadF (g : Gr) : List Int := g.flatMap fun p => le4 p.length ++ p
def chunk (l : List Int) (k : Nat) : List Int := (l.drop (31 * k)).take 31
def many (n : Nat) : Nat := (n + 30) / 31
def dataS (l : List Int) (k : Nat) : List Int := pad (68 :: chunk l k)
def dataL (l : List Int) (m : Nat) : List (List Int) := (List.range m).map (dataS l)
def secsOf (n : Nat) : Nat := 2 + many n
def okG (g : Gr) : Bool := decide (1 ≤ g.length ∧ g.length ≤ 8 ∧ ∀ p ∈ g, p.length ≤ 16384)
def needF (g : Gr) : Nat := if okG g = true then secsOf (loadF g).length else 0
def laid (g : Gr) (t n : Int) : List (List Int) := firstS t n g.length (loadF g).length :: (dataL (loadF g) (many (loadF g).length) ++ [lastS t n])
theorem pad_len {l : List Int} (h : l.length ≤ 32) : (pad l).length = 32 := by unfold pad; simp; omega
theorem bytes_app {a b : List Int} (ha : Bytes a) (hb : Bytes b) : Bytes (a ++ b) := fun x hx => (List.mem_append.1 hx).elim (ha x) (hb x)
theorem bytes_cons {a : Int} {b : List Int} (ha : 0 ≤ a ∧ a < 256) (hb : Bytes b) : Bytes (a :: b) := fun x hx => by
  rcases List.mem_cons.1 hx with rfl | h
  · exact ha
  · exact hb x h
theorem bytes_le4 (n : Int) : Bytes (le4 n) := fun x hx => by have := le4_byte n x hx; omega
theorem bytes_take {l : List Int} (h : Bytes l) (n : Nat) : Bytes (l.take n) := fun x hx => h x (List.mem_of_mem_take hx)
theorem bytes_drop {l : List Int} (h : Bytes l) (n : Nat) : Bytes (l.drop n) := fun x hx => h x (List.mem_of_mem_drop hx)
theorem bytes_zero (n : Nat) : Bytes (List.replicate n 0) := fun x hx => by have := List.eq_of_mem_replicate hx; omega
theorem bytes_getD {l : List Int} (h : Bytes l) (i : Nat) : 0 ≤ l.getD i 0 ∧ l.getD i 0 < 256 := by
  by_cases hi : i < l.length
  · have := h l[i] (List.getElem_mem hi); simpa [List.getD, hi] using this
  · have : l.getD i 0 = 0 := by simp [List.getD, List.getElem?_eq_none (by omega : l.length ≤ i)]
    omega
theorem bytes_flat {L : List (List Int)} (h : ∀ l ∈ L, Bytes l) : Bytes L.flatten := fun x hx => by
  obtain ⟨l, hl, hx'⟩ := List.mem_flatten.1 hx; exact h l hl x hx'
theorem le4_len (n : Int) : (le4 n).length = 4 := rfl
theorem pad_sct {l : List Int} (h : l.length ≤ 32) (hb : Bytes l) : Sct (pad l) := ⟨pad_len h, bytes_app hb (bytes_zero _)⟩
theorem sealed_sct {l : List Int} (h : l.length ≤ 28) (hb : Bytes l) : Sct (sealed l) := pad_sct (by simp [le4_len]; omega) (bytes_app hb (bytes_le4 _))
theorem head_sct (t : Int) : Sct (headS t) := sealed_sct (by simp [le4_len]) (bytes_cons (by omega) (bytes_le4 _))
theorem first_sct (t n : Int) {k : Int} (hk : 0 ≤ k ∧ k < 256) (len : Int) : Sct (firstS t n k len) :=
  sealed_sct (by simp [le4_len]) (bytes_cons (by omega) (bytes_app (bytes_app (bytes_le4 _) (bytes_le4 _)) (bytes_cons hk (bytes_le4 _))))
theorem last_sct (t n : Int) : Sct (lastS t n) := sealed_sct (by simp [le4_len]) (bytes_cons (by omega) (bytes_app (bytes_le4 _) (bytes_le4 _)))
theorem chunk_len (l : List Int) (k : Nat) : (chunk l k).length = min 31 (l.length - 31 * k) := by unfold chunk; simp
theorem data_sct {l : List Int} (h : Bytes l) (k : Nat) : Sct (dataS l k) := pad_sct (by simp [chunk_len]; omega) (bytes_cons (by omega) (bytes_take (bytes_drop h _) _))
theorem bytes_load {g : Gr} (h : ∀ p ∈ g, Bytes p) : Bytes (loadF g) := fun x hx => by
  obtain ⟨p, hp, hx'⟩ := List.mem_flatMap.1 hx
  exact bytes_app (bytes_le4 _) (h p hp) x hx'
theorem laid_len (g : Gr) (t n : Int) : (laid g t n).length = secsOf (loadF g).length := by unfold laid dataL secsOf; simp; omega
theorem laid_sct {g : Gr} (h : ∀ p ∈ g, Bytes p) (hl : g.length ≤ 8) (t n : Int) : ∀ s ∈ laid g t n, Sct s := by
  intro s hs
  unfold laid dataL at hs
  rcases List.mem_cons.1 hs with rfl | hs
  · exact first_sct _ _ (by omega) _
  · rcases List.mem_append.1 hs with hs | hs
    · obtain ⟨k, _, rfl⟩ := List.mem_map.1 hs
      exact data_sct (bytes_load h) k
    · rw [List.mem_singleton.1 hs]; exact last_sct _ _
theorem dataL_snoc (l : List Int) (k : Nat) : dataL l (k + 1) = dataL l k ++ [dataS l k] := by unfold dataL; rw [List.range_succ, List.map_append]; rfl
theorem load_snoc (g : Gr) (p : List Int) : loadF (g ++ [p]) = loadF g ++ (le4 p.length ++ p) := by unfold loadF; simp
theorem load_cons (g : Gr) (p : List Int) : loadF (p :: g) = le4 p.length ++ p ++ loadF g := by unfold loadF; simp
theorem load_take {g : Gr} {k : Nat} (h : k < g.length) : loadF (g.take (k + 1)) = loadF (g.take k) ++ (le4 (g.getD k []).length ++ g.getD k []) := by
  rw [List.take_succ_eq_append_getElem h, load_snoc]; simp [h]
theorem load_le {g : Gr} {m : Nat} (h : ∀ p ∈ g, p.length ≤ m) : (loadF g).length ≤ g.length * (4 + m) := by
  induction g with
  | nil => simp [loadF]
  | cons p g ih =>
    rw [load_cons]
    have h1 := h p (by simp)
    have h2 := ih fun q hq => h q (by simp [hq])
    simp only [List.length_append, le4_len, List.length_cons]
    rw [Nat.add_mul]; omega
theorem ok_iff {g : Gr} : okG g = true ↔ 1 ≤ g.length ∧ g.length ≤ 8 ∧ ∀ p ∈ g, p.length ≤ 16384 := by unfold okG; simp
theorem ok_load {g : Gr} (h : okG g = true) : 4 ≤ (loadF g).length ∧ (loadF g).length ≤ 131104 := by
  obtain ⟨h1, h2, h3⟩ := ok_iff.1 h
  have h4 := load_le h3
  refine ⟨?_, ?_⟩
  · cases g with
    | nil => simp at h1
    | cons p g => rw [load_cons]; simp [le4_len]
  · have : g.length * (4 + 16384) ≤ 8 * (4 + 16384) := Nat.mul_le_mul_right _ h2
    omega
/-- What lies in the sectors of a load, one behind the other, begins with the load. -/
theorem data_flat (l : List Int) : ∀ m, 31 * m ≤ l.length + 30 → ((dataL l m).map (List.drop 1)).flatten = l.take (31 * m) ++ List.replicate (31 * m - l.length) 0
  | 0, _ => by simp [dataL]
  | m + 1, h => by
    rw [dataL_snoc, List.map_append, List.flatten_append, data_flat l m (by omega)]
    have e1 : l.take (31 * (m + 1)) = l.take (31 * m) ++ chunk l m := by
      unfold chunk; rw [show 31 * (m + 1) = 31 * m + 31 by omega, List.take_add]
    have e2 : 31 * m - l.length = 0 := by omega
    rw [e1, e2]
    unfold dataS pad
    simp only [List.map_cons, List.map_nil, List.flatten_cons, List.flatten_nil, List.append_nil, List.replicate_zero, List.cons_append, List.drop_succ_cons, List.drop_zero, List.length_cons, chunk_len, List.append_assoc]
    congr 3
    omega
theorem many_le (n : Nat) : 31 * many n ≤ n + 30 ∧ n ≤ 31 * many n := by unfold many; omega
theorem data_load (l : List Int) : (((dataL l (many l.length)).map (List.drop 1)).flatten).take l.length = l := by
  have h := many_le l.length
  rw [data_flat l _ h.1, List.take_of_length_le h.2, List.take_append_of_le_length (Nat.le_refl _), List.take_length]
/-- As many parts as asked for, if they make up the load. -/
def partsF : Nat → List Int → Option Gr
  | 0, l => if l.length = 0 then some [] else none
  | k + 1, l => if l.length < 4 then none else if 16384 < at4 l 0 ∨ ((l.length - 4 : Nat) : Int) < at4 l 0 then none else
      match partsF k ((l.drop 4).drop (at4 l 0).toNat) with
      | none => none
      | some g => some ((l.drop 4).take (at4 l 0).toNat :: g)
theorem at4_le4 (n : Int) (r : List Int) (h0 : 0 ≤ n) (h1 : n < 4294967296) : at4 (le4 n ++ r) 0 = n := num4_le4 n h0 h1
theorem parts_load : ∀ (g : Gr), (∀ p ∈ g, p.length ≤ 16384) → partsF g.length (loadF g) = some g
  | [], _ => rfl
  | p :: g, h => by
    have h1 := h p (by simp)
    have ih := parts_load g fun q hq => h q (by simp [hq])
    rw [load_cons, List.append_assoc, List.length_cons]
    unfold partsF
    have e1 : at4 (le4 (p.length : Int) ++ (p ++ loadF g)) 0 = p.length := at4_le4 _ _ (by omega) (by omega)
    have e2 : (le4 (p.length : Int) ++ (p ++ loadF g)).drop 4 = p ++ loadF g := rfl
    rw [if_neg (by simp [le4_len]), e1, if_neg (by simp [le4_len]; omega), e2]
    have e3 : ((p.length : Int)).toNat = p.length := by omega
    rw [e3, List.drop_left, ih, List.take_left]
theorem parts_bytes : ∀ (k : Nat) (l : List Int) (g : Gr), partsF k l = some g → Bytes l → (∀ p ∈ g, Bytes p) ∧ g.length = k
  | 0, l, g, h, hb => by
    unfold partsF at h
    split at h
    · cases h; exact ⟨fun p hp => (by cases hp), rfl⟩
    · cases h
  | k + 1, l, g, h, hb => by
    unfold partsF at h
    split at h
    · cases h
    · split at h
      · cases h
      · split at h
        · cases h
        · rename_i g' hg
          cases h
          have ih := parts_bytes k _ g' hg (bytes_drop (bytes_drop hb _) _)
          refine ⟨fun p hp => ?_, by simp [ih.2]⟩
          rcases List.mem_cons.1 hp with rfl | hp
          · exact bytes_take (bytes_drop hb _) _
          · exact ih.1 p hp
/-- The bytes of a load in sectors. -/
def readL (ss : List (List Int)) (len : Nat) : List Int := ((ss.map (List.drop 1)).flatten).take len
/-- The group that sectors begin with. -/
def readF (t n : Int) (ss : List (List Int)) : Option Gr :=
  match ss with
  | [] => none
  | s :: _ =>
    if 131104 < at4 s 10 ∨ ss.length < secsOf (at4 s 10).toNat then none else
    match partsF (s.getD 9 0).toNat (readL ((ss.take (secsOf (at4 s 10).toNat - 1)).drop 1) (at4 s 10).toNat) with
    | none => none
    | some g => if needF g = secsOf (at4 s 10).toNat ∧ laid g t n = ss.take (secsOf (at4 s 10).toNat) then some g else none
theorem at4_first (t n k len : Int) (h0 : 0 ≤ len) (h1 : len < 4294967296) : at4 (firstS t n k len) 10 = len := num4_le4 len h0 h1
theorem getD_first (t n k len : Int) : (firstS t n k len).getD 9 0 = k := rfl
theorem need_pos {g : Gr} (h : needF g ≠ 0) : okG g = true ∧ needF g = secsOf (loadF g).length := by
  unfold needF at h ⊢
  split at h
  · rename_i ho; exact ⟨ho, by rw [if_pos ho]⟩
  · exact absurd rfl h
theorem need_ok {g : Gr} (h : okG g = true) : needF g = secsOf (loadF g).length := by unfold needF; rw [if_pos h]
/-- Sectors begin with a group's. -/
def Starts (t n : Int) (g : Gr) (ss : List (List Int)) : Prop := okG g = true ∧ ∃ r, ss = laid g t n ++ r
theorem read_of {t n : Int} {g : Gr} {ss : List (List Int)} (h : Starts t n g ss) : readF t n ss = some g := by
  obtain ⟨ho, r, rfl⟩ := h
  obtain ⟨h1, h2, h3⟩ := ok_iff.1 ho
  have hl := ok_load ho
  have hlen := laid_len g t n
  have hne := need_ok ho
  have hT : (laid g t n ++ r).take (secsOf (loadF g).length) = laid g t n := by rw [← hlen]; exact List.take_left
  have hD : ((laid g t n ++ r).take (secsOf (loadF g).length - 1)).drop 1 = dataL (loadF g) (many (loadF g).length) := by
    have hd : (dataL (loadF g) (many (loadF g).length)).length = many (loadF g).length := by unfold dataL; simp
    unfold laid secsOf
    rw [show 2 + many (loadF g).length - 1 = many (loadF g).length + 1 by omega]
    simp only [List.cons_append, List.take_succ_cons, List.drop_succ_cons, List.drop_zero, List.append_assoc]
    exact List.take_left' hd
  have hP : partsF g.length (readL (dataL (loadF g) (many (loadF g).length)) (loadF g).length) = some g := by
    unfold readL; rw [data_load]; exact parts_load g h3
  have hs : laid g t n ++ r = firstS t n g.length (loadF g).length :: (dataL (loadF g) (many (loadF g).length) ++ [lastS t n] ++ r) := rfl
  have e : readF t n (laid g t n ++ r) = (if 131104 < at4 (firstS t n g.length (loadF g).length) 10 ∨ (laid g t n ++ r).length < secsOf (at4 (firstS t n g.length (loadF g).length) 10).toNat then none else
    match partsF ((firstS t n g.length (loadF g).length).getD 9 0).toNat (readL (((laid g t n ++ r).take (secsOf (at4 (firstS t n g.length (loadF g).length) 10).toNat - 1)).drop 1) (at4 (firstS t n g.length (loadF g).length) 10).toNat) with
    | none => none
    | some g' => if needF g' = secsOf (at4 (firstS t n g.length (loadF g).length) 10).toNat ∧ laid g' t n = (laid g t n ++ r).take (secsOf (at4 (firstS t n g.length (loadF g).length) 10).toNat) then some g' else none) := rfl
  rw [e, at4_first _ _ _ _ (by omega) (by omega), getD_first]
  have e3 : (((loadF g).length : Int)).toNat = (loadF g).length := by omega
  have e4 : ((g.length : Int)).toNat = g.length := by omega
  rw [e3, e4, if_neg (by rw [List.length_append, hlen]; omega), hD, hP]
  simp only
  rw [if_pos ⟨hne, hT.symm⟩]
theorem of_read {t n : Int} {g : Gr} {ss : List (List Int)} (h : readF t n ss = some g) (hs : ∀ s ∈ ss, Sct s) : Starts t n g ss ∧ ∀ p ∈ g, Bytes p := by
  unfold readF at h
  split at h
  · cases h
  · rename_i s r
    split at h
    · cases h
    · split at h
      · cases h
      · rename_i g' hp
        split at h
        · rename_i hc
          cases h
          have hn := need_pos (g := g) (by rw [hc.1]; unfold secsOf; omega)
          refine ⟨⟨hn.1, (s :: r).drop (secsOf (at4 s 10).toNat), ?_⟩, ?_⟩
          · rw [hc.2, List.take_append_drop]
          · refine (parts_bytes _ _ _ hp (bytes_take (bytes_flat fun l hl => ?_) _)).1
            obtain ⟨u, hu, rfl⟩ := List.mem_map.1 hl
            exact bytes_drop (hs u (List.mem_of_mem_take (List.mem_of_mem_drop hu))).2 _
        · cases h
theorem starts_one {t n : Int} {g g' : Gr} {ss : List (List Int)} (h : Starts t n g ss) (h' : Starts t n g' ss) : g = g' := by
  have a := read_of h; have b := read_of h'; rw [a] at b; exact Option.some.inj b
/-- All groups that sectors hold from their beginning on: the groups, in order; m: as many as there may be. -/
def groupsF (t : Int) : Nat → Int → List (List Int) → List Gr
  | 0, _, _ => []
  | m + 1, n, ss => match readF t n ss with
    | none => []
    | some g => g :: groupsF t m (n + 1) (ss.drop (needF g))
/-- The turn of a head, 0: it is not right. -/
def turnOf (s : List Int) : Int := if at4 s 1 ≠ 0 ∧ s = headS (at4 s 1) then at4 s 1 else 0
theorem turnOf_bd {s : List Int} (h : Bytes s) : 0 ≤ turnOf s ∧ turnOf s < 4294967296 := by
  have := num4_lt (s.getD 1 0) (s.getD 2 0) (s.getD 3 0) (s.getD 4 0) (by have := bytes_getD h 1; omega) (by have := bytes_getD h 2; omega) (by have := bytes_getD h 3; omega) (by have := bytes_getD h 4; omega)
  unfold turnOf at4; split <;> omega
theorem turnOf_head {t : Int} (h0 : 0 ≤ t) (h1 : t < 4294967296) : turnOf (headS t) = t := by
  have e : at4 (headS t) 1 = t := num4_le4 t h0 h1
  unfold turnOf; rw [e]; by_cases h : t = 0
  · subst h; simp
  · rw [if_pos ⟨h, rfl⟩]
end Go.Proofs.Ytllohapbbmnipad.Jo
