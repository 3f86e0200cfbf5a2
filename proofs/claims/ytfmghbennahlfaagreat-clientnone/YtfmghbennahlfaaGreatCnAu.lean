/-
  
-/
import Derived.Test.YtfmghbennahlfaaGreatCnAc
import Derived.Test.YtfmghbennahlfaaGreatCnAt
namespace Go.Proofs.YtfmghbennahlfaaGreat.Jo
set_option linter.unusedVariables false
open Go.RowKit Go.Proofs.YtfmghbennahlfaaGreat.Fr
abbrev Gr := List (List Int)
def Bytes (l : List Int) : Prop := ∀ x ∈ l, 0 ≤ x ∧ x < 256
def Sct (l : List Int) : Prop := l.length = 32 ∧ Bytes l
def pad (l : List Int) : List Int := l ++ List.replicate (32 - l.length) 0
def sealed (l : List Int) : List Int := pad (l ++ le4 (M.foldF l))
def headS (t : Int) : List Int := sealed (72 :: le4 t)
def firstS (t n k len : Int) : List Int := sealed (71 :: (le4 t ++ le4 n ++ k :: le4 len))
def lastS (t n : Int) : List Int := sealed (67 :: (le4 t ++ le4 n))
def loadF (g : Gr) : List Int := g.flatMap fun p => le4 p.length ++ p
def chunk (l : List Int) (k : Nat) : List Int := (l.drop (31 * k)).take 31
def many (n : Nat) : Nat := (n + 30) / 31
def dataS (l : List Int) (k : Nat) : List Int := pad (68 :: chunk l k)
def dataL (l : List Int) (m : Nat) : List (List Int) := (List.range m).map (dataS l)
def secsOf (n : Nat) : Nat := 2 + many n
def okG (g : Gr) : Bool := decide (1 ≤ g.length ∧ g.length ≤ 8 ∧ ∀ p ∈ g, p.length ≤ 16384)
def needF (g : Gr) : Nat := if okG g = true then secsOf (loadF g).length else 0
def laid (g : Gr) (t n : Int) : List (List Int) := firstS t n g.length (loadF g).length :: (dataL (loadF g) (many (loadF g).length) ++ [lastS t n])
theorem pad_len {l : List Int} (h : l.length ≤ 32) : (pad l).length = 32 := by unfold pad; simp; omega
theorem bytes_app {a b : List Int} (ha : Bytes a) (hb : Bytes b) : Bytes (a ++ b) := fun x hx => (List.mem_append.1 hx).elim (ha x) (hb x)
theorem bytes_cons {a : Int} {b : List Int} (ha : 0 ≤ a ∧ a < 256) (hb : Bytes b) : Bytes (a :: b) := fun x hx => by
 rcases List.mem_cons.1 hx with rfl | h
 · exact ha
 · exact hb x h
theorem bytes_le4 (n : Int) : Bytes (le4 n) := fun x hx => by have := le4_byte n x hx; omega
theorem bytes_take {l : List Int} (h : Bytes l) (n : Nat) : Bytes (l.take n) := fun x hx => h x (List.mem_of_mem_take hx)
theorem bytes_drop {l : List Int} (h : Bytes l) (n : Nat) : Bytes (l.drop n) := fun x hx => h x (List.mem_of_mem_drop hx)
theorem bytes_zero (n : Nat) : Bytes (List.replicate n 0) := fun x hx => by have := List.eq_of_mem_replicate hx; omega
theorem bytes_getD {l : List Int} (h : Bytes l) (i : Nat) : 0 ≤ l.getD i 0 ∧ l.getD i 0 < 256 := by
 by_cases hi : i < l.length
 · have := h l[i] (List.getElem_mem hi); simpa [List.getD, hi] using this
 · have : l.getD i 0 = 0 := by simp [List.getD, List.getElem?_eq_none (by omega : l.length ≤ i)]
   omega
theorem bytes_flat {L : List (List Int)} (h : ∀ l ∈ L, Bytes l) : Bytes L.flatten := fun x hx => by
 obtain ⟨l, hl, hx'⟩ := List.mem_flatten.1 hx; exact h l hl x hx'
theorem le4_len (n : Int) : (le4 n).length = 4 := rfl
theorem pad_sct {l : List Int} (h : l.length ≤ 32) (hb : Bytes l) : Sct (pad l) := ⟨pad_len h, bytes_app hb (bytes_zero _)⟩
theorem sealed_sct {l : List Int} (h : l.length ≤ 28) (hb : Bytes l) : Sct (sealed l) := pad_sct (by simp [le4_len]; omega) (bytes_app hb (bytes_le4 _))
theorem head_sct (t : Int) : Sct (headS t) := sealed_sct (by simp [le4_len]) (bytes_cons (by omega) (bytes_le4 _))
theorem first_sct (t n : Int) {k : Int} (hk : 0 ≤ k ∧ k < 256) (len : Int) : Sct (firstS t n k len) :=
 sealed_sct (by simp [le4_len]) (bytes_cons (by omega) (bytes_app (bytes_app (bytes_le4 _) (bytes_le4 _)) (bytes_cons hk (bytes_le4 _))))
theorem last_sct (t n : Int) : Sct (lastS t n) := sealed_sct (by simp [le4_len]) (bytes_cons (by omega) (bytes_app (bytes_le4 _) (bytes_le4 _)))
theorem chunk_len (l : List Int) (k : Nat) : (chunk l k).length = min 31 (l.length - 31 * k) := by unfold chunk; simp
theorem data_sct {l : List Int} (h : Bytes l) (k : Nat) : Sct (dataS l k) := pad_sct (by simp [chunk_len]; omega) (bytes_cons (by omega) (bytes_take (bytes_drop h _) _))
theorem bytes_load {g : Gr} (h : ∀ p ∈ g, Bytes p) : Bytes (loadF g) := fun x hx => by
 obtain ⟨p, hp, hx'⟩ := List.mem_flatMap.1 hx
 exact bytes_app (bytes_le4 _) (h p hp) x hx'
theorem laid_len (g : Gr) (t n : Int) : (laid g t n).length = secsOf (loadF g).length := by unfold laid dataL secsOf; simp; omega
theorem laid_sct {g : Gr} (h : ∀ p ∈ g, Bytes p) (hl : g.length ≤ 8) (t n : Int) : ∀ s ∈ laid g t n, Sct s := by
 intro s hs
 unfold laid dataL at hs
 rcases List.mem_cons.1 hs with rfl | hs
 · exact first_sct _ _ (by omega) _
 · rcases List.mem_append.1 hs with hs | hs
   · obtain ⟨k, _, rfl⟩ := List.mem_map.1 hs
     exact data_sct (bytes_load h) k
   · rw [List.mem_singleton.1 hs]; exact last_sct _ _
theorem dataL_snoc (l : List Int) (k : Nat) : dataL l (k + 1) = dataL l k ++ [dataS l k] := by unfold dataL; rw [List.range_succ, List.map_append]; rfl
theorem load_snoc (g : Gr) (p : List Int) : loadF (g ++ [p]) = loadF g ++ (le4 p.length ++ p) := by unfold loadF; simp
theorem load_cons (g : Gr) (p : List Int) : loadF (p :: g) = le4 p.length ++ p ++ loadF g := by unfold loadF; simp
theorem load_take {g : Gr} {k : Nat} (h : k < g.length) : loadF (g.take (k + 1)) = loadF (g.take k) ++ (le4 (g.getD k []).length ++ g.getD k []) := by
 rw [List.take_succ_eq_append_getElem h, load_snoc]; simp [h]
theorem load_le {g : Gr} {m : Nat} (h : ∀ p ∈ g, p.length ≤ m) : (loadF g).length ≤ g.length * (4 + m) := by
 induction g with
 | nil => simp [loadF]
 | cons p g ih =>
   rw [load_cons]
   have h1 := h p (by simp)
   have h2 := ih fun q hq => h q (by simp [hq])
   simp only [List.length_append, le4_len, List.length_cons]
   rw [Nat.add_mul]; omega
theorem ok_iff {g : Gr} : okG g = true ↔ 1 ≤ g.length ∧ g.length ≤ 8 ∧ ∀ p ∈ g, p.length ≤ 16384 := by unfold okG; simp
theorem ok_load {g : Gr} (h : okG g = true) : 4 ≤ (loadF g).length ∧ (loadF g).length ≤ 131104 := by
 obtain ⟨h1, h2, h3⟩ := ok_iff.1 h
 have h4 := load_le h3
 refine ⟨?_, ?_⟩
 · cases g with
   | nil => simp at h1
   | cons p g => rw [load_cons]; simp [le4_len]
 · have : g.length * (4 + 16384) ≤ 8 * (4 + 16384) := Nat.mul_le_mul_right _ h2
   omega
theorem data_flat (l : List Int) : ∀ m, 31 * m ≤ l.length + 30 → ((dataL l m).map (List.drop 1)).flatten = l.take (31 * m) ++ List.replicate (31 * m - l.length) 0
 | 0, _ => by simp [dataL]
 | m + 1, h => by
   rw [dataL_snoc, List.map_append, List.flatten_append, data_flat l m (by omega)]
   have e1 : l.take (31 * (m + 1)) = l.take (31 * m) ++ chunk l m := by
     unfold chunk; rw [show 31 * (m + 1) = 31 * m + 31 by omega, List.take_add]
   have e2 : 31 * m - l.length = 0 := by omega
   rw [e1, e2]
   unfold dataS pad
   simp only [List.map_cons, List.map_nil, List.flatten_cons, List.flatten_nil, List.append_nil, List.replicate_zero, List.cons_append, List.drop_succ_cons, List.drop_zero, List.length_cons, chunk_len, List.append_assoc]
   congr 3
   omega
theorem many_le (n : Nat) : 31 * many n ≤ n + 30 ∧ n ≤ 31 * many n := by unfold many; omega
theorem data_load (l : List Int) : (((dataL l (many l.length)).map (List.drop 1)).flatten).take l.length = l := by
 have h := many_le l.length
 rw [data_flat l _ h.1, List.take_of_length_le h.2, List.take_append_of_le_length (Nat.le_refl _), List.take_length]
def partsF : Nat → List Int → Option Gr
 | 0, l => if l.length = 0 then some [] else none
 | k + 1, l => if l.length < 4 then none else if 16384 < at4 l 0 ∨ ((l.length - 4 : Nat) : Int) < at4 l 0 then none else
     match partsF k ((l.drop 4).drop (at4 l 0).toNat) with
     | none => none
     | some g => some ((l.drop 4).take (at4 l 0).toNat :: g)
theorem at4_le4 (n : Int) (r : List Int) (h0 : 0 ≤ n) (h1 : n < 4294967296) : at4 (le4 n ++ r) 0 = n := num4_le4 n h0 h1
theorem parts_load : ∀ (g : Gr), (∀ p ∈ g, p.length ≤ 16384) → partsF g.length (loadF g) = some g
 | [], _ => rfl
 | p :: g, h => by
   have h1 := h p (by simp)
   have ih := parts_load g fun q hq => h q (by simp [hq])
   rw [load_cons, List.append_assoc, List.length_cons]
   unfold partsF
   have e1 : at4 (le4 (p.length : Int) ++ (p ++ loadF g)) 0 = p.length := at4_le4 _ _ (by omega) (by omega)
   have e2 : (le4 (p.length : Int) ++ (p ++ loadF g)).drop 4 = p ++ loadF g := rfl
   rw [if_neg (by simp [le4_len]), e1, if_neg (by simp [le4_len]; omega), e2]
   have e3 : ((p.length : Int)).toNat = p.length := by omega
   rw [e3, List.drop_left, ih, List.take_left]
theorem parts_bytes : ∀ (k : Nat) (l : List Int) (g : Gr), partsF k l = some g → Bytes l → (∀ p ∈ g, Bytes p) ∧ g.length = k
 | 0, l, g, h, hb => by
   unfold partsF at h
   split at h
   · cases h; exact ⟨fun p hp => (by cases hp), rfl⟩
   · cases h
 | k + 1, l, g, h, hb => by
   unfold partsF at h
   split at h
   · cases h
   · split at h
     · cases h
     · split at h
       · cases h
       · rename_i g' hg
         cases h
         have ih := parts_bytes k _ g' hg (bytes_drop (bytes_drop hb _) _)
         refine ⟨fun p hp => ?_, by simp [ih.2]⟩
         rcases List.mem_cons.1 hp with rfl | hp
         · exact bytes_take (bytes_drop hb _) _
         · exact ih.1 p hp
def readL (ss : List (List Int)) (len : Nat) : List Int := ((ss.map (List.drop 1)).flatten).take len
def readF (t n : Int) (ss : List (List Int)) : Option Gr :=
 match ss with
 | [] => none
 | s :: _ =>
   if 131104 < at4 s 10 ∨ ss.length < secsOf (at4 s 10).toNat then none else
   match partsF (s.getD 9 0).toNat (readL ((ss.take (secsOf (at4 s 10).toNat - 1)).drop 1) (at4 s 10).toNat) with
   | none => none
   | some g => if needF g = secsOf (at4 s 10).toNat ∧ laid g t n = ss.take (secsOf (at4 s 10).toNat) then some g else none
theorem at4_first (t n k len : Int) (h0 : 0 ≤ len) (h1 : len < 4294967296) : at4 (firstS t n k len) 10 = len := num4_le4 len h0 h1
theorem getD_first (t n k len : Int) : (firstS t n k len).getD 9 0 = k := rfl
theorem need_pos {g : Gr} (h : needF g ≠ 0) : okG g = true ∧ needF g = secsOf (loadF g).length := by
 unfold needF at h ⊢
 split at h
 · rename_i ho; exact ⟨ho, by rw [if_pos ho]⟩
 · exact absurd rfl h
theorem need_ok {g : Gr} (h : okG g = true) : needF g = secsOf (loadF g).length := by unfold needF; rw [if_pos h]
def Starts (t n : Int) (g : Gr) (ss : List (List Int)) : Prop := okG g = true ∧ ∃ r, ss = laid g t n ++ r
theorem read_of {t n : Int} {g : Gr} {ss : List (List Int)} (h : Starts t n g ss) : readF t n ss = some g := by
 obtain ⟨ho, r, rfl⟩ := h
 obtain ⟨h1, h2, h3⟩ := ok_iff.1 ho
 have hl := ok_load ho
 have hlen := laid_len g t n
 have hne := need_ok ho
 have hT : (laid g t n ++ r).take (secsOf (loadF g).length) = laid g t n := by rw [← hlen]; exact List.take_left
 have hD : ((laid g t n ++ r).take (secsOf (loadF g).length - 1)).drop 1 = dataL (loadF g) (many (loadF g).length) := by
   have hd : (dataL (loadF g) (many (loadF g).length)).length = many (loadF g).length := by unfold dataL; simp
   unfold laid secsOf
   rw [show 2 + many (loadF g).length - 1 = many (loadF g).length + 1 by omega]
   simp only [List.cons_append, List.take_succ_cons, List.drop_succ_cons, List.drop_zero, List.append_assoc]
   exact List.take_left' hd
 have hP : partsF g.length (readL (dataL (loadF g) (many (loadF g).length)) (loadF g).length) = some g := by
   unfold readL; rw [data_load]; exact parts_load g h3
 have hs : laid g t n ++ r = firstS t n g.length (loadF g).length :: (dataL (loadF g) (many (loadF g).length) ++ [lastS t n] ++ r) := rfl
 have e : readF t n (laid g t n ++ r) = (if 131104 < at4 (firstS t n g.length (loadF g).length) 10 ∨ (laid g t n ++ r).length < secsOf (at4 (firstS t n g.length (loadF g).length) 10).toNat then none else
   match partsF ((firstS t n g.length (loadF g).length).getD 9 0).toNat (readL (((laid g t n ++ r).take (secsOf (at4 (firstS t n g.length (loadF g).length) 10).toNat - 1)).drop 1) (at4 (firstS t n g.length (loadF g).length) 10).toNat) with
   | none => none
   | some g' => if needF g' = secsOf (at4 (firstS t n g.length (loadF g).length) 10).toNat ∧ laid g' t n = (laid g t n ++ r).take (secsOf (at4 (firstS t n g.length (loadF g).length) 10).toNat) then some g' else none) := rfl
 rw [e, at4_first _ _ _ _ (by omega) (by omega), getD_first]
 have e3 : (((loadF g).length : Int)).toNat = (loadF g).length := by omega
 have e4 : ((g.length : Int)).toNat = g.length := by omega
 rw [e3, e4, if_neg (by rw [List.length_append, hlen]; omega), hD, hP]
 simp only
 rw [if_pos ⟨hne, hT.symm⟩]
theorem of_read {t n : Int} {g : Gr} {ss : List (List Int)} (h : readF t n ss = some g) (hs : ∀ s ∈ ss, Sct s) : Starts t n g ss ∧ ∀ p ∈ g, Bytes p := by
 unfold readF at h
 split at h
 · cases h
 · rename_i s r
   split at h
   · cases h
   · split at h
     · cases h
     · rename_i g' hp
       split at h
       · rename_i hc
         cases h
         have hn := need_pos (g := g) (by rw [hc.1]; unfold secsOf; omega)
         refine ⟨⟨hn.1, (s :: r).drop (secsOf (at4 s 10).toNat), ?_⟩, ?_⟩
         · rw [hc.2, List.take_append_drop]
         · refine (parts_bytes _ _ _ hp (bytes_take (bytes_flat fun l hl => ?_) _)).1
           obtain ⟨u, hu, rfl⟩ := List.mem_map.1 hl
           exact bytes_drop (hs u (List.mem_of_mem_take (List.mem_of_mem_drop hu))).2 _
       · cases h
def groupsF (t : Int) : Nat → Int → List (List Int) → List Gr
 | 0, _, _ => []
 | m + 1, n, ss => match readF t n ss with
   | none => []
   | some g => g :: groupsF t m (n + 1) (ss.drop (needF g))
def turnOf (s : List Int) : Int := if at4 s 1 ≠ 0 ∧ s = headS (at4 s 1) then at4 s 1 else 0
theorem turnOf_bd {s : List Int} (h : Bytes s) : 0 ≤ turnOf s ∧ turnOf s < 4294967296 := by
 have := num4_lt (s.getD 1 0) (s.getD 2 0) (s.getD 3 0) (s.getD 4 0) (by have := bytes_getD h 1; omega) (by have := bytes_getD h 2; omega) (by have := bytes_getD h 3; omega) (by have := bytes_getD h 4; omega)
 unfold turnOf at4; split <;> omega
theorem turnOf_head {t : Int} (h0 : 0 ≤ t) (h1 : t < 4294967296) : turnOf (headS t) = t := by
 have e : at4 (headS t) 1 = t := num4_le4 t h0 h1
 unfold turnOf; rw [e]; by_cases h : t = 0
 · subst h; simp
 · rw [if_pos ⟨h, rfl⟩]
end Go.Proofs.YtfmghbennahlfaaGreat.Jo
namespace Go.Proofs.YtfmghbennahlfaaGreat
open Go.RowKit Go.ChangeShapes Go.WideShapes Go.ChangeAt Go.Maps
set_option linter.unusedVariables false
set_option linter.unusedSimpArgs false
abbrev Bx (w : World) (g : Nat) (T : TypeId) (s : List Int) : Prop := w.heap[g]? = some (.cells (s.map by8).toArray T (0, 0))
def put (s : List Int) (i : Nat) (l : List Int) : List Int := s.take i ++ l ++ s.drop (i + l.length)
theorem put_len {s l : List Int} {i : Nat} (h : i + l.length ≤ s.length) : (put s i l).length = s.length := by unfold put; simp; omega
theorem put_bytes {s l : List Int} {i : Nat} (hs : Jo.Bytes s) (hl : Jo.Bytes l) : Jo.Bytes (put s i l) := by
 unfold put; exact Jo.bytes_app (Jo.bytes_app (Jo.bytes_take hs _) hl) (Jo.bytes_drop hs _)
theorem bx_cell {w : World} {g : Nat} {T : TypeId} {s : List Int} (h : Bx w g T s) (i : Nat) (hi : i < s.length) : w.cell? ⟨g, i, none⟩ = some (.int .u8 (s.getD i 0)) := by
 rw [cell_of_row w g i _ T (0, 0) h]; simp [hi, by8, List.getD]
theorem bx_frozen {w : World} {g : Nat} {T : TypeId} {s : List Int} (h : Bx w g T s) (i : Nat) : w.frozen? ⟨g, i, none⟩ = false := by simp [World.frozen?, h]
theorem bx_set {w : World} {g : Nat} {T : TypeId} {s : List Int} (h : Bx w g T s) (i : Nat) (x : Int) (hi : i < s.length) : Bx (w.setCell ⟨g, i, none⟩ (.int .u8 x)) g T (s.set i x) := by
 unfold Bx
 rw [heap_setCell_same w g i _ T _ h]
 simp [by8]
theorem Out.setCell {S : Nat → Prop} {a w : World} (h : Out S a w) (p : Addr) (v : Value) (hS : S p.block) : Out S a (w.setCell p v) := by
 refine ⟨h.os, h.tape, h.output, by simp [World.setCell]; exact h.size, fun k hk hn => ?_⟩
 rw [heap_setCell_other _ _ _ _ (fun e => hn (by rw [e]; exact hS))]
 exact h.block k hk hn
theorem put4 {s : List Int} {i : Nat} {a b c d : Int} (h : i + 4 ≤ s.length) : (((s.set i a).set (i + 1) b).set (i + 2) c).set (i + 3) d = put s i [a, b, c, d] := by
 apply List.ext_getElem?
 intro k
 unfold put
 simp only [List.getElem?_set, List.length_set, List.append_assoc]
 by_cases h1 : k < i
 · rw [if_neg (by omega), if_neg (by omega), if_neg (by omega), if_neg (by omega), List.getElem?_append_left (by simp; omega), List.getElem?_take, if_pos h1]
 · rw [List.getElem?_append_right (by simp; omega)]
   simp only [List.length_take]
   rw [Nat.min_eq_left (by omega)]
   by_cases h2 : k < i + 4
   · obtain ⟨j, rfl⟩ : ∃ j, k = i + j := ⟨k - i, by omega⟩
     have hj : j = 0 ∨ j = 1 ∨ j = 2 ∨ j = 3 := by omega
     rcases hj with rfl | rfl | rfl | rfl
     · rw [if_neg (by omega), if_neg (by omega), if_neg (by omega), if_pos (by omega), if_pos (by omega)]; simp
     · rw [if_neg (by omega), if_neg (by omega), if_pos (by omega), if_pos (by omega)]; simp
     · rw [if_neg (by omega), if_pos (by omega), if_pos (by omega)]; simp
     · rw [if_pos (by omega), if_pos (by omega)]; simp
   · rw [if_neg (by omega), if_neg (by omega), if_neg (by omega), if_neg (by omega), List.getElem?_append_right (by simp; omega), List.getElem?_drop]
     congr 1
     simp; omega
set_option maxHeartbeats 1000000 in
theorem putNumber_c (g off cap : Nat) (T : TypeId) (s : List Int) (n : Int) (w : World) (h : Bx w g T s) (hoff : off + 4 ≤ s.length) (h0 : 0 ≤ n) (h1 : n < 4294967296) :
   Calls Tryz.prog 249 #[.slice (some ⟨g, off, none⟩) 4 cap, .int .u32 n] w fun e w' => e = .returned (.tuple #[]) ∧ Bx w' g T (put s off (Fr.le4 n)) ∧ Out (fun k => k = g) w w' ∧ w'.heap.size = w.heap.size := by
 have k0 : IntKind.i64.wrap 0 = 0 := by decide
 have k1 : IntKind.i64.wrap 8 = 8 := by decide
 have k2 : IntKind.i64.wrap 16 = 16 := by decide
 have k3 : IntKind.i64.wrap 24 = 24 := by decide
 have c0 := bx_cell h off (by omega)
 have c1 := bx_cell h (off + 1) (by omega)
 have c2 := bx_cell h (off + 2) (by omega)
 have c3 := bx_cell h (off + 3) (by omega)
 have f0 := bx_frozen h off
 have f1 := bx_frozen h (off + 1)
 have f2 := bx_frozen h (off + 2)
 have f3 := bx_frozen h (off + 3)
 have H := hid h
 clear h
 go_enter Tryz.func249, Tryz.ntmps249
 go_wp2
 refine wp_loop_rounds 5 ?_
 rw [rounds_succ]
 go_wp2
 rw [rounds_succ]
 go_wp2
 rw [rounds_succ]
 go_wp2
 rw [rounds_succ]
 go_wp2
 rw [rounds_succ]
 go_wp2
 refine body_end (by kernel_rfl) rfl ⟨rfl, ?_, ?_, by simp [World.setCell]⟩
 · have e := bx_set (bx_set (bx_set (bx_set H.out off (n % 256) (by omega)) (off + 1) (n / 256 % 256) (by simp; omega)) (off + 2) (n / 65536 % 256) (by simp; omega)) (off + 3) (n / 16777216) (by simp; omega)
   rw [put4 hoff] at e
   have e4 : Fr.le4 n = [n % 256, n / 256 % 256, n / 65536 % 256, n / 16777216] := by unfold Fr.le4; rw [show n / 16777216 % 256 = n / 16777216 by omega]
   rw [e4]
   simpa [IntKind.wrap_u8'] using e
 · exact ((((Out.refl (fun k => k = g) w).setCell ⟨g, off, none⟩ _ rfl).setCell ⟨g, off + 1, none⟩ _ rfl).setCell ⟨g, off + 2, none⟩ _ rfl).setCell ⟨g, off + 3, none⟩ _ rfl
set_option maxHeartbeats 1000000 in
theorem readNumber_c (a : Option Addr) (cap : Nat) (zs : List Int) (w : World) (hb : IsB w a 4 zs) :
   Calls Tryz.prog 283 #[.slice a 4 cap] w fun e w' => e = .returned (.int .u32 (Fr.at4 zs 0)) ∧ w' = w := by
 obtain ⟨hl, hm, hc, hz⟩ := hb
 obtain ⟨b, off, rfl, hcell⟩ := hc (by omega)
 have c0 : w.cell? ⟨b, off, none⟩ = some (.int .u8 (zs.getD 0 0)) := hcell 0 (by omega)
 have c1 := hcell 1 (by omega)
 have c2 := hcell 2 (by omega)
 have c3 := hcell 3 (by omega)
 have z0 := hz 0
 have z1 := hz 1
 have z2 := hz 2
 have z3 := hz 3
 have E : Hid (Fr.at4 zs 0 = Fr.num4 (zs.getD 0 0) (zs.getD 1 0) (zs.getD 2 0) (zs.getD 3 0)) := rfl
 generalize zs.getD 0 0 = x0 at *
 generalize zs.getD 1 0 = x1 at *
 generalize zs.getD 2 0 = x2 at *
 generalize zs.getD 3 0 = x3 at *
 have O := hid (or_four x0 x1 x2 x3 z0 z1 z2 z3)
 clear hc hcell hz hl hm
 go_enter Tryz.func283, Tryz.ntmps283
 go_wp2
 refine wp_loop_rounds 5 ?_
 rw [rounds_succ]
 go_wp2
 rw [rounds_succ]
 go_wp2
 rw [rounds_succ]
 go_wp2
 rw [rounds_succ]
 go_wp2
 rw [rounds_succ]
 go_wp2
 go_ret
 exact ⟨ret_int (by rw [E.out]; exact O.out), rfl⟩
abbrev pB (g : Nat) : Value := .pointer (some ⟨g, 0, none⟩)
set_option maxRecDepth 20000 in
set_option maxHeartbeats 400000 in
theorem field_c (g i : Nat) (w : World) (hi : i + 4 ≤ 32) : Calls Tryz.prog 250 #[pB g, .int .i64 i] w fun e w' => e = .returned (.slice (some ⟨g, i, none⟩) 4 4) ∧ w' = w := by
 have i0 : (0 : Int) ≤ i := by omega
 have i1 : (i : Int) ≤ i + 4 := by omega
 have i2 : (i : Int) + 4 ≤ 32 := by omega
 go_enter Tryz.func250, Tryz.ntmps250
 go_wp2
 go_ret
 exact ⟨by show Ending.returned (.slice _ (i + 4 - i) (i + 4 - i)) = _; rw [Nat.add_sub_cancel_left], rfl⟩
set_option maxHeartbeats 400000 in
theorem inside_c (g : Nat) (w : World) : Calls Tryz.prog 255 #[pB g] w fun e w' => e = .returned (.slice (some ⟨g, 1, none⟩) 31 31) ∧ w' = w := by
 go_enter Tryz.func255, Tryz.ntmps255
 go_wp2
 go_ret
 exact ⟨rfl, rfl⟩
theorem bx_isB {w : World} {g : Nat} {T : TypeId} {s : List Int} (h : Bx w g T s) (hb : Jo.Bytes s) (i n : Nat) (hn : i + n ≤ s.length) (hm : n ≤ maxLen) : IsB w (some ⟨g, i, none⟩) n ((s.drop i).take n) := by
 refine ⟨by simp; omega, hm, fun hp => ⟨g, i, rfl, fun k hk => ?_⟩, fun k => ?_⟩
 · rw [bx_cell h (i + k) (by omega)]; simp [List.getD, List.getElem?_take, hk, List.getElem?_drop]
 · have := Jo.bytes_getD (Jo.bytes_take (Jo.bytes_drop hb i) n) k; omega
theorem at4_drop (s : List Int) (i : Nat) : Fr.at4 ((s.drop i).take 4) 0 = Fr.at4 s i := by
 unfold Fr.at4; simp [List.getD, List.getElem?_take, List.getElem?_drop]
set_option maxHeartbeats 1000000 in
theorem seal_c (g i : Nat) (T : TypeId) (s : List Int) (w : World) (h : Bx w g T s) (hs : s.length = 32) (hb : Jo.Bytes s) (hi : i + 4 ≤ 32) :
   Calls Tryz.prog 251 #[pB g, .int .i64 i] w fun e w' => e = .returned (.tuple #[]) ∧ Bx w' g T (put s i (Fr.le4 (M.foldF (s.take i)))) ∧ Out (fun k => k = g) w w' ∧ w'.heap.size = w.heap.size := by
 have hz := bx_isB h hb 0 i (by omega) (by unfold maxLen; omega)
 rw [List.drop_zero] at hz
 have hf := Fr.fold_lt (s.take i)
 have HZ := hid hz
 have H := hid h
 have hi1 : (i : Int) ≤ 32 := by omega
 have hi0 : (0 : Int) ≤ i := by omega
 clear h hz
 go_enter Tryz.func251, Tryz.ntmps251
 go_wp2_with fail
 go_region_held3 (fun w' => True) (trivial) (first
   | (go_at_call 249; refine (putNumber_c g i 4 T s _ _ (by exact H.out) (by omega) hf.1 hf.2).mono ?_; rintro e w1 ⟨rfl, hp1, hk1, hk2⟩)
   | (go_at_call 302; refine (fold_c _ _ _ (s.take i) _ (by exact HZ.out)).mono ?_; rintro e w0 ⟨rfl, rfl⟩)
   | (go_at_call 250; refine (field_c g i _ hi).mono ?_; rintro e w0 ⟨rfl, rfl⟩))
 go_wp2
 exact body_end (by kernel_rfl) rfl ⟨rfl, hp1, ((Out.refl _ w).drew).trans hk1, hk2⟩
theorem results_cell1 {fn : Func} {p : Tmp} {ty : TypeId} (h : fn.results = #[.cell p ty]) (tmps : Array Value) (P : Program) (w : World) :
   (results fn tmps).run P w = ((asAddr (tmps.getD p undef)).run P w).andThen fun a w₁ => (loadVar ty a).run P w₁ := by
 simp only [results, h]
 simp [Sem.run_bind, Result.andThen]
theorem res_sec1 {fn : Func} {p : Tmp} {ty e : TypeId} (h : fn.results = #[.cell p ty]) (tmps : Array Value) (w : World) (hT : (Tryz.prog.info? ty).map (·.size) = some 32) (hu : Tryz.prog.underlying ty = some (.array 32 e))
   (g : Nat) (hp : tmps.getD p undef = .pointer (some ⟨g, 0, none⟩)) (s : Sec) (hs : s.length = 32) (t : TypeId) (fr : Nat × Nat) (hb : w.heap[g]? = some (.cells (s.map by8).toArray t fr)) :
   (results fn tmps).run Tryz.prog w = .ok (secV s) w := by
 have hl := run_loadVar_row (P := Tryz.prog) w g t ty (s.map by8).toArray fr _ hb hu rfl (by rw [hT]; simp [hs])
 rw [results_cell1 h, hp]
 simp [asAddr, Result.andThen, hl, secV]
def markS (m : Int) : List Int := m :: List.replicate 31 0
theorem mark_sct {m : Int} (h : 0 ≤ m ∧ m < 256) : Jo.Sct (markS m) := ⟨by simp [markS], Jo.bytes_cons h (Jo.bytes_zero _)⟩
structure Two (w w' : World) (s : List Int) : Prop where
 sec : Bx w' (w.heap.size + 1) 260 s
 res : w'.heap[w.heap.size]? = some (.cells (zsec.map by8).toArray 260 (0, 0))
 size : w'.heap.size = w.heap.size + 2
 below : Below w.heap.size w w'
 sct : Jo.Sct s
theorem two_new (w : World) (s : List Int) (h : Jo.Sct s) : Two w ((w.alloc (.cells (zsec.map by8).toArray 260)).alloc (.cells (s.map by8).toArray 260)) s :=
 ⟨two_last w _ _, two_alloc w _ _, by simp, ((Below.refl _ _).alloc (Nat.le_refl _) _).alloc (by simp) _, h⟩
theorem Two.next {w v v' : World} {s : List Int} {i : Nat} {n : Int} (h : Two w v s) (hi : i + 4 ≤ 32) (hb : Bx v' (w.heap.size + 1) 260 (put s i (Fr.le4 n))) (ho : Out (fun k => k = w.heap.size + 1) v v') (hz : v'.heap.size = v.heap.size) : Two w v' (put s i (Fr.le4 n)) :=
 ⟨hb, by rw [ho.block _ (by rw [h.size]; omega) (by simp)]; exact h.res, by rw [hz]; exact h.size, h.below.trans (ho.below (by rw [h.size]; omega) (fun k e => by omega)),
   ⟨by rw [put_len (by rw [h.sct.1]; exact hi)]; exact h.sct.1, put_bytes h.sct.2 (Jo.bytes_le4 _)⟩⟩
theorem Two.last {w v v' : World} {s : List Int} (h : Two w v s) (ho : Out (fun k => k = w.heap.size) v v') : Below w.heap.size w v' :=
 h.below.trans (ho.below (by rw [h.size]; omega) (fun k e => by omega))
theorem Two.eq {w v : World} {s s' : List Int} (h : Two w v s) (e : s = s') : Two w v s' := e ▸ h
theorem Two.byte {w v : World} {s : List Int} (h : Two w v s) {x : Int} (hx : 0 ≤ x ∧ x < 256) (i : Nat) (hi : i < 32) : Two w (v.setCell ⟨w.heap.size + 1, i, none⟩ (.int .u8 x)) (put s i [x]) := by
 have hb := bx_set h.sec i x (by rw [h.sct.1]; exact hi)
 have e : s.set i x = put s i [x] := by
   unfold put
   rw [List.set_eq_take_append_cons_drop, if_pos (by rw [h.sct.1]; exact hi)]
   simp
 rw [e] at hb
 have ho : Out (fun k => k = w.heap.size + 1) v (v.setCell ⟨w.heap.size + 1, i, none⟩ (.int .u8 x)) := (Out.refl _ v).setCell _ _ rfl
 exact ⟨hb, by rw [ho.block _ (by rw [h.size]; omega) (by simp)]; exact h.res, by simp [World.setCell]; exact h.size, h.below.trans (ho.below (by rw [h.size]; omega) (fun k e => by omega)),
   ⟨by rw [put_len (by rw [h.sct.1]; simp; omega)]; exact h.sct.1, put_bytes h.sct.2 (Jo.bytes_cons hx (fun _ h => by cases h))⟩⟩
theorem head_put (t : Int) : put (put (markS 72) 1 (Fr.le4 t)) 5 (Fr.le4 (M.foldF ((put (markS 72) 1 (Fr.le4 t)).take 5))) = Jo.headS t := by
 have e : put (markS 72) 1 (Fr.le4 t) = Jo.pad (72 :: Fr.le4 t) := rfl
 have e2 : (Jo.pad (72 :: Fr.le4 t)).take 5 = 72 :: Fr.le4 t := rfl
 rw [e, e2]; unfold Jo.headS Jo.sealed; generalize M.foldF (72 :: Fr.le4 t) = f; rfl
theorem last_put (t n : Int) : put (put (put (markS 67) 1 (Fr.le4 t)) 5 (Fr.le4 n)) 9 (Fr.le4 (M.foldF ((put (put (markS 67) 1 (Fr.le4 t)) 5 (Fr.le4 n)).take 9))) = Jo.lastS t n := by
 have e : put (put (markS 67) 1 (Fr.le4 t)) 5 (Fr.le4 n) = Jo.pad (67 :: (Fr.le4 t ++ Fr.le4 n)) := rfl
 have e2 : (Jo.pad (67 :: (Fr.le4 t ++ Fr.le4 n))).take 9 = 67 :: (Fr.le4 t ++ Fr.le4 n) := rfl
 rw [e, e2]; unfold Jo.lastS Jo.sealed; generalize M.foldF (67 :: (Fr.le4 t ++ Fr.le4 n)) = f; rfl
theorem first_put (t n k l : Int) : put (put (put (put (put (markS 71) 1 (Fr.le4 t)) 5 (Fr.le4 n)) 9 [k]) 10 (Fr.le4 l)) 14 (Fr.le4 (M.foldF ((put (put (put (put (markS 71) 1 (Fr.le4 t)) 5 (Fr.le4 n)) 9 [k]) 10 (Fr.le4 l)).take 14))) = Jo.firstS t n k l := by
 have e : put (put (put (put (markS 71) 1 (Fr.le4 t)) 5 (Fr.le4 n)) 9 [k]) 10 (Fr.le4 l) = Jo.pad (71 :: (Fr.le4 t ++ Fr.le4 n ++ k :: Fr.le4 l)) := rfl
 have e2 : (Jo.pad (71 :: (Fr.le4 t ++ Fr.le4 n ++ k :: Fr.le4 l))).take 14 = 71 :: (Fr.le4 t ++ Fr.le4 n ++ k :: Fr.le4 l) := rfl
 rw [e, e2]; unfold Jo.firstS Jo.sealed; generalize M.foldF (71 :: (Fr.le4 t ++ Fr.le4 n ++ k :: Fr.le4 l)) = f; rfl
set_option maxRecDepth 100000 in
set_option maxHeartbeats 1000000 in
theorem headSector_c (t : Int) (w : World) (ht : 0 ≤ t ∧ t < 4294967296) :
   Calls Tryz.prog 201 #[.int .u32 t] w fun e w' => e = .returned (secV (Jo.headS t)) ∧ Below w.heap.size w w' := by
 have zz := zlit
 have zn : ¬ zsec = [] := by decide
 have hS := (Jo.head_sct t).1
 have T0 := two_new w (markS 72) (mark_sct (by omega))
 go_enter Tryz.func201, Tryz.ntmps201
 go_wp2_with (first
   | (go_at_call 251; refine (seal_c (w.heap.size + 1) 5 _ _ _ T1.sec T1.sct.1 T1.sct.2 (by omega)).mono ?_; rintro e w2 ⟨rfl, hb, ho, hz⟩; (have T2 := (T1.next (by omega) hb ho hz).eq (head_put t)); (have b2 := T2.sec); (have r2 := T2.res); clear hb ho hz)
   | (go_at_call 249; refine (putNumber_c (w.heap.size + 1) 1 4 _ _ t _ T0.sec (by have := T0.sct.1; omega) ht.1 ht.2).mono ?_; rintro e w1 ⟨rfl, hb, ho, hz⟩; (have T1 := T0.next (by omega) hb ho hz); clear hb ho hz)
   | (go_at_call 250; refine (field_c (w.heap.size + 1) 1 _ (by omega)).mono ?_; rintro e w0 ⟨rfl, rfl⟩)
   | (refine wpList_storeS _ rfl _ _ _ rfl sizeS _ rfl (by simp) (markS 72) rfl (by rfl) _ (by simp; decide) ?_)
   | (refine wpList_loadS _ rfl _ _ rfl sizeS Tryz.underlying260 _ rfl (Jo.headS t) hS _ _ b2 ?_)
   | (refine wpList_storeA _ rfl _ _ _ rfl sizeS _ rfl (Jo.headS t) rfl hS _ _ r2 (by simp; decide) ?_; intro w4 k1 k2 k3))
 exact bodyPost_ret (v := secV (Jo.headS t)) (res_sec1 rfl _ _ sizeS Tryz.underlying260 w.heap.size rfl _ hS _ _ k1) rfl ⟨rfl, T2.last k2⟩
set_option maxRecDepth 100000 in
set_option maxHeartbeats 1000000 in
theorem lastSector_c (t n : Int) (w : World) (ht : 0 ≤ t ∧ t < 4294967296) (hn : 0 ≤ n ∧ n < 4294967296) :
   Calls Tryz.prog 256 #[.int .u32 t, .int .u32 n] w fun e w' => e = .returned (secV (Jo.lastS t n)) ∧ Below w.heap.size w w' := by
 have zz := zlit
 have zn : ¬ zsec = [] := by decide
 have hS := (Jo.last_sct t n).1
 have T0 := two_new w (markS 67) (mark_sct (by omega))
 go_enter Tryz.func256, Tryz.ntmps256
 go_wp2_with (first
   | (go_at_call 251; refine (seal_c (w.heap.size + 1) 9 _ _ _ T2.sec T2.sct.1 T2.sct.2 (by omega)).mono ?_; rintro e w3 ⟨rfl, hb, ho, hz⟩; (have T3 := (T2.next (by omega) hb ho hz).eq (last_put t n)); (have b2 := T3.sec); (have r2 := T3.res); clear hb ho hz)
   | (go_at_call 249; refine (putNumber_c (w.heap.size + 1) 5 4 _ _ n _ T1.sec (by have := T1.sct.1; omega) hn.1 hn.2).mono ?_; rintro e w2 ⟨rfl, hb, ho, hz⟩; (have T2 := T1.next (by omega) hb ho hz); clear hb ho hz)
   | (have _q := T1.size; clear _q; go_at_call 250; refine (field_c (w.heap.size + 1) 5 _ (by omega)).mono ?_; rintro e w0 ⟨rfl, rfl⟩)
   | (go_at_call 249; refine (putNumber_c (w.heap.size + 1) 1 4 _ _ t _ T0.sec (by have := T0.sct.1; omega) ht.1 ht.2).mono ?_; rintro e w1 ⟨rfl, hb, ho, hz⟩; (have T1 := T0.next (by omega) hb ho hz); clear hb ho hz)
   | (go_at_call 250; refine (field_c (w.heap.size + 1) 1 _ (by omega)).mono ?_; rintro e w0 ⟨rfl, rfl⟩)
   | (refine wpList_storeS _ rfl _ _ _ rfl sizeS _ rfl (by simp) (markS 67) rfl (by rfl) _ (by simp; decide) ?_)
   | (refine wpList_loadS _ rfl _ _ rfl sizeS Tryz.underlying260 _ rfl (Jo.lastS t n) hS _ _ b2 ?_)
   | (refine wpList_storeA _ rfl _ _ _ rfl sizeS _ rfl (Jo.lastS t n) rfl hS _ _ r2 (by simp; decide) ?_; intro w4 k1 k2 k3))
 exact bodyPost_ret (v := secV (Jo.lastS t n)) (res_sec1 rfl _ _ sizeS Tryz.underlying260 w.heap.size rfl _ hS _ _ k1) rfl ⟨rfl, T3.last k2⟩
set_option maxRecDepth 100000 in
set_option maxHeartbeats 2000000 in
theorem firstSector_c (t n k l : Int) (w : World) (ht : 0 ≤ t ∧ t < 4294967296) (hn : 0 ≤ n ∧ n < 4294967296) (hk : 0 ≤ k ∧ k < 256) (hl : 0 ≤ l ∧ l < 4294967296) :
   Calls Tryz.prog 253 #[.int .u32 t, .int .u32 n, .int .u8 k, .int .u32 l] w fun e w' => e = .returned (secV (Jo.firstS t n k l)) ∧ Below w.heap.size w w' := by
 have zz := zlit
 have zn : ¬ zsec = [] := by decide
 have hS := (Jo.first_sct t n hk l).1
 have T0 := two_new w (markS 71) (mark_sct (by omega))
 go_enter Tryz.func253, Tryz.ntmps253
 go_wp2_with (first
   | (go_at_call 251; refine (seal_c (w.heap.size + 1) 14 _ _ _ T4.sec T4.sct.1 T4.sct.2 (by omega)).mono ?_; rintro e w5 ⟨rfl, hb, ho, hz⟩; (have T5 := (T4.next (by omega) hb ho hz).eq (first_put t n k l)); (have b2 := T5.sec); (have r2 := T5.res); clear hb ho hz)
   | (go_at_call 249; refine (putNumber_c (w.heap.size + 1) 10 4 _ _ l _ T3.sec (by have := T3.sct.1; omega) hl.1 hl.2).mono ?_; rintro e w4 ⟨rfl, hb, ho, hz⟩; (have T4 := T3.next (by omega) hb ho hz); clear hb ho hz)
   | (have _q := T3.size; clear _q; go_at_call 250; refine (field_c (w.heap.size + 1) 10 _ (by omega)).mono ?_; rintro e w0 ⟨rfl, rfl⟩)
   | (go_at_call 249; refine (putNumber_c (w.heap.size + 1) 5 4 _ _ n _ T1.sec (by have := T1.sct.1; omega) hn.1 hn.2).mono ?_; rintro e w2 ⟨rfl, hb, ho, hz⟩; (have T2 := T1.next (by omega) hb ho hz); (have c9 := bx_cell hb 9 (by have := T2.sct.1; omega)); (have f9 := bx_frozen hb 9); (have T3 := T2.byte hk 9 (by omega)); clear hb ho hz)
   | (have _q := T1.size; clear _q; go_at_call 250; refine (field_c (w.heap.size + 1) 5 _ (by omega)).mono ?_; rintro e w0 ⟨rfl, rfl⟩)
   | (go_at_call 249; refine (putNumber_c (w.heap.size + 1) 1 4 _ _ t _ T0.sec (by have := T0.sct.1; omega) ht.1 ht.2).mono ?_; rintro e w1 ⟨rfl, hb, ho, hz⟩; (have T1 := T0.next (by omega) hb ho hz); clear hb ho hz)
   | (go_at_call 250; refine (field_c (w.heap.size + 1) 1 _ (by omega)).mono ?_; rintro e w0 ⟨rfl, rfl⟩)
   | (refine wpList_storeS _ rfl _ _ _ rfl sizeS _ rfl (by simp) (markS 71) rfl (by rfl) _ (by simp; decide) ?_)
   | (refine wpList_loadS _ rfl _ _ rfl sizeS Tryz.underlying260 _ rfl (Jo.firstS t n k l) hS _ _ b2 ?_)
   | (refine wpList_storeA _ rfl _ _ _ rfl sizeS _ rfl (Jo.firstS t n k l) rfl hS _ _ r2 (by simp; decide) ?_; intro w7 k1 k2 k3))
 exact bodyPost_ret (v := secV (Jo.firstS t n k l)) (res_sec1 rfl _ _ sizeS Tryz.underlying260 w.heap.size rfl _ hS _ _ k1) rfl ⟨rfl, T5.last k2⟩
end Go.Proofs.YtfmghbennahlfaaGreat
