/-
  The document's tree: trees in memory; set and less on them; where nodes lie does not matter.
-/
import Derived.Test.YtkokjkaclcjnjaaGreatDoorPtAq
namespace Go.Proofs.YtkokjkaclcjnjaaGreatDoor
open Go.RowKit Go.ChangeShapes Go.WideShapes Go.ChangeAt Go.Maps Go.Shelf
set_option linter.unusedVariables false
set_option linter.unusedSimpArgs false
set_option maxRecDepth 100000
def NdP (w : World) (x : Nd) : Prop := x.Ok w ∧ x.Nil ∧ x.zs.length ≤ 1000 ∧ x.ks.length ≤ 1000
theorem NdP.later {w w' : World} {x : Nd} (h : NdP w x) (hb : Below w.heap.size w w') : NdP w' x := ⟨h.1.later hb, h.2⟩
def Tr (w : World) (a : Option Addr) (l : List Nd) : Prop := IsNs w a l ∧ ∀ x ∈ l, x.Nil ∧ x.zs.length ≤ 1000 ∧ x.ks.length ≤ 1000
theorem Tr.later {w w' : World} {a : Option Addr} {l : List Nd} (h : Tr w a l) (hb : Below w.heap.size w w') : Tr w' a l := ⟨h.1.later hb, h.2⟩
theorem Tr.nil (w : World) : Tr w none [] := ⟨⟨Nat.zero_le _, (fun x hx => by cases hx), fun hp => absurd hp (by simp)⟩, fun x hx => by cases hx⟩
theorem Tr.nd {w : World} {a : Option Addr} {l : List Nd} (h : Tr w a l) {x : Nd} (hx : x ∈ l) : NdP w x := ⟨h.1.2.1 x hx, h.2 x hx⟩
theorem Tr.get {w : World} {a : Option Addr} {l : List Nd} (h : Tr w a l) {f : Int} {x : Nd} (hx : getF l f = some x) : NdP w x := h.nd (getF_mem hx).1
theorem Tr.of {w : World} {base : Nat} {v : Value} {L : List Nd} (h : OwN w base v L) (hk : ∀ x ∈ L, NdP w x) (hm : L.length ≤ 100000) : ∃ a cap, v = .slice a L.length cap ∧ Tr w a L := by
 obtain ⟨a, cap, e, hI⟩ := h.is (fun x hx => (hk x hx).1) hm
 exact ⟨a, cap, e, hI, fun x hx => (hk x hx).2⟩
theorem NdR.p {w : World} {base : Nat} {x : Nd} (h : NdR w base x) : NdP w x := ⟨h.ok, h.2.1, h.1.2.2.2.2.2.2.1, h.1.2.2.2.2.2.2.2⟩
theorem setS_mem (n : Nd) (p : List Nd × Bool) (x y : Nd) (h : y ∈ (setS n p x).1) : y ∈ p.1 ∨ y = n ∨ y = x := by
 unfold setS at h
 simp only at h
 rcases List.mem_append.1 h with h | h
 · split at h
   · rcases List.mem_append.1 h with h | h
     · exact .inl h
     · exact .inr (.inl (by simpa using h))
   · exact .inl h
 · split at h
   · exact .inr (.inr (by simpa using h))
   · cases h
theorem setFold_mem (n : Nd) : ∀ (l : List Nd) (p : List Nd × Bool) (y : Nd), y ∈ (l.foldl (setS n) p).1 → y ∈ p.1 ∨ y = n ∨ y ∈ l
 | [], p, y, h => .inl h
 | x :: t, p, y, h => by
   rw [List.foldl_cons] at h
   rcases setFold_mem n t _ y h with h | h | h
   · rcases setS_mem n p x y h with h | h | h
     · exact .inl h
     · exact .inr (.inl h)
     · exact .inr (.inr (by rw [h]; exact List.mem_cons_self))
   · exact .inr (.inl h)
   · exact .inr (.inr (List.mem_cons_of_mem _ h))
theorem setL_mem {l : List Nd} {n y : Nd} (h : y ∈ setL l n) : y = n ∨ y ∈ l := by
 have key : y ∈ (l.foldl (setS n) ([], false)).1 → y = n ∨ y ∈ l := fun h => by
   rcases setFold_mem n l _ y h with h | h | h
   · cases h
   · exact .inl h
   · exact .inr h
 unfold setL at h
 split at h
 · exact key h
 · rcases List.mem_append.1 h with h | h
   · exact key h
   · exact .inl (by simpa using h)
theorem setFold_len (n : Nd) : ∀ (l : List Nd) (p : List Nd × Bool), (l.foldl (setS n) p).1.length + (if (l.foldl (setS n) p).2 then 0 else 1) ≤ p.1.length + l.length + (if p.2 then 0 else 1)
 | [], p => Nat.le_refl _
 | x :: t, p => by
   rw [List.foldl_cons]
   have ih := setFold_len n t (setS n p x)
   have : (setS n p x).1.length + (if (setS n p x).2 then 0 else 1) ≤ p.1.length + 1 + (if p.2 then 0 else 1) := by
     unfold setS
     cases p.2 <;> cases decide (n.fid ≤ x.fid) <;> cases (x.fid != n.fid) <;> simp
   simp only [List.length_cons]
   omega
theorem setL_len (l : List Nd) (n : Nd) : (setL l n).length ≤ l.length + 1 := by
 have := setFold_len n l ([], false)
 unfold setL
 split
 · rename_i h; rw [h] at this; simp at this; omega
 · rename_i h
   rw [Bool.not_eq_true] at h
   rw [h] at this
   simp only [List.length_append, List.length_cons, List.length_nil]
   simp at this
   omega
theorem outL_mem {l : List Nd} {f : Int} {y : Nd} (h : y ∈ outL l f) : y ∈ l := (List.mem_filter.1 h).1
theorem outL_len2 (l : List Nd) (f : Int) : (outL l f).length ≤ l.length := List.length_filter_le _ _
theorem setS_er (n : Nd) (p : List Nd × Bool) (x : Nd) : ((setS n p x).1.map Nd.er, (setS n p x).2) = setS n.er (p.1.map Nd.er, p.2) x.er := by
 unfold setS
 have e1 : n.er.fid = n.fid := rfl
 have e2 : x.er.fid = x.fid := rfl
 simp only [e1, e2, List.map_append]
 congr 1
 congr 1
 · split <;> simp
 · split <;> simp
theorem setFold_er (n : Nd) : ∀ (l : List Nd) (p : List Nd × Bool), ((l.foldl (setS n) p).1.map Nd.er, (l.foldl (setS n) p).2) = (l.map Nd.er).foldl (setS n.er) (p.1.map Nd.er, p.2)
 | [], p => rfl
 | x :: t, p => by
   rw [List.foldl_cons, setFold_er n t, setS_er, List.map_cons, List.foldl_cons]
theorem setL_er (l : List Nd) (n : Nd) : (setL l n).map Nd.er = setL (l.map Nd.er) n.er := by
 have h := setFold_er n l ([], false)
 simp only [List.map_nil] at h
 unfold setL
 rw [← h]
 simp only
 split <;> simp
theorem outL_er (l : List Nd) (f : Int) : (outL l f).map Nd.er = outL (l.map Nd.er) f := by
 unfold outL
 rw [List.filter_map]
 rfl
theorem getF_er (l : List Nd) (f : Int) : getF (l.map Nd.er) f = (getF l f).map Nd.er := by
 unfold getF
 rw [List.find?_map]
 rfl
def Nd.lnk (x : Nd) (n : Int) : Nd := ⟨x.fid, x.k, x.md, n, x.da, x.dc, x.zs, x.ka, x.kc, x.ks⟩
theorem lessL_er (l : List Nd) (x : Nd) : (lessL l x).map Nd.er = lessL (l.map Nd.er) x.er := by
 unfold lessL
 have e1 : x.er.ln = x.ln := rfl
 rw [e1]
 split
 · exact outL_er l x.fid
 · rw [setL_er]; rfl
theorem lessL_mem {l : List Nd} {x y : Nd} (h : y ∈ lessL l x) : y = x.lnk (x.ln - 1) ∨ y ∈ l := by
 unfold lessL at h
 split at h
 · exact .inr (outL_mem h)
 · exact setL_mem h
theorem lessL_len (l : List Nd) (x : Nd) : (lessL l x).length ≤ l.length + 1 := by
 unfold lessL
 split
 · have := outL_len2 l x.fid; omega
 · exact setL_len _ _
def TrV (w : World) (L : List Nd) (e : Ending) (w' : World) : Prop := ∃ a cap, e = .returned (.slice a L.length cap) ∧ Tr w' a L ∧ Below w.heap.size w w'
theorem set_t {a : Option Addr} (cap : Nat) {l : List Nd} {x : Nd} {w : World} (h : Tr w a l) (hm : l.length ≤ 1000) (hx : NdP w x) :
   Calls Tryz.prog 49 #[.slice a l.length cap, x.val] w (TrV w (setL l x)) := by
 refine (rset_c a cap l x w h.1 hm).mono ?_
 rintro e w' ⟨v, rfl, ho, hb⟩
 obtain ⟨a', c', rfl, ht⟩ := Tr.of ho (fun y hy => by
   rcases setL_mem hy with rfl | hy
   · exact hx.later hb
   · exact (h.nd hy).later hb) (by have := setL_len l x; omega)
 exact ⟨a', c', rfl, ht, hb⟩
theorem less_t {a : Option Addr} (cap : Nat) {l : List Nd} {x : Nd} {w : World} (h : Tr w a l) (hm : l.length ≤ 1000) (hx : NdP w x) (h1 : 1 ≤ x.ln) :
   Calls Tryz.prog 64 #[.slice a l.length cap, x.val] w (TrV w (lessL l x)) := by
 have hb4 := hx.1.2.2.2.1
 refine (rless_c a cap l x w h.1 hm h1 hb4.2).mono ?_
 rintro e w' ⟨v, rfl, ho, hb⟩
 obtain ⟨a', c', rfl, ht⟩ := Tr.of ho (fun y hy => by
   rcases lessL_mem hy with rfl | hy
   · refine ⟨?_, hx.2.1, hx.2.2.1, hx.2.2.2⟩
     obtain ⟨o1, o2, o3, o4, o5, o6⟩ := hx.1.later hb
     exact ⟨o1, o2, o3, by simp only [Nd.lnk]; omega, o5, o6⟩
   · exact (h.nd hy).later hb) (by have := lessL_len l x; omega)
 exact ⟨a', c', rfl, ht, hb⟩
theorem entS_mem (s : ByteArray) (f : Int) (p : List Kd × Bool) (x y : Kd) (h : y ∈ (entS s f p x).1) : y ∈ p.1 ∨ y = ⟨s, f⟩ ∨ y = x := by
 unfold entS at h
 simp only at h
 rcases List.mem_append.1 h with h | h
 · split at h
   · rcases List.mem_append.1 h with h | h
     · exact .inl h
     · exact .inr (.inl (by simpa using h))
   · exact .inl h
 · split at h
   · exact .inr (.inr (by simpa using h))
   · cases h
theorem entFold_mem (s : ByteArray) (f : Int) : ∀ (l : List Kd) (p : List Kd × Bool) (y : Kd), y ∈ (l.foldl (entS s f) p).1 → y ∈ p.1 ∨ y = ⟨s, f⟩ ∨ y ∈ l
 | [], p, y, h => .inl h
 | x :: t, p, y, h => by
   rw [List.foldl_cons] at h
   rcases entFold_mem s f t _ y h with h | h | h
   · rcases entS_mem s f p x y h with h | h | h
     · exact .inl h
     · exact .inr (.inl h)
     · exact .inr (.inr (by rw [h]; exact List.mem_cons_self))
   · exact .inr (.inl h)
   · exact .inr (.inr (List.mem_cons_of_mem _ h))
theorem entL_mem {l : List Kd} {s : ByteArray} {f : Int} {y : Kd} (h : y ∈ entL l s f) : y = ⟨s, f⟩ ∨ y ∈ l := by
 have key : y ∈ (l.foldl (entS s f) ([], f == 0)).1 → y = ⟨s, f⟩ ∨ y ∈ l := fun h => by
   rcases entFold_mem s f l _ y h with h | h | h
   · cases h
   · exact .inl h
   · exact .inr h
 unfold entL at h
 split at h
 · exact key h
 · rcases List.mem_append.1 h with h | h
   · exact key h
   · exact .inl (by simpa using h)
theorem entFold_len (s : ByteArray) (f : Int) : ∀ (l : List Kd) (p : List Kd × Bool), (l.foldl (entS s f) p).1.length + (if (l.foldl (entS s f) p).2 then 0 else 1) ≤ p.1.length + l.length + (if p.2 then 0 else 1)
 | [], p => Nat.le_refl _
 | x :: t, p => by
   rw [List.foldl_cons]
   have ih := entFold_len s f t (entS s f p x)
   have : (entS s f p x).1.length + (if (entS s f p x).2 then 0 else 1) ≤ p.1.length + 1 + (if p.2 then 0 else 1) := by
     unfold entS
     cases p.2 <;> cases leS s x.nm <;> cases decide (x.nm ≠ s) <;> simp
   simp only [List.length_cons]
   omega
theorem entL_len (l : List Kd) (s : ByteArray) (f : Int) : (entL l s f).length ≤ l.length + 1 := by
 have := entFold_len s f l ([], f == 0)
 generalize hq : (f == 0) = q at this
 unfold entL
 rw [hq]
 generalize (l.foldl (entS s f) ([], q)) = r at *
 cases hr : r.2 <;> cases q <;> simp [hr] at this ⊢ <;> omega
def EnV (w : World) (x : Nd) (L : List Kd) (e : Ending) (w' : World) : Prop := ∃ ka kc, e = .returned (x.kids ka kc L).val ∧ NdP w' (x.kids ka kc L) ∧ Below w.heap.size w w'
theorem enter_t {x : Nd} {s : ByteArray} {f : Int} {w : World} (hx : NdP w x) (hk : x.ks.length ≤ 900) (hs : s.size ≤ maxLen) (hf : 0 ≤ f ∧ f < 4294967296) :
   Calls Tryz.prog 63 #[x.val, .string s, .int .u32 f] w (EnV w x (entL x.ks s f)) := by
 refine (renter_c x s f w hx.1 hx.2.2.2).mono ?_
 rintro e w' ⟨ka, kc, rfl, ho, hb⟩
 have hl := entL_len x.ks s f
 have hwf : ∀ q ∈ entL x.ks s f, q.Wf := fun q hq => by
   rcases entL_mem hq with rfl | hq
   · exact ⟨hs, hf⟩
   · exact hx.1.2.2.2.2.2.2.1 q hq
 obtain ⟨a2, c2, e2, hI, _, hn⟩ := isKs_own ho hwf (by omega)
 simp only [Value.slice.injEq] at e2
 obtain ⟨rfl, _, rfl⟩ := e2
 refine ⟨ka, kc, rfl, ⟨?_, ⟨hx.2.1.1, hn⟩, hx.2.2.1, by simp only [Nd.kids]; omega⟩, hb⟩
 obtain ⟨o1, o2, o3, o4, o5, o6⟩ := hx.1.later hb
 exact ⟨o1, o2, o3, o4, o5, hI⟩
theorem kids_er (x : Nd) (ka : Option Addr) (kc : Nat) (ks : List Kd) : (x.kids ka kc ks).er = x.er.kids none 0 ks := rfl
end Go.Proofs.YtkokjkaclcjnjaaGreatDoor
