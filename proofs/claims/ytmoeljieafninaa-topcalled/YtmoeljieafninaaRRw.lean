/-
  Rows of packets that a call owns; rows of numbers.
-/
import Derived.Test.YtmoeljieafninaaROp
import Derived.Test.YtmoeljieafninaaRLv
namespace Go.Proofs.Ytmoeljieafninaa
open Go.RowKit Go.ChangeShapes Go.WideShapes Go.ChangeAt
set_option linter.unusedVariables false
set_option linter.unusedSimpArgs false
set_option maxRecDepth 100000
def pkC (p : Fr.Pk) : List Value := [.int .u8 p.k, .int .u8 p.f, .int .u8 p.t, .int .u32 p.e, .int .u32 p.s, .string p.b]
theorem pkC_len (ps : List Fr.Pk) : (ps.flatMap pkC).length = ps.length * 6 := by
  induction ps with
  | nil => rfl
  | cons p ps ih => rw [List.flatMap_cons, List.length_append, ih, List.length_cons]; simp [pkC]; omega
theorem pkC_get (ps : List Fr.Pk) (i : Nat) (h : i < ps.length) (j : Nat) (hj : j < 6) : (ps.flatMap pkC)[i * 6 + j]? = (pkC ps[i])[j]? := by
  induction ps generalizing i with
  | nil => simp at h
  | cons p ps ih =>
    rw [List.flatMap_cons]
    rcases i with _ | i
    · rw [Nat.zero_mul, Nat.zero_add, List.getElem?_append_left (by simpa [pkC] using hj)]; rfl
    · rw [List.getElem?_append_right (by simp [pkC]; omega)]
      have : (i + 1) * 6 + j - (pkC p).length = i * 6 + j := by simp [pkC]; omega
      rw [this, ih i (by simpa using h)]; rfl
/-- A row of packets that the call owns, from base on. -/
def RowP (w : World) (base : Nat) (v : Value) (ps : List Fr.Pk) : Prop := w.ownsRow base 26 6 v ps.length (ps.flatMap pkC) ∧ base ≤ w.heap.size
theorem RowP.nil (w : World) (base : Nat) (h : base ≤ w.heap.size) : RowP w base (.slice none 0 0) [] := ⟨World.ownsRow_nil w base 26 6, h⟩
theorem RowP.slice {w : World} {base : Nat} {v : Value} {ps : List Fr.Pk} (h : RowP w base v ps) : ∃ a c, v = .slice a ps.length c := by
  rcases h.1.2 with ⟨hv, hn⟩ | ⟨g, cap, cur, hv, _⟩
  · exact ⟨none, 0, by rw [hv, hn]⟩
  · exact ⟨_, _, hv⟩
theorem RowP.out {S : Nat → Prop} {w w' : World} {base : Nat} {v : Value} {ps : List Fr.Pk} (h : RowP w base v ps) (ho : Ou S w w') (hS : ∀ k, S k → k < base ∨ w.heap.size ≤ k) : RowP w' base v ps := by
  obtain ⟨⟨h1, h2⟩, hb⟩ := h
  refine ⟨⟨h1, ?_⟩, Nat.le_trans hb ho.size⟩
  rcases h2 with h2 | ⟨g, cap, cur, a, b, c, d⟩
  · exact .inl h2
  · have hg := lt_blkC c
    exact .inr ⟨g, cap, cur, a, b, by rw [ho.block g hg (fun e => by rcases hS g e with q | q <;> omega)]; exact c, d⟩
theorem RowP.later {w w' : World} {base : Nat} {v : Value} {ps : List Fr.Pk} (h : RowP w base v ps) (hb : Below w.heap.size w w') : RowP w' base v ps := h.out (S := fun _ => False) (Ou.of hb) (fun _ e => e.elim)
theorem rowP_below {w w5 : World} {base : Nat} {v : Value} {ps : List Fr.Pk} {o : Obj} (h : RowP w base v ps) (hg : (w.alloc o).grownBy w5 v.ownBlock) : Below base w w5 :=
  ⟨hg.os, hg.tape, hg.output, by have := hg.size; simp at this; omega, fun k hk => by
    have h2 := h.2
    rw [hg.block k (by simp; omega) (fun e => by have := (h.1.lt k e.symm).1; omega), Below.heap_alloc _ _ _ (by omega)]⟩
theorem RowP.snoc {w5 : World} {base : Nat} {v' : Value} {ps : List Fr.Pk} {p : Fr.Pk} (h : w5.ownsRow base 26 6 v' (ps.length + 1) (ps.flatMap pkC ++ pkC p)) (hb : base ≤ w5.heap.size) : RowP w5 base v' (ps ++ [p]) :=
  ⟨by simpa using h, hb⟩
theorem RowP.cells {w : World} {base : Nat} {v : Value} {ps : List Fr.Pk} (h : RowP w base v ps) (hp : 0 < ps.length) : ∃ g cap, v = .slice (some ⟨g, 0, none⟩) ps.length cap ∧ base ≤ g ∧ ps.length ≤ cap ∧ ∀ i (hi : i < ps.length),
    w.cell? ⟨g, i * 6, none⟩ = some (.int .u8 ps[i].k) ∧ w.cell? ⟨g, i * 6 + 1, none⟩ = some (.int .u8 ps[i].f) ∧ w.cell? ⟨g, i * 6 + 2, none⟩ = some (.int .u8 ps[i].t) ∧ w.cell? ⟨g, i * 6 + 3, none⟩ = some (.int .u32 ps[i].e) ∧ w.cell? ⟨g, i * 6 + 4, none⟩ = some (.int .u32 ps[i].s) ∧ w.cell? ⟨g, i * 6 + 5, none⟩ = some (.string ps[i].b) := by
  rcases h.1.2 with ⟨rfl, hn⟩ | ⟨g, cap, cur, rfl, hb, hg, hn, hc, hs, ht⟩
  · omega
  · refine ⟨g, cap, rfl, hb, hn, fun i hi => ?_⟩
    have key : ∀ j, j < 6 → w.cell? ⟨g, i * 6 + j, none⟩ = (pkC ps[i])[j]? := by
      intro j hj
      have e := h.1.cells (g := g) rfl (i * 6 + j)
      have hlt : j < (pkC ps[i]).length := by simpa [pkC] using hj
      have := e _ (by rw [pkC_get ps i hi j hj, List.getElem?_eq_getElem hlt])
      rw [List.getElem?_eq_getElem hlt, ← this]
      congr 1
      unfold Addr.add
      split
      · rename_i q; rw [q]
      · simp
    exact ⟨key 0 (by omega), key 1 (by omega), key 2 (by omega), key 3 (by omega), key 4 (by omega), key 5 (by omega)⟩
theorem info_partsP : ∃ i : TypeInfo, Try.prog.info? 26 = some i ∧ i.zero = some (.agg #[.int .u8 0, .int .u8 0, .int .u8 0, .int .u32 0, .int .u32 0, .string ⟨#[]⟩]) ∧ i.size = 6 ∧ i.bytes = 32 := by
  have h : (Try.prog.info? 26).map (fun i => (i.zero, i.size, i.bytes)) = some (some (.agg #[.int .u8 0, .int .u8 0, .int .u8 0, .int .u32 0, .int .u32 0, .string ⟨#[]⟩]), 6, 32) := by kernel_rfl
  cases hi : Try.prog.info? 26 with
  | none => rw [hi] at h; cases h
  | some i => rw [hi] at h; simp at h; exact ⟨i, rfl, h.1, h.2.1, h.2.2⟩
theorem pkC_news (U : World) (H : Nat) (hH : U.heap.size = H) (k f t e s : Int) (b : ByteArray) : ∀ j u, (pkC ⟨k, f, t, e, s, b⟩)[j]? = some u → (U.alloc (.cells #[.int .u8 k, .int .u8 f, .int .u8 t, .int .u32 e, .int .u32 s, .string b] 26)).cell? ((⟨H, 0, none⟩ : Addr).add j) = some u := by
  subst hH; exact World.news_of_block (heap_alloc_new U _)
theorem IsC.under {T : TypeId} {w w' : World} {g B : Nat} {c : Cl} (h : IsC T w g c) (hb : Below B w w') (hg : g < B) : IsC T w' g c := by unfold IsC at *; rw [hb.block g hg]; exact h
theorem IsK.under {w w' : World} {g B : Nat} {f : Nat → Tk} (h : IsK w g f) (hb : Below B w w') (hg : g < B) : IsK w' g f := by unfold IsK at *; rw [hb.block g hg]; exact h
/-- A row of numbers. -/
def IntsAt (w : World) (g N : Nat) (f : Nat → Int) : Prop := ∃ cs : Array Value, w.heap[g]? = some (.cells cs 3 (0, 0)) ∧ cs.size = N ∧ ∀ j, j < N → cs[j]? = some (.int .i64 (f j))
theorem IntsAt.out {S : Nat → Prop} {w w' : World} {g N : Nat} {f : Nat → Int} (h : IntsAt w g N f) (ho : Ou S w w') (hg : ¬ S g) : IntsAt w' g N f := by
  obtain ⟨cs, h1, h2, h3⟩ := h
  exact ⟨cs, by rw [ho.block g (lt_blkC h1) hg]; exact h1, h2, h3⟩
theorem IntsAt.later {w w' : World} {g N : Nat} {f : Nat → Int} (h : IntsAt w g N f) (hb : Below w.heap.size w w') : IntsAt w' g N f := h.out (S := fun _ => False) (Ou.of hb) id
theorem IntsAt.lt {w : World} {g N : Nat} {f : Nat → Int} (h : IntsAt w g N f) : g < w.heap.size := by obtain ⟨cs, h1, _⟩ := h; exact lt_blkC h1
theorem IntsAt.cell {w : World} {g N : Nat} {f : Nat → Int} (h : IntsAt w g N f) {j : Nat} (hj : j < N) : w.cell? ⟨g, j, none⟩ = some (.int .i64 (f j)) ∧ w.frozen? ⟨g, j, none⟩ = false := by
  obtain ⟨cs, h1, h2, h3⟩ := h
  constructor
  · have := h3 j hj
    simp [World.cell?, h1, this]
  · simp [World.frozen?, h1]
theorem IntsAt.set {w : World} {g N : Nat} {f : Nat → Int} (h : IntsAt w g N f) {j : Nat} (hj : j < N) (x : Int) : IntsAt (w.setCell ⟨g, j, none⟩ (.int .i64 x)) g N (fun k => if k = j then x else f k) := by
  obtain ⟨cs, h1, h2, h3⟩ := h
  have hl := lt_blkC h1
  refine ⟨cs.setIfInBounds j (.int .i64 x), ?_, by simp [h2], fun k hk => ?_⟩
  · simp only [World.setCell]
    rw [Array.getElem?_modify, if_pos rfl, h1]
    rfl
  · by_cases e : k = j
    · subst e; simp [h2, hk]
    · rw [Array.getElem?_setIfInBounds_ne (by omega), h3 k hk]; simp [e]
end Go.Proofs.Ytmoeljieafninaa
