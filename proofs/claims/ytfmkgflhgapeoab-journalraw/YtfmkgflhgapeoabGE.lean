/-
  Groups of the package journal: all groups, in new memory.
  write of the package journal: sectors into the disk's buffer, one behind the other.
  carryOut of the package journal: two batches, each with a Flush behind it.
  appending and Append of the package journal.
  Append of the package journal.
  resetting and Reset of the package journal.
-/
import Derived.Test.YtfmkgflhgapeoabGD
namespace Go.Proofs.Ytfmkgflhgapeoab
open Go.RowKit Go.ChangeShapes Go.WideShapes Go.ChangeAt Go.Maps Go.Shelf
attribute [local go_sem] Oper.semAt_some
set_option linter.unusedVariables false
set_option linter.unusedSimpArgs false
/-- A row of groups that was made here. -/
def PGs (B : Nat) (w : World) (v : Value) (L : List Jo.Gr) : Prop :=
  ∃ vals : List Value, w.ownsRow B 22 1 v L.length vals ∧ ∀ i, i < L.length → ∃ u, vals[i]? = some u ∧ PG B w u (L.getD i [])
theorem PGs.nil (B : Nat) (w : World) : PGs B w (.slice none 0 0) [] := ⟨[], World.ownsRow_nil w B 22 1, fun i hi => by simp at hi⟩
theorem PG.far {B : Nat} {w w' : World} {v : Value} {gs : Jo.Gr} (h : PG B w v gs) (hk : ∀ (q : Nat) (cur : Array Value) (fr : Nat × Nat), w.heap[q]? = some (Obj.cells cur 31 fr) ∨ w.heap[q]? = some (Obj.cells cur 5 fr) → w'.heap[q]? = w.heap[q]?) : PG B w' v gs := by
  obtain ⟨vals, h1, h2⟩ := h
  have far : ∀ {e : TypeId} {u : Value} {n : Nat} {xs : List Value}, (e = 31 ∨ e = 5) → w.ownsRow B e 1 u n xs → w'.ownsRow B e 1 u n xs := fun {e u n xs} he hz => by
    refine ⟨hz.1, ?_⟩
    rcases hz.2 with h | ⟨g, cap, cur, e1, e2, e3, e4⟩
    · exact .inl h
    · refine .inr ⟨g, cap, cur, e1, e2, ?_, e4⟩
      rw [hk g cur (0, 0) (by rcases he with rfl | rfl; exact .inl e3; exact .inr e3)]; exact e3
  refine ⟨vals, far (.inl rfl) h1, fun i hi => ?_⟩
  obtain ⟨u, e1, e2, e3⟩ := h2 i hi
  exact ⟨u, e1, far (.inr rfl) e2, e3⟩
theorem PGs.later {B : Nat} {w w' : World} {v : Value} {L : List Jo.Gr} (h : PGs B w v L) (hb : Below w.heap.size w w') : PGs B w' v L := by
  obtain ⟨vals, h1, h2⟩ := h
  refine ⟨vals, own_keep h1 (Out.of (S := fun _ => False) hb) (fun _ _ h => h), fun i hi => ?_⟩
  obtain ⟨u, e1, e2⟩ := h2 i hi
  exact ⟨u, e1, e2.later hb⟩
def KC (w w' : World) : Prop := ∀ (q : Nat) (cur : Array Value) (e : TypeId) (fr : Nat × Nat), w.heap[q]? = some (Obj.cells cur e fr) → w'.heap[q]? = w.heap[q]?
theorem kc_put {w : World} {q : Nat} {o o' : Obj} (h : w.heap[q]? = some o) (hn : ∀ cur e fr, o ≠ Obj.cells cur e fr) : KC w (w.putObj q o') := fun p cur e fr hp =>
  World.putObj_heap_other (fun he => by rw [he, h] at hp; exact hn cur e fr (Option.some.inj hp))
theorem PGs.keep {B : Nat} {w w' : World} {v : Value} {L : List Jo.Gr} (h : PGs B w v L) (hk : KC w w') : PGs B w' v L := by
  obtain ⟨vals, h1, h2⟩ := h
  refine ⟨vals, ?_, fun i hi => ?_⟩
  · refine ⟨h1.1, ?_⟩
    rcases h1.2 with h | ⟨g, cap, cur, e1, e2, e3, e4⟩
    · exact .inl h
    · exact .inr ⟨g, cap, cur, e1, e2, by rw [hk g cur _ _ e3]; exact e3, e4⟩
  · obtain ⟨u, e1, e2⟩ := h2 i hi
    exact ⟨u, e1, e2.far fun q cur fr hq => by rcases hq with hq | hq <;> exact hk q cur _ _ hq⟩
theorem PGs.base {B B' : Nat} {w : World} {v : Value} {L : List Jo.Gr} (h : PGs B w v L) (hB : B' ≤ B) : PGs B' w v L := by
  obtain ⟨vals, h1, h2⟩ := h
  refine ⟨vals, own_base h1 hB, fun i hi => ?_⟩
  obtain ⟨u, e1, e2⟩ := h2 i hi
  exact ⟨u, e1, e2.base hB⟩
theorem PGs.shape {B : Nat} {w : World} {v : Value} {L : List Jo.Gr} (h : PGs B w v L) : ∃ a cap, v = .slice a L.length cap := by
  obtain ⟨vals, h1, _⟩ := h; exact own_shape6 h1
theorem own_cells {w : World} {B e sz n : Nat} {v : Value} {xs : List Value} (h : w.ownsRow B e sz v n xs) (q : Nat) (hq : v.ownBlock = some q) : ∃ cur, w.heap[q]? = some (Obj.cells cur e (0, 0)) := by
  rcases h.2 with ⟨rfl, _⟩ | ⟨g, cap, cur, rfl, _, e1, _⟩
  · cases hq
  · cases hq; exact ⟨cur, e1⟩
/-- What Groups has gathered so far: its list in block x. -/
def GLI (w : World) (z j : Nat) (ar : Array Value) (R : Obj) (gs : List Jo.Gr) (V : World) : Prop :=
  Below w.heap.size w V ∧ z + 4 ≤ V.heap.size ∧ (∃ v, V.heap[w.heap.size]? = some (.cells #[v] 63 (0, 0)) ∧ PGs (z + 4) V v gs) ∧
  V.heap[z]? = some (.cells #[pB j] 37 (0, 0)) ∧ V.heap[z + 1]? = some (.cells ar 86 (0, 0)) ∧ V.heap[z + 2]? = some (.deferred (some [])) ∧ V.heap[z + 3]? = some R
theorem GLI.later {w V V' : World} {z j : Nat} {ar : Array Value} {R : Obj} {gs : List Jo.Gr} (hz : w.heap.size < z) (h : GLI w z j ar R gs V) (hb : Below V.heap.size V V') : GLI w z j ar R gs V' := by
  obtain ⟨h1, h2, ⟨v, h3, h4⟩, h5, h6, h7, h8⟩ := h
  refine ⟨h1.trans (hb.mono (by omega)), Nat.le_trans h2 hb.size, ⟨v, by rw [hb.block _ (by omega)]; exact h3, h4.later hb⟩, ?_, ?_, ?_, ?_⟩
  all_goals (rw [hb.block _ (by omega)]; assumption)
/-- What one more group makes of it. -/
theorem GLI.next {w V V1 w5 : World} {z j : Nat} {ar : Array Value} {r : Loop} {Rb : Obj} {gs : List Jo.Gr} {g : Jo.Gr} {v gv : Value} {vals : List Value} {a5 : Option Addr} {n5 c5 : Nat} (hz : w.heap.size < z) (h : GLI w z j ar (.loop r) gs V)
    (hv : V.heap[w.heap.size]? = some (.cells #[v] 63 (0, 0))) (hrow : V.ownsRow (z + 4) 22 1 v gs.length vals) (hall : ∀ i, i < gs.length → ∃ u, vals[i]? = some u ∧ PG (z + 4) V u (gs.getD i [])) (hP : PG (z + 4) V gv g)
    (h1o : V1.os = V.os ∧ V1.tape = V.tape ∧ V1.output = V.output) (h1 : ∀ q, q < V.heap.size → q ≠ z + 3 → V1.heap[q]? = V.heap[q]?) (h1b : V1.heap[z + 3]? = some Rb) (h1z : V.heap.size ≤ V1.heap.size)
    (hown : w5.ownsRow (z + 4) 22 1 (.slice a5 n5 c5) (gs.length + 1) (vals ++ [gv])) (hg : V1.grownBy w5 v.ownBlock) :
    (w5.setCell ⟨w.heap.size, 0, none⟩ (.slice a5 n5 c5)).heap[z + 3]? = some Rb ∧ GLI w z j ar (.loop r) (gs ++ [g]) ((w5.setCell ⟨w.heap.size, 0, none⟩ (.slice a5 n5 c5)).putObj (z + 3) (.loop r)) ∧
    V.heap.size ≤ ((w5.setCell ⟨w.heap.size, 0, none⟩ (.slice a5 n5 c5)).putObj (z + 3) (.loop r)).heap.size ∧ KS V ((w5.setCell ⟨w.heap.size, 0, none⟩ (.slice a5 n5 c5)).putObj (z + 3) (.loop r)) := by
  obtain ⟨g1, g2, _, g5, g6, g7, g8⟩ := h
  have hz5 := hg.size
  have hlo : ∀ q, v.ownBlock = some q → z + 4 ≤ q ∧ q < V.heap.size := fun q hq => hrow.lt q hq
  have k5 : ∀ q, q < V.heap.size → v.ownBlock ≠ some q → q ≠ z + 3 → w5.heap[q]? = V.heap[q]? := fun q a b c => by rw [hg.block q (by omega) (fun e => b e.symm), h1 q a c]
  have kx : ∀ q, q < V.heap.size → v.ownBlock ≠ some q → q ≠ z + 3 → q ≠ w.heap.size → ((w5.setCell ⟨w.heap.size, 0, none⟩ (.slice a5 n5 c5)).putObj (z + 3) (.loop r)).heap[q]? = V.heap[q]? := fun q a b c d => by
    rw [World.putObj_heap_other c, heap_setCell_other _ _ _ _ d]; exact k5 q a b c
  have nrow : ∀ (q : Nat) (cur : Array Value) (e : TypeId) (fr : Nat × Nat), e ≠ 22 → V.heap[q]? = some (Obj.cells cur e fr) → v.ownBlock ≠ some q := fun q cur e fr he hq hb => by
    obtain ⟨cur', e'⟩ := own_cells hrow q hb
    rw [e'] at hq; have := Option.some.inj hq; injection this with a b c; exact he b.symm
  have nloop : ∀ (q : Nat) (cur : Array Value) (e : TypeId) (fr : Nat × Nat), V.heap[q]? = some (Obj.cells cur e fr) → q ≠ z + 3 := fun q cur e fr hq hb => by rw [hb, g8] at hq; cases hq
  have nbox : ∀ (q : Nat) (cur : Array Value) (e : TypeId) (fr : Nat × Nat), e ≠ 63 → V.heap[q]? = some (Obj.cells cur e fr) → q ≠ w.heap.size := fun q cur e fr he hq hb => by
    rw [hb, hv] at hq; have := Option.some.inj hq; injection this with a b c; exact he b.symm
  have b0 : w5.heap[w.heap.size]? = some (.cells #[v] 63 (0, 0)) := by rw [k5 _ (by omega) (nrow _ _ _ _ (by decide) hv) (by omega)]; exact hv
  have b3 : w5.heap[z + 3]? = some Rb := by rw [hg.block _ (by omega) (fun e => by have := hlo _ e.symm; omega)]; exact h1b
  have far : ∀ {u : Value} {x : Jo.Gr}, PG (z + 4) V u x → PG (z + 4) ((w5.setCell ⟨w.heap.size, 0, none⟩ (.slice a5 n5 c5)).putObj (z + 3) (.loop r)) u x := fun {u x} hu =>
    hu.far fun q cur fr hq => by
      rcases hq with hq | hq
      · exact kx q (lt_blk hq) (nrow _ _ _ _ (by decide) hq) (nloop _ _ _ _ hq) (nbox _ _ _ _ (by decide) hq)
      · exact kx q (lt_blk hq) (nrow _ _ _ _ (by decide) hq) (nloop _ _ _ _ hq) (nbox _ _ _ _ (by decide) hq)
  have hvl : vals.length = gs.length := by simpa using hrow.1
  refine ⟨by rw [heap_setCell_other _ _ _ _ (by simp only; omega)]; exact b3, ⟨⟨hg.os.trans (h1o.1.trans g1.os), hg.tape.trans (h1o.2.1.trans g1.tape), hg.output.trans (h1o.2.2.trans g1.output), by have := g1.size; simp [World.setCell]; omega, fun q hq => ?_⟩, by simp [World.setCell]; omega, ⟨.slice a5 n5 c5, ?_, vals ++ [gv], ?_, ?_⟩, ?_, ?_, ?_, World.putObj_heap_same (by simp [World.setCell]; omega)⟩, by simp [World.setCell]; omega, ?_⟩
  · rw [kx q (by omega) (fun e => by have := hlo q e; omega) (by omega) (by omega)]; exact g1.block q hq
  · rw [World.putObj_heap_other (by omega)]; exact heap_setBox _ b0
  · rw [List.length_append]
    refine ⟨hown.1, ?_⟩
    rcases hown.2 with h | ⟨q, cap, cur, e1, e2, e3, e4⟩
    · exact .inl h
    · exact .inr ⟨q, cap, cur, e1, e2, by rw [World.putObj_heap_other (by omega), heap_setCell_other _ _ _ _ (by simp only; omega)]; exact e3, e4⟩
  · intro i hi
    by_cases hlt : i < gs.length
    · obtain ⟨x, e1, e2⟩ := hall i hlt
      have e : (gs ++ [g]).getD i [] = gs.getD i [] := by simp [List.getD, List.getElem?_append_left hlt]
      rw [e]
      exact ⟨x, by rw [List.getElem?_append_left (by omega)]; exact e1, far e2⟩
    · have ei : i = gs.length := by simp at hi; omega
      subst ei
      have e : (gs ++ [g]).getD gs.length [] = g := by simp [List.getD]
      rw [e]
      exact ⟨gv, by rw [← hvl]; simp, far hP⟩
  · rw [kx _ (by omega) (fun e => by have := hlo _ e; omega) (by omega) (by omega)]; exact g5
  · rw [kx _ (by omega) (fun e => by have := hlo _ e; omega) (by omega) (by omega)]; exact g6
  · rw [kx _ (by omega) (fun e => by have := hlo _ e; omega) (by omega) (by omega)]; exact g7
  · intro q cur fr hq
    exact kx q (lt_blk hq) (nrow _ _ _ _ (by decide) hq) (nloop _ _ _ _ hq) (nbox _ _ _ _ (by decide) hq)
/-- The groups of the area that counts. -/
def grps (v : Int → Sec) (N : Nat) : List Jo.Gr := allG (best v 2).2 (secs v (2 + (best v 2).1 * asz N) (asz N))
theorem info30 : ∃ i : TypeInfo, Try.prog.info? 22 = some i ∧ i.zero = some (.slice none 0 0) ∧ i.size = 1 ∧ i.bytes = 24 := by
  have h : (Try.prog.info? 22).map (fun i => (i.zero, i.size, i.bytes)) = some (some (.slice none 0 0), 1, 24) := by kernel_rfl
  cases hi : Try.prog.info? 22 with
  | none => rw [hi] at h; cases h
  | some i => rw [hi] at h; simp at h; exact ⟨i, rfl, h.1, h.2.1, h.2.2⟩
set_option maxRecDepth 20000 in
set_option maxHeartbeats 4000000 in
theorem groups_all_c {w : World} {j d b1 b2 N : Nat} {on : Int → Sec} {c : Int → Option Sec} (h : IsJ w j d b1 b2 N on c) :
    Calls Try.prog 19 #[pB j] w fun e w' => ∃ v, e = .returned v ∧ PGs w.heap.size w' v (grps (vw on c) N) ∧ Below w.heap.size w w' := by
  have hN := h.2.1.two
  have h8 := h.2.2
  have hbb := best_bd (fun i => h.2.1.sec i) 2 (Nat.le_refl _)
  have haz : asz N ≤ 1023 := by unfold asz; omega
  have hx0 := heap_alloc_new w (.cells #[.slice none 0 0] 63)
  have hb0 : Below w.heap.size w (w.alloc (.cells #[.slice none 0 0] 63)) := (Below.refl _ _).alloc (Nat.le_refl _) _
  have hz0' : (w.alloc (.cells #[.slice none 0 0] 63)).heap.size = w.heap.size + 1 := by simp
  have CC := hid (counting_c (h.later hb0))
  have H := hid h
  clear h
  unfold grps
  have hse : 2 + (best (vw on c) 2).1 * asz N ≤ 2 + (best (vw on c) 2).1 * asz N + asz N := by omega
  have hen : 2 + (best (vw on c) 2).1 * asz N + asz N ≤ N := by
    have h2 : 2 * asz N + 2 ≤ N := by unfold asz; omega
    have : (best (vw on c) 2).1 * asz N ≤ 1 * asz N := Nat.mul_le_mul_right _ hbb.1
    omega
  have hsub : 2 + (best (vw on c) 2).1 * asz N + asz N - (2 + (best (vw on c) 2).1 * asz N) = asz N := by omega
  unfold arC at CC
  generalize (best (vw on c) 2).2 = t at *
  generalize 2 + (best (vw on c) 2).1 * asz N = st at *
  generalize ((best (vw on c) 2).1 : Int) = kk at *
  rw [← hsub]
  generalize st + asz N = en at *
  clear hsub
  refine (callsIn_wide (n := 3)).1 ?_
  refine callsIn_of_wp_marks Try.func19 rfl trivial ?_ rfl
  simp only [Try.ntmps19, List.size_toArray, List.length_cons, List.length_nil, Nat.reduceAdd, Nat.reduceSub, Array.replicate_succ, Array.replicate_zero, List.push_toArray, List.append_toArray, List.nil_append, List.cons_append]
  gi_wp2_with fail
  refine ⟨trivial, (callsIn_wide.2 CC.out).mono ?_⟩
  rintro _ Z ⟨rfl, hbZ⟩
  gi_wp2_with fail
  refine ⟨trivial, (callsIn_wide.2 (groups_c j kk t st en _)).mono ?_⟩
  rintro _ _ ⟨rfl, rfl⟩
  gi_wp2_with fail
  have hZz : w.heap.size < Z.heap.size := by have := hbZ.size; omega
  have y0 : Z.heap[w.heap.size]? = some (.cells #[.slice none 0 0] 63 (0, 0)) := by rw [hbZ.block _ (by omega)]; exact hx0
  have hBZ : Below w.heap.size w Z := hb0.trans (hbZ.mono (by omega))
  have A1 := alloc_facts Z (.cells #[pB j] 37)
  have n1 := heap_alloc_new Z (.cells #[pB j] 37)
  have A2 := alloc_facts (Z.alloc (.cells #[pB j] 37)) (.cells #[.int .i64 kk, .int .u32 t, .int .i64 st, .int .i64 en] 86)
  have n2 := heap_alloc_new (Z.alloc (.cells #[pB j] 37)) (.cells #[.int .i64 kk, .int .u32 t, .int .i64 st, .int .i64 en] 86)
  generalize (Z.alloc (.cells #[pB j] 37)).alloc (.cells #[.int .i64 kk, .int .u32 t, .int .i64 st, .int .i64 en] 86) = W0 at *
  generalize Z.alloc (.cells #[pB j] 37) = Z1 at *
  have hsz : W0.heap.size = Z.heap.size + 2 := by rw [A2.1, A1.1]
  have hBW0 : Below Z.heap.size Z W0 := (alloc_below A1 (Nat.le_refl _)).trans (alloc_below A2 (by rw [A1.1]; omega))
  have x1 : W0.heap[Z.heap.size]? = some (.cells #[pB j] 37 (0, 0)) := by rw [A2.2.1 _ (by rw [A1.1]; omega)]; exact n1
  have x2 : W0.heap[Z.heap.size + 1]? = some (.cells #[.int .i64 kk, .int .u32 t, .int .i64 st, .int .i64 en] 86 (0, 0)) := by rw [A1.1] at n2; exact n2
  have x0 : W0.heap[w.heap.size]? = some (.cells #[.slice none 0 0] 63 (0, 0)) := by rw [hBW0.block _ hZz]; exact y0
  have hA0 : Below w.heap.size w W0 := hBZ.trans (hBW0.mono (by omega))
  obtain ⟨i0, hi, hzi0, hzi1, hzi2⟩ := info30
  clear A1 A2 n1 n2 hx0
  generalize Z.heap.size = z at *
  refine Rg.range_go (gf := 53) (lb := #[.pointer (some ⟨z, 0, none⟩), .pointer (some ⟨z + 1, 0, none⟩)]) (by first | rfl | simp) (enters_of Try.func53 (by kernel_rfl) rfl) (fun W' => ∃ R, (∀ cur e fr, R ≠ Obj.cells cur e fr) ∧ GLI w z j #[.int .i64 kk, .int .u32 t, .int .i64 st, .int .i64 en] R (allG t (secs (vw on c) st (en - st))) W') ?_ ?_
  · intro fn
    generalize hR : Rg.recOf fn _ _ _ _ _ = R
    have h6 : W0.heap.size + 1 = z + 3 := by omega
    have hD1 : ((W0.alloc (.deferred (some []))).alloc (.loop (R .ready))).heap[z + 2]? = some (.deferred (some [])) := by
      rw [Below.heap_alloc _ _ _ (by simp; omega), ← hsz]; exact heap_alloc_new W0 _
    have hL1 : ((W0.alloc (.deferred (some []))).alloc (.loop (R .ready))).heap[z + 3]? = some (.loop (R .ready)) := by
      have := heap_alloc_new (W0.alloc (.deferred (some []))) (.loop (R .ready)); rw [World.size_alloc, h6] at this; exact this
    have hB1 : Below W0.heap.size W0 ((W0.alloc (.deferred (some []))).alloc (.loop (R .ready))) := ((Below.refl _ _).alloc (Nat.le_refl _) _).alloc (by simp) _
    have hz1 : ((W0.alloc (.deferred (some []))).alloc (.loop (R .ready))).heap.size = z + 4 := by simp; omega
    generalize ((W0.alloc (.deferred (some []))).alloc (.loop (R .ready))) = W1 at *
    have hBW : Below w.heap.size w W1 := hA0.trans (hB1.mono (by omega))
    have t3 : W1.heap[z]? = some (.cells #[pB j] 37 (0, 0)) := by rw [hB1.block _ (by omega)]; exact x1
    have t4 : W1.heap[z + 1]? = some (.cells #[.int .i64 kk, .int .u32 t, .int .i64 st, .int .i64 en] 86 (0, 0)) := by rw [hB1.block _ (by omega)]; exact x2
    rw [hsz, show z + 2 + 1 = z + 3 from rfl]
    refine (groups1_in (z + 3) z (z + 1) j d b1 b2 N on c kk t st en hse hen hbb.2 W1 (GLI w z j #[.int .i64 kk, .int .u32 t, .int .i64 st, .int .i64 en] (.loop (R .ready))) (H.out.later hBW) t3 t4 (fun gs V V' h hb => GLI.later hZz h hb) (fun gs V h => h.2.2.2.2.1) ?_ ?_).mono ?_
    · intro gs g gv V hT hVz hP hgl
      rw [hsz] at hR
      rw [hz1] at hP hVz
      subst hR
      have hT0 := hT
      obtain ⟨t1, t2, ⟨v, hv, vals, hrow, hall⟩, _, _, t7, t8⟩ := hT
      refine Rg.round_go (R := fun W' => GLI w z j #[.int .i64 kk, .int .u32 t, .int .i64 st, .int .i64 en] _ (gs ++ [g]) W' ∧ W1.heap.size ≤ W'.heap.size ∧ KS V W') t8 (by rfl) ?_
      obtain ⟨ga, gc, rfl⟩ : ∃ ga gc, gv = .slice ga g.length gc := by obtain ⟨vs, q1, _⟩ := hP; exact own_shape6 q1
      gi_wp2
      refine ⟨t8, ?_⟩
      generalize Obj.loop (Rg.recOf fn _ _ _ _ (z + 2) LoopState.busy) = Rb at *
      have p1 : ∀ q, q ≠ z + 3 → (V.putObj (z + 3) Rb).heap[q]? = V.heap[q]? := fun q hq => World.putObj_heap_other hq
      have p2 : (V.putObj (z + 3) Rb).heap[z + 3]? = some Rb := World.putObj_heap_same (by omega)
      have p3 : (V.putObj (z + 3) Rb).heap.size = V.heap.size := by simp
      have p4 : (V.putObj (z + 3) Rb).os = V.os ∧ (V.putObj (z + 3) Rb).tape = V.tape ∧ (V.putObj (z + 3) Rb).output = V.output := ⟨rfl, rfl, rfl⟩
      generalize V.putObj (z + 3) Rb = V1 at *
      have A3 := alloc_facts V1 (.cells #[.slice ga g.length gc] 22)
      have v1 : V1.heap[w.heap.size]? = some (.cells #[v] 63 (0, 0)) := by rw [p1 _ (by omega)]; exact hv
      have c1 := cell_box v1
      have hrow1 : V1.ownsRow (z + 4) 22 1 v gs.length vals := own_far hrow (fun q hq => p1 q (by have := (hrow.lt q hq).1; omega))
      have NX := fun (w5 : World) (a5 : Option Addr) (n5 c5 : Nat) ho hg => GLI.next (V1 := V1.alloc (.cells #[.slice ga g.length gc] 22)) (w5 := w5) (a5 := a5) (n5 := n5) (c5 := c5) (Rb := Rb) hZz hT0 hv hrow hall hP ⟨A3.2.2.1.trans p4.1, A3.2.2.2.1.trans p4.2.1, A3.2.2.2.2.trans p4.2.2⟩ (fun q h1 h2 => by rw [A3.2.1 q (by omega)]; exact p1 q h2) (by rw [A3.2.1 _ (by omega)]; exact p2) (by rw [A3.1]; omega) ho hg
      have HNX := hid NX
      have HA3 := hid A3
      have hvb : ∀ q, v.ownBlock = some q → z + 4 ≤ q := fun q hq => (hrow.lt q hq).1
      have hV1z : z + 4 ≤ V1.heap.size := by omega
      have P3 := hid p3
      clear NX hT0 hP A3 hall p3
      gi_wp2_with (gi_at_builtin; refine wpListIn_append_own _ rfl _ _ 63 rfl (z + 4) 22 i0 (.slice none 0 0) 1 24 Try.underlying63 hi hzi0 hzi1 hzi2 rfl (by decide) _ _ _ rfl (hrow1.alloc _) ⟨V1.heap.size, 0, none⟩ 1 1 [.slice ga g.length gc] rfl rfl (cell_one_new _ _ _) (fun y hy => by simp at hy; subst hy; rfl) (by unfold maxLen; omega) (by omega) (by simp; omega) ?_; intro v' w5 hown5 hgrow5 hnil5; obtain ⟨a5, cap5, rfl⟩ := own_shape6 hown5; (have N5 := HNX.out w5 a5 _ cap5 hown5 hgrow5); (have b5 : w5.heap[w.heap.size]? = some (.cells #[v] 63 (0, 0)) := by rw [hgrow5.block _ (by rw [HA3.out.1]; omega) (fun e => by have := hvb _ e.symm; omega), HA3.out.2.1 _ (by omega)]; exact v1); (have d5 := cell_box b5); (have f5 := frozen_box b5))
      have bz := N5.2.2.1
      simp [World.setCell] at bz
      omega
    · exact ⟨hBW, by omega, ⟨_, by rw [hB1.block _ (by omega)]; exact x0, PGs.nil _ _⟩, t3, t4, hD1, hL1⟩
    · rintro e V ⟨he, hG⟩
      exact ⟨he, hG.2.2.2.2.2.2, hG.2.2.2.2.2.1, _, (fun _ _ _ h => by cases h), hG⟩
  · rintro W' o ⟨R, hRl, hG⟩ hD hl
    rw [hsz] at hD hl ⊢
    obtain ⟨g1, g2, ⟨v, hv, hP⟩, _, _, g7, g8⟩ := hG
    obtain ⟨va, vc, rfl⟩ := hP.shape
    have v2 : (W'.putObj (z + 2 + 1) o).heap[w.heap.size]? = some (.cells #[.slice va (allG t (secs (vw on c) st (en - st))).length vc] 63 (0, 0)) := by rw [World.putObj_heap_other (by omega)]; exact hv
    have d2 : (W'.putObj (z + 2 + 1) o).heap[z + 2]? = some (.deferred (some [])) := by rw [World.putObj_heap_other (by omega)]; exact hD
    have P2 : PGs (z + 4) (W'.putObj (z + 2 + 1) o) (.slice va (allG t (secs (vw on c) st (en - st))).length vc) (allG t (secs (vw on c) st (en - st))) := hP.keep (kc_put g8 hRl)
    have B2 : Below w.heap.size w (W'.putObj (z + 2 + 1) o) := g1.trans ⟨rfl, rfl, rfl, by simp, fun q hq => World.putObj_heap_other (by omega)⟩
    clear hv hP g1 g2 g7 g8 hD hl
    generalize W'.putObj (z + 2 + 1) o = W2 at *
    obtain ⟨A, hA⟩ : ∃ A, A = (allG t (secs (vw on c) st (en - st))).length := ⟨_, rfl⟩
    rw [← hA] at v2 P2
    have c2 := cell_box v2
    have hP2 := hid P2
    clear hA P2
    gi_wp2
    refine ⟨by simp, .inl ⟨_, _, rfl, run_takeDeferred d2, ?_⟩⟩
    exact ⟨_, results_tmp rfl _ _ _, _, rfl, (hP2.out.keep (kc_put d2 (fun _ _ _ h => by cases h))).base (by omega), B2.trans ⟨rfl, rfl, rfl, by simp, fun q hq => World.putObj_heap_other (by omega)⟩⟩
end Go.Proofs.Ytfmkgflhgapeoab
namespace Go.Proofs.Ytfmkgflhgapeoab
open Go.RowKit Go.ChangeShapes Go.WideShapes Go.ChangeAt Go.Maps
set_option linter.unusedVariables false
set_option linter.unusedSimpArgs false
/-- What is loose behind sectors that were written from a place on. -/
def updL (c : Int → Option Sec) (st : Nat) (ss : List (List Int)) : Int → Option Sec := fun i => if (st : Int) ≤ i ∧ i < ((st + ss.length : Nat) : Int) then some (ss.getD (i - st).toNat []) else c i
theorem updL_nil (c : Int → Option Sec) (st : Nat) : updL c st [] = c := by
  funext i; unfold updL; rw [if_neg (by simp)]
theorem updL_snoc (c : Int → Option Sec) (st : Nat) (ss : List (List Int)) (s : List Int) : upd (updL c st ss) ((st + ss.length : Nat) : Int) (some s) = updL c st (ss ++ [s]) := by
  funext i
  unfold upd updL
  by_cases h : i = ((st + ss.length : Nat) : Int)
  · rw [if_pos h, if_pos (by subst h; simp; omega)]
    have : (i - st).toNat = ss.length := by omega
    rw [this]; simp [List.getD]
  · rw [if_neg h]
    by_cases h2 : (st : Int) ≤ i ∧ i < ((st + ss.length : Nat) : Int)
    · rw [if_pos h2, if_pos (by simp; omega)]
      have : (i - st).toNat < ss.length := by omega
      rw [List.getD, List.getD, List.getElem?_append_left this]
    · rw [if_neg h2, if_neg (by simp; omega)]
theorem IsD.mapAt {w : World} {d b1 b2 N : Nat} {on : Int → Sec} {c : Int → Option Sec} (h : IsD w d b1 b2 N on c) : (∃ es cl, w.heap[b2]? = some (.map es cl)) ∧ ∃ es cl, w.heap[b1]? = some (.map es cl) := by
  obtain ⟨_, _, _, _, ⟨⟨D2, ⟨es2, cl2, hb2, _⟩, _⟩, _⟩, m, ⟨⟨D1, ⟨es1, cl1, hb1, _⟩, _⟩, _⟩, _⟩ := h
  exact ⟨⟨_, _, hb2⟩, _, _, hb1⟩
theorem cell_not_map {w : World} {q : Nat} {es : _} {cl : _} (h : w.heap[q]? = some (.map es cl)) (o : Nat) : w.cell? ⟨q, o, none⟩ = none := by simp [World.cell?, h]
theorem IsSS.notMap {w : World} {b off n : Nat} {ss : List (List Int)} (h : IsSS w (some ⟨b, off, none⟩) n ss) (hn : 0 < n) {q : Nat} {es : _} {cl : _} (hq : w.heap[q]? = some (.map es cl)) : b ≠ q := by
  intro e
  subst e
  obtain ⟨r1, s1⟩ := h.at 0 hn
  have hl : 0 < (ss.getD 0 []).length := by rw [s1.1]; omega
  have := r1 0 _ (by simp only [List.getElem?_map, List.getElem?_eq_getElem hl]; rfl)
  rw [cell_not_map hq] at this
  cases this
theorem IsJ.parts {w : World} {j d b1 b2 N : Nat} {on : Int → Sec} {c : Int → Option Sec} (h : IsJ w j d b1 b2 N on c) : j ≠ b1 ∧ j ≠ b2 ∧ j < w.heap.size := by
  obtain ⟨⟨es, cl, h2⟩, es', cl', h1⟩ := h.2.1.mapAt
  refine ⟨fun e => ?_, fun e => ?_, lt_blk h.1⟩
  · have := h.1; rw [e, h1] at this; cases this
  · have := h.1; rw [e, h2] at this; cases this
set_option maxRecDepth 100000 in
set_option maxHeartbeats 4000000 in
theorem jwrite_c {w : World} {j d b1 b2 N : Nat} {on : Int → Sec} {c : Int → Option Sec} (h : IsJ w j d b1 b2 N on c) (st : Nat) (b off n cap : Nat) (ss : List (List Int)) (hS : IsSS w (some ⟨b, off, none⟩) n ss) (hst : st + n ≤ N) (hn0 : 0 < n) :
    Calls Try.prog 48 #[pB j, .agg #[.int .i64 st, .slice (some ⟨b, off, none⟩) n cap]] w fun e w' => e = .returned (.tuple #[]) ∧ IsJ w' j d b1 b2 N on (updL c st ss) ∧ Out (fun k => k = b2) w w' := by
  have zz := zlit
  have hN := h.2.1.two
  have hl := hS.1
  have hb1 : Below w.heap.size w (w.alloc (.cells #[.int .i64 st, .slice (some ⟨b, off, none⟩) n cap] 77)) := (Below.refl _ _).alloc (Nat.le_refl _) _
  have n1 := heap_alloc_new w (.cells #[.int .i64 st, .slice (some ⟨b, off, none⟩) n cap] 77)
  have A1 := alloc_facts w (.cells #[.int .i64 st, .slice (some ⟨b, off, none⟩) n cap] 77)
  have hJ1 := h.later hb1
  have hS1 := hS.later hb1
  have o1 : Out (fun k => k = b2) w (w.alloc (.cells #[.int .i64 st, .slice (some ⟨b, off, none⟩) n cap] 77)) := Out.of hb1
  have hq1 : (w.alloc (.cells #[.int .i64 st, .slice (some ⟨b, off, none⟩) n cap] 77)).cell? ⟨w.heap.size, 1, none⟩ = some (.slice (some ⟨b, off, none⟩) n cap) := by rw [cell_of_row _ _ 1 _ _ _ n1]; rfl
  have hb2lt : b2 < w.heap.size := by obtain ⟨⟨es, cl, h2⟩, _⟩ := h.2.1.mapAt; exact lt_blk h2
  have HW : Hid (Out (fun k => k = b2) w (w.alloc (.cells #[.int .i64 st, .slice (some ⟨b, off, none⟩) n cap] 77))) := o1
  clear h hS
  go_enter Try.func48, Try.ntmps48
  go_wp2
  generalize (w.alloc (.cells #[.int .i64 st, .slice (some ⟨b, off, none⟩) n cap] 77)) = W1 at *
  have hz1 := A1.1
  go_loopw [9] (fun i wr => ∃ m : Nat, m ≤ n ∧ i = .int .i64 m ∧ IsJ wr j d b1 b2 N on (updL c st (ss.take m)) ∧ Out (fun k => k = b2) W1 wr) (fun i _ => n - (intOf i).toNat)
  case atStart => exact ⟨0, Nat.zero_le _, rfl, by rw [List.take_zero, updL_nil]; exact hJ1, Out.refl _ _⟩
  case round =>
    obtain ⟨m, hm, rfl, hJ, hO⟩ := hrel
    have hOz := hO.size
    by_cases hlt : m < n
    · obtain ⟨⟨es, cl, hmp⟩, _⟩ := hJ1.2.1.mapAt
      have hbb : b ≠ b2 := hS1.notMap hn0 hmp
      have hbl : b < W1.heap.size := by
        obtain ⟨r1, s1⟩ := hS1.at 0 hn0
        have hl0 : 0 < (ss.getD 0 []).length := by rw [s1.1]; omega
        exact World.block_lt_of_cell? W1 _ (r1 0 _ (by simp only [List.getElem?_map, List.getElem?_eq_getElem hl0]; rfl))
      have hSr := hS1.blk (hO.block b hbl hbb)
      obtain ⟨r1, s1⟩ := hSr.at m hlt
      have nb : wr.heap[w.heap.size]? = some (.cells #[.int .i64 st, .slice (some ⟨b, off, none⟩) n cap] 77 (0, 0)) := by rw [hO.block _ (by omega) (by omega)]; exact n1
      have HT : Hid (ss.take (m + 1) = ss.take m ++ [ss.getD m []]) := by
        show _ = _
        rw [List.take_succ_eq_append_getElem (by omega)]; simp [List.getD, show m < ss.length by omega]
      have htl : (ss.take m).length = m := by rw [List.length_take]; omega
      generalize ss.getD m [] = S at *
      have hi1 : (Try.prog.info? 34).map (·.size) = some (S.map by8).length := by rw [sizeS]; simp [s1.1]
      have hs32 := s1.1
      have hb3 : Below wr.heap.size wr (wr.alloc (.cells (S.map by8).toArray 34)) := (Below.refl _ _).alloc (Nat.le_refl _) _
      have n3 := heap_alloc_new wr (.cells (S.map by8).toArray 34)
      have A3 := alloc_facts wr (.cells (S.map by8).toArray 34)
      have hJ3 := hJ.later hb3
      have hjp := hJ3.parts
      have cj3 := hJ3.cell
      have q3 : (wr.alloc (.cells (S.map by8).toArray 34)).cell? ⟨w.heap.size, 0, none⟩ = some (.int .i64 st) := by
        rw [cell_of_row _ _ 0 _ _ _ (show (wr.alloc (.cells (S.map by8).toArray 34)).heap[w.heap.size]? = some (.cells #[.int .i64 st, .slice (some ⟨b, off, none⟩) n cap] 77 (0, 0)) by rw [A3.2.1 _ (by omega)]; exact nb)]; rfl
      have nb3 : (wr.alloc (.cells (S.map by8).toArray 34)).heap[w.heap.size]? = some (.cells #[.int .i64 st, .slice (some ⟨b, off, none⟩) n cap] 77 (0, 0)) := by rw [A3.2.1 _ (by omega)]; exact nb
      have rS3 : (wr.alloc (.cells (S.map by8).toArray 34)).rangeAt wr.heap.size 0 (S.map by8) := range_sec n3
      have WC := hid (write_c (w := (wr.alloc (.cells (S.map by8).toArray 34)).drew) hJ3.2.1 ((st + m : Nat) : Int) S (sct_sec s1) (by omega) (by omega))
      have HUS : Hid (upd (updL c st (ss.take m)) ((st + m : Nat) : Int) (some S) = updL c st (ss.take (m + 1))) := by
        show _ = _
        have := updL_snoc c st (ss.take m) S
        rw [htl] at this
        rw [this, HT.out]
      have HJ3 := hid hJ3
      have HO := hid hO
      have HO3 : Hid (Out (fun k => k = b2) W1 (wr.alloc (.cells (S.map by8).toArray 34))) := hO.trans (Out.of hb3)
      have hb2r : b2 < wr.heap.size := by omega
      have pw : IntKind.i64.wrap ((st : Int) + (m : Int)) = ((st + m : Nat) : Int) := by rw [M.wrap_i64]; unfold wrap64; push_cast; omega
      have hu := Try.underlying34
      clear hJ hO hJ3 nb n3 HT hb3
      unfold secV at WC
      go_wp2_with (first
        | (refine wpList_load_mid rfl _ _ rfl b (off + m * 32) rfl (S.map by8) _ r1 Try.underlying34 rfl hi1 ?_)
        | (refine wpList_storeS _ rfl _ _ _ rfl sizeS _ rfl (by simp) S rfl hs32 _ (by simp; decide) ?_))
      go_region_held3 (fun w' => w'.cell? ⟨j, 0, none⟩ = some (pD d) ∧ w'.cell? ⟨w.heap.size, 0, none⟩ = some (.int .i64 st) ∧ w'.rangeAt wr.heap.size 0 (S.map by8)) (first | exact K5 | go_keep_ranges)
        ((go_at_call 6; refine WC.out.mono ?_; rintro e w5 ⟨rfl, hD5, hO5⟩; (have O5 : Out (fun k => k = b2) (wr.alloc (.cells (S.map by8).toArray 34)) w5 := ((Out.refl _ _).drew).trans hO5); (have K5 : w5.cell? ⟨j, 0, none⟩ = some (pD d) ∧ w5.cell? ⟨w.heap.size, 0, none⟩ = some (.int .i64 st) ∧ w5.rangeAt wr.heap.size 0 (S.map by8) := ⟨by rw [World.cell?_of_block (a := ⟨j, 0, none⟩) (O5.block j hjp.2.2 hjp.2.1)]; exact cj3, by rw [World.cell?_of_block (a := ⟨w.heap.size, 0, none⟩) (O5.block w.heap.size (by rw [A3.1]; omega) (by omega))]; exact q3, fun jj v hv => by rw [World.cell?_of_block (a := ⟨wr.heap.size, 0 + jj, none⟩) (O5.block wr.heap.size (by rw [A3.1]; omega) (by omega))]; exact rS3 jj v hv⟩)))
      go_wp2
      go_roundw
      case rel => exact ⟨m + 1, by omega, by go_num, ⟨by rw [O5.block j hjp.2.2 hjp.2.1]; exact HJ3.out.1, by rw [← HUS.out]; exact hD5, HJ3.out.2.2⟩, HO3.out.trans O5⟩
      case measure => simp [intOf]; omega
    · have em : m = n := by omega
      have ht : ss.take m = ss := List.take_of_length_le (by omega)
      rw [ht] at hJ
      have HJ := hid hJ
      clear hJ
      go_wp2
      exact body_end (by kernel_rfl) rfl ⟨rfl, HJ.out, HW.out.trans hO⟩
end Go.Proofs.Ytfmkgflhgapeoab
namespace Go.Proofs.Ytfmkgflhgapeoab
open Go.RowKit Go.ChangeShapes Go.WideShapes Go.ChangeAt Go.Maps
set_option linter.unusedVariables false
set_option linter.unusedSimpArgs false
/-- What is on a disk behind sectors that were written from a place on. -/
def updO (f : Int → Sec) (st : Nat) (ss : List (List Int)) : Int → Sec := fun i => if (st : Int) ≤ i ∧ i < ((st + ss.length : Nat) : Int) then ss.getD (i - st).toNat [] else f i
theorem updL_updO (on : Int → Sec) (c : Int → Option Sec) (st : Nat) (ss : List (List Int)) : (fun i => (updL c st ss i).getD (on i)) = updO (vw on c) st ss := by
  funext i; unfold updL updO vw; split <;> simp
theorem vw_none (on : Int → Sec) : vw on (fun _ => none) = on := rfl
theorem IsSS.lt {w : World} {b off n : Nat} {ss : List (List Int)} (h : IsSS w (some ⟨b, off, none⟩) n ss) (hn : 0 < n) : b < w.heap.size := by
  obtain ⟨r1, s1⟩ := h.at 0 hn
  have hl0 : 0 < (ss.getD 0 []).length := by rw [s1.1]; omega
  exact World.block_lt_of_cell? w _ (r1 0 _ (by simp only [List.getElem?_map, List.getElem?_eq_getElem hl0]; rfl))
/-- Rows of sectors stay where a disk's maps turn. -/
theorem IsSS.disk {w w' : World} {b off n : Nat} {ss : List (List Int)} {d b1 b2 N : Nat} {on : Int → Sec} {c : Int → Option Sec} (h : IsSS w (some ⟨b, off, none⟩) n ss) (hn : 0 < n) (hD : IsD w d b1 b2 N on c) (ho : Out (fun k => k = b1 ∨ k = b2) w w') : IsSS w' (some ⟨b, off, none⟩) n ss := by
  obtain ⟨⟨es, cl, h2⟩, es', cl', h1⟩ := hD.mapAt
  exact h.blk (ho.block b (h.lt hn) (by rintro (e | e); exact h.notMap hn h1 e; exact h.notMap hn h2 e))
theorem IsJ.flushed {w w' : World} {j d b1 b2 N : Nat} {on on' : Int → Sec} {c c' : Int → Option Sec} (h : IsJ w j d b1 b2 N on c) (hD : IsD w' d b1 b2 N on' c') (ho : Out (fun k => k = b1 ∨ k = b2) w w') : IsJ w' j d b1 b2 N on' c' := by
  have hp := h.parts
  exact ⟨by rw [ho.block j hp.2.2 (by rintro (e | e); exact hp.1 e; exact hp.2.1 e)]; exact h.1, hD, h.2.2⟩
theorem index0 (a b c d : Value) (w : World) : (Instr.index 78 (.agg #[a, b, c, d]) (.int .i64 0)).run Try.prog w = .ok (.agg #[a, b]) w := by
  simp [Instr.index, run_underlying Try.underlying78, asIntOf, part, Try.sizeOf77, run_underlying Try.underlying77, Result.andThen, go_sem]
theorem index1 (a b c d : Value) (w : World) : (Instr.index 78 (.agg #[a, b, c, d]) (.int .i64 1)).run Try.prog w = .ok (.agg #[c, d]) w := by
  simp [Instr.index, run_underlying Try.underlying78, asIntOf, part, Try.sizeOf77, run_underlying Try.underlying77, Result.andThen, go_sem]
set_option maxHeartbeats 1000000 in
theorem carry_err (j : Nat) (v0 v1 v2 v3 : Value) (e : Int) (he : e ≠ 0) (w : World) :
    Calls Try.prog 36 #[pB j, .agg #[v0, v1, v2, v3], .int .i64 e] w fun r w' => r = .returned (.int .i64 e) ∧ Below w.heap.size w w' := by
  have h1 : (e != 0) = true := by simpa using he
  have h2 : (e == 0) = false := by simpa using he
  go_enter Try.func36, Try.ntmps36
  go_wp2
  go_ret
  exact ⟨rfl, (Below.refl _ _).alloc (Nat.le_refl _) _⟩
set_option maxRecDepth 20000 in
set_option maxHeartbeats 4000000 in
theorem carry_c {w : World} {j d b1 b2 N : Nat} {on : Int → Sec} {c : Int → Option Sec} (h : IsJ w j d b1 b2 N on c) (s0 p0 o0 n0 k0 s1 p1 o1 n1 k1 : Nat) (S0 S1 : List (List Int))
    (hS0 : IsSS w (some ⟨p0, o0, none⟩) n0 S0) (hS1 : IsSS w (some ⟨p1, o1, none⟩) n1 S1) (h0 : 0 < n0) (h1 : 0 < n1) (hn0 : s0 + n0 ≤ N) (hn1 : s1 + n1 ≤ N) :
    Calls Try.prog 36 #[pB j, .agg #[.int .i64 s0, .slice (some ⟨p0, o0, none⟩) n0 k0, .int .i64 s1, .slice (some ⟨p1, o1, none⟩) n1 k1], .int .i64 0] w fun r w' => r = .returned (.int .i64 0) ∧ IsJ w' j d b1 b2 N (updO (updO (vw on c) s0 S0) s1 S1) (fun _ => none) ∧ Out (fun k => k = b1 ∨ k = b2) w w' := by
  have H := hid h
  have HS0 := hid hS0
  have HS1 := hid hS1
  clear h hS0 hS1
  go_enter Try.func36, Try.ntmps36
  go_wp2
  refine wp_loop_rounds 3 ?_
  rw [rounds_succ]
  have x0 := index0 (.int .i64 s0) (.slice (some ⟨p0, o0, none⟩) n0 k0) (.int .i64 s1) (.slice (some ⟨p1, o1, none⟩) n1 k1)
  have x1 := index1 (.int .i64 s0) (.slice (some ⟨p0, o0, none⟩) n0 k0) (.int .i64 s1) (.slice (some ⟨p1, o1, none⟩) n1 k1)
  go_wp2_with fail
  have hBa : Below w.heap.size w ((w.alloc (.cells #[.int .i64 s0, .slice (some ⟨p0, o0, none⟩) n0 k0, .int .i64 s1, .slice (some ⟨p1, o1, none⟩) n1 k1] 78)).alloc (.cells #[.int .i64 s0, .slice (some ⟨p0, o0, none⟩) n0 k0] 77)) := ((Below.refl _ _).alloc (Nat.le_refl _) _).alloc (by simp) _
  generalize ((w.alloc (.cells #[.int .i64 s0, .slice (some ⟨p0, o0, none⟩) n0 k0, .int .i64 s1, .slice (some ⟨p1, o1, none⟩) n1 k1] 78)).alloc (.cells #[.int .i64 s0, .slice (some ⟨p0, o0, none⟩) n0 k0] 77)) = Wa at *
  refine (jwrite_c (H.out.later hBa) s0 p0 o0 n0 k0 S0 (HS0.out.later hBa) hn0 h0).mono ?_
  rintro _ w1 ⟨rfl, hJ1, hO1⟩
  have hO1' : Out (fun k => k = b1 ∨ k = b2) Wa w1 := hO1.mono (fun k e => .inr e)
  have cj1 := hJ1.cell
  have HS11 := hid ((HS1.out.later hBa).disk h1 (H.out.later hBa).2.1 hO1')
  have HJ1 := hid hJ1
  clear hJ1
  go_wp2_with fail
  refine (flush_c HJ1.out.2.1).mono ?_
  rintro _ w2 ⟨rfl, hD2, hO2⟩
  rw [updL_updO] at hD2
  have HJ2 := hid (HJ1.out.flushed hD2 hO2)
  have HS12 := hid (HS11.out.disk h1 HJ1.out.2.1 hO2)
  have HO2 := hid (((Out.of (S := fun k => k = b1 ∨ k = b2) hBa).trans hO1').trans hO2)
  clear hO1 hO1' hO2 cj1 hD2
  go_wp2
  rw [rounds_succ]
  go_wp2_with fail
  have hBb : Below w2.heap.size w2 (w2.alloc (.cells #[.int .i64 s1, .slice (some ⟨p1, o1, none⟩) n1 k1] 77)) := (Below.refl _ _).alloc (Nat.le_refl _) _
  generalize (w2.alloc (.cells #[.int .i64 s1, .slice (some ⟨p1, o1, none⟩) n1 k1] 77)) = Wb at *
  refine (jwrite_c (HJ2.out.later hBb) s1 p1 o1 n1 k1 S1 (HS12.out.later hBb) hn1 h1).mono ?_
  rintro _ w3 ⟨rfl, hJ3, hO3⟩
  have cj3 := hJ3.cell
  have HJ3 := hid hJ3
  clear hJ3
  go_wp2_with fail
  refine (flush_c HJ3.out.2.1).mono ?_
  rintro _ w4 ⟨rfl, hD4, hO4⟩
  rw [updL_updO, vw_none] at hD4
  have HJ4 := hid (HJ3.out.flushed hD4 hO4)
  have HO4 := hid (((HO2.out.trans (Out.of hBb)).trans (hO3.mono (fun k e => .inr e))).trans hO4)
  clear hO3 hO4 cj3 hD4
  go_wp2
  rw [rounds_succ]
  go_wp2
  go_ret
  exact ⟨rfl, HJ4.out, HO4.out⟩
end Go.Proofs.Ytfmkgflhgapeoab
namespace Go.Proofs.Ytfmkgflhgapeoab
open Go.RowKit Go.ChangeShapes Go.WideShapes Go.ChangeAt Go.Maps
set_option linter.unusedVariables false
set_option linter.unusedSimpArgs false
/-- The area that counts: where it begins, how many groups it has, the first sector behind them. -/
def arSt (v : Int → Sec) (N : Nat) : Nat := 2 + (best v 2).1 * asz N
def arEnd (v : Int → Sec) (N : Nat) : Nat := arSt v N + sumN (grps v N)
def noB : Array Value := #[.int .i64 0, .slice none 0 0, .int .i64 0, .slice none 0 0]
theorem res_row {fn : Func} {p u : Tmp} {ty : TypeId} {nn : Nat} {ee : TypeId} (h : fn.results = #[.cell p ty, .tmp u]) (tmps : Array Value) (w : World) (g : Nat) (hp : tmps.getD p undef = .pointer (some ⟨g, 0, none⟩)) (cs : Array Value) (t : TypeId) (fr : Nat × Nat) (hb : w.heap[g]? = some (.cells cs t fr))
    (hu : Try.prog.underlying ty = some (.array nn ee)) (hi : (Try.prog.info? ty).map (·.size) = some cs.size) (v : Value) (hv : tmps.getD u undef = v) : (results fn tmps).run Try.prog w = .ok (.tuple #[.agg cs, v]) w := by
  have hl := run_loadVar_row (P := Try.prog) w g t ty cs fr _ hb hu rfl hi
  rw [results_cell_tmp h, hp, hv]
  simp [asAddr, Result.andThen, hl]
theorem groupsF_len (t : Int) : ∀ (m : Nat) (n : Int) (ss : List (List Int)), (Jo.groupsF t m n ss).length ≤ m
  | 0, n, ss => by simp [Jo.groupsF]
  | m + 1, n, ss => by
    unfold Jo.groupsF
    split
    · simp
    · have := groupsF_len t m (n + 1) (ss.drop (Jo.needF ‹_›)); simp; omega
theorem grps_len (v : Int → Sec) (N : Nat) : (grps v N).length ≤ asz N + 1 := by
  unfold grps allG
  have := groupsF_len (best v 2).2 ((secs v (2 + (best v 2).1 * asz N) (asz N)).length + 1) 1 (secs v (2 + (best v 2).1 * asz N) (asz N))
  rw [secs_len] at this ⊢
  exact this
theorem heap_set4 {W : World} {B : Nat} {a b c d : Value} {t : TypeId} (a' b' c' d' : Value) (h : W.heap[B]? = some (.cells #[a, b, c, d] t (0, 0))) :
    ((((W.setCell ⟨B, 0, none⟩ a').setCell ⟨B, 1, none⟩ b').setCell ⟨B, 2, none⟩ c').setCell ⟨B, 3, none⟩ d').heap[B]? = some (.cells #[a', b', c', d'] t (0, 0)) := by
  have h1 := heap_setCell_same W B 0 _ t a' h
  have h2 := heap_setCell_same _ B 1 _ t b' h1
  have h3 := heap_setCell_same _ B 2 _ t c' h2
  have h4 := heap_setCell_same _ B 3 _ t d' h3
  rw [h4]; rfl
theorem size78 : (Try.prog.info? 78).map (·.size) = some 4 := by kernel_rfl
/-- What appending answers. -/
def AppPost (v : Int → Sec) (N : Nat) (g : Jo.Gr) (w : World) (e : Ending) (w' : World) : Prop :=
  Below w.heap.size w w' ∧
  (Jo.needF g = 0 ∧ e = .returned (.tuple #[.agg noB, .int .i64 2]) ∨
   Jo.needF g ≠ 0 ∧ arSt v N + asz N < arEnd v N + Jo.needF g ∧ e = .returned (.tuple #[.agg noB, .int .i64 4]) ∨
   Jo.needF g ≠ 0 ∧ arEnd v N + Jo.needF g ≤ arSt v N + asz N ∧ ∃ p o k, e = .returned (.tuple #[.agg #[.int .i64 (arEnd v N : Nat), .slice (some ⟨p, o, none⟩) (Jo.needF g - 1) k, .int .i64 ((arEnd v N + (Jo.needF g - 1) : Nat) : Int), .slice (some ⟨p, o + (Jo.needF g - 1) * 32, none⟩) 1 (k - (Jo.needF g - 1))], .int .i64 0]) ∧
     IsSS w' (some ⟨p, o, none⟩) (Jo.needF g) (Jo.laid g (best v 2).2 ((grps v N).length + 1)))
set_option maxRecDepth 200000 in
set_option maxHeartbeats 4000000 in
theorem appending_c {w : World} {j d b1 b2 N : Nat} {on : Int → Sec} {c : Int → Option Sec} (h : IsJ w j d b1 b2 N on c) (a : Option Addr) (len cap : Nat) (g : Jo.Gr) (hG : IsG0 w a len g) :
    Calls Try.prog 37 #[pB j, .slice a len cap] w (AppPost (vw on c) N g w) := by
  have hN := h.2.1.two
  have h8 := h.2.2
  have hbb := best_bd (fun i => h.2.1.sec i) 2 (Nat.le_refl _)
  have haz : asz N ≤ 1023 := by unfold asz; omega
  have hb0 : Below w.heap.size w (w.alloc (.cells noB 78)) := (Below.refl _ _).alloc (Nat.le_refl _) _
  have n0 := heap_alloc_new w (.cells noB 78)
  have A0 := alloc_facts w (.cells noB 78)
  have NC := hid (needs_c a len cap g (w.alloc (.cells noB 78)) (hG.later hb0).isG)
  by_cases hz : Jo.needF g = 0
  · rw [hz] at NC
    have HZ := hid hz
    clear hz
    unfold noB at *
    go_enter Try.func37, Try.ntmps37
    go_wp2_with (go_at_call 21; refine NC.out.mono ?_; rintro e w' ⟨rfl, rfl⟩)
    exact bodyPost_ret (v := .tuple #[.agg noB, .int .i64 2]) (res_row rfl _ _ w.heap.size rfl noB _ _ n0 Try.underlying78 size78 _ rfl) rfl ⟨hb0, .inl ⟨HZ.out, rfl⟩⟩
  · have hnl := need_le g
    have hok := (Jo.need_pos hz).1
    have CC := hid (counting_c (h.later hb0))
    have hse : arSt (vw on c) N ≤ arSt (vw on c) N + asz N := by omega
    have hen : arSt (vw on c) N + asz N ≤ N := by
      have h2 : 2 * asz N + 2 ≤ N := by unfold asz; omega
      have : (best (vw on c) 2).1 * asz N ≤ 1 * asz N := Nat.mul_le_mul_right _ hbb.1
      unfold arSt; omega
    have hgl : (grps (vw on c) N) = allG (best (vw on c) 2).2 (secs (vw on c) (arSt (vw on c) N) (arSt (vw on c) N + asz N - arSt (vw on c) N)) := by
      rw [Nat.add_sub_cancel_left]; rfl
    have TC : Hid (∀ W, Below w.heap.size w W → Calls Try.prog 42 #[pB j, .agg #[.int .i64 ((best (vw on c) 2).1 : Nat), .int .u32 (best (vw on c) 2).2, .int .i64 (arSt (vw on c) N : Nat), .int .i64 ((arSt (vw on c) N + asz N : Nat) : Int)]] W fun e w' => e = .returned (.tuple #[.int .u32 ((grps (vw on c) N).length : Nat), .int .i64 ((arEnd (vw on c) N : Nat) : Int)]) ∧ Below W.heap.size W w') := fun W hW => by
      have := tail_c (h.later hW) ((best (vw on c) 2).1 : Nat) (best (vw on c) 2).2 (arSt (vw on c) N) (arSt (vw on c) N + asz N) hse hen hbb.2
      rw [← hgl] at this
      exact this
    have hlen : (grps (vw on c) N).length ≤ 2048 := by have := grps_len (vw on c) N; omega
    have hend : arEnd (vw on c) N ≤ 20000000 := by have := sumN_le (grps (vw on c) N); unfold arEnd; omega
    have hst : arSt (vw on c) N ≤ 2048 := by omega
    change Hid (Calls Try.prog 39 #[pB j] _ fun e w' => e = .returned (.agg #[.int .i64 ((best (vw on c) 2).1 : Nat), .int .u32 (best (vw on c) 2).2, .int .i64 (arSt (vw on c) N : Nat), .int .i64 ((arSt (vw on c) N + asz N : Nat) : Int)]) ∧ _) at CC
    have HG := hid hG
    have hb := hbb.2
    clear hgl h hG hbb
    unfold AppPost
    generalize (grps (vw on c) N).length = cn at *
    generalize arEnd (vw on c) N = en at *
    generalize arSt (vw on c) N + asz N = lim at *
    generalize arSt (vw on c) N = st at *
    generalize (best (vw on c) 2).2 = t at *
    generalize (best (vw on c) 2).1 = kk at *
    have hz0 := A0.1
    have HLD : Hid (Jo.needF g = (Jo.laid g t (cn + 1)).length) := by show _ = _; rw [Jo.laid_len, Jo.need_ok hok]
    have HSC := hid (Jo.laid_sct HG.out.isG.bytes (Jo.ok_iff.1 hok).2.1 t (cn + 1))
    have HGS : Hid (∀ W, Below w.heap.size w W → Calls Try.prog 52 #[.slice a len cap, .int .u32 t, .int .u32 ((cn : Int) + 1)] W fun e w' => ∃ v, e = .returned v ∧ w'.ownsRow W.heap.size 34 32 v (Jo.laid g t (cn + 1)).length (scells (Jo.laid g t (cn + 1))) ∧ Below W.heap.size W w') := fun W hW => groupSectors_c a len cap g t (cn + 1) W (HG.out.later hW) hok hb (by omega)
    generalize Jo.needF g = ng at *
    have hng0 : ((ng : Int) == 0) = false := by simp; omega
    have hng1 : ¬ (ng : Int) = 0 := by omega
    generalize Jo.laid g t (cn + 1) = LD at *
    unfold noB at *
    by_cases hfit : lim < en + ng
    · have hf' : (lim : Int) - en < ng := by omega
      go_enter Try.func37, Try.ntmps37
      go_wp2_with (first
        | (have _q := K3.out; clear _q; refine wpList_store_row rfl _ _ _ rfl w.heap.size #[.int .i64 0, .slice none 0 0, .int .i64 0, .slice none 0 0] rfl rfl _ _ r3 size78 rfl (by simp [Value.oneCell']) ?_; clear K3)
        | (go_at_call 42; refine (TC.out _ hB2).mono ?_; rintro e w3 ⟨rfl, hb3⟩; (have hB3 : Below w.heap.size w w3 := hB2.trans (hb3.mono hB2.size)); (have x3 : w3.heap[w1.heap.size]? = some (.cells #[.int .i64 kk, .int .u32 t, .int .i64 st, .int .i64 lim] 86 (0, 0)) := by rw [hb3.block _ (by simp)]; exact heap_alloc_new w1 _); (have c31 : w3.cell? ⟨w1.heap.size, 1, none⟩ = some (.int .u32 t) := by rw [cell_of_row w3 _ 1 _ _ _ x3]; rfl); (have c33 : w3.cell? ⟨w1.heap.size, 3, none⟩ = some (.int .i64 lim) := by rw [cell_of_row w3 _ 3 _ _ _ x3]; rfl); (have r3 : w3.heap[w.heap.size]? = some (.cells #[.int .i64 0, .slice none 0 0, .int .i64 0, .slice none 0 0] 78 (0, 0)) := by rw [hb3.block _ (by have := hb1.size; simp; omega), Below.heap_alloc _ _ _ (by have := hb1.size; omega), hb1.block _ (by omega)]; exact n0); (have K3 : Hid True := hid trivial))
        | (go_at_call 39; refine CC.out.mono ?_; rintro e w1 ⟨rfl, hb1⟩; (have hB2 : Below w.heap.size w (w1.alloc (.cells #[.int .i64 kk, .int .u32 t, .int .i64 st, .int .i64 lim] 86)) := (hb0.trans (hb1.mono hb0.size)).alloc (Nat.le_trans hb0.size hb1.size) _))
        | (go_at_call 21; refine NC.out.mono ?_; rintro e w' ⟨rfl, rfl⟩))
      exact bodyPost_ret (v := .tuple #[.agg #[.int .i64 0, .slice none 0 0, .int .i64 0, .slice none 0 0], .int .i64 4]) (res_row rfl _ _ w.heap.size rfl #[.int .i64 0, .slice none 0 0, .int .i64 0, .slice none 0 0] _ _ (setRow_heap w3 _ _ _ _ _ r3) Try.underlying78 size78 _ rfl) rfl ⟨Below.setRow hB3 _ _ (Nat.le_refl _), .inr (.inl ⟨hz, hfit, rfl⟩)⟩
    · obtain ⟨q, hq⟩ : ∃ q : Nat, (lim : Int) - en = q := ⟨lim - en, by omega⟩
      have hq2 : (ng : Int) ≤ q := by omega
      have hq3 : ¬ (q : Int) < ng := by omega
      have HFIT := hid hfit
      clear hfit
      go_enter Try.func37, Try.ntmps37
      go_wp2_with (first
        | (go_at_call 42; refine (TC.out _ hB2).mono ?_; rintro e w3 ⟨rfl, hb3⟩; (have hB3 : Below w.heap.size w w3 := hB2.trans (hb3.mono hB2.size)); (have x3 : w3.heap[w1.heap.size]? = some (.cells #[.int .i64 kk, .int .u32 t, .int .i64 st, .int .i64 lim] 86 (0, 0)) := by rw [hb3.block _ (by simp)]; exact heap_alloc_new w1 _); (have c31 : w3.cell? ⟨w1.heap.size, 1, none⟩ = some (.int .u32 t) := by rw [cell_of_row w3 _ 1 _ _ _ x3]; rfl); (have c33 : w3.cell? ⟨w1.heap.size, 3, none⟩ = some (.int .i64 lim) := by rw [cell_of_row w3 _ 3 _ _ _ x3]; rfl); (have r3 : w3.heap[w.heap.size]? = some (.cells #[.int .i64 0, .slice none 0 0, .int .i64 0, .slice none 0 0] 78 (0, 0)) := by rw [hb3.block _ (by have := hb1.size; simp; omega), Below.heap_alloc _ _ _ (by have := hb1.size; omega), hb1.block _ (by omega)]; exact n0))
        | (go_at_call 39; refine CC.out.mono ?_; rintro e w1 ⟨rfl, hb1⟩; (have hB2 : Below w.heap.size w (w1.alloc (.cells #[.int .i64 kk, .int .u32 t, .int .i64 st, .int .i64 lim] 86)) := (hb0.trans (hb1.mono hb0.size)).alloc (Nat.le_trans hb0.size hb1.size) _))
        | (go_at_call 21; refine NC.out.mono ?_; rintro e w' ⟨rfl, rfl⟩))
      refine (HGS.out w3 hB3).mono ?_
      rintro e w5 ⟨v5, rfl, hown5, hb5⟩
      obtain ⟨sa, k, hv5, hS5, hsc5, hin5⟩ := own_isSS hown5 HSC.out (by rw [← HLD.out]; omega)
      rw [← HLD.out] at hv5 hS5 hsc5
      subst hv5
      obtain ⟨p, o, rfl, _⟩ := hS5.2.2.2 (by omega)
      have hB5 : Below w.heap.size w w5 := hB3.trans (hb5.mono hB3.size)
      have r5 : w5.heap[w.heap.size]? = some (.cells #[.int .i64 0, .slice none 0 0, .int .i64 0, .slice none 0 0] 78 (0, 0)) := by rw [hb5.block _ (lt_blk r3)]; exact r3
      have HS5 := hid hS5
      have HIN := hid (hin5 _ rfl)
      clear hown5 hin5 hS5
      go_wp2_with fail
      have q0 : w5.cell? ⟨w.heap.size, 0, none⟩ = some (.int .i64 0) := by rw [cell_of_row w5 _ 0 _ _ _ r5]; rfl
      have q1 : w5.cell? ⟨w.heap.size, 1, none⟩ = some (.slice none 0 0) := by rw [cell_of_row w5 _ 1 _ _ _ r5]; rfl
      have q2 : w5.cell? ⟨w.heap.size, 2, none⟩ = some (.int .i64 0) := by rw [cell_of_row w5 _ 2 _ _ _ r5]; rfl
      have q3 : w5.cell? ⟨w.heap.size, 3, none⟩ = some (.slice none 0 0) := by rw [cell_of_row w5 _ 3 _ _ _ r5]; rfl
      have f0 : ∀ i, w5.frozen? ⟨w.heap.size, i, none⟩ = false := fun i => by simp [World.frozen?, r5]
      have f00 := f0 0
      have f01 := f0 1
      have f02 := f0 2
      have f03 := f0 3
      obtain ⟨nm, hnm⟩ : ∃ nm, nm = ng - 1 := ⟨_, rfl⟩
      obtain ⟨e2, he2⟩ : ∃ e2, e2 = en + (ng - 1) := ⟨_, rfl⟩
      have z7 : (ng : Int) - 1 = (nm : Int) := by omega
      have z8 : (en : Int) + (ng : Int) - 1 = (e2 : Int) := by omega
      have z0 : (0 : Int) ≤ (nm : Int) := by omega
      have z1 : (nm : Int) ≤ k := by omega
      have z2 : (nm : Int) ≤ ng := by omega
      have z3 : (ng : Int) ≤ k := by omega
      have z4 : ¬ k = nm := by omega
      have z5 : ng - nm = 1 := by omega
      have w1' : IntKind.i64.wrap (nm : Int) = (nm : Int) := by rw [M.wrap_i64]; unfold wrap64; omega
      have w2' : IntKind.i64.wrap ((en : Int) + (ng : Int)) = (en : Int) + ng := by rw [M.wrap_i64]; unfold wrap64; omega
      have w3' : IntKind.i64.wrap (e2 : Int) = (e2 : Int) := by rw [M.wrap_i64]; unfold wrap64; omega
      have HNM := hid hnm
      have HE2 := hid he2
      clear hnm he2
      go_region_held3 (fun w' => True) (trivial) (fail)
      go_wp2
      have y5 : ((((w5.setCell ⟨w.heap.size, 0, none⟩ (.int .i64 en)).setCell ⟨w.heap.size, 1, none⟩ (.slice (some ⟨p, o, none⟩) nm k)).setCell ⟨w.heap.size, 2, none⟩ (.int .i64 e2)).setCell ⟨w.heap.size, 3, none⟩ (.slice (some ⟨p, o + nm * 32, none⟩) 1 (k - nm))).drew.heap[w.heap.size]? = some (.cells #[.int .i64 en, .slice (some ⟨p, o, none⟩) nm k, .int .i64 e2, .slice (some ⟨p, o + nm * 32, none⟩) 1 (k - nm)] 78 (0, 0)) := heap_set4 (.int .i64 en) (.slice (some ⟨p, o, none⟩) nm k) (.int .i64 e2) (.slice (some ⟨p, o + nm * 32, none⟩) 1 (k - nm)) r5
      have hpw : p ≠ w.heap.size := by have h1 : w3.heap.size ≤ p := HIN.out.1; have h2 := lt_blk r3; omega
      have hB6 : Below w.heap.size w ((((w5.setCell ⟨w.heap.size, 0, none⟩ (.int .i64 en)).setCell ⟨w.heap.size, 1, none⟩ (.slice (some ⟨p, o, none⟩) nm k)).setCell ⟨w.heap.size, 2, none⟩ (.int .i64 e2)).setCell ⟨w.heap.size, 3, none⟩ (.slice (some ⟨p, o + nm * 32, none⟩) 1 (k - nm))) := (((hB5.setCell (p := ⟨w.heap.size, 0, none⟩) (Nat.le_refl _) _).setCell (p := ⟨w.heap.size, 1, none⟩) (Nat.le_refl _) _).setCell (p := ⟨w.heap.size, 2, none⟩) (Nat.le_refl _) _).setCell (p := ⟨w.heap.size, 3, none⟩) (Nat.le_refl _) _
      have hS6 : IsSS ((((w5.setCell ⟨w.heap.size, 0, none⟩ (.int .i64 en)).setCell ⟨w.heap.size, 1, none⟩ (.slice (some ⟨p, o, none⟩) nm k)).setCell ⟨w.heap.size, 2, none⟩ (.int .i64 e2)).setCell ⟨w.heap.size, 3, none⟩ (.slice (some ⟨p, o + nm * 32, none⟩) 1 (k - nm))) (some ⟨p, o, none⟩) ng LD := HS5.out.blk (by rw [heap_setCell_other _ _ _ _ hpw, heap_setCell_other _ _ _ _ hpw, heap_setCell_other _ _ _ _ hpw, heap_setCell_other _ _ _ _ hpw])
      refine bodyPost_ret (v := .tuple #[.agg #[.int .i64 en, .slice (some ⟨p, o, none⟩) nm k, .int .i64 e2, .slice (some ⟨p, o + nm * 32, none⟩) 1 (k - nm)], .int .i64 0]) (res_row rfl _ _ w.heap.size rfl _ _ _ y5 Try.underlying78 size78 _ rfl) rfl ⟨Below.drew hB6, .inr (.inr ⟨hz, Nat.le_of_not_lt HFIT.out, p, o, k, by rw [← HE2.out, ← HNM.out], hS6⟩)⟩
end Go.Proofs.Ytfmkgflhgapeoab
namespace Go.Proofs.Ytfmkgflhgapeoab
open Go.RowKit Go.ChangeShapes Go.WideShapes Go.ChangeAt Go.Maps
set_option linter.unusedVariables false
set_option linter.unusedSimpArgs false
theorem updO_two (f : Int → Sec) (e m : Nat) (L : List (List Int)) (hm : m ≤ L.length) : updO (updO f e (L.take m)) (e + m) (L.drop m) = updO f e L := by
  funext i
  unfold updO
  have hl1 : (L.take m).length = m := by rw [List.length_take]; omega
  have hl2 : (L.drop m).length = L.length - m := by rw [List.length_drop]
  rw [hl1, hl2]
  by_cases h : ((e + m : Nat) : Int) ≤ i ∧ i < ((e + m + (L.length - m) : Nat) : Int)
  · rw [if_pos h, if_pos (by omega), List.getD, List.getElem?_drop, List.getD]
    congr 2
    omega
  · rw [if_neg h]
    by_cases h2 : (e : Int) ≤ i ∧ i < ((e + m : Nat) : Int)
    · rw [if_pos h2, if_pos (by omega), List.getD, List.getElem?_take, if_pos (by omega), List.getD]
    · rw [if_neg h2, if_neg (by omega)]
/-- What is on a disk behind an Append that is done. -/
def added (v : Int → Sec) (N : Nat) (g : Jo.Gr) : Int → Sec := updO v (arEnd v N) (Jo.laid g (best v 2).2 ((grps v N).length + 1))
set_option maxHeartbeats 400000 in
theorem append_nil (v : Value) (hv : ∃ a n k, v = .slice a n k) (w : World) : Calls Try.prog 18 #[.pointer none, v] w fun e w' => e = .returned (.int .i64 1) ∧ w' = w := by
  obtain ⟨a, n, k, rfl⟩ := hv
  go_enter Try.func18, Try.ntmps18
  go_wp2
  go_ret
  exact ⟨rfl, rfl⟩
/-- What Append answers. -/
def AddPost (j d b1 b2 N : Nat) (on : Int → Sec) (c : Int → Option Sec) (g : Jo.Gr) (w : World) (e : Ending) (w' : World) : Prop :=
  (Jo.needF g = 0 ∧ e = .returned (.int .i64 2) ∧ Below w.heap.size w w') ∨
  (Jo.needF g ≠ 0 ∧ arSt (vw on c) N + asz N < arEnd (vw on c) N + Jo.needF g ∧ e = .returned (.int .i64 4) ∧ Below w.heap.size w w') ∨
  (Jo.needF g ≠ 0 ∧ arEnd (vw on c) N + Jo.needF g ≤ arSt (vw on c) N + asz N ∧ e = .returned (.int .i64 0) ∧ IsJ w' j d b1 b2 N (added (vw on c) N g) (fun _ => none) ∧ Out (fun k => k = b1 ∨ k = b2) w w')
set_option maxRecDepth 20000 in
set_option maxHeartbeats 2000000 in
theorem append_c {w : World} {j d b1 b2 N : Nat} {on : Int → Sec} {c : Int → Option Sec} (h : IsJ w j d b1 b2 N on c) (a : Option Addr) (len cap : Nat) (g : Jo.Gr) (hG : IsG0 w a len g) :
    Calls Try.prog 18 #[pB j, .slice a len cap] w (AddPost j d b1 b2 N on c g w) := by
  have AC := hid (appending_c h a len cap g hG)
  have hbb := best_bd (fun i => h.2.1.sec i) 2 (Nat.le_refl _)
  have haz : 2 * asz N + 2 ≤ N := by have := h.2.2; unfold asz; omega
  have hst : arSt (vw on c) N + asz N ≤ N := by
    have : (best (vw on c) 2).1 * asz N ≤ 1 * asz N := Nat.mul_le_mul_right _ hbb.1
    unfold arSt; omega
  have H := hid h
  clear h hG
  go_enter Try.func18, Try.ntmps18
  go_wp2_with fail
  refine AC.out.mono ?_
  rintro e w1 ⟨hb1, ⟨hz, rfl⟩ | ⟨hz, hf, rfl⟩ | ⟨hz, hf, p, o, k, rfl, hS⟩⟩
  · unfold noB
    have CE := hid (carry_err j (.int .i64 0) (.slice none 0 0) (.int .i64 0) (.slice none 0 0) 2 (by decide) w1)
    have HZ := hid hz
    clear hz
    go_wp2_with (go_at_call 36; refine CE.out.mono ?_; rintro e w2 ⟨rfl, hb2⟩)
    go_ret
    exact .inl ⟨HZ.out, rfl, hb1.trans (hb2.mono hb1.size)⟩
  · unfold noB
    have CE := hid (carry_err j (.int .i64 0) (.slice none 0 0) (.int .i64 0) (.slice none 0 0) 4 (by decide) w1)
    have HZ := hid hz
    have HF := hid hf
    clear hz hf
    go_wp2_with (go_at_call 36; refine CE.out.mono ?_; rintro e w2 ⟨rfl, hb2⟩)
    go_ret
    exact .inr (.inl ⟨HZ.out, HF.out, rfl, hb1.trans (hb2.mono hb1.size)⟩)
  · have hl := hS.1
    have h2 : 2 ≤ Jo.needF g := by have := (Jo.need_pos hz).2; rw [this]; unfold Jo.secsOf; omega
    have h3 : 3 ≤ Jo.needF g := by
      have hp := Jo.need_pos hz
      have hl4 := (Jo.ok_load hp.1).1
      rw [hp.2]; unfold Jo.secsOf Jo.many; omega
    have S0 := hS.sub 0 (Jo.needF g - 1) (by omega)
    rw [List.drop_zero, Nat.zero_mul, Nat.add_zero] at S0
    have S1 := hS.rest (Jo.needF g - 1) (by omega)
    rw [show Jo.needF g - (Jo.needF g - 1) = 1 by omega] at S1
    have CC := hid (carry_c (H.out.later hb1) (arEnd (vw on c) N) p o (Jo.needF g - 1) k (arEnd (vw on c) N + (Jo.needF g - 1)) p (o + (Jo.needF g - 1) * 32) 1 (k - (Jo.needF g - 1)) _ _ S0 S1 (by omega) (by omega) (by omega) (by omega))
    rw [updO_two _ _ _ _ (by omega)] at CC
    have HZ := hid hz
    have HF := hid hf
    clear hz hf S0 S1 hS hl
    go_wp2_with (go_at_call 36; refine CC.out.mono ?_; rintro e w2 ⟨rfl, hJ2, hO2⟩)
    go_ret
    exact .inr (.inr ⟨HZ.out, HF.out, rfl, hJ2, (Out.of hb1).trans hO2⟩)
end Go.Proofs.Ytfmkgflhgapeoab
namespace Go.Proofs.Ytfmkgflhgapeoab
open Go.RowKit Go.ChangeShapes Go.WideShapes Go.ChangeAt Go.Maps
set_option linter.unusedVariables false
set_option linter.unusedSimpArgs false
/-- The other area: where it begins. -/
def otSt (v : Int → Sec) (N : Nat) : Nat := 2 + (1 - (best v 2).1) * asz N
/-- What resetting answers. -/
def RstPost (v : Int → Sec) (N : Nat) (g : Jo.Gr) (w : World) (e : Ending) (w' : World) : Prop :=
  Below w.heap.size w w' ∧
  (Jo.needF g = 0 ∧ e = .returned (.tuple #[.agg noB, .int .i64 2]) ∨
   Jo.needF g ≠ 0 ∧ (asz N < Jo.needF g ∨ (best v 2).2 = 4294967295) ∧ e = .returned (.tuple #[.agg noB, .int .i64 4]) ∨
   Jo.needF g ≠ 0 ∧ Jo.needF g ≤ asz N ∧ (best v 2).2 ≠ 4294967295 ∧ ∃ p o k q r, e = .returned (.tuple #[.agg #[.int .i64 (otSt v N : Nat), .slice (some ⟨p, o, none⟩) (Jo.needF g) k, .int .i64 ((1 - (best v 2).1 : Nat) : Int), .slice (some ⟨q, r, none⟩) 1 1], .int .i64 0]) ∧
     IsSS w' (some ⟨p, o, none⟩) (Jo.needF g) (Jo.laid g ((best v 2).2 + 1) 1) ∧ IsSS w' (some ⟨q, r, none⟩) 1 [Jo.headS ((best v 2).2 + 1)])
set_option maxRecDepth 20000 in
set_option maxHeartbeats 4000000 in
theorem resetting_c {w : World} {j d b1 b2 N : Nat} {on : Int → Sec} {c : Int → Option Sec} (h : IsJ w j d b1 b2 N on c) (a : Option Addr) (len cap : Nat) (g : Jo.Gr) (hG : IsG0 w a len g) :
    Calls Try.prog 40 #[pB j, .slice a len cap] w (RstPost (vw on c) N g w) := by
  have hN := h.2.1.two
  have h8 := h.2.2
  have hbb := best_bd (fun i => h.2.1.sec i) 2 (Nat.le_refl _)
  have haz : asz N ≤ 1023 := by unfold asz; omega
  have hb0 : Below w.heap.size w (w.alloc (.cells noB 78)) := (Below.refl _ _).alloc (Nat.le_refl _) _
  have n0 := heap_alloc_new w (.cells noB 78)
  have A0 := alloc_facts w (.cells noB 78)
  have NC := hid (needs_c a len cap g (w.alloc (.cells noB 78)) (hG.later hb0).isG)
  by_cases hz : Jo.needF g = 0
  · rw [hz] at NC
    have HZ := hid hz
    clear hz
    unfold noB at *
    go_enter Try.func40, Try.ntmps40
    go_wp2_with (go_at_call 21; refine NC.out.mono ?_; rintro e w' ⟨rfl, rfl⟩)
    exact bodyPost_ret (v := .tuple #[.agg noB, .int .i64 2]) (res_row rfl _ _ w.heap.size rfl noB _ _ n0 Try.underlying78 size78 _ rfl) rfl ⟨hb0, .inl ⟨HZ.out, rfl⟩⟩
  · have hnl := need_le g
    have hok := (Jo.need_pos hz).1
    have CC := hid (counting_c (h.later hb0))
    have hst : arSt (vw on c) N ≤ 2048 := by
      have : (best (vw on c) 2).1 * asz N ≤ 1 * asz N := Nat.mul_le_mul_right _ hbb.1
      unfold arSt; omega
    have hot : otSt (vw on c) N ≤ 2048 := by
      have : (1 - (best (vw on c) 2).1) * asz N ≤ 1 * asz N := Nat.mul_le_mul_right _ (by omega)
      unfold otSt; omega
    have AR : Hid (∀ W (t : Int), Below w.heap.size w W → Calls Try.prog 56 #[pB j, .int .i64 ((1 - (best (vw on c) 2).1 : Nat) : Int), .int .u32 t] W fun e w' => e = .returned (.agg #[.int .i64 ((1 - (best (vw on c) 2).1 : Nat) : Int), .int .u32 t, .int .i64 (otSt (vw on c) N : Nat), .int .i64 ((otSt (vw on c) N + asz N : Nat) : Int)]) ∧ Below W.heap.size W w') := fun W t hW => area_c (h.later hW) (1 - (best (vw on c) 2).1) (by omega) t
    change Hid (Calls Try.prog 39 #[pB j] _ fun e w' => e = .returned (.agg #[.int .i64 ((best (vw on c) 2).1 : Nat), .int .u32 (best (vw on c) 2).2, .int .i64 (arSt (vw on c) N : Nat), .int .i64 ((arSt (vw on c) N + asz N : Nat) : Int)]) ∧ _) at CC
    have HG := hid hG
    have hk1 := hbb.1
    have ht := hbb.2
    clear h hG hbb
    unfold RstPost
    have hz0 := A0.1
    have hls := Jo.laid_sct HG.out.isG.bytes (Jo.ok_iff.1 hok).2.1 ((best (vw on c) 2).2 + 1) 1
    have HLD : Hid (Jo.needF g = (Jo.laid g ((best (vw on c) 2).2 + 1) 1).length) := by show _ = _; rw [Jo.laid_len, Jo.need_ok hok]
    generalize otSt (vw on c) N + asz N = oen at *
    generalize otSt (vw on c) N = ost at *
    generalize hlim : arSt (vw on c) N + asz N = lim at *
    generalize arSt (vw on c) N = st at *
    generalize (best (vw on c) 2).2 = t at *
    obtain ⟨kk, hkk⟩ : ∃ kk, kk = (best (vw on c) 2).1 := ⟨_, rfl⟩
    rw [← hkk] at CC AR hk1 ⊢
    clear hkk
    have HGS : Hid (∀ W, t + 1 < 4294967296 → Below w.heap.size w W → Calls Try.prog 52 #[.slice a len cap, .int .u32 (t + 1), .int .u32 1] W fun e w' => ∃ v, e = .returned v ∧ w'.ownsRow W.heap.size 34 32 v (Jo.laid g (t + 1) 1).length (scells (Jo.laid g (t + 1) 1)) ∧ Below W.heap.size W w') := fun W h1 hW => groupSectors_c a len cap g (t + 1) 1 W (HG.out.later hW) hok (by omega) (by omega)
    generalize Jo.laid g (t + 1) 1 = LD at *
    generalize Jo.needF g = ng at *
    have hng0 : ((ng : Int) == 0) = false := by simp; omega
    have hng1 : ¬ (ng : Int) = 0 := by omega
    have hls2 : (lim : Int) - (st : Int) = (asz N : Nat) := by omega
    generalize asz N = az at *
    clear hlim
    unfold noB at *
    by_cases hbig : az < ng
    · have hb' : (az : Int) < ng := by omega
      go_enter Try.func40, Try.ntmps40
      go_wp2_with (first
        | (have _q := K3.out; clear _q; refine wpList_store_row rfl _ _ _ rfl w.heap.size #[.int .i64 0, .slice none 0 0, .int .i64 0, .slice none 0 0] rfl rfl _ _ r3 size78 rfl (by simp [Value.oneCell']) ?_; clear K3)
        | (go_at_call 39; refine CC.out.mono ?_; rintro e w1 ⟨rfl, hb1⟩; (have hB2 : Below w.heap.size w (w1.alloc (.cells #[.int .i64 kk, .int .u32 t, .int .i64 st, .int .i64 lim] 86)) := (hb0.trans (hb1.mono hb0.size)).alloc (Nat.le_trans hb0.size hb1.size) _); (have r3 : (w1.alloc (.cells #[.int .i64 kk, .int .u32 t, .int .i64 st, .int .i64 lim] 86)).heap[w.heap.size]? = some (.cells #[.int .i64 0, .slice none 0 0, .int .i64 0, .slice none 0 0] 78 (0, 0)) := by rw [Below.heap_alloc _ _ _ (by have := hb1.size; omega), hb1.block _ (by omega)]; exact n0); (have K3 : Hid True := hid trivial))
        | (go_at_call 21; refine NC.out.mono ?_; rintro e w' ⟨rfl, rfl⟩))
      exact bodyPost_ret (v := .tuple #[.agg #[.int .i64 0, .slice none 0 0, .int .i64 0, .slice none 0 0], .int .i64 4]) (res_row rfl _ _ w.heap.size rfl #[.int .i64 0, .slice none 0 0, .int .i64 0, .slice none 0 0] _ _ (setRow_heap _ _ _ _ _ _ r3) Try.underlying78 size78 _ rfl) rfl ⟨Below.setRow hB2 _ _ (Nat.le_refl _), .inr (.inl ⟨hz, .inl hbig, rfl⟩)⟩
    · have hb' : ¬ (az : Int) < ng := by omega
      by_cases hmx : t = 4294967295
      · have hm1 : (t == 4294967295) = true := by simpa using hmx
        have HMX := hid hmx
        clear hmx
        go_enter Try.func40, Try.ntmps40
        go_wp2_with (first
          | (have _q := K3.out; clear _q; refine wpList_store_row rfl _ _ _ rfl w.heap.size #[.int .i64 0, .slice none 0 0, .int .i64 0, .slice none 0 0] rfl rfl _ _ r3 size78 rfl (by simp [Value.oneCell']) ?_; clear K3)
          | (go_at_call 39; refine CC.out.mono ?_; rintro e w1 ⟨rfl, hb1⟩; (have hB2 : Below w.heap.size w (w1.alloc (.cells #[.int .i64 kk, .int .u32 t, .int .i64 st, .int .i64 lim] 86)) := (hb0.trans (hb1.mono hb0.size)).alloc (Nat.le_trans hb0.size hb1.size) _); (have r3 : (w1.alloc (.cells #[.int .i64 kk, .int .u32 t, .int .i64 st, .int .i64 lim] 86)).heap[w.heap.size]? = some (.cells #[.int .i64 0, .slice none 0 0, .int .i64 0, .slice none 0 0] 78 (0, 0)) := by rw [Below.heap_alloc _ _ _ (by have := hb1.size; omega), hb1.block _ (by omega)]; exact n0); (have K3 : Hid True := hid trivial))
          | (go_at_call 21; refine NC.out.mono ?_; rintro e w' ⟨rfl, rfl⟩))
        exact bodyPost_ret (v := .tuple #[.agg #[.int .i64 0, .slice none 0 0, .int .i64 0, .slice none 0 0], .int .i64 4]) (res_row rfl _ _ w.heap.size rfl #[.int .i64 0, .slice none 0 0, .int .i64 0, .slice none 0 0] _ _ (setRow_heap _ _ _ _ _ _ r3) Try.underlying78 size78 _ rfl) rfl ⟨Below.setRow hB2 _ _ (Nat.le_refl _), .inr (.inl ⟨hz, .inr HMX.out, rfl⟩)⟩
      · have hm1 : (t == 4294967295) = false := by simpa using hmx
        have ht2 : t < 4294967295 := by omega
        have ht0 : 0 ≤ t := ht.1
        obtain ⟨k', hk'⟩ : ∃ k' : Nat, k' = 1 - kk := ⟨_, rfl⟩
        rw [← hk'] at AR ⊢
        have hk2 : (1 : Int) - (kk : Int) = (k' : Int) := by omega
        have HMX := hid hmx
        have HT := hid ht
        have HB := hid hbig
        clear hk' hmx ht hbig
        go_enter Try.func40, Try.ntmps40
        go_wp2_with (first
          | (go_at_call 59; refine (headSector_c (t + 1) _ (by have := HT.out; omega)).mono ?_; rintro e w5 ⟨rfl, hb5⟩; (have K5 : Hid True := hid trivial))
          | (have _q := K5.out; clear _q; refine wpList_exec rfl (exec_slice1 _ rfl (Jo.headS (t + 1)) rfl (Jo.head_sct (t + 1)).1) ?_; clear K5)
          | (go_at_call 56; refine (AR.out _ _ hB2).mono ?_; rintro e w3 ⟨rfl, hb3⟩)
          | (go_at_call 39; refine CC.out.mono ?_; rintro e w1 ⟨rfl, hb1⟩; (have hB2 : Below w.heap.size w (w1.alloc (.cells #[.int .i64 kk, .int .u32 t, .int .i64 st, .int .i64 lim] 86)) := (hb0.trans (hb1.mono hb0.size)).alloc (Nat.le_trans hb0.size hb1.size) _); (have r3 : (w1.alloc (.cells #[.int .i64 kk, .int .u32 t, .int .i64 st, .int .i64 lim] 86)).heap[w.heap.size]? = some (.cells #[.int .i64 0, .slice none 0 0, .int .i64 0, .slice none 0 0] 78 (0, 0)) := by rw [Below.heap_alloc _ _ _ (by have := hb1.size; omega), hb1.block _ (by omega)]; exact n0); (have K3 : Hid True := hid trivial))
          | (go_at_call 21; refine NC.out.mono ?_; rintro e w' ⟨rfl, rfl⟩))
        have z1 := hb1.size
        have z3 : w1.heap.size + 1 ≤ w3.heap.size := by have := hb3.size; simp at this; omega
        have hB4 : Below w.heap.size w (w3.alloc (.cells #[.int .i64 k', .int .u32 (t + 1), .int .i64 ost, .int .i64 oen] 86)) := (hB2.trans (hb3.mono hB2.size)).alloc (by omega) _
        have r4 : (w3.alloc (.cells #[.int .i64 k', .int .u32 (t + 1), .int .i64 ost, .int .i64 oen] 86)).heap[w.heap.size]? = some (.cells #[.int .i64 0, .slice none 0 0, .int .i64 0, .slice none 0 0] 78 (0, 0)) := by rw [Below.heap_alloc _ _ _ (by omega), hb3.block _ (by simp; omega)]; exact r3
        have x4 := heap_alloc_new w3 (.cells #[.int .i64 k', .int .u32 (t + 1), .int .i64 ost, .int .i64 oen] 86)
        have s4 : (w3.alloc (.cells #[.int .i64 k', .int .u32 (t + 1), .int .i64 ost, .int .i64 oen] 86)).heap.size = w3.heap.size + 1 := by simp
        generalize (w3.alloc (.cells #[.int .i64 k', .int .u32 (t + 1), .int .i64 ost, .int .i64 oen] 86)) = W4 at *
        have z5 := hb5.size
        have hB5 : Below w.heap.size w w5 := hB4.trans (hb5.mono (by omega))
        have x5 : w5.heap[w3.heap.size]? = some (.cells #[.int .i64 k', .int .u32 (t + 1), .int .i64 ost, .int .i64 oen] 86 (0, 0)) := by rw [hb5.block _ (by omega)]; exact x4
        have r5 : w5.heap[w.heap.size]? = some (.cells #[.int .i64 0, .slice none 0 0, .int .i64 0, .slice none 0 0] 78 (0, 0)) := by rw [hb5.block _ (by omega)]; exact r4
        have A6 := alloc_facts w5 (.cells ((Jo.headS (t + 1)).map by8).toArray 34)
        have n6 := heap_alloc_new w5 (.cells ((Jo.headS (t + 1)).map by8).toArray 34)
        have hB6 : Below w.heap.size w (w5.alloc (.cells ((Jo.headS (t + 1)).map by8).toArray 34)) := hB5.alloc hB5.size _
        have x6 : (w5.alloc (.cells ((Jo.headS (t + 1)).map by8).toArray 34)).heap[w3.heap.size]? = some (.cells #[.int .i64 k', .int .u32 (t + 1), .int .i64 ost, .int .i64 oen] 86 (0, 0)) := by rw [A6.2.1 _ (by omega)]; exact x5
        have r6 : (w5.alloc (.cells ((Jo.headS (t + 1)).map by8).toArray 34)).heap[w.heap.size]? = some (.cells #[.int .i64 0, .slice none 0 0, .int .i64 0, .slice none 0 0] 78 (0, 0)) := by rw [A6.2.1 _ (by omega)]; exact r5
        generalize (w5.alloc (.cells ((Jo.headS (t + 1)).map by8).toArray 34)) = W6 at *
        have ar : ∀ V : World, V.heap[w3.heap.size]? = some (.cells #[.int .i64 k', .int .u32 (t + 1), .int .i64 ost, .int .i64 oen] 86 (0, 0)) → V.cell? ⟨w3.heap.size, 0, none⟩ = some (.int .i64 k') ∧ V.cell? ⟨w3.heap.size, 1, none⟩ = some (.int .u32 (t + 1)) ∧ V.cell? ⟨w3.heap.size, 2, none⟩ = some (.int .i64 ost) := fun V hV => ⟨by rw [cell_of_row V _ 0 _ _ _ hV]; rfl, by rw [cell_of_row V _ 1 _ _ _ hV]; rfl, by rw [cell_of_row V _ 2 _ _ _ hV]; rfl⟩
        obtain ⟨g60, g61, g62⟩ := ar W6 x6
        have HAR := hid ar
        have HLS := hid hls
        have hGS7 := hid (HGS.out W6.drew (by have := HT.out; omega) (Below.drew hB6))
        have K6 : W6.drew.cell? ⟨w3.heap.size, 0, none⟩ = some (.int .i64 k') ∧ W6.drew.cell? ⟨w3.heap.size, 1, none⟩ = some (.int .u32 (t + 1)) ∧ W6.drew.cell? ⟨w3.heap.size, 2, none⟩ = some (.int .i64 ost) := ar W6.drew x6
        clear ar hls
        go_region_held3 (fun w' => w'.cell? ⟨w3.heap.size, 0, none⟩ = some (.int .i64 k') ∧ w'.cell? ⟨w3.heap.size, 1, none⟩ = some (.int .u32 (t + 1)) ∧ w'.cell? ⟨w3.heap.size, 2, none⟩ = some (.int .i64 ost)) (first | (with_reducible exact K8 _ _ _ _) | (with_reducible exact K7) | (with_reducible exact K6) | go_keep)
          ((go_at_call 52; refine hGS7.out.mono ?_; rintro e w7 ⟨v7, rfl, hown7, hb7⟩; obtain ⟨sa, k, hv7, hS7, hsc7, hin7⟩ := own_isSS hown7 HLS.out (by rw [← HLD.out]; omega); rw [← HLD.out] at hv7 hS7 hsc7; subst hv7; obtain ⟨p, o, rfl, _⟩ := hS7.2.2.2 (by omega); (have B7 : Below W6.heap.size W6 w7 := ((Below.refl _ W6).drew).trans hb7); (have x7 : w7.heap[w3.heap.size]? = some (.cells #[.int .i64 k', .int .u32 (t + 1), .int .i64 ost, .int .i64 oen] 86 (0, 0)) := by rw [B7.block _ (lt_blk x6)]; exact x6); (have r7 : w7.heap[w.heap.size]? = some (.cells #[.int .i64 0, .slice none 0 0, .int .i64 0, .slice none 0 0] 78 (0, 0)) := by rw [B7.block _ (lt_blk r6)]; exact r6); (have K7 := HAR.out w7 x7); (have K8 : ∀ a b c d : Value, (((((w7.setCell ⟨w.heap.size, 0, none⟩ a).setCell ⟨w.heap.size, 1, none⟩ b).setCell ⟨w.heap.size, 2, none⟩ c).setCell ⟨w.heap.size, 3, none⟩ d)).cell? ⟨w3.heap.size, 0, none⟩ = some (.int .i64 k') ∧ (((((w7.setCell ⟨w.heap.size, 0, none⟩ a).setCell ⟨w.heap.size, 1, none⟩ b).setCell ⟨w.heap.size, 2, none⟩ c).setCell ⟨w.heap.size, 3, none⟩ d)).cell? ⟨w3.heap.size, 1, none⟩ = some (.int .u32 (t + 1)) ∧ (((((w7.setCell ⟨w.heap.size, 0, none⟩ a).setCell ⟨w.heap.size, 1, none⟩ b).setCell ⟨w.heap.size, 2, none⟩ c).setCell ⟨w.heap.size, 3, none⟩ d)).cell? ⟨w3.heap.size, 2, none⟩ = some (.int .i64 ost) := fun a b c d => HAR.out _ (by rw [heap_setCell_other _ _ _ _ (by simp only; omega), heap_setCell_other _ _ _ _ (by simp only; omega), heap_setCell_other _ _ _ _ (by simp only; omega), heap_setCell_other _ _ _ _ (by simp only; omega)]; exact x7)); (have q0 : w7.cell? ⟨w.heap.size, 0, none⟩ = some (.int .i64 0) := by rw [cell_of_row w7 _ 0 _ _ _ r7]; rfl); (have q1 : w7.cell? ⟨w.heap.size, 1, none⟩ = some (.slice none 0 0) := by rw [cell_of_row w7 _ 1 _ _ _ r7]; rfl); (have q2 : w7.cell? ⟨w.heap.size, 2, none⟩ = some (.int .i64 0) := by rw [cell_of_row w7 _ 2 _ _ _ r7]; rfl); (have q3 : w7.cell? ⟨w.heap.size, 3, none⟩ = some (.slice none 0 0) := by rw [cell_of_row w7 _ 3 _ _ _ r7]; rfl); (have f0 : w7.frozen? ⟨w.heap.size, 0, none⟩ = false := by simp [World.frozen?, r7]); (have f1 : w7.frozen? ⟨w.heap.size, 1, none⟩ = false := by simp [World.frozen?, r7]); (have f2 : w7.frozen? ⟨w.heap.size, 2, none⟩ = false := by simp [World.frozen?, r7]); (have f3 : w7.frozen? ⟨w.heap.size, 3, none⟩ = false := by simp [World.frozen?, r7])))
        go_wp2
        have hB7 : Below w.heap.size w w7 := hB6.trans (B7.mono hB6.size)
        have s7 : W6.heap.size ≤ p := (hin7 _ rfl).1
        have hpw : p ≠ w.heap.size := by have := lt_blk r6; omega
        have h5w : w5.heap.size ≠ w.heap.size := by have := lt_blk r5; omega
        have hH7 : IsSS w7 (some ⟨w5.heap.size, 0, none⟩) 1 [Jo.headS (t + 1)] := by
          refine ⟨rfl, by omega, fun s hs => by rw [List.mem_singleton.1 hs]; exact Jo.head_sct _, fun _ => ⟨_, _, rfl, fun i hi => ?_⟩⟩
          have hi0 : i = 0 := by omega
          subst hi0
          exact range_sec (t := 34) (fr := (0, 0)) (by rw [B7.block _ (lt_blk n6)]; exact n6)
        have y8 := heap_set4 (.int .i64 ost) (.slice (some ⟨p, o, none⟩) ng k) (.int .i64 k') (.slice (some ⟨w5.heap.size, 0, none⟩) 1 1) r7
        have hB8 : Below w.heap.size w ((((w7.setCell ⟨w.heap.size, 0, none⟩ (.int .i64 ost)).setCell ⟨w.heap.size, 1, none⟩ (.slice (some ⟨p, o, none⟩) ng k)).setCell ⟨w.heap.size, 2, none⟩ (.int .i64 k')).setCell ⟨w.heap.size, 3, none⟩ (.slice (some ⟨w5.heap.size, 0, none⟩) 1 1)) := (((hB7.setCell (p := ⟨w.heap.size, 0, none⟩) (Nat.le_refl _) _).setCell (p := ⟨w.heap.size, 1, none⟩) (Nat.le_refl _) _).setCell (p := ⟨w.heap.size, 2, none⟩) (Nat.le_refl _) _).setCell (p := ⟨w.heap.size, 3, none⟩) (Nat.le_refl _) _
        have hS8 : IsSS ((((w7.setCell ⟨w.heap.size, 0, none⟩ (.int .i64 ost)).setCell ⟨w.heap.size, 1, none⟩ (.slice (some ⟨p, o, none⟩) ng k)).setCell ⟨w.heap.size, 2, none⟩ (.int .i64 k')).setCell ⟨w.heap.size, 3, none⟩ (.slice (some ⟨w5.heap.size, 0, none⟩) 1 1)) (some ⟨p, o, none⟩) ng LD := hS7.blk (by rw [heap_setCell_other _ _ _ _ hpw, heap_setCell_other _ _ _ _ hpw, heap_setCell_other _ _ _ _ hpw, heap_setCell_other _ _ _ _ hpw])
        have hH8 : IsSS ((((w7.setCell ⟨w.heap.size, 0, none⟩ (.int .i64 ost)).setCell ⟨w.heap.size, 1, none⟩ (.slice (some ⟨p, o, none⟩) ng k)).setCell ⟨w.heap.size, 2, none⟩ (.int .i64 k')).setCell ⟨w.heap.size, 3, none⟩ (.slice (some ⟨w5.heap.size, 0, none⟩) 1 1)) (some ⟨w5.heap.size, 0, none⟩) 1 [Jo.headS (t + 1)] := hH7.blk (by rw [heap_setCell_other _ _ _ _ h5w, heap_setCell_other _ _ _ _ h5w, heap_setCell_other _ _ _ _ h5w, heap_setCell_other _ _ _ _ h5w])
        exact bodyPost_ret (v := .tuple #[.agg #[.int .i64 ost, .slice (some ⟨p, o, none⟩) ng k, .int .i64 k', .slice (some ⟨w5.heap.size, 0, none⟩) 1 1], .int .i64 0]) (res_row rfl _ _ w.heap.size rfl _ _ _ y8 Try.underlying78 size78 _ rfl) rfl ⟨hB8, .inr (.inr ⟨hz, Nat.le_of_not_lt HB.out, HMX.out, p, o, k, _, _, rfl, hS8, hH8⟩)⟩
/-- What is on a disk behind a Reset that is done. -/
def setTo (v : Int → Sec) (N : Nat) (g : Jo.Gr) : Int → Sec := updO (updO v (otSt v N) (Jo.laid g ((best v 2).2 + 1) 1)) (1 - (best v 2).1) [Jo.headS ((best v 2).2 + 1)]
set_option maxHeartbeats 400000 in
theorem reset_nil (v : Value) (hv : ∃ a n k, v = .slice a n k) (w : World) : Calls Try.prog 20 #[.pointer none, v] w fun e w' => e = .returned (.int .i64 1) ∧ w' = w := by
  obtain ⟨a, n, k, rfl⟩ := hv
  go_enter Try.func20, Try.ntmps20
  go_wp2
  go_ret
  exact ⟨rfl, rfl⟩
/-- What Reset answers. -/
def SetPost (j d b1 b2 N : Nat) (on : Int → Sec) (c : Int → Option Sec) (g : Jo.Gr) (w : World) (e : Ending) (w' : World) : Prop :=
  (Jo.needF g = 0 ∧ e = .returned (.int .i64 2) ∧ Below w.heap.size w w') ∨
  (Jo.needF g ≠ 0 ∧ (asz N < Jo.needF g ∨ (best (vw on c) 2).2 = 4294967295) ∧ e = .returned (.int .i64 4) ∧ Below w.heap.size w w') ∨
  (Jo.needF g ≠ 0 ∧ Jo.needF g ≤ asz N ∧ (best (vw on c) 2).2 ≠ 4294967295 ∧ e = .returned (.int .i64 0) ∧ IsJ w' j d b1 b2 N (setTo (vw on c) N g) (fun _ => none) ∧ Out (fun k => k = b1 ∨ k = b2) w w')
set_option maxRecDepth 20000 in
set_option maxHeartbeats 2000000 in
theorem reset_c {w : World} {j d b1 b2 N : Nat} {on : Int → Sec} {c : Int → Option Sec} (h : IsJ w j d b1 b2 N on c) (a : Option Addr) (len cap : Nat) (g : Jo.Gr) (hG : IsG0 w a len g) :
    Calls Try.prog 20 #[pB j, .slice a len cap] w (SetPost j d b1 b2 N on c g w) := by
  have AC := hid (resetting_c h a len cap g hG)
  have hbb := best_bd (fun i => h.2.1.sec i) 2 (Nat.le_refl _)
  have haz : 2 * asz N + 2 ≤ N := by have := h.2.2; unfold asz; omega
  have hst : otSt (vw on c) N + asz N ≤ N := by
    have : (1 - (best (vw on c) 2).1) * asz N ≤ 1 * asz N := Nat.mul_le_mul_right _ (by omega)
    unfold otSt; omega
  have h8 := h.2.2
  have H := hid h
  clear h hG
  go_enter Try.func20, Try.ntmps20
  go_wp2_with fail
  refine AC.out.mono ?_
  rintro e w1 ⟨hb1, ⟨hz, rfl⟩ | ⟨hz, hf, rfl⟩ | ⟨hz, hf, hm, p, o, k, q, r, rfl, hS, hH⟩⟩
  · unfold noB
    have CE := hid (carry_err j (.int .i64 0) (.slice none 0 0) (.int .i64 0) (.slice none 0 0) 2 (by decide) w1)
    have HZ := hid hz
    clear hz
    go_wp2_with (go_at_call 36; refine CE.out.mono ?_; rintro e w2 ⟨rfl, hb2⟩)
    go_ret
    exact .inl ⟨HZ.out, rfl, hb1.trans (hb2.mono hb1.size)⟩
  · unfold noB
    have CE := hid (carry_err j (.int .i64 0) (.slice none 0 0) (.int .i64 0) (.slice none 0 0) 4 (by decide) w1)
    have HZ := hid hz
    have HF := hid hf
    clear hz hf
    go_wp2_with (go_at_call 36; refine CE.out.mono ?_; rintro e w2 ⟨rfl, hb2⟩)
    go_ret
    exact .inr (.inl ⟨HZ.out, HF.out, rfl, hb1.trans (hb2.mono hb1.size)⟩)
  · have hl := hS.1
    have h3 : 3 ≤ Jo.needF g := by
      have hp := Jo.need_pos hz
      have hl4 := (Jo.ok_load hp.1).1
      rw [hp.2]; unfold Jo.secsOf Jo.many; omega
    have CC := hid (carry_c (H.out.later hb1) (otSt (vw on c) N) p o (Jo.needF g) k (1 - (best (vw on c) 2).1) q r 1 1 _ _ hS hH (by omega) (by omega) (by omega) (by omega))
    have HZ := hid hz
    have HF := hid hf
    have HM := hid hm
    clear hz hf hm hS hH hl
    go_wp2_with (go_at_call 36; refine CC.out.mono ?_; rintro e w2 ⟨rfl, hJ2, hO2⟩)
    go_ret
    exact .inr (.inr ⟨HZ.out, HF.out, HM.out, rfl, hJ2, (Out.of hb1).trans hO2⟩)
end Go.Proofs.Ytfmkgflhgapeoab
