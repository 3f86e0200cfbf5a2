/-
  What Fork of the document's cache does.
-/
import Derived.Test.YtilcbkejmpfnfaaCDe
import Derived.Laws.AppendOwnNone
namespace Go.Proofs.Ytilcbkejmpfnfaa
open Go.RowKit Go.ChangeShapes Go.WideShapes Go.ChangeAt Go.Maps Go.Shelf
set_option linter.unusedVariables false
set_option linter.unusedSimpArgs false
set_option maxRecDepth 100000
theorem two_lastC (w : World) (o p : Obj) : ((w.alloc o).alloc p).heap[w.heap.size + 1]? = some p := by
  have := heap_alloc_new (w.alloc o) p
  simpa using this
theorem two_allocC (w : World) (o p : Obj) : ((w.alloc o).alloc p).heap[w.heap.size]? = some o := by
  rw [Below.heap_alloc _ _ _ (by simp)]; exact heap_alloc_new w o
/-- append of a whole row, as one step of a region that draws. -/
theorem step_append_rowC (w : World) {ops : Array Oper} {o : Oper} {a : Act} {K : Act → World → Prop} {Q : Exit → Act → World → Prop} {E : Prop} (hgd : o.guard = none) (s x : Operand) (t : TypeId)
    (ho : o.op = .call { callee := .builtin .append, args := #[s, x], argTypes := #[t, t] })
    (base : Nat) (e : TypeId) (i : TypeInfo) (z : Value) (size bytes : Nat) (ht : Try.prog.underlying t = some (.slice e)) (hi : Try.prog.info? e = some i) (hz : i.zero = some z)
    (hsize : i.size = size) (hby : i.bytes = bytes) (hzs : z.cells.size = size) (hsz : 0 < size)
    (v : Value) (hs : a.eval s = v) (hown : w.ownsRow base e size v 0 [])
    (bv : Value) (m : Nat) (ys : List Value) (hx : a.eval x = bv) (hsrc : w.ownsRow 0 e size bv m ys) (h1 : ∀ u ∈ ys, u.oneCell' = true)
    (h63 : m ≤ maxLen) (hbytes : m * bytes ≤ 140737488355328) (hbase : base ≤ w.heap.size)
    (h : ∀ v' w', w'.ownsRow base e size v' m ys → w.grownBy w' v.ownBlock → K (a.put o.dst v') w') :
    if Region.wanted o (yielded ops a.tmps) = true then Oper.wp Try.prog o a w K Q else E := by
  rw [if_pos (by simp [Region.wanted, hgd])]
  rcases hsrc.2 with ⟨rfl, h0⟩ | ⟨g, cap, cur, rfl, _, hg, hn, hm, hsz2, htk⟩
  · subst h0
    have hy : ys = [] := List.eq_nil_of_length_eq_zero (by have := hsrc.1; omega)
    subst hy
    have hrun := run_append_owned_none (P := Try.prog) (w := w) base t o.type e i size ht hi v 0 [] hown
    unfold Oper.wp
    simp [execOp, ho, resolve, invoke, builtin, hs, hx, hrun, Result.andThen]
    exact h v w hown (World.grownBy.refl w _)
  · exact wp_append_own w s x t ho base e i z size bytes ht hi hz hsize hby hzs hsz v 0 [] hs hown ⟨g, 0, none⟩ m cap ys hx hsrc.1 (fun j y hj => hsrc.cells (g := g) rfl j y hj) h1 (by omega) (by rw [Nat.zero_add]; exact hbytes) hbase fun v' w' q1 q2 _ => h v' w' (by simpa using q1) q2
theorem carry_newC {w5 w6 : World} {o : Obj} {base : Nat} {e : TypeId} {size : Nat} {v : Value} {n : Nat} {xs : List Value} (h : w5.ownsRow base e size v n xs) (g : (w5.alloc o).grownBy w6 (Value.slice (some ⟨w5.heap.size, 0, none⟩) 0 0).ownBlock) : w6.ownsRow base e size v n xs :=
  own_latC h (((Below.refl w5.heap.size w5).alloc (Nat.le_refl _) o).grown g (by simp) (fun k hk => by cases hk; exact Nat.le_refl _))
theorem carry_oldC {w5 w6 : World} {k : Nat} {e2 : TypeId} {base : Nat} {e : TypeId} {size : Nat} {v : Value} {n : Nat} {xs : List Value} (h : w5.ownsRow base e size v n xs) (E : w5.heap[k]? = some (.cells #[] e2 (0, 0))) (hne : e ≠ e2) (g : w5.grownBy w6 (Value.slice (some ⟨k, 0, none⟩) 0 0).ownBlock) : w6.ownsRow base e size v n xs := by
  refine ⟨h.1, ?_⟩
  rcases h.2 with q | ⟨j, cap, cur, e1, e3, e4, e5⟩
  · exact .inl q
  · refine .inr ⟨j, cap, cur, e1, e3, ?_, e5⟩
    rw [g.block j (lt_blkC e4) (fun q => by cases q; rw [E] at e4; cases e4; exact hne rfl)]
    exact e4
theorem own_empty_atC {w : World} {e : TypeId} {size g base : Nat} (h : w.heap[g]? = some (.cells #[] e (0, 0))) (hb : base ≤ g) : w.ownsRow base e size (.slice (some ⟨g, 0, none⟩) 0 0) 0 [] :=
  ⟨by simp, .inr ⟨g, 0, #[], rfl, hb, h, Nat.le_refl _, Nat.zero_le _, by simp, by simp⟩⟩
set_option maxHeartbeats 8000000 in
theorem rcfork_c {w : World} {g : Nat} {vl vh : Value} {r : Rc} (h : IsRc w g vl vh r) (hm : r.L.length ≤ 900) (hm2 : r.H.length ≤ 900) :
    Calls Try.prog 21 #[pA g] w fun e w' => ∃ g' vl' vh', e = .returned (pA g') ∧ IsRc w' g' vl' vh' r ∧ (∀ k, Bk g' vl' vh' k → w.heap.size ≤ k) ∧ Below w.heap.size w w' := by
  obtain ⟨c0, c1, c2, cf, cl⟩ := h.cells
  obtain ⟨al, capl, e1, _⟩ := own_shapeC h.2.1
  obtain ⟨ab, capb, e2, _⟩ := own_shapeC h.2.2
  subst e1 e2
  obtain ⟨iS, si, sz0, sz1, sz2⟩ := info_item
  obtain ⟨iL, li, lz0, lz1, lz2⟩ := info_dear
  have HOL : Hid (w.drew.ownsRow 0 78 2 (.slice al r.L.length capl) r.L.length (r.L.flatMap itC)) := hid h.2.1
  have HOB : Hid (w.drew.ownsRow 0 80 2 (.slice ab r.H.length capb) r.H.length (r.H.flatMap dnC)) := hid h.2.2
  have HOL2 : Hid (w.ownsRow 0 78 2 (.slice al r.L.length capl) r.L.length (r.L.flatMap itC)) := hid h.2.1
  have HOB2 : Hid (w.ownsRow 0 80 2 (.slice ab r.H.length capb) r.H.length (r.H.flatMap dnC)) := hid h.2.2
  have O1 : Hid (∀ u ∈ r.L.flatMap itC, u.oneCell' = true) := hid (fun u hu => by
    obtain ⟨p, _, hs⟩ := List.mem_flatMap.1 hu
    exact itC_one p u hs)
  have O2 : Hid (∀ u ∈ r.H.flatMap dnC, u.oneCell' = true) := hid (fun u hu => by
    obtain ⟨p, _, hs⟩ := List.mem_flatMap.1 hu
    exact dnC_one p u hs)
  have KS : ∀ w', Below w.heap.size w w' → w'.cell? ⟨g, 0, none⟩ = some (.int .i64 r.most) ∧ w'.cell? ⟨g, 1, none⟩ = some (.slice al r.L.length capl) ∧ w'.cell? ⟨g, 2, none⟩ = some (.slice ab r.H.length capb) := fun w' hb => by
    obtain ⟨d0, d1, d2, _⟩ := (h.later hb).cells
    exact ⟨d0, d1, d2⟩
  clear h cf
  go_enter Try.func21, Try.ntmps21
  go_wp2
  go_region_held3 (fun w' => w'.cell? ⟨g, 0, none⟩ = some (.int .i64 r.most) ∧ w'.cell? ⟨g, 1, none⟩ = some (.slice al r.L.length capl) ∧ w'.cell? ⟨g, 2, none⟩ = some (.slice ab r.H.length capb)) (first | exact KS _ B6.out | exact KS _ B5.out | go_keep)
    (first
      | (refine step_append_rowC _ (by rfl) _ _ 72 (by rfl) w.heap.size 78 iS _ 2 8 Try.underlying72 si sz0 sz1 sz2 (by rfl) (by omega) _ (by rfl) (own_empty_atC (heap_alloc_new w.drew _) (by first | exact Nat.le_refl _ | (simp; omega) | simp)) _ r.L.length (r.L.flatMap itC) (by rfl) (own_latC HOL.out (by first | exact (Below.refl _ w.drew).alloc (Nat.le_refl _) _ | exact ((Below.refl _ w.drew).alloc (Nat.le_refl _) _).alloc (by simp) _)) O1.out (by unfold maxLen; omega) (by omega) (by first | (simp; done) | (simp; omega)) ?_; intro v5 w5 hv5 hg5; obtain ⟨a5, n5, cap5, rfl⟩ := own_anyC hv5; have V1 := hid hv5; (have B5 : Hid (Below w.heap.size w w5) := hid (((Below.refl _ w).drew.trans (by first | exact (Below.refl _ w.drew).alloc (Nat.le_refl _) _ | exact ((Below.refl _ w.drew).alloc (Nat.le_refl _) _).alloc (by simp) _)).grown hg5 (by first | (simp; done) | (simp; omega)) (fun k hk => by cases hk; first | exact Nat.le_refl _ | exact Nat.le_succ _))))
      | (refine step_append_rowC _ (by rfl) _ _ 72 (by rfl) w.heap.size 78 iS _ 2 8 Try.underlying72 si sz0 sz1 sz2 (by rfl) (by omega) _ (by rfl) (own_empty_atC (two_allocC w.drew _ _) (by first | exact Nat.le_refl _ | (simp; omega) | simp)) _ r.L.length (r.L.flatMap itC) (by rfl) (own_latC HOL.out (by first | exact (Below.refl _ w.drew).alloc (Nat.le_refl _) _ | exact ((Below.refl _ w.drew).alloc (Nat.le_refl _) _).alloc (by simp) _)) O1.out (by unfold maxLen; omega) (by omega) (by first | (simp; done) | (simp; omega)) ?_; intro v5 w5 hv5 hg5; obtain ⟨a5, n5, cap5, rfl⟩ := own_anyC hv5; have V1 := hid hv5; (have B5 : Hid (Below w.heap.size w w5) := hid (((Below.refl _ w).drew.trans (by first | exact (Below.refl _ w.drew).alloc (Nat.le_refl _) _ | exact ((Below.refl _ w.drew).alloc (Nat.le_refl _) _).alloc (by simp) _)).grown hg5 (by first | (simp; done) | (simp; omega)) (fun k hk => by cases hk; first | exact Nat.le_refl _ | exact Nat.le_succ _))); have E5 := hid ((hg5.block _ (by simp) (by simp [Value.ownBlock])).trans (two_lastC w.drew _ _)))
      | (refine step_append_rowC _ (by rfl) _ _ 72 (by rfl) w.heap.size 78 iS _ 2 8 Try.underlying72 si sz0 sz1 sz2 (by rfl) (by omega) _ (by rfl) (own_empty_atC (two_lastC w.drew _ _) (by first | exact Nat.le_refl _ | (simp; omega) | simp)) _ r.L.length (r.L.flatMap itC) (by rfl) (own_latC HOL.out (by first | exact (Below.refl _ w.drew).alloc (Nat.le_refl _) _ | exact ((Below.refl _ w.drew).alloc (Nat.le_refl _) _).alloc (by simp) _)) O1.out (by unfold maxLen; omega) (by omega) (by first | (simp; done) | (simp; omega)) ?_; intro v5 w5 hv5 hg5; obtain ⟨a5, n5, cap5, rfl⟩ := own_anyC hv5; have V1 := hid hv5; (have B5 : Hid (Below w.heap.size w w5) := hid (((Below.refl _ w).drew.trans (by first | exact (Below.refl _ w.drew).alloc (Nat.le_refl _) _ | exact ((Below.refl _ w.drew).alloc (Nat.le_refl _) _).alloc (by simp) _)).grown hg5 (by first | (simp; done) | (simp; omega)) (fun k hk => by cases hk; first | exact Nat.le_refl _ | exact Nat.le_succ _))); have E5 := hid ((hg5.block _ (by simp; omega) (by simp [Value.ownBlock])).trans (two_allocC w.drew _ _)))
      | (refine step_append_rowC _ (by rfl) _ _ 73 (by rfl) w.heap.size 80 iL _ 2 16 Try.underlying73 li lz0 lz1 lz2 (by rfl) (by omega) _ (by rfl) (own_empty_atC E5.out (by first | exact Nat.le_refl _ | exact Nat.le_succ _ | exact B5.out.size)) _ r.H.length (r.H.flatMap dnC) (by rfl) (own_latC HOB2.out B5.out) O2.out (by unfold maxLen; omega) (by omega) (by first | exact B5.out.size | (have := B5.out.size; simp; omega)) ?_; intro v6 w6 hv6 hg6; obtain ⟨a6, n6, cap6, rfl⟩ := own_anyC hv6; have W2 := hid hv6; (have B6 : Hid (Below w.heap.size w w6) := hid (B5.out.grown hg6 (by first | exact B5.out.size | (have := B5.out.size; simp; omega)) (fun k hk => by cases hk; first | exact Nat.le_refl _ | exact Nat.le_succ _ | exact B5.out.size))); have G6 := hid hg6)
      | (refine step_append_rowC _ (by rfl) _ _ 73 (by rfl) w.heap.size 80 iL _ 2 16 Try.underlying73 li lz0 lz1 lz2 (by rfl) (by omega) _ (by rfl) (own_empty_atC (heap_alloc_new w5 _) (by first | exact Nat.le_refl _ | exact Nat.le_succ _ | exact B5.out.size)) _ r.H.length (r.H.flatMap dnC) (by rfl) (own_latC HOB2.out (B5.out.alloc B5.out.size _)) O2.out (by unfold maxLen; omega) (by omega) (by first | exact B5.out.size | (have := B5.out.size; simp; omega)) ?_; intro v6 w6 hv6 hg6; obtain ⟨a6, n6, cap6, rfl⟩ := own_anyC hv6; have W2 := hid hv6; (have B6 : Hid (Below w.heap.size w w6) := hid ((B5.out.alloc B5.out.size _).grown hg6 (by first | exact B5.out.size | (have := B5.out.size; simp; omega)) (fun k hk => by cases hk; first | exact Nat.le_refl _ | exact Nat.le_succ _ | exact B5.out.size))); have G6 := hid hg6)
      | (refine step_append_rowC _ (by rfl) _ _ 73 (by rfl) w.heap.size 80 iL _ 2 16 Try.underlying73 li lz0 lz1 lz2 (by rfl) (by omega) _ (by rfl) (own_empty_atC (heap_alloc_new w.drew _) (by first | exact Nat.le_refl _ | (simp; omega) | simp)) _ r.H.length (r.H.flatMap dnC) (by rfl) (own_latC HOB.out (by first | exact (Below.refl _ w.drew).alloc (Nat.le_refl _) _ | exact ((Below.refl _ w.drew).alloc (Nat.le_refl _) _).alloc (by simp) _)) O2.out (by unfold maxLen; omega) (by omega) (by first | (simp; done) | (simp; omega)) ?_; intro v5 w5 hv5 hg5; obtain ⟨a5, n5, cap5, rfl⟩ := own_anyC hv5; have V2 := hid hv5; (have B5 : Hid (Below w.heap.size w w5) := hid (((Below.refl _ w).drew.trans (by first | exact (Below.refl _ w.drew).alloc (Nat.le_refl _) _ | exact ((Below.refl _ w.drew).alloc (Nat.le_refl _) _).alloc (by simp) _)).grown hg5 (by first | (simp; done) | (simp; omega)) (fun k hk => by cases hk; first | exact Nat.le_refl _ | exact Nat.le_succ _))))
      | (refine step_append_rowC _ (by rfl) _ _ 73 (by rfl) w.heap.size 80 iL _ 2 16 Try.underlying73 li lz0 lz1 lz2 (by rfl) (by omega) _ (by rfl) (own_empty_atC (two_allocC w.drew _ _) (by first | exact Nat.le_refl _ | (simp; omega) | simp)) _ r.H.length (r.H.flatMap dnC) (by rfl) (own_latC HOB.out (by first | exact (Below.refl _ w.drew).alloc (Nat.le_refl _) _ | exact ((Below.refl _ w.drew).alloc (Nat.le_refl _) _).alloc (by simp) _)) O2.out (by unfold maxLen; omega) (by omega) (by first | (simp; done) | (simp; omega)) ?_; intro v5 w5 hv5 hg5; obtain ⟨a5, n5, cap5, rfl⟩ := own_anyC hv5; have V2 := hid hv5; (have B5 : Hid (Below w.heap.size w w5) := hid (((Below.refl _ w).drew.trans (by first | exact (Below.refl _ w.drew).alloc (Nat.le_refl _) _ | exact ((Below.refl _ w.drew).alloc (Nat.le_refl _) _).alloc (by simp) _)).grown hg5 (by first | (simp; done) | (simp; omega)) (fun k hk => by cases hk; first | exact Nat.le_refl _ | exact Nat.le_succ _))); have E5 := hid ((hg5.block _ (by simp) (by simp [Value.ownBlock])).trans (two_lastC w.drew _ _)))
      | (refine step_append_rowC _ (by rfl) _ _ 73 (by rfl) w.heap.size 80 iL _ 2 16 Try.underlying73 li lz0 lz1 lz2 (by rfl) (by omega) _ (by rfl) (own_empty_atC (two_lastC w.drew _ _) (by first | exact Nat.le_refl _ | (simp; omega) | simp)) _ r.H.length (r.H.flatMap dnC) (by rfl) (own_latC HOB.out (by first | exact (Below.refl _ w.drew).alloc (Nat.le_refl _) _ | exact ((Below.refl _ w.drew).alloc (Nat.le_refl _) _).alloc (by simp) _)) O2.out (by unfold maxLen; omega) (by omega) (by first | (simp; done) | (simp; omega)) ?_; intro v5 w5 hv5 hg5; obtain ⟨a5, n5, cap5, rfl⟩ := own_anyC hv5; have V2 := hid hv5; (have B5 : Hid (Below w.heap.size w w5) := hid (((Below.refl _ w).drew.trans (by first | exact (Below.refl _ w.drew).alloc (Nat.le_refl _) _ | exact ((Below.refl _ w.drew).alloc (Nat.le_refl _) _).alloc (by simp) _)).grown hg5 (by first | (simp; done) | (simp; omega)) (fun k hk => by cases hk; first | exact Nat.le_refl _ | exact Nat.le_succ _))); have E5 := hid ((hg5.block _ (by simp; omega) (by simp [Value.ownBlock])).trans (two_allocC w.drew _ _)))
      | (refine step_append_rowC _ (by rfl) _ _ 72 (by rfl) w.heap.size 78 iS _ 2 8 Try.underlying72 si sz0 sz1 sz2 (by rfl) (by omega) _ (by rfl) (own_empty_atC E5.out (by first | exact Nat.le_refl _ | exact Nat.le_succ _ | exact B5.out.size)) _ r.L.length (r.L.flatMap itC) (by rfl) (own_latC HOL2.out B5.out) O1.out (by unfold maxLen; omega) (by omega) (by first | exact B5.out.size | (have := B5.out.size; simp; omega)) ?_; intro v6 w6 hv6 hg6; obtain ⟨a6, n6, cap6, rfl⟩ := own_anyC hv6; have W1 := hid hv6; (have B6 : Hid (Below w.heap.size w w6) := hid (B5.out.grown hg6 (by first | exact B5.out.size | (have := B5.out.size; simp; omega)) (fun k hk => by cases hk; first | exact Nat.le_refl _ | exact Nat.le_succ _ | exact B5.out.size))); have G6 := hid hg6)
      | (refine step_append_rowC _ (by rfl) _ _ 72 (by rfl) w.heap.size 78 iS _ 2 8 Try.underlying72 si sz0 sz1 sz2 (by rfl) (by omega) _ (by rfl) (own_empty_atC (heap_alloc_new w5 _) (by first | exact Nat.le_refl _ | exact Nat.le_succ _ | exact B5.out.size)) _ r.L.length (r.L.flatMap itC) (by rfl) (own_latC HOL2.out (B5.out.alloc B5.out.size _)) O1.out (by unfold maxLen; omega) (by omega) (by first | exact B5.out.size | (have := B5.out.size; simp; omega)) ?_; intro v6 w6 hv6 hg6; obtain ⟨a6, n6, cap6, rfl⟩ := own_anyC hv6; have W1 := hid hv6; (have B6 : Hid (Below w.heap.size w w6) := hid ((B5.out.alloc B5.out.size _).grown hg6 (by first | exact B5.out.size | (have := B5.out.size; simp; omega)) (fun k hk => by cases hk; first | exact Nat.le_refl _ | exact Nat.le_succ _ | exact B5.out.size))); have G6 := hid hg6)
      | fail)
  all_goals (
    go_wp2
    go_ret
    have V : w6.ownsRow w.heap.size 78 2 (.slice a5 n5 cap5) r.L.length (r.L.flatMap itC) := by
      first | exact carry_newC V1.out G6.out | exact carry_oldC V1.out E5.out (by decide) G6.out
    have ha : Below w6.heap.size w6 (w6.alloc (.cells #[.int .i64 r.most, .slice a5 n5 cap5, .slice a6 n6 cap6] 75 (0, 0))) := (Below.refl _ _).alloc (Nat.le_refl _) _
    refine ⟨_, _, _, rfl, ⟨heap_alloc_new w6 _, own_latC (own_baseC V (Nat.zero_le _)) ha, own_latC (own_baseC W2.out (Nat.zero_le _)) ha⟩, fun k hk => ?_, B6.out.alloc B6.out.size _⟩
    rcases hk with e | e | e
    · have := B6.out.size; omega
    · exact (V.lt k e).1
    · exact (W2.out.lt k e).1)
end Go.Proofs.Ytilcbkejmpfnfaa
