/-
  What Fork of the document's disk does.
-/
import Derived.Test.YteimegacnmakaabDFork
import Derived.Laws.AppendOwnNone
namespace Go.Proofs.Yteimegacnmakaab
open Go.RowKit Go.ChangeShapes Go.WideShapes Go.ChangeAt Go.Maps
set_option linter.unusedVariables false
set_option linter.unusedSimpArgs false
/-- append of a whole row, as one step of a region that draws. -/
theorem step_append_row (w : World) {ops : Array Oper} {o : Oper} {a : Act} {K : Act → World → Prop} {Q : Exit → Act → World → Prop} {E : Prop} (hgd : o.guard = none) (s x : Operand) (t : TypeId)
    (ho : o.op = .call { callee := .builtin .append, args := #[s, x], argTypes := #[t, t] })
    (base : Nat) (e : TypeId) (i : TypeInfo) (z : Value) (size bytes : Nat) (ht : Try.prog.underlying t = some (.slice e)) (hi : Try.prog.info? e = some i) (hz : i.zero = some z)
    (hsize : i.size = size) (hby : i.bytes = bytes) (hzs : z.cells.size = size) (hsz : 0 < size)
    (v : Value) (hs : a.eval s = v) (hown : w.ownsRow base e size v 0 [])
    (bv : Value) (m : Nat) (ys : List Value) (hx : a.eval x = bv) (hsrc : w.ownsRow 0 e size bv m ys) (h1 : ∀ u ∈ ys, u.oneCell' = true)
    (h63 : m ≤ maxLen) (hbytes : m * bytes ≤ 140737488355328) (hbase : base ≤ w.heap.size)
    (h : ∀ v' w', w'.ownsRow base e size v' m ys → w.grownBy w' v.ownBlock → K (a.put o.dst v') w') :
    if Region.wanted o (yielded ops a.tmps) = true then Oper.wp Try.prog o a w K Q else E := by
  rw [if_pos (by simp [Region.wanted, hgd])]
  rcases hsrc.2 with ⟨rfl, h0⟩ | ⟨g, cap, cur, rfl, _, hg, hn, hm, hsz2, htk⟩
  · subst h0
    have hy : ys = [] := List.eq_nil_of_length_eq_zero (by have := hsrc.1; omega)
    subst hy
    have hrun := run_append_owned_none (P := Try.prog) (w := w) base t o.type e i size ht hi v 0 [] hown
    unfold Oper.wp
    simp [execOp, ho, resolve, invoke, builtin, hs, hx, hrun, Result.andThen]
    exact h v w hown (World.grownBy.refl w _)
  · exact wp_append_own w s x t ho base e i z size bytes ht hi hz hsize hby hzs hsz v 0 [] hs hown ⟨g, 0, none⟩ m cap ys hx hsrc.1 (row_cells hsrc) h1 (by omega) (by rw [Nat.zero_add]; exact hbytes) hbase fun v' w' q1 q2 _ => h v' w' (by simpa using q1) q2
theorem own_is {w : World} {base : Nat} {e : TypeId} {size : Nat} {v : Value} {n : Nat} {xs : List Value} (h : w.ownsRow base e size v n xs) : ∃ a cap, v = .slice a n cap := by
  rcases h.2 with ⟨h1, h2⟩ | ⟨g, cap, cur, h1, _⟩
  · exact ⟨_, _, by subst h2; exact h1⟩
  · exact ⟨_, _, h1⟩
theorem carry_new {w5 w6 : World} {o : Obj} {base : Nat} {e : TypeId} {size : Nat} {v : Value} {n : Nat} {xs : List Value} (h : w5.ownsRow base e size v n xs) (g : (w5.alloc o).grownBy w6 (Value.slice (some ⟨w5.heap.size, 0, none⟩) 0 0).ownBlock) : w6.ownsRow base e size v n xs :=
  own_lat h (((Below.refl w5.heap.size w5).alloc (Nat.le_refl _) o).grown g (by simp) (fun k hk => by cases hk; exact Nat.le_refl _))
theorem carry_old {w5 w6 : World} {k : Nat} {e2 : TypeId} {base : Nat} {e : TypeId} {size : Nat} {v : Value} {n : Nat} {xs : List Value} (h : w5.ownsRow base e size v n xs) (E : w5.heap[k]? = some (.cells #[] e2 (0, 0))) (hne : e ≠ e2) (g : w5.grownBy w6 (Value.slice (some ⟨k, 0, none⟩) 0 0).ownBlock) : w6.ownsRow base e size v n xs :=
  own_out h (Out.grown (S := fun j => j = k) g (fun j hj => by cases hj; rfl)) (fun j cur hj e' => by subst e'; rw [E] at hj; cases hj; exact hne rfl)
theorem own_empty_at {w : World} {e : TypeId} {size g base : Nat} (h : w.heap[g]? = some (.cells #[] e (0, 0))) (hb : base ≤ g) : w.ownsRow base e size (.slice (some ⟨g, 0, none⟩) 0 0) 0 [] :=
  ⟨by simp, .inr ⟨g, 0, #[], rfl, hb, h, Nat.le_refl _, Nat.zero_le _, by simp, by simp⟩⟩
set_option maxRecDepth 100000 in
set_option maxHeartbeats 4000000 in
theorem rfork_c {w : World} {r N : Nat} {L : List Sec} {B : List (Int × Sec)} (h : IsR w r N L B) :
    Calls Try.prog 26 #[pD r] w fun e w' => ∃ r', e = .returned (pD r') ∧ IsR w' r' N L B ∧ w.heap.size ≤ r' ∧ Below w.heap.size w w' := by
  obtain ⟨al, capl, ab, capb, hr, hol, hob⟩ := h.row
  obtain ⟨c0, c1, _, _⟩ := two_cells hr
  have hrl := lt_blk hr
  have hfew := h.few
  have hN8 : N ≤ 8 := h.2.2.2.2.2.2
  obtain ⟨iS, si, sz0, sz1, sz2⟩ := infoS
  obtain ⟨iL, li, lz0, lz1, lz2⟩ := infoL
  have HOL : Hid (w.drew.ownsRow 0 61 32 (.slice al N capl) N (L.flatMap fun s => s.map by8)) := hol
  have HOB : Hid (w.drew.ownsRow 0 96 33 (.slice ab B.length capb) B.length (B.flatMap lcells)) := hob
  have HOL2 : Hid (w.ownsRow 0 61 32 (.slice al N capl) N (L.flatMap fun s => s.map by8)) := hol
  have HOB2 : Hid (w.ownsRow 0 96 33 (.slice ab B.length capb) B.length (B.flatMap lcells)) := hob
  have HT := hid h.2
  have O1 : Hid (∀ u ∈ L.flatMap (fun s => s.map by8), u.oneCell' = true) := fun u hu => by
    obtain ⟨s, _, hs⟩ := List.mem_flatMap.1 hu
    obtain ⟨x, _, rfl⟩ := List.mem_map.1 hs
    rfl
  have O2 : Hid (∀ u ∈ B.flatMap lcells, u.oneCell' = true) := fun u hu => by
    obtain ⟨p, _, hs⟩ := List.mem_flatMap.1 hu
    exact lcells_one p u hs
  have KS : ∀ w', Below w.heap.size w w' → w'.cell? ⟨r, 0, none⟩ = some (.slice al N capl) ∧ w'.cell? ⟨r, 1, none⟩ = some (.slice ab B.length capb) := fun w' hb => by
    rw [← c0, ← c1]; exact ⟨World.cell?_of_block (hb.block r hrl), World.cell?_of_block (hb.block r hrl)⟩
  clear h hr hol hob
  go_enter Try.func26, Try.ntmps26
  go_wp2
  go_region_held3 (fun w' => w'.cell? ⟨r, 0, none⟩ = some (.slice al N capl) ∧ w'.cell? ⟨r, 1, none⟩ = some (.slice ab B.length capb)) (first | exact KS _ B6.out | exact KS _ B5.out | go_keep)
    (first
      | (refine step_append_row _ (by rfl) _ _ 91 (by rfl) w.heap.size 61 iS _ 32 32 Try.underlying91 si sz0 sz1 sz2 (by rfl) (by omega) _ (by rfl) (own_empty_at (heap_alloc_new w.drew _) (by first | exact Nat.le_refl _ | (simp; omega) | simp)) _ N (L.flatMap fun s => s.map by8) (by rfl) (own_lat HOL.out (by first | exact (Below.refl _ w.drew).alloc (Nat.le_refl _) _ | exact ((Below.refl _ w.drew).alloc (Nat.le_refl _) _).alloc (by simp) _)) O1.out (by unfold maxLen; omega) (by omega) (by first | (simp; done) | (simp; omega)) ?_; intro v5 w5 hv5 hg5; obtain ⟨a5, cap5, rfl⟩ := own_is hv5; have V1 := hid hv5; (have B5 : Hid (Below w.heap.size w w5) := ((Below.refl _ w).drew.trans (by first | exact (Below.refl _ w.drew).alloc (Nat.le_refl _) _ | exact ((Below.refl _ w.drew).alloc (Nat.le_refl _) _).alloc (by simp) _)).grown hg5 (by first | (simp; done) | (simp; omega)) (fun k hk => by cases hk; first | exact Nat.le_refl _ | exact Nat.le_succ _)))
      | (refine step_append_row _ (by rfl) _ _ 91 (by rfl) w.heap.size 61 iS _ 32 32 Try.underlying91 si sz0 sz1 sz2 (by rfl) (by omega) _ (by rfl) (own_empty_at (two_alloc w.drew _ _) (by first | exact Nat.le_refl _ | (simp; omega) | simp)) _ N (L.flatMap fun s => s.map by8) (by rfl) (own_lat HOL.out (by first | exact (Below.refl _ w.drew).alloc (Nat.le_refl _) _ | exact ((Below.refl _ w.drew).alloc (Nat.le_refl _) _).alloc (by simp) _)) O1.out (by unfold maxLen; omega) (by omega) (by first | (simp; done) | (simp; omega)) ?_; intro v5 w5 hv5 hg5; obtain ⟨a5, cap5, rfl⟩ := own_is hv5; have V1 := hid hv5; (have B5 : Hid (Below w.heap.size w w5) := ((Below.refl _ w).drew.trans (by first | exact (Below.refl _ w.drew).alloc (Nat.le_refl _) _ | exact ((Below.refl _ w.drew).alloc (Nat.le_refl _) _).alloc (by simp) _)).grown hg5 (by first | (simp; done) | (simp; omega)) (fun k hk => by cases hk; first | exact Nat.le_refl _ | exact Nat.le_succ _)); have E5 := hid ((hg5.block _ (by simp) (by simp [Value.ownBlock])).trans (two_last w.drew _ _)))
      | (refine step_append_row _ (by rfl) _ _ 91 (by rfl) w.heap.size 61 iS _ 32 32 Try.underlying91 si sz0 sz1 sz2 (by rfl) (by omega) _ (by rfl) (own_empty_at (two_last w.drew _ _) (by first | exact Nat.le_refl _ | (simp; omega) | simp)) _ N (L.flatMap fun s => s.map by8) (by rfl) (own_lat HOL.out (by first | exact (Below.refl _ w.drew).alloc (Nat.le_refl _) _ | exact ((Below.refl _ w.drew).alloc (Nat.le_refl _) _).alloc (by simp) _)) O1.out (by unfold maxLen; omega) (by omega) (by first | (simp; done) | (simp; omega)) ?_; intro v5 w5 hv5 hg5; obtain ⟨a5, cap5, rfl⟩ := own_is hv5; have V1 := hid hv5; (have B5 : Hid (Below w.heap.size w w5) := ((Below.refl _ w).drew.trans (by first | exact (Below.refl _ w.drew).alloc (Nat.le_refl _) _ | exact ((Below.refl _ w.drew).alloc (Nat.le_refl _) _).alloc (by simp) _)).grown hg5 (by first | (simp; done) | (simp; omega)) (fun k hk => by cases hk; first | exact Nat.le_refl _ | exact Nat.le_succ _)); have E5 := hid ((hg5.block _ (by simp; omega) (by simp [Value.ownBlock])).trans (two_alloc w.drew _ _)))
      | (refine step_append_row _ (by rfl) _ _ 92 (by rfl) w.heap.size 96 iL _ 33 40 Try.underlying92 li lz0 lz1 lz2 (by rfl) (by omega) _ (by rfl) (own_empty_at E5.out (by first | exact Nat.le_refl _ | exact Nat.le_succ _ | exact B5.out.size)) _ B.length (B.flatMap lcells) (by rfl) (own_lat HOB2.out B5.out) O2.out (by unfold maxLen; omega) (by omega) (by first | exact B5.out.size | (have := B5.out.size; simp; omega)) ?_; intro v6 w6 hv6 hg6; obtain ⟨a6, cap6, rfl⟩ := own_is hv6; have W2 := hid hv6; (have B6 : Hid (Below w.heap.size w w6) := B5.out.grown hg6 (by first | exact B5.out.size | (have := B5.out.size; simp; omega)) (fun k hk => by cases hk; first | exact Nat.le_refl _ | exact Nat.le_succ _ | exact B5.out.size)); have G6 := hid hg6)
      | (refine step_append_row _ (by rfl) _ _ 92 (by rfl) w.heap.size 96 iL _ 33 40 Try.underlying92 li lz0 lz1 lz2 (by rfl) (by omega) _ (by rfl) (own_empty_at (heap_alloc_new w5 _) (by first | exact Nat.le_refl _ | exact Nat.le_succ _ | exact B5.out.size)) _ B.length (B.flatMap lcells) (by rfl) (own_lat HOB2.out (B5.out.alloc B5.out.size _)) O2.out (by unfold maxLen; omega) (by omega) (by first | exact B5.out.size | (have := B5.out.size; simp; omega)) ?_; intro v6 w6 hv6 hg6; obtain ⟨a6, cap6, rfl⟩ := own_is hv6; have W2 := hid hv6; (have B6 : Hid (Below w.heap.size w w6) := (B5.out.alloc B5.out.size _).grown hg6 (by first | exact B5.out.size | (have := B5.out.size; simp; omega)) (fun k hk => by cases hk; first | exact Nat.le_refl _ | exact Nat.le_succ _ | exact B5.out.size)); have G6 := hid hg6)
      | (refine step_append_row _ (by rfl) _ _ 92 (by rfl) w.heap.size 96 iL _ 33 40 Try.underlying92 li lz0 lz1 lz2 (by rfl) (by omega) _ (by rfl) (own_empty_at (heap_alloc_new w.drew _) (by first | exact Nat.le_refl _ | (simp; omega) | simp)) _ B.length (B.flatMap lcells) (by rfl) (own_lat HOB.out (by first | exact (Below.refl _ w.drew).alloc (Nat.le_refl _) _ | exact ((Below.refl _ w.drew).alloc (Nat.le_refl _) _).alloc (by simp) _)) O2.out (by unfold maxLen; omega) (by omega) (by first | (simp; done) | (simp; omega)) ?_; intro v5 w5 hv5 hg5; obtain ⟨a5, cap5, rfl⟩ := own_is hv5; have V2 := hid hv5; (have B5 : Hid (Below w.heap.size w w5) := ((Below.refl _ w).drew.trans (by first | exact (Below.refl _ w.drew).alloc (Nat.le_refl _) _ | exact ((Below.refl _ w.drew).alloc (Nat.le_refl _) _).alloc (by simp) _)).grown hg5 (by first | (simp; done) | (simp; omega)) (fun k hk => by cases hk; first | exact Nat.le_refl _ | exact Nat.le_succ _)))
      | (refine step_append_row _ (by rfl) _ _ 92 (by rfl) w.heap.size 96 iL _ 33 40 Try.underlying92 li lz0 lz1 lz2 (by rfl) (by omega) _ (by rfl) (own_empty_at (two_alloc w.drew _ _) (by first | exact Nat.le_refl _ | (simp; omega) | simp)) _ B.length (B.flatMap lcells) (by rfl) (own_lat HOB.out (by first | exact (Below.refl _ w.drew).alloc (Nat.le_refl _) _ | exact ((Below.refl _ w.drew).alloc (Nat.le_refl _) _).alloc (by simp) _)) O2.out (by unfold maxLen; omega) (by omega) (by first | (simp; done) | (simp; omega)) ?_; intro v5 w5 hv5 hg5; obtain ⟨a5, cap5, rfl⟩ := own_is hv5; have V2 := hid hv5; (have B5 : Hid (Below w.heap.size w w5) := ((Below.refl _ w).drew.trans (by first | exact (Below.refl _ w.drew).alloc (Nat.le_refl _) _ | exact ((Below.refl _ w.drew).alloc (Nat.le_refl _) _).alloc (by simp) _)).grown hg5 (by first | (simp; done) | (simp; omega)) (fun k hk => by cases hk; first | exact Nat.le_refl _ | exact Nat.le_succ _)); have E5 := hid ((hg5.block _ (by simp) (by simp [Value.ownBlock])).trans (two_last w.drew _ _)))
      | (refine step_append_row _ (by rfl) _ _ 92 (by rfl) w.heap.size 96 iL _ 33 40 Try.underlying92 li lz0 lz1 lz2 (by rfl) (by omega) _ (by rfl) (own_empty_at (two_last w.drew _ _) (by first | exact Nat.le_refl _ | (simp; omega) | simp)) _ B.length (B.flatMap lcells) (by rfl) (own_lat HOB.out (by first | exact (Below.refl _ w.drew).alloc (Nat.le_refl _) _ | exact ((Below.refl _ w.drew).alloc (Nat.le_refl _) _).alloc (by simp) _)) O2.out (by unfold maxLen; omega) (by omega) (by first | (simp; done) | (simp; omega)) ?_; intro v5 w5 hv5 hg5; obtain ⟨a5, cap5, rfl⟩ := own_is hv5; have V2 := hid hv5; (have B5 : Hid (Below w.heap.size w w5) := ((Below.refl _ w).drew.trans (by first | exact (Below.refl _ w.drew).alloc (Nat.le_refl _) _ | exact ((Below.refl _ w.drew).alloc (Nat.le_refl _) _).alloc (by simp) _)).grown hg5 (by first | (simp; done) | (simp; omega)) (fun k hk => by cases hk; first | exact Nat.le_refl _ | exact Nat.le_succ _)); have E5 := hid ((hg5.block _ (by simp; omega) (by simp [Value.ownBlock])).trans (two_alloc w.drew _ _)))
      | (refine step_append_row _ (by rfl) _ _ 91 (by rfl) w.heap.size 61 iS _ 32 32 Try.underlying91 si sz0 sz1 sz2 (by rfl) (by omega) _ (by rfl) (own_empty_at E5.out (by first | exact Nat.le_refl _ | exact Nat.le_succ _ | exact B5.out.size)) _ N (L.flatMap fun s => s.map by8) (by rfl) (own_lat HOL2.out B5.out) O1.out (by unfold maxLen; omega) (by omega) (by first | exact B5.out.size | (have := B5.out.size; simp; omega)) ?_; intro v6 w6 hv6 hg6; obtain ⟨a6, cap6, rfl⟩ := own_is hv6; have W1 := hid hv6; (have B6 : Hid (Below w.heap.size w w6) := B5.out.grown hg6 (by first | exact B5.out.size | (have := B5.out.size; simp; omega)) (fun k hk => by cases hk; first | exact Nat.le_refl _ | exact Nat.le_succ _ | exact B5.out.size)); have G6 := hid hg6)
      | (refine step_append_row _ (by rfl) _ _ 91 (by rfl) w.heap.size 61 iS _ 32 32 Try.underlying91 si sz0 sz1 sz2 (by rfl) (by omega) _ (by rfl) (own_empty_at (heap_alloc_new w5 _) (by first | exact Nat.le_refl _ | exact Nat.le_succ _ | exact B5.out.size)) _ N (L.flatMap fun s => s.map by8) (by rfl) (own_lat HOL2.out (B5.out.alloc B5.out.size _)) O1.out (by unfold maxLen; omega) (by omega) (by first | exact B5.out.size | (have := B5.out.size; simp; omega)) ?_; intro v6 w6 hv6 hg6; obtain ⟨a6, cap6, rfl⟩ := own_is hv6; have W1 := hid hv6; (have B6 : Hid (Below w.heap.size w w6) := (B5.out.alloc B5.out.size _).grown hg6 (by first | exact B5.out.size | (have := B5.out.size; simp; omega)) (fun k hk => by cases hk; first | exact Nat.le_refl _ | exact Nat.le_succ _ | exact B5.out.size)); have G6 := hid hg6))
  all_goals (
    go_wp2
    go_ret
    have V : w6.ownsRow w.heap.size 61 32 (.slice a5 N cap5) N (L.flatMap fun s => s.map by8) := by
      first | exact carry_new V1.out G6.out | exact carry_old V1.out E5.out (by decide) G6.out
    have ha : Below w6.heap.size w6 (w6.alloc (.cells #[.slice a5 N cap5, .slice a6 B.length cap6] 94 (0, 0))) := (Below.refl _ _).alloc (Nat.le_refl _) _
    exact ⟨_, rfl, ⟨⟨_, _, heap_alloc_new w6 _, own_lat (own0 V) ha, own_lat (own0 W2.out) ha⟩, HT.out⟩, B6.out.size, B6.out.alloc B6.out.size _⟩)
end Go.Proofs.Yteimegacnmakaab
