/-
  What a cache is in memory; what its small calls return and leave.
-/
import Derived.Test.YtilcbkejmpfnfabFMp
namespace Go.Proofs.Ytilcbkejmpfnfab
open Go.RowKit Go.ChangeShapes Go.WideShapes Go.ChangeAt Go.Maps
set_option linter.unusedVariables false
set_option linter.unusedSimpArgs false
set_option maxRecDepth 100000
/-- A cache: how many may be at hand, how often anything was used, what is at hand (m of them), what is dear (k of them). -/
structure Ca where
  most : Int
  uses : Int
  m : Nat
  f : Int → Option Ob
  k : Nat
  d : Int → Option Int
def IsCa (w : World) (g b1 b2 : Nat) (c : Ca) : Prop :=
  w.heap[g]? = some (.cells #[.int .i64 c.most, .int .u64 c.uses, .map (some b1), .map (some b2)] 39 (0, 0)) ∧ IsFm obE w b1 c.m c.f ∧ IsFm numE w b2 c.k c.d ∧ b1 ≠ b2
abbrev pA (g : Nat) : Value := .pointer (some ⟨g, 0, none⟩)
/-- The blocks of a cache. -/
def Tri (g b1 b2 : Nat) (k : Nat) : Prop := k = g ∨ k = b1 ∨ k = b2
theorem IsCa.out {S : Nat → Prop} {w w' : World} {g b1 b2 : Nat} {c : Ca} (h : IsCa w g b1 b2 c) (ho : Ou S w w') (h0 : ¬ S g) (h1 : ¬ S b1) (h2 : ¬ S b2) : IsCa w' g b1 b2 c := by
  obtain ⟨e, m1, m2, ne⟩ := h
  exact ⟨by rw [ho.block g (lt_blkC e) h0]; exact e, m1.out ho h1, m2.out ho h2, ne⟩
theorem IsCa.later {w w' : World} {g b1 b2 : Nat} {c : Ca} (h : IsCa w g b1 b2 c) (hb : Below w.heap.size w w') : IsCa w' g b1 b2 c := h.out (S := fun _ => False) (Ou.of hb) id id id
theorem map_ne {α : Type} {E : Enc α} {w : World} {g b m : Nat} {f : Int → Option α} {cs : Array Value} {T : TypeId} {fr : Nat × Nat} (h : w.heap[g]? = some (.cells cs T fr)) (hm : IsFm E w b m f) : g ≠ b := fun e => by
  obtain ⟨D, ⟨es, clock, hb, _⟩, _⟩ := hm
  rw [← e, h] at hb; cases hb
theorem IsCa.cells {w : World} {g b1 b2 : Nat} {c : Ca} (h : IsCa w g b1 b2 c) :
    w.cell? ⟨g, 0, none⟩ = some (.int .i64 c.most) ∧ w.cell? ⟨g, 1, none⟩ = some (.int .u64 c.uses) ∧ w.cell? ⟨g, 2, none⟩ = some (.map (some b1)) ∧ w.cell? ⟨g, 3, none⟩ = some (.map (some b2)) ∧ (∀ o, w.frozen? ⟨g, o, none⟩ = false) ∧ g < w.heap.size ∧ b1 < w.heap.size ∧ b2 < w.heap.size ∧ g ≠ b1 ∧ g ≠ b2 ∧ b1 ≠ b2 := by
  obtain ⟨e, m1, m2, ne⟩ := h
  refine ⟨by simp [World.cell?, e], by simp [World.cell?, e], by simp [World.cell?, e], by simp [World.cell?, e], fun o => by simp [World.frozen?, e], lt_blkC e, m1.lt, m2.lt, map_ne e m1, map_ne e m2, ne⟩
def zOb : Ob := (0, false)
theorem zeroOb (w : World) : (zeroValue 47).run Try.prog w = .ok (obE.enc zOb) w := by
  have h : (Try.prog.info? 47).map (fun i => i.zero) = some (some (obE.enc zOb)) := by kernel_rfl
  cases hi : Try.prog.info? 47 with
  | none => rw [hi] at h; cases h
  | some i => rw [hi] at h; simp at h; simp [zeroValue, typeInfo, hi, h]
theorem zeroNu (w : World) : (zeroValue 3).run Try.prog w = .ok (numE.enc 0) w := by
  have h : (Try.prog.info? 3).map (fun i => i.zero) = some (some (numE.enc 0)) := by kernel_rfl
  cases hi : Try.prog.info? 3 with
  | none => rw [hi] at h; cases h
  | some i => rw [hi] at h; simp at h; simp [zeroValue, typeInfo, hi, h]
abbrev ht1 := Try.underlying35
abbrev ht2 := Try.underlying36
/-- When a fid was used last; whether it is dirty; how dear it is. -/
def Ca.usedAt (c : Ca) (i : Int) : Int := ((c.f i).getD zOb).1
def Ca.dirtyB (c : Ca) (i : Int) : Bool := ((c.f i).getD zOb).2
def Ca.dearN (c : Ca) (i : Int) : Int := (c.d i).getD 0
def Ca.has (c : Ca) (i : Int) : Bool := (c.f i).isSome
theorem obE_at (c : Ca) (i : Int) : obE.enc ((c.f i).getD zOb) = .agg #[.int .u64 (c.usedAt i), .bool (c.dirtyB i)] := rfl
theorem numE_at (c : Ca) (i : Int) : numE.enc ((c.d i).getD 0) = .int .i64 (c.dearN i) := rfl
theorem fieldU (u : Int) (d : Bool) (W : World) : (Instr.field 47 (.agg #[.int .u64 u, .bool d]) 0).run Try.prog W = .ok (.int .u64 u) W := by
  simp [Instr.field, run_underlying Try.underlying47, asAgg, part, go_sem, Result.andThen]
  try rfl
theorem fieldD (u : Int) (d : Bool) (W : World) : (Instr.field 47 (.agg #[.int .u64 u, .bool d]) 1).run Try.prog W = .ok (.bool d) W := by
  simp [Instr.field, run_underlying Try.underlying47, asAgg, part, go_sem, Result.andThen]
  try rfl
set_option maxHeartbeats 1000000 in
theorem has_c {w : World} {g b1 b2 : Nat} {c : Ca} (h : IsCa w g b1 b2 c) {i : Int} (h0 : 0 ≤ i) (h1 : i < 4294967296) :
    Calls Try.prog 8 #[pA g, .int .u32 i] w fun e w' => e = .returned (.bool (c.has i)) ∧ Below w.heap.size w w' := by
  have LK := h.2.1.lookOk ht1 zeroOb h0 h1
  rw [obE_at] at LK
  obtain ⟨c0, c1, c2, c3, cf, _⟩ := h.cells
  have E : Hid (c.has i = (c.f i).isSome) := hid rfl
  rw [← show c.has i = (c.f i).isSome from rfl] at LK
  generalize c.has i = hb at *
  generalize c.usedAt i = u at *
  generalize c.dirtyB i = dd at *
  clear h cf
  go_enter Try.func8, Try.ntmps8
  go_wp2
  go_ret
  exact ⟨rfl, (Below.refl _ _).alloc (Nat.le_refl _) _⟩
set_option maxHeartbeats 400000 in
theorem has_nil (i : Int) (w : World) : Calls Try.prog 8 #[.pointer none, .int .u32 i] w fun e w' => e = .returned (.bool false) ∧ w' = w := by
  go_enter Try.func8, Try.ntmps8
  go_wp2
  go_ret
  exact ⟨rfl, rfl⟩
set_option maxHeartbeats 1000000 in
theorem dear_c {w : World} {g b1 b2 : Nat} {c : Ca} (h : IsCa w g b1 b2 c) {i : Int} (h0 : 0 ≤ i) (h1 : i < 4294967296) :
    Calls Try.prog 10 #[pA g, .int .u32 i] w fun e w' => e = .returned (.int .i64 (c.dearN i)) ∧ w' = w := by
  have LK := h.2.2.1.look ht2 zeroNu h0 h1
  rw [numE_at] at LK
  obtain ⟨c0, c1, c2, c3, cf, _⟩ := h.cells
  generalize c.dearN i = u at *
  clear h cf
  go_enter Try.func10, Try.ntmps10
  go_wp2
  go_ret
  exact ⟨rfl, rfl⟩
set_option maxHeartbeats 400000 in
theorem dear_nil (i : Int) (w : World) : Calls Try.prog 10 #[.pointer none, .int .u32 i] w fun e w' => e = .returned (.int .i64 0) ∧ w' = w := by
  go_enter Try.func10, Try.ntmps10
  go_wp2
  go_ret
  exact ⟨rfl, rfl⟩
end Go.Proofs.Ytilcbkejmpfnfab
