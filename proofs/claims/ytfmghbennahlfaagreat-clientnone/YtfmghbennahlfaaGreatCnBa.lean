/-
  
-/
import Derived.Test.YtfmghbennahlfaaGreatCnAs
import Derived.Test.YtfmghbennahlfaaGreatCnAz
import Derived.Test.YtfmghbennahlfaaGreatCnAd
namespace Go.Proofs.YtfmghbennahlfaaGreat
open Go.RowKit Go.ChangeShapes Go.WideShapes Go.ChangeAt Go.Maps Go.Shelf
set_option linter.unusedVariables false
set_option linter.unusedSimpArgs false
set_option maxRecDepth 100000
theorem pgs_none {B : Nat} {w : World} {v : Value} (h : PGs B w v []) : ∃ a c, v = .slice a 0 c := by
 obtain ⟨vals, h1, _⟩ := h
 rcases h1.2 with ⟨e, _⟩ | ⟨g, cap, cur, e, _⟩
 · exact ⟨_, _, e⟩
 · exact ⟨_, _, e⟩
set_option maxHeartbeats 4000000 in
theorem kept_c {w : World} {j : Nat} (num : Int) (GC : Hid (∀ W, Below w.heap.size w W → Calls Tryz.prog 105 #[pB j] W fun e w' => ∃ v, e = .returned v ∧ PGs W.heap.size w' v [] ∧ Below W.heap.size W w')) :
   Calls Tryz.prog 54 #[.agg #[pB j], .int .u8 num] w fun e w' => ∃ g s, e = .returned (.agg #[.slice (some ⟨g, 0, none⟩) 1 1, .slice (some ⟨s, 0, none⟩) 1 1, .slice none 0 0, .int .i64 0, .int .u32 0, .int .u32 1, .slice none 0 0]) ∧ w.heap.size ≤ g ∧ w.heap.size ≤ s ∧ w'.heap[g]? = some (.cells #[.int .u32 1, .int .u8 2, .int .u16 0, .int .u16 0, .slice none 0 0, .slice none 0 0] 40 (0, 0)) ∧ w'.heap[s]? = some (.cells #[.int .u32 1, .int .u64 1, .int .u8 0] 200 (0, 0)) ∧ Below w.heap.size w w' := by
 have FC := hid (fun W => firstState_c W)
 have b1 := below_1 w (.cells #[pB j] 69)
 have b2 := below_1 (w.alloc (.cells #[pB j] 69)) (.cells #[.slice none 0 0, .slice none 0 0, .slice none 0 0, .int .i64 0, .int .u32 0, .int .u32 0, .slice none 0 0] 77)
 have hK := (b2.block _ (lt_blkR (heap_alloc_new w (.cells #[pB j] 69)))).trans (heap_alloc_new w (.cells #[pB j] 69))
 have hz1 : (w.alloc (.cells #[pB j] 69)).heap.size = w.heap.size + 1 := by simp
 have hR := heap_alloc_new (w.alloc (.cells #[pB j] 69)) (.cells #[.slice none 0 0, .slice none 0 0, .slice none 0 0, .int .i64 0, .int .u32 0, .int .u32 0, .slice none 0 0] 77)
 rw [hz1] at hR
 have B1 := hid (b1.trans (b2.mono b1.size))
 have c0 : ((w.alloc (.cells #[pB j] 69)).alloc (.cells #[.slice none 0 0, .slice none 0 0, .slice none 0 0, .int .i64 0, .int .u32 0, .int .u32 0, .slice none 0 0] 77)).cell? ⟨w.heap.size, 0, none⟩ = some (pB j) := cell_of_row2 hK 0 rfl
 have HR : Hid (∀ W, Below ((w.alloc (.cells #[pB j] 69)).alloc (.cells #[.slice none 0 0, .slice none 0 0, .slice none 0 0, .int .i64 0, .int .u32 0, .int .u32 0, .slice none 0 0] 77)).heap.size ((w.alloc (.cells #[pB j] 69)).alloc (.cells #[.slice none 0 0, .slice none 0 0, .slice none 0 0, .int .i64 0, .int .u32 0, .int .u32 0, .slice none 0 0] 77)) W → W.heap[w.heap.size + 1]? = some (.cells #[.slice none 0 0, .slice none 0 0, .slice none 0 0, .int .i64 0, .int .u32 0, .int .u32 0, .slice none 0 0] 77 (0, 0))) := hid (fun W h => (h.block _ (lt_blkR hR)).trans hR)
 have SZ : Hid (((w.alloc (.cells #[pB j] 69)).alloc (.cells #[.slice none 0 0, .slice none 0 0, .slice none 0 0, .int .i64 0, .int .u32 0, .int .u32 0, .slice none 0 0] 77)).heap.size = w.heap.size + 2) := hid (by simp)
 clear b1 b2 hR hK hz1
 go_enter Tryz.func54, Tryz.ntmps54
 go_upto_region 2 with (go_at_call 105; refine (GC.out _ B1.out).mono ?_; rintro _ w1 ⟨v1, rfl, hp1, hb1⟩; obtain ⟨a1, k1, rfl⟩ := pgs_none hp1; have D1 := hid hb1; clear hb1 hp1)
 go_wp2_with (go_at_call 106; refine (FC.out _).mono ?_; rintro _ w2 ⟨g, s, rfl, hg, hs, rg, rs, hb2⟩; have D2 := hid (D1.out.trans (hb2.mono D1.out.size)); have HG := hid hg; have HS := hid hs; have RG := hid rg; have RS := hid rs; have R1 := HR.out _ D2.out; have r0 : w2.cell? ⟨w.heap.size + 1, 0, none⟩ = some (.slice none 0 0) := cell_of_row2 R1 0 rfl; have r1 : w2.cell? ⟨w.heap.size + 1, 1, none⟩ = some (.slice none 0 0) := cell_of_row2 R1 1 rfl; have r2 : w2.cell? ⟨w.heap.size + 1, 2, none⟩ = some (.slice none 0 0) := cell_of_row2 R1 2 rfl; have r3 : w2.cell? ⟨w.heap.size + 1, 3, none⟩ = some (.int .i64 0) := cell_of_row2 R1 3 rfl; have r4 : w2.cell? ⟨w.heap.size + 1, 4, none⟩ = some (.int .u32 0) := cell_of_row2 R1 4 rfl; have r5 : w2.cell? ⟨w.heap.size + 1, 5, none⟩ = some (.int .u32 0) := cell_of_row2 R1 5 rfl; have r6 : w2.cell? ⟨w.heap.size + 1, 6, none⟩ = some (.slice none 0 0) := cell_of_row2 R1 6 rfl; have fz : ∀ i, w2.frozen? ⟨w.heap.size + 1, i, none⟩ = false := fun i => (by simp [World.frozen?, R1]); clear hg hs rg rs hb2)
 have Q9 := seven_cells R1 (.slice (some ⟨g, 0, none⟩) 1 1) (.slice (some ⟨s, 0, none⟩) 1 1) (.slice none 0 0) (.int .i64 0) (.int .u32 0) (.int .u32 1) (.slice none 0 0)
 have sz := SZ.out
 have lg := Nat.le_trans D1.out.size HG.out
 have ls := Nat.le_trans D1.out.size HS.out
 rw [sz] at lg ls
 have BB := hid (B1.out.trans (D2.out.mono B1.out.size))
 have X1 := hid ((Below.heap_setCell ((((((w2.setCell ⟨w.heap.size + 1, 0, none⟩ (.slice (some ⟨g, 0, none⟩) 1 1)).setCell ⟨w.heap.size + 1, 1, none⟩ (.slice (some ⟨s, 0, none⟩) 1 1)).setCell ⟨w.heap.size + 1, 2, none⟩ (.slice none 0 0)).setCell ⟨w.heap.size + 1, 3, none⟩ (.int .i64 0)).setCell ⟨w.heap.size + 1, 4, none⟩ (.int .u32 0)).setCell ⟨w.heap.size + 1, 5, none⟩ (.int .u32 1)) ⟨w.heap.size + 1, 6, none⟩ (.slice none 0 0) g (by simp; omega)).trans ((Below.heap_setCell (((((w2.setCell ⟨w.heap.size + 1, 0, none⟩ (.slice (some ⟨g, 0, none⟩) 1 1)).setCell ⟨w.heap.size + 1, 1, none⟩ (.slice (some ⟨s, 0, none⟩) 1 1)).setCell ⟨w.heap.size + 1, 2, none⟩ (.slice none 0 0)).setCell ⟨w.heap.size + 1, 3, none⟩ (.int .i64 0)).setCell ⟨w.heap.size + 1, 4, none⟩ (.int .u32 0)) ⟨w.heap.size + 1, 5, none⟩ (.int .u32 1) g (by simp; omega)).trans ((Below.heap_setCell ((((w2.setCell ⟨w.heap.size + 1, 0, none⟩ (.slice (some ⟨g, 0, none⟩) 1 1)).setCell ⟨w.heap.size + 1, 1, none⟩ (.slice (some ⟨s, 0, none⟩) 1 1)).setCell ⟨w.heap.size + 1, 2, none⟩ (.slice none 0 0)).setCell ⟨w.heap.size + 1, 3, none⟩ (.int .i64 0)) ⟨w.heap.size + 1, 4, none⟩ (.int .u32 0) g (by simp; omega)).trans ((Below.heap_setCell (((w2.setCell ⟨w.heap.size + 1, 0, none⟩ (.slice (some ⟨g, 0, none⟩) 1 1)).setCell ⟨w.heap.size + 1, 1, none⟩ (.slice (some ⟨s, 0, none⟩) 1 1)).setCell ⟨w.heap.size + 1, 2, none⟩ (.slice none 0 0)) ⟨w.heap.size + 1, 3, none⟩ (.int .i64 0) g (by simp; omega)).trans ((Below.heap_setCell ((w2.setCell ⟨w.heap.size + 1, 0, none⟩ (.slice (some ⟨g, 0, none⟩) 1 1)).setCell ⟨w.heap.size + 1, 1, none⟩ (.slice (some ⟨s, 0, none⟩) 1 1)) ⟨w.heap.size + 1, 2, none⟩ (.slice none 0 0) g (by simp; omega)).trans ((Below.heap_setCell (w2.setCell ⟨w.heap.size + 1, 0, none⟩ (.slice (some ⟨g, 0, none⟩) 1 1)) ⟨w.heap.size + 1, 1, none⟩ (.slice (some ⟨s, 0, none⟩) 1 1) g (by simp; omega)).trans ((Below.heap_setCell w2 ⟨w.heap.size + 1, 0, none⟩ (.slice (some ⟨g, 0, none⟩) 1 1) g (by simp; omega)).trans RG.out)))))))
 have X2 := hid ((Below.heap_setCell ((((((w2.setCell ⟨w.heap.size + 1, 0, none⟩ (.slice (some ⟨g, 0, none⟩) 1 1)).setCell ⟨w.heap.size + 1, 1, none⟩ (.slice (some ⟨s, 0, none⟩) 1 1)).setCell ⟨w.heap.size + 1, 2, none⟩ (.slice none 0 0)).setCell ⟨w.heap.size + 1, 3, none⟩ (.int .i64 0)).setCell ⟨w.heap.size + 1, 4, none⟩ (.int .u32 0)).setCell ⟨w.heap.size + 1, 5, none⟩ (.int .u32 1)) ⟨w.heap.size + 1, 6, none⟩ (.slice none 0 0) s (by simp; omega)).trans ((Below.heap_setCell (((((w2.setCell ⟨w.heap.size + 1, 0, none⟩ (.slice (some ⟨g, 0, none⟩) 1 1)).setCell ⟨w.heap.size + 1, 1, none⟩ (.slice (some ⟨s, 0, none⟩) 1 1)).setCell ⟨w.heap.size + 1, 2, none⟩ (.slice none 0 0)).setCell ⟨w.heap.size + 1, 3, none⟩ (.int .i64 0)).setCell ⟨w.heap.size + 1, 4, none⟩ (.int .u32 0)) ⟨w.heap.size + 1, 5, none⟩ (.int .u32 1) s (by simp; omega)).trans ((Below.heap_setCell ((((w2.setCell ⟨w.heap.size + 1, 0, none⟩ (.slice (some ⟨g, 0, none⟩) 1 1)).setCell ⟨w.heap.size + 1, 1, none⟩ (.slice (some ⟨s, 0, none⟩) 1 1)).setCell ⟨w.heap.size + 1, 2, none⟩ (.slice none 0 0)).setCell ⟨w.heap.size + 1, 3, none⟩ (.int .i64 0)) ⟨w.heap.size + 1, 4, none⟩ (.int .u32 0) s (by simp; omega)).trans ((Below.heap_setCell (((w2.setCell ⟨w.heap.size + 1, 0, none⟩ (.slice (some ⟨g, 0, none⟩) 1 1)).setCell ⟨w.heap.size + 1, 1, none⟩ (.slice (some ⟨s, 0, none⟩) 1 1)).setCell ⟨w.heap.size + 1, 2, none⟩ (.slice none 0 0)) ⟨w.heap.size + 1, 3, none⟩ (.int .i64 0) s (by simp; omega)).trans ((Below.heap_setCell ((w2.setCell ⟨w.heap.size + 1, 0, none⟩ (.slice (some ⟨g, 0, none⟩) 1 1)).setCell ⟨w.heap.size + 1, 1, none⟩ (.slice (some ⟨s, 0, none⟩) 1 1)) ⟨w.heap.size + 1, 2, none⟩ (.slice none 0 0) s (by simp; omega)).trans ((Below.heap_setCell (w2.setCell ⟨w.heap.size + 1, 0, none⟩ (.slice (some ⟨g, 0, none⟩) 1 1)) ⟨w.heap.size + 1, 1, none⟩ (.slice (some ⟨s, 0, none⟩) 1 1) s (by simp; omega)).trans ((Below.heap_setCell w2 ⟨w.heap.size + 1, 0, none⟩ (.slice (some ⟨g, 0, none⟩) 1 1) s (by simp; omega)).trans RS.out)))))))
 have B9 := hid (((((((BB.out.setCell (p := ⟨w.heap.size + 1, 0, none⟩) (Nat.le_succ _) (.slice (some ⟨g, 0, none⟩) 1 1)).setCell (p := ⟨w.heap.size + 1, 1, none⟩) (Nat.le_succ _) (.slice (some ⟨s, 0, none⟩) 1 1)).setCell (p := ⟨w.heap.size + 1, 2, none⟩) (Nat.le_succ _) (.slice none 0 0)).setCell (p := ⟨w.heap.size + 1, 3, none⟩) (Nat.le_succ _) (.int .i64 0)).setCell (p := ⟨w.heap.size + 1, 4, none⟩) (Nat.le_succ _) (.int .u32 0)).setCell (p := ⟨w.heap.size + 1, 5, none⟩) (Nat.le_succ _) (.int .u32 1)).setCell (p := ⟨w.heap.size + 1, 6, none⟩) (Nat.le_succ _) (.slice none 0 0))
 clear r0 r1 r2 r3 r4 r5 r6 fz R1 c0
 generalize (((((((w2.setCell ⟨w.heap.size + 1, 0, none⟩ (.slice (some ⟨g, 0, none⟩) 1 1)).setCell ⟨w.heap.size + 1, 1, none⟩ (.slice (some ⟨s, 0, none⟩) 1 1)).setCell ⟨w.heap.size + 1, 2, none⟩ (.slice none 0 0)).setCell ⟨w.heap.size + 1, 3, none⟩ (.int .i64 0)).setCell ⟨w.heap.size + 1, 4, none⟩ (.int .u32 0)).setCell ⟨w.heap.size + 1, 5, none⟩ (.int .u32 1)).setCell ⟨w.heap.size + 1, 6, none⟩ (.slice none 0 0)) = W9 at *
 have r0 : W9.cell? ⟨w.heap.size + 1, 0, none⟩ = some (.slice (some ⟨g, 0, none⟩) 1 1) := cell_of_row2 Q9 0 rfl
 have r1 : W9.cell? ⟨w.heap.size + 1, 1, none⟩ = some (.slice (some ⟨s, 0, none⟩) 1 1) := cell_of_row2 Q9 1 rfl
 have r2 : W9.cell? ⟨w.heap.size + 1, 2, none⟩ = some (.slice none 0 0) := cell_of_row2 Q9 2 rfl
 have r3 : W9.cell? ⟨w.heap.size + 1, 3, none⟩ = some (.int .i64 0) := cell_of_row2 Q9 3 rfl
 have r4 : W9.cell? ⟨w.heap.size + 1, 4, none⟩ = some (.int .u32 0) := cell_of_row2 Q9 4 rfl
 have r5 : W9.cell? ⟨w.heap.size + 1, 5, none⟩ = some (.int .u32 1) := cell_of_row2 Q9 5 rfl
 have r6 : W9.cell? ⟨w.heap.size + 1, 6, none⟩ = some (.slice none 0 0) := cell_of_row2 Q9 6 rfl
 refine bodyPost_ret (v := .agg #[.slice (some ⟨g, 0, none⟩) 1 1, .slice (some ⟨s, 0, none⟩) 1 1, .slice none 0 0, .int .i64 0, .int .u32 0, .int .u32 1, .slice none 0 0]) (by simp [results, Tryz.results54, go_sem, r0, r1, r2, r3, r4, r5, r6]) rfl ⟨g, s, rfl, by omega, by omega, X1.out, X2.out, B9.out⟩
end Go.Proofs.YtfmghbennahlfaaGreat
namespace Go.Proofs.YtfmghbennahlfaaGreat
open Go.RowKit Go.ChangeShapes Go.WideShapes Go.ChangeAt Go.Maps
set_option linter.unusedVariables false
set_option linter.unusedSimpArgs false
set_option maxRecDepth 100000
structure Ca where
 most : Int
 uses : Int
 m : Nat
 f : Int → Option Ob
 k : Nat
 d : Int → Option Int
def IsCa (w : World) (g b1 b2 : Nat) (c : Ca) : Prop :=
 w.heap[g]? = some (.cells #[.int .i64 c.most, .int .u64 c.uses, .map (some b1), .map (some b2)] 158 (0, 0)) ∧ IsFm obE w b1 c.m c.f ∧ IsFm numE w b2 c.k c.d ∧ b1 ≠ b2
abbrev pA (g : Nat) : Value := .pointer (some ⟨g, 0, none⟩)
def Tri (g b1 b2 : Nat) (k : Nat) : Prop := k = g ∨ k = b1 ∨ k = b2
theorem IsCa.out {S : Nat → Prop} {w w' : World} {g b1 b2 : Nat} {c : Ca} (h : IsCa w g b1 b2 c) (ho : Ou S w w') (h0 : ¬ S g) (h1 : ¬ S b1) (h2 : ¬ S b2) : IsCa w' g b1 b2 c := by
 obtain ⟨e, m1, m2, ne⟩ := h
 exact ⟨by rw [ho.block g (lt_blkC e) h0]; exact e, m1.out ho h1, m2.out ho h2, ne⟩
theorem IsCa.later {w w' : World} {g b1 b2 : Nat} {c : Ca} (h : IsCa w g b1 b2 c) (hb : Below w.heap.size w w') : IsCa w' g b1 b2 c := h.out (S := fun _ => False) (Ou.of hb) id id id
theorem map_ne {α : Type} {E : Enc α} {w : World} {g b m : Nat} {f : Int → Option α} {cs : Array Value} {T : TypeId} {fr : Nat × Nat} (h : w.heap[g]? = some (.cells cs T fr)) (hm : IsFm E w b m f) : g ≠ b := fun e => by
 obtain ⟨D, ⟨es, clock, hb, _⟩, _⟩ := hm
 rw [← e, h] at hb; cases hb
theorem IsCa.cells {w : World} {g b1 b2 : Nat} {c : Ca} (h : IsCa w g b1 b2 c) :
   w.cell? ⟨g, 0, none⟩ = some (.int .i64 c.most) ∧ w.cell? ⟨g, 1, none⟩ = some (.int .u64 c.uses) ∧ w.cell? ⟨g, 2, none⟩ = some (.map (some b1)) ∧ w.cell? ⟨g, 3, none⟩ = some (.map (some b2)) ∧ (∀ o, w.frozen? ⟨g, o, none⟩ = false) ∧ g < w.heap.size ∧ b1 < w.heap.size ∧ b2 < w.heap.size ∧ g ≠ b1 ∧ g ≠ b2 ∧ b1 ≠ b2 := by
 obtain ⟨e, m1, m2, ne⟩ := h
 refine ⟨by simp [World.cell?, e], by simp [World.cell?, e], by simp [World.cell?, e], by simp [World.cell?, e], fun o => by simp [World.frozen?, e], lt_blkC e, m1.lt, m2.lt, map_ne e m1, map_ne e m2, ne⟩
def zOb : Ob := (0, false)
theorem zeroOb (w : World) : (zeroValue 178).run Tryz.prog w = .ok (obE.enc zOb) w := by
 have h : (Tryz.prog.info? 178).map (fun i => i.zero) = some (some (obE.enc zOb)) := by kernel_rfl
 cases hi : Tryz.prog.info? 178 with
 | none => rw [hi] at h; cases h
 | some i => rw [hi] at h; simp at h; simp [zeroValue, typeInfo, hi, h]
theorem zeroNu (w : World) : (zeroValue 3).run Tryz.prog w = .ok (numE.enc 0) w := by
 have h : (Tryz.prog.info? 3).map (fun i => i.zero) = some (some (numE.enc 0)) := by kernel_rfl
 cases hi : Tryz.prog.info? 3 with
 | none => rw [hi] at h; cases h
 | some i => rw [hi] at h; simp at h; simp [zeroValue, typeInfo, hi, h]
abbrev ht1 := Tryz.underlying155
abbrev ht2 := Tryz.underlying156
def Ca.usedAt (c : Ca) (i : Int) : Int := ((c.f i).getD zOb).1
def Ca.dirtyB (c : Ca) (i : Int) : Bool := ((c.f i).getD zOb).2
def Ca.dearN (c : Ca) (i : Int) : Int := (c.d i).getD 0
def Ca.has (c : Ca) (i : Int) : Bool := (c.f i).isSome
theorem obE_at (c : Ca) (i : Int) : obE.enc ((c.f i).getD zOb) = .agg #[.int .u64 (c.usedAt i), .bool (c.dirtyB i)] := rfl
theorem numE_at (c : Ca) (i : Int) : numE.enc ((c.d i).getD 0) = .int .i64 (c.dearN i) := rfl
theorem fieldU (u : Int) (d : Bool) (W : World) : (Instr.field 178 (.agg #[.int .u64 u, .bool d]) 0).run Tryz.prog W = .ok (.int .u64 u) W := by
 simp [Instr.field, run_underlying Tryz.underlying178, asAgg, part, go_sem, Result.andThen]
 try rfl
theorem fieldD (u : Int) (d : Bool) (W : World) : (Instr.field 178 (.agg #[.int .u64 u, .bool d]) 1).run Tryz.prog W = .ok (.bool d) W := by
 simp [Instr.field, run_underlying Tryz.underlying178, asAgg, part, go_sem, Result.andThen]
 try rfl
set_option maxHeartbeats 1000000 in
theorem has_c {w : World} {g b1 b2 : Nat} {c : Ca} (h : IsCa w g b1 b2 c) {i : Int} (h0 : 0 ≤ i) (h1 : i < 4294967296) :
   Calls Tryz.prog 151 #[pA g, .int .u32 i] w fun e w' => e = .returned (.bool (c.has i)) ∧ Below w.heap.size w w' := by
 have LK := h.2.1.lookOk ht1 zeroOb h0 h1
 rw [obE_at] at LK
 obtain ⟨c0, c1, c2, c3, cf, _⟩ := h.cells
 have E : Hid (c.has i = (c.f i).isSome) := hid rfl
 rw [← show c.has i = (c.f i).isSome from rfl] at LK
 generalize c.has i = hb at *
 generalize c.usedAt i = u at *
 generalize c.dirtyB i = dd at *
 clear h cf
 go_enter Tryz.func151, Tryz.ntmps151
 go_wp2
 go_ret
 exact ⟨rfl, (Below.refl _ _).alloc (Nat.le_refl _) _⟩
theorem IsCa.drew {w : World} {g b1 b2 : Nat} {c : Ca} (h : IsCa w g b1 b2 c) : IsCa w.drew g b1 b2 c := h
theorem row_set {w : World} {g : Nat} {arr : Array Value} {T : TypeId} (o : Nat) (v : Value) (h : w.heap[g]? = some (.cells arr T (0, 0))) : (w.setCell ⟨g, o, none⟩ v).heap[g]? = some (.cells (arr.setIfInBounds o v) T (0, 0)) := by
 rw [heap_setCell_same w g o arr T v h]
def Ca.useS (c : Ca) (i : Int) : Ca := ⟨c.most, c.uses + 1, addN c.f i c.m, updF c.f i (some (c.uses + 1, c.dirtyB i)), c.k, c.d⟩
def Ca.markS (c : Ca) (i : Int) (dd : Bool) : Ca := ⟨c.most, c.uses, addN c.f i c.m, updF c.f i (some (c.usedAt i, dd)), c.k, c.d⟩
def Ca.dropS (c : Ca) (i : Int) : Ca := ⟨c.most, c.uses, delN c.f i c.m, updF c.f i none, c.k, c.d⟩
theorem IsCa.turn1 {w w' : World} {g b1 b2 : Nat} {c : Ca} (h : IsCa w g b1 b2 c) {m : Nat} {f : Int → Option Ob} (hm : IsFm obE w' b1 m f) (ht : w.mapTurned w' b1) : IsCa w' g b1 b2 ⟨c.most, c.uses, m, f, c.k, c.d⟩ := by
 have ho : Ou (fun k => k = b1) w w' := Ou.turned ht rfl
 obtain ⟨_, _, _, _, _, _, _, _, n1, n2, n3⟩ := h.cells
 obtain ⟨e, m1, m2, ne⟩ := h
 exact ⟨by rw [ho.block g (lt_blkC e) n1]; exact e, hm, m2.out ho (fun e => ne e.symm), ne⟩
set_option maxHeartbeats 1000000 in
theorem cnew_c (n : Int) (h0 : 1 ≤ n) (h1 : n ≤ 40) (w : World) : Calls Tryz.prog 104 #[.int .i64 n] w fun e w' => e = .returned (pA (w.heap.size + 2)) ∧ IsCa w' (w.heap.size + 2) w.heap.size (w.heap.size + 1) ⟨n, 0, 0, fun _ => none, 0, fun _ => none⟩ ∧ Below w.heap.size w w' := by
 have g1 : ¬ n < 1 := by omega
 have g2 : ¬ 40 < n := by omega
 have d1 : decide (n < 1) = false := decide_eq_false g1
 have d2 : decide (40 < n) = false := decide_eq_false g2
 have hmm := @run_makeMap Tryz.prog
 go_enter Tryz.func104, Tryz.ntmps104
 go_wp2
 go_ret
 have b1 : Below w.heap.size w (w.alloc (.map #[] 0)) := (Below.refl _ _).alloc (Nat.le_refl _) _
 have e1 : (w.alloc (.map #[] 0)).heap.size = w.heap.size + 1 := by simp
 have b2 : Below (w.heap.size + 1) (w.alloc (.map #[] 0)) ((w.alloc (.map #[] 0)).alloc (.map #[] 0)) := by
   have := (Below.refl (w.alloc (.map #[] 0)).heap.size (w.alloc (.map #[] 0))).alloc (Nat.le_refl _) (.map #[] 0)
   rwa [e1] at this
 have e2 : ((w.alloc (.map #[] 0)).alloc (.map #[] 0)).heap.size = w.heap.size + 2 := by simp
 have b3 : Below (w.heap.size + 2) ((w.alloc (.map #[] 0)).alloc (.map #[] 0)) (((w.alloc (.map #[] 0)).alloc (.map #[] 0)).alloc (.cells #[.int .i64 n, .int .u64 0, .map (some w.heap.size), .map (some (w.heap.size + 1))] 158)) := by
   have := (Below.refl ((w.alloc (.map #[] 0)).alloc (.map #[] 0)).heap.size ((w.alloc (.map #[] 0)).alloc (.map #[] 0))).alloc (Nat.le_refl _) (.cells #[.int .i64 n, .int .u64 0, .map (some w.heap.size), .map (some (w.heap.size + 1))] 158)
   rwa [e2] at this
 refine ⟨rfl, ⟨?_, ?_, ?_, by omega⟩, b1.trans ((b2.mono (by omega)).trans (b3.mono (by omega)))⟩
 · have := heap_alloc_new ((w.alloc (.map #[] 0)).alloc (.map #[] 0)) (.cells #[.int .i64 n, .int .u64 0, .map (some w.heap.size), .map (some (w.heap.size + 1))] 158)
   rwa [e2] at this
 · exact ((IsFm.made obE w).out (S := fun _ => False) (Ou.of (by rw [e1]; exact b2)) id).out (S := fun _ => False) (Ou.of (by rw [e2]; exact b3)) id
 · have := IsFm.made numE (w.alloc (.map #[] 0))
   rw [e1] at this
   exact this.out (S := fun _ => False) (Ou.of (by rw [e2]; exact b3)) id
set_option maxHeartbeats 2000000 in
theorem use_c {w : World} {g b1 b2 : Nat} {c : Ca} (h : IsCa w g b1 b2 c) (hu0 : 0 ≤ c.uses) (hu : c.uses < 1000000) (hm : c.m < 1000) {i : Int} (h0 : 0 ≤ i) (h1 : i < 4294967296) :
   Calls Tryz.prog 158 #[pA g, .int .u32 i] w fun e w' => e = .returned (.tuple #[]) ∧ IsCa w' g b1 b2 (c.useS i) ∧ Ou (Tri g b1 b2) w w' := by
 obtain ⟨c0, c1, c2, c3, cf, l0, l1, l2, n1, n2, n3⟩ := h.cells
 have f1 := cf 1
 have o1 : Ou (fun k => k = g) w (w.setCell ⟨g, 1, none⟩ (.int .u64 (c.uses + 1))) := (Ou.refl _ _).set rfl
 have H1 : IsCa (w.setCell ⟨g, 1, none⟩ (.int .u64 (c.uses + 1))) g b1 b2 ⟨c.most, c.uses + 1, c.m, c.f, c.k, c.d⟩ := ⟨row_set 1 _ h.1, h.2.1.out o1 (fun e => n1 e.symm), h.2.2.1.out o1 (fun e => n2 e.symm), n3⟩
 have O1 := hid (o1.mono (T := Tri g b1 b2) fun k e => .inl e)
 have H2 := H1.drew
 obtain ⟨e0, e1, e2, e3, ef, _⟩ := H2.cells
 have LK := H2.2.1.look ht1 zeroOb h0 h1
 rw [show obE.enc (((⟨c.most, c.uses + 1, c.m, c.f, c.k, c.d⟩ : Ca).f i).getD zOb) = .agg #[.int .u64 (c.usedAt i), .bool (c.dirtyB i)] from rfl] at LK
 obtain ⟨w3, SR, IM, MT⟩ := H2.2.1.store hm ht1 h0 h1 (c.uses + 1, c.dirtyB i)
 rw [show obE.enc (c.uses + 1, c.dirtyB i) = .agg #[.int .u64 (c.uses + 1), .bool (c.dirtyB i)] from rfl] at SR
 have R3 : Hid (IsCa w3 g b1 b2 (c.useS i)) := hid (H2.turn1 IM MT)
 have O3 := hid (O1.out.drew.trans ((Ou.turned (S := Tri g b1 b2) MT (.inr (.inl rfl)))))
 have FD := fieldD (c.usedAt i) (c.dirtyB i) (w.setCell ⟨g, 1, none⟩ (.int .u64 (c.uses + 1))).drew
 clear h H1 H2 o1 O1 cf ef IM MT
 generalize hun : c.uses + 1 = un at *
 generalize c.usedAt i = ua at *
 generalize c.dirtyB i = dd at *
 have huw : IntKind.u64.wrap (c.uses + 1) = un := by rw [IntKind.wrap_u64]; omega
 go_enter Tryz.func158, Tryz.ntmps158
 go_wp2_with fail
 go_region
 go_wp2
 exact body_endF (by kernel_rfl) rfl ⟨rfl, R3.out, O3.out⟩
set_option maxHeartbeats 1000000 in
theorem cfault_c {w : World} {g b1 b2 : Nat} {c : Ca} (h : IsCa w g b1 b2 c) {i : Int} (h0 : 0 ≤ i) (h1 : i < 4294967296) :
   Calls Tryz.prog 164 #[pA g, .int .u32 i] w fun e w' => e = .returned (.int .i64 (if c.has i then 0 else 5)) ∧ Below w.heap.size w w' := by
 have HC := hid (has_c h h0 h1)
 clear h
 cases hh : c.has i with
 | true =>
   rw [hh] at HC
   go_enter Tryz.func164, Tryz.ntmps164
   go_wp2_with (go_at_call 151; refine HC.out.mono ?_; rintro _ w1 ⟨rfl, hb⟩)
   go_ret
   exact ⟨rfl, hb⟩
 | false =>
   rw [hh] at HC
   go_enter Tryz.func164, Tryz.ntmps164
   go_wp2_with (go_at_call 151; refine HC.out.mono ?_; rintro _ w1 ⟨rfl, hb⟩)
   go_ret
   exact ⟨rfl, hb⟩
def Ca.touchS (c : Ca) (i : Int) : Ca := if c.has i then c.useS i else c
set_option maxHeartbeats 1000000 in
theorem touch_c {w : World} {g b1 b2 : Nat} {c : Ca} (h : IsCa w g b1 b2 c) (hu0 : 0 ≤ c.uses) (hu : c.uses < 1000000) (hm : c.m < 1000) {i : Int} (h0 : 0 ≤ i) (h1 : i < 4294967296) :
   Calls Tryz.prog 124 #[pA g, .int .u32 i] w fun e w' => e = .returned (.bool (c.has i)) ∧ IsCa w' g b1 b2 (c.touchS i) ∧ Ou (Tri g b1 b2) w w' := by
 have HC := hid (has_c h h0 h1)
 have H := hid h
 unfold Ca.touchS
 cases hh : c.has i with
 | true =>
   rw [hh] at HC
   clear h
   go_enter Tryz.func124, Tryz.ntmps124
   go_wp2_with (first
     | (go_at_call 158; have UC := use_c H1.out hu0 hu hm h0 h1; refine UC.mono ?_; rintro _ w2 ⟨rfl, h2, o2⟩)
     | (go_at_call 151; refine HC.out.mono ?_; rintro _ w1 ⟨rfl, hb⟩; have H1 := hid (H.out.later hb); have B1 := hid hb; clear hb))
   go_ret
   exact ⟨rfl, h2, (Ou.of B1.out).trans o2⟩
 | false =>
   rw [hh] at HC
   clear h
   go_enter Tryz.func124, Tryz.ntmps124
   go_wp2_with (go_at_call 151; refine HC.out.mono ?_; rintro _ w1 ⟨rfl, hb⟩)
   go_ret
   exact ⟨rfl, H.out.later hb, Ou.of hb⟩
end Go.Proofs.YtfmghbennahlfaaGreat
namespace Go.Proofs.YtfmghbennahlfaaGreat
open Go.RowKit Go.ChangeShapes Go.WideShapes Go.ChangeAt Go.Maps Go.Shelf
set_option linter.unusedVariables false
set_option linter.unusedSimpArgs false
set_option maxRecDepth 100000
def ca0 : Ca := ⟨12, 0, 0, fun _ => none, 0, fun _ => none⟩
set_option maxHeartbeats 2000000 in
theorem emptyHand_c (w : World) : Calls Tryz.prog 53 #[] w fun e w' => ∃ cb cm ch, e = .returned (.agg #[pA cb, .bool false]) ∧ IsCa w' cb cm ch ca0 ∧ w.heap.size ≤ cb ∧ w.heap.size ≤ cm ∧ w.heap.size ≤ ch ∧ Below w.heap.size w w' := by
 have NC := hid (fun W => cnew_c 12 (by decide) (by decide) W)
 have b1 := below_1 w (.cells #[.pointer none, .bool false] 72)
 have hR := heap_alloc_new w (.cells #[.pointer none, .bool false] 72)
 have B1 := hid b1
 have SZ : Hid ((w.alloc (.cells #[.pointer none, .bool false] 72)).heap.size = w.heap.size + 1) := hid (by simp)
 have HR : Hid (∀ W, Below (w.alloc (.cells #[.pointer none, .bool false] 72)).heap.size (w.alloc (.cells #[.pointer none, .bool false] 72)) W → W.heap[w.heap.size]? = some (.cells #[.pointer none, .bool false] 72 (0, 0))) := hid (fun W h => (h.block _ (lt_blkR hR)).trans hR)
 clear b1 hR
 go_enter Tryz.func53, Tryz.ntmps53
 go_wp2_with (go_at_call 104; refine (NC.out _).mono ?_; rintro _ w1 ⟨rfl, hc1, hb1⟩; have D1 := hid hb1; have C1 := hid hc1; have R1 := HR.out _ hb1; have r0 : w1.cell? ⟨w.heap.size, 0, none⟩ = some (.pointer none) := cell_of_row2 R1 0 rfl; have r1 : w1.cell? ⟨w.heap.size, 1, none⟩ = some (.bool false) := cell_of_row2 R1 1 rfl; have fz : ∀ i, w1.frozen? ⟨w.heap.size, i, none⟩ = false := fun i => (by simp [World.frozen?, R1]); clear hc1 hb1)
 have sz := SZ.out
 have C1' := C1.out
 rw [sz] at C1'
 have hN := two_cells R1 (pA (w.heap.size + 1 + 2)) (.bool false)
 have hO : Ou (fun k => k = w.heap.size) w1 ((w1.setCell ⟨w.heap.size, 0, none⟩ (pA (w.heap.size + 1 + 2))).setCell ⟨w.heap.size, 1, none⟩ (.bool false)) := ⟨rfl, rfl, rfl, by simp, fun k _ hk => by rw [heap_setCell_other _ _ k _ hk, heap_setCell_other _ _ k _ hk]⟩
 have C9 := hid (C1'.out hO (by show w.heap.size + 1 + 2 ≠ _; omega) (by show w.heap.size + 1 ≠ _; omega) (by show w.heap.size + 1 + 1 ≠ _; omega))
 have B9 := hid (((B1.out.trans (D1.out.mono B1.out.size)).setCell (p := ⟨w.heap.size, 0, none⟩) (Nat.le_refl _) (pA (w.heap.size + 1 + 2))).setCell (p := ⟨w.heap.size, 1, none⟩) (Nat.le_refl _) (.bool false))
 clear r0 r1 fz R1 hO C1'
 generalize ((w1.setCell ⟨w.heap.size, 0, none⟩ (pA (w.heap.size + 1 + 2))).setCell ⟨w.heap.size, 1, none⟩ (.bool false)) = W9 at *
 have r0 : W9.cell? ⟨w.heap.size, 0, none⟩ = some (pA (w.heap.size + 1 + 2)) := cell_of_row2 hN 0 rfl
 have r1 : W9.cell? ⟨w.heap.size, 1, none⟩ = some (.bool false) := cell_of_row2 hN 1 rfl
 refine bodyPost_ret (v := .agg #[pA (w.heap.size + 1 + 2), .bool false]) (by simp [results, Tryz.results53, go_sem, r0, r1]) rfl ⟨_, _, _, rfl, C9.out, by omega, by omega, by omega, B9.out⟩
theorem copen_bad (num : Int) (x : Value) (h : num < 1 ∨ 3 < num) (w : World) : Calls Tryz.prog 23 #[.int .u8 num, x] w fun e w' => e = .returned (.pointer none) ∧ w' = w := by
 by_cases h1 : num < 1
 · go_enter Tryz.func23, Tryz.ntmps23
   go_wp2
   go_ret
   exact ⟨rfl, rfl⟩
 · have h3 : 3 < num := by omega
   go_enter Tryz.func23, Tryz.ntmps23
   go_wp2
   go_ret
   exact ⟨rfl, rfl⟩
set_option maxHeartbeats 2000000 in
theorem copen_none {w : World} {x : Value} (hx : ∃ p, x = .pointer p) (num : Int) (h1 : 1 ≤ num) (h3 : num ≤ 3) (OC : Calls Tryz.prog 52 #[x] w fun e w' => e = .returned (.pointer none) ∧ Below w.heap.size w w') :
   Calls Tryz.prog 23 #[.int .u8 num, x] w fun e w' => e = .returned (.pointer none) ∧ Below w.heap.size w w' := by
 obtain ⟨p0, rfl⟩ := hx
 have OH := hid OC
 clear OC
 have n1 : ¬ num < 1 := by omega
 have n3 : ¬ 3 < num := by omega
 go_enter Tryz.func23, Tryz.ntmps23
 go_wp2_with (go_at_call 52; refine OH.out.mono ?_; rintro _ w1 ⟨rfl, hb1⟩; have B1 := hid hb1; clear hb1)
 go_ret
 exact ⟨rfl, B1.out⟩
set_option maxHeartbeats 4000000 in
theorem copen_c {w : World} {x : Value} (hx : ∃ p, x = .pointer p) (num : Int) (n0 : 1 ≤ num) (n9 : num ≤ 3) (J : World → Nat → Prop)
   (OC : Calls Tryz.prog 52 #[x] w fun e w' => ∃ j, e = .returned (pB j) ∧ J w' j ∧ Below w.heap.size w w')
   (GC : ∀ W W' j, J W j → Below W.heap.size W W' → Calls Tryz.prog 105 #[pB j] W' fun e w' => ∃ v, e = .returned v ∧ PGs W'.heap.size w' v [] ∧ Below W'.heap.size W' w') :
   Calls Tryz.prog 23 #[.int .u8 num, x] w fun e w' => ∃ (j cb cm ch g s p : Nat) (W1 : World), e = .returned (.pointer (some ⟨p, 0, none⟩)) ∧ J W1 j ∧ Below W1.heap.size W1 w' ∧ w.heap.size ≤ W1.heap.size ∧ W1.heap.size ≤ p ∧ W1.heap.size ≤ g ∧ W1.heap.size ≤ s ∧ W1.heap.size ≤ cb ∧ W1.heap.size ≤ cm ∧ W1.heap.size ≤ ch ∧ w'.heap[p]? = some (.cells #[.int .u8 num, pB j, pA cb, .bool false, .slice (some ⟨g, 0, none⟩) 1 1, .slice (some ⟨s, 0, none⟩) 1 1, .slice none 0 0, .int .i64 0, .int .u32 0, .int .u32 1, .slice none 0 0] 79 (0, 0)) ∧ w'.heap[g]? = some (.cells #[.int .u32 1, .int .u8 2, .int .u16 0, .int .u16 0, .slice none 0 0, .slice none 0 0] 40 (0, 0)) ∧ w'.heap[s]? = some (.cells #[.int .u32 1, .int .u64 1, .int .u8 0] 200 (0, 0)) ∧ IsCa w' cb cm ch ca0 ∧ Below w.heap.size w w' := by
 obtain ⟨p0, rfl⟩ := hx
 have OH := hid OC
 have GH := hid GC
 have EH := hid (fun W => emptyHand_c W)
 clear OC GC
 have n1 : ¬ num < 1 := by omega
 have n3 : ¬ 3 < num := by omega
 go_enter Tryz.func23, Tryz.ntmps23
 go_upto_region 7 with (go_at_call 52; refine OH.out.mono ?_; rintro _ w1 ⟨j, rfl, hj1, hb1⟩; have J1 := hid hj1; have B1 := hid hb1; clear hj1 hb1)
 have b2 := below_1 w1 (.cells #[pB j] 69)
 have hK := heap_alloc_new w1 (.cells #[pB j] 69)
 have B2 := hid (B1.out.trans (b2.mono B1.out.size))
 have A2 := hid b2
 have JG := hid (fun W' (h : Below w1.heap.size w1 W') => GH.out w1 W' j J1.out h)
 generalize w1.alloc (.cells #[pB j] 69) = V at *
 obtain ⟨K1, HK1⟩ : ∃ K1, Hid (K1 = w1.heap.size) := ⟨_, hid rfl⟩
 generalize hkb : w1.heap.size = kb at *
 have KB := hid hkb
 clear hkb
 have LV : Hid (kb < V.heap.size) := hid (lt_blkR hK)
 have D1 := hid (Below.drew (Below.refl V.heap.size V))
 have HK : Hid (∀ W, Below V.heap.size V W → W.heap[kb]? = some (.cells #[pB j] 69 (0, 0))) := hid (fun W h => (h.block _ (lt_blkR hK)).trans hK)
 have GK := hid (fun W (hW : Below V.heap.size V W) => kept_c (w := W) (j := j) num (hid (fun X hX => JG.out X (A2.out.trans ((hW.trans (hX.mono hW.size)).mono (Nat.le_of_lt LV.out))))))
 have O0 : ∀ w' : World, w'.heap[kb]? = some (.cells #[pB j] 69 (0, 0)) → w'.cell? ⟨kb, 0, none⟩ = some (pB j) := fun w' h => cell_of_row2 h 0 rfl
 clear hK b2
 go_wp2_with fail
 refine wp_region_held_drew (S := fun w' => w'.heap[kb]? = some (.cells #[pB j] 69 (0, 0))) (by kernel_rfl) (HK.out _ D1.out) (fun hHeld => ?_)
 refine take_l 0 (v := ?_) rfl (by kernel_rfl) (by kernel_rfl) (by kernel_rfl) (fun _ _ _ h => h) (Or.inl ⟨by rfl, ?_⟩) (by assumption) ?_
 rotate_left
 · (intro w' hSw; clear hSw; go_simp; first | done | with_reducible rfl)
 try simp only [Act.put, List.setIfInBounds_toArray, List.set_cons_zero, List.set_cons_succ]
 refine take_l 1 (v := ?_) rfl (by kernel_rfl) (by kernel_rfl) (by kernel_rfl) (fun _ _ _ h => h) (Or.inl ⟨by rfl, ?_⟩) (by assumption) ?_
 rotate_left
 · (intro w' hSw; (have k0 := O0 _ hSw); clear hSw; go_simp; first | done | with_reducible rfl)
 try simp only [Act.put, List.setIfInBounds_toArray, List.set_cons_zero, List.set_cons_succ]
 refine take_l 3 (v := ?_) rfl (by kernel_rfl) (by kernel_rfl) (by kernel_rfl) (fun _ _ _ h => h) (Or.inl ⟨by rfl, ?_⟩) (by assumption) ?_
 rotate_left
 · (intro w' hSw; (have k0 := O0 _ hSw); clear hSw; go_simp; first | done | with_reducible rfl)
 try simp only [Act.put, List.setIfInBounds_toArray, List.set_cons_zero, List.set_cons_succ]
 refine take_l 4 (v := ?_) rfl (by kernel_rfl) (by kernel_rfl) (by kernel_rfl) (fun _ _ _ h => h) (Or.inl ⟨by rfl, ?_⟩) (by assumption) ?_
 rotate_left
 · (intro w' hSw; clear hSw; go_simp; first | done | with_reducible rfl)
 try simp only [Act.put, List.setIfInBounds_toArray, List.set_cons_zero, List.set_cons_succ]
 refine cons_l 2 rfl (by kernel_rfl) (fun K hK => ?_)
 go_simp
 refine (EH.out _).mono ?_; rintro _ w2 ⟨cb, cm, ch, rfl, hc2, c1, c2, c3, hb2⟩
 have D2 := hid (D1.out.trans (hb2.mono D1.out.size))
 have C2 := hid hc2
 have L1 := hid (Nat.le_trans D1.out.size c1)
 have L2 := hid (Nat.le_trans D1.out.size c2)
 have L3 := hid (Nat.le_trans D1.out.size c3)
 clear hc2 c1 c2 c3 hb2
 go_simp
 refine hK.out _ _ (HK.out _ D2.out) (fun hHeld => ?_)
 clear hK K
 try simp only [Act.put, List.setIfInBounds_toArray, List.set_cons_zero, List.set_cons_succ]
 refine cons_l 5 rfl (by kernel_rfl) (fun K hK => ?_)
 go_simp
 refine (GK.out _ D2.out).mono ?_; rintro _ w3 ⟨g, s, rfl, hg, hs, rg, rs, hb3⟩
 have D3 := hid (D2.out.trans (hb3.mono D2.out.size))
 have C3 := hid (C2.out.later hb3)
 have HG := hid (Nat.le_trans D2.out.size hg)
 have HS := hid (Nat.le_trans D2.out.size hs)
 have RG := hid rg
 have RS := hid rs
 clear hg hs rg rs hb3
 go_simp
 refine hK.out _ _ (HK.out _ D3.out) (fun hHeld => ?_)
 clear hK K
 try simp only [Act.put, List.setIfInBounds_toArray, List.set_cons_zero, List.set_cons_succ]
 refine take_l 6 (v := ?_) rfl (by kernel_rfl) (by kernel_rfl) (by kernel_rfl) (fun _ _ _ h => h) (Or.inl ⟨by rfl, ?_⟩) (by assumption) ?_
 rotate_left
 · (intro w' hSw; clear hSw; go_simp; first | done | with_reducible rfl)
 try simp only [Act.put, List.setIfInBounds_toArray, List.set_cons_zero, List.set_cons_succ]
 refine cons_l 7 rfl (by kernel_rfl) (fun K hK => ?_)
 go_simp
 have b4 := below_1 w3 (.cells #[.int .u8 num, pB j, pA cb, .bool false, .slice (some ⟨g, 0, none⟩) 1 1, .slice (some ⟨s, 0, none⟩) 1 1, .slice none 0 0, .int .i64 0, .int .u32 0, .int .u32 1, .slice none 0 0] 79)
 have N4 := hid (heap_alloc_new w3 (.cells #[.int .u8 num, pB j, pA cb, .bool false, .slice (some ⟨g, 0, none⟩) 1 1, .slice (some ⟨s, 0, none⟩) 1 1, .slice none 0 0, .int .i64 0, .int .u32 0, .int .u32 1, .slice none 0 0] 79))
 have D4 := hid (D3.out.trans (b4.mono D3.out.size))
 have C4 := hid (C3.out.later b4)
 have RG4 := hid ((b4.block _ (lt_blkR RG.out)).trans RG.out)
 have RS4 := hid ((b4.block _ (lt_blkR RS.out)).trans RS.out)
 have P4 := hid D3.out.size
 have B9 := hid (B2.out.trans (D4.out.mono B2.out.size))
 have A9 := hid (A2.out.trans (D4.out.mono (Nat.le_of_lt LV.out)))
 refine hK.out _ _ (HK.out _ D4.out) (fun hHeld => ?_)
 clear hK K
 try simp only [Act.put, List.setIfInBounds_toArray, List.set_cons_zero, List.set_cons_succ]
 refine take_l 8 (v := ?_) rfl (by kernel_rfl) (by kernel_rfl) (by kernel_rfl) (fun _ _ _ h => h) (Or.inl ⟨by rfl, ?_⟩) (by assumption) ?_
 rotate_left
 · (intro w' hSw; clear hSw; go_simp; first | done | with_reducible rfl)
 try simp only [Act.put, List.setIfInBounds_toArray, List.set_cons_zero, List.set_cons_succ]
 refine wpAnyH_done (by kernel_rfl) ?_ _
 clear hHeld O0 b4
 go_wp2
 go_ret
 have lv := LV.out
 have l1 := L1.out
 have l2 := L2.out
 have l3 := L3.out
 have p4 := P4.out
 have hg := HG.out
 have hs := HS.out
 have kb1 := KB.out
 refine ⟨j, cb, cm, ch, g, s, _, w1, rfl, J1.out, ?_, B1.out.size, by omega, by omega, by omega, by omega, by omega, by omega, N4.out, RG4.out, RS4.out, C4.out, B9.out⟩
 rw [kb1]
 exact A9.out
end Go.Proofs.YtfmghbennahlfaaGreat
