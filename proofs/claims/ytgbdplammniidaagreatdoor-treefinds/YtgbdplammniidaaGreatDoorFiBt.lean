/-
  The length in bits of a number up to 40.
  breakPatternsOrdered of a part of a row of fids.
-/
import Derived.Test.YtgbdplammniidaaGreatDoorFiAa
import Derived.Test.YtgbdplammniidaaGreatDoorFiBq
import Derived.Deep.CutRange
namespace Go.Proofs.YtgbdplammniidaaGreatDoor
open Go.RowKit Go.ChangeShapes Go.WideShapes Go.ChangeAt
set_option linter.unusedVariables false
set_option linter.unusedSimpArgs false
set_option maxRecDepth 100000
set_option maxHeartbeats 4000000 in
theorem len64_40 (n : Nat) (hn : n ≤ 40) (w : World) : Calls Tryz.prog 130 #[.int .u64 n] w fun e w' => (∃ v : Nat, e = .returned (.int .i64 v) ∧ v ≤ 6 ∧ (n = 0 ∨ 2 ^ v ≤ 2 * n)) ∧ w' = w := by
 obtain h | h | h | h | h | h | h | h | h | h | h | h | h | h | h | h | h | h | h | h | h | h | h | h | h | h | h | h | h | h | h | h | h | h | h | h | h | h | h | h | h : n = 0 ∨ n = 1 ∨ n = 2 ∨ n = 3 ∨ n = 4 ∨ n = 5 ∨ n = 6 ∨ n = 7 ∨ n = 8 ∨ n = 9 ∨ n = 10 ∨ n = 11 ∨ n = 12 ∨ n = 13 ∨ n = 14 ∨ n = 15 ∨ n = 16 ∨ n = 17 ∨ n = 18 ∨ n = 19 ∨ n = 20 ∨ n = 21 ∨ n = 22 ∨ n = 23 ∨ n = 24 ∨ n = 25 ∨ n = 26 ∨ n = 27 ∨ n = 28 ∨ n = 29 ∨ n = 30 ∨ n = 31 ∨ n = 32 ∨ n = 33 ∨ n = 34 ∨ n = 35 ∨ n = 36 ∨ n = 37 ∨ n = 38 ∨ n = 39 ∨ n = 40 := by omega
 · subst h
   clear hn
   go_enter Tryz.func130, Tryz.ntmps130
   go_wp2
   go_ret
   exact ⟨⟨0, by kernel_rfl, by omega, by decide⟩, rfl⟩
 · subst h
   clear hn
   go_enter Tryz.func130, Tryz.ntmps130
   go_wp2
   go_ret
   exact ⟨⟨1, by kernel_rfl, by omega, by decide⟩, rfl⟩
 · subst h
   clear hn
   go_enter Tryz.func130, Tryz.ntmps130
   go_wp2
   go_ret
   exact ⟨⟨2, by kernel_rfl, by omega, by decide⟩, rfl⟩
 · subst h
   clear hn
   go_enter Tryz.func130, Tryz.ntmps130
   go_wp2
   go_ret
   exact ⟨⟨2, by kernel_rfl, by omega, by decide⟩, rfl⟩
 · subst h
   clear hn
   go_enter Tryz.func130, Tryz.ntmps130
   go_wp2
   go_ret
   exact ⟨⟨3, by kernel_rfl, by omega, by decide⟩, rfl⟩
 · subst h
   clear hn
   go_enter Tryz.func130, Tryz.ntmps130
   go_wp2
   go_ret
   exact ⟨⟨3, by kernel_rfl, by omega, by decide⟩, rfl⟩
 · subst h
   clear hn
   go_enter Tryz.func130, Tryz.ntmps130
   go_wp2
   go_ret
   exact ⟨⟨3, by kernel_rfl, by omega, by decide⟩, rfl⟩
 · subst h
   clear hn
   go_enter Tryz.func130, Tryz.ntmps130
   go_wp2
   go_ret
   exact ⟨⟨3, by kernel_rfl, by omega, by decide⟩, rfl⟩
 · subst h
   clear hn
   go_enter Tryz.func130, Tryz.ntmps130
   go_wp2
   go_ret
   exact ⟨⟨4, by kernel_rfl, by omega, by decide⟩, rfl⟩
 · subst h
   clear hn
   go_enter Tryz.func130, Tryz.ntmps130
   go_wp2
   go_ret
   exact ⟨⟨4, by kernel_rfl, by omega, by decide⟩, rfl⟩
 · subst h
   clear hn
   go_enter Tryz.func130, Tryz.ntmps130
   go_wp2
   go_ret
   exact ⟨⟨4, by kernel_rfl, by omega, by decide⟩, rfl⟩
 · subst h
   clear hn
   go_enter Tryz.func130, Tryz.ntmps130
   go_wp2
   go_ret
   exact ⟨⟨4, by kernel_rfl, by omega, by decide⟩, rfl⟩
 · subst h
   clear hn
   go_enter Tryz.func130, Tryz.ntmps130
   go_wp2
   go_ret
   exact ⟨⟨4, by kernel_rfl, by omega, by decide⟩, rfl⟩
 · subst h
   clear hn
   go_enter Tryz.func130, Tryz.ntmps130
   go_wp2
   go_ret
   exact ⟨⟨4, by kernel_rfl, by omega, by decide⟩, rfl⟩
 · subst h
   clear hn
   go_enter Tryz.func130, Tryz.ntmps130
   go_wp2
   go_ret
   exact ⟨⟨4, by kernel_rfl, by omega, by decide⟩, rfl⟩
 · subst h
   clear hn
   go_enter Tryz.func130, Tryz.ntmps130
   go_wp2
   go_ret
   exact ⟨⟨4, by kernel_rfl, by omega, by decide⟩, rfl⟩
 · subst h
   clear hn
   go_enter Tryz.func130, Tryz.ntmps130
   go_wp2
   go_ret
   exact ⟨⟨5, by kernel_rfl, by omega, by decide⟩, rfl⟩
 · subst h
   clear hn
   go_enter Tryz.func130, Tryz.ntmps130
   go_wp2
   go_ret
   exact ⟨⟨5, by kernel_rfl, by omega, by decide⟩, rfl⟩
 · subst h
   clear hn
   go_enter Tryz.func130, Tryz.ntmps130
   go_wp2
   go_ret
   exact ⟨⟨5, by kernel_rfl, by omega, by decide⟩, rfl⟩
 · subst h
   clear hn
   go_enter Tryz.func130, Tryz.ntmps130
   go_wp2
   go_ret
   exact ⟨⟨5, by kernel_rfl, by omega, by decide⟩, rfl⟩
 · subst h
   clear hn
   go_enter Tryz.func130, Tryz.ntmps130
   go_wp2
   go_ret
   exact ⟨⟨5, by kernel_rfl, by omega, by decide⟩, rfl⟩
 · subst h
   clear hn
   go_enter Tryz.func130, Tryz.ntmps130
   go_wp2
   go_ret
   exact ⟨⟨5, by kernel_rfl, by omega, by decide⟩, rfl⟩
 · subst h
   clear hn
   go_enter Tryz.func130, Tryz.ntmps130
   go_wp2
   go_ret
   exact ⟨⟨5, by kernel_rfl, by omega, by decide⟩, rfl⟩
 · subst h
   clear hn
   go_enter Tryz.func130, Tryz.ntmps130
   go_wp2
   go_ret
   exact ⟨⟨5, by kernel_rfl, by omega, by decide⟩, rfl⟩
 · subst h
   clear hn
   go_enter Tryz.func130, Tryz.ntmps130
   go_wp2
   go_ret
   exact ⟨⟨5, by kernel_rfl, by omega, by decide⟩, rfl⟩
 · subst h
   clear hn
   go_enter Tryz.func130, Tryz.ntmps130
   go_wp2
   go_ret
   exact ⟨⟨5, by kernel_rfl, by omega, by decide⟩, rfl⟩
 · subst h
   clear hn
   go_enter Tryz.func130, Tryz.ntmps130
   go_wp2
   go_ret
   exact ⟨⟨5, by kernel_rfl, by omega, by decide⟩, rfl⟩
 · subst h
   clear hn
   go_enter Tryz.func130, Tryz.ntmps130
   go_wp2
   go_ret
   exact ⟨⟨5, by kernel_rfl, by omega, by decide⟩, rfl⟩
 · subst h
   clear hn
   go_enter Tryz.func130, Tryz.ntmps130
   go_wp2
   go_ret
   exact ⟨⟨5, by kernel_rfl, by omega, by decide⟩, rfl⟩
 · subst h
   clear hn
   go_enter Tryz.func130, Tryz.ntmps130
   go_wp2
   go_ret
   exact ⟨⟨5, by kernel_rfl, by omega, by decide⟩, rfl⟩
 · subst h
   clear hn
   go_enter Tryz.func130, Tryz.ntmps130
   go_wp2
   go_ret
   exact ⟨⟨5, by kernel_rfl, by omega, by decide⟩, rfl⟩
 · subst h
   clear hn
   go_enter Tryz.func130, Tryz.ntmps130
   go_wp2
   go_ret
   exact ⟨⟨5, by kernel_rfl, by omega, by decide⟩, rfl⟩
 · subst h
   clear hn
   go_enter Tryz.func130, Tryz.ntmps130
   go_wp2
   go_ret
   exact ⟨⟨6, by kernel_rfl, by omega, by decide⟩, rfl⟩
 · subst h
   clear hn
   go_enter Tryz.func130, Tryz.ntmps130
   go_wp2
   go_ret
   exact ⟨⟨6, by kernel_rfl, by omega, by decide⟩, rfl⟩
 · subst h
   clear hn
   go_enter Tryz.func130, Tryz.ntmps130
   go_wp2
   go_ret
   exact ⟨⟨6, by kernel_rfl, by omega, by decide⟩, rfl⟩
 · subst h
   clear hn
   go_enter Tryz.func130, Tryz.ntmps130
   go_wp2
   go_ret
   exact ⟨⟨6, by kernel_rfl, by omega, by decide⟩, rfl⟩
 · subst h
   clear hn
   go_enter Tryz.func130, Tryz.ntmps130
   go_wp2
   go_ret
   exact ⟨⟨6, by kernel_rfl, by omega, by decide⟩, rfl⟩
 · subst h
   clear hn
   go_enter Tryz.func130, Tryz.ntmps130
   go_wp2
   go_ret
   exact ⟨⟨6, by kernel_rfl, by omega, by decide⟩, rfl⟩
 · subst h
   clear hn
   go_enter Tryz.func130, Tryz.ntmps130
   go_wp2
   go_ret
   exact ⟨⟨6, by kernel_rfl, by omega, by decide⟩, rfl⟩
 · subst h
   clear hn
   go_enter Tryz.func130, Tryz.ntmps130
   go_wp2
   go_ret
   exact ⟨⟨6, by kernel_rfl, by omega, by decide⟩, rfl⟩
 · subst h
   clear hn
   go_enter Tryz.func130, Tryz.ntmps130
   go_wp2
   go_ret
   exact ⟨⟨6, by kernel_rfl, by omega, by decide⟩, rfl⟩
theorem len_40 (n : Nat) (hn : n ≤ 40) (w : World) : Calls Tryz.prog 107 #[.int .u64 n] w fun e w' => (∃ v : Nat, e = .returned (.int .i64 v) ∧ v ≤ 6 ∧ (n = 0 ∨ 2 ^ v ≤ 2 * n)) ∧ w' = w := by
 go_enter Tryz.func107, Tryz.ntmps107
 go_wp2_with (go_at_call 130; refine (len64_40 n hn _).mono ?_; rintro _ w1 ⟨⟨v, rfl, hv, hv2⟩, h1⟩; rw [h1])
 go_ret
 exact ⟨⟨_, rfl, hv, hv2⟩, rfl⟩
end Go.Proofs.YtgbdplammniidaaGreatDoor
namespace Go.Proofs.YtgbdplammniidaaGreatDoor
open Go.RowKit Go.ChangeShapes Go.WideShapes Go.ChangeAt
set_option linter.unusedVariables false
set_option linter.unusedSimpArgs false
set_option maxRecDepth 100000
open Go.Sort (ltInt)
theorem and_le (x : Int) (m : Nat) (hm : m < 64) : ∃ o : Nat, bits BinOp.and IntKind.u64 x (m : Int) = (o : Int) ∧ o ≤ m := by
 refine ⟨(BitVec.ofInt 64 x &&& BitVec.ofInt 64 (m : Int)).toNat, ?_, ?_⟩
 · have h : (BitVec.ofInt 64 x &&& BitVec.ofInt 64 (m : Int)).toNat < 2 ^ 64 := BitVec.isLt _
   show IntKind.wrap IntKind.u64 ((BitVec.ofInt 64 x &&& BitVec.ofInt 64 (m : Int)).toNat : Int) = _
   generalize (BitVec.ofInt 64 x &&& BitVec.ofInt 64 (m : Int)).toNat = y at *
   rw [IntKind.wrap_u64]
   omega
 · rw [BitVec.toNat_and]
   refine Nat.le_trans Nat.and_le_right ?_
   rw [BitVec.toNat_ofInt]
   omega
set_option maxHeartbeats 1000000 in
theorem npow_c (n : Nat) (h0 : 1 ≤ n) (hn : n ≤ 40) (w : World) : Calls Tryz.prog 137 #[.int .i64 n] w fun e w' => (∃ m : Nat, e = .returned (.int .u64 m) ∧ 1 ≤ m ∧ m ≤ 2 * n ∧ m ≤ 64) ∧ w' = w := by
 have LC := hid (fun W => len_40 n hn W)
 go_enter Tryz.func137, Tryz.ntmps137
 go_wp2_with (go_at_call 107; refine (LC.out _).mono ?_; rintro _ w1 ⟨⟨v, rfl, hv, hv2⟩, h1⟩; rw [h1]; obtain rfl | rfl | rfl | rfl | rfl | rfl | rfl : v = 0 ∨ v = 1 ∨ v = 2 ∨ v = 3 ∨ v = 4 ∨ v = 5 ∨ v = 6 := (by omega))
 · go_ret
   exact ⟨⟨1, by kernel_rfl, by omega, by omega, by omega⟩, rfl⟩
 · go_ret
   exact ⟨⟨2, by kernel_rfl, by omega, by omega, by omega⟩, rfl⟩
 · go_ret
   exact ⟨⟨4, by kernel_rfl, by omega, by omega, by omega⟩, rfl⟩
 · go_ret
   exact ⟨⟨8, by kernel_rfl, by omega, by omega, by omega⟩, rfl⟩
 · go_ret
   exact ⟨⟨16, by kernel_rfl, by omega, by omega, by omega⟩, rfl⟩
 · go_ret
   exact ⟨⟨32, by kernel_rfl, by omega, by omega, by omega⟩, rfl⟩
 · go_ret
   exact ⟨⟨64, by kernel_rfl, by omega, by omega, by omega⟩, rfl⟩
def Xq (w : World) (q : Nat) (x : Int) : Prop := w.heap[q]? = some (.cells #[.int .u64 x] 161 (0, 0))
theorem Xq.cell {w : World} {q : Nat} {x : Int} (h : Xq w q x) : w.cell? ⟨q, 0, none⟩ = some (.int .u64 x) ∧ w.frozen? ⟨q, 0, none⟩ = false := by
 unfold Xq at h
 constructor
 · simp [World.cell?, h]
 · simp [World.frozen?, h]
theorem Xq.set {w : World} {q : Nat} {x y : Int} (h : Xq w q x) : Xq (w.setCell ⟨q, 0, none⟩ (.int .u64 y)).drew q y := by
 unfold Xq at *
 simp only [World.setCell, World.drew]
 rw [Array.getElem?_modify, if_pos rfl, h]
 rfl
theorem Xq.swp2 {w : World} {q g i j : Nat} {z : Int} {x y : Value} (h : Xq w q z) (hg : ¬ q = g) : Xq ((w.setCell ⟨g, i, none⟩ x).setCell ⟨g, j, none⟩ y).drew q z := by
 unfold Xq at *
 show ((w.setCell ⟨g, i, none⟩ x).setCell ⟨g, j, none⟩ y).heap[q]? = _
 rw [heap_setCell_other _ _ _ _ (by omega), heap_setCell_other _ _ _ _ (by omega)]
 exact h
theorem Ou.swp2 {w w0 : World} {g q i j : Nat} {x y : Value} (h : Ou (fun k => k = g ∨ k = q) w0 w) : Ou (fun k => k = g ∨ k = q) w0 ((w.setCell ⟨g, i, none⟩ x).setCell ⟨g, j, none⟩ y).drew := ((h.set (.inl rfl)).set (.inl rfl)).drew
set_option maxHeartbeats 1000000 in
theorem xnext_c (q : Nat) (x : Int) (w : World) (h : Xq w q x) : Calls Tryz.prog 138 #[.pointer (some ⟨q, 0, none⟩)] w fun e w' => ∃ y : Int, e = .returned (.int .u64 y) ∧ Xq w' q y ∧ Ou (fun k => k = q) w w' := by
 have H0 := hid h
 have O0 : Hid (Ou (fun k => k = q) w w) := hid (Ou.refl _ _)
 obtain ⟨c1, z1⟩ := h.cell
 clear h
 go_enter Tryz.func138, Tryz.ntmps138
 go_wp2_with fail
 go_region
 generalize bits BinOp.xor IntKind.u64 x _ = y1
 have H1 := hid (H0.out.set (y := y1))
 have O1 := hid ((O0.out.set (o := 0) (v := .int .u64 y1) rfl).drew)
 clear c1 z1 H0 O0
 generalize (World.setCell w _ _).drew = w1 at *
 obtain ⟨c1, z1⟩ := H1.out.cell
 go_wp2_with fail
 go_region
 generalize bits BinOp.xor IntKind.u64 y1 _ = y2
 have H2 := hid (H1.out.set (y := y2))
 have O2 := hid ((O1.out.set (o := 0) (v := .int .u64 y2) rfl).drew)
 clear c1 z1 H1 O1
 generalize (World.setCell w1 _ _).drew = w2 at *
 obtain ⟨c1, z1⟩ := H2.out.cell
 go_wp2_with fail
 go_region
 generalize bits BinOp.xor IntKind.u64 y2 _ = y3
 have H3 := hid (H2.out.set (y := y3))
 have O3 := hid ((O2.out.set (o := 0) (v := .int .u64 y3) rfl).drew)
 clear c1 z1 H2 O2
 generalize (World.setCell w2 _ _).drew = w3 at *
 obtain ⟨c1, z1⟩ := H3.out.cell
 go_wp2
 go_ret
 exact ⟨y3, rfl, H3.out, O3.out⟩
def BpP (g n a b : Nat) (d : Array Int) (w : World) (e : Ending) (w' : World) : Prop := e = .returned (.tuple #[]) ∧ (∃ d', Go.Sort.PermIn a b d d' ∧ Fa w' g n d') ∧ Ou (fun k => k = g) w w'
set_option maxHeartbeats 8000000 in
theorem breakA_c (g n cap a b : Nat) (d : Array Int) (w : World) (h : Fa w g n d) (hn : n ≤ 40) (hcap : n ≤ cap) (hab : a + 12 < b) (hb : b ≤ n) :
   Calls Tryz.prog 122 #[.slice (some ⟨g, 0, none⟩) n cap, .int .i64 a, .int .i64 b] w (BpP g n a b d w) := by
 have hg := h.lt
 have hgq : ¬ g = w.heap.size := by omega
 have hqg : ¬ w.heap.size = g := by omega
 obtain ⟨L, HL⟩ : ∃ L, Hid (L = b - a) := ⟨_, hid rfl⟩
 obtain ⟨Q, HQ⟩ : ∃ Q, Hid (Q = L / 4) := ⟨_, hid rfl⟩
 obtain ⟨p2, Hp2⟩ : ∃ p2, Hid (p2 = Q * 2) := ⟨_, hid rfl⟩
 obtain ⟨p3, Hp3⟩ : ∃ p3, Hid (p3 = a + p2) := ⟨_, hid rfl⟩
 obtain ⟨s0, Hs0⟩ : ∃ s0, Hid (s0 = p3 - 1) := ⟨_, hid rfl⟩
 obtain ⟨s2, Hs2⟩ : ∃ s2, Hid (s2 = p3 + 1) := ⟨_, hid rfl⟩
 have FA := hid (h.out (Ou.of (S := fun _ => False) ((Below.refl w.heap.size w).alloc (Nat.le_refl _) (.cells #[.int .u64 (L : Int)] 161))) id)
 have XA : Hid (Xq (w.alloc (.cells #[.int .u64 (L : Int)] 161)) w.heap.size (L : Int)) := hid (heap_alloc_new _ _)
 have OA : Hid (Ou (fun k => k = g ∨ k = w.heap.size) w (w.alloc (.cells #[.int .u64 (L : Int)] 161))) := hid (Ou.of ((Below.refl w.heap.size w).alloc (Nat.le_refl _) _))
 clear h hg
 have hLI : (b : Int) - (a : Int) = (L : Int) := by have := HL.out; have := HQ.out; have := Hp2.out; have := Hp3.out; have := Hs0.out; have := Hs2.out; omega
 have hQI : (L : Int) / 4 = (Q : Int) := by have := HL.out; have := HQ.out; have := Hp2.out; have := Hp3.out; have := Hs0.out; have := Hs2.out; omega
 have hQT : Int.tdiv (L : Int) 4 = (Q : Int) := by rw [Int.tdiv_eq_ediv_of_nonneg (by have := HL.out; have := HQ.out; have := Hp2.out; have := Hp3.out; have := Hs0.out; have := Hs2.out; omega)]; exact hQI
 have h2I : (Q : Int) * 2 = (p2 : Int) := by have := HL.out; have := HQ.out; have := Hp2.out; have := Hp3.out; have := Hs0.out; have := Hs2.out; omega
 have h3I : (a : Int) + (p2 : Int) = (p3 : Int) := by have := HL.out; have := HQ.out; have := Hp2.out; have := Hp3.out; have := Hs0.out; have := Hs2.out; omega
 have h4I : (p3 : Int) - 1 = (s0 : Int) := by have := HL.out; have := HQ.out; have := Hp2.out; have := Hp3.out; have := Hs0.out; have := Hs2.out; omega
 have h5I : (p3 : Int) + 1 = (s2 : Int) := by have := HL.out; have := HQ.out; have := Hp2.out; have := Hp3.out; have := Hs0.out; have := Hs2.out; omega
 have h8 : (8 : Int) ≤ (L : Int) := by have := HL.out; have := HQ.out; have := Hp2.out; have := Hp3.out; have := Hs0.out; have := Hs2.out; omega
 have hL40 : L ≤ 40 := by have := HL.out; have := HQ.out; have := Hp2.out; have := Hp3.out; have := Hs0.out; have := Hs2.out; omega
 have hL1 : 12 < L := by have := HL.out; have := HQ.out; have := Hp2.out; have := Hp3.out; have := Hs0.out; have := Hs2.out; omega
 have hQ10 : Q ≤ 10 := by have := HL.out; have := HQ.out; have := Hp2.out; have := Hp3.out; have := Hs0.out; have := Hs2.out; omega
 have hp20 : p2 ≤ 20 := by have := HL.out; have := HQ.out; have := Hp2.out; have := Hp3.out; have := Hs0.out; have := Hs2.out; omega
 have hp30 : p3 ≤ 60 := by have := HL.out; have := HQ.out; have := Hp2.out; have := Hp3.out; have := Hs0.out; have := Hs2.out; omega
 have hs : a ≤ s0 ∧ s2 < b ∧ s0 + 2 = s2 := by have := HL.out; have := HQ.out; have := Hp2.out; have := Hp3.out; have := Hs0.out; have := Hs2.out; omega
 have haL : a + L ≤ n := by have := HL.out; have := HQ.out; have := Hp2.out; have := Hp3.out; have := Hs0.out; have := Hs2.out; omega
 have hbL : a + L = b := by have := HL.out; have := HQ.out; have := Hp2.out; have := Hp3.out; have := Hs0.out; have := Hs2.out; omega
 clear HL HQ Hp2 Hp3 Hs0 Hs2
 have NP := hid (fun W => npow_c L (by omega) hL40 W)
 go_enter Tryz.func122, Tryz.ntmps122
 go_wp2_with (go_at_call 137; refine (NP.out _).mono ?_; rintro _ wz ⟨⟨m, rfl, hm1, hm2, hm3⟩, hwz⟩; rw [hwz]; clear hwz wz NP)
 obtain ⟨m1, Hm1⟩ : ∃ m1, Hid (m1 = m - 1) := ⟨_, hid rfl⟩
 have hm1I : (m : Int) - 1 = (m1 : Int) := by have := Hm1.out; omega
 have hm1L : m1 < 2 * L := by have := Hm1.out; omega
 have hm164 : m1 < 64 := by have := Hm1.out; omega
 clear Hm1
 generalize w.alloc (.cells #[.int .u64 (L : Int)] 161) = wA at *
 go_loopw [9] (fun v9 wx => ∃ (i : Nat) (d' : Array Int) (x : Int), s0 ≤ i ∧ i ≤ s0 + 3 ∧ v9 = .int .i64 i ∧ Hid (Fa wx g n d') ∧ Hid (Go.Sort.PermIn a b d d') ∧ Hid (Xq wx w.heap.size x) ∧ Hid (Ou (fun k => k = g ∨ k = w.heap.size) w wx)) (fun i _ => (100 - intOf i).toNat)
 case atStart => exact ⟨s0, d, L, by omega, by omega, by first | rfl | go_num, FA, hid (Go.Sort.permIn_refl _ _ _), XA, OA⟩
 case round =>
   clear FA XA OA
   obtain ⟨i, d', x, hi1, hi2, rfl, FX, PX, XX, OX⟩ := hrel
   by_cases hlt : i ≤ s2
   · have hltI : (i : Int) ≤ (s2 : Int) := by omega
     have hiN : (i : Int) < (n : Int) := by omega
     have XN := hid (xnext_c _ x wr XX.out)
     go_upto_region 8 with (go_at_call 138; refine XN.out.mono ?_; rintro _ w1 ⟨y, rfl, X1, O1⟩; have XY := hid X1; have OO := hid O1; clear X1 O1; obtain ⟨o, ho, ho2⟩ := and_le y m1 hm164; have ho64 : o < 64 := (by omega))
     have FY := hid (FX.out.out OO.out hgq)
     have OY : Hid (Ou (fun k => k = g ∨ k = w.heap.size) w w1) := hid (OX.out.trans (OO.out.mono (fun k hk => .inr hk)))
     clear FX OX XX XN OO
     by_cases hoL : o < L
     · have hod : decide ((L : Int) ≤ (o : Int)) = false := decide_eq_false (by omega)
       obtain ⟨r, Hr⟩ : ∃ r, Hid (r = a + o) := ⟨_, hid rfl⟩
       have hrI : (a : Int) + (o : Int) = (r : Int) := by have := Hr.out; omega
       have hrN : (r : Int) < (n : Int) := by have := Hr.out; omega
       by_cases hir : i = r
       · subst hir
         obtain ⟨c1, z1⟩ := FY.out.cell (j := i) (by have := Hr.out; omega)
         go_wp2_with fail
         go_region
         have F9 := hid (FY.out.swp' (i := i) (j := i) (by have := Hr.out; omega) (by have := Hr.out; omega))
         have O9 := hid (OY.out.swp2 (i := i) (j := i) (x := .int .u32 (ft d' i)) (y := .int .u32 (ft d' i)))
         have X9 := hid (XY.out.swp2 hqg (i := i) (j := i) (x := .int .u32 (ft d' i)) (y := .int .u32 (ft d' i)))
         have P9 := hid (Go.Sort.permIn_trans _ _ _ _ _ PX.out (Go.Sort.swp_permIn d' a b i i (by have := Hr.out; omega) (by have := Hr.out; omega) (by have := Hr.out; omega) (by have := Hr.out; omega) (by have := FY.out.size; omega)))
         clear c1 z1
         go_wp2
         go_roundw
         case rel => exact ⟨i + 1, _, _, by have := Hr.out; omega, by have := Hr.out; omega, by first | rfl | go_num, F9, P9, X9, O9⟩
         case measure => simp [intOf] <;> omega
       · have hri : ¬ r = i := fun e => hir e.symm
         obtain ⟨c1, z1⟩ := FY.out.cell (j := i) (by have := Hr.out; omega)
         obtain ⟨c2, z2⟩ := FY.out.cell (j := r) (by have := Hr.out; omega)
         go_wp2_with fail
         go_region
         have F9 := hid (FY.out.swp' (i := i) (j := r) (by have := Hr.out; omega) (by have := Hr.out; omega))
         have O9 := hid (OY.out.swp2 (i := i) (j := r) (x := .int .u32 (ft d' r)) (y := .int .u32 (ft d' i)))
         have X9 := hid (XY.out.swp2 hqg (i := i) (j := r) (x := .int .u32 (ft d' r)) (y := .int .u32 (ft d' i)))
         have P9 := hid (Go.Sort.permIn_trans _ _ _ _ _ PX.out (Go.Sort.swp_permIn d' a b i r (by have := Hr.out; omega) (by have := Hr.out; omega) (by have := Hr.out; omega) (by have := Hr.out; omega) (by have := FY.out.size; omega)))
         clear c1 z1 c2 z2
         go_wp2
         go_roundw
         case rel => exact ⟨i + 1, _, _, by have := Hr.out; omega, by have := Hr.out; omega, by first | rfl | go_num, F9, P9, X9, O9⟩
         case measure => simp [intOf] <;> omega
     · have hod : (L : Int) ≤ (o : Int) := by omega
       obtain ⟨o2, Ho2⟩ : ∃ o2, Hid (o2 = o - L) := ⟨_, hid rfl⟩
       have ho2I : (o : Int) - (L : Int) = (o2 : Int) := by have := Ho2.out; omega
       obtain ⟨r, Hr⟩ : ∃ r, Hid (r = a + o2) := ⟨_, hid rfl⟩
       have hrI : (a : Int) + (o2 : Int) = (r : Int) := by have := Ho2.out; have := Hr.out; omega
       have hrN : (r : Int) < (n : Int) := by have := Ho2.out; have := Hr.out; omega
       by_cases hir : i = r
       · subst hir
         obtain ⟨c1, z1⟩ := FY.out.cell (j := i) (by have := Ho2.out; have := Hr.out; omega)
         go_wp2_with fail
         go_region
         have F9 := hid (FY.out.swp' (i := i) (j := i) (by have := Ho2.out; have := Hr.out; omega) (by have := Ho2.out; have := Hr.out; omega))
         have O9 := hid (OY.out.swp2 (i := i) (j := i) (x := .int .u32 (ft d' i)) (y := .int .u32 (ft d' i)))
         have X9 := hid (XY.out.swp2 hqg (i := i) (j := i) (x := .int .u32 (ft d' i)) (y := .int .u32 (ft d' i)))
         have P9 := hid (Go.Sort.permIn_trans _ _ _ _ _ PX.out (Go.Sort.swp_permIn d' a b i i (by have := Ho2.out; have := Hr.out; omega) (by have := Ho2.out; have := Hr.out; omega) (by have := Ho2.out; have := Hr.out; omega) (by have := Ho2.out; have := Hr.out; omega) (by have := FY.out.size; omega)))
         clear c1 z1
         go_wp2
         go_roundw
         case rel => exact ⟨i + 1, _, _, by have := Ho2.out; have := Hr.out; omega, by have := Ho2.out; have := Hr.out; omega, by first | rfl | go_num, F9, P9, X9, O9⟩
         case measure => simp [intOf] <;> omega
       · have hri : ¬ r = i := fun e => hir e.symm
         obtain ⟨c1, z1⟩ := FY.out.cell (j := i) (by have := Ho2.out; have := Hr.out; omega)
         obtain ⟨c2, z2⟩ := FY.out.cell (j := r) (by have := Ho2.out; have := Hr.out; omega)
         go_wp2_with fail
         go_region
         have F9 := hid (FY.out.swp' (i := i) (j := r) (by have := Ho2.out; have := Hr.out; omega) (by have := Ho2.out; have := Hr.out; omega))
         have O9 := hid (OY.out.swp2 (i := i) (j := r) (x := .int .u32 (ft d' r)) (y := .int .u32 (ft d' i)))
         have X9 := hid (XY.out.swp2 hqg (i := i) (j := r) (x := .int .u32 (ft d' r)) (y := .int .u32 (ft d' i)))
         have P9 := hid (Go.Sort.permIn_trans _ _ _ _ _ PX.out (Go.Sort.swp_permIn d' a b i r (by have := Ho2.out; have := Hr.out; omega) (by have := Ho2.out; have := Hr.out; omega) (by have := Ho2.out; have := Hr.out; omega) (by have := Ho2.out; have := Hr.out; omega) (by have := FY.out.size; omega)))
         clear c1 z1 c2 z2
         go_wp2
         go_roundw
         case rel => exact ⟨i + 1, _, _, by have := Ho2.out; have := Hr.out; omega, by have := Ho2.out; have := Hr.out; omega, by first | rfl | go_num, F9, P9, X9, O9⟩
         case measure => simp [intOf] <;> omega
   · have hltI : decide ((i : Int) ≤ (s2 : Int)) = false := decide_eq_false (by omega)
     have OE : Hid (Ou (fun k => k = g) w wr) := hid ⟨OX.out.os, OX.out.tape, OX.out.output, OX.out.size, fun k hk hn => OX.out.block k hk (fun e => by omega)⟩
     go_wp2
     exact body_endF (by kernel_rfl) rfl ⟨rfl, ⟨d', PX.out, FX.out⟩, OE.out⟩
end Go.Proofs.YtgbdplammniidaaGreatDoor
