/-
  strings.Builder as the package tell uses it; isPlain; Quote.
-/
import Derived.Test.YtkokjkaclcjnjaaDoorTrBg
import Derived.Test.YtkokjkaclcjnjaaDoorTrAf
import Derived.Lib.Builder
import Derived.Lib.UnsafeStr
import Derived.Lib.AppendStr
import Derived.Deep.RegionHeld3
import Derived.Deep.LoopGhost
namespace Go.Proofs.YtkokjkaclcjnjaaDoor
open Go.RowKit Go.ChangeShapes Go.WideShapes Go.ChangeAt
set_option linter.unusedVariables false
set_option linter.unusedSimpArgs false
set_option maxRecDepth 100000
def IsBd (w : World) (B b : Nat) (l : List UInt8) : Prop := Lib.IsBuilder 51 5 B b (Lib.byteCells l) w
def UsBd (w : World) (B b : Nat) (l : List UInt8) : Prop := Lib.BuilderAt 51 5 B b (.pointer (some ⟨b, 0, none⟩)) (Lib.byteCells l) w
theorem UsBd.is {w : World} {B b : Nat} {l : List UInt8} (h : UsBd w B b l) : IsBd w B b l := .inr h
theorem IsBd.new (w : World) : IsBd (w.alloc (.cells #[.pointer none, .slice none 0 0] 51)) w.heap.size w.heap.size [] := Lib.fresh_isBuilder _ _ w
theorem UsBd.later {w w' : World} {B b : Nat} {l : List UInt8} (h : UsBd w B b l) (hb : Below w.heap.size w w') : UsBd w' B b l := by
 have hlt := h.lt
 obtain ⟨h1, v, h2, h3, h4⟩ := h
 exact ⟨h1, v, (hb.block b hlt).trans h2, own_latR h3 hb, h4⟩
theorem IsBd.later {w w' : World} {B b : Nat} {l : List UInt8} (h : IsBd w B b l) (hb : Below w.heap.size w w') : IsBd w' B b l := by
 rcases h with h | h
 · have hlt := h.lt
   obtain ⟨h1, v, h2, h3, h4⟩ := h
   exact .inl ⟨h1, v, (hb.block b hlt).trans h2, own_latR h3 hb, h4⟩
 · exact .inr (UsBd.later h hb)
theorem byteCells_app (a b : List UInt8) : Lib.byteCells (a ++ b) = Lib.byteCells a ++ Lib.byteCells b := by unfold Lib.byteCells; rw [List.map_append]
theorem byteCells_one (c : UInt8) : Lib.byteCells [c] = [.int .u8 (c.toNat : Int)] := rfl
theorem wb_c {w : World} {B b : Nat} {l : List UInt8} (h : IsBd w B b l) (c : UInt8) (hl : l.length ≤ 1000000000) (hB : B ≤ w.heap.size) :
   Calls Tryd.prog 26 #[.pointer (some ⟨b, 0, none⟩), .int .u8 (c.toNat : Int)] w fun e w' => e = .returned .nilIface ∧ UsBd w' B b (l ++ [c]) ∧ Below B w w' :=
 (Tryd.Builder_WriteByte B b (Lib.byteCells l) c.toNat w h (by rw [Lib.byteCells_length]; omega) hB).mono fun e w' ⟨h1, h2, h3⟩ => ⟨h1, by unfold UsBd; rw [byteCells_app, byteCells_one]; exact h2, h3⟩
theorem ws_c {w : World} {B b : Nat} {l : List UInt8} (h : IsBd w B b l) (s : ByteArray) (hl : l.length + s.size ≤ 1000000000) (hB : B ≤ w.heap.size) :
   Calls Tryd.prog 38 #[.pointer (some ⟨b, 0, none⟩), .string s] w fun e w' => e = .returned (.tuple #[.int .i64 s.size, .nilIface]) ∧ UsBd w' B b (l ++ s.data.toList) ∧ Below B w w' :=
 (Tryd.Builder_WriteString B b (Lib.byteCells l) s w h (by rw [Lib.byteCells_length]; omega) hB).mono fun e w' ⟨h1, h2, h3⟩ => ⟨h1, by unfold UsBd; rw [byteCells_app]; exact h2, h3⟩
theorem bs_c {w : World} {B b : Nat} {l : List UInt8} (h : IsBd w B b l) (hB : B ≤ w.heap.size) :
   Calls Tryd.prog 27 #[.pointer (some ⟨b, 0, none⟩)] w fun e w' => e = .returned (.string ⟨l.toArray⟩) ∧ Below B w w' := Tryd.Builder_String_any B b l w h hB
theorem info_u8B : ∃ i : TypeInfo, Tryd.prog.info? 5 = some i ∧ i.zero = some (.int .u8 0) ∧ i.size = 1 ∧ i.bytes = 1 := by
 have h : (Tryd.prog.info? 5).map (fun i => (i.zero, i.size, i.bytes)) = some (some (.int .u8 0), 1, 1) := by kernel_rfl
 cases hi : Tryd.prog.info? 5 with
 | none => rw [hi] at h; cases h
 | some i => rw [hi] at h; simp at h; exact ⟨i, rfl, h.1, h.2.1, h.2.2⟩
set_option maxHeartbeats 2000000 in
theorem wr_c {w : World} {B b g c : Nat} {l cs : List UInt8} (h : UsBd w B b l) (hg : w.heap[g]? = some (.cells (Lib.byteCells cs).toArray 5 (0, 0))) (hc : cs ≠ []) (hl : l.length + cs.length ≤ 1000000000) (hB : B ≤ w.heap.size) :
   Calls Tryd.prog 31 #[.pointer (some ⟨b, 0, none⟩), .slice (some ⟨g, 0, none⟩) cs.length c] w fun e w' => e = .returned (.tuple #[.int .i64 cs.length, .nilIface]) ∧ UsBd w' B b (l ++ cs) ∧ Below B w w' := by
 obtain ⟨i0, hi, hz0, hz1, hz2⟩ := info_u8B
 have CK := hid (Any.Builder_copyCheck_used Tryd.tl240 Tryd.tlX.toX72 b w h.cell0)
 obtain ⟨hBb, v, hbk, hown, hne⟩ := h
 have hlt := lt_blkR hbk
 have c0 : w.cell? ⟨b, 0, none⟩ = some (.pointer (some ⟨b, 0, none⟩)) := by rw [Lib.cell_of_heap hbk]; rfl
 have c1 : w.cell? ⟨b, 1, none⟩ = some v := by rw [Lib.cell_of_heap hbk]; rfl
 rw [Lib.byteCells_length l] at hown
 obtain ⟨va, vc, rfl⟩ : ∃ va vc, v = .slice va l.length vc := by
   rcases hown.2 with ⟨e, e0⟩ | ⟨g', cap, cur, hv, _⟩
   · exact ⟨none, 0, by rw [e, e0]⟩
   · exact ⟨_, cap, hv⟩
 have HCB : Hid ((Lib.byteCells cs).length = cs.length) := hid (Lib.byteCells_length cs)
 have hcp : 0 < cs.length := List.length_pos_iff.2 hc
 have NW : ∀ j u, (Lib.byteCells cs)[j]? = some u → w.cell? ((⟨g, 0, none⟩ : Addr).add j) = some u := fun j u hu => by
   have e : (⟨g, 0, none⟩ : Addr).add j = ⟨g, 0 + j, none⟩ := by unfold Addr.add; split <;> simp_all
   rw [e, cell_of_row w g _ _ _ _ hg]
   simpa using hu
 go_enter Tryd.func31, Tryd.ntmps31
 go_upto_region 2 with (go_at_call 49; refine CK.out.mono ?_; rintro _ w1 ⟨rfl, hw1⟩; rw [hw1])
 go_wp2_with (at_builtin; refine wpList_append_own _ rfl _ _ 32 rfl B 5 i0 (.int .u8 0) 1 1 Tryd.underlying32 hi hz0 hz1 hz2 rfl (by decide) _ _ _ rfl hown ⟨g, 0, none⟩ cs.length c (Lib.byteCells cs) rfl ?c0 NW ?c2 ?c3 ?c4 hB ?_)
 case c0 => rw [HCB.out]; omega
 case c2 =>
   intro u hu
   unfold Lib.byteCells at hu
   obtain ⟨x, _, rfl⟩ := List.mem_map.1 hu
   rfl
 case c3 => unfold maxLen; omega
 case c4 => omega
 intro v' w2 hown' hgrow _
 have hb2 : w2.heap[b]? = some (.cells #[.pointer (some ⟨b, 0, none⟩), .slice va l.length vc] 51 (0, 0)) := (hgrow.block b hlt (fun e => hne e.symm)).trans hbk
 have d0 : w2.cell? ⟨b, 0, none⟩ = some (.pointer (some ⟨b, 0, none⟩)) := by rw [Lib.cell_of_heap hb2]; rfl
 have d1 : w2.cell? ⟨b, 1, none⟩ = some (.slice va l.length vc) := by rw [Lib.cell_of_heap hb2]; rfl
 have f1 : w2.frozen? ⟨b, 1, none⟩ = false := Lib.frozen_of_heap hb2 1
 obtain ⟨g', cap', rfl⟩ : ∃ g' cap', v' = .slice (some ⟨g', 0, none⟩) (l.length + cs.length) cap' := by
   rcases hown'.2 with ⟨_, h0⟩ | ⟨g', cap', cur, hv, _⟩
   · omega
   · exact ⟨g', cap', hv⟩
 go_wp2
 refine bodyPost_ret (v := .tuple #[.int .i64 cs.length, .nilIface]) (by simp [results, Tryd.results31, go_sem]) rfl ⟨rfl, ?_, ?_⟩
 · unfold UsBd
   rw [byteCells_app]
   exact Lib.BuilderAt.put (T := 51) (e := 5) hBb hb2 (bs' := Lib.byteCells l ++ Lib.byteCells cs) (by rw [List.length_append, HCB.out, Lib.byteCells_length l]; exact hown') (by decide)
 · exact ((Below.refl B w).grown hgrow hB (fun k hk => (hown.lt k hk).1)).setCell (p := ⟨b, 1, none⟩) hBb _
end Go.Proofs.YtkokjkaclcjnjaaDoor
