/-
  Texts cut, copied, made bytes: strings.Cut, Split, SplitN, Clone, bytesOf.
-/
import Derived.Test.YtkokjkaclcjnjaaDoorRdBd
import Derived.Test.YtkokjkaclcjnjaaDoorRdBe
import Derived.Test.YtkokjkaclcjnjaaDoorRdAb
import Derived.Test.YtkokjkaclcjnjaaDoorRdBc
import Derived.Test.YtkokjkaclcjnjaaDoorRdBl
import Derived.Lib.UnsafeStr
import Derived.Lib.BufferWrite
import Derived.Laws.MakeOwn
namespace Go.Proofs.YtkokjkaclcjnjaaDoor
open Go.RowKit Go.ChangeShapes Go.WideShapes Go.ChangeAt
set_option linter.unusedVariables false
set_option linter.unusedSimpArgs false
set_option maxRecDepth 100000
def MxW (w : World) : Prop := ∃ m, w.cell? ⟨Tryd.lays145_ren.g 1, 0, none⟩ = some (.int .i64 m)
theorem MxW.later {w w' : World} (h : MxW w) (hb : Below w.heap.size w w') : MxW w' := by
 obtain ⟨m, h⟩ := h
 exact ⟨m, cell_later hb h⟩
theorem index_cut (c : UInt8) : ∀ (s : List UInt8), (∀ t, (cutL c s).2 = some t → Lib.indexByte s c = ((cutL c s).1.length : Int)) ∧ ((cutL c s).2 = none → Lib.indexByte s c = -1)
 | [] => ⟨fun t h => by simp [cutL] at h, fun _ => rfl⟩
 | a :: l => by
   obtain ⟨h1, h2⟩ := index_cut c l
   rw [cutL, Lib.indexByte]
   by_cases e : a = c
   · rw [if_pos e, if_pos (by simpa using e)]
     exact ⟨fun t _ => rfl, fun h => by cases h⟩
   · rw [if_neg e, if_neg (by simpa using e)]
     constructor
     · intro t h
       have := h1 t h
       rw [this, if_neg (by simp)]
       simp
     · intro h
       rw [h2 h]
       rfl
theorem cut_take {c : UInt8} {s t : List UInt8} (h : (cutL c s).2 = some t) : s.take (cutL c s).1.length = (cutL c s).1 ∧ s.drop ((cutL c s).1.length + 1) = t := by
 have e := (cut_some h).1
 generalize (cutL c s).1 = p at *
 subst e
 refine ⟨List.take_left, ?_⟩
 rw [List.drop_append, List.drop_of_length_le (by omega), List.nil_append, show p.length + 1 - p.length = 1 by omega]
 rfl
theorem lib_cut (c : UInt8) (s : List UInt8) : Lib.cut s [c] = ((cutL c s).1, (cutL c s).2.getD [], (cutL c s).2.isSome) := by
 obtain ⟨h1, h2⟩ := index_cut c s
 unfold Lib.cut
 rw [Lib.index_one]
 cases h : (cutL c s).2 with
 | none =>
   rw [h2 h, if_neg (by decide)]
   rw [(cut_miss h).1]
   rfl
 | some t =>
   rw [h1 t h, if_pos (by omega)]
   obtain ⟨e1, e2⟩ := cut_take h
   simp only [Int.toNat_natCast, List.length_singleton, Option.getD_some, Option.isSome_some]
   rw [e1, e2]
theorem lib_spl (c : UInt8) : ∀ (k : Nat) (s : List UInt8), Lib.splitK [c] 0 k s = splN c k s
 | 0, s => rfl
 | k + 1, s => by
   obtain ⟨h1, h2⟩ := index_cut c s
   rw [Lib.splitK, splN, Lib.index_one]
   cases h : (cutL c s).2 with
   | none =>
     rw [h2 h]
     rfl
   | some t =>
     rw [h1 t h, if_neg (by simp)]
     obtain ⟨e1, e2⟩ := cut_take h
     simp only [Int.toNat_natCast, List.length_singleton, Nat.add_zero]
     rw [e1, e2, lib_spl c k t]
def tB (l : List UInt8) : ByteArray := ⟨l.toArray⟩
theorem tB_data (l : List UInt8) : (tB l).data.toList = l := rfl
theorem tB_size (l : List UInt8) : (tB l).size = l.length := by show (List.toArray l).size = _; simp
theorem tB_of (s : ByteArray) : tB s.data.toList = s := by apply ByteArray.ext; simp [tB]
theorem cut_size (c : UInt8) (s : List UInt8) : (cutL c s).1.length ≤ s.length ∧ ((cutL c s).2.getD []).length ≤ s.length := by
 cases h : (cutL c s).2 with
 | none => rw [(cut_miss h).1]; simp
 | some t =>
   have := congrArg List.length (cut_some h).1
   rw [List.length_append, List.length_cons] at this
   simp only [Option.getD_some]
   omega
theorem cut_c (c : UInt8) (s : ByteArray) (w : World) (hs : s.size < 4294967281) (hm : MxW w) :
   Calls Tryd.prog 43 #[.string s, .string ⟨#[c]⟩] w fun e w' => e = .returned (.tuple #[.string (tB (cutL c s.data.toList).1), .string (tB ((cutL c s.data.toList).2.getD [])), .bool (cutL c s.data.toList).2.isSome]) ∧ Below w.heap.size w w' := by
 obtain ⟨m, hm⟩ := hm
 refine (Tryd.strings_Cut s ⟨#[c]⟩ m w hs hm).mono ?_
 rintro e w' ⟨rfl, n, rfl⟩
 have h := lib_cut c s.data.toList
 refine ⟨?_, below_drewN (Below.refl _ _) n⟩
 show Ending.returned (.tuple #[.string ⟨(Lib.cut s.data.toList [c]).1.toArray⟩, .string ⟨(Lib.cut s.data.toList [c]).2.1.toArray⟩, .bool (Lib.cut s.data.toList [c]).2.2]) = _
 rw [h]
 rfl
def PtW (w : World) (g : Nat) (n : Nat) (L : List (List UInt8)) : Prop := L.length ≤ n ∧ ∀ (j : Nat) x, L[j]? = some x → w.cell? ⟨g, j, none⟩ = some (.string (tB x))
theorem PtW.later {w w' : World} {g n : Nat} {L : List (List UInt8)} (h : PtW w g n L) (hb : Below w.heap.size w w') : PtW w' g n L := ⟨h.1, fun j x hx => cell_later hb (h.2 j x hx)⟩
theorem splitB_row (P : List ByteArray) (N : Nat) (w : World) (h : P.length ≤ N) : PtW (w.alloc (.cells (Lib.cellsOf P N) 9)) w.heap.size N (P.map (·.data.toList)) := by
 refine ⟨by simpa using h, fun j x hx => ?_⟩
 rw [List.getElem?_map] at hx
 cases e : P[j]? with
 | none => rw [e] at hx; cases hx
 | some y =>
   rw [e] at hx
   cases hx
   rw [cell_of_row _ _ _ _ _ _ (heap_alloc_new w _), tB_of]
   unfold Lib.cellsOf
   have hj : j < P.length := (List.getElem?_eq_some_iff.1 e).1
   have e2 : P[j] = y := (List.getElem?_eq_some_iff.1 e).2
   simp [List.getElem?_append, hj, e2]
theorem splN5_c (s : ByteArray) (w : World) (hs : s.size < 4294967281) (hm : MxW w) :
   Calls Tryd.prog 72 #[.string s, .string ⟨#[32]⟩, .int .i64 5] w fun e w' => ∃ N, e = .returned (.slice (some ⟨w.heap.size, 0, none⟩) (splN 32 4 s.data.toList).length N) ∧ PtW w' w.heap.size N (splN 32 4 s.data.toList) ∧ Below w.heap.size w w' := by
 obtain ⟨m, hm⟩ := hm
 refine (Tryd.strings_SplitN s ⟨#[32]⟩ 5 m w hs hm (by decide) (by decide) (by decide)).mono ?_
 rintro e w' ⟨rfl, rfl⟩
 have hlen : s.data.toList.length = s.size := rfl
 have hd : (Lib.splitB ⟨#[32]⟩ 0 (min 5 (s.size + 1) - 1) s).map (·.data.toList) = splN 32 4 s.data.toList := by
   rw [Lib.splitB_data]
   show Lib.splitK [32] 0 _ _ = _
   rw [lib_spl]
   by_cases q : 4 ≤ s.size
   · rw [show min 5 (s.size + 1) - 1 = 4 by omega]
   · exact spl_all 32 _ 4 _ (by omega) (by omega)
 have hl : (Lib.splitB ⟨#[32]⟩ 0 (min 5 (s.size + 1) - 1) s).length = (splN 32 4 s.data.toList).length := by rw [← hd, List.length_map]
 have hle : (Lib.splitB ⟨#[32]⟩ 0 (min 5 (s.size + 1) - 1) s).length ≤ min 5 (s.size + 1) := by
   rw [hl]
   have h1 := spl_len 32 4 s.data.toList
   have h2 := join_len 32 (splN 32 4 s.data.toList)
   rw [join_spl, hlen] at h2
   omega
 refine ⟨_, by rw [hl], ?_, below_1 w _⟩
 have := splitB_row _ _ w hle
 rw [hd] at this
 exact this
theorem spl_cnt (c : UInt8) : ∀ (k m : Nat) (s : List UInt8), s.count c ≤ k → s.count c ≤ m → splN c k s = splN c m s
 | 0, m, s, h, _ => by
   have : c ∉ s := List.count_eq_zero.1 (by omega)
   rw [spl_none m this]; rfl
 | k + 1, 0, s, _, h => by
   have : c ∉ s := List.count_eq_zero.1 (by omega)
   rw [spl_none _ this]; rfl
 | k + 1, m + 1, s, h, h' => by
   rw [splN, splN]
   split
   · rfl
   · rename_i t e
     have e1 := (cut_some e).1
     have : s.count c = (cutL c s).1.count c + (1 + t.count c) := by
       conv => lhs; rw [e1]
       rw [List.count_append, List.count_cons_self]
       omega
     rw [spl_cnt c k m t (by omega) (by omega)]
theorem split_c (c : UInt8) (s : ByteArray) (w : World) (hs : s.size < 4294967281) (hm : MxW w) :
   Calls Tryd.prog 45 #[.string s, .string ⟨#[c]⟩] w fun e w' => e = .returned (.slice (some ⟨w.heap.size, 0, none⟩) (splN c s.size s.data.toList).length (splN c s.size s.data.toList).length) ∧ PtW w' w.heap.size (splN c s.size s.data.toList).length (splN c s.size s.data.toList) ∧ Below w.heap.size w w' := by
 obtain ⟨m, hm⟩ := hm
 refine (Tryd.strings_Split s ⟨#[c]⟩ m w hs hm (by show 1 ≤ 1; omega)).mono ?_
 rintro e w' ⟨rfl, rfl⟩
 have hlen : s.data.toList.length = s.size := rfl
 have hall := Lib.splitB_all ⟨#[c]⟩ (by show 1 ≤ 1; omega) 0 _ s rfl
 have hc : Lib.countB s ⟨#[c]⟩ = s.data.toList.count c := by
   show Lib.count s.data.toList [c] = _
   exact Lib.count_one c _
 have hd : (Lib.splitB ⟨#[c]⟩ 0 (Lib.countB s ⟨#[c]⟩) s).map (·.data.toList) = splN c s.size s.data.toList := by
   rw [Lib.splitB_data]
   show Lib.splitK [c] 0 _ _ = _
   rw [lib_spl, hc]
   exact spl_cnt c _ _ _ (Nat.le_refl _) (by rw [← hlen]; exact List.count_le_length)
 have hl : Lib.countB s ⟨#[c]⟩ + 1 = (splN c s.size s.data.toList).length := by rw [← hd, List.length_map, hall]
 rw [hl]
 refine ⟨rfl, ?_, below_1 w _⟩
 have := splitB_row (Lib.splitB ⟨#[c]⟩ 0 (Lib.countB s ⟨#[c]⟩) s) (Lib.splitB ⟨#[c]⟩ 0 (Lib.countB s ⟨#[c]⟩) s).length w (Nat.le_refl _)
 rw [Lib.cellsOf_full, hd, hall, hl] at this
 exact this
/-! ### Copies -/
theorem infoU8 : (Tryd.prog.info? 5).map (fun i => (i.zero, i.size, i.bytes)) = some (some (.int .u8 0), 1, 1) := by kernel_rfl
theorem setRow_belowT (w : World) (M : Array Value) (t : TypeId) (Y : Array Value) : Below w.heap.size w ((w.alloc (.cells M t)).setRow w.heap.size Y) :=
 ((Below.refl _ w).alloc (Nat.le_refl _) _).trans ⟨rfl, rfl, rfl, by simp, fun k hk => setRow_other _ _ _ _ (by omega)⟩
set_option maxHeartbeats 2000000 in
theorem cloneT_c (s : ByteArray) (w : World) (hl : s.size ≤ 100000000) :
   Calls Tryd.prog 131 #[.string s] w fun e w' => e = .returned (.string s) ∧ Below w.heap.size w w' := by
 by_cases h0 : s.size = 0
 · have es : s = ⟨#[]⟩ := by rw [← tB_of s, List.eq_nil_of_length_eq_zero (show s.data.toList.length = 0 from h0)]; rfl
   subst es
   go_enter Tryd.func131, Tryd.ntmps131
   go_wp2
   go_ret
   exact ⟨rfl, Below.refl _ _⟩
 obtain ⟨i0, hi, hz0, hz1, hz2⟩ := info_parts infoU8
 have hlen : s.data.toList.length = s.size := rfl
 obtain ⟨M, hM⟩ : ∃ M, madeCells (Value.int .u8 0).cells (((s.size : Nat) : Int).toNat * i0.size) = M := ⟨_, rfl⟩
 have hMs : M.toList.length = s.size := by rw [← hM, Array.length_toList, size_madeCells, hz1]; simp
 have hmake : ∀ W : World, (Instr.makeSlice 32 (.int .i64 (s.size : Int)) (.int .i64 (s.size : Int))).run Tryd.prog W = .ok (.slice (some ⟨W.heap.size, 0, none⟩) s.size s.size) (W.alloc (.cells M 5)) := fun W => by
   have h := run_make (P := Tryd.prog) W 32 5 i0 (.int .u8 0) Tryd.underlying32 hi hz0 .i64 .i64 (s.size : Int) (s.size : Int) (by omega) (by omega) (by rw [hz2]; omega) (by omega)
   rw [hM] at h
   simpa using h
 have hcopy := Lib.run_copy_row_string (P := Tryd.prog) (w.alloc (.cells M 5)) 32 9 3 5 w.heap.size 0 s.size s.size s M 5 Tryd.underlying32 (by rw [hi]; simp [hz1]) (heap_alloc_new w _) (Nat.le_refl _) (by rw [← Array.length_toList]; omega)
 have hY : (M.toList.take 0 ++ Lib.byteCells s.data.toList ++ M.toList.drop (0 + s.size)) = Lib.byteCells s.data.toList := by
   rw [List.take_zero, List.nil_append, List.drop_of_length_le (by omega), List.append_nil]
 rw [hY] at hcopy
 obtain ⟨Y, hYe⟩ : ∃ Y, (Lib.byteCells s.data.toList).toArray = Y := ⟨_, rfl⟩
 rw [hYe] at hcopy
 have hYl : Y.toList = Lib.byteCells s.data.toList := by rw [← hYe]
 have hYs : Y.size = s.size := by rw [← Array.length_toList, hYl, Lib.byteCells_length, hlen]
 have hrow : ((w.alloc (.cells M 5)).setRow w.heap.size Y).heap[w.heap.size]? = some (.cells Y 5 (0, 0)) := setRow_heap _ _ M _ 5 (0, 0) (heap_alloc_new w _)
 have hread := Lib.run_unsafeString_row (P := Tryd.prog) ((w.alloc (.cells M 5)).setRow w.heap.size Y) 86 3 9 5 Tryd.underlying86 (by kernel_rfl) w.heap.size Y.size (by unfold World.shape?; rw [hrow]) s.data.toList (fun e => by have h9 := congrArg List.length e; rw [hlen, List.length_nil] at h9; omega) (by omega) (by omega)
   (fun j x hx => Lib.cells_of_row hrow Y.size j _ (by rw [List.take_of_length_le (by rw [Array.length_toList]; exact Nat.le_refl _), hYl]; simp [Lib.byteCells, hx]))
 rw [hlen] at hread
 have hne : ((s.size : Int) == 0) = false := beq_eq_false_iff_ne.2 (by omega)
 clear hM hY hYe hlen
 go_enter Tryd.func131, Tryd.ntmps131
 go_wp2
 go_ret
 exact ⟨rfl, Lib.below_freeze (setRow_belowT w M 5 Y) (p := ⟨w.heap.size, 0, none⟩) (Nat.le_refl _) _⟩
theorem sclonT_c (s : ByteArray) (w : World) (hl : s.size ≤ 100000000) :
   Calls Tryd.prog 129 #[.string s] w fun e w' => e = .returned (.string s) ∧ Below w.heap.size w w' := by
 have CC := hid (cloneT_c s w hl)
 go_enter Tryd.func129, Tryd.ntmps129
 go_wp2_with (go_at_call 131; refine CC.out.mono ?_; rintro e w' ⟨rfl, hb⟩)
 go_ret
 exact ⟨rfl, hb⟩
theorem bytes_row (l : List UInt8) : ∀ (j : Nat) v, ((Fr.bs ⟨l.toArray⟩).map u8V)[j]? = some v → (Lib.byteCells l).toArray[j]? = some v := fun j v hv => by
 unfold Fr.bs at hv
 unfold Lib.byteCells
 simpa [u8V] using hv
set_option maxHeartbeats 2000000 in
theorem bytesOf_c (s : ByteArray) (w : World) (hl : s.size ≤ 100000000) :
   Calls Tryd.prog 119 #[.string s] w fun e w' => e = .returned (.slice (some ⟨w.heap.size, 0, none⟩) s.size s.size) ∧ RowAt w' w.heap.size 5 (some ⟨w.heap.size, 0, none⟩) ((Fr.bs s).map u8V) ∧ Below w.heap.size w w' := by
 obtain ⟨i0, hi, hz0, hz1, hz2⟩ := info_parts infoU8
 have hlen : s.data.toList.length = s.size := rfl
 obtain ⟨M, hM⟩ : ∃ M, madeCells (Value.int .u8 0).cells (((s.size : Nat) : Int).toNat * i0.size) = M := ⟨_, rfl⟩
 have hMs : M.toList.length = s.size := by rw [← hM, Array.length_toList, size_madeCells, hz1]; simp
 have hmake : ∀ W : World, (Instr.makeSlice 32 (.int .i64 (s.size : Int)) (.int .i64 (s.size : Int))).run Tryd.prog W = .ok (.slice (some ⟨W.heap.size, 0, none⟩) s.size s.size) (W.alloc (.cells M 5)) := fun W => by
   have h := run_make (P := Tryd.prog) W 32 5 i0 (.int .u8 0) Tryd.underlying32 hi hz0 .i64 .i64 (s.size : Int) (s.size : Int) (by omega) (by omega) (by rw [hz2]; omega) (by omega)
   rw [hM] at h
   simpa using h
 have hcopy := Lib.run_copy_row_string (P := Tryd.prog) (w.alloc (.cells M 5)) 32 9 3 5 w.heap.size 0 s.size s.size s M 5 Tryd.underlying32 (by rw [hi]; simp [hz1]) (heap_alloc_new w _) (Nat.le_refl _) (by rw [← Array.length_toList]; omega)
 have hY : (M.toList.take 0 ++ Lib.byteCells s.data.toList ++ M.toList.drop (0 + s.size)) = Lib.byteCells s.data.toList := by
   rw [List.take_zero, List.nil_append, List.drop_of_length_le (by omega), List.append_nil]
 rw [hY] at hcopy
 obtain ⟨Y, hYe⟩ : ∃ Y, (Lib.byteCells s.data.toList).toArray = Y := ⟨_, rfl⟩
 rw [hYe] at hcopy
 have hrow : ((w.alloc (.cells M 5)).setRow w.heap.size Y).heap[w.heap.size]? = some (.cells Y 5 (0, 0)) := setRow_heap _ _ M _ 5 (0, 0) (heap_alloc_new w _)
 have HROW : Hid (RowAt ((w.alloc (.cells M 5)).setRow w.heap.size Y) w.heap.size 5 (some ⟨w.heap.size, 0, none⟩) ((Fr.bs s).map u8V)) := hid (.inr ⟨w.heap.size, Y, (0, 0), rfl, Nat.le_refl _, hrow, fun j v hv => by
   rw [← hYe]
   exact bytes_row s.data.toList j v (by simpa using hv)⟩)
 clear hM hY hYe hlen hrow
 go_enter Tryd.func119, Tryd.ntmps119
 go_wp2
 go_ret
 exact ⟨rfl, HROW.out, setRow_belowT w M 5 Y⟩
end Go.Proofs.YtkokjkaclcjnjaaDoor
