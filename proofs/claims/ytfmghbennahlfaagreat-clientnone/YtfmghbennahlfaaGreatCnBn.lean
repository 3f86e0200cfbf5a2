/-
  
-/
import Derived.Test.YtfmghbennahlfaaGreatCnBm
import Derived.BigQuiet
import Derived.Deep.LoopGhost
import Derived.Deep.QuietTactic
import Derived.Laws.MakeOwn
import Derived.Lib.BufferWrite
import Derived.Lib.IndexBytes
import Derived.Lib.OthersKept
import Derived.Lib.Strings
import Derived.Lib.UnsafeStr
import Derived.OpenShut
import Derived.ProofKit
import Derived.ShutString
import Derived.WalkKit
import Derived.WalkLawsBesides
import Derived.WalkSpells
namespace Go.Proofs.YtfmghbennahlfaaGreat
open Go.RowKit Go.ChangeShapes Go.WideShapes Go.ChangeAt
set_option linter.unusedVariables false
set_option linter.unusedSimpArgs false
theorem info_str : (Tryz.prog.info? 9).map (fun i => (i.zero, i.size, i.bytes)) = some (some (.string ByteArray.empty), 1, 16) := by kernel_rfl
def strV (l : List UInt8) : Value := .string ⟨l.toArray⟩
theorem strV_extract (s : ByteArray) (a b : Nat) : Value.string (s.extract a b) = strV ((s.data.toList.drop a).take (b - a)) := by
 unfold strV
 rw [← Lib.extract_data]
theorem strV_self (s : ByteArray) : strV s.data.toList = .string s := by unfold strV; rfl
theorem byte_at (s : ByteArray) (j : Nat) (h : j < s.size) : s.data.toList[j]'h = s[j]'h := rfl
theorem lt_of_block' {w : World} {k : Nat} {o : Obj} (h : w.heap[k]? = some o) : k < w.heap.size := (Array.getElem?_eq_some_iff.1 h).1
theorem iterPos_of' {w : World} {k : Nat} {s : ByteArray} {p : Nat} (h : w.heap[k]? = some (.stringIter s p)) : w.iterPos k = p := by simp [World.iterPos, h]
theorem get_list (s : ByteArray) (k : Nat) (h : k < s.size) : s.get! k = s.data.toList[k]'h := by
 exact get_at s k h
theorem decode_width (s : ByteArray) (j : Nat) (hp : j < s.size) : 1 ≤ (Utf8.decode s j).2 ∧ j + (Utf8.decode s j).2 ≤ s.size := by
 by_cases ha : (s[j]'hp).toNat < 128
 · rw [decode_ascii s j hp ha]; simp; omega
 · have h1 := (decode_high s j hp (by omega)).2
   have h2 := (Pa.decode_skip s j hp (by omega) ((Utf8.decode s j).2 - 1) (by omega)).1
   omega
theorem decode_not (s : ByteArray) (j : Nat) (hp : j < s.size) (hsl : ¬ (s[j]'hp) = 47) : (((Utf8.decode s j).1 : Int) == 47) = false := by
 by_cases ha : (s[j]'hp).toNat < 128
 · rw [decode_ascii s j hp ha]
   rw [beq_eq_false_iff_ne]
   intro e
   apply hsl
   apply UInt8.toNat_inj.1
   have : (47 : UInt8).toNat = 47 := rfl
   rw [this]
   simp at e
   omega
 · have h1 := (decode_high s j hp (by omega)).1
   rw [beq_eq_false_iff_ne]; omega
theorem pieces_skip (s : ByteArray) (j : Nat) (hp : j < s.size) (hsl : ¬ (s[j]'hp) = 47) : ∀ k, j ≤ k → k < j + (Utf8.decode s j).2 → ∀ hk : k < s.data.toList.length, s.data.toList[k] ≠ 47 := by
 intro k h1 h2 hk
 by_cases ha : (s[j]'hp).toNat < 128
 · rw [decode_ascii s j hp ha] at h2
   obtain rfl : k = j := by simp at h2; omega
   rw [byte_at s k hp]; exact hsl
 · have h3 := (Pa.decode_skip s j hp (by omega) (k - j) (by omega)).2
   rw [show j + (k - j) = k from by omega, get_list s k hk] at h3
   intro e
   rw [e] at h3
   exact absurd h3 (by decide)
theorem World.ownsRow_mono {w : World} {base base' : Nat} {e : TypeId} {size : Nat} {v : Value} {n : Nat} {xs : List Value} (h : w.ownsRow base e size v n xs) (hb : base' ≤ base) : w.ownsRow base' e size v n xs := by
 obtain ⟨h1, h2⟩ := h
 refine ⟨h1, ?_⟩
 rcases h2 with h2 | ⟨g, cap, cur, a, b, c⟩
 · exact .inl h2
 · exact .inr ⟨g, cap, cur, a, Nat.le_trans hb b, c⟩
set_option maxRecDepth 100000 in
set_option maxHeartbeats 2000000 in
theorem pieces_c (s : ByteArray) (w : World) (hs : s.size ≤ 1000) :
   Calls Tryz.prog 113 #[.string s] w fun e w' => ∃ v, e = .returned v ∧ w'.ownsRow w.heap.size 9 1 v (Pa.piecesF s.data.toList).length ((Pa.piecesF s.data.toList).map strV) ∧ Below w.heap.size w w' := by
 obtain ⟨i0, hi, hz0, hz1, hz2⟩ := info_parts info_str
 have HL : Hid (s.data.toList.length = s.size) := rfl
 go_enter Tryz.func113, Tryz.ntmps113
 go_wp2
 go_loopw [3, 4, 5, 6] (fun v st a b wr => ∃ (j start : Nat) (done : List (List UInt8)), wr.heap[w.heap.size]? = some (.stringIter s j) ∧ j ≤ s.size ∧ start ≤ j ∧ done.length ≤ s.size ∧ st = .int .i64 start ∧ wr.ownsRow (w.heap.size + 1) 9 1 v done.length (done.map strV) ∧ Below w.heap.size w wr ∧ Hid (Pa.Found s.data.toList start j done)) (fun _ _ _ _ wr => s.size - wr.iterPos w.heap.size)
 case atStart => exact ⟨0, 0, [], World.iter_heap w s 0, by omega, by omega, by simp, rfl, World.ownsRow_nil _ _ _ _, (Below.refl _ _).alloc (Nat.le_refl _) _, Pa.found_zero _⟩
 case round =>
   obtain ⟨j, start, done, hit, hj, hst, hdn, rfl, hown, hbw, HF⟩ := hrel
   have hpos0 := iterPos_of' hit
   by_cases hp : j < s.size
   · have hnx : ∀ ty, (Instr.next (.pointer (some ⟨w.heap.size, 0, none⟩)) true ty).run Tryz.prog wr = _ := fun ty => Lib.run_next_any_at wr w.heap.size s j ty hit hp
     by_cases hsl : (s[j]'hp) = 47
     · have hdec := decode_ascii s j hp (by rw [hsl]; decide)
       rw [hdec, hsl] at hnx
       have hit2 := Lib.iterAt_heap wr w.heap.size s j (j + 1) hit
       have hbw2 := Lib.below_iterAt hbw (k := w.heap.size) (Nat.le_refl _) s (j + 1)
       have hown2 := ownsRow_iterAt hown (k := w.heap.size) (by omega) s (j + 1)
       generalize hW1 : wr.iterAt w.heap.size s (j + 1) = W1 at *
       have hBlt := lt_of_block' hit2
       have HF2 : Hid _ := Pa.found_cut HF.out (by have := HL.out; omega) (by rw [byte_at s j hp]; exact hsl)
       have HD : Hid _ := Pa.found_length HF2.out
       clear hW1 hit hown hbw hdec
       go_wp2_with (at_builtin; refine wpList_append_own _ rfl _ _ 31 rfl (w.heap.size + 1) 9 i0 (.string ByteArray.empty) 1 16 Tryz.underlying31 hi hz0 hz1 hz2 rfl (by decide) _ _ _ rfl (hown2.alloc _) ⟨W1.heap.size, 0, none⟩ 1 1 [.string (s.extract start j)] rfl rfl (cell_one_new _ _ _) (fun x hx => by simp at hx; subst hx; rfl) (by unfold maxLen; omega) (by omega) (by simp; omega) ?_; intro v' w3 hown' hgrow3 hnil3)
       have hit3 : w3.heap[w.heap.size]? = some (.stringIter s (j + 1)) := by
         rw [hgrow3.block w.heap.size (by simp; omega) (fun h => by have := (hown2.lt _ h.symm).1; omega), Below.heap_alloc _ _ _ hBlt]; exact hit2
       have hbw3 : Below w.heap.size w w3 := Below.grown (hbw2.alloc (by omega) _) hgrow3 (by simp; omega) (fun k hk => by have := (hown2.lt _ hk).1; omega)
       go_roundw
       case rel =>
         refine ⟨j + 1, j + 1, done ++ [(s.data.toList.drop start).take (j - start)], hit3, by omega, by omega, ?_, by go_num, ?_, hbw3, HF2⟩
         · have := HD.out; have := HL.out; omega
         · rw [strV_extract] at hown'
           simpa using hown'
       case measure => rw [iterPos_of' hit3, hpos0]; omega
     · have hdn2 : Hid (∀ k, j ≤ k → k < j + (Utf8.decode s j).2 → ∀ hk : k < s.data.toList.length, s.data.toList[k] ≠ 47) := pieces_skip s j hp hsl
       have hwd : 1 ≤ (Utf8.decode s j).2 ∧ j + (Utf8.decode s j).2 ≤ s.size := decode_width s j hp
       have hne : (((Utf8.decode s j).1 : Int) == 47) = false := decode_not s j hp hsl
       have hit2 := Lib.iterAt_heap wr w.heap.size s j (j + (Utf8.decode s j).2) hit
       have hbw2 := Lib.below_iterAt hbw (k := w.heap.size) (Nat.le_refl _) s (j + (Utf8.decode s j).2)
       have hown2 := ownsRow_iterAt hown (k := w.heap.size) (by omega) s (j + (Utf8.decode s j).2)
       generalize hW1 : wr.iterAt w.heap.size s (j + (Utf8.decode s j).2) = W1 at *
       have HF2 : Hid _ := Pa.found_on HF.out _ hdn2.out (by omega)
       clear hW1 hit hown hbw
       go_wp2
       go_roundw
       case rel => exact ⟨_, start, done, hit2, by omega, by omega, hdn, rfl, hown2, hbw2, HF2⟩
       case measure => rw [iterPos_of' hit2, hpos0]; omega
   · have hnx : ∀ ty, (Instr.next (.pointer (some ⟨w.heap.size, 0, none⟩)) true ty).run Tryz.prog wr = _ := fun ty => Lib.run_next_end_at wr w.heap.size s j ty hit hp
     have HE : Hid _ := Pa.found_end HF.out (by have := HL.out; omega)
     have hz := lt_of_block' hit
     go_wp2_with (at_builtin; refine wpList_append_own _ rfl _ _ 31 rfl (w.heap.size + 1) 9 i0 (.string ByteArray.empty) 1 16 Tryz.underlying31 hi hz0 hz1 hz2 rfl (by decide) _ _ _ rfl (hown.alloc _) ⟨wr.heap.size, 0, none⟩ 1 1 [.string (s.extract start s.size)] rfl rfl (cell_one_new _ _ _) (fun x hx => by simp at hx; subst hx; rfl) (by unfold maxLen; omega) (by omega) (by simp; omega) ?_; intro v' w3 hown' hgrow3 hnil3)
     have hbw3 : Below w.heap.size w w3 := Below.grown (hbw.alloc (by omega) _) hgrow3 (by simp; omega) (fun k hk => by have := (hown.lt _ hk).1; omega)
     go_ret
     refine ⟨_, rfl, ?_, hbw3⟩
     rw [HE.out, strV_extract, List.take_of_length_le (by rw [List.length_drop]; have := HL.out; omega)] at *
     refine World.ownsRow_mono ?_ (Nat.le_succ _)
     simpa using hown'
theorem info_u8 : (Tryz.prog.info? 5).map (fun i => (i.zero, i.size, i.bytes)) = some (some (.int .u8 0), 1, 1) := by kernel_rfl
theorem setRow_below (w : World) (M : Array Value) (t : TypeId) (Y : Array Value) : Below w.heap.size w ((w.alloc (.cells M t)).setRow w.heap.size Y) :=
 ((Below.refl _ w).alloc (Nat.le_refl _) _).trans ⟨rfl, rfl, rfl, by simp, fun k hk => setRow_other _ _ _ _ (by omega)⟩
set_option maxRecDepth 100000 in
set_option maxHeartbeats 2000000 in
theorem slclone_c (s : ByteArray) (w : World) (h0 : 0 < s.size) (hl : s.size ≤ 1000) :
   Calls Tryz.prog 181 #[.string s] w fun e w' => e = .returned (.string s) ∧ Below w.heap.size w w' := by
 obtain ⟨i0, hi, hz0, hz1, hz2⟩ := info_parts info_u8
 have hlen : s.data.toList.length = s.size := rfl
 obtain ⟨M, hM⟩ : ∃ M, madeCells (Value.int .u8 0).cells (((s.size : Nat) : Int).toNat * i0.size) = M := ⟨_, rfl⟩
 have hMs : M.toList.length = s.size := by rw [← hM, Array.length_toList, size_madeCells, hz1]; simp
 have hmake : ∀ W : World, (Instr.makeSlice 37 (.int .i64 (s.size : Int)) (.int .i64 (s.size : Int))).run Tryz.prog W = .ok (.slice (some ⟨W.heap.size, 0, none⟩) s.size s.size) (W.alloc (.cells M 5)) := fun W => by
   have h := run_make (P := Tryz.prog) W 37 5 i0 (.int .u8 0) Tryz.underlying37 hi hz0 .i64 .i64 (s.size : Int) (s.size : Int) (by omega) (by omega) (by rw [hz2]; omega) (by omega)
   rw [hM] at h
   simpa using h
 have hcopy := Lib.run_copy_row_string (P := Tryz.prog) (w.alloc (.cells M 5)) 37 9 3 5 w.heap.size 0 s.size s.size s M 5 Tryz.underlying37 (by rw [hi]; simp [hz1]) (heap_alloc_new w _) (Nat.le_refl _) (by rw [← Array.length_toList]; omega)
 have hY : (M.toList.take 0 ++ Lib.byteCells s.data.toList ++ M.toList.drop (0 + s.size)) = Lib.byteCells s.data.toList := by
   rw [List.take_zero, List.nil_append, List.drop_of_length_le (by omega), List.append_nil]
 rw [hY] at hcopy
 obtain ⟨Y, hYe⟩ : ∃ Y, (Lib.byteCells s.data.toList).toArray = Y := ⟨_, rfl⟩
 rw [hYe] at hcopy
 have hYl : Y.toList = Lib.byteCells s.data.toList := by rw [← hYe]
 have hYs : Y.size = s.size := by rw [← Array.length_toList, hYl, Lib.byteCells_length, hlen]
 have hrow : ((w.alloc (.cells M 5)).setRow w.heap.size Y).heap[w.heap.size]? = some (.cells Y 5 (0, 0)) := setRow_heap _ _ M _ 5 (0, 0) (heap_alloc_new w _)
 have hread := Lib.run_unsafeString_row (P := Tryz.prog) ((w.alloc (.cells M 5)).setRow w.heap.size Y) 336 3 9 5 Tryz.underlying336 (by kernel_rfl) w.heap.size Y.size (by unfold World.shape?; rw [hrow]) s.data.toList (fun e => by have h9 := congrArg List.length e; rw [hlen, List.length_nil] at h9; omega) (by omega) (by omega)
   (fun j x hx => Lib.cells_of_row hrow Y.size j _ (by rw [List.take_of_length_le (by rw [Array.length_toList]; exact Nat.le_refl _), hYl]; simp [Lib.byteCells, hx]))
 rw [hlen] at hread
 have hne : ((s.size : Int) == 0) = false := beq_eq_false_iff_ne.2 (by omega)
 clear hM hY hYe hlen
 go_enter Tryz.func181, Tryz.ntmps181
 go_wp2
 go_ret
 exact ⟨rfl, Lib.below_freeze (setRow_below w M 5 Y) (p := ⟨w.heap.size, 0, none⟩) (Nat.le_refl _) _⟩
set_option maxHeartbeats 400000 in
theorem sclone_c (s : ByteArray) (w : World) (h0 : 0 < s.size) (hl : s.size ≤ 1000) :
   Calls Tryz.prog 115 #[.string s] w fun e w' => e = .returned (.string s) ∧ Below w.heap.size w w' := by
 go_enter Tryz.func115, Tryz.ntmps115
 go_wp2_with (go_at_call 181; refine (slclone_c _ _ h0 hl).mono ?_; rintro e w' ⟨rfl, hb⟩)
 go_ret
 exact ⟨rfl, hb⟩
set_option maxHeartbeats 400000 in
theorem slash_yes (s : ByteArray) (w : World) (hs : s.size ≤ 1000) (l : List UInt8) (hl : s.data.toList = 47 :: l) :
   Calls Tryz.prog 112 #[.string s, .string ⟨#[47]⟩] w fun e w' => e = .returned (.bool true) ∧ w' = w := by
 have h1 : 1 ≤ s.size := by have : s.data.toList.length = s.size := rfl; rw [hl] at this; simp at this; omega
 have e1 : ((s.extract 0 1).toList == [47]) = true := by rw [Lib.toList_data, Lib.extract_data, hl]; rfl
 clear hl
 go_enter Tryz.func112, Tryz.ntmps112
 go_wp2
 go_ret
 exact ⟨rfl, rfl⟩
set_option maxHeartbeats 400000 in
theorem slash_no (s : ByteArray) (w : World) (hs : s.size ≤ 1000) (hl : ∀ l, s.data.toList ≠ 47 :: l) :
   Calls Tryz.prog 112 #[.string s, .string ⟨#[47]⟩] w fun e w' => e = .returned (.bool false) ∧ w' = w := by
 by_cases h1 : s.size < 1
 · clear hl
   go_enter Tryz.func112, Tryz.ntmps112
   go_wp2
   go_ret
   exact ⟨rfl, rfl⟩
 · have e1 : ((s.extract 0 1).toList == [47]) = false := by
     rw [Lib.toList_data, Lib.extract_data]
     cases h : s.data.toList with
     | nil => rfl
     | cons c r =>
       have : c ≠ 47 := fun e => hl r (by rw [h, e])
       simpa using this
   clear hl
   go_enter Tryz.func112, Tryz.ntmps112
   go_wp2
   go_ret
   exact ⟨rfl, rfl⟩
theorem ownsRow_front {w : World} {base : Nat} {e : TypeId} {a : Option Addr} {n cap m : Nat} {xs : List Value} (h : w.ownsRow base e 1 (.slice a n cap) n xs) (hm : m ≤ n) : w.ownsRow base e 1 (.slice a m cap) m (xs.take m) := by
 obtain ⟨h1, h2⟩ := h
 refine ⟨by rw [List.length_take]; omega, ?_⟩
 rcases h2 with ⟨hv, hn⟩ | ⟨g, cap', cur, hv, b, c, d, e1, f, g1⟩
 · cases hv
   obtain rfl : m = 0 := by omega
   exact .inl ⟨rfl, rfl⟩
 · cases hv
   refine .inr ⟨g, cap, cur, rfl, b, c, by omega, e1, f, ?_⟩
   rw [← g1, List.take_take, Nat.mul_one, Nat.mul_one, Nat.min_eq_left hm]
theorem ownsRow_later {w w' : World} {base : Nat} {e : TypeId} {size : Nat} {v : Value} {n : Nat} {xs : List Value} (h : w.ownsRow base e size v n xs) (hb : Below w.heap.size w w') : w'.ownsRow base e size v n xs := by
 obtain ⟨h1, h2⟩ := h
 refine ⟨h1, ?_⟩
 rcases h2 with h2 | ⟨g, cap, cur, a, b, c, d⟩
 · exact .inl h2
 · exact .inr ⟨g, cap, cur, a, b, by rw [hb.block g (lt_of_block' c)]; exact c, d⟩
def SplitPost (l : List UInt8) (w : World) (e : Ending) (w' : World) : Prop :=
 ((∃ ns v, Pa.splitF l = some ns ∧ e = .returned (.tuple #[v, .int .i64 0]) ∧ w'.ownsRow w.heap.size 9 1 v ns.length (ns.map strV)) ∨ (Pa.splitF l = none ∧ e = .returned (.tuple #[.slice none 0 0, .int .i64 3]))) ∧ Below w.heap.size w w'
set_option maxHeartbeats 400000 in
theorem split_long (s : ByteArray) (w : World) (hs : s.size ≤ maxLen) (h : 120 < s.size) :
   Calls Tryz.prog 57 #[.string s] w (SplitPost s.data.toList w) := by
 unfold maxLen at hs
 have N : Hid (Pa.splitF s.data.toList = none) := by
   have hl : s.data.toList.length = s.size := rfl
   show _ = _
   unfold Pa.splitF; rw [if_neg (by omega)]
 have h' : (120 : Int) < (s.size : Int) := by omega
 go_enter Tryz.func57, Tryz.ntmps57
 go_wp2
 go_ret2
 exact ⟨.inr ⟨N.out, rfl⟩, Below.refl _ _⟩
set_option maxHeartbeats 400000 in
theorem split_noslash (s : ByteArray) (w : World) (h : s.size ≤ 120) (hl : ∀ l, s.data.toList ≠ 47 :: l) :
   Calls Tryz.prog 57 #[.string s] w (SplitPost s.data.toList w) := by
 have N : Hid (Pa.splitF s.data.toList = none) := by
   show _ = _
   unfold Pa.splitF; rw [if_neg]
   rintro ⟨_, h2⟩
   cases h3 : s.data.toList with
   | nil => rw [h3] at h2; simp at h2
   | cons c r => rw [h3] at h2; simp at h2; subst h2; exact hl r h3
 have HL := hid' hl
 clear hl
 go_enter Tryz.func57, Tryz.ntmps57
 go_wp2_with (go_at_call 112; refine (slash_no _ _ (by omega) HL.out).mono ?_; rintro e w' ⟨rfl, rfl⟩)
 go_ret2
 exact ⟨.inr ⟨N.out, rfl⟩, Below.refl _ _⟩
set_option maxRecDepth 100000 in
set_option maxHeartbeats 2000000 in
theorem split_slash (s : ByteArray) (w : World) (h : s.size ≤ 120) (l : List UInt8) (hl : s.data.toList = 47 :: l) :
   Calls Tryz.prog 57 #[.string s] w (SplitPost s.data.toList w) := by
 obtain ⟨i0, hi, hz0, hz1, hz2⟩ := info_parts info_str
 have hsz : s.data.toList.length = s.size := rfl
 have N : Hid (Pa.splitF s.data.toList = Pa.splitN [] (Pa.piecesF s.data.toList)) := by
   show _ = _
   unfold Pa.splitF; rw [if_pos ⟨by omega, by rw [hl]; rfl⟩]
 have hPl := Pa.pieces_length s.data.toList
 have HM : Hid (∀ p ∈ Pa.piecesF s.data.toList, p.length ≤ 120) := fun p hp => by
   have := Pa.pieces_mem s.data.toList p hp
   omega
 have hP0 : 0 < (Pa.piecesF s.data.toList).length := by
   rw [hl]; unfold Pa.piecesF; simp
 have HL := hid' hl
 rw [hsz] at hPl
 clear hl hsz
 go_enter Tryz.func57, Tryz.ntmps57
 go_wp2_with (first
   | (go_at_call 112; refine (slash_yes _ _ (by omega) _ HL.out).mono ?_; rintro e w2 ⟨rfl, rfl⟩)
   | (go_at_call 113; refine (pieces_c _ _ (by omega)).mono ?_; rintro e w1 ⟨v, rfl, hown0, hb0⟩; obtain ⟨g, cap, cur, rfl, -⟩ : ∃ g cap cur, v = .slice (some ⟨g, 0, none⟩) (Pa.piecesF s.data.toList).length cap ∧ cur = cap := (by rcases hown0.2 with ⟨_, h0⟩ | ⟨g, cap, cur, hv, _⟩; omega; exact ⟨g, cap, cap, hv, rfl⟩)))
 have HC : Hid (∀ (j : Nat) (u : Value), ((Pa.piecesF s.data.toList).map strV)[j]? = some u → w1.cell? ((⟨g, 0, none⟩ : Addr).add j) = some u) := hown0.cells rfl
 generalize Pa.piecesF s.data.toList = P at *
 clear hown0
 go_loopw [4, 6, 18] (fun v p i wr => ∃ (k : Nat) (acc : List (List UInt8)), k ≤ P.length ∧ i = .int .i64 k ∧ acc.length ≤ k ∧ wr.ownsRow w1.heap.size 9 1 v acc.length (acc.map strV) ∧ Below w1.heap.size w1 wr ∧ Hid (Pa.splitN acc (P.drop k) = Pa.splitN [] P)) (fun _ _ i _ => ((P.length : Int) - intOf i).toNat)
 case atStart => exact ⟨0, [], by omega, rfl, by simp, World.ownsRow_nil _ _ _ _, Below.refl _ _, rfl⟩
 case round =>
   obtain ⟨k, acc, hk, rfl, hak, hown, hbw, HS⟩ := hrel
   have hbz := hbw.size
   by_cases hlt : k < P.length
   · have HAt : Hid _ := Pa.splitN_at acc P k hlt
     obtain ⟨x, hx⟩ : ∃ x : ByteArray, x.data.toList = P[k] := ⟨⟨P[k].toArray⟩, rfl⟩
     have hcell : wr.cell? ⟨g, k, none⟩ = some (.string x) := by
       have h1 := HC.out k (.string x) (by rw [List.getElem?_map, List.getElem?_eq_getElem hlt, ← hx]; rfl)
       have h2 : (⟨g, 0, none⟩ : Addr).add k = ⟨g, k, none⟩ := by rcases k with _ | k <;> simp [Addr.add]
       rw [h2] at h1
       exact cell_later hbw h1
     have hxl : x.toList = P[k] := by rw [Lib.toList_data, hx]
     have HX := hid' hx
     have hx120 : x.size ≤ 120 := by
       have h1 := HM.out P[k] (List.getElem_mem hlt)
       rw [← hx] at h1; exact h1
     clear hx
     cases hA : decide (P[k] = []) with
     | true =>
       have e0 : P[k] = [] := of_decide_eq_true hA
       have b0 : x.toList.isEmpty = true := by rw [hxl, e0]; rfl
       have HT : Hid (Pa.splitN acc (P.drop (k + 1)) = Pa.splitN [] P) := by
         have h1 := HAt.out
         rw [e0, Pa.step_empty] at h1
         exact h1.symm.trans HS.out
       clear hA e0 hxl
       go_wp2
       go_roundw
       case rel => exact ⟨k + 1, acc, by omega, by go_num, by omega, hown, hbw, HT⟩
       case measure => simp [intOf]; omega
     | false =>
       have e0 : P[k] ≠ [] := of_decide_eq_false hA
       have b0 : x.toList.isEmpty = false := by rw [hxl]; cases h : P[k] with | nil => exact absurd h e0 | cons c r => rfl
       cases hB : decide (P[k] = [46]) with
       | true =>
         have e1 : P[k] = [46] := of_decide_eq_true hB
         have b1 : (x.toList == [46]) = true := by rw [hxl, e1]; rfl
         have HT : Hid (Pa.splitN acc (P.drop (k + 1)) = Pa.splitN [] P) := by
           have h1 := HAt.out
           rw [e1, Pa.step_dot] at h1
           exact h1.symm.trans HS.out
         clear hA hB e0 e1 hxl
         go_wp2
         go_roundw
         case rel => exact ⟨k + 1, acc, by omega, by go_num, by omega, hown, hbw, HT⟩
         case measure => simp [intOf]; omega
       | false =>
         have e1 : P[k] ≠ [46] := of_decide_eq_false hB
         have b1 : (x.toList == [46]) = false := by rw [hxl]; exact beq_eq_false_iff_ne.2 e1
         cases hC : decide (P[k] = [46, 46]) with
         | true =>
           have e2 : P[k] = [46, 46] := of_decide_eq_true hC
           have b2 : (x.toList == [46, 46]) = true := by rw [hxl, e2]; rfl
           have HT : Hid (Pa.splitN acc.dropLast (P.drop (k + 1)) = Pa.splitN [] P) := by
             have h1 := HAt.out
             rw [e2, Pa.step_dots] at h1
             exact h1.symm.trans HS.out
           clear hA hB hC e0 e1 e2 hxl
           rcases hown.2 with ⟨rfl, hn0⟩ | ⟨g2, cap2, cur2, rfl, hg2, hh2, hn2, hc2, hs2, ht2⟩
           · have h9 : acc = [] := List.eq_nil_of_length_eq_zero hn0
             subst h9
             clear hn0
             go_wp2
             go_roundw
             case rel => exact ⟨k + 1, [], by omega, by go_num, by simp, hown, hbw, HT⟩
             case measure => simp [intOf]; omega
           · have HO := hid' (ownsRow_front hown (m := acc.length - 1) (by omega))
             unfold maxLen at hc2
             clear hh2 hs2 ht2
             go_wp2
             go_roundw
             case rel =>
               refine ⟨k + 1, acc.dropLast, by omega, by go_num, by rw [List.length_dropLast]; omega, ?_, hbw, HT⟩
               first | rw [List.length_dropLast, show (if (acc.length : Int) - 1 < 0 then (0 : Int) else (acc.length : Int) - 1).toNat = acc.length - 1 from by split <;> omega] | rw [List.length_dropLast, show (max ((acc.length : Int) - 1) 0).toNat = acc.length - 1 from by omega]
               have h9 : (acc.map strV).take (acc.length - 1) = acc.dropLast.map strV := by rw [List.dropLast_eq_take, List.map_take]
               rw [← h9]
               exact HO.out
             case measure => simp [intOf]; omega
         | false =>
           have e2 : P[k] ≠ [46, 46] := of_decide_eq_false hC
           have b2 : (x.toList == [46, 46]) = false := by rw [hxl]; exact beq_eq_false_iff_ne.2 e2
           cases hD : Pa.nameB x.data.toList with
           | true =>
             have hn := Pa.name_len _ hD
             have hxs : x.data.toList.length = x.size := rfl
             rw [hxs] at hn
             have HT : Hid (Pa.splitN (acc ++ [P[k]]) (P.drop (k + 1)) = Pa.splitN [] P) := by
               have h1 := HAt.out
               rw [Pa.step_name acc P[k] (by rw [← HX.out]; exact hD)] at h1
               exact h1.symm.trans HS.out
             clear hA hB hC e0 e1 e2 hxl hxs
             go_wp2_with (first
               | (go_at_call 114; refine (name_c _ _ (by unfold maxLen; omega)).mono ?_; rintro e w3 ⟨rfl, hb3⟩; rw [hD])
               | (go_at_call 115; refine (sclone_c _ _ (by omega) (by omega)).mono ?_; rintro e w4 ⟨rfl, hb4⟩; (have hown4 := ownsRow_later (ownsRow_later hown hb3) hb4); (have hz4 := Nat.le_trans hb3.size hb4.size); clear hown)
               | (at_builtin; refine wpList_append_own _ rfl _ _ 31 rfl w1.heap.size 9 i0 (.string ByteArray.empty) 1 16 Tryz.underlying31 hi hz0 hz1 hz2 rfl (by decide) _ _ _ rfl (hown4.alloc _) ⟨w4.heap.size, 0, none⟩ 1 1 [.string x] rfl rfl (cell_one_new _ _ _) (fun y hy => by simp at hy; subst hy; rfl) (by unfold maxLen; omega) (by omega) (by simp; omega) ?_; intro v' w5 hown' hgrow5 hnil5))
             have hbw5 : Below w1.heap.size w1 w5 := Below.grown ((hbw.trans ((hb3.mono (by omega)).trans (hb4.mono (by have := hb3.size; omega)))).alloc (by omega) _) hgrow5 (by simp; omega) (fun k hk => (hown4.lt _ hk).1)
             go_roundw
             case rel =>
               refine ⟨k + 1, acc ++ [P[k]], by omega, by go_num, by simp; omega, ?_, hbw5, HT⟩
               have h9 : Value.string x = strV P[k] := by rw [← HX.out]; rfl
               rw [h9] at hown'
               simpa using hown'
             case measure => simp [intOf]; omega
           | false =>
             have HN : Hid (Pa.splitF s.data.toList = none) := by
               have h1 := HAt.out
               rw [Pa.step_bad acc P[k] e0 e1 e2 (by rw [← HX.out]; exact hD)] at h1
               show _ = _
               rw [N.out, ← HS.out, h1]; rfl
             clear hA hB hC e0 e1 e2 hxl
             go_wp2_with (go_at_call 114; refine (name_c _ _ (by unfold maxLen; omega)).mono ?_; rintro e w3 ⟨rfl, hb3⟩; rw [hD])
             go_ret2
             exact ⟨.inr ⟨HN.out, rfl⟩, hb0.trans ((hbw.mono hb0.size).trans (hb3.mono (by have := hb0.size; omega)))⟩
   · have e3 : k = P.length := by omega
     have HN : Hid (Pa.splitF s.data.toList = some acc) := by
       show _ = _
       rw [N.out, ← HS.out, e3, List.drop_length]; rfl
     clear e3
     go_wp2
     go_ret2
     exact ⟨.inl ⟨acc, _, HN.out, rfl, World.ownsRow_mono hown hb0.size⟩, hb0.trans (hbw.mono hb0.size)⟩
theorem split_c (s : ByteArray) (w : World) (hs : s.size ≤ maxLen) : Calls Tryz.prog 57 #[.string s] w (SplitPost s.data.toList w) := by
 by_cases h : s.size ≤ 120
 · cases hl : s.data.toList with
   | nil =>
     have := split_noslash s w h (fun l e => by rw [hl] at e; cases e)
     rw [hl] at this; exact this
   | cons c r =>
     by_cases hc : c = 47
     · subst hc
       have := split_slash s w h r hl
       rw [hl] at this; exact this
     · have := split_noslash s w h (fun l e => by rw [hl] at e; cases e; exact hc rfl)
       rw [hl] at this; exact this
 · exact split_long s w hs (by omega)
end Go.Proofs.YtfmghbennahlfaaGreat
namespace Go.Proofs.YtfmghbennahlfaaGreat
open Go.RowKit Go.ChangeShapes Go.WideShapes Go.ChangeAt
set_option linter.unusedVariables false
set_option linter.unusedSimpArgs false
set_option maxRecDepth 100000
theorem pl_none {l : List Nd} {f : Int} (h : getF l f = none) : plI l f = -1 := by
 unfold plI
 have e : l.findIdx? (fun x => x.fid == f) = none := by
   rw [List.findIdx?_eq_none_iff]
   intro x hx
   unfold getF at h
   rw [List.find?_eq_none] at h
   have := h x hx
   simpa using this
 rw [e]
theorem pl_some {l : List Nd} {f : Int} {x : Nd} (h : getF l f = some x) : ∃ i : Nat, plI l f = (i : Int) ∧ i < l.length ∧ l.getD i Nd.no = x := by
 induction l with
 | nil => cases h
 | cons y t ih =>
   unfold getF at h
   rw [List.find?_cons] at h
   cases e : y.fid == f with
   | true =>
     rw [e] at h
     cases h
     refine ⟨0, ?_, by simp, rfl⟩
     unfold plI
     simp only [List.findIdx?_cons, e, if_true]
   | false =>
     rw [e] at h
     obtain ⟨i, h1, h2, h3⟩ := ih h
     refine ⟨i + 1, ?_, by simpa using h2, by simpa [List.getD] using h3⟩
     unfold plI at h1 ⊢
     rw [List.findIdx?_cons, e]
     cases q : t.findIdx? (fun x => x.fid == f) with
     | none => rw [q] at h1; simp only at h1; omega
     | some k => rw [q] at h1; simp only at h1 ⊢; simp; omega
def plkI (o : Option Nd) (s : ByteArray) : Int := match o with
 | none => 0
 | some x => if x.k = 2 then (match kq x.ks s with | some q => q.fid | none => 0) else 0
def plkE (o : Option Nd) (s : ByteArray) : Int := match o with
 | none => 5
 | some x => if x.k = 2 then (match kq x.ks s with | some _ => 0 | none => 5) else 7
set_option maxHeartbeats 2000000 in
theorem tLook_c (a : Option Addr) (cap : Nat) (l : List Nd) (f : Int) (s : ByteArray) (w : World) (h : IsNs w a l) (hm : l.length ≤ 100000) (hk : ∀ x ∈ l, x.ks.length ≤ 100000) :
   Calls Tryz.prog 59 #[.slice a l.length cap, .int .u32 f, .string s] w fun e w' => e = .returned (.tuple #[.int .u32 (plkI (getF l f) s), .int .i64 (plkE (getF l f) s)]) ∧ Below w.heap.size w w' := by
 have PC := hid (placeOf_c a cap l f w h hm)
 cases hx : getF l f with
 | none =>
   rw [pl_none hx] at PC
   clear h hx hk
   generalize l.length = n at *
   show Calls _ _ _ _ fun e w' => e = .returned (.tuple #[.int .u32 0, .int .i64 5]) ∧ _
   go_enter Tryz.func59, Tryz.ntmps59
   go_wp2_with (go_at_call 60; refine PC.out.mono ?_; rintro _ w1 ⟨rfl, hb1⟩)
   go_ret2
   exact ⟨rfl, hb1⟩
 | some x =>
   obtain ⟨i, e1, e2, e3⟩ := pl_some hx
   rw [e1] at PC
   obtain ⟨b, off, rfl, _⟩ := h.2.2 (by omega)
   have hxm : x ∈ l := by rw [← e3]; exact getD_mem _ _ e2
   have hkx := hk x hxm
   have OKX := hid (h.2.1 x hxm)
   have HA := hid (h.at (i := i) e2)
   rw [e3] at HA
   have e2I : (i : Int) < l.length := by omega
   clear h hx hk e1 e3 hxm
   generalize l.length = n at *
   by_cases hk2 : x.k = 2
   · have CC : Hid (∀ W, Below w.heap.size w W → W.cell? ⟨b, off + i * 6 + 1, none⟩ = some (.int .u8 2)) := hid (fun W hW => by have := (HA.out.later hW).all.2.1; rw [hk2] at this; exact this)
     have EC : Hid (∀ W, Below w.heap.size w W → Calls Tryz.prog 121 #[.pointer (some ⟨b, off + i * 6, none⟩), .string s] W fun e w' => e = .returned (.int .i64 (enI x.ks s)) ∧ Below W.heap.size W w') := hid (fun W hW => entryOf_c b (off + i * 6) x s W (HA.out.later hW).all.2.2.2.2.2 (OKX.out.later hW).2.2.2.2.2 hkx)
     cases hq : kq x.ks s with
     | none =>
       have e9 := en_none hq
       rw [e9] at EC
       have R1 : plkI (some x) s = 0 := by unfold plkI; simp only [if_pos hk2, hq]
       have R2 : plkE (some x) s = 5 := by unfold plkE; simp only [if_pos hk2, hq]
       rw [R1, R2]
       clear R1 R2 hq e9 OKX HA hk2 hkx
       go_enter Tryz.func59, Tryz.ntmps59
       go_wp2_with (first
         | (go_at_call 60; refine PC.out.mono ?_; rintro _ w1 ⟨rfl, hb1⟩; have B1 := hid hb1; clear hb1; have c1 := CC.out w1 B1.out; have E1 := hid (EC.out w1 B1.out))
         | (go_at_call 121; refine E1.out.mono ?_; rintro _ w2 ⟨rfl, hb2⟩; have B2 := hid (B1.out.trans (hb2.mono B1.out.size)); clear hb2))
       go_ret2
       exact ⟨rfl, B2.out⟩
     | some q =>
       obtain ⟨k, e9, k2, k3⟩ := en_some hq
       rw [e9] at EC
       have R1 : plkI (some x) s = q.fid := by unfold plkI; simp only [if_pos hk2, hq]
       have R2 : plkE (some x) s = 0 := by unfold plkE; simp only [if_pos hk2, hq]
       rw [R1, R2]
       obtain ⟨b2, off2, hka, _⟩ := OKX.out.2.2.2.2.2.2.2 (by omega)
       have K5 : Hid (∀ W, Below w.heap.size w W → W.cell? ⟨b, off + i * 6 + 5, none⟩ = some (.slice (some ⟨b2, off2, none⟩) x.ks.length x.kc)) := hid (fun W hW => by have := (HA.out.later hW).all.2.2.2.2.2; rw [hka] at this; exact this)
       have K1 : Hid (∀ W, Below w.heap.size w W → W.cell? ⟨b2, off2 + k * 2 + 1, none⟩ = some (.int .u32 q.fid)) := hid (fun W hW => by
         have h2 := (OKX.out.later hW).2.2.2.2.2
         rw [hka] at h2
         have h3 := (h2.at (i := k) k2).2
         rw [k3] at h3
         exact h3)
       have k2I : (k : Int) < x.ks.length := by omega
       clear R1 R2 hq e9 OKX HA hk2 k3 hka
       generalize x.ks.length = nk at *
       generalize x.kc = kc at *
       generalize q.fid = qf at *
       go_enter Tryz.func59, Tryz.ntmps59
       go_wp2_with (first
         | (go_at_call 60; refine PC.out.mono ?_; rintro _ w1 ⟨rfl, hb1⟩; have B1 := hid hb1; clear hb1; have c1 := CC.out w1 B1.out; have E1 := hid (EC.out w1 B1.out))
         | (go_at_call 121; refine E1.out.mono ?_; rintro _ w2 ⟨rfl, hb2⟩; have B2 := hid (B1.out.trans (hb2.mono B1.out.size)); clear hb2; have c5 := K5.out w2 B2.out; have c6 := K1.out w2 B2.out))
       go_ret2
       exact ⟨rfl, B2.out⟩
   · have CC : Hid (∀ W, Below w.heap.size w W → W.cell? ⟨b, off + i * 6 + 1, none⟩ = some (.int .u8 x.k)) := hid (fun W hW => (HA.out.later hW).all.2.1)
     have hkb : (x.k != 2) = true := by simp [hk2]
     have R1 : plkI (some x) s = 0 := by unfold plkI; simp only [if_neg hk2]
     have R2 : plkE (some x) s = 7 := by unfold plkE; simp only [if_neg hk2]
     rw [R1, R2]
     clear R1 R2 OKX HA hkx
     generalize x.k = xk at *
     go_enter Tryz.func59, Tryz.ntmps59
     go_wp2_with (go_at_call 60; refine PC.out.mono ?_; rintro _ w1 ⟨rfl, hb1⟩; have B1 := hid hb1; clear hb1; have c1 := CC.out w1 B1.out)
     go_ret2
     exact ⟨rfl, B1.out⟩
theorem RowAt.setLow {w : World} {base : Nat} {t : TypeId} {p : Option Addr} {vs : List Value} (h : RowAt w base t p vs) {g o : Nat} {v : Value} (hg : g < base) : RowAt (w.setCell ⟨g, o, none⟩ v) base t p vs := by
 rcases h with h | ⟨k, cs, fr, h1, h2, h3, h4⟩
 · exact .inl h
 · exact .inr ⟨k, cs, fr, h1, h2, by rw [heap_setCell_other _ _ _ _ (by show k ≠ g; omega)]; exact h3, h4⟩
theorem NdR.setLow {w : World} {base : Nat} {x : Nd} (h : NdR w base x) {g o : Nat} {v : Value} (hg : g < base) : NdR (w.setCell ⟨g, o, none⟩ v) base x := ⟨h.1, h.2.1, h.2.2.1.setLow hg, h.2.2.2.setLow hg⟩
def baF (l : List UInt8) : ByteArray := ⟨l.toArray⟩
def NmR (w : World) (v : Value) (ns : List (List UInt8)) : Prop := ∃ a cap, v = .slice a ns.length cap ∧ ns.length ≤ cap ∧ (0 < ns.length → ∃ b off, a = some ⟨b, off, none⟩ ∧ ∀ i, i < ns.length → w.cell? ⟨b, off + i, none⟩ = some (.string (baF (ns.getD i []))))
theorem NmR.later {w w' : World} {v : Value} {ns : List (List UInt8)} (h : NmR w v ns) (hb : Below w.heap.size w w') : NmR w' v ns := by
 obtain ⟨a, cap, h1, h2, h3⟩ := h
 refine ⟨a, cap, h1, h2, fun hp => ?_⟩
 obtain ⟨b, off, e, hc⟩ := h3 hp
 exact ⟨b, off, e, fun i hi => cell_later hb (hc i hi)⟩
theorem NmR.own {w : World} {base : Nat} {v : Value} {ns : List (List UInt8)} (h : w.ownsRow base 9 1 v ns.length (ns.map strV)) : NmR w v ns := by
 rcases h.2 with ⟨e, e0⟩ | ⟨g, cap, cur, e, hb, hg, h1, h2, h3, h4⟩
 · exact ⟨none, 0, by rw [e, e0], by omega, fun hp => by omega⟩
 · refine ⟨_, cap, e, h1, fun _ => ⟨g, 0, rfl, fun i hi => ?_⟩⟩
   have h9 : cur[0 + i]? = some (.string (baF (ns.getD i []))) := by
     rw [Nat.zero_add, ← Array.getElem?_toList]
     have h8 : (cur.toList.take (ns.length * 1))[i]? = (ns.map strV)[i]? := by rw [h4]
     rw [List.getElem?_take_of_lt (by omega), List.getElem?_map] at h8
     rw [h8, List.getD, List.getElem?_eq_getElem hi]
     rfl
   rw [Nat.zero_add] at h9 ⊢
   exact cell_of_row2 hg i h9
def fnL (l : List Nd) : Int → List (List UInt8) → Int × Int
 | at_, [] => (at_, 0)
 | at_, nm :: ns => if plkE (getF l at_) (baF nm) = 0 then fnL l (plkI (getF l at_) (baF nm)) ns else (0, plkE (getF l at_) (baF nm))
theorem rightT_c (a : Option Addr) (cap : Nat) (l : List Nd) (w : World) (h : IsNs w a l) (hm : l.length ≤ 100000) :
   Calls Tryz.prog 58 #[.slice a l.length cap] w fun e w' => e = .returned (.bool (rightD l)) ∧ Below w.heap.size w w' := by
 refine (right_c a cap l w h hm).mono ?_
 rintro e w' ⟨b, rfl, h1, h2⟩
 refine ⟨?_, h2⟩
 rw [rightD_iff] at h1
 have : b = rightD l := by
   cases b <;> cases q : rightD l <;> simp_all
 rw [this]
def FnP (r : Int × Int) (w : World) (e : Ending) (w' : World) : Prop := e = .returned (.tuple #[.int .u32 r.1, .int .i64 r.2]) ∧ Below w.heap.size w w'
def Leads (l : List Nd) : Prop := ∀ f s, plkE (getF l f) s = 0 → ∃ y, getF l (plkI (getF l f) s) = some y
set_option maxHeartbeats 4000000 in
theorem tFind_c (a : Option Addr) (cap : Nat) (l : List Nd) (s : ByteArray) (ns : List (List UInt8)) (w : World) (h : IsNs w a l) (hm : l.length ≤ 40) (hk : ∀ x ∈ l, x.ks.length ≤ 100000) (hn3 : ∀ x ∈ l, x.k ≠ 3) (hr : rightD l = true) (hl : Leads l) (hs : s.size ≤ 1000) (hsp : Pa.splitF s.data.toList = some ns) :
   Calls Tryz.prog 26 #[.slice a l.length cap, .string s] w (FnP (fnL l 1 ns) w) := by
 have SC := hid (split_c s w (by unfold maxLen; omega))
 have SP := hid hsp
 have H := hid h
 have RC : Hid (∀ W, Below w.heap.size w W → Calls Tryz.prog 58 #[.slice a l.length cap] W fun e w' => e = .returned (.bool true) ∧ Below W.heap.size W w') := hid (fun W hW => by have := rightT_c a cap l W (h.later hW) (by omega); rw [hr] at this; exact this)
 have LC : Hid (∀ W f s, Below w.heap.size w W → Calls Tryz.prog 59 #[.slice a l.length cap, .int .u32 f, .string s] W fun e w' => e = .returned (.tuple #[.int .u32 (plkI (getF l f) s), .int .i64 (plkE (getF l f) s)]) ∧ Below W.heap.size W w') := hid (fun W f s hW => tLook_c a cap l f s W (h.later hW) (by omega) hk)
 have PC : Hid (∀ W f, Below w.heap.size w W → Calls Tryz.prog 60 #[.slice a l.length cap, .int .u32 f] W fun e w' => e = .returned (.int .i64 (plI l f)) ∧ Below W.heap.size W w') := hid (fun W f hW => placeOf_c a cap l f W (h.later hW) (by omega))
 have LD := hid hl
 have N3 := hid hn3
 obtain ⟨R, HR⟩ : ∃ R, Hid (fnL l 1 ns = R) := ⟨_, hid rfl⟩
 rw [HR.out]
 obtain ⟨n, hn⟩ : ∃ n, n = l.length := ⟨_, rfl⟩
 have HN := hid hn
 rw [← hn] at RC LC PC hm ⊢
 clear h hk hn3 hr hl hsp hn
 go_enter Tryz.func26, Tryz.ntmps26
 go_upto_region 2 with (go_at_call 57; refine SC.out.mono ?_; rintro _ w1 ⟨⟨ns', v, hsn, rfl, hown⟩ | ⟨hsn, rfl⟩, hb1⟩)
 rotate_left
 · exact absurd (SP.out.symm.trans hsn) (by simp)
 · have hns : ns' = ns := by have := SP.out.symm.trans hsn; simp only [Option.some.injEq] at this; exact this.symm
   subst hns
   have NR := hid (NmR.own hown)
   have B1 := hid hb1
   clear hown hb1 SC SP hsn
   have RC1 := hid (RC.out w1 B1.out)
   obtain ⟨a0, cap0, rfl, _⟩ := NR.out
   go_wp2_with (go_at_call 58; refine RC1.out.mono ?_; rintro _ w2 ⟨rfl, hb2⟩; have B2 := hid (B1.out.trans (hb2.mono B1.out.size)); have NR2 := hid (NR.out.later hb2); clear hb2)
   clear RC RC1 NR
   go_loopg [6, 8, 9] ns'.length (fun gk v6 v8 v9 wr => ∃ (at_ : Int) (ns : List (List UInt8)), ns.length = gk ∧ v8 = .int .u32 at_ ∧ v9 = .int .i64 0 ∧ Hid (NmR wr v6 ns) ∧ Hid (fnL l at_ ns = R) ∧ Hid (Below w.heap.size w wr))
   case atStart => exact ⟨1, ns', rfl, rfl, rfl, NR2, HR, B2⟩
   case round =>
     clear NR2 B2 HR
     obtain ⟨at_, ns, rfl, rfl, rfl, NX, FX, BX⟩ := hrel
     obtain ⟨a1, cap1, hv6, hcap1, hce⟩ := NX.out
     subst hv6
     cases ns with
     | nil =>
       have ER : Hid (R = (at_, 0)) := hid FX.out.symm
       clear hce
       go_wp2
       go_ret2
       rw [ER.out]
       exact ⟨rfl, BX.out⟩
     | cons nm ns =>
       obtain ⟨b1, off1, rfl, hc⟩ := hce (by simp)
       have c0 := hc 0 (by simp)
       have HC := hid hc
       clear hc hce
       simp only [Nat.add_zero, List.getD_cons_zero] at c0
       obtain ⟨nk, Hnk⟩ : ∃ nk, Hid (nk = ns.length) := ⟨_, hid rfl⟩
       have hlen : (nm :: ns).length = nk + 1 := by rw [Hnk.out]; rfl
       have LC1 := hid (LC.out wr at_ (baF nm) BX.out)
       rw [hlen]
       rw [hlen] at hcap1
       by_cases he : plkE (getF l at_) (baF nm) = 0
       · obtain ⟨y, hy⟩ := LD.out at_ (baF nm) he
         have FX2 : Hid (fnL l (plkI (getF l at_) (baF nm)) ns = R) := hid (by have := FX.out; rw [fnL, if_pos he] at this; exact this)
         rw [he] at LC1
         obtain ⟨i, e1, e2, e3⟩ := pl_some hy
         have PC1 := PC.out
         generalize plkI (getF l at_) (baF nm) = f at *
         rw [← HN.out] at e2
         have e2I : (i : Int) < (n : Int) := by omega
         obtain ⟨b, off, rfl, _⟩ := H.out.2.2 (by have := HN.out; omega)
         have K1 : Hid (∀ W, Below w.heap.size w W → W.cell? ⟨b, off + i * 6 + 1, none⟩ = some (.int .u8 y.k)) := hid (fun W hW => by have := ((H.out.later hW).at (i := i) (by rw [← HN.out]; exact e2)).all.2.1; rw [e3] at this; exact this)
         have hy3 : y.k ≠ 3 := N3.out y (by rw [← e3]; exact getD_mem _ _ (by rw [← HN.out]; exact e2))
         have hyb : (y.k != 3) = true := by simp [hy3]
         have PC2 : Hid (∀ W, Below w.heap.size w W → Calls Tryz.prog 60 #[.slice (some ⟨b, off, none⟩) n cap, .int .u32 f] W fun e w' => e = .returned (.int .i64 (i : Int)) ∧ Below W.heap.size W w') := hid (fun W hW => by have := PC1 W f hW; rw [e1] at this; exact this)
         clear PC1 e1 e3 hy he FX hy3
         generalize y.k = yk at *
         go_upto_region 9 with (go_at_call 59; refine LC1.out.mono ?_; rintro _ w3 ⟨rfl, hb3⟩; have B3 := hid (BX.out.trans (hb3.mono BX.out.size)); have Z3 := hid hb3; clear hb3)
         have hc1 : 1 ≤ cap1 := by omega
         have hc1I : (1 : Int) ≤ (cap1 : Int) := by omega
         go_region
         have B4 := hid (B3.out.drew)
         have NW : Hid (NmR w3.drew (.slice (if cap1 = 1 then some ⟨b1, off1, none⟩ else some ⟨b1, off1 + 1, none⟩) nk (cap1 - 1)) ns) := hid (by
           refine ⟨_, cap1 - 1, by rw [Hnk.out], by rw [← Hnk.out]; omega, fun hp => ⟨b1, off1 + 1, by rw [if_neg (by have := Hnk.out; omega)], fun j hj => ?_⟩⟩
           have h7 := HC.out (j + 1) (by simpa using hj)
           have h8 : w3.cell? ⟨b1, off1 + (j + 1), none⟩ = some (.string (baF ((nm :: ns).getD (j + 1) []))) := cell_later Z3.out h7
           rw [List.getD_cons_succ] at h8
           rw [show off1 + 1 + j = off1 + (j + 1) by omega]
           exact h8)
         generalize (if cap1 = 1 then some (⟨b1, off1, none⟩ : Addr) else some ⟨b1, off1 + 1, none⟩) = a9 at *
         generalize w3.drew = w4 at *
         have PC3 := hid (PC2.out w4 B4.out)
         go_wp2_with (go_at_call 60; refine PC3.out.mono ?_; rintro _ w5 ⟨rfl, hb5⟩; have B5 := hid (B4.out.trans (hb5.mono B4.out.size)); have N5 := hid (NW.out.later hb5); clear hb5; have k1 := K1.out w5 B5.out)
         go_roundg ns.length
         case measure => simp
         case rel => exact ⟨f, ns, rfl, rfl, rfl, N5, FX2, B5⟩
       · have heb : (plkE (getF l at_) (baF nm) != 0) = true := by simp [he]
         have ER : Hid (R = (0, plkE (getF l at_) (baF nm))) := hid (by rw [← FX.out, fnL, if_neg he])
         generalize plkE (getF l at_) (baF nm) = ee at *
         generalize plkI (getF l at_) (baF nm) = ff at *
         go_wp2_with (go_at_call 59; refine LC1.out.mono ?_; rintro _ w3 ⟨rfl, hb3⟩; have B3 := hid (BX.out.trans (hb3.mono BX.out.size)); clear hb3)
         go_ret2
         rw [ER.out]
         exact ⟨rfl, B3.out⟩
end Go.Proofs.YtfmghbennahlfaaGreat
