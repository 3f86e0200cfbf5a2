import Derived.Test.YtdbllggcomllgacDoorRows
import Derived.Test.YtdbllggcomllgacDoorPMath
import Derived.WalkKit
import Derived.ProofKit
import Derived.OpenShut
import Derived.ShutString
import Derived.WalkSpells
import Derived.WalkLawsBesides
import Derived.Deep.QuietTactic
import Derived.BigQuiet
import Derived.Lib.OthersKept
import Derived.Lib.BufferWrite
import Derived.Lib.UnsafeStr
import Derived.Laws.MakeOwn
import Derived.Deep.LoopGhost
import Derived.Lib.Strings
import Derived.Lib.IndexBytes
namespace Go.Proofs.YtdbllggcomllgacDoor
open Go.RowKit Go.ChangeShapes Go.WideShapes Go.ChangeAt
set_option linter.unusedVariables false
set_option linter.unusedSimpArgs false
theorem ret_bool' {a b : Bool} (h : a = b) : Ending.returned (.bool a) = .returned (.bool b) := by rw [h]
theorem hid' {p : Prop} (h : p) : Hid p := h
set_option maxHeartbeats 1000000 in
theorem inName_c (r : Int) (w : World) :
    Calls Tryd.prog 27 #[.int .i32 r] w fun e w' => e = .returned (.bool (Pa.okR r)) ∧ w' = w := by
  go_enter Tryd.func27, Tryd.ntmps27
  go_wp2
  all_goals go_ret
  all_goals exact ⟨ret_bool' (by first | rfl | (rw [Bool.eq_iff_iff]; simp [Pa.okR]; done) | (rw [Bool.eq_iff_iff]; simp [Pa.okR]; omega)), rfl⟩
set_option maxHeartbeats 1000000 in
theorem name_c (s : ByteArray) (w : World) (hs : s.size ≤ maxLen) :
    Calls Tryd.prog 21 #[.string s] w fun e w' => e = .returned (.bool (Pa.nameB s.data.toList)) ∧ Below w.heap.size w w' := by
  have hlen : s.data.toList.length = s.size := rfl
  unfold maxLen at hs
  by_cases h1 : s.size < 1
  · have N := hid' (Pa.nameB_short s.data.toList (by omega))
    go_enter Tryd.func21, Tryd.ntmps21
    go_wp2
    go_ret
    exact ⟨ret_bool' N.out.symm, Below.refl _ _⟩
  · by_cases h2 : 12 < s.size
    · have N := hid' (Pa.nameB_long s.data.toList (by omega))
      go_enter Tryd.func21, Tryd.ntmps21
      go_wp2
      go_ret
      exact ⟨ret_bool' N.out.symm, Below.refl _ _⟩
    · cases h3 : (s.toList == [46]) with
      | true =>
        have N : Hid (Pa.nameB s.data.toList = false) := by
          have : s.data.toList = [46] := by rw [← Lib.toList_data]; exact beq_iff_eq.1 h3
          show _ = _
          rw [this]; exact Pa.nameB_dot
        go_enter Tryd.func21, Tryd.ntmps21
        go_wp2
        go_ret
        exact ⟨ret_bool' N.out.symm, Below.refl _ _⟩
      | false =>
        cases h4 : (s.toList == [46, 46]) with
        | true =>
          have N : Hid (Pa.nameB s.data.toList = false) := by
            have : s.data.toList = [46, 46] := by rw [← Lib.toList_data]; exact beq_iff_eq.1 h4
            show _ = _
            rw [this]; exact Pa.nameB_dots
          go_enter Tryd.func21, Tryd.ntmps21
          go_wp2
          go_ret
          exact ⟨ret_bool' N.out.symm, Below.refl _ _⟩
        | false =>
          have N : Hid (Pa.nameB s.data.toList = s.data.toList.all Pa.okC) := Pa.nameB_mid _ (by omega) (by omega) (by rw [← Lib.toList_data]; exact h3) (by rw [← Lib.toList_data]; exact h4)
          have g1 : decide ((s.size : Int) < 1) = false := by simp; omega
          have g2 : decide ((12 : Int) < (s.size : Int)) = false := by simp; omega
          have HL := hid' hlen
          clear hlen
          go_enter Tryd.func21, Tryd.ntmps21
          go_wp2
          go_loopw [4] (fun r wr => ∃ j : Nat, wr = w.iter s j ∧ j ≤ s.size ∧ Hid ((s.data.toList.take j).all Pa.okC = true)) (fun _ wr => s.size - wr.iterPos w.heap.size)
          case atStart => exact ⟨0, rfl, by omega, by simp [Hid]⟩
          case round =>
            obtain ⟨j, rfl, hj, HA⟩ := hrel
            have hpos := World.iterPos_iter w s j
            by_cases hp : j < s.size
            · by_cases ha : (s[j]'hp).toNat < 128
              · have hnx := fun ty => run_next_ascii (P := Tryd.prog) w s j ty hp ha
                cases hc : Pa.okR ((s[j]'hp).toNat : Int) with
                | true =>
                  have HB : Hid ((s.data.toList.take (j + 1)).all Pa.okC = true) := Pa.all_take_succ s.data.toList j (by have := HL.out; omega) HA.out (by unfold Pa.okC; exact hc)
                  go_wp2_with (go_at_call 27; refine (inName_c _ _).mono ?_; rintro e w' ⟨rfl, rfl⟩)
                  go_roundw
                  case rel => exact ⟨j + 1, rfl, by omega, HB⟩
                  case measure => rw [World.iterPos_iter, World.iterPos_iter]; omega
                | false =>
                  have HB : Hid (s.data.toList.all Pa.okC = false) := Pa.all_bad s.data.toList j (by have := HL.out; omega) (by unfold Pa.okC; exact hc)
                  go_wp2_with (go_at_call 27; refine (inName_c _ _).mono ?_; rintro e w' ⟨rfl, rfl⟩)
                  go_ret
                  exact ⟨ret_bool' (by rw [N.out, HB.out]), (Below.refl _ _).alloc (Nat.le_refl _) _⟩
              · have hnx := fun ty => run_next_any (P := Tryd.prog) w s j ty hp
                have hd := decode_high s j hp (by omega)
                have hc : Pa.okR ((Utf8.decode s j).1 : Int) = false := Pa.okR_high _ (by omega)
                have HB : Hid (s.data.toList.all Pa.okC = false) := Pa.all_bad s.data.toList j (by have := HL.out; omega) (by unfold Pa.okC; exact Pa.okR_high _ (by have h' : (s.data.toList[j]'(by have := HL.out; omega)) = s[j]'hp := rfl; rw [h']; omega))
                go_wp2_with (go_at_call 27; refine (inName_c _ _).mono ?_; rintro e w' ⟨rfl, rfl⟩)
                go_ret
                exact ⟨ret_bool' (by rw [N.out, HB.out]), (Below.refl _ _).alloc (Nat.le_refl _) _⟩
            · have hnx := fun ty => run_next_end (P := Tryd.prog) w s j ty hp
              go_wp2
              go_ret
              exact ⟨ret_bool' (by rw [N.out]; have := HA.out; rw [List.take_of_length_le (by have := HL.out; omega)] at this; exact this.symm), (Below.refl _ _).alloc (Nat.le_refl _) _⟩
theorem info_str : (Tryd.prog.info? 9).map (fun i => (i.zero, i.size, i.bytes)) = some (some (.string ByteArray.empty), 1, 16) := by kernel_rfl
/-- A text as a value. -/
def strV (l : List UInt8) : Value := .string ⟨l.toArray⟩
theorem strV_extract (s : ByteArray) (a b : Nat) : Value.string (s.extract a b) = strV ((s.data.toList.drop a).take (b - a)) := by
  unfold strV
  rw [← Lib.extract_data]
theorem strV_self (s : ByteArray) : strV s.data.toList = .string s := by unfold strV; rfl
theorem byte_at (s : ByteArray) (j : Nat) (h : j < s.size) : s.data.toList[j]'h = s[j]'h := rfl
theorem lt_of_block' {w : World} {k : Nat} {o : Obj} (h : w.heap[k]? = some o) : k < w.heap.size := (Array.getElem?_eq_some_iff.1 h).1
theorem iterPos_of' {w : World} {k : Nat} {s : ByteArray} {p : Nat} (h : w.heap[k]? = some (.stringIter s p)) : w.iterPos k = p := by simp [World.iterPos, h]
theorem get_list (s : ByteArray) (k : Nat) (h : k < s.size) : s.get! k = s.data.toList[k]'h := by
  exact get_at s k h
theorem decode_width (s : ByteArray) (j : Nat) (hp : j < s.size) : 1 ≤ (Utf8.decode s j).2 ∧ j + (Utf8.decode s j).2 ≤ s.size := by
  by_cases ha : (s[j]'hp).toNat < 128
  · rw [decode_ascii s j hp ha]; simp; omega
  · have h1 := (decode_high s j hp (by omega)).2
    have h2 := (Pa.decode_skip s j hp (by omega) ((Utf8.decode s j).2 - 1) (by omega)).1
    omega
theorem decode_not (s : ByteArray) (j : Nat) (hp : j < s.size) (hsl : ¬ (s[j]'hp) = 47) : (((Utf8.decode s j).1 : Int) == 47) = false := by
  by_cases ha : (s[j]'hp).toNat < 128
  · rw [decode_ascii s j hp ha]
    rw [beq_eq_false_iff_ne]
    intro e
    apply hsl
    apply UInt8.toNat_inj.1
    have : (47 : UInt8).toNat = 47 := rfl
    rw [this]
    simp at e
    omega
  · have h1 := (decode_high s j hp (by omega)).1
    rw [beq_eq_false_iff_ne]; omega
theorem pieces_skip (s : ByteArray) (j : Nat) (hp : j < s.size) (hsl : ¬ (s[j]'hp) = 47) : ∀ k, j ≤ k → k < j + (Utf8.decode s j).2 → ∀ hk : k < s.data.toList.length, s.data.toList[k] ≠ 47 := by
  intro k h1 h2 hk
  by_cases ha : (s[j]'hp).toNat < 128
  · rw [decode_ascii s j hp ha] at h2
    obtain rfl : k = j := by simp at h2; omega
    rw [byte_at s k hp]; exact hsl
  · have h3 := (Pa.decode_skip s j hp (by omega) (k - j) (by omega)).2
    rw [show j + (k - j) = k from by omega, get_list s k hk] at h3
    intro e
    rw [e] at h3
    exact absurd h3 (by decide)
theorem World.ownsRow_mono {w : World} {base base' : Nat} {e : TypeId} {size : Nat} {v : Value} {n : Nat} {xs : List Value} (h : w.ownsRow base e size v n xs) (hb : base' ≤ base) : w.ownsRow base' e size v n xs := by
  obtain ⟨h1, h2⟩ := h
  refine ⟨h1, ?_⟩
  rcases h2 with h2 | ⟨g, cap, cur, a, b, c⟩
  · exact .inl h2
  · exact .inr ⟨g, cap, cur, a, Nat.le_trans hb b, c⟩
set_option maxRecDepth 100000 in
set_option maxHeartbeats 2000000 in
theorem pieces_c (s : ByteArray) (w : World) (hs : s.size ≤ 1000) :
    Calls Tryd.prog 23 #[.string s] w fun e w' => ∃ v, e = .returned v ∧ w'.ownsRow w.heap.size 9 1 v (Pa.piecesF s.data.toList).length ((Pa.piecesF s.data.toList).map strV) ∧ Below w.heap.size w w' := by
  obtain ⟨i0, hi, hz0, hz1, hz2⟩ := info_parts info_str
  have HL : Hid (s.data.toList.length = s.size) := rfl
  go_enter Tryd.func23, Tryd.ntmps23
  go_wp2
  go_loopw [3, 4, 5, 6] (fun v st a b wr => ∃ (j start : Nat) (done : List (List UInt8)), wr.heap[w.heap.size]? = some (.stringIter s j) ∧ j ≤ s.size ∧ start ≤ j ∧ done.length ≤ s.size ∧ st = .int .i64 start ∧ wr.ownsRow (w.heap.size + 1) 9 1 v done.length (done.map strV) ∧ Below w.heap.size w wr ∧ Hid (Pa.Found s.data.toList start j done)) (fun _ _ _ _ wr => s.size - wr.iterPos w.heap.size)
  case atStart => exact ⟨0, 0, [], World.iter_heap w s 0, by omega, by omega, by simp, rfl, World.ownsRow_nil _ _ _ _, (Below.refl _ _).alloc (Nat.le_refl _) _, Pa.found_zero _⟩
  case round =>
    obtain ⟨j, start, done, hit, hj, hst, hdn, rfl, hown, hbw, HF⟩ := hrel
    have hpos0 := iterPos_of' hit
    by_cases hp : j < s.size
    · have hnx : ∀ ty, (Instr.next (.pointer (some ⟨w.heap.size, 0, none⟩)) true ty).run Tryd.prog wr = _ := fun ty => Lib.run_next_any_at wr w.heap.size s j ty hit hp
      by_cases hsl : (s[j]'hp) = 47
      · have hdec := decode_ascii s j hp (by rw [hsl]; decide)
        rw [hdec, hsl] at hnx
        have hit2 := Lib.iterAt_heap wr w.heap.size s j (j + 1) hit
        have hbw2 := Lib.below_iterAt hbw (k := w.heap.size) (Nat.le_refl _) s (j + 1)
        have hown2 := ownsRow_iterAt hown (k := w.heap.size) (by omega) s (j + 1)
        generalize hW1 : wr.iterAt w.heap.size s (j + 1) = W1 at *
        have hBlt := lt_of_block' hit2
        have HF2 : Hid _ := Pa.found_cut HF.out (by have := HL.out; omega) (by rw [byte_at s j hp]; exact hsl)
        have HD : Hid _ := Pa.found_length HF2.out
        clear hW1 hit hown hbw hdec
        go_wp2_with (at_builtin; refine wpList_append_own _ rfl _ _ 27 rfl (w.heap.size + 1) 9 i0 (.string ByteArray.empty) 1 16 Tryd.underlying27 hi hz0 hz1 hz2 rfl (by decide) _ _ _ rfl (hown2.alloc _) ⟨W1.heap.size, 0, none⟩ 1 1 [.string (s.extract start j)] rfl rfl (cell_one_new _ _ _) (fun x hx => by simp at hx; subst hx; rfl) (by unfold maxLen; omega) (by omega) (by simp; omega) ?_; intro v' w3 hown' hgrow3 hnil3)
        have hit3 : w3.heap[w.heap.size]? = some (.stringIter s (j + 1)) := by
          rw [hgrow3.block w.heap.size (by simp; omega) (fun h => by have := (hown2.lt _ h.symm).1; omega), Below.heap_alloc _ _ _ hBlt]; exact hit2
        have hbw3 : Below w.heap.size w w3 := Below.grown (hbw2.alloc (by omega) _) hgrow3 (by simp; omega) (fun k hk => by have := (hown2.lt _ hk).1; omega)
        go_roundw
        case rel =>
          refine ⟨j + 1, j + 1, done ++ [(s.data.toList.drop start).take (j - start)], hit3, by omega, by omega, ?_, by go_num, ?_, hbw3, HF2⟩
          · have := HD.out; have := HL.out; omega
          · rw [strV_extract] at hown'
            simpa using hown'
        case measure => rw [iterPos_of' hit3, hpos0]; omega
      · have hdn2 : Hid (∀ k, j ≤ k → k < j + (Utf8.decode s j).2 → ∀ hk : k < s.data.toList.length, s.data.toList[k] ≠ 47) := pieces_skip s j hp hsl
        have hwd : 1 ≤ (Utf8.decode s j).2 ∧ j + (Utf8.decode s j).2 ≤ s.size := decode_width s j hp
        have hne : (((Utf8.decode s j).1 : Int) == 47) = false := decode_not s j hp hsl
        have hit2 := Lib.iterAt_heap wr w.heap.size s j (j + (Utf8.decode s j).2) hit
        have hbw2 := Lib.below_iterAt hbw (k := w.heap.size) (Nat.le_refl _) s (j + (Utf8.decode s j).2)
        have hown2 := ownsRow_iterAt hown (k := w.heap.size) (by omega) s (j + (Utf8.decode s j).2)
        generalize hW1 : wr.iterAt w.heap.size s (j + (Utf8.decode s j).2) = W1 at *
        have HF2 : Hid _ := Pa.found_on HF.out _ hdn2.out (by omega)
        clear hW1 hit hown hbw
        go_wp2
        go_roundw
        case rel => exact ⟨_, start, done, hit2, by omega, by omega, hdn, rfl, hown2, hbw2, HF2⟩
        case measure => rw [iterPos_of' hit2, hpos0]; omega
    · have hnx : ∀ ty, (Instr.next (.pointer (some ⟨w.heap.size, 0, none⟩)) true ty).run Tryd.prog wr = _ := fun ty => Lib.run_next_end_at wr w.heap.size s j ty hit hp
      have HE : Hid _ := Pa.found_end HF.out (by have := HL.out; omega)
      have hz := lt_of_block' hit
      go_wp2_with (at_builtin; refine wpList_append_own _ rfl _ _ 27 rfl (w.heap.size + 1) 9 i0 (.string ByteArray.empty) 1 16 Tryd.underlying27 hi hz0 hz1 hz2 rfl (by decide) _ _ _ rfl (hown.alloc _) ⟨wr.heap.size, 0, none⟩ 1 1 [.string (s.extract start s.size)] rfl rfl (cell_one_new _ _ _) (fun x hx => by simp at hx; subst hx; rfl) (by unfold maxLen; omega) (by omega) (by simp; omega) ?_; intro v' w3 hown' hgrow3 hnil3)
      have hbw3 : Below w.heap.size w w3 := Below.grown (hbw.alloc (by omega) _) hgrow3 (by simp; omega) (fun k hk => by have := (hown.lt _ hk).1; omega)
      go_ret
      refine ⟨_, rfl, ?_, hbw3⟩
      rw [HE.out, strV_extract, List.take_of_length_le (by rw [List.length_drop]; have := HL.out; omega)] at *
      refine World.ownsRow_mono ?_ (Nat.le_succ _)
      simpa using hown'
theorem info_u8 : (Tryd.prog.info? 5).map (fun i => (i.zero, i.size, i.bytes)) = some (some (.int .u8 0), 1, 1) := by kernel_rfl
theorem setRow_below (w : World) (M : Array Value) (t : TypeId) (Y : Array Value) : Below w.heap.size w ((w.alloc (.cells M t)).setRow w.heap.size Y) :=
  ((Below.refl _ w).alloc (Nat.le_refl _) _).trans ⟨rfl, rfl, rfl, by simp, fun k hk => setRow_other _ _ _ _ (by omega)⟩
set_option maxRecDepth 100000 in
set_option maxHeartbeats 2000000 in
/-- A copy of a text is the text: a row is made, filled, and read as a text. -/
theorem clone_c (s : ByteArray) (w : World) (h0 : 0 < s.size) (hl : s.size ≤ 1000) :
    Calls Tryd.prog 29 #[.string s] w fun e w' => e = .returned (.string s) ∧ Below w.heap.size w w' := by
  obtain ⟨i0, hi, hz0, hz1, hz2⟩ := info_parts info_u8
  have hlen : s.data.toList.length = s.size := rfl
  obtain ⟨M, hM⟩ : ∃ M, madeCells (Value.int .u8 0).cells (((s.size : Nat) : Int).toNat * i0.size) = M := ⟨_, rfl⟩
  have hMs : M.toList.length = s.size := by rw [← hM, Array.length_toList, size_madeCells, hz1]; simp
  have hmake : ∀ W : World, (Instr.makeSlice 41 (.int .i64 (s.size : Int)) (.int .i64 (s.size : Int))).run Tryd.prog W = .ok (.slice (some ⟨W.heap.size, 0, none⟩) s.size s.size) (W.alloc (.cells M 5)) := fun W => by
    have h := run_make (P := Tryd.prog) W 41 5 i0 (.int .u8 0) Tryd.underlying41 hi hz0 .i64 .i64 (s.size : Int) (s.size : Int) (by omega) (by omega) (by rw [hz2]; omega) (by omega)
    rw [hM] at h
    simpa using h
  have hcopy := Lib.run_copy_row_string (P := Tryd.prog) (w.alloc (.cells M 5)) 41 9 3 5 w.heap.size 0 s.size s.size s M 5 Tryd.underlying41 (by rw [hi]; simp [hz1]) (heap_alloc_new w _) (Nat.le_refl _) (by rw [← Array.length_toList]; omega)
  have hY : (M.toList.take 0 ++ Lib.byteCells s.data.toList ++ M.toList.drop (0 + s.size)) = Lib.byteCells s.data.toList := by
    rw [List.take_zero, List.nil_append, List.drop_of_length_le (by omega), List.append_nil]
  rw [hY] at hcopy
  obtain ⟨Y, hYe⟩ : ∃ Y, (Lib.byteCells s.data.toList).toArray = Y := ⟨_, rfl⟩
  rw [hYe] at hcopy
  have hYl : Y.toList = Lib.byteCells s.data.toList := by rw [← hYe]
  have hYs : Y.size = s.size := by rw [← Array.length_toList, hYl, Lib.byteCells_length, hlen]
  have hrow : ((w.alloc (.cells M 5)).setRow w.heap.size Y).heap[w.heap.size]? = some (.cells Y 5 (0, 0)) := setRow_heap _ _ M _ 5 (0, 0) (heap_alloc_new w _)
  have hread := Lib.run_unsafeString_row (P := Tryd.prog) ((w.alloc (.cells M 5)).setRow w.heap.size Y) 42 3 9 5 Tryd.underlying42 (by kernel_rfl) w.heap.size Y.size (by unfold World.shape?; rw [hrow]) s.data.toList (fun e => by have h9 := congrArg List.length e; rw [hlen, List.length_nil] at h9; omega) (by omega) (by omega)
    (fun j x hx => Lib.cells_of_row hrow Y.size j _ (by rw [List.take_of_length_le (by rw [Array.length_toList]; exact Nat.le_refl _), hYl]; simp [Lib.byteCells, hx]))
  rw [hlen] at hread
  have hne : ((s.size : Int) == 0) = false := beq_eq_false_iff_ne.2 (by omega)
  clear hM hY hYe hlen
  go_enter Tryd.func29, Tryd.ntmps29
  go_wp2
  go_ret
  exact ⟨rfl, Lib.below_freeze (setRow_below w M 5 Y) (p := ⟨w.heap.size, 0, none⟩) (Nat.le_refl _) _⟩
set_option maxHeartbeats 400000 in
theorem sclone_c (s : ByteArray) (w : World) (h0 : 0 < s.size) (hl : s.size ≤ 1000) :
    Calls Tryd.prog 24 #[.string s] w fun e w' => e = .returned (.string s) ∧ Below w.heap.size w w' := by
  go_enter Tryd.func24, Tryd.ntmps24
  go_wp2_with (go_at_call 29; refine (clone_c _ _ h0 hl).mono ?_; rintro e w' ⟨rfl, hb⟩)
  go_ret
  exact ⟨rfl, hb⟩
set_option maxHeartbeats 400000 in
theorem slash_yes (s : ByteArray) (w : World) (hs : s.size ≤ 1000) (l : List UInt8) (hl : s.data.toList = 47 :: l) :
    Calls Tryd.prog 22 #[.string s, .string ⟨#[47]⟩] w fun e w' => e = .returned (.bool true) ∧ w' = w := by
  have h1 : 1 ≤ s.size := by have : s.data.toList.length = s.size := rfl; rw [hl] at this; simp at this; omega
  have e1 : ((s.extract 0 1).toList == [47]) = true := by rw [Lib.toList_data, Lib.extract_data, hl]; rfl
  clear hl
  go_enter Tryd.func22, Tryd.ntmps22
  go_wp2
  go_ret
  exact ⟨rfl, rfl⟩
set_option maxHeartbeats 400000 in
theorem slash_no (s : ByteArray) (w : World) (hs : s.size ≤ 1000) (hl : ∀ l, s.data.toList ≠ 47 :: l) :
    Calls Tryd.prog 22 #[.string s, .string ⟨#[47]⟩] w fun e w' => e = .returned (.bool false) ∧ w' = w := by
  by_cases h1 : s.size < 1
  · clear hl
    go_enter Tryd.func22, Tryd.ntmps22
    go_wp2
    go_ret
    exact ⟨rfl, rfl⟩
  · have e1 : ((s.extract 0 1).toList == [47]) = false := by
      rw [Lib.toList_data, Lib.extract_data]
      cases h : s.data.toList with
      | nil => rfl
      | cons c r =>
        have : c ≠ 47 := fun e => hl r (by rw [h, e])
        simpa using this
    clear hl
    go_enter Tryd.func22, Tryd.ntmps22
    go_wp2
    go_ret
    exact ⟨rfl, rfl⟩
end Go.Proofs.YtdbllggcomllgacDoor
