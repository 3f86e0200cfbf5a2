/-
  slices.Sort of at most forty fids, all unlike: what SortOK asks.
  Split of path, at a seat of trees.
-/
import Derived.Test.YtgbdplammniidaaGreatDoorFiBu
import Derived.Test.YtgbdplammniidaaGreatDoorFiBp
import Derived.BigQuiet
import Derived.Deep.LoopGhost
import Derived.Deep.QuietTactic
import Derived.Laws.MakeOwn
import Derived.Lib.BufferWrite
import Derived.Lib.IndexBytes
import Derived.Lib.OthersKept
import Derived.Lib.Strings
import Derived.Lib.UnsafeStr
import Derived.OpenShut
import Derived.ProofKit
import Derived.ShutString
import Derived.WalkKit
import Derived.WalkLawsBesides
import Derived.WalkSpells
namespace Go.Proofs.YtgbdplammniidaaGreatDoor
open Go.RowKit Go.ChangeShapes Go.WideShapes Go.ChangeAt
set_option linter.unusedVariables false
set_option linter.unusedSimpArgs false
set_option maxRecDepth 100000
open Go.Sort (ltInt)
open Go.Sort (PermIn SortedIn)
def arF (n : Nat) (f : Nat → Int) : Array Int := ((List.range n).map f).toArray
theorem arF_size (n : Nat) (f : Nat → Int) : (arF n f).size = n := by simp [arF]
theorem arF_get (n : Nat) (f : Nat → Int) {i : Nat} (h : i < n) : ft (arF n f) i = f i := by
 unfold ft
 rw [getElem!_pos (arF n f) i (by rw [arF_size]; exact h)]
 simp [arF]
theorem arF_inj {n : Nat} {f : Nat → Int} (h : ∀ a b, a < n → b < n → f a = f b → a = b) : InjA (arF n f) := by
 show ((List.range n).map f).Nodup
 unfold List.Nodup
 rw [List.pairwise_map]
 refine List.Pairwise.imp_of_mem ?_ (List.pairwise_lt_range (n := n))
 intro a b ha hb hlt e
 have := h a b (List.mem_range.1 ha) (List.mem_range.1 hb) e
 omega
theorem arF_at {w : World} {g n : Nat} {f : Nat → Int} (h : FidsAt w g n f) : Fa w g n (arF n f) := ⟨arF_size n f, h.ext (fun j hj => arF_get n f hj)⟩
theorem mem_ft {d : Array Int} {x : Int} : x ∈ d.toList ↔ ∃ k, k < d.size ∧ ft d k = x := by
 rw [List.mem_iff_getElem]
 constructor
 · rintro ⟨k, hk, e⟩
   have hk' : k < d.size := by simpa using hk
   refine ⟨k, hk', ?_⟩
   unfold ft
   rw [getElem!_pos d k hk', ← e, Array.getElem_toList]
 · rintro ⟨k, hk, e⟩
   refine ⟨k, by simpa using hk, ?_⟩
   unfold ft at e
   rw [getElem!_pos d k hk] at e
   rw [Array.getElem_toList]
   exact e
theorem arF_same {n : Nat} {f : Nat → Int} (h : ∀ a b, a < n → b < n → f a = f b → a = b) {R : Array Int} (hp : PermIn 0 n (arF n f) R) : SameF n f (ft R) := by
 have hs : R.size = n := by rw [hp.1, arF_size]
 have h2 := hp.2.2
 have e1 : (R.extract 0 n).toList = R.toList := by rw [← hs]; simp
 have e2 : ((arF n f).extract 0 n).toList = (arF n f).toList := by
   have hz := arF_size n f
   generalize arF n f = d at hz
   rw [← hz]
   simp
 rw [e1, e2] at h2
 refine ⟨fun x => ?_, fun a b ha hb e => ?_⟩
 · have m := h2.mem_iff (a := x)
   rw [mem_ft, mem_ft, hs, arF_size] at m
   rw [m]
   constructor
   · rintro ⟨k, hk, e⟩; exact ⟨k, hk, by rw [arF_get n f hk]; exact e⟩
   · rintro ⟨k, hk, e⟩; exact ⟨k, hk, by rw [arF_get n f hk] at e; exact e⟩
 · exact ((arF_inj h).perm (by rw [arF_size]; exact Nat.le_refl _) hp).eq (by omega) (by omega) e
set_option maxHeartbeats 1000000 in
theorem sortOK : SortOK := by
 intro g n cap f0 w h hinj hn hcap
 have PC : Hid (∀ v : Nat, v ≤ 6 → Calls Tryz.prog 106 #[.slice (some ⟨g, 0, none⟩) n cap, .int .i64 ((0 : Nat) : Int), .int .i64 n, .int .i64 v] w (PdP g n 0 n (arF n f0) w)) := hid (fun v hv => pdqA_c (n + 1) g n cap 0 n v (arF n f0) w (by omega) (arF_at h) (arF_inj hinj) (.inl rfl) hn hcap (by omega) (by omega) hv)
 have HI := hid hinj
 clear h hinj
 go_enter Tryz.func82, Tryz.ntmps82
 go_wp2_with (first
   | (go_at_call 107; refine (len_40 n hn _).mono ?_; rintro _ w1 ⟨⟨v, rfl, hv, hv2⟩, h1⟩; rw [h1]; clear hv2)
   | (go_at_call 106; refine (PC.out v hv).mono ?_; rintro _ w2 ⟨rfl, hr, ho⟩; have HR := hid hr; have HO := hid ho; clear hr ho))
 obtain ⟨R, h1, h2, h3⟩ := HR.out
 exact body_endF (by kernel_rfl) rfl ⟨rfl, ft R, h3.2, arF_same HI.out h1, fun a b hab hb => Int.not_lt.1 (of_decide_eq_false (h2 a b (by omega) hab hb)), HO.out⟩
end Go.Proofs.YtgbdplammniidaaGreatDoor
namespace Go.Proofs.YtgbdplammniidaaGreatDoor
open Go.RowKit Go.ChangeShapes Go.WideShapes Go.ChangeAt
set_option linter.unusedVariables false
set_option linter.unusedSimpArgs false
theorem info_str : (Tryz.prog.info? 9).map (fun i => (i.zero, i.size, i.bytes)) = some (some (.string ByteArray.empty), 1, 16) := by kernel_rfl
def strV (l : List UInt8) : Value := .string ⟨l.toArray⟩
theorem strV_extract (s : ByteArray) (a b : Nat) : Value.string (s.extract a b) = strV ((s.data.toList.drop a).take (b - a)) := by
 unfold strV
 rw [← Lib.extract_data]
theorem strV_self (s : ByteArray) : strV s.data.toList = .string s := by unfold strV; rfl
theorem byte_at (s : ByteArray) (j : Nat) (h : j < s.size) : s.data.toList[j]'h = s[j]'h := rfl
theorem lt_of_block' {w : World} {k : Nat} {o : Obj} (h : w.heap[k]? = some o) : k < w.heap.size := (Array.getElem?_eq_some_iff.1 h).1
theorem iterPos_of' {w : World} {k : Nat} {s : ByteArray} {p : Nat} (h : w.heap[k]? = some (.stringIter s p)) : w.iterPos k = p := by simp [World.iterPos, h]
theorem get_list (s : ByteArray) (k : Nat) (h : k < s.size) : s.get! k = s.data.toList[k]'h := by
 exact get_at s k h
theorem decode_width (s : ByteArray) (j : Nat) (hp : j < s.size) : 1 ≤ (Utf8.decode s j).2 ∧ j + (Utf8.decode s j).2 ≤ s.size := by
 by_cases ha : (s[j]'hp).toNat < 128
 · rw [decode_ascii s j hp ha]; simp; omega
 · have h1 := (decode_high s j hp (by omega)).2
   have h2 := (Pa.decode_skip s j hp (by omega) ((Utf8.decode s j).2 - 1) (by omega)).1
   omega
theorem decode_not (s : ByteArray) (j : Nat) (hp : j < s.size) (hsl : ¬ (s[j]'hp) = 47) : (((Utf8.decode s j).1 : Int) == 47) = false := by
 by_cases ha : (s[j]'hp).toNat < 128
 · rw [decode_ascii s j hp ha]
   rw [beq_eq_false_iff_ne]
   intro e
   apply hsl
   apply UInt8.toNat_inj.1
   have : (47 : UInt8).toNat = 47 := rfl
   rw [this]
   simp at e
   omega
 · have h1 := (decode_high s j hp (by omega)).1
   rw [beq_eq_false_iff_ne]; omega
theorem pieces_skip (s : ByteArray) (j : Nat) (hp : j < s.size) (hsl : ¬ (s[j]'hp) = 47) : ∀ k, j ≤ k → k < j + (Utf8.decode s j).2 → ∀ hk : k < s.data.toList.length, s.data.toList[k] ≠ 47 := by
 intro k h1 h2 hk
 by_cases ha : (s[j]'hp).toNat < 128
 · rw [decode_ascii s j hp ha] at h2
   obtain rfl : k = j := by simp at h2; omega
   rw [byte_at s k hp]; exact hsl
 · have h3 := (Pa.decode_skip s j hp (by omega) (k - j) (by omega)).2
   rw [show j + (k - j) = k from by omega, get_list s k hk] at h3
   intro e
   rw [e] at h3
   exact absurd h3 (by decide)
theorem World.ownsRow_mono {w : World} {base base' : Nat} {e : TypeId} {size : Nat} {v : Value} {n : Nat} {xs : List Value} (h : w.ownsRow base e size v n xs) (hb : base' ≤ base) : w.ownsRow base' e size v n xs := by
 obtain ⟨h1, h2⟩ := h
 refine ⟨h1, ?_⟩
 rcases h2 with h2 | ⟨g, cap, cur, a, b, c⟩
 · exact .inl h2
 · exact .inr ⟨g, cap, cur, a, Nat.le_trans hb b, c⟩
set_option maxRecDepth 100000 in
set_option maxHeartbeats 2000000 in
theorem pieces_c (s : ByteArray) (w : World) (hs : s.size ≤ 1000) :
   Calls Tryz.prog 26 #[.string s] w fun e w' => ∃ v, e = .returned v ∧ w'.ownsRow w.heap.size 9 1 v (Pa.piecesF s.data.toList).length ((Pa.piecesF s.data.toList).map strV) ∧ Below w.heap.size w w' := by
 obtain ⟨i0, hi, hz0, hz1, hz2⟩ := info_parts info_str
 have HL : Hid (s.data.toList.length = s.size) := rfl
 go_enter Tryz.func26, Tryz.ntmps26
 go_wp2
 go_loopw [3, 4, 5, 6] (fun v st a b wr => ∃ (j start : Nat) (done : List (List UInt8)), wr.heap[w.heap.size]? = some (.stringIter s j) ∧ j ≤ s.size ∧ start ≤ j ∧ done.length ≤ s.size ∧ st = .int .i64 start ∧ wr.ownsRow (w.heap.size + 1) 9 1 v done.length (done.map strV) ∧ Below w.heap.size w wr ∧ Hid (Pa.Found s.data.toList start j done)) (fun _ _ _ _ wr => s.size - wr.iterPos w.heap.size)
 case atStart => exact ⟨0, 0, [], World.iter_heap w s 0, by omega, by omega, by simp, rfl, World.ownsRow_nil _ _ _ _, (Below.refl _ _).alloc (Nat.le_refl _) _, Pa.found_zero _⟩
 case round =>
   obtain ⟨j, start, done, hit, hj, hst, hdn, rfl, hown, hbw, HF⟩ := hrel
   have hpos0 := iterPos_of' hit
   by_cases hp : j < s.size
   · have hnx : ∀ ty, (Instr.next (.pointer (some ⟨w.heap.size, 0, none⟩)) true ty).run Tryz.prog wr = _ := fun ty => Lib.run_next_any_at wr w.heap.size s j ty hit hp
     by_cases hsl : (s[j]'hp) = 47
     · have hdec := decode_ascii s j hp (by rw [hsl]; decide)
       rw [hdec, hsl] at hnx
       have hit2 := Lib.iterAt_heap wr w.heap.size s j (j + 1) hit
       have hbw2 := Lib.below_iterAt hbw (k := w.heap.size) (Nat.le_refl _) s (j + 1)
       have hown2 := ownsRow_iterAt hown (k := w.heap.size) (by omega) s (j + 1)
       generalize hW1 : wr.iterAt w.heap.size s (j + 1) = W1 at *
       have hBlt := lt_of_block' hit2
       have HF2 : Hid _ := Pa.found_cut HF.out (by have := HL.out; omega) (by rw [byte_at s j hp]; exact hsl)
       have HD : Hid _ := Pa.found_length HF2.out
       clear hW1 hit hown hbw hdec
       go_wp2_with (at_builtin; refine wpList_append_own _ rfl _ _ 47 rfl (w.heap.size + 1) 9 i0 (.string ByteArray.empty) 1 16 Tryz.underlying47 hi hz0 hz1 hz2 rfl (by decide) _ _ _ rfl (hown2.alloc _) ⟨W1.heap.size, 0, none⟩ 1 1 [.string (s.extract start j)] rfl rfl (cell_one_new _ _ _) (fun x hx => by simp at hx; subst hx; rfl) (by unfold maxLen; omega) (by omega) (by simp; omega) ?_; intro v' w3 hown' hgrow3 hnil3)
       have hit3 : w3.heap[w.heap.size]? = some (.stringIter s (j + 1)) := by
         rw [hgrow3.block w.heap.size (by simp; omega) (fun h => by have := (hown2.lt _ h.symm).1; omega), Below.heap_alloc _ _ _ hBlt]; exact hit2
       have hbw3 : Below w.heap.size w w3 := Below.grown (hbw2.alloc (by omega) _) hgrow3 (by simp; omega) (fun k hk => by have := (hown2.lt _ hk).1; omega)
       go_roundw
       case rel =>
         refine ⟨j + 1, j + 1, done ++ [(s.data.toList.drop start).take (j - start)], hit3, by omega, by omega, ?_, by go_num, ?_, hbw3, HF2⟩
         · have := HD.out; have := HL.out; omega
         · rw [strV_extract] at hown'
           simpa using hown'
       case measure => rw [iterPos_of' hit3, hpos0]; omega
     · have hdn2 : Hid (∀ k, j ≤ k → k < j + (Utf8.decode s j).2 → ∀ hk : k < s.data.toList.length, s.data.toList[k] ≠ 47) := pieces_skip s j hp hsl
       have hwd : 1 ≤ (Utf8.decode s j).2 ∧ j + (Utf8.decode s j).2 ≤ s.size := decode_width s j hp
       have hne : (((Utf8.decode s j).1 : Int) == 47) = false := decode_not s j hp hsl
       have hit2 := Lib.iterAt_heap wr w.heap.size s j (j + (Utf8.decode s j).2) hit
       have hbw2 := Lib.below_iterAt hbw (k := w.heap.size) (Nat.le_refl _) s (j + (Utf8.decode s j).2)
       have hown2 := ownsRow_iterAt hown (k := w.heap.size) (by omega) s (j + (Utf8.decode s j).2)
       generalize hW1 : wr.iterAt w.heap.size s (j + (Utf8.decode s j).2) = W1 at *
       have HF2 : Hid _ := Pa.found_on HF.out _ hdn2.out (by omega)
       clear hW1 hit hown hbw
       go_wp2
       go_roundw
       case rel => exact ⟨_, start, done, hit2, by omega, by omega, hdn, rfl, hown2, hbw2, HF2⟩
       case measure => rw [iterPos_of' hit2, hpos0]; omega
   · have hnx : ∀ ty, (Instr.next (.pointer (some ⟨w.heap.size, 0, none⟩)) true ty).run Tryz.prog wr = _ := fun ty => Lib.run_next_end_at wr w.heap.size s j ty hit hp
     have HE : Hid _ := Pa.found_end HF.out (by have := HL.out; omega)
     have hz := lt_of_block' hit
     go_wp2_with (at_builtin; refine wpList_append_own _ rfl _ _ 47 rfl (w.heap.size + 1) 9 i0 (.string ByteArray.empty) 1 16 Tryz.underlying47 hi hz0 hz1 hz2 rfl (by decide) _ _ _ rfl (hown.alloc _) ⟨wr.heap.size, 0, none⟩ 1 1 [.string (s.extract start s.size)] rfl rfl (cell_one_new _ _ _) (fun x hx => by simp at hx; subst hx; rfl) (by unfold maxLen; omega) (by omega) (by simp; omega) ?_; intro v' w3 hown' hgrow3 hnil3)
     have hbw3 : Below w.heap.size w w3 := Below.grown (hbw.alloc (by omega) _) hgrow3 (by simp; omega) (fun k hk => by have := (hown.lt _ hk).1; omega)
     go_ret
     refine ⟨_, rfl, ?_, hbw3⟩
     rw [HE.out, strV_extract, List.take_of_length_le (by rw [List.length_drop]; have := HL.out; omega)] at *
     refine World.ownsRow_mono ?_ (Nat.le_succ _)
     simpa using hown'
theorem info_u8 : (Tryz.prog.info? 5).map (fun i => (i.zero, i.size, i.bytes)) = some (some (.int .u8 0), 1, 1) := by kernel_rfl
theorem setRow_below (w : World) (M : Array Value) (t : TypeId) (Y : Array Value) : Below w.heap.size w ((w.alloc (.cells M t)).setRow w.heap.size Y) :=
 ((Below.refl _ w).alloc (Nat.le_refl _) _).trans ⟨rfl, rfl, rfl, by simp, fun k hk => setRow_other _ _ _ _ (by omega)⟩
set_option maxRecDepth 100000 in
set_option maxHeartbeats 2000000 in
theorem clone_c (s : ByteArray) (w : World) (h0 : 0 < s.size) (hl : s.size ≤ 1000) :
   Calls Tryz.prog 53 #[.string s] w fun e w' => e = .returned (.string s) ∧ Below w.heap.size w w' := by
 obtain ⟨i0, hi, hz0, hz1, hz2⟩ := info_parts info_u8
 have hlen : s.data.toList.length = s.size := rfl
 obtain ⟨M, hM⟩ : ∃ M, madeCells (Value.int .u8 0).cells (((s.size : Nat) : Int).toNat * i0.size) = M := ⟨_, rfl⟩
 have hMs : M.toList.length = s.size := by rw [← hM, Array.length_toList, size_madeCells, hz1]; simp
 have hmake : ∀ W : World, (Instr.makeSlice 36 (.int .i64 (s.size : Int)) (.int .i64 (s.size : Int))).run Tryz.prog W = .ok (.slice (some ⟨W.heap.size, 0, none⟩) s.size s.size) (W.alloc (.cells M 5)) := fun W => by
   have h := run_make (P := Tryz.prog) W 36 5 i0 (.int .u8 0) Tryz.underlying36 hi hz0 .i64 .i64 (s.size : Int) (s.size : Int) (by omega) (by omega) (by rw [hz2]; omega) (by omega)
   rw [hM] at h
   simpa using h
 have hcopy := Lib.run_copy_row_string (P := Tryz.prog) (w.alloc (.cells M 5)) 36 9 3 5 w.heap.size 0 s.size s.size s M 5 Tryz.underlying36 (by rw [hi]; simp [hz1]) (heap_alloc_new w _) (Nat.le_refl _) (by rw [← Array.length_toList]; omega)
 have hY : (M.toList.take 0 ++ Lib.byteCells s.data.toList ++ M.toList.drop (0 + s.size)) = Lib.byteCells s.data.toList := by
   rw [List.take_zero, List.nil_append, List.drop_of_length_le (by omega), List.append_nil]
 rw [hY] at hcopy
 obtain ⟨Y, hYe⟩ : ∃ Y, (Lib.byteCells s.data.toList).toArray = Y := ⟨_, rfl⟩
 rw [hYe] at hcopy
 have hYl : Y.toList = Lib.byteCells s.data.toList := by rw [← hYe]
 have hYs : Y.size = s.size := by rw [← Array.length_toList, hYl, Lib.byteCells_length, hlen]
 have hrow : ((w.alloc (.cells M 5)).setRow w.heap.size Y).heap[w.heap.size]? = some (.cells Y 5 (0, 0)) := setRow_heap _ _ M _ 5 (0, 0) (heap_alloc_new w _)
 have hread := Lib.run_unsafeString_row (P := Tryz.prog) ((w.alloc (.cells M 5)).setRow w.heap.size Y) 100 3 9 5 Tryz.underlying100 (by kernel_rfl) w.heap.size Y.size (by unfold World.shape?; rw [hrow]) s.data.toList (fun e => by have h9 := congrArg List.length e; rw [hlen, List.length_nil] at h9; omega) (by omega) (by omega)
   (fun j x hx => Lib.cells_of_row hrow Y.size j _ (by rw [List.take_of_length_le (by rw [Array.length_toList]; exact Nat.le_refl _), hYl]; simp [Lib.byteCells, hx]))
 rw [hlen] at hread
 have hne : ((s.size : Int) == 0) = false := beq_eq_false_iff_ne.2 (by omega)
 clear hM hY hYe hlen
 go_enter Tryz.func53, Tryz.ntmps53
 go_wp2
 go_ret
 exact ⟨rfl, Lib.below_freeze (setRow_below w M 5 Y) (p := ⟨w.heap.size, 0, none⟩) (Nat.le_refl _) _⟩
set_option maxHeartbeats 400000 in
theorem sclone_c (s : ByteArray) (w : World) (h0 : 0 < s.size) (hl : s.size ≤ 1000) :
   Calls Tryz.prog 28 #[.string s] w fun e w' => e = .returned (.string s) ∧ Below w.heap.size w w' := by
 go_enter Tryz.func28, Tryz.ntmps28
 go_wp2_with (go_at_call 53; refine (clone_c _ _ h0 hl).mono ?_; rintro e w' ⟨rfl, hb⟩)
 go_ret
 exact ⟨rfl, hb⟩
set_option maxHeartbeats 400000 in
theorem slash_yes (s : ByteArray) (w : World) (hs : s.size ≤ 1000) (l : List UInt8) (hl : s.data.toList = 47 :: l) :
   Calls Tryz.prog 25 #[.string s, .string ⟨#[47]⟩] w fun e w' => e = .returned (.bool true) ∧ w' = w := by
 have h1 : 1 ≤ s.size := by have : s.data.toList.length = s.size := rfl; rw [hl] at this; simp at this; omega
 have e1 : ((s.extract 0 1).toList == [47]) = true := by rw [Lib.toList_data, Lib.extract_data, hl]; rfl
 clear hl
 go_enter Tryz.func25, Tryz.ntmps25
 go_wp2
 go_ret
 exact ⟨rfl, rfl⟩
set_option maxHeartbeats 400000 in
theorem slash_no (s : ByteArray) (w : World) (hs : s.size ≤ 1000) (hl : ∀ l, s.data.toList ≠ 47 :: l) :
   Calls Tryz.prog 25 #[.string s, .string ⟨#[47]⟩] w fun e w' => e = .returned (.bool false) ∧ w' = w := by
 by_cases h1 : s.size < 1
 · clear hl
   go_enter Tryz.func25, Tryz.ntmps25
   go_wp2
   go_ret
   exact ⟨rfl, rfl⟩
 · have e1 : ((s.extract 0 1).toList == [47]) = false := by
     rw [Lib.toList_data, Lib.extract_data]
     cases h : s.data.toList with
     | nil => rfl
     | cons c r =>
       have : c ≠ 47 := fun e => hl r (by rw [h, e])
       simpa using this
   clear hl
   go_enter Tryz.func25, Tryz.ntmps25
   go_wp2
   go_ret
   exact ⟨rfl, rfl⟩
theorem ownsRow_front {w : World} {base : Nat} {e : TypeId} {a : Option Addr} {n cap m : Nat} {xs : List Value} (h : w.ownsRow base e 1 (.slice a n cap) n xs) (hm : m ≤ n) : w.ownsRow base e 1 (.slice a m cap) m (xs.take m) := by
 obtain ⟨h1, h2⟩ := h
 refine ⟨by rw [List.length_take]; omega, ?_⟩
 rcases h2 with ⟨hv, hn⟩ | ⟨g, cap', cur, hv, b, c, d, e1, f, g1⟩
 · cases hv
   obtain rfl : m = 0 := by omega
   exact .inl ⟨rfl, rfl⟩
 · cases hv
   refine .inr ⟨g, cap, cur, rfl, b, c, by omega, e1, f, ?_⟩
   rw [← g1, List.take_take, Nat.mul_one, Nat.mul_one, Nat.min_eq_left hm]
theorem ownsRow_later {w w' : World} {base : Nat} {e : TypeId} {size : Nat} {v : Value} {n : Nat} {xs : List Value} (h : w.ownsRow base e size v n xs) (hb : Below w.heap.size w w') : w'.ownsRow base e size v n xs := by
 obtain ⟨h1, h2⟩ := h
 refine ⟨h1, ?_⟩
 rcases h2 with h2 | ⟨g, cap, cur, a, b, c, d⟩
 · exact .inl h2
 · exact .inr ⟨g, cap, cur, a, b, by rw [hb.block g (lt_of_block' c)]; exact c, d⟩
def SplitPost (l : List UInt8) (w : World) (e : Ending) (w' : World) : Prop :=
 ((∃ ns v, Pa.splitF l = some ns ∧ e = .returned (.tuple #[v, .int .i64 0]) ∧ w'.ownsRow w.heap.size 9 1 v ns.length (ns.map strV)) ∨ (Pa.splitF l = none ∧ e = .returned (.tuple #[.slice none 0 0, .int .i64 3]))) ∧ Below w.heap.size w w'
set_option maxHeartbeats 400000 in
theorem split_long (s : ByteArray) (w : World) (hs : s.size ≤ maxLen) (h : 120 < s.size) :
   Calls Tryz.prog 13 #[.string s] w (SplitPost s.data.toList w) := by
 unfold maxLen at hs
 have N : Hid (Pa.splitF s.data.toList = none) := by
   have hl : s.data.toList.length = s.size := rfl
   show _ = _
   unfold Pa.splitF; rw [if_neg (by omega)]
 have h' : (120 : Int) < (s.size : Int) := by omega
 go_enter Tryz.func13, Tryz.ntmps13
 go_wp2
 go_ret2
 exact ⟨.inr ⟨N.out, rfl⟩, Below.refl _ _⟩
set_option maxHeartbeats 400000 in
theorem split_noslash (s : ByteArray) (w : World) (h : s.size ≤ 120) (hl : ∀ l, s.data.toList ≠ 47 :: l) :
   Calls Tryz.prog 13 #[.string s] w (SplitPost s.data.toList w) := by
 have N : Hid (Pa.splitF s.data.toList = none) := by
   show _ = _
   unfold Pa.splitF; rw [if_neg]
   rintro ⟨_, h2⟩
   cases h3 : s.data.toList with
   | nil => rw [h3] at h2; simp at h2
   | cons c r => rw [h3] at h2; simp at h2; subst h2; exact hl r h3
 have HL := hid' hl
 clear hl
 go_enter Tryz.func13, Tryz.ntmps13
 go_wp2_with (go_at_call 25; refine (slash_no _ _ (by omega) HL.out).mono ?_; rintro e w' ⟨rfl, rfl⟩)
 go_ret2
 exact ⟨.inr ⟨N.out, rfl⟩, Below.refl _ _⟩
set_option maxRecDepth 100000 in
set_option maxHeartbeats 2000000 in
theorem split_slash (s : ByteArray) (w : World) (h : s.size ≤ 120) (l : List UInt8) (hl : s.data.toList = 47 :: l) :
   Calls Tryz.prog 13 #[.string s] w (SplitPost s.data.toList w) := by
 obtain ⟨i0, hi, hz0, hz1, hz2⟩ := info_parts info_str
 have hsz : s.data.toList.length = s.size := rfl
 have N : Hid (Pa.splitF s.data.toList = Pa.splitN [] (Pa.piecesF s.data.toList)) := by
   show _ = _
   unfold Pa.splitF; rw [if_pos ⟨by omega, by rw [hl]; rfl⟩]
 have hPl := Pa.pieces_length s.data.toList
 have HM : Hid (∀ p ∈ Pa.piecesF s.data.toList, p.length ≤ 120) := fun p hp => by
   have := Pa.pieces_mem s.data.toList p hp
   omega
 have hP0 : 0 < (Pa.piecesF s.data.toList).length := by
   rw [hl]; unfold Pa.piecesF; simp
 have HL := hid' hl
 rw [hsz] at hPl
 clear hl hsz
 go_enter Tryz.func13, Tryz.ntmps13
 go_wp2_with (first
   | (go_at_call 25; refine (slash_yes _ _ (by omega) _ HL.out).mono ?_; rintro e w2 ⟨rfl, rfl⟩)
   | (go_at_call 26; refine (pieces_c _ _ (by omega)).mono ?_; rintro e w1 ⟨v, rfl, hown0, hb0⟩; obtain ⟨g, cap, cur, rfl, -⟩ : ∃ g cap cur, v = .slice (some ⟨g, 0, none⟩) (Pa.piecesF s.data.toList).length cap ∧ cur = cap := (by rcases hown0.2 with ⟨_, h0⟩ | ⟨g, cap, cur, hv, _⟩; omega; exact ⟨g, cap, cap, hv, rfl⟩)))
 have HC : Hid (∀ (j : Nat) (u : Value), ((Pa.piecesF s.data.toList).map strV)[j]? = some u → w1.cell? ((⟨g, 0, none⟩ : Addr).add j) = some u) := hown0.cells rfl
 generalize Pa.piecesF s.data.toList = P at *
 clear hown0
 go_loopw [4, 6, 18] (fun v p i wr => ∃ (k : Nat) (acc : List (List UInt8)), k ≤ P.length ∧ i = .int .i64 k ∧ acc.length ≤ k ∧ wr.ownsRow w1.heap.size 9 1 v acc.length (acc.map strV) ∧ Below w1.heap.size w1 wr ∧ Hid (Pa.splitN acc (P.drop k) = Pa.splitN [] P)) (fun _ _ i _ => ((P.length : Int) - intOf i).toNat)
 case atStart => exact ⟨0, [], by omega, rfl, by simp, World.ownsRow_nil _ _ _ _, Below.refl _ _, rfl⟩
 case round =>
   obtain ⟨k, acc, hk, rfl, hak, hown, hbw, HS⟩ := hrel
   have hbz := hbw.size
   by_cases hlt : k < P.length
   · have HAt : Hid _ := Pa.splitN_at acc P k hlt
     obtain ⟨x, hx⟩ : ∃ x : ByteArray, x.data.toList = P[k] := ⟨⟨P[k].toArray⟩, rfl⟩
     have hcell : wr.cell? ⟨g, k, none⟩ = some (.string x) := by
       have h1 := HC.out k (.string x) (by rw [List.getElem?_map, List.getElem?_eq_getElem hlt, ← hx]; rfl)
       have h2 : (⟨g, 0, none⟩ : Addr).add k = ⟨g, k, none⟩ := by rcases k with _ | k <;> simp [Addr.add]
       rw [h2] at h1
       exact cell_later hbw h1
     have hxl : x.toList = P[k] := by rw [Lib.toList_data, hx]
     have HX := hid' hx
     have hx120 : x.size ≤ 120 := by
       have h1 := HM.out P[k] (List.getElem_mem hlt)
       rw [← hx] at h1; exact h1
     clear hx
     cases hA : decide (P[k] = []) with
     | true =>
       have e0 : P[k] = [] := of_decide_eq_true hA
       have b0 : x.toList.isEmpty = true := by rw [hxl, e0]; rfl
       have HT : Hid (Pa.splitN acc (P.drop (k + 1)) = Pa.splitN [] P) := by
         have h1 := HAt.out
         rw [e0, Pa.step_empty] at h1
         exact h1.symm.trans HS.out
       clear hA e0 hxl
       go_wp2
       go_roundw
       case rel => exact ⟨k + 1, acc, by omega, by go_num, by omega, hown, hbw, HT⟩
       case measure => simp [intOf]; omega
     | false =>
       have e0 : P[k] ≠ [] := of_decide_eq_false hA
       have b0 : x.toList.isEmpty = false := by rw [hxl]; cases h : P[k] with | nil => exact absurd h e0 | cons c r => rfl
       cases hB : decide (P[k] = [46]) with
       | true =>
         have e1 : P[k] = [46] := of_decide_eq_true hB
         have b1 : (x.toList == [46]) = true := by rw [hxl, e1]; rfl
         have HT : Hid (Pa.splitN acc (P.drop (k + 1)) = Pa.splitN [] P) := by
           have h1 := HAt.out
           rw [e1, Pa.step_dot] at h1
           exact h1.symm.trans HS.out
         clear hA hB e0 e1 hxl
         go_wp2
         go_roundw
         case rel => exact ⟨k + 1, acc, by omega, by go_num, by omega, hown, hbw, HT⟩
         case measure => simp [intOf]; omega
       | false =>
         have e1 : P[k] ≠ [46] := of_decide_eq_false hB
         have b1 : (x.toList == [46]) = false := by rw [hxl]; exact beq_eq_false_iff_ne.2 e1
         cases hC : decide (P[k] = [46, 46]) with
         | true =>
           have e2 : P[k] = [46, 46] := of_decide_eq_true hC
           have b2 : (x.toList == [46, 46]) = true := by rw [hxl, e2]; rfl
           have HT : Hid (Pa.splitN acc.dropLast (P.drop (k + 1)) = Pa.splitN [] P) := by
             have h1 := HAt.out
             rw [e2, Pa.step_dots] at h1
             exact h1.symm.trans HS.out
           clear hA hB hC e0 e1 e2 hxl
           rcases hown.2 with ⟨rfl, hn0⟩ | ⟨g2, cap2, cur2, rfl, hg2, hh2, hn2, hc2, hs2, ht2⟩
           · have h9 : acc = [] := List.eq_nil_of_length_eq_zero hn0
             subst h9
             clear hn0
             go_wp2
             go_roundw
             case rel => exact ⟨k + 1, [], by omega, by go_num, by simp, hown, hbw, HT⟩
             case measure => simp [intOf]; omega
           · have HO := hid' (ownsRow_front hown (m := acc.length - 1) (by omega))
             unfold maxLen at hc2
             clear hh2 hs2 ht2
             go_wp2
             go_roundw
             case rel =>
               refine ⟨k + 1, acc.dropLast, by omega, by go_num, by rw [List.length_dropLast]; omega, ?_, hbw, HT⟩
               first | rw [List.length_dropLast, show (if (acc.length : Int) - 1 < 0 then (0 : Int) else (acc.length : Int) - 1).toNat = acc.length - 1 from by split <;> omega] | rw [List.length_dropLast, show (max ((acc.length : Int) - 1) 0).toNat = acc.length - 1 from by omega]
               have h9 : (acc.map strV).take (acc.length - 1) = acc.dropLast.map strV := by rw [List.dropLast_eq_take, List.map_take]
               rw [← h9]
               exact HO.out
             case measure => simp [intOf]; omega
         | false =>
           have e2 : P[k] ≠ [46, 46] := of_decide_eq_false hC
           have b2 : (x.toList == [46, 46]) = false := by rw [hxl]; exact beq_eq_false_iff_ne.2 e2
           cases hD : Pa.nameB x.data.toList with
           | true =>
             have hn := Pa.name_len _ hD
             have hxs : x.data.toList.length = x.size := rfl
             rw [hxs] at hn
             have HT : Hid (Pa.splitN (acc ++ [P[k]]) (P.drop (k + 1)) = Pa.splitN [] P) := by
               have h1 := HAt.out
               rw [Pa.step_name acc P[k] (by rw [← HX.out]; exact hD)] at h1
               exact h1.symm.trans HS.out
             clear hA hB hC e0 e1 e2 hxl hxs
             go_wp2_with (first
               | (go_at_call 27; refine (name_c _ _ (by unfold maxLen; omega)).mono ?_; rintro e w3 ⟨rfl, hb3⟩; rw [hD])
               | (go_at_call 28; refine (sclone_c _ _ (by omega) (by omega)).mono ?_; rintro e w4 ⟨rfl, hb4⟩; (have hown4 := ownsRow_later (ownsRow_later hown hb3) hb4); (have hz4 := Nat.le_trans hb3.size hb4.size); clear hown)
               | (at_builtin; refine wpList_append_own _ rfl _ _ 47 rfl w1.heap.size 9 i0 (.string ByteArray.empty) 1 16 Tryz.underlying47 hi hz0 hz1 hz2 rfl (by decide) _ _ _ rfl (hown4.alloc _) ⟨w4.heap.size, 0, none⟩ 1 1 [.string x] rfl rfl (cell_one_new _ _ _) (fun y hy => by simp at hy; subst hy; rfl) (by unfold maxLen; omega) (by omega) (by simp; omega) ?_; intro v' w5 hown' hgrow5 hnil5))
             have hbw5 : Below w1.heap.size w1 w5 := Below.grown ((hbw.trans ((hb3.mono (by omega)).trans (hb4.mono (by have := hb3.size; omega)))).alloc (by omega) _) hgrow5 (by simp; omega) (fun k hk => (hown4.lt _ hk).1)
             go_roundw
             case rel =>
               refine ⟨k + 1, acc ++ [P[k]], by omega, by go_num, by simp; omega, ?_, hbw5, HT⟩
               have h9 : Value.string x = strV P[k] := by rw [← HX.out]; rfl
               rw [h9] at hown'
               simpa using hown'
             case measure => simp [intOf]; omega
           | false =>
             have HN : Hid (Pa.splitF s.data.toList = none) := by
               have h1 := HAt.out
               rw [Pa.step_bad acc P[k] e0 e1 e2 (by rw [← HX.out]; exact hD)] at h1
               show _ = _
               rw [N.out, ← HS.out, h1]; rfl
             clear hA hB hC e0 e1 e2 hxl
             go_wp2_with (go_at_call 27; refine (name_c _ _ (by unfold maxLen; omega)).mono ?_; rintro e w3 ⟨rfl, hb3⟩; rw [hD])
             go_ret2
             exact ⟨.inr ⟨HN.out, rfl⟩, hb0.trans ((hbw.mono hb0.size).trans (hb3.mono (by have := hb0.size; omega)))⟩
   · have e3 : k = P.length := by omega
     have HN : Hid (Pa.splitF s.data.toList = some acc) := by
       show _ = _
       rw [N.out, ← HS.out, e3, List.drop_length]; rfl
     clear e3
     go_wp2
     go_ret2
     exact ⟨.inl ⟨acc, _, HN.out, rfl, World.ownsRow_mono hown hb0.size⟩, hb0.trans (hbw.mono hb0.size)⟩
theorem split_c (s : ByteArray) (w : World) (hs : s.size ≤ maxLen) : Calls Tryz.prog 13 #[.string s] w (SplitPost s.data.toList w) := by
 by_cases h : s.size ≤ 120
 · cases hl : s.data.toList with
   | nil =>
     have := split_noslash s w h (fun l e => by rw [hl] at e; cases e)
     rw [hl] at this; exact this
   | cons c r =>
     by_cases hc : c = 47
     · subst hc
       have := split_slash s w h r hl
       rw [hl] at this; exact this
     · have := split_noslash s w h (fun l e => by rw [hl] at e; cases e; exact hc rfl)
       rw [hl] at this; exact this
 · exact split_long s w hs (by omega)
end Go.Proofs.YtgbdplammniidaaGreatDoor
