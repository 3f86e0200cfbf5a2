/-
  What live of the statements on journals returns.
-/
import Derived.Test.YtllohapbbmnipabJRun
import Derived.Deep.OwnRows
namespace Go.Proofs.Ytllohapbbmnipab
open Go.RowKit Go.ChangeShapes Go.WideShapes Go.ChangeAt Go.Maps
set_option linter.unusedVariables false
set_option linter.unusedSimpArgs false
theorem isB_one (W : World) (x : Int) (h0 : 0 ≤ x) (h1 : x ≤ 255) : IsB (W.alloc (.cells #[.int .u8 x] 5 (1, 2))) (some ⟨W.heap.size, 0, none⟩) 1 [x] := by
  refine ⟨rfl, by unfold maxLen; omega, fun _ => ⟨W.heap.size, 0, rfl, fun i hi => ?_⟩, fun i => ?_⟩
  · obtain rfl : i = 0 := by omega
    rw [cell_of_row _ _ _ _ _ _ (heap_alloc_new W _)]
    simp
  · rcases i with _ | i
    · simpa using ⟨h0, h1⟩
    · simp
theorem isB_nil (W : World) : IsB W none 0 [] := ⟨rfl, Nat.zero_le _, fun h => absurd h (by omega), fun i => by simp⟩
theorem isG_one (W : World) (x : Int) (h0 : 0 ≤ x) (h1 : x ≤ 255) : IsG0 ((W.alloc (.cells #[.int .u8 x] 5 (1, 2))).alloc (.cells #[.slice (some ⟨W.heap.size, 0, none⟩) 1 1] 42)) (some ⟨W.heap.size + 1, 0, none⟩) 1 [[x]] := by
  have hn := heap_alloc_new (W.alloc (.cells #[.int .u8 x] 5 (1, 2))) (.cells #[.slice (some ⟨W.heap.size, 0, none⟩) 1 1] 42)
  have hs : (W.alloc (.cells #[.int .u8 x] 5 (1, 2))).heap.size = W.heap.size + 1 := by simp
  rw [hs] at hn
  refine ⟨rfl, by unfold maxLen; omega, fun _ => ⟨W.heap.size + 1, 0, rfl, fun i hi => ?_⟩⟩
  obtain rfl : i = 0 := by omega
  refine ⟨some ⟨W.heap.size, 0, none⟩, 1, ?_, (isB_one W x h0 h1).later ((Below.refl _ _).alloc (Nat.le_refl _) _), Nat.le_refl _, fun e => by cases e⟩
  rw [cell_of_row _ _ _ _ _ _ hn]
  simp
theorem isG_two (W : World) (x : Int) (h0 : 0 ≤ x) (h1 : x ≤ 255) : IsG0 ((W.alloc (.cells #[.int .u8 x] 5 (1, 2))).alloc (.cells #[.slice (some ⟨W.heap.size, 0, none⟩) 1 1, .slice none 0 0] 42)) (some ⟨W.heap.size + 1, 0, none⟩) 2 [[x], []] := by
  have hn := heap_alloc_new (W.alloc (.cells #[.int .u8 x] 5 (1, 2))) (.cells #[.slice (some ⟨W.heap.size, 0, none⟩) 1 1, .slice none 0 0] 42)
  have hs : (W.alloc (.cells #[.int .u8 x] 5 (1, 2))).heap.size = W.heap.size + 1 := by simp
  rw [hs] at hn
  refine ⟨rfl, by unfold maxLen; omega, fun _ => ⟨W.heap.size + 1, 0, rfl, fun i hi => ?_⟩⟩
  rcases i with _ | i
  · refine ⟨some ⟨W.heap.size, 0, none⟩, 1, ?_, (isB_one W x h0 h1).later ((Below.refl _ _).alloc (Nat.le_refl _) _), Nat.le_refl _, fun e => by cases e⟩
    rw [cell_of_row _ _ _ _ _ _ hn]
    simp
  · obtain rfl : i = 0 := by omega
    refine ⟨none, 0, ?_, isB_nil _, Nat.le_refl _, fun _ => rfl⟩
    rw [cell_of_row _ _ _ _ _ _ hn]
    simp
theorem below_two {B : Nat} {a W : World} (h : Below B a W) (hB : B ≤ W.heap.size) (o o' : Obj) : Below B a ((W.alloc o).alloc o') := (h.alloc hB o).alloc (by simp; omega) o'
theorem isB_conv {w : World} {b off len cap : Nat} {zs : List Int} (h : IsB w (some ⟨b, off, none⟩) len zs) (hp : 0 < len) : (convert 42 9 (.slice (some ⟨b, off, none⟩) len cap)).run Try.prog w = .ok (.string (Fr.tx zs)) w := by
  obtain ⟨h1, h2, h3, h4⟩ := h
  refine run_convert_bytes_arg w 42 5 Try.underlying42 Try.underlying5 b off len cap zs h1 (fun i hi => ?_) 9 Try.underlying9
  obtain ⟨b', off', e, hc⟩ := h3 (by omega)
  cases e
  exact hc i hi
/-- A slice of groups. -/
def IsGs (w : World) (a : Option Addr) (n : Nat) (L : List Jo.Gr) : Prop :=
  L.length = n ∧ n ≤ maxLen ∧ (0 < n → ∃ b off, a = some ⟨b, off, none⟩ ∧ ∀ i, i < n → ∃ ga gc, w.cell? ⟨b, off + i, none⟩ = some (.slice ga (L.getD i []).length gc) ∧ IsG0 w ga (L.getD i []).length (L.getD i []))
theorem IsGs.later {w w' : World} {a : Option Addr} {n : Nat} {L : List Jo.Gr} (h : IsGs w a n L) (hb : Below w.heap.size w w') : IsGs w' a n L := by
  obtain ⟨h1, h2, h3⟩ := h
  refine ⟨h1, h2, fun hp => ?_⟩
  obtain ⟨b, off, e, hc⟩ := h3 hp
  refine ⟨b, off, e, fun i hi => ?_⟩
  obtain ⟨ga, gc, c1, c2⟩ := hc i hi
  exact ⟨ga, gc, cell_later hb c1, c2.later hb⟩
theorem PGs.isGs {B : Nat} {w : World} {v : Value} {L : List Jo.Gr} (h : PGs B w v L) (hm : L.length ≤ 100000) (hs : ∀ g ∈ L, g.length ≤ 100000) : ∃ a cap, v = .slice a L.length cap ∧ IsGs w a L.length L ∧ L.length ≤ cap := by
  obtain ⟨vals, h1, h2⟩ := h
  rcases h1.2 with ⟨rfl, hn⟩ | ⟨g, cap, cur, rfl, hg, hbk, hnc, hcm, hcs, ht⟩
  · exact ⟨none, 0, by rw [hn], ⟨rfl, by unfold maxLen; omega, fun hp => by omega⟩, by omega⟩
  · refine ⟨some ⟨g, 0, none⟩, cap, rfl, ⟨rfl, by unfold maxLen; omega, fun hp => ⟨g, 0, rfl, fun i hi => ?_⟩⟩, hnc⟩
    obtain ⟨u, e1, e2⟩ := h2 i hi
    have hmem : L.getD i [] ∈ L := by rw [List.getD, List.getElem?_eq_getElem hi]; exact List.getElem_mem hi
    obtain ⟨ga, gc, rfl, k1⟩ := e2.isG0 (hs _ hmem)
    refine ⟨ga, gc, ?_, k1⟩
    rw [cell_of_row w g _ cur 23 (0, 0) hbk]
    have e4 : (cur.toList.take (L.length * 1))[i]? = vals[i]? := by rw [ht]
    rw [List.getElem?_take, if_pos (by omega)] at e4
    rw [Nat.zero_add, ← Array.getElem?_toList, e4, e1]
theorem isG_zeros (W : World) (n : Nat) (hn : n ≤ 1000) : IsG ((W.alloc (.cells (Array.replicate n (.int .u8 0)) 5)).alloc (.cells #[.slice (some ⟨W.heap.size, 0, none⟩) n n] 42)) (some ⟨W.heap.size + 1, 0, none⟩) 1 [List.replicate n 0] := by
  have hn2 := heap_alloc_new (W.alloc (.cells (Array.replicate n (.int .u8 0)) 5)) (.cells #[.slice (some ⟨W.heap.size, 0, none⟩) n n] 42)
  have hs : (W.alloc (.cells (Array.replicate n (.int .u8 0)) 5)).heap.size = W.heap.size + 1 := by simp
  rw [hs] at hn2
  have hb : IsB (W.alloc (.cells (Array.replicate n (.int .u8 0)) 5)) (some ⟨W.heap.size, 0, none⟩) n (List.replicate n 0) := by
    refine ⟨by simp, by unfold maxLen; omega, fun _ => ⟨W.heap.size, 0, rfl, fun i hi => ?_⟩, fun i => ?_⟩
    · rw [cell_of_row _ _ _ _ _ _ (heap_alloc_new W _)]
      simp [hi, List.getD]
    · by_cases hi : i < n <;> simp [List.getD, hi]
  refine ⟨rfl, by unfold maxLen; omega, fun _ => ⟨W.heap.size + 1, 0, rfl, fun i hi => ?_⟩⟩
  obtain rfl : i = 0 := by omega
  refine ⟨some ⟨W.heap.size, 0, none⟩, n, ?_, by simpa using hb.later ((Below.refl _ _).alloc (Nat.le_refl _) _), by simp⟩
  rw [cell_of_row _ _ _ _ _ _ hn2]
  simp
theorem infoB : (Try.prog.info? 5).map (fun i => (i.zero, i.size, i.bytes)) = some (some (.int .u8 0), 1, 1) := by kernel_rfl
theorem made_rep (n : Nat) (z : Value) : madeCells #[z] n = Array.replicate n z := by
  apply Array.ext
  · simp [size_madeCells]
  · intro i h1 h2
    simp [madeCells, Nat.mod_one]
theorem make_bytes (n : Nat) (hn : n ≤ 100000) (W : World) : (Instr.makeSlice 42 (.int .i64 (n : Int)) (.int .i64 (n : Int))).run Try.prog W = .ok (.slice (some ⟨W.heap.size, 0, none⟩) n n) (W.alloc (.cells (Array.replicate n (.int .u8 0)) 5)) := by
  have := run_make_row' (P := Try.prog) 42 5 (.int .u8 0) 1 Try.underlying42 infoB rfl .i64 .i64 n (by omega) (by omega) W
  rw [made_rep] at this
  exact this
theorem need27 : Jo.needF [List.replicate 27 0] = 3 := by decide +kernel
set_option maxRecDepth 100000 in
set_option maxHeartbeats 4000000 in
theorem jlive_c (w : World) : Calls Try.prog 7 #[] w fun e w' => e = .returned (.bool true) ∧ Below w.heap.size w w' := by
  have kc := fun (w : World) (C : Array Value) (n c : Nat) => Lib.run_convert_bytes_const (P := Try.prog) w 42 5 C n c Try.underlying42 Try.underlying5
  go_enter Try.func7, Try.ntmps7
  go_wp2_with (first
    | (go_at_call 12; refine (new_c 20 _ (by omega) (by omega)).mono ?_; rintro _ w1 ⟨rfl, hD1, hb1, hs1⟩; have OC := hid (open_c hD1 (by omega)))
    | (go_at_call 8; refine OC.out.mono ?_; rintro _ w2 ⟨j, d, p1, p2, rfl, hJ2, hl2, hb2⟩))
  have HB2 := hid (hb1.trans (hb2.mono hb1.size))
  have hl : w.heap.size ≤ p1 ∧ w.heap.size ≤ p2 := by have := hb1.size; omega
  have hb3 := below_two (Below.refl _ w2) (Nat.le_refl _) (.cells #[.int .u8 97] 5 (1, 2)) (.cells #[.slice (some ⟨w2.heap.size, 0, none⟩) 1 1] 42)
  have HB3 := hid (HB2.out.trans (hb3.mono HB2.out.size))
  have AC := hid (append_c (hJ2.later hb3) (some ⟨w2.heap.size + 1, 0, none⟩) 1 1 [[97]] (isG_one w2 97 (by omega) (by omega)))
  clear hD1 hb1 hs1 OC hJ2 hl2 hb2
  refine AC.out.mono ?_
  rintro _ w4 (⟨hz, _⟩ | ⟨_, hz, _⟩ | ⟨_, _, rfl, hJ4, ho4⟩)
  · rw [need1] at hz; omega
  · rw [need1, show arSt (vw (fun x => zsec) fun x => none) 20 = 2 from by decide +kernel, show arEnd (vw (fun x => zsec) fun x => none) 20 = 2 from end0, show asz 20 = 9 from rfl] at hz; omega
  have HB4 := hid (HB3.out.trans (ho4.below HB3.out.size (fun k e => by omega)))
  change IsJ w4 j d p1 p2 20 lv1 _ at hJ4
  have HJ4 := hid hJ4
  clear AC hb3 hJ4 ho4
  go_wp2_with fail
  have hb5 := below_two (Below.refl _ w4) (Nat.le_refl _) (.cells #[.int .u8 98] 5 (1, 2)) (.cells #[.slice (some ⟨w4.heap.size, 0, none⟩) 1 1, .slice none 0 0] 42)
  have HB5 := hid (HB4.out.trans (hb5.mono HB4.out.size))
  have AC := hid (append_c (HJ4.out.later hb5) (some ⟨w4.heap.size + 1, 0, none⟩) 2 2 [[98], []] (isG_two w4 98 (by omega) (by omega)))
  refine AC.out.mono ?_
  rintro _ w6 (⟨hz, _⟩ | ⟨_, hz, _⟩ | ⟨_, _, rfl, hJ6, ho6⟩)
  · rw [need2] at hz; omega
  · change arSt lv1 20 + asz 20 < arEnd lv1 20 + _ at hz
    rw [need2, st1, end1, show asz 20 = 9 from rfl] at hz; omega
  have HB6 := hid (HB5.out.trans (ho6.below HB5.out.size (fun k e => by omega)))
  change IsJ w6 j d p1 p2 20 lv2 _ at hJ6
  have HJ6 := hid hJ6
  have GC := hid (groups_all_c hJ6)
  clear AC hb5 hJ6 ho6 HJ4
  go_wp2_with fail
  refine GC.out.mono ?_
  rintro _ w7 ⟨v7, rfl, hg7, hb7⟩
  change PGs _ _ _ (grps lv2 20) at hg7
  rw [grps2] at hg7
  obtain ⟨vals7, ho7, _⟩ := hg7
  obtain ⟨a7, cap7, rfl⟩ := own_shape6 ho7
  have HB7 := hid (HB6.out.trans (hb7.mono HB6.out.size))
  have HJ7 := hid (HJ6.out.later hb7)
  clear GC ho7 hb7 HJ6
  simp only [List.length_cons, List.length_nil, Nat.zero_add, Nat.reduceAdd]
  go_wp2_with fail
  have hb8 := below_two (Below.refl _ w7) (Nat.le_refl _) (.cells #[.int .u8 99] 5 (1, 2)) (.cells #[.slice (some ⟨w7.heap.size, 0, none⟩) 1 1] 42)
  have HB8 := hid (HB7.out.trans (hb8.mono HB7.out.size))
  have RC := hid (reset_c (HJ7.out.later hb8) (some ⟨w7.heap.size + 1, 0, none⟩) 1 1 [[99]] (isG_one w7 99 (by omega) (by omega)))
  refine RC.out.mono ?_
  rintro _ w9 (⟨hz, _⟩ | ⟨_, hz, _⟩ | ⟨_, _, _, rfl, hJ9, ho9⟩)
  · rw [need3] at hz; omega
  · change asz 20 < _ ∨ (best lv2 2).2 = _ at hz
    rw [need3, best2, show asz 20 = 9 from rfl] at hz; omega
  have HB9 := hid (HB8.out.trans (ho9.below HB8.out.size (fun k e => by omega)))
  change IsJ w9 j d p1 p2 20 lv3 _ at hJ9
  have GC := hid (groups_all_c hJ9)
  clear RC hb8 hJ9 ho9 HJ7
  go_wp2_with fail
  refine GC.out.mono ?_
  rintro _ w10 ⟨v10, rfl, hg10, hb10⟩
  change PGs _ _ _ (grps lv3 20) at hg10
  rw [grps3] at hg10
  have HB10 := hid (HB9.out.trans (hb10.mono HB9.out.size))
  obtain ⟨a10, cap10, rfl, hG10, hcap⟩ := hg10.isGs (by simp) (by simp)
  simp only [List.length_cons, List.length_nil, Nat.zero_add] at hG10 hcap ⊢
  obtain ⟨_, _, h3⟩ := hG10
  obtain ⟨b, off, rfl, hc⟩ := h3 (by omega)
  obtain ⟨ga, gc, c1, hgg⟩ := hc 0 (by omega)
  obtain ⟨_, _, h4⟩ := hgg
  obtain ⟨b', off', rfl, hc'⟩ := h4 (by simp)
  obtain ⟨pa, pc, c2, hB, hpc, _⟩ := hc' 0 (by simp)
  have hB' := hB
  obtain ⟨_, _, h5, _⟩ := hB'
  obtain ⟨b'', off'', rfl, _⟩ := h5 (by simp)
  have kv := isB_conv (cap := pc) hB (by simp)
  simp only [List.getD_cons_zero, List.length_cons, List.length_nil, Nat.zero_add, Nat.add_zero] at c1 c2 kv
  rw [show Fr.tx [99] = (⟨#[99]⟩ : ByteArray) from rfl] at kv
  have NC := hid (needs_c (some ⟨w10.heap.size + 1, 0, none⟩) 1 1 [List.replicate 27 0] _ (isG_zeros w10 27 (by omega)))
  rw [need27] at NC
  have hmk : ∀ W : World, (Instr.makeSlice 42 (.int .i64 27) (.int .i64 27)).run Try.prog W = .ok (.slice (some ⟨W.heap.size, 0, none⟩) 27 27) (W.alloc (.cells (Array.replicate 27 (.int .u8 0)) 5)) := make_bytes 27 (by omega)
  clear hg10 hc hc' hB h3 h4 h5 GC hb10 hcap hpc
  go_wp2_with (go_at_call 23; refine NC.out.mono ?_; rintro _ w11 ⟨rfl, rfl⟩)
  go_ret
  exact ⟨rfl, below_two HB10.out HB10.out.size _ _⟩
end Go.Proofs.Ytllohapbbmnipab
