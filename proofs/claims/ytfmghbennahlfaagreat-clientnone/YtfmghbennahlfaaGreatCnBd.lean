/-
  
-/
import Derived.Test.YtfmghbennahlfaaGreatCnBc
import Derived.Shelf.SlMaps.Clone
import Derived.Test.YtfmghbennahlfaaGreatProg
import Derived.Test.YtfmghbennahlfaaGreatCnBa
import Derived.Test.YtfmghbennahlfaaGreatCnBb
namespace Go.Proofs.YtfmghbennahlfaaGreat
open Go.RowKit
set_option linter.unusedVariables false
set_option linter.unusedSimpArgs false
def runL (t : Int) : Int → List Jo.Gr → List (List Int)
 | _, [] => []
 | n, g :: L => Jo.laid g t n ++ runL t (n + 1) L
theorem runL_len (t : Int) : ∀ (L : List Jo.Gr) (n : Int), (∀ g ∈ L, Jo.okG g = true) → (runL t n L).length = sumN L
 | [], n, _ => rfl
 | a :: L, n, h => by
   have ih := runL_len t L (n + 1) fun g hg => h g (by simp [hg])
   have e : sumN (a :: L) = Jo.needF a + sumN L := by unfold sumN; simp
   rw [runL, List.length_append, ih, Jo.laid_len, e, Jo.need_ok (h a (by simp))]
theorem groupsF_run (t : Int) (rest : List (List Int)) : ∀ (L : List Jo.Gr) (n : Int) (m : Nat), (∀ g ∈ L, Jo.okG g = true) → Jo.readF t (n + L.length) rest = none → L.length < m → Jo.groupsF t m n (runL t n L ++ rest) = L
 | [], n, m, _, hr, hm => by
   match m, hm with
   | m + 1, _ =>
     have hr' : Jo.readF t n rest = none := by simpa using hr
     simp [Jo.groupsF, runL, hr']
 | a :: L, n, m, h, hr, hm => by
   match m, hm with
   | m + 1, hm =>
     have ho := h a (by simp)
     have h1 : Jo.readF t n (runL t n (a :: L) ++ rest) = some a := Jo.read_of ⟨ho, runL t (n + 1) L ++ rest, by simp [runL]⟩
     have h2 : (runL t n (a :: L) ++ rest).drop (Jo.needF a) = runL t (n + 1) L ++ rest := by
       rw [Jo.need_ok ho, ← Jo.laid_len a t n, runL, List.append_assoc, List.drop_left]
     have ih := groupsF_run t rest L (n + 1) m (fun g hg => h g (by simp [hg])) (by rw [← hr]; congr 1; simp; omega) (by simp at hm; omega)
     unfold Jo.groupsF
     rw [h1]
     simp only
     rw [h2, ih]
theorem mark_first (t n k l : Int) : (Jo.firstS t n k l).getD 0 0 = 71 := rfl
theorem mark_data (l : List Int) (k : Nat) : (Jo.dataS l k).getD 0 0 = 68 := rfl
theorem laid_front {g : Jo.Gr} {t n : Int} (ho : Jo.okG g = true) {s : List Int} (hs : s ∈ (Jo.laid g t n).take (Jo.needF g - 1)) : s.getD 0 0 ≠ 67 := by
 rw [Jo.need_ok ho] at hs
 unfold Jo.secsOf at hs
 rw [show 2 + Jo.many (Jo.loadF g).length - 1 = Jo.many (Jo.loadF g).length + 1 by omega] at hs
 unfold Jo.laid at hs
 rw [List.take_succ_cons] at hs
 rcases List.mem_cons.1 hs with rfl | hs
 · rw [mark_first]; decide
 · have hd : (Jo.dataL (Jo.loadF g) (Jo.many (Jo.loadF g).length)).length = Jo.many (Jo.loadF g).length := by unfold Jo.dataL; simp
   rw [List.take_left' hd] at hs
   unfold Jo.dataL at hs
   obtain ⟨k, _, rfl⟩ := List.mem_map.1 hs
   rw [mark_data]; decide
theorem secs_congr {v v' : Int → Sec} {st n : Nat} (h : ∀ i, i < n → v ((st + i : Nat) : Int) = v' ((st + i : Nat) : Int)) : secs v st n = secs v' st n := by
 unfold secs
 exact List.map_congr_left fun i hi => h i (List.mem_range.1 hi)
theorem secs_add (v : Int → Sec) (st a b : Nat) : secs v st (a + b) = secs v st a ++ secs v (st + a) b := by
 induction b with
 | zero => simp [secs]
 | succ b ih => rw [← Nat.add_assoc, secs_snoc, ih, secs_snoc, List.append_assoc, Nat.add_assoc]
theorem secs_get (v : Int → Sec) (st n i : Nat) (h : i < n) : (secs v st n)[i]? = some (v ((st + i : Nat) : Int)) := by unfold secs; simp [h]
theorem secs_upd (v : Int → Sec) (e : Nat) (l : List (List Int)) : secs (updO v e l) e l.length = l := by
 apply List.ext_getElem?
 intro i
 by_cases hi : i < l.length
 · rw [secs_get _ _ _ _ hi]
   unfold updO
   rw [if_pos (by omega)]
   have : (((e + i : Nat) : Int) - (e : Int)).toNat = i := by omega
   rw [this]
   simp [List.getD, hi]
 · rw [List.getElem?_eq_none (by rw [secs_len]; omega), List.getElem?_eq_none (by omega)]
theorem turn_zero : Jo.turnOf zsec = 0 := by decide +kernel
theorem updO_at {v : Int → Sec} {e : Nat} {l : List (List Int)} (p : Nat) : updO v e l (p : Int) = if e ≤ p ∧ p < e + l.length then l.getD (p - e) [] else v (p : Int) := by
 unfold updO
 by_cases h : e ≤ p ∧ p < e + l.length
 · rw [if_pos (by omega), if_pos h]
   congr 1; omega
 · rw [if_neg (by omega), if_neg h]
end Go.Proofs.YtfmghbennahlfaaGreat
namespace Go.Proofs
open Go.Shelf
def Tryz.cloneA_ren : Go.Shelf.Ren := ⟨fun | 5 => 165 | 7 => 166 | n => n, fun | 23 => 122 | 25 => 3 | 3 => 260 | 4 => 4 | 20 => 20 | n => n, fun | n => n⟩
theorem Tryz.cloneA : Go.Proofs.SlLaysW.n5 Tryz.prog Tryz.cloneA_ren := {
 mixed := by kernel_rfl
 f5 := ⟨Tryz.f165.name, by decide, Tryz.func165.trans (congrArg some (by kernel_rfl))⟩
 f7 := Tryz.func166.trans (congrArg some (by kernel_rfl))
 t4 := Tryz.underlying4
 a4 := Tryz.isAgg4
 z4 := Tryz.sizeOf4
 v4 := Tryz.zeroValue4
 t20 := Tryz.underlying20
 a20 := Tryz.isAgg20
 z20 := Tryz.sizeOf20
 v20 := Tryz.zeroValue20
 t23 := Tryz.underlying122
 a23 := Tryz.isAgg122
 z23 := Tryz.sizeOf122
 v23 := Tryz.zeroValue122 }
end Go.Proofs
namespace Go.Proofs.YtfmghbennahlfaaGreat
open Go.RowKit Go.ChangeShapes Go.WideShapes Go.ChangeAt Go.Maps
set_option linter.unusedVariables false
set_option linter.unusedSimpArgs false
theorem clone_c {w : World} {b N : Nat} {f : Int → Option Sec} (h : IsM w b N f) : Calls Tryz.prog 165 #[.map (some b)] w fun e w' => e = .returned (.map (some w.heap.size)) ∧ IsM w' w.heap.size N f ∧ Below w.heap.size w w' ∧ w'.heap.size = w.heap.size + 1 := by
 obtain ⟨⟨D, ⟨es, clock, hb, F, hs, hD⟩, hf⟩, h2⟩ := h
 refine (AnyW.maps_Clone Tryz.cloneA b es clock w hb).mono fun e w' ⟨he, hw⟩ => ?_
 subst hw
 exact ⟨he, ⟨⟨D, ⟨es, clock, (MapKept.heap_alloc w _).1, F, hs, hD⟩, hf⟩, h2⟩, (Below.refl _ w).alloc (Nat.le_refl _) _, by simp⟩
set_option maxRecDepth 100000 in
set_option maxHeartbeats 2000000 in
theorem fork_c {w : World} {d b1 b2 N : Nat} {on : Int → Sec} {c : Int → Option Sec} (h : IsD w d b1 b2 N on c) :
   Calls Tryz.prog 100 #[pD d] w fun e w' => ∃ d' p1 p2, e = .returned (pD d') ∧ IsD w' d' p1 p2 N on c ∧ (w.heap.size ≤ d' ∧ w.heap.size ≤ p1 ∧ w.heap.size ≤ p2) ∧ Below w.heap.size w w' := by
 obtain ⟨c0, c1, c2, l0, l1, l2, d1, d2, d3⟩ := h.cells
 obtain ⟨m, hm, he⟩ := h.2.2.2.2.2
 have HD : Hid (IsD w.drew d b1 b2 N on c) := h
 have HM1 : Hid (IsM w.drew b1 N m) := hm
 have HM2 : Hid (IsM w.drew b2 N c) := h.2.2.2.2.1
 have HE := hid he
 have HN := hid (And.intro h.2.2.1 h.2.2.2.1)
 clear h hm he l1 l2 d1 d2 d3
 go_enter Tryz.func100, Tryz.ntmps100
 go_wp2
 go_region_held3 (fun w' => w'.cell? ⟨d, 0, none⟩ = some (.int .i64 N) ∧ w'.cell? ⟨d, 1, none⟩ = some (.map (some b1)) ∧ w'.cell? ⟨d, 2, none⟩ = some (.map (some b2))) (first | go_keep | exact ⟨S2.out.cells.1, S2.out.cells.2.1, S2.out.cells.2.2.1⟩ | exact ⟨S1.out.cells.1, S1.out.cells.2.1, S1.out.cells.2.2.1⟩)
   (first
     | (go_at_call 165; refine (clone_c HM1.out).mono ?_; rintro _ w1 ⟨rfl, k1, hb1, hs1⟩; have K1 := hid k1; have S1 := hid (HD.out.later hb1); have M1 := hid (HM2.out.out (Out.of (S := fun _ => False) hb1) id); have B1 := hid hb1; have Z1 := hid hs1)
     | (go_at_call 165; refine (clone_c M1.out).mono ?_; rintro _ w2 ⟨rfl, k2, hb2, hs2⟩; have K2 := hid k2; have S2 := hid (S1.out.later hb2); have M2 := hid (K1.out.out (Out.of (S := fun _ => False) hb2) id); have B2 := hid hb2; have Z2 := hid hs2))
 go_wp2
 go_ret
 have z1 : w1.heap.size = w.heap.size + 1 := Z1.out
 have z2 : w2.heap.size = w.heap.size + 1 + 1 := by rw [Z2.out, z1]
 have q2 := K2.out
 rw [z1] at q2
 have q1 : IsM w2 w.heap.size N m := M2.out
 have hb : Below w.heap.size w w2 := (((Below.refl _ w).drew).trans B1.out).trans (B2.out.mono (by omega))
 have hn := heap_alloc_new w2 (.cells #[.int .i64 N, .map (some w.heap.size), .map (some (w.heap.size + 1))] 124 (0, 0))
 rw [z2] at hn
 have ho : Out (fun _ => False) w2 (w2.alloc (.cells #[.int .i64 N, .map (some w.heap.size), .map (some (w.heap.size + 1))] 124 (0, 0))) := (Out.refl _ _).alloc _
 exact ⟨_, _, _, rfl, ⟨hn, by omega, HN.out.1, HN.out.2, q2.out ho id, m, q1.out ho id, HE.out⟩, ⟨by omega, by omega, by omega⟩, hb.alloc hb.size _⟩
set_option maxHeartbeats 400000 in
theorem open_c {w : World} {d b1 b2 N : Nat} {on : Int → Sec} {c : Int → Option Sec} (h : IsD w d b1 b2 N on c) (h8 : 8 ≤ N) :
   Calls Tryz.prog 52 #[pD d] w fun e w' => ∃ j d' p1 p2, e = .returned (pB j) ∧ IsJ w' j d' p1 p2 N on c ∧ (w.heap.size ≤ j ∧ w.heap.size ≤ d' ∧ w.heap.size ≤ p1 ∧ w.heap.size ≤ p2) ∧ Below w.heap.size w w' := by
 have SC := hid (size_c h)
 have FC := hid (fork_c h)
 have hI : ¬ (N : Int) < 8 := by omega
 clear h
 go_enter Tryz.func52, Tryz.ntmps52
 go_wp2_with (first
   | (go_at_call 103; refine SC.out.mono ?_; rintro _ w1 ⟨rfl, rfl⟩)
   | (go_at_call 100; refine FC.out.mono ?_; rintro _ w2 ⟨d', p1, p2, rfl, hD, hl, hb⟩))
 go_ret
 have hb3 : Below w2.heap.size w2 (w2.alloc (.cells #[pD d'] 175 (0, 0))) := (Below.refl _ _).alloc (Nat.le_refl _) _
 exact ⟨_, _, _, _, rfl, ⟨heap_alloc_new w2 _, hD.later hb3, h8⟩, ⟨hb.size, hl⟩, hb.trans (hb3.mono hb.size)⟩
set_option maxHeartbeats 400000 in
theorem open_few {w : World} {d b1 b2 N : Nat} {on : Int → Sec} {c : Int → Option Sec} (h : IsD w d b1 b2 N on c) (h8 : N < 8) :
   Calls Tryz.prog 52 #[pD d] w fun e w' => e = .returned (.pointer none) ∧ w' = w := by
 have SC := hid (size_c h)
 have hI : (N : Int) < 8 := by omega
 clear h
 go_enter Tryz.func52, Tryz.ntmps52
 go_wp2_with (first
   | (go_at_call 103; refine SC.out.mono ?_; rintro _ w1 ⟨rfl, rfl⟩))
 go_ret
 exact ⟨rfl, rfl⟩
end Go.Proofs.YtfmghbennahlfaaGreat
namespace Go.Proofs.YtfmghbennahlfaaGreat
open Go.RowKit
set_option linter.unusedVariables false
set_option linter.unusedSimpArgs false
theorem last_turn {t : Int} (n : Int) (h : 0 ≤ t ∧ t < 4294967296) : Fr.at4 (Jo.lastS t n) 1 = t := Fr.num4_le4 t h.1 h.2
theorem last_num (t : Int) {n : Int} (h : 0 ≤ n ∧ n < 4294967296) : Fr.at4 (Jo.lastS t n) 5 = n := Fr.num4_le4 n h.1 h.2
structure Held (v : Int → Sec) (N k : Nat) (t : Int) (L : List Jo.Gr) : Prop where
 k1 : k ≤ 1
 t0 : 0 ≤ t ∧ t < 4294967296
 bst : best v 2 = (k, t)
 ok : ∀ g ∈ L, Jo.okG g = true
 le : sumN L ≤ asz N
 few : N ≤ 2048
 run : secs v (2 + k * asz N) (sumN L) = runL t 1 L
 no : ∀ p : Nat, 2 + k * asz N + sumN L ≤ p → p < 2 + k * asz N + asz N → (v (p : Int)).getD 0 0 = 67 → Fr.at4 (v (p : Int)) 1 = t → Fr.at4 (v (p : Int)) 5 ≤ L.length
 old : ∀ p : Nat, 2 + k * asz N ≤ p → p < 2 + k * asz N + asz N → (v (p : Int)).getD 0 0 = 67 → Fr.at4 (v (p : Int)) 1 ≤ t
 oth : ∀ p : Nat, 2 + (1 - k) * asz N ≤ p → p < 2 + (1 - k) * asz N + asz N → (v (p : Int)).getD 0 0 = 67 → Fr.at4 (v (p : Int)) 1 ≤ t ∨ (Fr.at4 (v (p : Int)) 1 = t + 1 ∧ Fr.at4 (v (p : Int)) 5 ≤ 1)
theorem len_sum {L : List Jo.Gr} (hk : ∀ g ∈ L, Jo.okG g = true) : L.length ≤ sumN L := by
 induction L with
 | nil => simp
 | cons a L ih =>
   have e : sumN (a :: L) = Jo.needF a + sumN L := by unfold sumN; simp
   have := ih fun g hg => hk g (by simp [hg])
   have h2 := Jo.need_ok (hk a (by simp))
   unfold Jo.secsOf at h2
   rw [e, List.length_cons]; omega
theorem Held.len {v : Int → Sec} {N k : Nat} {t : Int} {L : List Jo.Gr} (h : Held v N k t L) : L.length ≤ 1023 := by
 have h1 := len_sum h.ok
 have h2 := h.le
 have h3 := h.few
 unfold asz at h2
 omega
theorem Held.grps {v : Int → Sec} {N k : Nat} {t : Int} {L : List Jo.Gr} (h : Held v N k t L) (hs : ∀ i, Jo.Sct (v i)) : grps v N = L := by
 have hlen := h.len
 unfold Go.Proofs.YtfmghbennahlfaaGreat.grps allG
 rw [h.bst]
 simp only
 have e : secs v (2 + k * asz N) (asz N) = runL t 1 L ++ secs v (2 + k * asz N + sumN L) (asz N - sumN L) := by
   rw [← h.run, ← secs_add]
   congr 1
   have := h.le; omega
 rw [e]
 refine groupsF_run t _ L 1 _ h.ok ?_ ?_
 · cases hr : Jo.readF t (1 + (L.length : Int)) (secs v (2 + k * asz N + sumN L) (asz N - sumN L)) with
   | none => rfl
   | some g =>
     exfalso
     obtain ⟨⟨_, r, hr2⟩, _⟩ := Jo.of_read hr (secs_sct hs _ _)
     have hm : Jo.lastS t (1 + (L.length : Int)) ∈ secs v (2 + k * asz N + sumN L) (asz N - sumN L) := by rw [hr2]; unfold Jo.laid; simp
     unfold secs at hm
     obtain ⟨i, hi, he⟩ := List.mem_map.1 hm
     have hi := List.mem_range.1 hi
     have hle := h.le
     have := h.no (2 + k * asz N + sumN L + i) (by omega) (by omega) (by rw [he]; rfl) (by rw [he]; exact last_turn _ h.t0)
     rw [he, last_num _ (by omega)] at this
     omega
 · rw [List.length_append, runL_len t L 1 h.ok]
   have := len_sum h.ok
   omega
theorem Held.ar {v : Int → Sec} {N k : Nat} {t : Int} {L : List Jo.Gr} (h : Held v N k t L) (hs : ∀ i, Jo.Sct (v i)) : arSt v N = 2 + k * asz N ∧ arEnd v N = 2 + k * asz N + sumN L ∧ otSt v N = 2 + (1 - k) * asz N := by
 have e : arSt v N = 2 + k * asz N := by unfold arSt; rw [h.bst]
 exact ⟨e, by unfold arEnd; rw [e, h.grps hs], by unfold otSt; rw [h.bst]⟩
theorem best_eq (v : Int → Sec) : best v 2 = if (if (0 : Int) < Jo.turnOf (v 0) then Jo.turnOf (v 0) else 0) < Jo.turnOf (v 1) then (1, Jo.turnOf (v 1)) else (0, if (0 : Int) < Jo.turnOf (v 0) then Jo.turnOf (v 0) else 0) := by
 show (if (if (0 : Int) < Jo.turnOf (v 0) then ((0 : Nat), Jo.turnOf (v 0)) else (0, 0)).2 < Jo.turnOf (v 1) then (1, Jo.turnOf (v 1)) else (if (0 : Int) < Jo.turnOf (v 0) then ((0 : Nat), Jo.turnOf (v 0)) else (0, 0))) = _
 by_cases h : (0 : Int) < Jo.turnOf (v 0)
 · simp only [if_pos h]
 · simp only [if_neg h]
theorem best_le {v : Int → Sec} {k : Nat} {t : Int} (h : best v 2 = (k, t)) : Jo.turnOf (v 0) ≤ t ∧ Jo.turnOf (v 1) ≤ t ∧ k ≤ 1 := by
 rw [best_eq] at h
 by_cases h0 : (0 : Int) < Jo.turnOf (v 0)
 · simp only [if_pos h0] at h
   by_cases h1 : Jo.turnOf (v 0) < Jo.turnOf (v 1)
   · rw [if_pos h1] at h; injection h with h2 h3; omega
   · rw [if_neg h1] at h; injection h with h2 h3; omega
 · simp only [if_neg h0] at h
   by_cases h1 : 0 < Jo.turnOf (v 1)
   · rw [if_pos h1] at h; injection h with h2 h3; omega
   · rw [if_neg h1] at h; injection h with h2 h3; omega
theorem apart {N k p : Nat} (hk : k ≤ 1) (h1 : 2 + k * asz N ≤ p) (h2 : p < 2 + k * asz N + asz N) : ¬ (2 + (1 - k) * asz N ≤ p ∧ p < 2 + (1 - k) * asz N + asz N) := by
 rcases (by omega : k = 0 ∨ k = 1) with rfl | rfl <;> simp only [Nat.zero_mul, Nat.one_mul, Nat.sub_zero, Nat.sub_self] at * <;> omega
theorem laid_at {g : Jo.Gr} {t n : Int} (ho : Jo.okG g = true) (i : Nat) (hi : i < Jo.needF g) : ((Jo.laid g t n).getD i []).getD 0 0 ≠ 67 ∨ ((Jo.laid g t n).getD i [] = Jo.lastS t n ∧ i = Jo.needF g - 1) := by
 have hl : (Jo.laid g t n).length = Jo.needF g := by rw [Jo.laid_len, Jo.need_ok ho]
 by_cases hlt : i < Jo.needF g - 1
 · refine .inl (laid_front ho (t := t) (n := n) ?_)
   have hi2 : i < ((Jo.laid g t n).take (Jo.needF g - 1)).length := by rw [List.length_take]; omega
   have e : (Jo.laid g t n).getD i [] = ((Jo.laid g t n).take (Jo.needF g - 1))[i] := by rw [List.getD, List.getElem?_eq_getElem (by omega), List.getElem_take]; rfl
   rw [e]; exact List.getElem_mem hi2
 · have ei : i = Jo.needF g - 1 := by omega
   refine .inr ⟨?_, ei⟩
   have hd : (Jo.dataL (Jo.loadF g) (Jo.many (Jo.loadF g).length)).length = Jo.many (Jo.loadF g).length := by unfold Jo.dataL; simp
   have hn := Jo.need_ok ho
   unfold Jo.secsOf at hn
   rw [ei, hn]
   unfold Jo.laid
   rw [show 2 + Jo.many (Jo.loadF g).length - 1 = Jo.many (Jo.loadF g).length + 1 by omega, List.getD, List.getElem?_cons_succ, List.getElem?_append_right (by omega), hd, Nat.sub_self]; rfl
theorem best_other {v v' : Int → Sec} {k : Nat} {t : Int} (h : best v 2 = (k, t)) (ht : 0 ≤ t) (ht2 : t + 1 < 4294967296) (hk : v' (k : Int) = v (k : Int)) (hn : v' ((1 - k : Nat) : Int) = Jo.headS (t + 1)) : best v' 2 = (1 - k, t + 1) := by
 obtain ⟨b0, b1, bk⟩ := best_le h
 have hT : Jo.turnOf (Jo.headS (t + 1)) = t + 1 := Jo.turnOf_head (by omega) (by omega)
 rw [best_eq]
 rcases (by omega : k = 0 ∨ k = 1) with rfl | rfl
 · have e0 : v' 0 = v 0 := hk
   have e1 : v' 1 = Jo.headS (t + 1) := hn
   rw [e0, e1, hT, if_pos]
   split <;> omega
 · have e0 : v' 0 = Jo.headS (t + 1) := hn
   have e1 : v' 1 = v 1 := hk
   have h0 : (0 : Int) < t + 1 := by omega
   have h1 : ¬ t + 1 < Jo.turnOf (v 1) := by omega
   simp only [e0, e1, hT, if_pos h0, if_neg h1]
theorem Held.set {v v' : Int → Sec} {N k : Nat} {t : Int} {L : List Jo.Gr} (h : Held v N k t L) (hN : 8 ≤ N) (ht : t ≠ 4294967295) {g : Jo.Gr} (ho : Jo.okG g = true) (hr : Jo.needF g ≤ asz N)
   (hk : v' (k : Int) = v (k : Int)) (hn : v' ((1 - k : Nat) : Int) = Jo.headS (t + 1)) (ha : ∀ p : Nat, 2 ≤ p → p < N → v' (p : Int) = updO v (2 + (1 - k) * asz N) (Jo.laid g (t + 1) 1) (p : Int)) : Held v' N (1 - k) (t + 1) [g] := by
 have hl : (Jo.laid g (t + 1) 1).length = Jo.needF g := by rw [Jo.laid_len, Jo.need_ok ho]
 have hkk := h.k1
 have ht0 := h.t0
 have hz : 2 + k * asz N + asz N ≤ N ∧ 2 + (1 - k) * asz N + asz N ≤ N := by
   have h2 : 2 * asz N + 2 ≤ N := by unfold asz; omega
   rcases (by omega : k = 0 ∨ k = 1) with rfl | rfl <;> simp only [Nat.zero_mul, Nat.one_mul, Nat.sub_zero, Nat.sub_self] <;> omega
 have es : sumN [g] = Jo.needF g := by unfold sumN; simp
 have e1 : 1 - (1 - k) = k := by omega
 refine ⟨by omega, by omega, best_other h.bst ht0.1 (by omega) hk hn, ?_, by rw [es]; exact hr, h.few, ?_, ?_, ?_, ?_⟩
 · intro a ha; rw [List.mem_singleton.1 ha]; exact ho
 · rw [es]
   have e2 : secs v' (2 + (1 - k) * asz N) (Jo.needF g) = secs (updO v (2 + (1 - k) * asz N) (Jo.laid g (t + 1) 1)) (2 + (1 - k) * asz N) (Jo.needF g) := secs_congr fun i hi => ha _ (by omega) (by omega)
   rw [e2, ← hl, secs_upd]
   simp [runL]
 · intro p hp hp2 hm htt
   rw [es] at hp
   rw [ha p (by omega) (by omega), updO_at, if_neg (by omega)] at hm htt ⊢
   rcases h.oth p (by omega) hp2 hm with e | e
   · omega
   · simp; omega
 · intro p hp hp2 hm
   rw [ha p (by omega) (by omega), updO_at] at hm ⊢
   by_cases hc : 2 + (1 - k) * asz N ≤ p ∧ p < 2 + (1 - k) * asz N + (Jo.laid g (t + 1) 1).length
   · rw [if_pos hc] at hm ⊢
     rcases laid_at (t := t + 1) (n := 1) ho (p - (2 + (1 - k) * asz N)) (by omega) with e | ⟨e, _⟩
     · exact absurd hm e
     · rw [e, last_turn _ (by omega)]; omega
   · rw [if_neg hc] at hm ⊢
     have := h.oth p hp hp2 hm
     omega
 · rw [e1]
   intro p hp hp2 hm
   have hap := apart (N := N) (k := k) (p := p) hkk hp hp2
   rw [ha p (by omega) (by omega), updO_at, if_neg (by omega)] at hm ⊢
   have := h.old p hp hp2 hm
   omega
theorem Held.setTo {v : Int → Sec} {N k : Nat} {t : Int} {L : List Jo.Gr} (h : Held v N k t L) (hN : 8 ≤ N) (hs : ∀ i, Jo.Sct (v i)) (ht : t ≠ 4294967295) {g : Jo.Gr} (ho : Jo.okG g = true) (hr : Jo.needF g ≤ asz N) : Held (setTo v N g) N (1 - k) (t + 1) [g] := by
 have hkk := h.k1
 unfold Go.Proofs.YtfmghbennahlfaaGreat.setTo
 rw [(h.ar hs).2.2, h.bst]
 simp only
 refine h.set hN ht ho hr ?_ ?_ fun p hp hp2 => ?_
 · rw [updO_at, if_neg (by simp; omega), updO_at, if_neg (by omega)]
 · rw [updO_at, if_pos (by simp)]; simp [List.getD]
 · rw [updO_at, if_neg (by simp; omega)]
theorem Held.zero (N : Nat) (h8 : 8 ≤ N) (hN : N ≤ 2048) : Held (fun _ => zsec) N 0 0 [] := by
 have hb : best (fun _ => zsec) 2 = (0, 0) := by simp [best, turn_zero]
 have hm : ¬ zsec.getD 0 0 = 67 := by decide
 exact ⟨by omega, by omega, hb, (fun g hg => absurd hg (by simp)), (by simp [sumN]), hN, rfl, fun p _ _ h => absurd h hm, fun p _ _ h => absurd h hm, fun p _ _ h => absurd h hm⟩
end Go.Proofs.YtfmghbennahlfaaGreat
namespace Go.Proofs.YtfmghbennahlfaaGreat
open Go.RowKit Go.ChangeShapes Go.WideShapes Go.ChangeAt Go.Maps Go.Shelf
set_option linter.unusedVariables false
set_option linter.unusedSimpArgs false
set_option maxRecDepth 100000
def Stay (w w' : World) : Prop := ∀ (k : Nat) (cs : Array Value) (t : TypeId) (fr : Nat × Nat), w.heap[k]? = some (.cells cs t fr) → w'.heap[k]? = some (.cells cs t fr)
theorem Stay.trans {a b c : World} (h : Stay a b) (k : Stay b c) : Stay a c := fun i cs t fr e => k i cs t fr (h i cs t fr e)
theorem Stay.of {w w' : World} (h : Below w.heap.size w w') : Stay w w' := fun k cs t fr e => (h.block k (lt_blkR e)).trans e
theorem Stay.cell {w w' : World} (h : Stay w w') {p : Addr} {v : Value} (hc : w.cell? p = some v) : w'.cell? p = some v := by
 unfold World.cell? at hc ⊢
 cases hb : w.heap[p.block]? with
 | none => rw [hb] at hc; cases hc
 | some o =>
   rw [hb] at hc
   cases o with
   | cells c e f => rw [h _ _ _ _ hb]; exact hc
   | _ => cases hc
theorem IsM.obj {w : World} {b N : Nat} {f : Int → Option Sec} (h : IsM w b N f) : ∃ es cl, w.heap[b]? = some (.map es cl) := by
 obtain ⟨⟨D, ⟨es, cl, e, _⟩, _⟩, _⟩ := h
 exact ⟨es, cl, e⟩
theorem Stay.disk {w w' : World} {d b1 b2 N : Nat} {on : Int → Sec} {c : Int → Option Sec} (h : IsD w d b1 b2 N on c) (ho : Out (fun k => k = b1 ∨ k = b2) w w') : Stay w w' := fun k cs t fr e => by
 obtain ⟨_, _, _, _, h2, m, h1, _⟩ := h
 rw [ho.block k (lt_blkR e) (fun hk => by
   rcases hk with rfl | rfl
   · obtain ⟨es, cl, q⟩ := h1.obj; rw [e] at q; cases q
   · obtain ⟨es, cl, q⟩ := h2.obj; rw [e] at q; cases q)]
 exact e
def LgM (w : World) (lv : Value) (L : List Rec) : Prop := (lv = .slice none 0 0 ∧ L = []) ∨ ∃ (lb cap : Nat) (cur : Array Value) (o : Rec), lv = .slice (some ⟨lb, 0, none⟩) 1 cap ∧ L = [o] ∧ w.heap[lb]? = some (.cells cur 113 (0, 0)) ∧ R9 cur o
theorem LgM.stay {w w' : World} {lv : Value} {L : List Rec} (h : LgM w lv L) (hs : ∀ (k : Nat) (cs : Array Value), w.heap[k]? = some (.cells cs 113 (0, 0)) → w'.heap[k]? = some (.cells cs 113 (0, 0))) : LgM w' lv L := by
 rcases h with h | ⟨lb, cap, cur, o, e1, e2, e3, e4⟩
 · exact .inl h
 · exact .inr ⟨lb, cap, cur, o, e1, e2, hs _ _ e3, e4⟩
theorem LgM.later {w w' : World} {lv : Value} {L : List Rec} (h : LgM w lv L) (hb : Below w.heap.size w w') : LgM w' lv L := h.stay (fun k cs e => (hb.block k (lt_blkR e)).trans e)
theorem LgM.shape {w : World} {lv : Value} {L : List Rec} (h : LgM w lv L) : ∃ a c, lv = .slice a L.length c := by
 rcases h with ⟨e, e'⟩ | ⟨lb, cap, cur, o, e1, e2, _⟩
 · exact ⟨_, _, by rw [e, e']; rfl⟩
 · exact ⟨_, _, by rw [e1, e2]; rfl⟩
def JT (w : World) (j d b1 b2 N : Nat) (t : Int) : Prop := ∃ (on : Int → Sec) (cc : Int → Option Sec) (k : Nat) (L : List Jo.Gr), IsJ w j d b1 b2 N on cc ∧ Held (vw on cc) N k t L
theorem JT.later {w w' : World} {j d b1 b2 N : Nat} {t : Int} (h : JT w j d b1 b2 N t) (hb : Below w.heap.size w w') : JT w' j d b1 b2 N t := by
 obtain ⟨on, cc, k, L, h1, h2⟩ := h
 exact ⟨on, cc, k, L, h1.later hb, h2⟩
theorem JT.ou {S : Nat → Prop} {w w' : World} {j d b1 b2 N : Nat} {t : Int} (h : JT w j d b1 b2 N t) (ho : Ou S w w') (hj : ¬ S j) (hd : ¬ S d) (h1 : ¬ S b1) (h2 : ¬ S b2) : JT w' j d b1 b2 N t := by
 obtain ⟨on, cc, k, L, q1, q2⟩ := h
 have hO : Out S w w' := ⟨ho.os, ho.tape, ho.output, ho.size, ho.block⟩
 exact ⟨on, cc, k, L, ⟨(ho.block j (lt_blkR q1.1) hj).trans q1.1, q1.2.1.out hO hd h1 h2, q1.2.2⟩, q2⟩
theorem JT.maps {w : World} {j d b1 b2 N : Nat} {t : Int} (h : JT w j d b1 b2 N t) : (∃ es cl, w.heap[b1]? = some (.map es cl)) ∧ (∃ es cl, w.heap[b2]? = some (.map es cl)) := by
 obtain ⟨on, cc, k, L, h1, _⟩ := h
 obtain ⟨_, _, _, _, q2, m, q1, _⟩ := h1.2.1
 exact ⟨q1.obj, q2.obj⟩
theorem jreset_c {w : World} {j d b1 b2 N : Nat} {t : Int} (h : JT w j d b1 b2 N t) (a : Option Addr) (len cap : Nat) (g : Jo.Gr) (hG : IsG0 w a len g) (ho : Jo.okG g = true) (hr : Jo.needF g ≤ asz N) (ht : t ≠ 4294967295) :
   Calls Tryz.prog 80 #[pB j, .slice a len cap] w fun e w' => e = .returned (.int .i64 0) ∧ JT w' j d b1 b2 N (t + 1) ∧ Stay w w' ∧ Ou (fun k => k = b1 ∨ k = b2) w w' := by
 obtain ⟨on, c, k, L, h1, h2⟩ := h
 refine (reset_c h1 a len cap g hG).mono ?_
 intro e w' hp
 have hn0 : Jo.needF g ≠ 0 := by rw [Jo.need_ok ho]; unfold Jo.secsOf; omega
 have hb2 : (best (vw on c) 2).2 = t := by rw [h2.bst]
 rcases hp with ⟨e0, _⟩ | ⟨_, e1, _⟩ | ⟨_, _, _, rfl, hJ, hO⟩
 · exact absurd e0 hn0
 · rcases e1 with e1 | e1
   · omega
   · rw [hb2] at e1; exact absurd e1 ht
 · refine ⟨rfl, ⟨_, _, 1 - k, [g], hJ, ?_⟩, Stay.disk h1.2.1 hO, ⟨hO.os, hO.tape, hO.output, hO.size, hO.block⟩⟩
   have e : vw (setTo (vw on c) N g) (fun _ => none) = setTo (vw on c) N g := rfl
   rw [e]
   exact h2.setTo h1.2.2 (fun i => h1.2.1.sec i) ht ho hr
structure Cv where
 p : Nat
 j : Nat
 d : Nat
 b1 : Nat
 b2 : Nat
 cb : Nat
 cm : Nat
 ch : Nat
 g : Nat
 s : Nat
 N : Nat
 t : Int
 lk : Bool
 ca : Ca
 lv : Value
 fz : Int
 dn : Int
 nx : Int
 L : List Rec
def CvM (base : Nat) (w : World) (c : Cv) : Prop := JT w c.j c.d c.b1 c.b2 c.N c.t ∧ IsCa w c.cb c.cm c.ch c.ca ∧ w.heap[c.p]? = some (.cells #[.int .u8 1, pB c.j, pA c.cb, .bool c.lk, .slice (some ⟨c.g, 0, none⟩) 1 1, .slice (some ⟨c.s, 0, none⟩) 1 1, c.lv, .int .i64 c.fz, .int .u32 c.dn, .int .u32 c.nx, .slice none 0 0] 79 (0, 0)) ∧ w.heap[c.g]? = some (.cells #[.int .u32 1, .int .u8 2, .int .u16 0, .int .u16 0, .slice none 0 0, .slice none 0 0] 40 (0, 0)) ∧ w.heap[c.s]? = some (.cells #[.int .u32 1, .int .u64 1, .int .u8 0] 200 (0, 0)) ∧ LgM w c.lv c.L ∧ (base ≤ c.p ∧ base ≤ c.b1 ∧ base ≤ c.b2 ∧ base ≤ c.cb ∧ base ≤ c.cm ∧ base ≤ c.ch ∧ base ≤ w.heap.size) ∧ (c.b1 ≠ c.cm ∧ c.b1 ≠ c.ch ∧ c.b2 ≠ c.cm ∧ c.b2 ≠ c.ch)
theorem CvM.later {base : Nat} {w w' : World} {c : Cv} (h : CvM base w c) (hb : Below w.heap.size w w') : CvM base w' c := by
 obtain ⟨h1, h2, h3, h4, h5, h6, ⟨k1, k2, k3, k4, k5, k6, k7⟩, h8⟩ := h
 exact ⟨h1.later hb, h2.later hb, (hb.block _ (lt_blkR h3)).trans h3, (hb.block _ (lt_blkR h4)).trans h4, (hb.block _ (lt_blkR h5)).trans h5, h6.later hb, ⟨k1, k2, k3, k4, k5, k6, Nat.le_trans k7 hb.size⟩, h8⟩
theorem map_neR {w : World} {k b : Nat} {cs : Array Value} {T : TypeId} {fr : Nat × Nat} (h : w.heap[k]? = some (.cells cs T fr)) (hm : ∃ es cl, w.heap[b]? = some (.map es cl)) : k ≠ b := fun e => by
 obtain ⟨es, cl, hb⟩ := hm
 rw [← e, h] at hb; cases hb
theorem CvM.below {base : Nat} {w w' : World} {c : Cv} (h : CvM base w c) {S : Nat → Prop} (ho : Ou S w w') (hS : ∀ k, S k → base ≤ k) : Below base w w' := ho.below h.2.2.2.2.2.2.1.2.2.2.2.2.2 hS
theorem CvM.cache {base : Nat} {w w' : World} {c : Cv} (h : CvM base w c) (ho : Ou (Tri c.cb c.cm c.ch) w w') {ca' : Ca} (hc : IsCa w' c.cb c.cm c.ch ca') : CvM base w' { c with ca := ca' } := by
 obtain ⟨h1, h2, h3, h4, h5, h6, ⟨k1, k2, k3, k4, k5, k6, k7⟩, n1, n2, n3, n4⟩ := h
 have hcell : ∀ (k : Nat) (cs : Array Value) (T : TypeId) (fr : Nat × Nat), w.heap[k]? = some (.cells cs T fr) → T ≠ 158 → ¬ Tri c.cb c.cm c.ch k := fun k cs T fr e hT q => by
   rcases q with rfl | rfl | rfl
   · rw [h2.1] at e; cases e; exact hT rfl
   · exact map_ne e h2.2.1 rfl
   · exact map_ne e h2.2.2.1 rfl
 have hJ := h1
 obtain ⟨on, cc, kk, LL, q1, q2⟩ := hJ
 obtain ⟨m1, m2⟩ := h1.maps
 refine ⟨h1.ou ho (hcell _ _ _ _ q1.1 (by decide)) (hcell _ _ _ _ q1.2.1.1 (by decide)) (fun q => ?_) (fun q => ?_), hc, (ho.block _ (lt_blkR h3) (hcell _ _ _ _ h3 (by decide))).trans h3, (ho.block _ (lt_blkR h4) (hcell _ _ _ _ h4 (by decide))).trans h4, (ho.block _ (lt_blkR h5) (hcell _ _ _ _ h5 (by decide))).trans h5, h6.stay (fun k cs e => (ho.block _ (lt_blkR e) (hcell _ _ _ _ e (by decide))).trans e), ⟨k1, k2, k3, k4, k5, k6, Nat.le_trans k7 ho.size⟩, n1, n2, n3, n4⟩
 · rcases q with q | q | q
   · exact map_neR h2.1 m1 q.symm
   · exact n1 q
   · exact n2 q
 · rcases q with q | q | q
   · exact map_neR h2.1 m2 q.symm
   · exact n3 q
   · exact n4 q
theorem CvM.own {base : Nat} {w w' : World} {c : Cv} (h : CvM base w c) (ho : Ou (fun k => k = c.p) w w') (lk : Bool) (lv : Value) (fz dn nx : Int) (L : List Rec) (hl : LgM w lv L)
   (hr : w'.heap[c.p]? = some (.cells #[.int .u8 1, pB c.j, pA c.cb, .bool lk, .slice (some ⟨c.g, 0, none⟩) 1 1, .slice (some ⟨c.s, 0, none⟩) 1 1, lv, .int .i64 fz, .int .u32 dn, .int .u32 nx, .slice none 0 0] 79 (0, 0))) : CvM base w' { c with lk := lk, lv := lv, fz := fz, dn := dn, nx := nx, L := L } := by
 obtain ⟨h1, h2, h3, h4, h5, h6, ⟨k1, k2, k3, k4, k5, k6, k7⟩, n1, n2, n3, n4⟩ := h
 have hcell : ∀ (k : Nat) (cs : Array Value) (T : TypeId) (fr : Nat × Nat), w.heap[k]? = some (.cells cs T fr) → T ≠ 79 → ¬ k = c.p := fun k cs T fr e hT q => by
   subst q; rw [h3] at e; cases e; exact hT rfl
 have hJ := h1
 obtain ⟨on, cc, kk, LL, q1, q2⟩ := hJ
 obtain ⟨m1, m2⟩ := h1.maps
 refine ⟨h1.ou ho (hcell _ _ _ _ q1.1 (by decide)) (hcell _ _ _ _ q1.2.1.1 (by decide)) (fun q => map_neR h3 m1 q.symm) (fun q => map_neR h3 m2 q.symm), h2.out ho (hcell _ _ _ _ h2.1 (by decide)) (fun q => map_ne h3 h2.2.1 q.symm) (fun q => map_ne h3 h2.2.2.1 q.symm), hr, (ho.block _ (lt_blkR h4) (hcell _ _ _ _ h4 (by decide))).trans h4, (ho.block _ (lt_blkR h5) (hcell _ _ _ _ h5 (by decide))).trans h5, hl.stay (fun k cs e => (ho.block _ (lt_blkR e) (hcell _ _ _ _ e (by decide))).trans e), ⟨k1, k2, k3, k4, k5, k6, Nat.le_trans k7 ho.size⟩, n1, n2, n3, n4⟩
theorem CvM.jour {base : Nat} {w w' : World} {c : Cv} (h : CvM base w c) (ho : Ou (fun k => k = c.b1 ∨ k = c.b2) w w') (hs : Stay w w') {t' : Int} (hj : JT w' c.j c.d c.b1 c.b2 c.N t') : CvM base w' { c with t := t' } := by
 obtain ⟨h1, h2, h3, h4, h5, h6, ⟨k1, k2, k3, k4, k5, k6, k7⟩, n1, n2, n3, n4⟩ := h
 obtain ⟨m1, m2⟩ := h1.maps
 refine ⟨hj, h2.out ho ?_ ?_ ?_, hs _ _ _ _ h3, hs _ _ _ _ h4, hs _ _ _ _ h5, h6.stay (fun k cs e => hs _ _ _ _ e), ⟨k1, k2, k3, k4, k5, k6, Nat.le_trans k7 ho.size⟩, n1, n2, n3, n4⟩
 · rintro (q | q)
   · exact map_neR h2.1 m1 q
   · exact map_neR h2.1 m2 q
 · rintro (q | q)
   · exact n1 q.symm
   · exact n3 q.symm
 · rintro (q | q)
   · exact n2 q.symm
   · exact n4 q.symm
end Go.Proofs.YtfmghbennahlfaaGreat
