/-
  
-/
import Derived.Test.YtpolbbdaippclaaGreatNsBd
import Derived.Shelf.SlMaps.Clone
import Derived.Test.YtpolbbdaippclaaGreatProg
import Derived.Test.YtpolbbdaippclaaGreatNsAs
import Derived.Test.YtpolbbdaippclaaGreatNsAu
namespace Go.Proofs.YtpolbbdaippclaaGreat
open Go.RowKit
set_option linter.unusedVariables false
set_option linter.unusedSimpArgs false
def runL (t : Int) : Int → List Jo.Gr → List (List Int)
 | _, [] => []
 | n, g :: L => Jo.laid g t n ++ runL t (n + 1) L
theorem runL_snoc (t : Int) (g : Jo.Gr) : ∀ (L : List Jo.Gr) (n : Int), runL t n (L ++ [g]) = runL t n L ++ Jo.laid g t (n + L.length)
 | [], n => by simp [runL]
 | a :: L, n => by
   have h := runL_snoc t g L (n + 1)
   simp only [List.cons_append, runL, h, List.append_assoc, List.length_cons]
   congr 3
   omega
theorem runL_len (t : Int) : ∀ (L : List Jo.Gr) (n : Int), (∀ g ∈ L, Jo.okG g = true) → (runL t n L).length = sumN L
 | [], n, _ => rfl
 | a :: L, n, h => by
   have ih := runL_len t L (n + 1) fun g hg => h g (by simp [hg])
   have e : sumN (a :: L) = Jo.needF a + sumN L := by unfold sumN; simp
   rw [runL, List.length_append, ih, Jo.laid_len, e, Jo.need_ok (h a (by simp))]
theorem groupsF_run (t : Int) (rest : List (List Int)) : ∀ (L : List Jo.Gr) (n : Int) (m : Nat), (∀ g ∈ L, Jo.okG g = true) → Jo.readF t (n + L.length) rest = none → L.length < m → Jo.groupsF t m n (runL t n L ++ rest) = L
 | [], n, m, _, hr, hm => by
   match m, hm with
   | m + 1, _ =>
     have hr' : Jo.readF t n rest = none := by simpa using hr
     simp [Jo.groupsF, runL, hr']
 | a :: L, n, m, h, hr, hm => by
   match m, hm with
   | m + 1, hm =>
     have ho := h a (by simp)
     have h1 : Jo.readF t n (runL t n (a :: L) ++ rest) = some a := Jo.read_of ⟨ho, runL t (n + 1) L ++ rest, by simp [runL]⟩
     have h2 : (runL t n (a :: L) ++ rest).drop (Jo.needF a) = runL t (n + 1) L ++ rest := by
       rw [Jo.need_ok ho, ← Jo.laid_len a t n, runL, List.append_assoc, List.drop_left]
     have ih := groupsF_run t rest L (n + 1) m (fun g hg => h g (by simp [hg])) (by rw [← hr]; congr 1; simp; omega) (by simp at hm; omega)
     unfold Jo.groupsF
     rw [h1]
     simp only
     rw [h2, ih]
theorem mark_first (t n k l : Int) : (Jo.firstS t n k l).getD 0 0 = 71 := rfl
theorem mark_data (l : List Int) (k : Nat) : (Jo.dataS l k).getD 0 0 = 68 := rfl
theorem laid_front {g : Jo.Gr} {t n : Int} (ho : Jo.okG g = true) {s : List Int} (hs : s ∈ (Jo.laid g t n).take (Jo.needF g - 1)) : s.getD 0 0 ≠ 67 := by
 rw [Jo.need_ok ho] at hs
 unfold Jo.secsOf at hs
 rw [show 2 + Jo.many (Jo.loadF g).length - 1 = Jo.many (Jo.loadF g).length + 1 by omega] at hs
 unfold Jo.laid at hs
 rw [List.take_succ_cons] at hs
 rcases List.mem_cons.1 hs with rfl | hs
 · rw [mark_first]; decide
 · have hd : (Jo.dataL (Jo.loadF g) (Jo.many (Jo.loadF g).length)).length = Jo.many (Jo.loadF g).length := by unfold Jo.dataL; simp
   rw [List.take_left' hd] at hs
   unfold Jo.dataL at hs
   obtain ⟨k, _, rfl⟩ := List.mem_map.1 hs
   rw [mark_data]; decide
theorem secs_congr {v v' : Int → Sec} {st n : Nat} (h : ∀ i, i < n → v ((st + i : Nat) : Int) = v' ((st + i : Nat) : Int)) : secs v st n = secs v' st n := by
 unfold secs
 exact List.map_congr_left fun i hi => h i (List.mem_range.1 hi)
theorem secs_add (v : Int → Sec) (st a b : Nat) : secs v st (a + b) = secs v st a ++ secs v (st + a) b := by
 induction b with
 | zero => simp [secs]
 | succ b ih => rw [← Nat.add_assoc, secs_snoc, ih, secs_snoc, List.append_assoc, Nat.add_assoc]
theorem secs_get (v : Int → Sec) (st n i : Nat) (h : i < n) : (secs v st n)[i]? = some (v ((st + i : Nat) : Int)) := by unfold secs; simp [h]
theorem secs_upd (v : Int → Sec) (e : Nat) (l : List (List Int)) : secs (updO v e l) e l.length = l := by
 apply List.ext_getElem?
 intro i
 by_cases hi : i < l.length
 · rw [secs_get _ _ _ _ hi]
   unfold updO
   rw [if_pos (by omega)]
   have : (((e + i : Nat) : Int) - (e : Int)).toNat = i := by omega
   rw [this]
   simp [List.getD, hi]
 · rw [List.getElem?_eq_none (by rw [secs_len]; omega), List.getElem?_eq_none (by omega)]
theorem turn_zero : Jo.turnOf zsec = 0 := by decide +kernel
theorem updO_at {v : Int → Sec} {e : Nat} {l : List (List Int)} (p : Nat) : updO v e l (p : Int) = if e ≤ p ∧ p < e + l.length then l.getD (p - e) [] else v (p : Int) := by
 unfold updO
 by_cases h : e ≤ p ∧ p < e + l.length
 · rw [if_pos (by omega), if_pos h]
   congr 1; omega
 · rw [if_neg (by omega), if_neg h]
end Go.Proofs.YtpolbbdaippclaaGreat
namespace Go.Proofs
open Go.Shelf
def Tryz.cloneA_ren : Go.Shelf.Ren := ⟨fun | 5 => 59 | 7 => 87 | n => n, fun | 23 => 80 | 25 => 3 | 3 => 134 | 4 => 4 | 20 => 20 | n => n, fun | n => n⟩
theorem Tryz.cloneA : Go.Proofs.SlLaysW.n5 Tryz.prog Tryz.cloneA_ren := {
 mixed := by kernel_rfl
 f5 := ⟨Tryz.f59.name, by decide, Tryz.func59.trans (congrArg some (by kernel_rfl))⟩
 f7 := Tryz.func87.trans (congrArg some (by kernel_rfl))
 t4 := Tryz.underlying4
 a4 := Tryz.isAgg4
 z4 := Tryz.sizeOf4
 v4 := Tryz.zeroValue4
 t20 := Tryz.underlying20
 a20 := Tryz.isAgg20
 z20 := Tryz.sizeOf20
 v20 := Tryz.zeroValue20
 t23 := Tryz.underlying80
 a23 := Tryz.isAgg80
 z23 := Tryz.sizeOf80
 v23 := Tryz.zeroValue80 }
end Go.Proofs
namespace Go.Proofs.YtpolbbdaippclaaGreat
open Go.RowKit Go.ChangeShapes Go.WideShapes Go.ChangeAt Go.Maps
set_option linter.unusedVariables false
set_option linter.unusedSimpArgs false
theorem clone_c {w : World} {b N : Nat} {f : Int → Option Sec} (h : IsM w b N f) : Calls Tryz.prog 59 #[.map (some b)] w fun e w' => e = .returned (.map (some w.heap.size)) ∧ IsM w' w.heap.size N f ∧ Below w.heap.size w w' ∧ w'.heap.size = w.heap.size + 1 := by
 obtain ⟨⟨D, ⟨es, clock, hb, F, hs, hD⟩, hf⟩, h2⟩ := h
 refine (AnyW.maps_Clone Tryz.cloneA b es clock w hb).mono fun e w' ⟨he, hw⟩ => ?_
 subst hw
 exact ⟨he, ⟨⟨D, ⟨es, clock, (MapKept.heap_alloc w _).1, F, hs, hD⟩, hf⟩, h2⟩, (Below.refl _ w).alloc (Nat.le_refl _) _, by simp⟩
set_option maxRecDepth 100000 in
set_option maxHeartbeats 2000000 in
theorem fork_c {w : World} {d b1 b2 N : Nat} {on : Int → Sec} {c : Int → Option Sec} (h : IsD w d b1 b2 N on c) :
   Calls Tryz.prog 36 #[pD d] w fun e w' => ∃ d' p1 p2, e = .returned (pD d') ∧ IsD w' d' p1 p2 N on c ∧ (w.heap.size ≤ d' ∧ w.heap.size ≤ p1 ∧ w.heap.size ≤ p2) ∧ Below w.heap.size w w' := by
 obtain ⟨c0, c1, c2, l0, l1, l2, d1, d2, d3⟩ := h.cells
 obtain ⟨m, hm, he⟩ := h.2.2.2.2.2
 have HD : Hid (IsD w.drew d b1 b2 N on c) := h
 have HM1 : Hid (IsM w.drew b1 N m) := hm
 have HM2 : Hid (IsM w.drew b2 N c) := h.2.2.2.2.1
 have HE := hid he
 have HN := hid (And.intro h.2.2.1 h.2.2.2.1)
 clear h hm he l1 l2 d1 d2 d3
 go_enter Tryz.func36, Tryz.ntmps36
 go_wp2
 go_region_held3 (fun w' => w'.cell? ⟨d, 0, none⟩ = some (.int .i64 N) ∧ w'.cell? ⟨d, 1, none⟩ = some (.map (some b1)) ∧ w'.cell? ⟨d, 2, none⟩ = some (.map (some b2))) (first | go_keep | exact ⟨S2.out.cells.1, S2.out.cells.2.1, S2.out.cells.2.2.1⟩ | exact ⟨S1.out.cells.1, S1.out.cells.2.1, S1.out.cells.2.2.1⟩)
   (first
     | (go_at_call 59; refine (clone_c HM1.out).mono ?_; rintro _ w1 ⟨rfl, k1, hb1, hs1⟩; have K1 := hid k1; have S1 := hid (HD.out.later hb1); have M1 := hid (HM2.out.out (Out.of (S := fun _ => False) hb1) id); have B1 := hid hb1; have Z1 := hid hs1)
     | (go_at_call 59; refine (clone_c M1.out).mono ?_; rintro _ w2 ⟨rfl, k2, hb2, hs2⟩; have K2 := hid k2; have S2 := hid (S1.out.later hb2); have M2 := hid (K1.out.out (Out.of (S := fun _ => False) hb2) id); have B2 := hid hb2; have Z2 := hid hs2))
 go_wp2
 go_ret
 have z1 : w1.heap.size = w.heap.size + 1 := Z1.out
 have z2 : w2.heap.size = w.heap.size + 1 + 1 := by rw [Z2.out, z1]
 have q2 := K2.out
 rw [z1] at q2
 have q1 : IsM w2 w.heap.size N m := M2.out
 have hb : Below w.heap.size w w2 := (((Below.refl _ w).drew).trans B1.out).trans (B2.out.mono (by omega))
 have hn := heap_alloc_new w2 (.cells #[.int .i64 N, .map (some w.heap.size), .map (some (w.heap.size + 1))] 82 (0, 0))
 rw [z2] at hn
 have ho : Out (fun _ => False) w2 (w2.alloc (.cells #[.int .i64 N, .map (some w.heap.size), .map (some (w.heap.size + 1))] 82 (0, 0))) := (Out.refl _ _).alloc _
 exact ⟨_, _, _, rfl, ⟨hn, by omega, HN.out.1, HN.out.2, q2.out ho id, m, q1.out ho id, HE.out⟩, ⟨by omega, by omega, by omega⟩, hb.alloc hb.size _⟩
set_option maxHeartbeats 400000 in
theorem open_c {w : World} {d b1 b2 N : Nat} {on : Int → Sec} {c : Int → Option Sec} (h : IsD w d b1 b2 N on c) (h8 : 8 ≤ N) :
   Calls Tryz.prog 18 #[pD d] w fun e w' => ∃ j d' p1 p2, e = .returned (pB j) ∧ IsJ w' j d' p1 p2 N on c ∧ (w.heap.size ≤ j ∧ w.heap.size ≤ d' ∧ w.heap.size ≤ p1 ∧ w.heap.size ≤ p2) ∧ Below w.heap.size w w' := by
 have SC := hid (size_c h)
 have FC := hid (fork_c h)
 have hI : ¬ (N : Int) < 8 := by omega
 clear h
 go_enter Tryz.func18, Tryz.ntmps18
 go_wp2_with (first
   | (go_at_call 35; refine SC.out.mono ?_; rintro _ w1 ⟨rfl, rfl⟩)
   | (go_at_call 36; refine FC.out.mono ?_; rintro _ w2 ⟨d', p1, p2, rfl, hD, hl, hb⟩))
 go_ret
 have hb3 : Below w2.heap.size w2 (w2.alloc (.cells #[pD d'] 102 (0, 0))) := (Below.refl _ _).alloc (Nat.le_refl _) _
 exact ⟨_, _, _, _, rfl, ⟨heap_alloc_new w2 _, hD.later hb3, h8⟩, ⟨hb.size, hl⟩, hb.trans (hb3.mono hb.size)⟩
end Go.Proofs.YtpolbbdaippclaaGreat
namespace Go.Proofs.YtpolbbdaippclaaGreat
open Go.RowKit
set_option linter.unusedVariables false
set_option linter.unusedSimpArgs false
theorem last_turn {t : Int} (n : Int) (h : 0 ≤ t ∧ t < 4294967296) : Fr.at4 (Jo.lastS t n) 1 = t := Fr.num4_le4 t h.1 h.2
theorem last_num (t : Int) {n : Int} (h : 0 ≤ n ∧ n < 4294967296) : Fr.at4 (Jo.lastS t n) 5 = n := Fr.num4_le4 n h.1 h.2
structure Held (v : Int → Sec) (N k : Nat) (t : Int) (L : List Jo.Gr) : Prop where
 k1 : k ≤ 1
 t0 : 0 ≤ t ∧ t < 4294967296
 bst : best v 2 = (k, t)
 ok : ∀ g ∈ L, Jo.okG g = true
 le : sumN L ≤ asz N
 few : N ≤ 2048
 run : secs v (2 + k * asz N) (sumN L) = runL t 1 L
 no : ∀ p : Nat, 2 + k * asz N + sumN L ≤ p → p < 2 + k * asz N + asz N → (v (p : Int)).getD 0 0 = 67 → Fr.at4 (v (p : Int)) 1 = t → Fr.at4 (v (p : Int)) 5 ≤ L.length
 old : ∀ p : Nat, 2 + k * asz N ≤ p → p < 2 + k * asz N + asz N → (v (p : Int)).getD 0 0 = 67 → Fr.at4 (v (p : Int)) 1 ≤ t
 oth : ∀ p : Nat, 2 + (1 - k) * asz N ≤ p → p < 2 + (1 - k) * asz N + asz N → (v (p : Int)).getD 0 0 = 67 → Fr.at4 (v (p : Int)) 1 ≤ t ∨ (Fr.at4 (v (p : Int)) 1 = t + 1 ∧ Fr.at4 (v (p : Int)) 5 ≤ 1)
theorem len_sum {L : List Jo.Gr} (hk : ∀ g ∈ L, Jo.okG g = true) : L.length ≤ sumN L := by
 induction L with
 | nil => simp
 | cons a L ih =>
   have e : sumN (a :: L) = Jo.needF a + sumN L := by unfold sumN; simp
   have := ih fun g hg => hk g (by simp [hg])
   have h2 := Jo.need_ok (hk a (by simp))
   unfold Jo.secsOf at h2
   rw [e, List.length_cons]; omega
theorem Held.len {v : Int → Sec} {N k : Nat} {t : Int} {L : List Jo.Gr} (h : Held v N k t L) : L.length ≤ 1023 := by
 have h1 := len_sum h.ok
 have h2 := h.le
 have h3 := h.few
 unfold asz at h2
 omega
theorem Held.grps {v : Int → Sec} {N k : Nat} {t : Int} {L : List Jo.Gr} (h : Held v N k t L) (hs : ∀ i, Jo.Sct (v i)) : grps v N = L := by
 have hlen := h.len
 unfold Go.Proofs.YtpolbbdaippclaaGreat.grps allG
 rw [h.bst]
 simp only
 have e : secs v (2 + k * asz N) (asz N) = runL t 1 L ++ secs v (2 + k * asz N + sumN L) (asz N - sumN L) := by
   rw [← h.run, ← secs_add]
   congr 1
   have := h.le; omega
 rw [e]
 refine groupsF_run t _ L 1 _ h.ok ?_ ?_
 · cases hr : Jo.readF t (1 + (L.length : Int)) (secs v (2 + k * asz N + sumN L) (asz N - sumN L)) with
   | none => rfl
   | some g =>
     exfalso
     obtain ⟨⟨_, r, hr2⟩, _⟩ := Jo.of_read hr (secs_sct hs _ _)
     have hm : Jo.lastS t (1 + (L.length : Int)) ∈ secs v (2 + k * asz N + sumN L) (asz N - sumN L) := by rw [hr2]; unfold Jo.laid; simp
     unfold secs at hm
     obtain ⟨i, hi, he⟩ := List.mem_map.1 hm
     have hi := List.mem_range.1 hi
     have hle := h.le
     have := h.no (2 + k * asz N + sumN L + i) (by omega) (by omega) (by rw [he]; rfl) (by rw [he]; exact last_turn _ h.t0)
     rw [he, last_num _ (by omega)] at this
     omega
 · rw [List.length_append, runL_len t L 1 h.ok]
   have := len_sum h.ok
   omega
theorem Held.ar {v : Int → Sec} {N k : Nat} {t : Int} {L : List Jo.Gr} (h : Held v N k t L) (hs : ∀ i, Jo.Sct (v i)) : arSt v N = 2 + k * asz N ∧ arEnd v N = 2 + k * asz N + sumN L ∧ otSt v N = 2 + (1 - k) * asz N := by
 have e : arSt v N = 2 + k * asz N := by unfold arSt; rw [h.bst]
 exact ⟨e, by unfold arEnd; rw [e, h.grps hs], by unfold otSt; rw [h.bst]⟩
theorem best_eq (v : Int → Sec) : best v 2 = if (if (0 : Int) < Jo.turnOf (v 0) then Jo.turnOf (v 0) else 0) < Jo.turnOf (v 1) then (1, Jo.turnOf (v 1)) else (0, if (0 : Int) < Jo.turnOf (v 0) then Jo.turnOf (v 0) else 0) := by
 show (if (if (0 : Int) < Jo.turnOf (v 0) then ((0 : Nat), Jo.turnOf (v 0)) else (0, 0)).2 < Jo.turnOf (v 1) then (1, Jo.turnOf (v 1)) else (if (0 : Int) < Jo.turnOf (v 0) then ((0 : Nat), Jo.turnOf (v 0)) else (0, 0))) = _
 by_cases h : (0 : Int) < Jo.turnOf (v 0)
 · simp only [if_pos h]
 · simp only [if_neg h]
theorem best_cong {v v' : Int → Sec} (h0 : v' 0 = v 0) (h1 : v' 1 = v 1) : best v' 2 = best v 2 := by rw [best_eq, best_eq, h0, h1]
theorem best_le {v : Int → Sec} {k : Nat} {t : Int} (h : best v 2 = (k, t)) : Jo.turnOf (v 0) ≤ t ∧ Jo.turnOf (v 1) ≤ t ∧ k ≤ 1 := by
 rw [best_eq] at h
 by_cases h0 : (0 : Int) < Jo.turnOf (v 0)
 · simp only [if_pos h0] at h
   by_cases h1 : Jo.turnOf (v 0) < Jo.turnOf (v 1)
   · rw [if_pos h1] at h; injection h with h2 h3; omega
   · rw [if_neg h1] at h; injection h with h2 h3; omega
 · simp only [if_neg h0] at h
   by_cases h1 : 0 < Jo.turnOf (v 1)
   · rw [if_pos h1] at h; injection h with h2 h3; omega
   · rw [if_neg h1] at h; injection h with h2 h3; omega
theorem apart {N k p : Nat} (hk : k ≤ 1) (h1 : 2 + k * asz N ≤ p) (h2 : p < 2 + k * asz N + asz N) : ¬ (2 + (1 - k) * asz N ≤ p ∧ p < 2 + (1 - k) * asz N + asz N) := by
 rcases (by omega : k = 0 ∨ k = 1) with rfl | rfl <;> simp only [Nat.zero_mul, Nat.one_mul, Nat.sub_zero, Nat.sub_self] at * <;> omega
theorem Held.keep {v v' : Int → Sec} {N k : Nat} {t : Int} {L : List Jo.Gr} (h : Held v N k t L) (h0 : v' 0 = v 0) (h1 : v' 1 = v 1)
   (ha : ∀ p : Nat, 2 + k * asz N ≤ p → p < 2 + k * asz N + sumN L → v' (p : Int) = v (p : Int))
   (hb : ∀ p : Nat, 2 + k * asz N + sumN L ≤ p → p < 2 + k * asz N + asz N → v' (p : Int) = v (p : Int) ∨ (v' (p : Int)).getD 0 0 ≠ 67)
   (hc : ∀ p : Nat, 2 + (1 - k) * asz N ≤ p → p < 2 + (1 - k) * asz N + asz N → v' (p : Int) = v (p : Int) ∨ (v' (p : Int)).getD 0 0 ≠ 67 ∨ v' (p : Int) = Jo.lastS (t + 1) 1) (ht : t ≠ 4294967295 ∨ ∀ p : Nat, 2 + (1 - k) * asz N ≤ p → p < 2 + (1 - k) * asz N + asz N → v' (p : Int) = v (p : Int)) : Held v' N k t L := by
 refine ⟨h.k1, h.t0, by rw [best_cong h0 h1]; exact h.bst, h.ok, h.le, h.few, ?_, ?_, ?_, ?_⟩
 · rw [← h.run]; exact secs_congr fun i hi => ha _ (by omega) (by omega)
 · intro p hp hp2 hm
   rcases hb p hp hp2 with e | e
   · rw [e] at hm ⊢; exact h.no p hp hp2 hm
   · exact absurd hm e
 · intro p hp hp2 hm
   by_cases hlt : p < 2 + k * asz N + sumN L
   · rw [ha p hp hlt] at hm ⊢; exact h.old p hp hp2 hm
   · rcases hb p (by omega) hp2 with e | e
     · rw [e] at hm ⊢; exact h.old p hp hp2 hm
     · exact absurd hm e
 · intro p hp hp2 hm
   rcases ht with ht | ht
   · rcases hc p hp hp2 with e | e | e
     · rw [e] at hm ⊢; exact h.oth p hp hp2 hm
     · exact absurd hm e
     · have := h.t0
       rw [e, last_turn _ (by omega), last_num _ (by omega)]; omega
   · rw [ht p hp hp2] at hm ⊢; exact h.oth p hp hp2 hm
theorem laid_at {g : Jo.Gr} {t n : Int} (ho : Jo.okG g = true) (i : Nat) (hi : i < Jo.needF g) : ((Jo.laid g t n).getD i []).getD 0 0 ≠ 67 ∨ ((Jo.laid g t n).getD i [] = Jo.lastS t n ∧ i = Jo.needF g - 1) := by
 have hl : (Jo.laid g t n).length = Jo.needF g := by rw [Jo.laid_len, Jo.need_ok ho]
 by_cases hlt : i < Jo.needF g - 1
 · refine .inl (laid_front ho (t := t) (n := n) ?_)
   have hi2 : i < ((Jo.laid g t n).take (Jo.needF g - 1)).length := by rw [List.length_take]; omega
   have e : (Jo.laid g t n).getD i [] = ((Jo.laid g t n).take (Jo.needF g - 1))[i] := by rw [List.getD, List.getElem?_eq_getElem (by omega), List.getElem_take]; rfl
   rw [e]; exact List.getElem_mem hi2
 · have ei : i = Jo.needF g - 1 := by omega
   refine .inr ⟨?_, ei⟩
   have hd : (Jo.dataL (Jo.loadF g) (Jo.many (Jo.loadF g).length)).length = Jo.many (Jo.loadF g).length := by unfold Jo.dataL; simp
   have hn := Jo.need_ok ho
   unfold Jo.secsOf at hn
   rw [ei, hn]
   unfold Jo.laid
   rw [show 2 + Jo.many (Jo.loadF g).length - 1 = Jo.many (Jo.loadF g).length + 1 by omega, List.getD, List.getElem?_cons_succ, List.getElem?_append_right (by omega), hd, Nat.sub_self]; rfl
theorem Held.add {v : Int → Sec} {N k : Nat} {t : Int} {L : List Jo.Gr} (h : Held v N k t L) {g : Jo.Gr} (ho : Jo.okG g = true) (hr : sumN L + Jo.needF g ≤ asz N) : Held (updO v (2 + k * asz N + sumN L) (Jo.laid g t (L.length + 1))) N k t (L ++ [g]) := by
 have hl : (Jo.laid g t (L.length + 1)).length = Jo.needF g := by rw [Jo.laid_len, Jo.need_ok ho]
 have hlen := h.len
 have hk := h.k1
 have hlow : ∀ p : Nat, ¬ (2 + k * asz N + sumN L ≤ p ∧ p < 2 + k * asz N + sumN L + Jo.needF g) → updO v (2 + k * asz N + sumN L) (Jo.laid g t (L.length + 1)) (p : Int) = v (p : Int) := fun p hp => by rw [updO_at, if_neg (by omega)]
 refine ⟨hk, h.t0, ?_, ?_, ?_, h.few, ?_, ?_, ?_, ?_⟩
 · rw [best_cong (hlow 0 (by omega)) (hlow 1 (by omega))]; exact h.bst
 · intro a ha
   rcases List.mem_append.1 ha with ha | ha
   · exact h.ok a ha
   · rw [List.mem_singleton.1 ha]; exact ho
 · rw [sumN_snoc]; exact hr
 · rw [sumN_snoc, secs_add, runL_snoc, ← hl, secs_upd]
   congr 1
   · rw [← h.run]; exact secs_congr fun i hi => hlow _ (by omega)
   · congr 1; omega
 · intro p hp hp2 hm ht
   rw [sumN_snoc] at hp
   rw [hlow p (by omega)] at hm ht ⊢
   have := h.no p (by omega) hp2 hm ht
   simp; omega
 · intro p hp hp2 hm
   by_cases hc : 2 + k * asz N + sumN L ≤ p ∧ p < 2 + k * asz N + sumN L + Jo.needF g
   · rw [updO_at, if_pos (by omega)] at hm ⊢
     rcases laid_at (t := t) (n := L.length + 1) ho (p - (2 + k * asz N + sumN L)) (by omega) with e | ⟨e, _⟩
     · exact absurd hm e
     · rw [e, last_turn _ h.t0]; omega
   · rw [hlow p hc] at hm ⊢; exact h.old p hp hp2 hm
 · intro p hp hp2 hm
   have hap := apart (N := N) (k := 1 - k) (p := p) (by omega) hp hp2
   rw [show 1 - (1 - k) = k by omega] at hap
   rw [hlow p (by omega)] at hm ⊢
   exact h.oth p hp hp2 hm
theorem best_other {v v' : Int → Sec} {k : Nat} {t : Int} (h : best v 2 = (k, t)) (ht : 0 ≤ t) (ht2 : t + 1 < 4294967296) (hk : v' (k : Int) = v (k : Int)) (hn : v' ((1 - k : Nat) : Int) = Jo.headS (t + 1)) : best v' 2 = (1 - k, t + 1) := by
 obtain ⟨b0, b1, bk⟩ := best_le h
 have hT : Jo.turnOf (Jo.headS (t + 1)) = t + 1 := Jo.turnOf_head (by omega) (by omega)
 rw [best_eq]
 rcases (by omega : k = 0 ∨ k = 1) with rfl | rfl
 · have e0 : v' 0 = v 0 := hk
   have e1 : v' 1 = Jo.headS (t + 1) := hn
   rw [e0, e1, hT, if_pos]
   split <;> omega
 · have e0 : v' 0 = Jo.headS (t + 1) := hn
   have e1 : v' 1 = v 1 := hk
   have h0 : (0 : Int) < t + 1 := by omega
   have h1 : ¬ t + 1 < Jo.turnOf (v 1) := by omega
   simp only [e0, e1, hT, if_pos h0, if_neg h1]
theorem Held.set {v v' : Int → Sec} {N k : Nat} {t : Int} {L : List Jo.Gr} (h : Held v N k t L) (hN : 8 ≤ N) (ht : t ≠ 4294967295) {g : Jo.Gr} (ho : Jo.okG g = true) (hr : Jo.needF g ≤ asz N)
   (hk : v' (k : Int) = v (k : Int)) (hn : v' ((1 - k : Nat) : Int) = Jo.headS (t + 1)) (ha : ∀ p : Nat, 2 ≤ p → p < N → v' (p : Int) = updO v (2 + (1 - k) * asz N) (Jo.laid g (t + 1) 1) (p : Int)) : Held v' N (1 - k) (t + 1) [g] := by
 have hl : (Jo.laid g (t + 1) 1).length = Jo.needF g := by rw [Jo.laid_len, Jo.need_ok ho]
 have hkk := h.k1
 have ht0 := h.t0
 have hz : 2 + k * asz N + asz N ≤ N ∧ 2 + (1 - k) * asz N + asz N ≤ N := by
   have h2 : 2 * asz N + 2 ≤ N := by unfold asz; omega
   rcases (by omega : k = 0 ∨ k = 1) with rfl | rfl <;> simp only [Nat.zero_mul, Nat.one_mul, Nat.sub_zero, Nat.sub_self] <;> omega
 have es : sumN [g] = Jo.needF g := by unfold sumN; simp
 have e1 : 1 - (1 - k) = k := by omega
 refine ⟨by omega, by omega, best_other h.bst ht0.1 (by omega) hk hn, ?_, by rw [es]; exact hr, h.few, ?_, ?_, ?_, ?_⟩
 · intro a ha; rw [List.mem_singleton.1 ha]; exact ho
 · rw [es]
   have e2 : secs v' (2 + (1 - k) * asz N) (Jo.needF g) = secs (updO v (2 + (1 - k) * asz N) (Jo.laid g (t + 1) 1)) (2 + (1 - k) * asz N) (Jo.needF g) := secs_congr fun i hi => ha _ (by omega) (by omega)
   rw [e2, ← hl, secs_upd]
   simp [runL]
 · intro p hp hp2 hm htt
   rw [es] at hp
   rw [ha p (by omega) (by omega), updO_at, if_neg (by omega)] at hm htt ⊢
   rcases h.oth p (by omega) hp2 hm with e | e
   · omega
   · simp; omega
 · intro p hp hp2 hm
   rw [ha p (by omega) (by omega), updO_at] at hm ⊢
   by_cases hc : 2 + (1 - k) * asz N ≤ p ∧ p < 2 + (1 - k) * asz N + (Jo.laid g (t + 1) 1).length
   · rw [if_pos hc] at hm ⊢
     rcases laid_at (t := t + 1) (n := 1) ho (p - (2 + (1 - k) * asz N)) (by omega) with e | ⟨e, _⟩
     · exact absurd hm e
     · rw [e, last_turn _ (by omega)]; omega
   · rw [if_neg hc] at hm ⊢
     have := h.oth p hp hp2 hm
     omega
 · rw [e1]
   intro p hp hp2 hm
   have hap := apart (N := N) (k := k) (p := p) hkk hp hp2
   rw [ha p (by omega) (by omega), updO_at, if_neg (by omega)] at hm ⊢
   have := h.old p hp hp2 hm
   omega
theorem Held.setTo {v : Int → Sec} {N k : Nat} {t : Int} {L : List Jo.Gr} (h : Held v N k t L) (hN : 8 ≤ N) (hs : ∀ i, Jo.Sct (v i)) (ht : t ≠ 4294967295) {g : Jo.Gr} (ho : Jo.okG g = true) (hr : Jo.needF g ≤ asz N) : Held (setTo v N g) N (1 - k) (t + 1) [g] := by
 have hkk := h.k1
 unfold Go.Proofs.YtpolbbdaippclaaGreat.setTo
 rw [(h.ar hs).2.2, h.bst]
 simp only
 refine h.set hN ht ho hr ?_ ?_ fun p hp hp2 => ?_
 · rw [updO_at, if_neg (by simp; omega), updO_at, if_neg (by omega)]
 · rw [updO_at, if_pos (by simp)]; simp [List.getD]
 · rw [updO_at, if_neg (by simp; omega)]
theorem Held.zero (N : Nat) (h8 : 8 ≤ N) (hN : N ≤ 2048) : Held (fun _ => zsec) N 0 0 [] := by
 have hb : best (fun _ => zsec) 2 = (0, 0) := by simp [best, turn_zero]
 have hm : ¬ zsec.getD 0 0 = 67 := by decide
 exact ⟨by omega, by omega, hb, (fun g hg => absurd hg (by simp)), (by simp [sumN]), hN, rfl, fun p _ _ h => absurd h hm, fun p _ _ h => absurd h hm, fun p _ _ h => absurd h hm⟩
end Go.Proofs.YtpolbbdaippclaaGreat
namespace Go.Proofs.YtpolbbdaippclaaGreat
open Go.RowKit Go.ChangeShapes Go.WideShapes Go.ChangeAt Go.Maps Go.Shelf
set_option linter.unusedVariables false
set_option linter.unusedSimpArgs false
set_option maxRecDepth 100000
def Stay (w w' : World) : Prop := ∀ (k : Nat) (cs : Array Value) (t : TypeId) (fr : Nat × Nat), w.heap[k]? = some (.cells cs t fr) → w'.heap[k]? = some (.cells cs t fr)
theorem Stay.refl (w : World) : Stay w w := fun _ _ _ _ h => h
theorem Stay.trans {a b c : World} (h : Stay a b) (k : Stay b c) : Stay a c := fun i cs t fr e => k i cs t fr (h i cs t fr e)
theorem Stay.of {w w' : World} (h : Below w.heap.size w w') : Stay w w' := fun k cs t fr e => (h.block k (lt_blkR e)).trans e
theorem Stay.cell {w w' : World} (h : Stay w w') {p : Addr} {v : Value} (hc : w.cell? p = some v) : w'.cell? p = some v := by
 unfold World.cell? at hc ⊢
 cases hb : w.heap[p.block]? with
 | none => rw [hb] at hc; cases hc
 | some o =>
   rw [hb] at hc
   cases o with
   | cells c e f => rw [h _ _ _ _ hb]; exact hc
   | _ => cases hc
theorem IsM.obj {w : World} {b N : Nat} {f : Int → Option Sec} (h : IsM w b N f) : ∃ es cl, w.heap[b]? = some (.map es cl) := by
 obtain ⟨⟨D, ⟨es, cl, e, _⟩, _⟩, _⟩ := h
 exact ⟨es, cl, e⟩
theorem Stay.disk {w w' : World} {d b1 b2 N : Nat} {on : Int → Sec} {c : Int → Option Sec} (h : IsD w d b1 b2 N on c) (ho : Out (fun k => k = b1 ∨ k = b2) w w') : Stay w w' := fun k cs t fr e => by
 obtain ⟨_, _, _, _, h2, m, h1, _⟩ := h
 rw [ho.block k (lt_blkR e) (fun hk => by
   rcases hk with rfl | rfl
   · obtain ⟨es, cl, q⟩ := h1.obj; rw [e] at q; cases q
   · obtain ⟨es, cl, q⟩ := h2.obj; rw [e] at q; cases q)]
 exact e
theorem IsB.stay {w w' : World} {a : Option Addr} {len : Nat} {zs : List Int} (h : IsB w a len zs) (hb : Stay w w') : IsB w' a len zs := by
 obtain ⟨h1, h2, h3, h4⟩ := h
 refine ⟨h1, h2, fun hp => ?_, h4⟩
 obtain ⟨b, off, e, hc⟩ := h3 hp
 exact ⟨b, off, e, fun i hi => hb.cell (hc i hi)⟩
theorem IsKs.stay {w w' : World} {a : Option Addr} {l : List Kd} (h : IsKs w a l) (hb : Stay w w') : IsKs w' a l := by
 obtain ⟨h1, h2, h3⟩ := h
 refine ⟨h1, h2, fun hp => ?_⟩
 obtain ⟨b, off, e, hc⟩ := h3 hp
 exact ⟨b, off, e, fun i hi => ⟨hb.cell (hc i hi).1, hb.cell (hc i hi).2⟩⟩
theorem Nd.Ok.stay {w w' : World} {x : Nd} (h : x.Ok w) (hb : Stay w w') : x.Ok w' := by
 obtain ⟨a, b, c, d, e, f⟩ := h
 exact ⟨a, b, c, d, e.stay hb, f.stay hb⟩
theorem IsNs.stay {w w' : World} {a : Option Addr} {l : List Nd} (h : IsNs w a l) (hb : Stay w w') : IsNs w' a l := by
 obtain ⟨h1, h2, h3⟩ := h
 refine ⟨h1, fun x hx => (h2 x hx).stay hb, fun hp => ?_⟩
 obtain ⟨b, off, e, hc⟩ := h3 hp
 exact ⟨b, off, e, fun i hi j v hv => hb.cell (hc i hi j v hv)⟩
theorem Tr.stay {w w' : World} {a : Option Addr} {l : List Nd} (h : Tr w a l) (hb : Stay w w') : Tr w' a l := ⟨h.1.stay hb, h.2⟩
theorem IsSs.stay {w w' : World} {a : Option Addr} {l : List St} (h : IsSs w a l) (hb : Stay w w') : IsSs w' a l := by
 obtain ⟨h1, h2, h3⟩ := h
 refine ⟨h1, h2, fun hp => ?_⟩
 obtain ⟨b, off, e, hc⟩ := h3 hp
 exact ⟨b, off, e, fun i hi => ⟨hb.cell (hc i hi).1, hb.cell (hc i hi).2.1, hb.cell (hc i hi).2.2⟩⟩
def JH (base : Nat) (w : World) (j N : Nat) (t : Int) : Prop := ∃ (d b1 b2 : Nat) (on : Int → Sec) (c : Int → Option Sec) (k : Nat) (L : List Jo.Gr), IsJ w j d b1 b2 N on c ∧ Held (vw on c) N k t L ∧ base ≤ b1 ∧ base ≤ b2
theorem JH.later {base : Nat} {w w' : World} {j N : Nat} {t : Int} (h : JH base w j N t) (hb : Below w.heap.size w w') : JH base w' j N t := by
 obtain ⟨d, b1, b2, on, c, k, L, h1, h2, h3, h4⟩ := h
 exact ⟨d, b1, b2, on, c, k, L, h1.later hb, h2, h3, h4⟩
theorem jkeep_c {base : Nat} {w : World} {j N : Nat} {t : Int} (h : JH base w j N t) (hbz : base ≤ w.heap.size) (a : Option Addr) (len cap : Nat) (g : Jo.Gr) (hG : IsG0 w a len g) (ho : Jo.okG g = true) (hr : Jo.needF g ≤ asz N) (ht : t ≠ 4294967295) :
   Calls Tryz.prog 73 #[pB j, .slice a len cap] w fun e w' => e = .returned (.int .i64 0) ∧ JH base w' j N (t + 1) ∧ Stay w w' ∧ Below base w w' ∧ w.heap.size ≤ w'.heap.size := by
 obtain ⟨d, b1, b2, on, c, k, L, h1, h2, h3, h4⟩ := h
 refine (reset_c h1 a len cap g hG).mono ?_
 intro e w' hp
 have hn0 : Jo.needF g ≠ 0 := by rw [Jo.need_ok ho]; unfold Jo.secsOf; omega
 have hb2 : (best (vw on c) 2).2 = t := by rw [h2.bst]
 rcases hp with ⟨e0, _⟩ | ⟨_, e1, _⟩ | ⟨_, _, _, rfl, hJ, hO⟩
 · exact absurd e0 hn0
 · rcases e1 with e1 | e1
   · omega
   · rw [hb2] at e1; exact absurd e1 ht
 · refine ⟨rfl, ⟨d, b1, b2, _, _, 1 - k, [g], hJ, ?_, h3, h4⟩, Stay.disk h1.2.1 hO, ?_, hO.size⟩
   · have e : vw (setTo (vw on c) N g) (fun _ => none) = setTo (vw on c) N g := rfl
     rw [e]
     exact h2.setTo h1.2.2 (fun i => h1.2.1.sec i) ht ho hr
   · exact hO.below hbz (fun k q => by rcases q with rfl | rfl <;> omega)
def KeepB (base : Nat) (w w' : World) : Prop := ∀ (k : Nat) (cs : Array Value) (t : TypeId) (fr : Nat × Nat), base ≤ k → w.heap[k]? = some (.cells cs t fr) → w'.heap[k]? = some (.cells cs t fr)
theorem KeepB.of {base : Nat} {w w' : World} (h : Below w.heap.size w w') : KeepB base w w' := fun k cs t fr _ e => (h.block k (lt_blkR e)).trans e
theorem KeepB.stay {base : Nat} {w w' : World} (h : Stay w w') : KeepB base w w' := fun k cs t fr _ e => h k cs t fr e
theorem KeepB.set {base : Nat} {a w : World} (h : KeepB base a w) {g o : Nat} {v : Value} (hg : g < base) : KeepB base a (w.setCell ⟨g, o, none⟩ v) := fun k cs t fr hk e => by
 rw [heap_setCell_other _ _ k _ (by show k ≠ g; omega)]
 exact h k cs t fr hk e
theorem KeepB.trans {base : Nat} {a b c : World} (h : KeepB base a b) (k : KeepB base b c) : KeepB base a c := fun i cs t fr hi e => k i cs t fr hi (h i cs t fr hi e)
def KeepP (p : Nat) (w w' : World) : Prop := ∀ (k : Nat) (cs : Array Value) (t : TypeId) (fr : Nat × Nat), k ≠ p → w.heap[k]? = some (.cells cs t fr) → w'.heap[k]? = some (.cells cs t fr)
theorem KeepP.of {p : Nat} {w w' : World} (h : Below w.heap.size w w') : KeepP p w w' := fun k cs t fr _ e => (h.block k (lt_blkR e)).trans e
theorem KeepP.stay {p : Nat} {w w' : World} (h : Stay w w') : KeepP p w w' := fun k cs t fr _ e => h k cs t fr e
theorem KeepP.set {p : Nat} {a w : World} (h : KeepP p a w) {o : Nat} {v : Value} : KeepP p a (w.setCell ⟨p, o, none⟩ v) := fun k cs t fr hk e => by
 rw [heap_setCell_other _ _ k _ hk]
 exact h k cs t fr hk e
theorem KeepP.trans {p : Nat} {a b c : World} (h : KeepP p a b) (k : KeepP p b c) : KeepP p a c := fun i cs t fr hi e => k i cs t fr hi (h i cs t fr hi e)
theorem KeepP.kb {p base : Nat} {w w' : World} (h : KeepP p w w') (hp : p < base) : KeepB base w w' := fun k cs t fr hk e => h k cs t fr (by omega) e
theorem own_kbS {w w' : World} {base e size n : Nat} {v : Value} {xs : List Value} (h : w.ownsRow base e size v n xs) (hk : KeepB base w w') : w'.ownsRow base e size v n xs := by
 refine ⟨h.1, ?_⟩
 rcases h.2 with h | ⟨g, cap, cur, e1, e2, e3, e4⟩
 · exact .inl h
 · exact .inr ⟨g, cap, cur, e1, e2, hk g _ _ _ e2 e3, e4⟩
theorem RowAt.kb {w w' : World} {base : Nat} {t : TypeId} {p : Option Addr} {vs : List Value} (h : RowAt w base t p vs) (hk : KeepB base w w') : RowAt w' base t p vs := by
 rcases h with h | ⟨g, cs, fr, h1, h2, h3, h4⟩
 · exact .inl h
 · exact .inr ⟨g, cs, fr, h1, h2, hk g _ _ _ h2 h3, h4⟩
theorem NsO.kb {w w' : World} {base : Nat} {v : Value} {l : List Nd} (h : NsO w base v l) (hk : KeepB base w w') : NsO w' base v l :=
 ⟨own_kbS h.1 hk, fun x hx => ⟨(h.2 x hx).1, (h.2 x hx).2.1, (h.2 x hx).2.2.1.kb hk, (h.2 x hx).2.2.2.kb hk⟩⟩
theorem OwT.kb {w w' : World} {base : Nat} {v : Value} {l : List St} (h : OwT w base v l) (hk : KeepB base w w') : OwT w' base v l := own_kbS h hk
theorem JH.setP {base : Nat} {w : World} {j N : Nat} {t : Int} (h : JH base w j N t) {g o : Nat} {cs : Array Value} {fr : Nat × Nat} (v : Value) (hg : w.heap[g]? = some (.cells cs 79 fr)) : JH base (w.setCell ⟨g, o, none⟩ v) j N t := by
 obtain ⟨d, b1, b2, on, c, k, L, h1, h2, h3, h4⟩ := h
 have hj : j ≠ g := blk_ne h1.1 hg (by decide)
 have hd : d ≠ g := blk_ne h1.2.1.1 hg (by decide)
 have hb2 : b2 ≠ g := fun e => by
   obtain ⟨es, cl, q⟩ := h1.2.1.2.2.2.2.1.obj
   rw [e, hg] at q; cases q
 have hb1 : b1 ≠ g := fun e => by
   obtain ⟨m, hm, _⟩ := h1.2.1.2.2.2.2.2
   obtain ⟨es, cl, q⟩ := hm.obj
   rw [e, hg] at q; cases q
 have hO : Out (fun k => k = g) w (w.setCell ⟨g, o, none⟩ v) := ⟨rfl, rfl, rfl, by simp, fun k _ hk => heap_setCell_other _ _ k _ hk⟩
 exact ⟨d, b1, b2, on, c, k, L, ⟨(hO.block j (lt_blkR h1.1) hj).trans h1.1, h1.2.1.out hO hd hb1 hb2, h1.2.2⟩, h2, h3, h4⟩
theorem eq3 (a b c a' b' c' : Int) (w : World) : (Op.equalIn 10000 74 (.agg #[.int .u32 a, .int .u32 b, .int .u32 c]) (.agg #[.int .u32 a', .int .u32 b', .int .u32 c'])).run Tryz.prog w = .ok (a == a' && (b == b' && c == c')) w := by
 obtain ⟨i, hi⟩ : ∃ i, Tryz.prog.info? 31 = some i := by
   cases h : Tryz.prog.info? 31 with
   | none => exact absurd h (by decide)
   | some i => exact ⟨i, rfl⟩
 have hc : Tryz.prog.cellsOf 31 = 1 := by kernel_rfl
 have hp : ∀ (xs : Array Value) (o : Nat) (v : Value), xs[o]? = some v → (part 31 xs o).run Tryz.prog w = .ok v w := fun xs o v h => by
   have hq : (isAgg 31).run Tryz.prog w = .ok false w := by kernel_rfl
   unfold part
   simp only [Sem.run_bind, hq, Result.andThen_ok]
   simp [h]
 rw [run_equalIn_array w 9999 _ _ Tryz.underlying74 hi, hc]
 have h0 : (List.range 3) = [0, 1, 2] := rfl
 have he : ∀ x y : Int, (Op.equalIn 9999 31 (.int .u32 x) (.int .u32 y)).run Tryz.prog w = .ok (x == y) w := fun x y => run_equalIn_int w 9998 31 .u32 .u32 x y Tryz.underlying31
 rw [h0]
 simp only [Op.eqItems, Sem.run_bind]
 rw [hp _ (0 * 1) (.int .u32 a) rfl]
 simp only [Result.andThen_ok]
 rw [hp _ (0 * 1) (.int .u32 a') rfl]
 simp only [Result.andThen_ok, he]
 cases q1 : (a == a')
 · simp
 · simp only [Bool.not_true, Bool.false_eq_true, if_false, Sem.run_bind]
   rw [hp _ (1 * 1) (.int .u32 b) rfl]
   simp only [Result.andThen_ok]
   rw [hp _ (1 * 1) (.int .u32 b') rfl]
   simp only [Result.andThen_ok, he]
   cases q2 : (b == b')
   · simp
   · simp only [Bool.not_true, Bool.false_eq_true, if_false, Sem.run_bind]
     rw [hp _ (2 * 1) (.int .u32 c) rfl]
     simp only [Result.andThen_ok]
     rw [hp _ (2 * 1) (.int .u32 c') rfl]
     simp only [Result.andThen_ok, he]
     cases q3 : (c == c') <;> simp
end Go.Proofs.YtpolbbdaippclaaGreat
