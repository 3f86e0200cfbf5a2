/-
  Split of the document's path, at a seat of trees.
-/
import Derived.Test.YtkokjkaclcjnjaaGreatDoorPtAw
import Derived.Test.YtkokjkaclcjnjaaGreatDoorPtBl
import Derived.Lib.IndexLaws
import Derived.Lib.SplitLaws
import Derived.BigQuiet
import Derived.Deep.LoopGhost
import Derived.Deep.QuietTactic
import Derived.Laws.MakeOwn
import Derived.Lib.BufferWrite
import Derived.Lib.IndexBytes
import Derived.Lib.OthersKept
import Derived.Lib.Strings
import Derived.Lib.UnsafeStr
import Derived.OpenShut
import Derived.ProofKit
import Derived.ShutString
import Derived.WalkKit
import Derived.WalkLawsBesides
import Derived.WalkSpells
namespace Go.Proofs.YtkokjkaclcjnjaaGreatDoor
open Go.RowKit Go.ChangeShapes Go.WideShapes Go.ChangeAt
set_option linter.unusedVariables false
set_option linter.unusedSimpArgs false
set_option maxRecDepth 100000
theorem info_str : (Tryz.prog.info? 9).map (fun i => (i.zero, i.size, i.bytes)) = some (some (.string ByteArray.empty), 1, 16) := by kernel_rfl
def strV (l : List UInt8) : Value := .string ⟨l.toArray⟩
theorem strV_self (s : ByteArray) : strV s.data.toList = .string s := by unfold strV; rfl
theorem World.ownsRow_mono {w : World} {base base' : Nat} {e : TypeId} {size : Nat} {v : Value} {n : Nat} {xs : List Value} (h : w.ownsRow base e size v n xs) (hb : base' ≤ base) : w.ownsRow base' e size v n xs := by
 obtain ⟨h1, h2⟩ := h
 refine ⟨h1, ?_⟩
 rcases h2 with h2 | ⟨g, cap, cur, a, b, c⟩
 · exact .inl h2
 · exact .inr ⟨g, cap, cur, a, Nat.le_trans hb b, c⟩
theorem ownsRow_front {w : World} {base : Nat} {e : TypeId} {a : Option Addr} {n cap m : Nat} {xs : List Value} (h : w.ownsRow base e 1 (.slice a n cap) n xs) (hm : m ≤ n) : w.ownsRow base e 1 (.slice a m cap) m (xs.take m) := by
 obtain ⟨h1, h2⟩ := h
 refine ⟨by rw [List.length_take]; omega, ?_⟩
 rcases h2 with ⟨hv, hn⟩ | ⟨g, cap', cur, hv, b, c, d, e1, f, g1⟩
 · cases hv
   obtain rfl : m = 0 := by omega
   exact .inl ⟨rfl, rfl⟩
 · cases hv
   refine .inr ⟨g, cap, cur, rfl, b, c, by omega, e1, f, ?_⟩
   rw [← g1, List.take_take, Nat.mul_one, Nat.mul_one, Nat.min_eq_left hm]
def SplitPost (l : List UInt8) (w : World) (e : Ending) (w' : World) : Prop :=
 ((∃ ns v, Pa.splitF l = some ns ∧ e = .returned (.tuple #[v, .int .i64 0]) ∧ w'.ownsRow w.heap.size 9 1 v ns.length (ns.map strV)) ∨ (Pa.splitF l = none ∧ e = .returned (.tuple #[.slice none 0 0, .int .i64 3]))) ∧ Below w.heap.size w w'
def IsS (w : World) (v : Value) (ss : List (List UInt8)) : Prop :=
 ∃ a cap, v = .slice a ss.length cap ∧ ss.length ≤ cap ∧ cap ≤ maxLen ∧ (0 < ss.length → ∃ b off, a = some ⟨b, off, none⟩ ∧ ∀ i (h : i < ss.length), w.cell? ⟨b, off + i, none⟩ = some (strV ss[i])) ∧ ∀ p ∈ ss, p.length ≤ maxLen
theorem IsS.later {w w' : World} {v : Value} {ss : List (List UInt8)} (h : IsS w v ss) (hb : Below w.heap.size w w') : IsS w' v ss := by
 obtain ⟨a, cap, h1, h2, h3, h4, h5⟩ := h
 refine ⟨a, cap, h1, h2, h3, fun hp => ?_, h5⟩
 obtain ⟨b, off, e, hc⟩ := h4 hp
 exact ⟨b, off, e, fun i hi => cell_later hb (hc i hi)⟩
theorem isS_of_owns {w : World} {base : Nat} {v : Value} {ss : List (List UInt8)} (h : w.ownsRow base 9 1 v ss.length (ss.map strV)) (hl : ∀ p ∈ ss, p.length ≤ maxLen) : IsS w v ss := by
 rcases h.2 with ⟨rfl, hn⟩ | ⟨g, cap, cur, rfl, _, _, hn, hc, _⟩
 · exact ⟨none, 0, by rw [hn], by omega, Nat.zero_le _, fun hp => absurd hp (by omega), hl⟩
 · refine ⟨some ⟨g, 0, none⟩, cap, rfl, hn, hc, fun hp => ⟨g, 0, rfl, fun i hi => ?_⟩, hl⟩
   have h1 := h.cells rfl i (strV ss[i]) (by rw [List.getElem?_map, List.getElem?_eq_getElem hi]; rfl)
   have h2 : (⟨g, 0, none⟩ : Addr).add i = ⟨g, 0 + i, none⟩ := by rcases i with _ | i <;> simp [Addr.add]
   rw [h2] at h1; exact h1
theorem names_short {l : List UInt8} {ns : List (List UInt8)} (h : Pa.splitF l = some ns) : ∀ p ∈ ns, p.length ≤ maxLen := fun p hp => by
 have := Pa.name_len p (Pa.split_names h p hp)
 unfold maxLen; omega
theorem own_empty (w : World) (t : TypeId) : (w.alloc (.cells #[] t)).ownsRow w.heap.size t 1 (.slice (some ⟨w.heap.size, 0, none⟩) 0 0) 0 [] :=
 ⟨rfl, .inr ⟨w.heap.size, 0, #[], rfl, Nat.le_refl _, heap_alloc_new w _, Nat.le_refl _, Nat.zero_le _, rfl, rfl⟩⟩
theorem IsS.cells {w : World} {x : Addr} {n cap : Nat} {ss : List (List UInt8)} (h : IsS w (.slice (some x) n cap) ss) : ∀ j u, (ss.map strV)[j]? = some u → w.cell? (x.add j) = some u := by
 obtain ⟨a, cap', h1, h2, h3, h4, h5⟩ := h
 cases h1
 intro j u hu
 rw [List.getElem?_map] at hu
 by_cases hj : j < ss.length
 · obtain ⟨b, off, e, hc⟩ := h4 (by omega)
   cases e
   rw [List.getElem?_eq_getElem hj] at hu
   cases hu
   have h2 : (⟨b, off, none⟩ : Addr).add j = ⟨b, off + j, none⟩ := by rcases j with _ | j <;> simp [Addr.add]
   rw [h2]; exact hc j hj
 · rw [List.getElem?_eq_none (by omega)] at hu; cases hu
theorem strs_one (ss : List (List UInt8)) : ∀ u ∈ ss.map strV, u.oneCell' = true := by
 intro u hu
 obtain ⟨s, _, rfl⟩ := List.mem_map.1 hu
 rfl
theorem splitK_pieces : ∀ (n : Nat) (s : List UInt8), s.length ≤ n → Lib.splitK [47] 0 (Lib.count s [47]) s = Pa.piecesF s := by
 intro n
 induction n with
 | zero =>
   intro s hs
   have : s = [] := List.eq_nil_of_length_eq_zero (by omega)
   subst this
   decide +kernel
 | succ n ih =>
   intro s hs
   have hone := Lib.index_one s 47
   by_cases h : Lib.indexByte s 47 = -1
   · have h47 : 47 ∉ s := fun hm => by
       obtain ⟨k, hk, e⟩ := List.getElem_of_mem hm
       exact Lib.indexByte_none h k (by rw [List.getElem?_eq_getElem hk, e])
     rw [Lib.count_miss (by rw [hone]; exact h), Pa.pieces_none s h47]; rfl
   · have hge := Lib.indexByte_ge s 47
     obtain ⟨i, hi⟩ := Int.eq_ofNat_of_zero_le (show 0 ≤ Lib.indexByte s 47 by omega)
     obtain ⟨h1, h2⟩ := Lib.indexByte_some hi
     have hix : Lib.index s [47] = (i : Int) := by rw [hone]; exact hi
     have hil : i < s.length := by
       rcases Nat.lt_or_ge i s.length with h3 | h3
       · exact h3
       · rw [List.getElem?_eq_none h3] at h1; cases h1
     have hsi : s[i] = 47 := by rw [List.getElem?_eq_getElem hil] at h1; exact Option.some.inj h1
     have h47 : 47 ∉ s.take i := fun hm => by
       obtain ⟨k, hk, e⟩ := List.getElem_of_mem hm
       rw [List.length_take] at hk
       rw [List.getElem_take] at e
       exact h2 k (by omega) (by rw [List.getElem?_eq_getElem (by omega), e])
     have es : s = s.take i ++ 47 :: s.drop (i + 1) := by
       have e1 := (List.take_append_drop i s).symm
       rw [List.drop_eq_getElem_cons hil, hsi] at e1
       exact e1
     rw [Lib.count_hit (by simp) hix, Nat.add_comm 1]
     unfold Lib.splitK
     rw [if_neg (by rw [hix]; simp), hix]
     have e2 : Pa.piecesF s = s.take i :: Pa.piecesF (s.drop (i + 1)) := by
       conv => lhs; rw [es]
       exact Pa.pieces_cut _ _ h47
     rw [e2]
     simp only [Int.toNat_natCast, Nat.add_zero, List.length_singleton]
     rw [ih (s.drop (i + 1)) (by rw [List.length_drop]; omega)]
theorem lib_split (s : ByteArray) : (Lib.splitB ⟨#[47]⟩ 0 (Lib.countB s ⟨#[47]⟩) s).map (fun x => x.data.toList) = Pa.piecesF s.data.toList := by
 rw [Lib.splitB_data]
 exact splitK_pieces _ _ (Nat.le_refl _)
set_option maxHeartbeats 400000 in
theorem rsplit_long (s : ByteArray) (w : World) (hs : s.size ≤ maxLen) (h : 120 < s.size) :
   Calls Tryz.prog 16 #[.string s] w (SplitPost s.data.toList w) := by
 unfold maxLen at hs
 have N : Hid (Pa.splitF s.data.toList = none) := by
   have hl : s.data.toList.length = s.size := rfl
   show _ = _
   unfold Pa.splitF; rw [if_neg (by omega)]
 have h' : (120 : Int) < (s.size : Int) := by omega
 go_enter Tryz.func16, Tryz.ntmps16
 go_wp2
 go_ret2
 exact ⟨.inr ⟨N.out, rfl⟩, Below.refl _ _⟩
set_option maxHeartbeats 400000 in
theorem rsplit_empty (s : ByteArray) (w : World) (h : s.size < 1) :
   Calls Tryz.prog 16 #[.string s] w (SplitPost s.data.toList w) := by
 have N : Hid (Pa.splitF s.data.toList = none) := by
   have hl : s.data.toList = [] := List.eq_nil_of_length_eq_zero (show s.size = 0 by omega)
   show _ = _
   rw [hl]; decide +kernel
 go_enter Tryz.func16, Tryz.ntmps16
 go_wp2
 go_ret2
 exact ⟨.inr ⟨N.out, rfl⟩, Below.refl _ _⟩
set_option maxHeartbeats 400000 in
theorem rsplit_noslash (s : ByteArray) (w : World) (h0 : 0 < s.size) (h : s.size ≤ 120) (c : UInt8) (r : List UInt8) (hl : s.data.toList = c :: r) (hc : c ≠ 47) :
   Calls Tryz.prog 16 #[.string s] w (SplitPost s.data.toList w) := by
 have N : Hid (Pa.splitF s.data.toList = none) := by
   show _ = _
   unfold Pa.splitF; rw [if_neg]
   rintro ⟨_, h2⟩
   rw [hl] at h2; simp at h2; exact hc h2
 have e0 : s[0]'h0 = c := by
   have : s.data.toList[0]'h0 = c := by simp [hl]
   exact this
 have hb : (((s[0]'h0).toNat : Int) != 47) = true := by
   rw [bne_iff_ne, e0]
   intro e
   apply hc
   apply UInt8.toNat_inj.1
   have : (47 : UInt8).toNat = 47 := rfl
   omega
 clear hl e0
 go_enter Tryz.func16, Tryz.ntmps16
 go_wp2
 go_ret2
 exact ⟨.inr ⟨N.out, rfl⟩, Below.refl _ _⟩
set_option maxRecDepth 100000 in
set_option maxHeartbeats 2000000 in
theorem rsplit_slash (s : ByteArray) (w : World) (m : Int) (hmx : w.cell? ⟨Tryz.lays146_ren.g 1, 0, none⟩ = some (.int .i64 m)) (h : s.size ≤ 120) (l : List UInt8) (hl : s.data.toList = 47 :: l) :
   Calls Tryz.prog 16 #[.string s] w (SplitPost s.data.toList w) := by
 obtain ⟨i0, hi, hz0, hz1, hz2⟩ := info_parts info_str
 have hsz : s.data.toList.length = s.size := rfl
 have h0 : 0 < s.size := by rw [hl] at hsz; simp at hsz; omega
 have N : Hid (Pa.splitF s.data.toList = Pa.splitN [] (Pa.piecesF l)) := by
   show _ = _
   unfold Pa.splitF; rw [if_pos ⟨by omega, by rw [hl]; rfl⟩, hl]
   have e : Pa.piecesF (47 :: l) = [] :: Pa.piecesF l := by simp [Pa.piecesF]
   rw [e]; rfl
 have hll : l.length + 1 = s.size := by rw [hl] at hsz; simpa using hsz
 have hPl := Pa.pieces_length l
 have HM : Hid (∀ p ∈ Pa.piecesF l, p.length ≤ 120) := fun p hp => by
   have := Pa.pieces_mem l p hp
   omega
 have e0 : s[0]'h0 = 47 := by
   have : s.data.toList[0]'h0 = 47 := by simp [hl]
   exact this
 have hb : (((s[0]'h0).toNat : Int) != 47) = false := by rw [e0]; rfl
 have hex : (s.extract 1 s.size).data.toList = l := by rw [Lib.extract_to_end, hl]; rfl
 have hxs : (s.extract 1 s.size).size < 4294967281 := by
   have h9 : (s.extract 1 s.size).data.toList.length = (s.extract 1 s.size).size := rfl
   rw [hex] at h9
   omega
 have HSp := hid' (Tryz.strings_Split (s.extract 1 s.size) ⟨#[47]⟩ m w hxs hmx (by decide))
 have hlib := lib_split (s.extract 1 s.size)
 rw [hex] at hlib
 have hall := Lib.splitB_all ⟨#[47]⟩ (by decide) 0 _ (s.extract 1 s.size) rfl
 generalize Lib.splitB ⟨#[47]⟩ 0 (Lib.countB (s.extract 1 s.size) ⟨#[47]⟩) (s.extract 1 s.size) = C at *
 generalize Lib.countB (s.extract 1 s.size) ⟨#[47]⟩ = cn at *
 have hCP : C.length = (Pa.piecesF l).length := by rw [← hlib, List.length_map]
 rw [← hall, hCP] at HSp
 have HC0 : Hid (∀ k (hk : k < (Pa.piecesF l).length), (w.alloc (.cells (C.map Value.string).toArray 9)).cell? ⟨w.heap.size, k, none⟩ = some (strV (Pa.piecesF l)[k])) := fun k hk => by
   rw [World.cell?_alloc_mark]
   have e9 : (Pa.piecesF l)[k] = (C[k]'(by omega)).data.toList := by simp [← hlib]
   rw [e9, strV_self]
   simp
 have HL := hid' hl
 clear hlib hall hCP e0 hex hxs hsz
 generalize Pa.piecesF l = P at *
 go_enter Tryz.func16, Tryz.ntmps16
 go_wp2_with (go_at_call 34; refine HSp.out.mono ?_; rintro e w1 ⟨rfl, hw1⟩; (have HW := hid' hw1); clear hw1)
 have hb0 : Below w.heap.size w w1 := by rw [HW.out]; exact (Below.refl _ _).alloc (Nat.le_refl _) _
 have HC : Hid (∀ k (hk : k < P.length), w1.cell? ⟨w.heap.size, k, none⟩ = some (strV P[k])) := by rw [HW.out]; exact HC0.out
 clear HW HC0 HSp
 go_loopw [4, 6, 7] (fun v i p wr => ∃ (k : Nat) (acc : List (List UInt8)), k ≤ P.length ∧ i = .int .i64 k ∧ acc.length ≤ k ∧ wr.ownsRow w1.heap.size 9 1 v acc.length (acc.map strV) ∧ Below w1.heap.size w1 wr ∧ Hid (Pa.splitN acc (P.drop k) = Pa.splitN [] P)) (fun _ i _ _ => ((P.length : Int) - intOf i).toNat)
 case atStart => exact ⟨0, [], by omega, rfl, by simp, World.ownsRow_nil _ _ _ _, Below.refl _ _, rfl⟩
 case round =>
   obtain ⟨k, acc, hk, rfl, hak, hown, hbw, HS⟩ := hrel
   have hbz := hbw.size
   by_cases hlt : k < P.length
   · have HAt : Hid _ := Pa.splitN_at acc P k hlt
     obtain ⟨x, hx⟩ : ∃ x : ByteArray, x.data.toList = P[k] := ⟨⟨P[k].toArray⟩, rfl⟩
     have hcell : wr.cell? ⟨w.heap.size, k, none⟩ = some (.string x) := by
       exact cell_later hbw (by rw [HC.out k hlt, ← hx]; rfl)
     have hxl : x.toList = P[k] := by rw [Lib.toList_data, hx]
     have HX := hid' hx
     have hx120 : x.size ≤ 120 := by
       have h1 := HM.out P[k] (List.getElem_mem hlt)
       rw [← hx] at h1; exact h1
     clear hx
     cases hA : decide (P[k] = []) with
     | true =>
       have e0 : P[k] = [] := of_decide_eq_true hA
       have b0 : x.toList.isEmpty = true := by rw [hxl, e0]; rfl
       have HT : Hid (Pa.splitN acc (P.drop (k + 1)) = Pa.splitN [] P) := by
         have h1 := HAt.out
         rw [e0, Pa.step_empty] at h1
         exact h1.symm.trans HS.out
       clear hA e0 hxl
       go_wp2
       go_roundw
       case rel => exact ⟨k + 1, acc, by omega, by go_num, by omega, hown, hbw, HT⟩
       case measure => simp [intOf]; omega
     | false =>
       have e0 : P[k] ≠ [] := of_decide_eq_false hA
       have b0 : x.toList.isEmpty = false := by rw [hxl]; cases h : P[k] with | nil => exact absurd h e0 | cons c r => rfl
       cases hB : decide (P[k] = [46]) with
       | true =>
         have e1 : P[k] = [46] := of_decide_eq_true hB
         have b1 : (x.toList == [46]) = true := by rw [hxl, e1]; rfl
         have HT : Hid (Pa.splitN acc (P.drop (k + 1)) = Pa.splitN [] P) := by
           have h1 := HAt.out
           rw [e1, Pa.step_dot] at h1
           exact h1.symm.trans HS.out
         clear hA hB e0 e1 hxl
         go_wp2
         go_roundw
         case rel => exact ⟨k + 1, acc, by omega, by go_num, by omega, hown, hbw, HT⟩
         case measure => simp [intOf]; omega
       | false =>
         have e1 : P[k] ≠ [46] := of_decide_eq_false hB
         have b1 : (x.toList == [46]) = false := by rw [hxl]; exact beq_eq_false_iff_ne.2 e1
         cases hC : decide (P[k] = [46, 46]) with
         | true =>
           have e2 : P[k] = [46, 46] := of_decide_eq_true hC
           have b2 : (x.toList == [46, 46]) = true := by rw [hxl, e2]; rfl
           have HT : Hid (Pa.splitN acc.dropLast (P.drop (k + 1)) = Pa.splitN [] P) := by
             have h1 := HAt.out
             rw [e2, Pa.step_dots] at h1
             exact h1.symm.trans HS.out
           clear hA hB hC e0 e1 e2 hxl
           rcases hown.2 with ⟨rfl, hn0⟩ | ⟨g2, cap2, cur2, rfl, hg2, hh2, hn2, hc2, hs2, ht2⟩
           · have h9 : acc = [] := List.eq_nil_of_length_eq_zero hn0
             subst h9
             clear hn0
             go_wp2
             go_roundw
             case rel => exact ⟨k + 1, [], by omega, by go_num, by simp, hown, hbw, HT⟩
             case measure => simp [intOf]; omega
           · have HO := hid' (ownsRow_front hown (m := acc.length - 1) (by omega))
             unfold maxLen at hc2
             clear hh2 hs2 ht2
             by_cases hz : 0 < acc.length
             · have hz' : (0 : Int) < (acc.length : Int) := by omega
               go_wp2
               go_roundw
               case rel =>
                 refine ⟨k + 1, acc.dropLast, by omega, by go_num, by rw [List.length_dropLast]; omega, ?_, hbw, HT⟩
                 rw [List.length_dropLast]
                 have h9 : (acc.map strV).take (acc.length - 1) = acc.dropLast.map strV := by rw [List.dropLast_eq_take, List.map_take]
                 rw [← h9]
                 exact HO.out
               case measure => simp [intOf]; omega
             · have h9 : acc = [] := List.eq_nil_of_length_eq_zero (by omega)
               subst h9
               go_wp2
               go_roundw
               case rel => exact ⟨k + 1, [], by omega, by go_num, by simp, hown, hbw, HT⟩
               case measure => simp [intOf]; omega
         | false =>
           have e2 : P[k] ≠ [46, 46] := of_decide_eq_false hC
           have b2 : (x.toList == [46, 46]) = false := by rw [hxl]; exact beq_eq_false_iff_ne.2 e2
           cases hD : Pa.nameB x.data.toList with
           | true =>
             have hn := Pa.name_len _ hD
             have hxs : x.data.toList.length = x.size := rfl
             rw [hxs] at hn
             have HT : Hid (Pa.splitN (acc ++ [P[k]]) (P.drop (k + 1)) = Pa.splitN [] P) := by
               have h1 := HAt.out
               rw [Pa.step_name acc P[k] (by rw [← HX.out]; exact hD)] at h1
               exact h1.symm.trans HS.out
             clear hA hB hC e0 e1 e2 hxl hxs
             go_wp2_with (first
               | (go_at_call 35; refine (rname_c _ _ (by unfold maxLen; omega)).mono ?_; rintro e w3 ⟨rfl, rfl⟩; rw [hD])
               | (at_builtin; refine wpList_append_own _ rfl _ _ 28 rfl w1.heap.size 9 i0 (.string ByteArray.empty) 1 16 Tryz.underlying28 hi hz0 hz1 hz2 rfl (by decide) _ _ _ rfl (hown.alloc _) ⟨w3.heap.size, 0, none⟩ 1 1 [.string x] rfl rfl (cell_one_new _ _ _) (fun y hy => by simp at hy; subst hy; rfl) (by unfold maxLen; omega) (by omega) (by simp; omega) ?_; intro v' w5 hown' hgrow5 hnil5))
             have hbw5 : Below w1.heap.size w1 w5 := Below.grown (hbw.alloc (by omega) _) hgrow5 (by simp; omega) (fun k hk => (hown.lt _ hk).1)
             go_roundw
             case rel =>
               refine ⟨k + 1, acc ++ [P[k]], by omega, by go_num, by simp; omega, ?_, hbw5, HT⟩
               have h9 : Value.string x = strV P[k] := by rw [← HX.out]; rfl
               rw [h9] at hown'
               simpa using hown'
             case measure => simp [intOf]; omega
           | false =>
             have HN : Hid (Pa.splitF s.data.toList = none) := by
               have h1 := HAt.out
               rw [Pa.step_bad acc P[k] e0 e1 e2 (by rw [← HX.out]; exact hD)] at h1
               show _ = _
               rw [N.out, ← HS.out, h1]; rfl
             clear hA hB hC e0 e1 e2 hxl
             go_wp2_with (go_at_call 35; refine (rname_c _ _ (by unfold maxLen; omega)).mono ?_; rintro e w3 ⟨rfl, rfl⟩; rw [hD])
             go_ret2
             exact ⟨.inr ⟨HN.out, rfl⟩, hb0.trans (hbw.mono hb0.size)⟩
   · have e3 : k = P.length := by omega
     have HN : Hid (Pa.splitF s.data.toList = some acc) := by
       show _ = _
       rw [N.out, ← HS.out, e3, List.drop_length]; rfl
     clear e3
     go_wp2
     go_ret2
     exact ⟨.inl ⟨acc, _, HN.out, rfl, World.ownsRow_mono hown hb0.size⟩, hb0.trans (hbw.mono hb0.size)⟩
theorem rsplit_c (s : ByteArray) (w : World) (m : Int) (hmx : w.cell? ⟨Tryz.lays146_ren.g 1, 0, none⟩ = some (.int .i64 m)) (hs : s.size ≤ maxLen) : Calls Tryz.prog 16 #[.string s] w (SplitPost s.data.toList w) := by
 by_cases h : s.size ≤ 120
 · cases hl : s.data.toList with
   | nil =>
     have h9 : s.data.toList.length = 0 := by rw [hl]; rfl
     have := rsplit_empty s w (show s.data.toList.length < 1 by omega)
     rw [hl] at this; exact this
   | cons c r =>
     have h9 : s.data.toList.length = r.length + 1 := by rw [hl]; rfl
     by_cases hc : c = 47
     · subst hc
       have := rsplit_slash s w m hmx h r hl
       rw [hl] at this; exact this
     · have := rsplit_noslash s w (show 0 < s.data.toList.length by omega) h c r hl hc
       rw [hl] at this; exact this
 · exact rsplit_long s w hs (by omega)
theorem rsplit_yes (s : ByteArray) (w : World) (m : Int) (hmx : w.cell? ⟨Tryz.lays146_ren.g 1, 0, none⟩ = some (.int .i64 m)) (hs : s.size ≤ maxLen) (ns : List (List UInt8)) (h : Pa.splitF s.data.toList = some ns) :
   Calls Tryz.prog 16 #[.string s] w fun e w' => ∃ v, e = .returned (.tuple #[v, .int .i64 0]) ∧ IsS w' v ns ∧ (v = .slice none 0 0 ∨ ∃ x n cap, v = .slice (some x) n cap) ∧ Below w.heap.size w w' :=
 (rsplit_c s w m hmx hs).mono fun e w' ⟨hp, hb⟩ => by
   rcases hp with ⟨ns', v, h', rfl, ho⟩ | ⟨h', rfl⟩
   · rw [h] at h'; cases h'
     exact ⟨v, rfl, isS_of_owns ho (names_short h), by rcases ho.2 with ⟨e, _⟩ | ⟨g, cap, cur, e, _⟩; exact .inl e; exact .inr ⟨_, _, _, e⟩, hb⟩
   · rw [h] at h'; cases h'
theorem rsplit_not (s : ByteArray) (w : World) (m : Int) (hmx : w.cell? ⟨Tryz.lays146_ren.g 1, 0, none⟩ = some (.int .i64 m)) (hs : s.size ≤ maxLen) (h : Pa.splitF s.data.toList = none) :
   Calls Tryz.prog 16 #[.string s] w fun e w' => e = .returned (.tuple #[.slice none 0 0, .int .i64 3]) ∧ Below w.heap.size w w' :=
 (rsplit_c s w m hmx hs).mono fun e w' ⟨hp, hb⟩ => by
   rcases hp with ⟨ns', v, h', rfl, ho⟩ | ⟨h', rfl⟩
   · rw [h] at h'; cases h'
   · exact ⟨rfl, hb⟩
end Go.Proofs.YtkokjkaclcjnjaaGreatDoor
