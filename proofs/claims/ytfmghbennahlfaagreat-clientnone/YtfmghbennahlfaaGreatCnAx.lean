/-
  
-/
import Derived.Test.YtfmghbennahlfaaGreatCnAw
namespace Go.Proofs.YtfmghbennahlfaaGreat
open Go.RowKit Go.ChangeShapes Go.WideShapes Go.ChangeAt Go.Maps
set_option linter.unusedVariables false
set_option linter.unusedSimpArgs false
theorem info54 : ∃ i : TypeInfo, Tryz.prog.info? 37 = some i ∧ i.zero = some (.slice none 0 0) ∧ i.size = 1 ∧ i.bytes = 24 := by
 have h : (Tryz.prog.info? 37).map (fun i => (i.zero, i.size, i.bytes)) = some (some (.slice none 0 0), 1, 24) := by kernel_rfl
 cases hi : Tryz.prog.info? 37 with
 | none => rw [hi] at h; cases h
 | some i => rw [hi] at h; simp at h; exact ⟨i, rfl, h.1, h.2.1, h.2.2⟩
def PartsPost (cnt : Nat) (L : List Int) (w : World) (e : Ending) (w' : World) : Prop :=
 (∃ v ok, e = .returned (.tuple #[v, .bool ok]) ∧ ((∃ g, Jo.partsF cnt L = some g ∧ ok = true ∧ PG w.heap.size w' v g) ∨ (Jo.partsF cnt L = none ∧ ok = false))) ∧ Below w.heap.size w w'
def Rest (cnt : Nat) (L : List Int) (k : Nat) (gs : Jo.Gr) (r : List Int) : Prop :=
 gs.length = k ∧ Jo.partsF cnt L = (match Jo.partsF (cnt - k) r with | none => none | some g => some (gs ++ g))
theorem Rest.step {cnt k : Nat} {L r : List Int} {gs : Jo.Gr} (h : Rest cnt L k gs r) (hk : k < cnt) (h4 : ¬ r.length < 4) (hx : ¬ (16384 < Fr.at4 r 0 ∨ ((r.length - 4 : Nat) : Int) < Fr.at4 r 0)) :
   Rest cnt L (k + 1) (gs ++ [(r.drop 4).take (Fr.at4 r 0).toNat]) ((r.drop 4).drop (Fr.at4 r 0).toNat) := by
 refine ⟨by simp [h.1], ?_⟩
 rw [h.2]
 obtain ⟨j, hj⟩ : ∃ j, cnt - k = j + 1 := ⟨cnt - k - 1, by omega⟩
 have e : cnt - (k + 1) = j := by omega
 rw [hj, e]
 conv => lhs; unfold Jo.partsF
 rw [if_neg h4, if_neg hx]
 cases Jo.partsF j ((r.drop 4).drop (Fr.at4 r 0).toNat) with
 | none => rfl
 | some g => simp
theorem Rest.stop {cnt k : Nat} {L r : List Int} {gs : Jo.Gr} (h : Rest cnt L k gs r) (hk : k < cnt) (hx : r.length < 4 ∨ 16384 < Fr.at4 r 0 ∨ ((r.length - 4 : Nat) : Int) < Fr.at4 r 0) : Jo.partsF cnt L = none := by
 rw [h.2]
 obtain ⟨j, hj⟩ : ∃ j, cnt - k = j + 1 := ⟨cnt - k - 1, by omega⟩
 rw [hj]
 have : Jo.partsF (j + 1) r = none := by
   unfold Jo.partsF
   by_cases h4 : r.length < 4
   · rw [if_pos h4]
   · rw [if_neg h4, if_pos (by omega)]
 rw [this]
theorem Rest.last {cnt : Nat} {L r : List Int} {gs : Jo.Gr} (h : Rest cnt L cnt gs r) : Jo.partsF cnt L = if r.length = 0 then some gs else none := by
 rw [h.2, Nat.sub_self]
 unfold Jo.partsF
 by_cases h0 : r.length = 0
 · rw [if_pos h0, if_pos h0]; simp
 · rw [if_neg h0, if_neg h0]
theorem own_base {w : World} {base base' : Nat} {e size n : Nat} {v : Value} {xs : List Value} (h : w.ownsRow base e size v n xs) (hb : base' ≤ base) : w.ownsRow base' e size v n xs := by
 refine ⟨h.1, ?_⟩
 rcases h.2 with h | ⟨g, cap, cur, e1, e2, e3⟩
 · exact .inl h
 · exact .inr ⟨g, cap, cur, e1, by omega, e3⟩
set_option maxRecDepth 20000 in
set_option maxHeartbeats 4000000 in
theorem partsOfJ_c (la : Option Addr) (len cnt : Nat) (L : List Int) (w : World) (h : IsB w la len L) (hln : la = none → len = 0) (hc : cnt < 256) (hlen : len ≤ 200000) :
   Calls Tryz.prog 284 #[.slice la len len, .int .i64 cnt] w (PartsPost cnt L w) := by
 have hby : Jo.Bytes L := fun x hx => by
   obtain ⟨i, hi, rfl⟩ := List.getElem_of_mem hx
   have := h.2.2.2 i
   simp [List.getD, hi] at this
   omega
 obtain ⟨i0, hi, hz0, hz1, hz2⟩ := info54
 have HB0 := hid hby
 have H0 := hid h
 clear h hby
 go_enter Tryz.func284, Tryz.ntmps284
 go_wp2
 go_loopw [0, 6, 9] (fun s v i wr => ∃ (k : Nat) (r : List Int) (a : Option Addr) (m : Nat) (gs : Jo.Gr), k ≤ cnt ∧ i = .int .i64 k ∧ s = .slice a m m ∧ IsB w a m r ∧ (a = none → m = 0) ∧ m ≤ 200000 ∧ Jo.Bytes r ∧ Rest cnt L k gs r ∧ PG w.heap.size wr v gs ∧ Below w.heap.size w wr) (fun _ _ i _ => cnt - (intOf i).toNat)
 case atStart => exact ⟨0, L, la, len, [], Nat.zero_le _, rfl, rfl, H0.out, hln, hlen, HB0.out, ⟨rfl, by cases Jo.partsF (cnt - 0) L <;> simp_all⟩, PG.nil _ _, Below.refl _ _⟩
 case round =>
   obtain ⟨k, r, a, m, gs, hk, rfl, rfl, hI, hnone, hm, hby, hR, hP, hB⟩ := hrel
   have hrl := hI.1
   have HR := hid hR
   have HP := hid hP
   have HB := hid hB
   have HI := hid hI
   have HY := hid hby
   obtain ⟨gv, gc, rfl⟩ : ∃ gv gc, u6 = .slice gv gs.length gc := by obtain ⟨vals, h1, _⟩ := hP; exact own_shape6 h1
   clear hR hP hB hI hby
   by_cases hlt : k < cnt
   · by_cases h4 : m < 4
     · have E := hid (HR.out.stop hlt (.inl (by rw [hrl]; exact h4)))
       have h4' : (m : Int) < 4 := by omega
       go_wp2
       go_ret2
       exact ⟨⟨_, _, rfl, .inr ⟨E.out, rfl⟩⟩, HB.out⟩
     · obtain ⟨b, off, rfl, _⟩ := HI.out.2.2.1 (by omega)
       have RN : Hid (Calls Tryz.prog 283 #[.slice (some ⟨b, off, none⟩) 4 4] wr fun e w' => e = .returned (.int .u32 (Fr.at4 r 0)) ∧ w' = wr) := by
         have := readNumber_c (some ⟨b, off, none⟩) 4 (r.take 4) wr ((HI.out.later HB.out).front 4 (by omega))
         have e : Fr.at4 (r.take 4) 0 = Fr.at4 r 0 := by unfold Fr.at4; simp [List.getD, List.getElem?_take]
         rw [e] at this; exact this
       have hx := Fr.num4_lt (r.getD 0 0) (r.getD 1 0) (r.getD 2 0) (r.getD 3 0) (HI.out.2.2.2 0) (HI.out.2.2.2 1) (HI.out.2.2.2 2) (HI.out.2.2.2 3)
       have hx' : 0 ≤ Fr.at4 r 0 ∧ Fr.at4 r 0 < 4294967296 := hx
       obtain ⟨x, hxe⟩ : ∃ x : Nat, Fr.at4 r 0 = x := ⟨(Fr.at4 r 0).toNat, by omega⟩
       clear hx
       have h4' : ¬ (m : Int) < 4 := by omega
       have h4c : (4 : Int) ≤ m := by omega
       by_cases hbad : 16384 < x ∨ m - 4 < x
       · have E := hid (HR.out.stop hlt (.inr (by rw [hxe, hrl]; omega)))
         rw [hxe] at RN hx'
         by_cases hb1 : 16384 < x
         · have hb1' : (16384 : Int) < x := by omega
           go_wp2_with (go_at_call 283; refine RN.out.mono ?_; rintro e w' ⟨rfl, rfl⟩)
           all_goals
             go_ret2
             exact ⟨⟨_, _, rfl, .inr ⟨E.out, rfl⟩⟩, HB.out⟩
         · have hb1' : ¬ (16384 : Int) < x := by omega
           have hb2' : ((m - 4 : Nat) : Int) < x := by omega
           go_wp2_with (go_at_call 283; refine RN.out.mono ?_; rintro e w' ⟨rfl, rfl⟩)
           all_goals
             go_ret2
             exact ⟨⟨_, _, rfl, .inr ⟨E.out, rfl⟩⟩, HB.out⟩
       · have HS := hid (HR.out.step hlt (by omega) (by rw [hxe, hrl]; omega))
         have hxt : (Fr.at4 r 0).toNat = x := by omega
         have HXT := hid hxt
         rw [hxt] at HS
         rw [hxe] at RN
         have HXE := hid hxe
         have hg4 : gs.length ≤ 256 := by rw [HR.out.1]; omega
         clear hxe hxt hx'
         have b1 : ¬ (16384 : Int) < x := by omega
         have b2 : ¬ ((m - 4 : Nat) : Int) < x := by omega
         have b3 : (x : Int) ≤ ((m - 4 : Nat) : Int) := by omega
         have b0 : (0 : Int) ≤ x := by omega
         by_cases hm4 : m = 4
         · subst hm4
           have hx0 : x = 0 := by omega
           subst hx0
           have CI0 : IsB wr (some ⟨b, off, none⟩) 0 ((r.drop 4).take 0) := by rw [List.take_zero]; exact ⟨rfl, by decide, fun h => absurd h (by omega), fun i => by simp⟩
           have NI : Hid (IsB w (some ⟨b, off, none⟩) 0 ((r.drop 4).drop 0)) := by
             have : r.drop 4 = [] := List.eq_nil_of_length_eq_zero (by simp; omega)
             rw [this]; exact ⟨rfl, by decide, fun h => absurd h (by omega), fun i => by simp⟩

           have CI := hid (CI0)
           go_wp2_with (first
             | (at_builtin; (refine wpList_append_own _ rfl _ _ 152 rfl w.heap.size 37 i0 (.slice none 0 0) 1 24 Tryz.underlying152 hi hz0 hz1 hz2 rfl (by decide) _ _ _ rfl (P1.alloc _) ⟨w5.heap.size, 0, none⟩ 1 1 [.slice ua ul uc] rfl rfl (cell_one_new _ _ _) (fun y hy => by simp at hy; subst hy; rfl) (by unfold maxLen; omega) (by omega) (by simp; omega) ?_; intro v9 w9 hown9 hgrow9 hnil9))
             | (go_at_call 125; refine (clone8_c (some ⟨b, off, none⟩) 0 _ _ _ CI.out (fun e => by cases e) (by omega)).mono ?_; rintro e w5 ⟨u, rfl, hu5, hb5⟩; obtain ⟨ul, hul⟩ : ∃ ul, ul = ((r.drop 4).take 0).length := ⟨_, rfl⟩; rw [← hul] at hu5; (have HUL := hid hul); clear hul; obtain ⟨ua, uc, rfl⟩ := own_shape6 hu5; obtain ⟨vals, P1, P2⟩ := HP.out.later hb5; (have HZ5 : w.heap.size ≤ w5.heap.size := Nat.le_trans HB.out.size hb5.size))
             | (go_at_call 283; refine RN.out.mono ?_; rintro e w' ⟨rfl, rfl⟩))
           have hul := HUL.out
           clear HUL
           subst hul
           have hu6 := own_base hu5 HB.out.size
           have P9 := PG.snoc (w := w5.alloc (.cells #[.slice ua _ uc] 37)) (P1.alloc _) (fun i hi => by obtain ⟨u, e1, e2, e3⟩ := P2 i hi; exact ⟨u, e1, e2.alloc _, e3⟩) (hu6.alloc _) (Jo.bytes_take (Jo.bytes_drop HY.out 4) _) hgrow9 hown9
           have B9 : Below w.heap.size w w9 := below_grown ((HB.out.trans (hb5.mono HB.out.size)).alloc HZ5 _) (P1.alloc _) (Nat.le_refl _) (by simp; omega) hgrow9
           obtain ⟨a9, c9, rfl⟩ := own_shape6 hown9
           go_roundw
           case rel => exact ⟨k + 1, (r.drop 4).drop 0, some ⟨b, off, none⟩, _, _, by omega, by go_num, rfl, NI.out, (fun e => by cases e), by omega, Jo.bytes_drop (Jo.bytes_drop HY.out _) _, HS.out, P9, B9⟩
           case measure => simp [intOf]; omega
         · have CI0 : IsB wr (some ⟨b, off + 4, none⟩) x ((r.drop 4).take x) := by
             have h1 := isB_sub (HI.out.later HB.out) 4 (m - 4) (by omega)
             rw [List.take_of_length_le (by simp; omega)] at h1
             exact h1.front x (by omega)
           by_cases hxm : x = m - 4
           · have NI : Hid (IsB w (some ⟨b, off + 4, none⟩) 0 ((r.drop 4).drop x)) := by
               have : (r.drop 4).drop x = [] := List.eq_nil_of_length_eq_zero (by simp; omega)
               rw [this]; exact ⟨rfl, by decide, fun h => absurd h (by omega), fun i => by simp⟩
             have c1 : (m - 4 : Nat) = x := hxm.symm
             have HXM := hid hxm
             clear hxm
             have c2 : ¬ m = 4 := hm4
             have c3 : m - 4 - x = 0 := by omega

             have CI := hid (CI0)
             go_wp2_with (first
               | (at_builtin; (refine wpList_append_own _ rfl _ _ 152 rfl w.heap.size 37 i0 (.slice none 0 0) 1 24 Tryz.underlying152 hi hz0 hz1 hz2 rfl (by decide) _ _ _ rfl (P1.alloc _) ⟨w5.heap.size, 0, none⟩ 1 1 [.slice ua ul uc] rfl rfl (cell_one_new _ _ _) (fun y hy => by simp at hy; subst hy; rfl) (by unfold maxLen; omega) (by omega) (by simp; omega) ?_; intro v9 w9 hown9 hgrow9 hnil9))
               | (go_at_call 125; refine (clone8_c (some ⟨b, off + 4, none⟩) x _ _ _ CI.out (fun e => by cases e) (by omega)).mono ?_; rintro e w5 ⟨u, rfl, hu5, hb5⟩; obtain ⟨ul, hul⟩ : ∃ ul, ul = ((r.drop 4).take x).length := ⟨_, rfl⟩; rw [← hul] at hu5; (have HUL := hid hul); clear hul; obtain ⟨ua, uc, rfl⟩ := own_shape6 hu5; obtain ⟨vals, P1, P2⟩ := HP.out.later hb5; (have HZ5 : w.heap.size ≤ w5.heap.size := Nat.le_trans HB.out.size hb5.size))
               | (go_at_call 283; refine RN.out.mono ?_; rintro e w' ⟨rfl, rfl⟩))
             have hul := HUL.out
             clear HUL
             subst hul
             have hu6 := own_base hu5 HB.out.size
             have P9 := PG.snoc (w := w5.alloc (.cells #[.slice ua _ uc] 37)) (P1.alloc _) (fun i hi => by obtain ⟨u, e1, e2, e3⟩ := P2 i hi; exact ⟨u, e1, e2.alloc _, e3⟩) (hu6.alloc _) (Jo.bytes_take (Jo.bytes_drop HY.out 4) _) hgrow9 hown9
             have B9 : Below w.heap.size w w9 := below_grown ((HB.out.trans (hb5.mono HB.out.size)).alloc HZ5 _) (P1.alloc _) (Nat.le_refl _) (by simp; omega) hgrow9
             obtain ⟨a9, c9, rfl⟩ := own_shape6 hown9
             go_roundw
             case rel => exact ⟨k + 1, (r.drop 4).drop x, some ⟨b, off + 4, none⟩, _, _, by omega, by go_num, rfl, NI.out, (fun e => by cases e), by omega, Jo.bytes_drop (Jo.bytes_drop HY.out _) _, HS.out, P9, B9⟩
             case measure => simp [intOf]; omega
           · have NI : Hid (IsB w (some ⟨b, off + 4 + x, none⟩) (m - 4 - x) ((r.drop 4).drop x)) := by
               have h1 := isB_sub HI.out (4 + x) (m - 4 - x) (by omega)
               rw [List.take_of_length_le (by simp; omega), ← List.drop_drop] at h1
               rw [show off + 4 + x = off + (4 + x) by omega]
               exact h1
             have c2 : ¬ m = 4 := hm4
             have c1 : ¬ (m - 4 : Nat) = x := fun e => hxm e.symm

             have CI := hid (CI0)
             go_wp2_with (first
               | (at_builtin; (refine wpList_append_own _ rfl _ _ 152 rfl w.heap.size 37 i0 (.slice none 0 0) 1 24 Tryz.underlying152 hi hz0 hz1 hz2 rfl (by decide) _ _ _ rfl (P1.alloc _) ⟨w5.heap.size, 0, none⟩ 1 1 [.slice ua ul uc] rfl rfl (cell_one_new _ _ _) (fun y hy => by simp at hy; subst hy; rfl) (by unfold maxLen; omega) (by omega) (by simp; omega) ?_; intro v9 w9 hown9 hgrow9 hnil9))
               | (go_at_call 125; refine (clone8_c (some ⟨b, off + 4, none⟩) x _ _ _ CI.out (fun e => by cases e) (by omega)).mono ?_; rintro e w5 ⟨u, rfl, hu5, hb5⟩; obtain ⟨ul, hul⟩ : ∃ ul, ul = ((r.drop 4).take x).length := ⟨_, rfl⟩; rw [← hul] at hu5; (have HUL := hid hul); clear hul; obtain ⟨ua, uc, rfl⟩ := own_shape6 hu5; obtain ⟨vals, P1, P2⟩ := HP.out.later hb5; (have HZ5 : w.heap.size ≤ w5.heap.size := Nat.le_trans HB.out.size hb5.size))
               | (go_at_call 283; refine RN.out.mono ?_; rintro e w' ⟨rfl, rfl⟩))
             have hul := HUL.out
             clear HUL
             subst hul
             have hu6 := own_base hu5 HB.out.size
             have P9 := PG.snoc (w := w5.alloc (.cells #[.slice ua _ uc] 37)) (P1.alloc _) (fun i hi => by obtain ⟨u, e1, e2, e3⟩ := P2 i hi; exact ⟨u, e1, e2.alloc _, e3⟩) (hu6.alloc _) (Jo.bytes_take (Jo.bytes_drop HY.out 4) _) hgrow9 hown9
             have B9 : Below w.heap.size w w9 := below_grown ((HB.out.trans (hb5.mono HB.out.size)).alloc HZ5 _) (P1.alloc _) (Nat.le_refl _) (by simp; omega) hgrow9
             obtain ⟨a9, c9, rfl⟩ := own_shape6 hown9
             go_roundw
             case rel => exact ⟨k + 1, (r.drop 4).drop x, some ⟨b, off + 4 + x, none⟩, _, _, by omega, by go_num, rfl, NI.out, (fun e => by cases e), by omega, Jo.bytes_drop (Jo.bytes_drop HY.out _) _, HS.out, P9, B9⟩
             case measure => simp [intOf]; omega
   · have ek : k = cnt := by omega
     subst ek
     have E := HR.out.last
     rw [hrl] at E
     obtain ⟨ga, gc', e1, hG⟩ := HP.out.isG0 (by rw [HR.out.1]; omega)
     have EG := hid e1
     clear e1
     by_cases h0 : m = 0
     · rw [if_pos h0] at E
       have E' := hid E
       have h0' : ((m : Int) == 0) = true := by simp; omega
       clear E
       go_wp2
       go_ret2
       exact ⟨⟨_, _, rfl, .inl ⟨gs, E'.out, by simp [h0], HP.out⟩⟩, HB.out⟩
     · rw [if_neg h0] at E
       have E' := hid E
       have h0' : ((m : Int) == 0) = false := by simp; omega
       clear E
       go_wp2
       go_ret2
       exact ⟨⟨_, _, rfl, .inr ⟨E'.out, by simp [h0]⟩⟩, HB.out⟩
def GroupPost (t n : Int) (ss : List (List Int)) (w : World) (e : Ending) (w' : World) : Prop :=
 ((∃ g v, Jo.readF t n ss = some g ∧ e = .returned (.tuple #[v, .int .i64 (Jo.needF g : Nat), .bool true]) ∧ PG w.heap.size w' v g) ∨ (Jo.readF t n ss = none ∧ e = .returned (.tuple #[.slice none 0 0, .int .i64 0, .bool false]))) ∧ Below w.heap.size w w'
theorem at4_bd {s : List Int} (h : Jo.Bytes s) (i : Nat) : 0 ≤ Fr.at4 s i ∧ Fr.at4 s i < 4294967296 := by
 have h0 := Jo.bytes_getD h i
 have h1 := Jo.bytes_getD h (i + 1)
 have h2 := Jo.bytes_getD h (i + 2)
 have h3 := Jo.bytes_getD h (i + 3)
 exact Fr.num4_lt _ _ _ _ (by omega) (by omega) (by omega) (by omega)
theorem PG.base {B B' : Nat} {w : World} {v : Value} {gs : Jo.Gr} (h : PG B w v gs) (hB : B' ≤ B) : PG B' w v gs := by
 obtain ⟨vals, h1, h2⟩ := h
 refine ⟨vals, own_base h1 hB, fun i hi => ?_⟩
 obtain ⟨u, e1, e2, e3⟩ := h2 i hi
 exact ⟨u, e1, own_base e2 hB, e3⟩
theorem qneqI {o : Oper} {a : Act} {C : World → Prop} {w : World} (x y : Operand) (t : TypeId) (m n : Nat) (hop : o.op = .binOp .neq 3 x y t) (hx : a.eval x = .int .i64 m) (hy : a.eval y = .int .i64 n) (hb : ((m : Int) != (n : Int)) = true) (hC : C w) : o.quietAt Tryz.prog a C w (.bool true) := by
 unfold Oper.quietAt
 simp only [execOp, hop, hx, hy]
 rw [← hb]
 simp [go_sem, Result.andThen, hC, eqGuard]
theorem mem_isB {w : World} {a : Option Addr} {len : Nat} {zs : List Int} (h : IsB w a len zs) : ∀ x ∈ zs, 0 ≤ x ∧ x ≤ 255 := by
 intro x hx
 obtain ⟨i, hi, rfl⟩ := List.getElem_of_mem hx
 have := h.2.2.2 i
 simpa [List.getD, hi] using this
set_option maxHeartbeats 400000 in
theorem readGroup_none (a : Option Addr) (cap : Nat) (t n : Int) (w : World) :
   Calls Tryz.prog 221 #[.slice a 0 cap, .int .u32 t, .int .u32 n] w (GroupPost t n [] w) := by
 go_enter Tryz.func221, Tryz.ntmps221
 go_wp2
 refine bodyPost_ret (v := .tuple #[.slice none 0 0, .int .i64 0, .bool false]) (by simp [results, Tryz.results221, go_sem]) rfl ⟨.inr ⟨rfl, rfl⟩, Below.refl _ _⟩
set_option maxRecDepth 20000 in
set_option maxHeartbeats 4000000 in
theorem readGroup_some (b off N cap : Nat) (t n : Int) (s : List Int) (r : List (List Int)) (w : World) (h : IsSS w (some ⟨b, off, none⟩) N (s :: r)) (hc : N ≤ cap) (hN : N ≤ 2048) (ht : 0 ≤ t ∧ t < 4294967296) (hn : 0 ≤ n ∧ n < 4294967296) :
   Calls Tryz.prog 221 #[.slice (some ⟨b, off, none⟩) N cap, .int .u32 t, .int .u32 n] w (GroupPost t n (s :: r) w) := by
 have hlen := h.1
 simp only [List.length_cons] at hlen
 obtain ⟨r1, s1⟩ := h.at 0 (by omega)
 simp only [List.getD_cons_zero, Nat.zero_mul, Nat.add_zero] at r1 s1
 have hi1 : (Tryz.prog.info? 260).map (·.size) = some (s.map by8).length := by rw [sizeS]; simp [s1.1]
 have hx1 : Bx (w.alloc (.cells (s.map by8).toArray 260)) w.heap.size 260 s := heap_alloc_new w _
 have hB1 : Below w.heap.size w (w.alloc (.cells (s.map by8).toArray 260)) := (Below.refl _ _).alloc (Nat.le_refl _) _
 have hI1 := bx_isB hx1 s1.2 10 4 (by rw [s1.1]; omega) (by decide)
 have RN := readNumber_c _ 4 _ _ hI1
 rw [at4_drop] at RN
 have hbd := at4_bd s1.2 10
 obtain ⟨len, hle⟩ : ∃ len : Nat, Fr.at4 s 10 = len := ⟨(Fr.at4 s 10).toNat, by omega⟩
 rw [hle] at RN hbd
 have hlt' : (Fr.at4 s 10).toNat = len := by omega
 have zz := zlit
 have hs32 := s1.1
 have HRN := hid RN
 have H := hid h
 have hN1 : ¬ ((N : Int) == 0) = true := by simp; omega
 have hN0 : ¬ (N : Int) = 0 := by omega
 clear RN h hI1
 by_cases hbig : 131104 < len
 · have E : Hid (Jo.readF t n (s :: r) = none) := by
     show _ = _
     unfold Jo.readF
     simp only [hle]
     rw [if_pos (.inl (by omega))]
   have hbig' : (131104 : Int) < len := by omega
   go_enter Tryz.func221, Tryz.ntmps221
   go_wp2_with (first
     | (go_at_call 283; refine HRN.out.mono ?_; rintro e w' ⟨rfl, rfl⟩)
     | (go_at_call 250; refine (field_c w.heap.size 10 _ (by omega)).mono ?_; rintro e w' ⟨rfl, rfl⟩)
     | (refine wpList_load_mid rfl _ _ rfl b off rfl (s.map by8) _ r1 Tryz.underlying260 rfl hi1 ?_)
     | (refine wpList_storeS _ rfl _ _ _ rfl sizeS _ rfl (by simp) s rfl hs32 _ (by simp; decide) ?_))
   exact bodyPost_ret (v := .tuple #[.slice none 0 0, .int .i64 0, .bool false]) (by simp [results, Tryz.results221, go_sem]) rfl ⟨.inr ⟨E.out, rfl⟩, hB1⟩
 · have hbig' : ¬ (131104 : Int) < len := by omega
   have hsec : Jo.secsOf len ≤ 5000 := by unfold Jo.secsOf Jo.many; omega
   have hsec2 : 2 ≤ Jo.secsOf len := by unfold Jo.secsOf; omega
   by_cases hfit : N < Jo.secsOf len
   · have E : Hid (Jo.readF t n (s :: r) = none) := by
       show _ = _
       unfold Jo.readF
       simp only [hlt', List.length_cons, hlen]
       rw [if_pos (.inr (by omega))]
     have SO := hid (sectorsOf_c len (w.alloc (.cells (s.map by8).toArray 260)) (by omega))
     generalize Jo.secsOf len = sz at *
     have hfit' : (N : Int) < sz := by omega
     go_enter Tryz.func221, Tryz.ntmps221
     go_wp2_with (first
       | (go_at_call 248; refine SO.out.mono ?_; rintro e w' ⟨rfl, rfl⟩)
       | (go_at_call 283; refine HRN.out.mono ?_; rintro e w' ⟨rfl, rfl⟩)
       | (go_at_call 250; refine (field_c w.heap.size 10 _ (by omega)).mono ?_; rintro e w' ⟨rfl, rfl⟩)
       | (refine wpList_load_mid rfl _ _ rfl b off rfl (s.map by8) _ r1 Tryz.underlying260 rfl hi1 ?_)
       | (refine wpList_storeS _ rfl _ _ _ rfl sizeS _ rfl (by simp) s rfl hs32 _ (by simp; decide) ?_))
     exact bodyPost_ret (v := .tuple #[.slice none 0 0, .int .i64 0, .bool false]) (by simp [results, Tryz.results221, go_sem]) rfl ⟨.inr ⟨E.out, rfl⟩, hB1⟩
   · have hml := Jo.many_le len
     have hsz : Jo.secsOf len = Jo.many len + 2 := by unfold Jo.secsOf; omega
     obtain ⟨cnt, hcnt⟩ : ∃ cnt : Nat, s.getD 9 0 = cnt := ⟨(s.getD 9 0).toNat, by have := Jo.bytes_getD s1.2 9; omega⟩
     have hcb : cnt < 256 := by have := Jo.bytes_getD s1.2 9; omega
     have c9 := bx_cell hx1 9 (by rw [s1.1]; omega)
     rw [hcnt] at c9
     have hSS := (H.out.later hB1).sub 1 (Jo.many len) (by omega)
     have hSZ := (H.out.later hB1).sub 0 (Jo.many len + 2) (by omega)
     rw [List.drop_zero, Nat.zero_mul, Nat.add_zero] at hSZ
     have hRF : Jo.readF t n (s :: r) = (match Jo.partsF cnt (Jo.readL (((s :: r).drop 1).take (Jo.many len)) len) with
         | none => none
         | some g => if Jo.needF g = Jo.many len + 2 ∧ Jo.laid g t n = (s :: r).take (Jo.many len + 2) then some g else none) := by
       unfold Jo.readF
       simp only [hlt', hcnt, hsz, List.length_cons, hlen, Int.toNat_natCast]
       rw [if_neg (by rw [hle]; omega), show Jo.many len + 2 - 1 = Jo.many len + 1 by omega, List.drop_take, show Jo.many len + 1 - 1 = Jo.many len by omega]
       cases Jo.partsF cnt (Jo.readL (((s :: r).drop 1).take (Jo.many len)) len) <;> rfl
     have SO := hid (sectorsOf_c len (w.alloc (.cells (s.map by8).toArray 260)) (by omega))
     rw [hsz] at SO
     have HF := hid hRF
     have HSS := hid hSS
     have HSZ := hid hSZ
     clear hRF hSS hSZ hsz hsec hsec2
     generalize (((s :: r).drop 1).take (Jo.many len)) = mid at *
     generalize ((s :: r).take (Jo.many len + 2)) = fst at *
     have hfit2 : Jo.many len + 2 ≤ N := by have := hfit; unfold Jo.secsOf at this; omega
     clear hfit
     generalize Jo.many len = q at *
     obtain ⟨sz, hsz⟩ : ∃ sz, sz = q + 2 := ⟨_, rfl⟩
     have HSQ := hid hsz
     rw [← hsz] at SO HF HSZ hfit2
     have p0 : ¬ (N : Int) < (sz : Int) := by omega
     have p1 : (sz : Int) ≤ N := by omega
     have p2 : (sz : Int) - 1 ≤ cap := by omega
     have p3 : (1 : Int) ≤ (sz : Int) - 1 := by omega
     have p4 : (sz : Int) ≤ cap := by omega
     have p5 : sz - 1 - 1 = q := by omega
     have pwl : IntKind.i64.wrap (len : Int) = len := by rw [M.wrap_i64]; unfold wrap64; omega
     have pwc : IntKind.i64.wrap (cnt : Int) = cnt := by rw [M.wrap_i64]; unfold wrap64; omega
     have p6 : ¬ cap = 1 := by omega
     have p7 : (0 : Int) ≤ (sz : Int) := by omega
     have pw : IntKind.i64.wrap ((sz : Int) - 1) = (sz : Int) - 1 := by rw [M.wrap_i64]; unfold wrap64; omega
     clear hsz
     generalize hW1 : (w.alloc (.cells (s.map by8).toArray 260)) = W1 at *
     have hz1 : W1.heap.size = w.heap.size + 1 := by rw [← hW1]; simp
     go_enter Tryz.func221, Tryz.ntmps221
     go_wp2_with (first
       | (go_at_call 248; refine SO.out.mono ?_; rintro e w' ⟨rfl, rfl⟩)
       | (go_at_call 283; refine HRN.out.mono ?_; rintro e w' ⟨rfl, rfl⟩)
       | (go_at_call 250; refine (field_c w.heap.size 10 _ (by omega)).mono ?_; rintro e w' ⟨rfl, rfl⟩)
       | (refine wpList_load_mid rfl _ _ rfl b off rfl (s.map by8) _ r1 Tryz.underlying260 rfl hi1 ?_)
       | (refine wpList_storeS _ rfl _ _ _ rfl sizeS _ rfl (by simp) s rfl hs32 _ (by simp; decide) ?_; rw [hW1]))
     go_region_held3 (fun w' => w'.cell? ⟨w.heap.size, 9, none⟩ = some (.int .u8 cnt)) (first | exact K3 | exact K2 | go_keep)
       (first
         | (go_at_call 284; refine (partsOfJ_c la len cnt _ _ hI2 hn2 hcb (by omega)).mono ?_; rintro e w3 ⟨⟨v, ok, rfl, hcase⟩, hb3⟩; (have K3 : w3.cell? ⟨w.heap.size, 9, none⟩ = some (.int .u8 cnt) := cell_later hb3 K2); (have B3 : Below w'.heap.size w' w3 := ((Below.refl _ w').drew.trans hb2).trans (hb3.mono hb2.size)))
         | (go_at_call 285; refine (readLoad_c (some ⟨b, off + 32, none⟩) q _ len mid _ (by exact HSS.out) (by omega) (by omega)).mono ?_; rintro e w2 ⟨la, rfl, hI2, hn2, hb2⟩; (have K2 : w2.cell? ⟨w.heap.size, 9, none⟩ = some (.int .u8 cnt) := cell_later hb2 c9)))
     have hbw : Below w.heap.size w w3 := hB1.trans (B3.mono (by omega))
     have hSZ3 := hid (HSZ.out.later B3)
     have hw2 : w.heap.size ≤ w2.heap.size := Nat.le_trans hB1.size hb2.size
     rcases hcase with ⟨g, hpg, rfl, hPG⟩ | ⟨hpg, rfl⟩
     · rw [hpg] at HF
       have HPG := hid (hPG.base hw2)
       obtain ⟨ga, gc, rfl, hG⟩ := hPG.isG0 (by have := (Jo.parts_bytes _ _ _ hpg (fun x hx => by have := mem_isB hI2 x hx; omega)).2; omega)
       have HG := hid hG
       clear hPG hG hpg hI2
       by_cases hne : Jo.needF g = sz
       · have hok := (Jo.need_pos (g := g) (by rw [hne]; have := HSQ.out; omega)).1
         have hlaid := Jo.laid_len g t n
         have hnl := Jo.need_ok hok
         have hl3 : (Jo.laid g t n).length = sz := by rw [hlaid, ← hnl, hne]
         have hsct := Jo.laid_sct HG.out.isG.bytes (Jo.ok_iff.1 hok).2.1 t n
         have HNE := hid hne
         have hne' : ((Jo.needF g : Nat) : Int) = (sz : Int) := by rw [hne]
         have NC := hid (needs_c ga g.length gc g w3.drew HG.out.isG)
         rw [hne] at NC
         have HN2 := HSQ.out
         simp only [hne, true_and] at HF
         cases hEq : (Jo.laid g t n == fst) with
         | true =>
           have hEq' : Jo.laid g t n = fst := by simpa using hEq
           rw [if_pos hEq'] at HF
           have HE := hid hEq
           have hsz3 : sz ≤ 100000 := by omega
           have hszp : 0 < sz := by omega
           have GS := hid (groupSectors_c ga g.length gc g t n w3.drew HG.out hok ht hn)
           have HSC := hid hsct
           have HL3 := hid hl3
           have HF2 := hid HF
           have HNE2 := hid hne'
           clear hEq hEq' HF hl3 hlaid hnl hsct hne hok HN2 hne'
           go_wp2_with fail
           go_region_held3 (fun w' => True) (trivial) (first
             | (go_at_call 286; refine (equal_c sb so sz scap b off sz cap (Jo.laid g t n) fst _ hS5 (hSZ3.out.later hB5)).mono ?_; rw [HE.out]; rintro e w6 ⟨rfl, hb6⟩)
             | (go_at_call 202; refine GS.out.mono ?_; rintro e w5 ⟨v5, rfl, hown5, hb5⟩; obtain ⟨sa, scap, hv5, hS5, hsc5, hin5⟩ := own_isSS hown5 HSC.out (by rw [HL3.out]; exact hsz3); rw [HL3.out] at hv5 hS5; subst hv5; obtain ⟨sb, so, rfl, _⟩ := hS5.2.2.2 hszp; (have hB5 : Below w3.heap.size w3 w5 := ((Below.refl _ w3).drew).trans hb5); clear hown5 hsc5 hin5)
             | (go_at_call 199; refine NC.out.mono ?_; rintro e w4 ⟨rfl, rfl⟩))
           go_wp2
           have hB6 := hB5.trans (hb6.mono hB5.size)
           exact bodyPost_ret (v := .tuple #[.slice ga g.length gc, .int .i64 sz, .bool true]) (by simp [results, Tryz.results221, go_sem]) rfl ⟨.inl ⟨g, _, HF2.out.out, by rw [HNE.out], HPG.out.later hB6⟩, hbw.trans (hB6.mono hbw.size)⟩
         | false =>
           have hEq' : ¬ Jo.laid g t n = fst := by simpa using hEq
           rw [if_neg hEq'] at HF
           have HE := hid hEq
           have hsz3 : sz ≤ 100000 := by omega
           have hszp : 0 < sz := by omega
           have GS := hid (groupSectors_c ga g.length gc g t n w3.drew HG.out hok ht hn)
           have HSC := hid hsct
           have HL3 := hid hl3
           have HF2 := hid HF
           have HNE2 := hid hne'
           clear hEq hEq' HF hl3 hlaid hnl hsct hne hok HN2 hne'
           go_wp2_with fail
           go_region_held3 (fun w' => True) (trivial) (first
             | (go_at_call 286; refine (equal_c sb so sz scap b off sz cap (Jo.laid g t n) fst _ hS5 (hSZ3.out.later hB5)).mono ?_; rw [HE.out]; rintro e w6 ⟨rfl, hb6⟩)
             | (go_at_call 202; refine GS.out.mono ?_; rintro e w5 ⟨v5, rfl, hown5, hb5⟩; obtain ⟨sa, scap, hv5, hS5, hsc5, hin5⟩ := own_isSS hown5 HSC.out (by rw [HL3.out]; exact hsz3); rw [HL3.out] at hv5 hS5; subst hv5; obtain ⟨sb, so, rfl, _⟩ := hS5.2.2.2 hszp; (have hB5 : Below w3.heap.size w3 w5 := ((Below.refl _ w3).drew).trans hb5); clear hown5 hsc5 hin5)
             | (go_at_call 199; refine NC.out.mono ?_; rintro e w4 ⟨rfl, rfl⟩))
           go_wp2
           have hB6 := hB5.trans (hb6.mono hB5.size)
           exact bodyPost_ret (v := .tuple #[.slice none 0 0, .int .i64 0, .bool false]) (by simp [results, Tryz.results221, go_sem]) rfl ⟨.inr ⟨HF2.out.out, rfl⟩, hbw.trans (hB6.mono hbw.size)⟩
       · have hE : Hid (Jo.readF t n (s :: r) = none) := by
           have := HF.out
           simp only [hne, false_and, if_false] at this
           exact this
         have NC : Hid (∀ w1, Below w3.heap.size w3 w1 → Calls Tryz.prog 199 #[.slice ga g.length gc] w1 fun e w' => e = .returned (.int .i64 (Jo.needF g : Nat)) ∧ w' = w1) := fun w1 hw1 => needs_c ga g.length gc g w1 (HG.out.later hw1).isG
         have hne' : ((Jo.needF g : Nat) : Int) ≠ (sz : Int) := by omega
         generalize Jo.needF g = ng at *
         have hne2 : ((ng : Int) == (sz : Int)) = false := by simp; omega
         have hne3 : ¬ ng = sz := hne
         have hdn : ((ng : Int) != (sz : Int)) = true := by simp; omega
         clear HF
         obtain ⟨bb, hbb⟩ : ∃ bb : Bool, bb = ((ng : Int) != (sz : Int)) := ⟨_, rfl⟩
         have hbt : bb = true := by rw [hbb]; exact hdn
         have HBB := hid hbb
         clear hdn hne2 hne3 hne' hne hbb
         go_wp2_with fail
         refine wp_region_class (by kernel_rfl) (by kernel_rfl) ?_
         repeat (first
           | go_big_quiet_skip
           | (go_big_quiet_want
              apply quiet_by (v := .bool true)
              · intro w1 hw1
                exact qneqI _ _ _ ng sz rfl rfl rfl (HBB.out ▸ hbt) hw1
              · go_simp; rfl
              go_big_quiet_on)
           | (go_big_quiet_want
              apply quiet_by
              · intro w1 hw1
                go_simp
                first
                  | rfl
                  | (go_at_call 199; exact class_same hw1 (NC.out w1 hw1))
              · go_simp; rfl
              go_big_quiet_on))
         refine wpQuiet_nil ?_
         intro w12 hw12
         go_wp2
         exact bodyPost_ret (v := .tuple #[.slice none 0 0, .int .i64 0, .bool false]) (by simp [results, Tryz.results221, go_sem]) rfl ⟨.inr ⟨hE.out, rfl⟩, hbw.trans (hw12.mono hbw.size)⟩
     · rw [hpg] at HF
       have HF' : Hid (Jo.readF t n (s :: r) = none) := HF.out
       clear hpg HF
       go_wp2_with fail
       refine wp_region_class (by kernel_rfl) (by kernel_rfl) ?_
       repeat (first
         | go_big_quiet_skip
         | (go_big_quiet_want
            apply quiet_by
            · intro w1 hw1
              go_simp
              rfl
            · go_simp; rfl
            go_big_quiet_on))
       refine wpQuiet_nil ?_
       intro w12 hw12
       go_wp2
       exact bodyPost_ret (v := .tuple #[.slice none 0 0, .int .i64 0, .bool false]) (by simp [results, Tryz.results221, go_sem]) rfl ⟨.inr ⟨HF'.out, rfl⟩, hbw.trans (hw12.mono hbw.size)⟩
end Go.Proofs.YtfmghbennahlfaaGreat
