/-
  firstByte, Unquote of the package tell.
-/
import Derived.Test.YtkokjkaclcjnjaaGreatDoorPtBm
import Derived.BigQuiet
import Derived.Deep.QuietTactic
namespace Go.Proofs.YtkokjkaclcjnjaaGreatDoor
open Go.RowKit Go.ChangeShapes Go.WideShapes Go.ChangeAt
set_option linter.unusedVariables false
set_option linter.unusedSimpArgs false
set_option maxRecDepth 100000
def hexI (c : UInt8) : Int := Lib.indexByte hexL c
def escF : List UInt8 → UInt8 × Nat × Bool
 | x :: y :: _ => if hexI x < 0 ∨ hexI y < 0 then (0, 0, false) else (UInt8.ofNat ((hexI x).toNat * 16 + (hexI y).toNat), 3, !plnI (UInt8.ofNat ((hexI x).toNat * 16 + (hexI y).toNat)).toNat)
 | _ => (0, 0, false)
def firstF : List UInt8 → UInt8 × Nat × Bool
 | [] => (0, 0, false)
 | a :: t => if a = 92 then escF t else (a, 1, plnI a.toNat)
theorem firstF_cons (a : UInt8) (t : List UInt8) : firstF (a :: t) = if a = 92 then escF t else (a, 1, plnI a.toNat) := rfl
theorem escF_two (x y : UInt8) (t : List UInt8) : escF (x :: y :: t) = if hexI x < 0 ∨ hexI y < 0 then (0, 0, false) else (UInt8.ofNat ((hexI x).toNat * 16 + (hexI y).toNat), 3, !plnI (UInt8.ofNat ((hexI x).toNat * 16 + (hexI y).toNat)).toNat) := rfl
def unqN : Nat → List UInt8 → Option (List UInt8)
 | 0, r => if r = [] then some [] else none
 | n + 1, r => if r = [] then some [] else if (firstF r).2.2 = true then (unqN n (r.drop (firstF r).2.1)).map ((firstF r).1 :: ·) else none
def unqL (l : List UInt8) : Option (List UInt8) := if l.length < 2 ∨ l.getD 0 0 ≠ 34 ∨ l.getD (l.length - 1) 0 ≠ 34 then none else unqN l.length ((l.drop 1).take (l.length - 2))
theorem index_lt (l : List UInt8) (c : UInt8) : Lib.indexByte l c < l.length := by
 induction l with
 | nil => simp [Lib.indexByte]
 | cons b t ih =>
   unfold Lib.indexByte
   rw [List.length_cons]
   split
   · omega
   · split <;> omega
theorem hexI_lt (c : UInt8) : hexI c < 16 := index_lt hexL c
theorem or16_all : ((List.range 16).all fun a => (List.range 16).all fun b => decide (bits .or .i64 ((a : Int) * 16) (b : Int) = (a : Int) * 16 + b)) = true := by kernel_rfl
theorem or16 {a b : Nat} (ha : a < 16) (hb : b < 16) : bits .or .i64 ((a : Int) * 16) (b : Int) = (a : Int) * 16 + b := by
 have := List.all_eq_true.1 (List.all_eq_true.1 or16_all a (List.mem_range.2 ha)) b (List.mem_range.2 hb)
 simpa using this
theorem hexB_c (x : UInt8) (w : World) : Calls Tryz.prog 61 #[.string ⟨#[48, 49, 50, 51, 52, 53, 54, 55, 56, 57, 97, 98, 99, 100, 101, 102]⟩, .int .u8 (x.toNat : Int)] w fun e w' => e = .returned (.int .i64 (hexI x)) ∧ w' = w := by
 have := Tryz.strings_IndexByte ⟨#[48, 49, 50, 51, 52, 53, 54, 55, 56, 57, 97, 98, 99, 100, 101, 102]⟩ (x.toNat : Int) w
 have e : ((x.toNat : Int)).toNat.toUInt8 = x := by simp
 rw [e] at this
 exact this
def FbP (r : UInt8 × Nat × Bool) (w : World) (e : Ending) (w' : World) : Prop := e = .returned (.tuple #[.int .u8 (r.1.toNat : Int), .int .i64 (r.2.1 : Int), .bool r.2.2]) ∧ Below w.heap.size w w'
set_option maxHeartbeats 4000000 in
theorem firstByte_c (s : ByteArray) (w : World) (hs : 0 < s.size) (hm : s.size ≤ 100000000) :
   Calls Tryz.prog 40 #[.string s] w (FbP (firstF s.data.toList) w) := by
 obtain ⟨r, hr⟩ : ∃ r, r = firstF s.data.toList := ⟨_, rfl⟩
 rw [← hr]
 have hsl : s.data.toList.length = s.size := rfl
 obtain ⟨a, t, hat⟩ : ∃ a t, s.data.toList = a :: t := by
   cases h : s.data.toList with
   | nil => rw [h] at hsl; simp at hsl; omega
   | cons a t => exact ⟨a, t, rfl⟩
 have e0 : s[0]'hs = a := by
   have : s.data.toList[0]'hs = a := by simp [hat]
   exact this
 rw [hat] at hr hsl
 rw [firstF_cons] at hr
 have HR := hid hr
 clear hr
 by_cases h92 : a = 92
 · have b92 : ((a.toNat : Int) != 92) = false := by rw [h92]; rfl
   have HR2 := HR.out
   rw [if_pos h92] at HR2
   by_cases h3 : s.size < 3
   · have h3I : (s.size : Int) < 3 := by omega
     have RE : Hid (r = (0, 0, false)) := hid (by
       rw [HR2]
       match t, hsl with
       | [], _ => rfl
       | [x], _ => rfl
       | x :: y :: t', h => simp at h; omega)
     clear HR HR2 hat hsl
     go_enter Tryz.func40, Tryz.ntmps40
     go_wp2
     refine bodyPost_ret (v := .tuple #[.int .u8 0, .int .i64 0, .bool false]) (by simp [results, Tryz.results40, go_sem]) rfl ⟨by rw [RE.out]; rfl, Below.refl _ _⟩
   · have h3I : ¬ (s.size : Int) < 3 := by omega
     obtain ⟨x, y, t', rfl⟩ : ∃ x y t', t = x :: y :: t' := by
       match t, hsl with
       | [], h => simp at h; omega
       | [x], h => simp at h; omega
       | x :: y :: t', _ => exact ⟨x, y, t', rfl⟩
     have g1 : 1 < s.size := by omega
     have g2 : 2 < s.size := by omega
     have e1 : s[1]'g1 = x := by
       have h : s.data.toList[1]? = some x := by rw [hat]; rfl
       have h' : s.data.toList[1]? = some (s[1]'g1) := by rw [List.getElem?_eq_getElem (by show 1 < s.size; omega)]; rfl
       exact Option.some.inj (h'.symm.trans h)
     have e2 : s[2]'g2 = y := by
       have h : s.data.toList[2]? = some y := by rw [hat]; rfl
       have h' : s.data.toList[2]? = some (s[2]'g2) := by rw [List.getElem?_eq_getElem (by show 2 < s.size; omega)]; rfl
       exact Option.some.inj (h'.symm.trans h)
     rw [escF_two] at HR2
     have HX := hid HR2
     have IX := hid (fun W => hexB_c x W)
     have IY := hid (fun W => hexB_c y W)
     have hx16 := hexI_lt x
     have hy16 := hexI_lt y
     clear HR HR2 hat hsl
     generalize hexI x = p at *
     generalize hexI y = q at *
     have q1 : (1 : Int) < s.size := by omega
     have q2 : (2 : Int) < s.size := by omega
     go_enter Tryz.func40, Tryz.ntmps40
     go_upto_region 5 with fail
     go_wp2_with fail
     go_quiet (first
       | (go_at_call 61; exact Calls.quiet_of_same (IX.out _))
       | (go_at_call 61; exact Calls.quiet_of_same (IY.out _)))
     have HB : Hid (Below w.heap.size w (w.drewN nq)) := hid ⟨rfl, rfl, rfl, Nat.le_refl _, fun _ _ => rfl⟩
     generalize w.drewN nq = W at *
     by_cases hp : p < 0
     · have RE : Hid (r = (0, 0, false)) := hid (by rw [HX.out, if_pos (.inl hp)])
       go_wp2
       refine bodyPost_ret (v := .tuple #[.int .u8 0, .int .i64 0, .bool false]) (by simp [results, Tryz.results40, go_sem]) rfl ⟨by rw [RE.out]; rfl, HB.out⟩
     · by_cases hq : q < 0
       · have RE : Hid (r = (0, 0, false)) := hid (by rw [HX.out, if_pos (.inr hq)])
         go_wp2
         refine bodyPost_ret (v := .tuple #[.int .u8 0, .int .i64 0, .bool false]) (by simp [results, Tryz.results40, go_sem]) rfl ⟨by rw [RE.out]; rfl, HB.out⟩
       · obtain ⟨P, hP, hP16⟩ : ∃ P : Nat, p = P ∧ P < 16 := ⟨p.toNat, by omega, by omega⟩
         obtain ⟨Q, hQ, hQ16⟩ : ∃ Q : Nat, q = Q ∧ Q < 16 := ⟨q.toNat, by omega, by omega⟩
         obtain ⟨b, hb⟩ : ∃ b, b = UInt8.ofNat (P * 16 + Q) := ⟨_, rfl⟩
         have hbn : b.toNat = P * 16 + Q := by rw [hb]; simp; omega
         have RE : Hid (r = (b, 3, !plnI b.toNat)) := hid (by rw [HX.out, if_neg (by omega), hP, hQ, hb]; rfl)
         have hor := or16 hP16 hQ16
         have hbI : (P : Int) * 16 + Q = (b.toNat : Int) := by omega
         rw [hbI] at hor
         have b255 : (b.toNat : Int) < 256 := by have := b.toNat_lt; omega
         subst hP
         subst hQ
         clear hb HX hbI hbn
         have IP := hid (fun W => isPlain_c b.toNat W)
         go_wp2_with (go_at_call 42; refine (IP.out _).mono ?_; rintro _ w3 ⟨rfl, h3⟩; rw [h3]; clear h3)
         refine bodyPost_ret (v := .tuple #[.int .u8 (b.toNat : Int), .int .i64 3, .bool (!plnI b.toNat)]) (by simp [results, Tryz.results40, go_sem]) rfl ⟨by rw [RE.out]; rfl, HB.out⟩
 · have b92 : ((a.toNat : Int) != 92) = true := by
     rw [bne_iff_ne]
     intro h
     exact h92 (UInt8.toNat_inj.1 (by show a.toNat = 92; omega))
   have RE : Hid (r = (a, 1, plnI a.toNat)) := hid (by rw [HR.out, if_neg h92])
   have IP := hid (fun W => isPlain_c a.toNat W)
   clear HR hat hsl
   have q0 : (0 : Int) < s.size := by omega
   go_enter Tryz.func40, Tryz.ntmps40
   go_upto_region 2 with fail
   go_wp2_with fail
   go_quiet ((go_at_call 42; exact Calls.quiet_of_same (IP.out _)))
   have HB : Hid (Below w.heap.size w (w.drewN nq)) := hid ⟨rfl, rfl, rfl, Nat.le_refl _, fun _ _ => rfl⟩
   generalize w.drewN nq = W at *
   go_wp2
   refine bodyPost_ret (v := .tuple #[.int .u8 (a.toNat : Int), .int .i64 1, .bool (plnI a.toNat)]) (by simp [results, Tryz.results40, go_sem]) rfl ⟨by rw [RE.out]; rfl, HB.out⟩
theorem firstF_size {l : List UInt8} (h : (firstF l).2.2 = true) : 1 ≤ (firstF l).2.1 ∧ (firstF l).2.1 ≤ l.length := by
 match l with
 | [] => simp [firstF] at h
 | a :: t =>
   rw [firstF_cons] at h ⊢
   split
   · rename_i q
     rw [if_pos q] at h
     match t with
     | [] => simp [escF] at h
     | [x] => simp [escF] at h
     | x :: y :: t' =>
       rw [escF_two] at h ⊢
       split
       · rename_i q2
         rw [if_pos q2] at h
         cases h
       · simp
   · simp
theorem unqN_nil (n : Nat) : unqN n [] = some [] := by cases n <;> rfl
theorem unqN_step (n : Nat) {r : List UInt8} (h : r ≠ []) : unqN (n + 1) r = if (firstF r).2.2 = true then (unqN n (r.drop (firstF r).2.1)).map ((firstF r).1 :: ·) else none := by
 show (if r = [] then _ else _) = _
 rw [if_neg h]
def UqP (r : Option (List UInt8)) (w : World) (e : Ending) (w' : World) : Prop := (e = match r with
 | some l => .returned (.tuple #[.string ⟨l.toArray⟩, .int .i64 0])
 | none => .returned (.tuple #[.string ⟨#[]⟩, .int .i64 3])) ∧ Below w.heap.size w w'
theorem UqP.no {r : Option (List UInt8)} {w w' : World} (h : r = none) (hb : Below w.heap.size w w') : UqP r w (.returned (.tuple #[.string ⟨#[]⟩, .int .i64 3])) w' := ⟨by rw [h], hb⟩
theorem UqP.yes {r : Option (List UInt8)} {l : List UInt8} {w w' : World} (h : r = some l) (hb : Below w.heap.size w w') : UqP r w (.returned (.tuple #[.string ⟨l.toArray⟩, .int .i64 0])) w' := ⟨by rw [h], hb⟩
theorem get_l (s : ByteArray) {i : Nat} (h : i < s.size) : s[i]'h = s.data.toList.getD i 0 := by
 rw [List.getD, List.getElem?_eq_getElem (by exact h)]
 rfl
theorem ne34 (c : UInt8) : ((c.toNat : Int) != 34) = decide (c ≠ 34) := by
 rw [Bool.eq_iff_iff, bne_iff_ne, decide_eq_true_eq]
 constructor
 · intro h e; exact h (by rw [e]; rfl)
 · intro h e; exact h (UInt8.toNat_inj.1 (by show c.toNat = 34; omega))
set_option maxHeartbeats 4000000 in
theorem unquote_c (s : ByteArray) (w : World) (hm : s.size ≤ 100000000) :
   Calls Tryz.prog 19 #[.string s] w (UqP (unqL s.data.toList) w) := by
 obtain ⟨R, hR⟩ : ∃ R, R = unqL s.data.toList := ⟨_, rfl⟩
 rw [← hR]
 have hsl : s.data.toList.length = s.size := rfl
 unfold unqL at hR
 rw [hsl] at hR
 have HR := hid hR
 clear hR
 by_cases h2 : s.size < 2
 · have h2I : (s.size : Int) < 2 := by omega
   have RE : Hid (R = none) := hid (by rw [HR.out, if_pos (.inl h2)])
   go_enter Tryz.func19, Tryz.ntmps19
   go_wp2
   refine bodyPost_ret (v := .tuple #[.string ⟨#[]⟩, .int .i64 3]) (by simp [results, Tryz.results19, go_sem]) rfl (UqP.no RE.out (Below.refl _ _))
 · have h2I : ¬ (s.size : Int) < 2 := by omega
   have g0 : 0 < s.size := by omega
   have gl : s.size - 1 < s.size := by omega
   have gI : (s.size : Int) - 1 = ((s.size - 1 : Nat) : Int) := by omega
   have gI2 : (0 : Int) < s.size := by omega
   have gI3 : ((s.size - 1 : Nat) : Int) < s.size := by omega
   by_cases hf : s[0]'g0 = 34
   · have bf : (((s[0]'g0).toNat : Int) != 34) = false := by rw [ne34]; simp [hf]
     by_cases hl : s[s.size - 1]'gl = 34
     · have bl : (((s[s.size - 1]'gl).toNat : Int) != 34) = false := by rw [ne34]; simp [hl]
       have RE : Hid (R = unqN s.size ((s.data.toList.drop 1).take (s.size - 2))) := hid (by rw [HR.out, if_neg (by rw [← get_l s g0, ← get_l s gl]; simp [hf, hl]; omega)])
       clear HR hf hl
       go_enter Tryz.func19, Tryz.ntmps19
       have hx1 : (1 : Int) ≤ ((s.size - 1 : Nat) : Int) := by omega
       have hx2 : ((s.size - 1 : Nat) : Int) ≤ s.size := by omega
       have U0 := hid (IsBd.new w)
       have B0 := hid (below_1 w (.cells #[.pointer none, .slice none 0 0] 79))
       have M0 : Hid ((s.extract 1 (s.size - 1)).data.toList = (s.data.toList.drop 1).take (s.size - 2)) := hid (by rw [Lib.extract_data]; rfl)
       go_wp2
       go_loopg [5] s.size (fun gk v5 wr => ∃ (r : ByteArray) (l : List UInt8), v5 = .string r ∧ r.size ≤ gk ∧ r.size ≤ s.size ∧ Hid (R = (unqN gk r.data.toList).map (l ++ ·)) ∧ Hid (l.length + gk ≤ s.size) ∧ Hid (IsBd wr w.heap.size w.heap.size l) ∧ Hid (Below w.heap.size w wr))
       case atStart =>
         have hz : (s.extract 1 (s.size - 1)).size = s.size - 2 := by simp; omega
         exact ⟨_, [], rfl, by omega, by omega, hid (by rw [RE.out, M0.out]; simp), hid (by simp), U0, B0⟩
       case round =>
         clear U0 B0 M0 RE
         obtain ⟨r, l, rfl, hrg, hrs, RX, LX, UX, BX⟩ := hrel
         have hrl : r.data.toList.length = r.size := rfl
         by_cases hr0 : r.size = 0
         · have e0 : (r.toList == []) = true := by rw [Lib.toList_data, List.eq_nil_of_length_eq_zero (hrl.trans hr0)]; rfl
           have RE : Hid (R = some l) := hid (by rw [RX.out, List.eq_nil_of_length_eq_zero (hrl.trans hr0), unqN_nil]; simp)
           have BS := hid (bs_c UX.out BX.out.size)
           clear RX
           go_wp2_with (go_at_call 39; refine BS.out.mono ?_; rintro _ w3 ⟨rfl, hb3⟩; have B3 := hid (BX.out.trans hb3); clear hb3)
           refine bodyPost_ret (v := .tuple #[.string ⟨l.toArray⟩, .int .i64 0]) (by simp [results, Tryz.results19, go_sem]) rfl (UqP.yes RE.out B3.out)
         · have e0 : (r.toList == []) = false := by
             rw [Lib.toList_data, beq_eq_false_iff_ne]
             intro h
             rw [h] at hrl
             simp at hrl
             omega
           obtain ⟨gk', rfl⟩ : ∃ gk', gk = gk' + 1 := ⟨gk - 1, by omega⟩
           have hne : r.data.toList ≠ [] := by intro h; rw [h] at hrl; simp at hrl; omega
           have RS := RX.out
           rw [unqN_step _ hne] at RS
           have FC := firstByte_c r wr (by omega) (by omega)
           have FZ := @firstF_size r.data.toList
           obtain ⟨⟨b, k, ok⟩, HF⟩ : ∃ f, Hid (firstF r.data.toList = f) := ⟨_, hid rfl⟩
           rw [HF.out] at RS FC FZ
           simp only at RS FZ
           have FC1 := hid FC
           unfold FbP at FC1
           simp only at FC1
           cases ok with
           | false =>
             have RE : Hid (R = none) := hid (by rw [RS]; simp)
             clear RS RX FC FZ HF
             go_wp2_with (go_at_call 40; refine FC1.out.mono ?_; rintro _ w3 ⟨rfl, hb3⟩; have B3 := hid (BX.out.trans (hb3.mono BX.out.size)); clear hb3)
             refine bodyPost_ret (v := .tuple #[.string ⟨#[]⟩, .int .i64 3]) (by simp [results, Tryz.results19, go_sem]) rfl (UqP.no RE.out B3.out)
           | true =>
             obtain ⟨hk1, hk2⟩ := FZ rfl
             rw [hrl] at hk2
             have hkI : (k : Int) ≤ r.size := by omega
             have RN : Hid (R = (unqN gk' (r.data.toList.drop k)).map ((l ++ [b]) ++ ·)) := hid (by rw [RS, if_pos rfl, Option.map_map]; congr 1; funext x; simp)
             clear RS RX FC FZ HF
             go_wp2_with (first
               | (go_at_call 41; refine WB.out.mono ?_; rintro _ w4 ⟨rfl, hu4, hb4⟩; have U4 := hid hu4.is; have B4 := hid (B3.out.trans hb4); clear hu4 hb4)
               | (go_at_call 40; refine FC1.out.mono ?_; rintro _ w3 ⟨rfl, hb3⟩; have B3 := hid (BX.out.trans (hb3.mono BX.out.size)); have WB := hid (wb_c (UX.out.later hb3) b (by have := LX.out; omega) B3.out.size); clear hb3))
             go_roundg gk'
             case measure => omega
             case rel => exact ⟨_, l ++ [b], rfl, by simp; omega, by simp; omega, hid (by rw [RN.out, Lib.extract_data]; simp [List.take_of_length_le]), hid (by have := LX.out; rw [List.length_append, List.length_singleton]; omega), U4, B4⟩
     · have bl : (((s[s.size - 1]'gl).toNat : Int) != 34) = true := by rw [ne34]; simp [hl]
       have RE : Hid (R = none) := hid (by rw [HR.out, if_pos (.inr (.inr (by rw [← get_l s gl]; exact hl)))])
       clear HR hf hl
       go_enter Tryz.func19, Tryz.ntmps19
       go_wp2
       refine bodyPost_ret (v := .tuple #[.string ⟨#[]⟩, .int .i64 3]) (by simp [results, Tryz.results19, go_sem]) rfl (UqP.no RE.out (Below.refl _ _))
   · have bf : (((s[0]'g0).toNat : Int) != 34) = true := by rw [ne34]; simp [hf]
     have RE : Hid (R = none) := hid (by rw [HR.out, if_pos (.inr (.inl (by rw [← get_l s g0]; exact hf)))])
     clear HR hf
     go_enter Tryz.func19, Tryz.ntmps19
     go_wp2
     refine bodyPost_ret (v := .tuple #[.string ⟨#[]⟩, .int .i64 3]) (by simp [results, Tryz.results19, go_sem]) rfl (UqP.no RE.out (Below.refl _ _))
end Go.Proofs.YtkokjkaclcjnjaaGreatDoor
