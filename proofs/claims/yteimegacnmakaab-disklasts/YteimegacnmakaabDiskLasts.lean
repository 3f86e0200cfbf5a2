/-
  For every deeds (the first sixty are done), writes since (the first forty), and numbers that are kept: what was flushed is there behind the crash, but for sectors written since that are kept.
-/
import Derived.Test.YteimegacnmakaabDFork
namespace Go.Proofs.Yteimegacnmakaab
open Go.ChangeShapes Go.WideShapes Go.ChangeAt Go.RowKit Go.Maps
open Go.ChangeMaps (open_string shut_string)
set_option linter.unusedVariables false
set_option linter.unusedSimpArgs false
theorem wpList_wanted {P : Program} {ops : Array Oper} {rest : List Oper} {o : Oper} {a : Act} {w : World} {Q : Exit → Act → World → Prop} (hw : Region.wanted o (yielded ops a.tmps) = true)
    (h : ∀ K : Act → World → Prop, (∀ a w, wpList P ops Q rest a w → K a w) → o.wp P a w K Q) : wpList P ops Q (o :: rest) a w :=
  wpList_step fun K hK => by rw [if_pos hw]; exact h K hK
/-- A sector out of a variable, behind a test. -/
theorem wpList_loadW (w : World) {ops : Array Oper} {rest : List Oper} {o : Oper} {a : Act} {Q : Exit → Act → World → Prop} (hw : Region.wanted o (yielded ops a.tmps) = true) (x : Operand) (T : TypeId) (hop : o.op = .load T x) (hT : (Try.prog.info? T).map (·.size) = some 32) {e : TypeId} (hu : Try.prog.underlying T = some (.array 32 e)) (g : Nat) (hx : a.eval x = .pointer (some ⟨g, 0, none⟩)) (s : Sec) (hs : s.length = 32)
    (t : TypeId) (fr : Nat × Nat) (hb : w.heap[g]? = some (.cells (s.map by8).toArray t fr)) (h : wpList Try.prog ops Q rest (a.put o.dst (secV s)) w) : wpList Try.prog ops Q (o :: rest) a w :=
  wpList_wanted hw fun _ hK => wp_load_row T x hop g hx t (s.map by8).toArray fr _ hb hu rfl (by rw [hT]; simp [hs]) (hK _ _ h)
theorem wpList_neqW (w : World) {ops : Array Oper} {rest : List Oper} {o : Oper} {a : Act} {Q : Exit → Act → World → Prop} (hw : Region.wanted o (yielded ops a.tmps) = true) (x y : Operand) (t : TypeId) (hop : o.op = .binOp .neq 53 x y t)
    (s : Sec) (hx : a.eval x = secV s) (hy : a.eval y = secV s) (hs : IsSec s) (h : wpList Try.prog ops Q rest (a.put o.dst (.bool false)) w) : wpList Try.prog ops Q (o :: rest) a w := by
  refine wpList_wanted hw fun K' hK' => ?_
  have e1 := secEq (P := Try.prog) w 53 5 Try.underlying53 Try.underlying5 size8 hs hs
  have e2 : (eqGuard .neq 53 x y (secV s) (secV s)).run Try.prog w = .ok () w := run_eqGuard_agg w .neq 53 x y _ _ guardS
  have e3 : (binOp .neq 53 (secV s) (secV s)).run Try.prog w = .ok (.bool false) w := by
    have e4 := e1
    unfold secV at e4 ⊢
    rw [run_eql_struct] at e4
    rw [run_neq_struct]
    cases hR : (Op.equalIn 10000 53 (.agg (s.map by8).toArray) (.agg (s.map by8).toArray)).run Try.prog w with
    | ok b w' =>
      rw [hR] at e4
      simp [Result.andThen] at e4 ⊢
      exact e4
    | halt h w' =>
      rw [hR] at e4
      simp [Result.andThen] at e4
  unfold Oper.wp
  simp only [execOp, hop, hx, hy, Sem.run_bind, e3, e2, Result.andThen, Sem.run_pure]
  exact hK' _ _ h
section
open Go.Sort Go.Shelf
set_option maxRecDepth 100000 in
set_option maxHeartbeats 1000000 in
theorem loose_empty {w : World} {d b1 b2 N : Nat} {on : Int → Sec} (h : IsD w d b1 b2 N on (fun _ => none)) :
    Calls Try.prog 22 #[pD d] w fun e w' => e = .returned (.slice none 0 0) ∧ Below w.heap.size w w' := by
  obtain ⟨c0, c1, c2, l0, l1, l2, d1, d2, d3⟩ := h.cells
  obtain ⟨D, hown, hf⟩ := h.2.2.2.2.1.1
  have hN := h.2.2.2.1
  have hsz : Maps.size D ≤ N := hown.size_le
  refine (callsIn_wide (n := 6)).1 ?_
  have hseq : SeqGives Fence.wide 2 Try.prog 54 #[.pointer (some ⟨w.heap.size, 0, none⟩)] encZ (fun ss => ss.Perm (intKeys D)) (Maps.size D) (w.alloc (.cells #[.map (some b2)] 80)) :=
    AnyZI.keys_gives (ρ := Try.keysA_ren) { Try.keysA with } Fence.wide _ trivial rfl (by omega) w.heap.size b2 N D _ (by simp) (by simp) (by
      obtain ⟨es, clock, hb, Ft, hs, hD⟩ := hown
      exact ⟨es, clock, (Below.heap_alloc _ _ b2 l2).trans hb, Ft, hs, hD⟩)
  have cK : ∀ mb W, CallsIn Fence.wide 5 Try.prog 42 #[.map mb] W fun e w' => e = .returned (.func (.func 54) #[] #[.pointer (some ⟨W.heap.size, 0, none⟩)]) ∧ w' = W.alloc (.cells #[.map mb] 80) := fun mb W => AnyZI.keys_in Try.keysA Fence.wide 5 trivial rfl mb W
  have cS := AnyZI.sorted_in Try.sortedA Fence.wide 5 trivial trivial trivial trivial rfl (by omega) (sortsA _) (enters_of Try.func53 (by kernel_rfl) rfl) 54 #[.pointer (some ⟨w.heap.size, 0, none⟩)] trivial (enters_of Try.func54 (by kernel_rfl) rfl) _ _ (by unfold maxLen; omega) (by omega) _ hseq
  change CallsIn _ _ Try.prog 41 _ _ _ at cS
  have hfK : Fence.wide.fn 42 := trivial
  have hfS : Fence.wide.fn 41 := trivial
  have HO := hid hown
  have HF := hid hf
  have CS := hid cS
  have CK := hid cK
  clear h c0 c1 hown hf cS cK hseq hN hsz
  refine callsIn_of_wp Try.func22 rfl trivial ?_ rfl
  simp only [Try.ntmps22, List.size_toArray, List.length_cons, List.length_nil, Nat.reduceAdd, Nat.reduceSub, Array.replicate_succ, Array.replicate_zero, List.push_toArray, List.append_toArray, List.nil_append, List.cons_append]
  gi_wp2_with (first
    | (gi_at_call 42; refine (CK.out _ _).mono ?_; rintro e w' ⟨rfl, rfl⟩)
    | (gi_at_call 41; refine CS.out.mono ?_; rintro e w' ⟨v, ss, rfl, hS, hrow, hnil, hb⟩))
  go_ret
  have hk := keys_of HO.out hS
  have hss : ss = [] := by
    cases ss with
    | nil => rfl
    | cons x l =>
      have h1 : x ∈ (x :: l).mergeSort (fun x y => decide (x ≤ y)) := (List.mergeSort_perm (x :: l) _).mem_iff.2 (by simp)
      have h2 := (hk.2 x).1 h1
      rw [← HF.out x] at h2
      cases h2
  exact ⟨by rw [hnil.2 hss]; rfl, ((Below.refl _ w).alloc (Nat.le_refl _) _).trans (hb.mono (by simp))⟩
end
/-- What is read of a slice of numbers that came in. -/
theorem isZ_of {H : Type} {enc : TypeId × Value → H} {P : Program} {W : World} {t e : TypeId} {a : Option Addr} {len cap : Nat} {d : DataW H} {p : List MemPlace}
    (ht : P.underlying t = some (.slice e)) (he : P.underlying e = some (.int .i64)) (hc : P.cellsOf e = 1)
    (h : DataW.Trod enc P W 0 (fun _ => true) true t (.slice a len cap) d p) : ∃ zs, IsZ W a len zs := by
  obtain ⟨fuel, hf⟩ := h
  rcases open_ints ht he hc hf with ⟨hcs, _⟩ | ⟨x, l, c, zs, hcs, _, hl, hm, hz, _, hcell, hwz⟩
  · simp [Value.cells] at hcs
    obtain ⟨rfl, rfl, rfl⟩ := hcs
    exact ⟨[], rfl, Nat.zero_le _, fun h => absurd h (by omega), fun i => by simp⟩
  · simp [Value.cells] at hcs
    obtain ⟨rfl, rfl, rfl⟩ := hcs
    have hz' : zs.length = cap := by simpa using hz
    refine ⟨zs.take len, by rw [List.length_take]; omega, by omega, fun hp => ?_, fun i => ?_⟩
    · obtain ⟨b, off, spot⟩ := x
      have hc0 := hcell 0 (by omega)
      have hspot : spot = none := by simpa [Addr.add] using World.cell?_spot hc0
      subst hspot
      refine ⟨b, off, rfl, fun i hi => ?_⟩
      have h := hcell i (by omega)
      have h2 : (⟨b, off, none⟩ : Addr).add i = ⟨b, off + i, none⟩ := by rcases i with _ | i <;> simp [Addr.add]
      rw [h2] at h
      rw [h]
      simp [List.getD, List.getElem?_take, hi]
    · by_cases hi : i < len
      · have hmem : (zs.take len).getD i 0 ∈ zs := by
          have : i < zs.length := by omega
          simp [List.getD, List.getElem?_take, hi, this]
        exact bd_i64 (hwz _ hmem)
      · simp [List.getD, List.getElem?_take, hi]
/-- The array of eight numbers lies in block g. -/
def LastAt (w : World) (g : Nat) (f : Nat → Int) : Prop := ∃ cs : Array Value, w.heap[g]? = some (.cells cs 48) ∧ cs.size = 8 ∧ ∀ j, j < 8 → cs[j]? = some (.int .i64 (f j))
theorem LastAt.out {S : Nat → Prop} {w w' : World} {g : Nat} {f : Nat → Int} (h : LastAt w g f) (ho : Out S w w') (hg : ¬ S g) : LastAt w' g f := by
  obtain ⟨cs, h1, h2⟩ := h
  exact ⟨cs, by rw [ho.block g (lt_blk h1) hg]; exact h1, h2⟩
theorem LastAt.later {w w' : World} {g : Nat} {f : Nat → Int} (h : LastAt w g f) (hb : Below w.heap.size w w') : LastAt w' g f := h.out (Out.of (S := fun _ => False) hb) id
theorem LastAt.cell {w : World} {g : Nat} {f : Nat → Int} (h : LastAt w g f) {j : Nat} (hj : j < 8) : w.cell? ⟨g, j, none⟩ = some (.int .i64 (f j)) ∧ w.frozen? ⟨g, j, none⟩ = false := by
  obtain ⟨cs, h1, h2, h3⟩ := h
  refine ⟨?_, ?_⟩
  · rw [cell_of_row _ _ _ _ _ _ h1]; exact h3 j hj
  · unfold World.frozen?; rw [h1]; simp
theorem LastAt.set {w : World} {g : Nat} {f : Nat → Int} (h : LastAt w g f) {j : Nat} (hj : j < 8) (x : Int) : LastAt (w.setCell ⟨g, j, none⟩ (.int .i64 x)) g (fun k => if k = j then x else f k) := by
  obtain ⟨cs, h1, h2, h3⟩ := h
  refine ⟨_, heap_setCell_same w g j cs _ _ h1, by simp [h2], fun k hk => ?_⟩
  by_cases e : k = j
  · subst e; simp [h2, hj]
  · simp only [if_neg e]; rw [← h3 k hk]; simp [Array.getElem?_setIfInBounds, Ne.symm e]
theorem IsD.sec {w : World} {d b1 b2 N : Nat} {on : Int → Sec} {c : Int → Option Sec} (h : IsD w d b1 b2 N on c) (i : Int) : IsSec (on i) := by
  obtain ⟨_, _, _, _, _, m, hm, he⟩ := h
  rw [he i]
  cases hq : m i with
  | some s => exact (hm.2 i s hq).1
  | none => exact zsec_is
/-- What is written down and what is loose agree. -/
def Agree (f : Nat → Int) (c : Int → Option Sec) : Prop := ∀ j : Nat, j < 8 → (f j = 0 ∧ c j = none) ∨ (1 ≤ f j ∧ f j ≤ 256 ∧ c j = some (full (f j - 1)))
theorem Agree.set {f : Nat → Int} {c : Int → Option Sec} (h : Agree f c) (j : Nat) {x : Int} (h0 : 0 ≤ x) (h1 : x < 256) : Agree (fun k => if k = j then x + 1 else f k) (upd c j (some (full x))) := fun k hk => by
  unfold upd
  by_cases e : k = j
  · subst e
    simp only [if_true]
    exact .inr ⟨by omega, by omega, by rw [Int.add_sub_cancel]⟩
  · have e' : ¬ (k : Int) = (j : Int) := by omega
    simp only [if_neg e, if_neg e']
    exact h k hk
set_option maxRecDepth 100000 in
set_option maxHeartbeats 3000000 in
theorem diskLasts_walk (a : Option Addr) (len cap : Nat) (f : Nat → Dd) (a2 : Option Addr) (len2 cap2 : Nat) (f2 : Nat → Dd) (a3 : Option Addr) (len3 cap3 : Nat) (zs : List Int) (w : World) (h : IsDs w a len f) (h2 : IsDs w a2 len2 f2) (h3 : IsZ w a3 len3 zs) :
    Calls Try.prog 5 #[.slice a len cap, .slice a2 len2 cap2, .slice a3 len3 cap3] w fun e w' => e = .returned (.bool true) ∧ Below w.heap.size w w' := by
  have PC := hid (play_c 7 (by omega) a len cap f h)
  have H2 := hid h2
  have H3 := hid h3
  have hlm : len2 ≤ maxLen := h2.1
  unfold maxLen at hlm
  clear h h2 h3
  go_enter Try.func5, Try.ntmps5
  go_wp2_with fail
  refine PC.out.mono ?_
  rintro _ w1 ⟨d, b1, b2, r, on, c, rfl, hP, hge, hb1⟩
  have HP := hid hP
  have HB1 := hid hb1
  clear hP hb1 PC
  go_wp2_with fail
  refine (dlive_c _).mono ?_
  rintro _ w2 ⟨rfl, hb2⟩
  have HD2 := hid (HP.out.later hb2).1
  have HB2 := hid (HB1.out.trans (hb2.mono HB1.out.size))
  clear hb2 HP
  go_wp2_with fail
  refine (flush_c HD2.out).mono ?_
  rintro _ w3 ⟨rfl, hD3, ho3⟩
  have HD3 := hid hD3
  have HB3 := hid (HB2.out.trans (ho3.below HB2.out.size (fun k e => by rcases e with e | e <;> omega)))
  clear hD3 ho3 HD2
  generalize (fun i => (c i).getD (on i)) = on0 at *
  go_wp2_with fail
  refine (fork_c HD3.out).mono ?_
  rintro _ w4 ⟨d', p1, p2, rfl, hF4, hge4, hb4⟩
  have HD4 := hid (HD3.out.later hb4)
  have HF4 := hid hF4
  have HB4 := hid (HB3.out.trans (hb4.mono HB3.out.size))
  have hlt := hid HD3.out.cells
  clear hF4 hb4 HD3
  obtain ⟨_, _, _, q1, q2, q3, _, _, _⟩ := hlt.out
  clear hlt HB1 HB2
  have ha := hid ((Below.refl _ w4).alloc (Nat.le_refl _) (.cells #[.int .i64 0, .int .i64 0, .int .i64 0, .int .i64 0, .int .i64 0, .int .i64 0, .int .i64 0, .int .i64 0] 48))
  have s34 : w3.heap.size ≤ w4.heap.size := Nat.le_trans hge4.1 (Nat.le_of_lt HF4.out.cells.2.2.2.1)
  obtain ⟨_, _, _, q4, q5, q6, _, _, _⟩ := HF4.out.cells
  have hs4 : w.heap.size ≤ w4.heap.size := Nat.le_trans HB3.out.size s34
  go_wp2
  go_loopw [12] (fun i wr => ∃ (m : Nat) (fl : Nat → Int) (cc : Int → Option Sec), m ≤ len2 ∧ m ≤ 40 ∧ i = .int .i64 m ∧ Hid (IsD wr d b1 b2 8 on0 cc) ∧ Hid (IsD wr d' p1 p2 8 on0 (fun _ => none)) ∧ Hid (LastAt wr w4.heap.size fl) ∧ Hid (Agree fl cc) ∧ Hid (Below w.heap.size w wr)) (fun i _ => (40 - intOf i).toNat)
  case atStart => exact ⟨0, fun _ => 0, _, by omega, by omega, rfl, HD4.out.later ha.out, HF4.out.later ha.out, ⟨_, heap_alloc_new w4 _, rfl, fun j hj => by rcases j with _ | _ | _ | _ | _ | _ | _ | _ | j <;> first | rfl | omega⟩, fun j hj => .inl ⟨rfl, rfl⟩, HB4.out.alloc HB4.out.size _⟩
  case round =>
    obtain ⟨m, fl, cc, hm, hm40, rfl, HD, HF, HL, HA, HB⟩ := hrel
    clear HD4 HF4 HB4 ha
    by_cases hml : m < len2
    · by_cases hm6 : m < 40
      · obtain ⟨b, off, rfl, hrg, hwf, hz⟩ := H2.out.2 m hml
        have KC : ∀ w', Below w.heap.size w w' → w'.cell? ⟨b, off + m * 4 + 1, none⟩ = some (.int .i64 (f2 m).i) ∧ w'.cell? ⟨b, off + m * 4 + 2, none⟩ = some (.int .u8 (f2 m).c) := fun w' hb => by
          obtain ⟨b', off', e, hr', _⟩ := (H2.out.later hb).2 m hml
          cases e
          exact ⟨hr' 1 _ rfl, hr' 2 _ rfl⟩
        obtain ⟨_, hi1, hc1⟩ := hwf
        clear hrg hz
        generalize (f2 m).i = xi at *
        generalize (f2 m).c = xc at *
        obtain ⟨k1, k2⟩ := KC wr HB.out
        have hmI : (m : Int) < (len2 : Int) := by omega
        have HDr : Hid (IsD wr.drew d b1 b2 8 on0 cc) := HD.out
        have HFr : Hid (IsD wr.drew d' p1 p2 8 on0 (fun _ => none)) := HF.out
        have HLr : Hid (LastAt wr.drew w4.heap.size fl) := HL.out
        have hfull := hid (full_is hc1.1 hc1.2)
        by_cases hgood : 0 ≤ xi ∧ xi < 8
        · obtain ⟨j, rfl⟩ := Int.eq_ofNat_of_zero_le hgood.1
          have hj8 : j < 8 := by omega
          go_wp2
          go_region_held3 (fun w' => w'.cell? ⟨b, off + m * 4 + 1, none⟩ = some (.int .i64 j) ∧ w'.cell? ⟨b, off + m * 4 + 2, none⟩ = some (.int .u8 xc)) (first | exact KC _ B6.out | exact KC _ B5.out | go_keep)
            (first
              | (go_at_call 19; refine (write_c D5.out j (full xc) hfull.out hgood.1 hgood.2).mono ?_; rintro _ w6 ⟨rfl, hD6, ho6⟩; have D6 := hid hD6; have F6 := hid (F5.out.out ho6 (by omega) (by omega) (by omega)); have L6 := hid (L5.out.out ho6 (by omega)); have B6 := hid (B5.out.trans (ho6.below B5.out.size (fun k e => by omega))))
              | (go_at_call 20; refine (sector_c xc wr.drew).mono ?_; rintro _ w5 ⟨rfl, hb5⟩; have D5 := hid (HDr.out.later hb5); have F5 := hid (HFr.out.later hb5); have L5 := hid (HLr.out.later hb5); have B5 := hid (HB.out.drew.trans (hb5.mono HB.out.size))))
          obtain ⟨y1, y2⟩ := KC w6 B6.out
          obtain ⟨l1, l2⟩ := L6.out.cell hj8
          have hx1 : IntKind.i64.wrap (xc + 1) = xc + 1 := by rw [IntKind.wrap_i64]; omega
          have hx0 : IntKind.i64.wrap xc = xc := by rw [IntKind.wrap_i64]; omega
          clear k1 k2
          go_wp2
          have B7 := hid ((B6.out.setCell (p := ⟨w4.heap.size, j, none⟩) hs4 (.int .i64 (xc + 1))).drew)
          go_region_held3 (fun w' => w'.cell? ⟨b, off + m * 4 + 1, none⟩ = some (.int .i64 j) ∧ w'.cell? ⟨b, off + m * 4 + 2, none⟩ = some (.int .u8 xc)) (first | exact KC _ B7.out | exact KC _ B7.out.drew | go_keep)
            (fail)
          go_wp2
          go_roundw
          case rel =>
            have o7 := (Out.setCell (S := fun k => k = w4.heap.size) w6 ⟨w4.heap.size, j, none⟩ (.int .i64 (xc + 1)) rfl).drew
            exact ⟨m + 1, _, _, by omega, by omega, by go_num, D6.out.out o7 (by omega) (by omega) (by omega), F6.out.out o7 (by omega) (by omega) (by omega), L6.out.set hj8 (xc + 1), HA.out.set j hc1.1 hc1.2, B7⟩
          case measure => simp [intOf]; omega
        · have hbad : xi < 0 ∨ ((8 : Nat) : Int) ≤ xi := by omega
          go_wp2
          go_region_held3 (fun w' => w'.cell? ⟨b, off + m * 4 + 1, none⟩ = some (.int .i64 xi) ∧ w'.cell? ⟨b, off + m * 4 + 2, none⟩ = some (.int .u8 xc)) (first | exact KC _ B6.out | exact KC _ B5.out | go_keep)
            (first
              | (go_at_call 19; refine (write_bad D5.out xi (full xc) hbad).mono ?_; rintro _ w6 ⟨rfl, hb6⟩; have D6 := hid (D5.out.later hb6); have F6 := hid (F5.out.later hb6); have L6 := hid (L5.out.later hb6); have B6 := hid (B5.out.trans (hb6.mono B5.out.size)))
              | (go_at_call 20; refine (sector_c xc wr.drew).mono ?_; rintro _ w5 ⟨rfl, hb5⟩; have D5 := hid (HDr.out.later hb5); have F5 := hid (HFr.out.later hb5); have L5 := hid (HLr.out.later hb5); have B5 := hid (HB.out.drew.trans (hb5.mono HB.out.size))))
          go_wp2
          go_roundw
          case rel => exact ⟨m + 1, fl, cc, by omega, by omega, by go_num, D6, F6, L6, HA, B6⟩
          case measure => simp [intOf]; omega
      · have CR := hid (crash_c HD.out a3 len3 cap3 zs (isZ_lat H3.out HB.out))
        go_wp2_with (first
          | (go_at_call 22; refine LE.out.mono ?_; rintro _ w8 ⟨rfl, hb8⟩)
          | (go_at_call 21; refine CR.out.mono ?_; rintro _ w7 ⟨rfl, hD7, ho7⟩; have LE := hid (loose_empty hD7)))
        have F7 := HF.out.out ho7 (by omega) (by omega) (by omega)
        have L7 := HL.out.out ho7 (by omega)
        have B7 := HB.out.trans (ho7.below HB.out.size (fun k e => by omega))
        have D8 := hid (hD7.later hb8)
        have F8 := hid (F7.later hb8)
        have L8 := hid (L7.later hb8)
        have B8 := hid (B7.trans (hb8.mono B7.size))
        clear CR LE HD HF HL HB hD7 ho7 F7 L7 B7 hb8
        have HA2 := HA
        clear H2 HA
        go_loopw [13] (fun i wr => ∃ n : Nat, n ≤ 8 ∧ i = .int .i64 n ∧ Hid (IsD wr d b1 b2 8 (fun i => if i ∈ zs then (cc i).getD (on0 i) else on0 i) (fun _ => none)) ∧ Hid (IsD wr d' p1 p2 8 on0 (fun _ => none)) ∧ Hid (LastAt wr w4.heap.size fl) ∧ Hid (Below w.heap.size w wr)) (fun i _ => (8 - intOf i).toNat)
        case atStart => exact ⟨0, by omega, rfl, D8, F8, L8, B8⟩
        case round =>
          obtain ⟨n, hn, rfl, HD, HF, HL, HB⟩ := hrel
          clear D8 F8 L8 B8
          generalize wr = wo at *
          by_cases hn8 : n < 8
          · have HZ := hid (isZ_lat H3.out HB.out)
            have hl3 : zs.length = len3 := H3.out.1
            have hm3 : len3 ≤ maxLen := H3.out.2.1
            unfold maxLen at hm3
            go_wp2
            go_loopw [14, 15] (fun kept k wr => ∃ q : Nat, q ≤ len3 ∧ k = .int .i64 q ∧ kept = .bool (decide ((n : Int) ∈ zs.take q)) ∧ wr = wo) (fun _ k _ => (len3 - intOf k).toNat)
            case atStart => exact ⟨0, by omega, rfl, by simp, rfl⟩
            case round =>
              obtain ⟨q, hq, rfl, rfl, hww⟩ := hrel
              subst hww
              by_cases hq3 : q < len3
              · obtain ⟨b, off, rfl, hcells⟩ := HZ.out.2.2.1 (by omega)
                have kq := hcells q hq3
                clear hcells
                have hqI : (q : Int) < (len3 : Int) := by omega
                have hsucc := hid (take_mem_succ zs q (by omega) (n : Int))
                by_cases hin : (n : Int) ∈ zs.take q
                · rw [decide_eq_true hin]
                  go_wp2
                  go_roundw
                  case rel => exact ⟨q + 1, by omega, by go_num, by rw [decide_eq_true (hsucc.out.2 (.inl hin))], trivial⟩
                  case measure => simp [intOf]; omega
                · rw [decide_eq_false hin]
                  generalize zs.getD q 0 = z at *
                  by_cases he : (n : Int) = z
                  · subst he
                    go_wp2
                    go_roundw
                    case rel => exact ⟨q + 1, by omega, by go_num, by rw [decide_eq_true (hsucc.out.2 (.inr rfl))], trivial⟩
                    case measure => simp [intOf]; omega
                  · have he1 : (z == (n : Int)) = false := by simp; omega
                    have he2 : decide (z = (n : Int)) = false := by simp; omega
                    have he3 : ¬ z = (n : Int) := by omega
                    go_wp2
                    go_roundw
                    case rel => exact ⟨q + 1, by omega, by go_num, by rw [decide_eq_false (fun hh => by rcases hsucc.out.1 hh with h1 | h1; exact hin h1; exact he h1)], trivial⟩
                    case measure => simp [intOf]; omega
              · have hq' : q = len3 := by omega
                subst hq'
                rw [show zs.take q = zs by rw [← hl3, List.take_length]]
                have hS := HF.out.sec (n : Int)
                have zz := zlit
                have R1 : Hid (Calls Try.prog 23 #[pD d', .int .i64 n] wr fun e w' => e = .returned (.tuple #[secV (on0 n), .int .i64 0]) ∧ Below wr.heap.size wr w') := read_c HF.out (n : Int) (by omega) (by omega)
                have RG : ∀ s2, (if (n : Int) ∈ zs then (cc n).getD (on0 n) else on0 n) = s2 → ∀ W, Below wr.heap.size wr W → Calls Try.prog 23 #[pD d, .int .i64 n] W fun e w' => e = .returned (.tuple #[secV s2, .int .i64 0]) ∧ Below W.heap.size W w' := fun s2 e W hW => by
                  subst e
                  exact read_c (HD.out.later hW) (n : Int) (by omega) (by omega)
                have HLL : Hid (∀ W, Below wr.heap.size wr W → W.cell? ⟨w4.heap.size, n, none⟩ = some (.int .i64 (fl n))) := fun W hW => ((HL.out.later hW).cell hn8).1
                have hagr := HA2.out n hn8
                clear HZ
                by_cases hin : (n : Int) ∈ zs
                · rw [decide_eq_true hin]
                  rcases hagr with ⟨f0, hcc⟩ | ⟨f1, f2, hcc⟩
                  · have R2 := hid (RG (on0 n) (by rw [if_pos hin, hcc]; rfl))
                    rw [f0] at HLL
                    clear RG hcc
                    go_wp2_with (first
                    | (go_at_call 23; refine (R2.out _ B5.out).mono ?_; rintro _ w6 ⟨rfl, hb6⟩; clear T5; have T6 := hid (Nat.le_refl w6.heap.size); (have K6 : Hid (w6.heap[w5.heap.size]? = some (.cells ((on0 n).map by8).toArray 53)) := (hb6.block _ (by simp)).trans (heap_alloc_new w5 _)); (have B6 : Hid (Below wr.heap.size wr (w6.alloc (.cells ((on0 n).map by8).toArray 53))) := (B5.out.trans (hb6.mono B5.out.size)).alloc (Nat.le_trans B5.out.size hb6.size) _); (have l56 : w5.heap.size < w6.heap.size := by have := hb6.size; simp at this; omega); have c6 := HLL.out _ B6.out)
                    | (go_at_call 23; refine R1.out.mono ?_; rintro _ w5 ⟨rfl, hb5⟩; have T5 := hid (Nat.le_refl w5.heap.size); have Z5 := hid hb5.size; (have B5 : Hid (Below wr.heap.size wr (w5.alloc (.cells ((on0 n).map by8).toArray 53))) := hb5.alloc hb5.size _))
                    | (have _q := T6.out; clear _q; refine wpList_storeS w6 rfl _ _ _ rfl sizeS _ rfl (by simp) (on0 n) rfl hS.1 _ (by simp; decide) ?_)
                    | (have _q := T5.out; clear _q; refine wpList_storeS w5 rfl _ _ _ rfl sizeS _ rfl (by simp) (on0 n) rfl hS.1 _ (by simp; decide) ?_)
                    | (refine wpList_loadW _ (by rfl) (.tmp 16) _ rfl sizeS Try.underlying53 _ rfl (on0 n) hS.1 _ _ ((Below.heap_alloc _ _ _ l56).trans K6.out) ?_)
                    | (refine wpList_loadW _ (by rfl) (.tmp 18) _ rfl sizeS Try.underlying53 _ rfl (on0 n) hS.1 _ _ (heap_alloc_new w6 _) ?_)
                    | (refine wpList_neqW _ (by rfl) _ _ _ rfl (on0 n) rfl rfl hS ?_))
                    go_roundw
                    case rel => exact ⟨n + 1, by omega, by go_num, HD.out.later B6.out, HF.out.later B6.out, HL.out.later B6.out, HB.out.trans (B6.out.mono HB.out.size)⟩
                    case measure => simp [intOf]; omega
                  · have R2 := hid (RG (full (fl n - 1)) (by rw [if_pos hin, hcc]; rfl))
                    have hS2 : IsSec (full (fl n - 1)) := full_is (by omega) (by omega)
                    clear RG hcc
                    generalize fl n = v at *
                    have hv0 : (0 : Int) < v := by omega
                    have hvs : IntKind.i64.wrap (v - 1) = v - 1 := by rw [IntKind.wrap_i64]; omega
                    have hvu : IntKind.u8.wrap (v - 1) = v - 1 := by rw [IntKind.wrap_u8']; omega
                    go_wp2_with (first
                    | (go_at_call 23; refine (R2.out _ B5.out).mono ?_; rintro _ w6 ⟨rfl, hb6⟩; clear T5; have T6 := hid (Nat.le_refl w6.heap.size); (have K6 : Hid (w6.heap[w5.heap.size]? = some (.cells ((on0 n).map by8).toArray 53)) := (hb6.block _ (by simp)).trans (heap_alloc_new w5 _)); (have B6 : Hid (Below wr.heap.size wr (w6.alloc (.cells ((full (v - 1)).map by8).toArray 53))) := (B5.out.trans (hb6.mono B5.out.size)).alloc (Nat.le_trans B5.out.size hb6.size) _); (have l56 : w5.heap.size < w6.heap.size := by have := hb6.size; simp at this; omega); have c6 := HLL.out _ B6.out)
                    | (go_at_call 23; refine R1.out.mono ?_; rintro _ w5 ⟨rfl, hb5⟩; have T5 := hid (Nat.le_refl w5.heap.size); have Z5 := hid hb5.size; (have B5 : Hid (Below wr.heap.size wr (w5.alloc (.cells ((on0 n).map by8).toArray 53))) := hb5.alloc hb5.size _))
                    | (have _q := T6.out; clear _q; refine wpList_storeS w6 rfl _ _ _ rfl sizeS _ rfl (by simp) (full (v - 1)) rfl hS2.1 _ (by simp; decide) ?_)
                    | (have _q := T5.out; clear _q; refine wpList_storeS w5 rfl _ _ _ rfl sizeS _ rfl (by simp) (on0 n) rfl hS.1 _ (by simp; decide) ?_)
                    | (go_at_call 20; refine (sector_c (v - 1) _).mono ?_; rintro _ w7 ⟨rfl, hb7⟩; clear T6; (have K7 : Hid (w7.heap[w5.heap.size]? = some (.cells ((on0 n).map by8).toArray 53)) := (hb7.block _ (by simp; omega)).trans ((Below.heap_alloc _ _ _ l56).trans K6.out)); (have M7 : Hid (w7.heap[w6.heap.size]? = some (.cells ((full (v - 1)).map by8).toArray 53)) := (hb7.block _ (by simp)).trans (heap_alloc_new w6 _)); have B7 := hid (B6.out.trans (hb7.mono B6.out.size)))
                    | (refine wpList_storeA _ rfl (.tmp 16) _ _ rfl sizeS _ rfl (full (v - 1)) rfl hS2.1 _ _ K7.out (by simp [hS.1]) ?_; intro w8 k8 ho8 hz8; have K8 := hid k8; (have M8 := hid ((ho8.block _ (lt_blk M7.out) (by omega)).trans M7.out)); (have B8 := hid (B7.out.trans (ho8.below B7.out.size (fun k e => by have := Z5.out; omega)))))
                    | (refine wpList_loadW _ (by rfl) (.tmp 16) _ rfl sizeS Try.underlying53 _ rfl (full (v - 1)) hS2.1 _ _ K8.out ?_)
                    | (refine wpList_loadW _ (by rfl) (.tmp 18) _ rfl sizeS Try.underlying53 _ rfl (full (v - 1)) hS2.1 _ _ M8.out ?_)
                    | (refine wpList_neqW _ (by rfl) _ _ _ rfl (full (v - 1)) rfl rfl hS2 ?_))
                    go_roundw
                    case rel => exact ⟨n + 1, by omega, by go_num, HD.out.later B8.out, HF.out.later B8.out, HL.out.later B8.out, HB.out.trans (B8.out.mono HB.out.size)⟩
                    case measure => simp [intOf]; omega
                · rw [decide_eq_false hin]
                  have R2 := hid (RG (on0 n) (by rw [if_neg hin]))
                  clear RG hagr
                  go_wp2_with (first
                    | (go_at_call 23; refine (R2.out _ B5.out).mono ?_; rintro _ w6 ⟨rfl, hb6⟩; clear T5; have T6 := hid (Nat.le_refl w6.heap.size); (have K6 : Hid (w6.heap[w5.heap.size]? = some (.cells ((on0 n).map by8).toArray 53)) := (hb6.block _ (by simp)).trans (heap_alloc_new w5 _)); (have B6 : Hid (Below wr.heap.size wr (w6.alloc (.cells ((on0 n).map by8).toArray 53))) := (B5.out.trans (hb6.mono B5.out.size)).alloc (Nat.le_trans B5.out.size hb6.size) _); (have l56 : w5.heap.size < w6.heap.size := by have := hb6.size; simp at this; omega); have c6 := HLL.out _ B6.out)
                    | (go_at_call 23; refine R1.out.mono ?_; rintro _ w5 ⟨rfl, hb5⟩; have T5 := hid (Nat.le_refl w5.heap.size); have Z5 := hid hb5.size; (have B5 : Hid (Below wr.heap.size wr (w5.alloc (.cells ((on0 n).map by8).toArray 53))) := hb5.alloc hb5.size _))
                    | (have _q := T6.out; clear _q; refine wpList_storeS w6 rfl _ _ _ rfl sizeS _ rfl (by simp) (on0 n) rfl hS.1 _ (by simp; decide) ?_)
                    | (have _q := T5.out; clear _q; refine wpList_storeS w5 rfl _ _ _ rfl sizeS _ rfl (by simp) (on0 n) rfl hS.1 _ (by simp; decide) ?_)
                    | (refine wpList_loadW _ (by rfl) (.tmp 16) _ rfl sizeS Try.underlying53 _ rfl (on0 n) hS.1 _ _ ((Below.heap_alloc _ _ _ l56).trans K6.out) ?_)
                    | (refine wpList_loadW _ (by rfl) (.tmp 18) _ rfl sizeS Try.underlying53 _ rfl (on0 n) hS.1 _ _ (heap_alloc_new w6 _) ?_)
                    | (refine wpList_neqW _ (by rfl) _ _ _ rfl (on0 n) rfl rfl hS ?_))
                  go_roundw
                  case rel => exact ⟨n + 1, by omega, by go_num, HD.out.later B6.out, HF.out.later B6.out, HL.out.later B6.out, HB.out.trans (B6.out.mono HB.out.size)⟩
                  case measure => simp [intOf]; omega
          · go_wp2
            go_ret
            exact ⟨rfl, HB.out⟩
    · have CR := hid (crash_c HD.out a3 len3 cap3 zs (isZ_lat H3.out HB.out))
      go_wp2_with (first
        | (go_at_call 22; refine LE.out.mono ?_; rintro _ w8 ⟨rfl, hb8⟩)
        | (go_at_call 21; refine CR.out.mono ?_; rintro _ w7 ⟨rfl, hD7, ho7⟩; have LE := hid (loose_empty hD7)))
      have F7 := HF.out.out ho7 (by omega) (by omega) (by omega)
      have L7 := HL.out.out ho7 (by omega)
      have B7 := HB.out.trans (ho7.below HB.out.size (fun k e => by omega))
      have D8 := hid (hD7.later hb8)
      have F8 := hid (F7.later hb8)
      have L8 := hid (L7.later hb8)
      have B8 := hid (B7.trans (hb8.mono B7.size))
      clear CR LE HD HF HL HB hD7 ho7 F7 L7 B7 hb8
      have HA2 := HA
      clear H2 HA
      go_loopw [13] (fun i wr => ∃ n : Nat, n ≤ 8 ∧ i = .int .i64 n ∧ Hid (IsD wr d b1 b2 8 (fun i => if i ∈ zs then (cc i).getD (on0 i) else on0 i) (fun _ => none)) ∧ Hid (IsD wr d' p1 p2 8 on0 (fun _ => none)) ∧ Hid (LastAt wr w4.heap.size fl) ∧ Hid (Below w.heap.size w wr)) (fun i _ => (8 - intOf i).toNat)
      case atStart => exact ⟨0, by omega, rfl, D8, F8, L8, B8⟩
      case round =>
        obtain ⟨n, hn, rfl, HD, HF, HL, HB⟩ := hrel
        clear D8 F8 L8 B8
        generalize wr = wo at *
        by_cases hn8 : n < 8
        · have HZ := hid (isZ_lat H3.out HB.out)
          have hl3 : zs.length = len3 := H3.out.1
          have hm3 : len3 ≤ maxLen := H3.out.2.1
          unfold maxLen at hm3
          go_wp2
          go_loopw [14, 15] (fun kept k wr => ∃ q : Nat, q ≤ len3 ∧ k = .int .i64 q ∧ kept = .bool (decide ((n : Int) ∈ zs.take q)) ∧ wr = wo) (fun _ k _ => (len3 - intOf k).toNat)
          case atStart => exact ⟨0, by omega, rfl, by simp, rfl⟩
          case round =>
            obtain ⟨q, hq, rfl, rfl, hww⟩ := hrel
            subst hww
            by_cases hq3 : q < len3
            · obtain ⟨b, off, rfl, hcells⟩ := HZ.out.2.2.1 (by omega)
              have kq := hcells q hq3
              clear hcells
              have hqI : (q : Int) < (len3 : Int) := by omega
              have hsucc := hid (take_mem_succ zs q (by omega) (n : Int))
              by_cases hin : (n : Int) ∈ zs.take q
              · rw [decide_eq_true hin]
                go_wp2
                go_roundw
                case rel => exact ⟨q + 1, by omega, by go_num, by rw [decide_eq_true (hsucc.out.2 (.inl hin))], trivial⟩
                case measure => simp [intOf]; omega
              · rw [decide_eq_false hin]
                generalize zs.getD q 0 = z at *
                by_cases he : (n : Int) = z
                · subst he
                  go_wp2
                  go_roundw
                  case rel => exact ⟨q + 1, by omega, by go_num, by rw [decide_eq_true (hsucc.out.2 (.inr rfl))], trivial⟩
                  case measure => simp [intOf]; omega
                · have he1 : (z == (n : Int)) = false := by simp; omega
                  have he2 : decide (z = (n : Int)) = false := by simp; omega
                  have he3 : ¬ z = (n : Int) := by omega
                  go_wp2
                  go_roundw
                  case rel => exact ⟨q + 1, by omega, by go_num, by rw [decide_eq_false (fun hh => by rcases hsucc.out.1 hh with h1 | h1; exact hin h1; exact he h1)], trivial⟩
                  case measure => simp [intOf]; omega
            · have hq' : q = len3 := by omega
              subst hq'
              rw [show zs.take q = zs by rw [← hl3, List.take_length]]
              have hS := HF.out.sec (n : Int)
              have zz := zlit
              have R1 : Hid (Calls Try.prog 23 #[pD d', .int .i64 n] wr fun e w' => e = .returned (.tuple #[secV (on0 n), .int .i64 0]) ∧ Below wr.heap.size wr w') := read_c HF.out (n : Int) (by omega) (by omega)
              have RG : ∀ s2, (if (n : Int) ∈ zs then (cc n).getD (on0 n) else on0 n) = s2 → ∀ W, Below wr.heap.size wr W → Calls Try.prog 23 #[pD d, .int .i64 n] W fun e w' => e = .returned (.tuple #[secV s2, .int .i64 0]) ∧ Below W.heap.size W w' := fun s2 e W hW => by
                subst e
                exact read_c (HD.out.later hW) (n : Int) (by omega) (by omega)
              have HLL : Hid (∀ W, Below wr.heap.size wr W → W.cell? ⟨w4.heap.size, n, none⟩ = some (.int .i64 (fl n))) := fun W hW => ((HL.out.later hW).cell hn8).1
              have hagr := HA2.out n hn8
              clear HZ
              by_cases hin : (n : Int) ∈ zs
              · rw [decide_eq_true hin]
                rcases hagr with ⟨f0, hcc⟩ | ⟨f1, f2, hcc⟩
                · have R2 := hid (RG (on0 n) (by rw [if_pos hin, hcc]; rfl))
                  rw [f0] at HLL
                  clear RG hcc
                  go_wp2_with (first
                  | (go_at_call 23; refine (R2.out _ B5.out).mono ?_; rintro _ w6 ⟨rfl, hb6⟩; clear T5; have T6 := hid (Nat.le_refl w6.heap.size); (have K6 : Hid (w6.heap[w5.heap.size]? = some (.cells ((on0 n).map by8).toArray 53)) := (hb6.block _ (by simp)).trans (heap_alloc_new w5 _)); (have B6 : Hid (Below wr.heap.size wr (w6.alloc (.cells ((on0 n).map by8).toArray 53))) := (B5.out.trans (hb6.mono B5.out.size)).alloc (Nat.le_trans B5.out.size hb6.size) _); (have l56 : w5.heap.size < w6.heap.size := by have := hb6.size; simp at this; omega); have c6 := HLL.out _ B6.out)
                  | (go_at_call 23; refine R1.out.mono ?_; rintro _ w5 ⟨rfl, hb5⟩; have T5 := hid (Nat.le_refl w5.heap.size); have Z5 := hid hb5.size; (have B5 : Hid (Below wr.heap.size wr (w5.alloc (.cells ((on0 n).map by8).toArray 53))) := hb5.alloc hb5.size _))
                  | (have _q := T6.out; clear _q; refine wpList_storeS w6 rfl _ _ _ rfl sizeS _ rfl (by simp) (on0 n) rfl hS.1 _ (by simp; decide) ?_)
                  | (have _q := T5.out; clear _q; refine wpList_storeS w5 rfl _ _ _ rfl sizeS _ rfl (by simp) (on0 n) rfl hS.1 _ (by simp; decide) ?_)
                  | (refine wpList_loadW _ (by rfl) (.tmp 16) _ rfl sizeS Try.underlying53 _ rfl (on0 n) hS.1 _ _ ((Below.heap_alloc _ _ _ l56).trans K6.out) ?_)
                  | (refine wpList_loadW _ (by rfl) (.tmp 18) _ rfl sizeS Try.underlying53 _ rfl (on0 n) hS.1 _ _ (heap_alloc_new w6 _) ?_)
                  | (refine wpList_neqW _ (by rfl) _ _ _ rfl (on0 n) rfl rfl hS ?_))
                  go_roundw
                  case rel => exact ⟨n + 1, by omega, by go_num, HD.out.later B6.out, HF.out.later B6.out, HL.out.later B6.out, HB.out.trans (B6.out.mono HB.out.size)⟩
                  case measure => simp [intOf]; omega
                · have R2 := hid (RG (full (fl n - 1)) (by rw [if_pos hin, hcc]; rfl))
                  have hS2 : IsSec (full (fl n - 1)) := full_is (by omega) (by omega)
                  clear RG hcc
                  generalize fl n = v at *
                  have hv0 : (0 : Int) < v := by omega
                  have hvs : IntKind.i64.wrap (v - 1) = v - 1 := by rw [IntKind.wrap_i64]; omega
                  have hvu : IntKind.u8.wrap (v - 1) = v - 1 := by rw [IntKind.wrap_u8']; omega
                  go_wp2_with (first
                  | (go_at_call 23; refine (R2.out _ B5.out).mono ?_; rintro _ w6 ⟨rfl, hb6⟩; clear T5; have T6 := hid (Nat.le_refl w6.heap.size); (have K6 : Hid (w6.heap[w5.heap.size]? = some (.cells ((on0 n).map by8).toArray 53)) := (hb6.block _ (by simp)).trans (heap_alloc_new w5 _)); (have B6 : Hid (Below wr.heap.size wr (w6.alloc (.cells ((full (v - 1)).map by8).toArray 53))) := (B5.out.trans (hb6.mono B5.out.size)).alloc (Nat.le_trans B5.out.size hb6.size) _); (have l56 : w5.heap.size < w6.heap.size := by have := hb6.size; simp at this; omega); have c6 := HLL.out _ B6.out)
                  | (go_at_call 23; refine R1.out.mono ?_; rintro _ w5 ⟨rfl, hb5⟩; have T5 := hid (Nat.le_refl w5.heap.size); have Z5 := hid hb5.size; (have B5 : Hid (Below wr.heap.size wr (w5.alloc (.cells ((on0 n).map by8).toArray 53))) := hb5.alloc hb5.size _))
                  | (have _q := T6.out; clear _q; refine wpList_storeS w6 rfl _ _ _ rfl sizeS _ rfl (by simp) (full (v - 1)) rfl hS2.1 _ (by simp; decide) ?_)
                  | (have _q := T5.out; clear _q; refine wpList_storeS w5 rfl _ _ _ rfl sizeS _ rfl (by simp) (on0 n) rfl hS.1 _ (by simp; decide) ?_)
                  | (go_at_call 20; refine (sector_c (v - 1) _).mono ?_; rintro _ w7 ⟨rfl, hb7⟩; clear T6; (have K7 : Hid (w7.heap[w5.heap.size]? = some (.cells ((on0 n).map by8).toArray 53)) := (hb7.block _ (by simp; omega)).trans ((Below.heap_alloc _ _ _ l56).trans K6.out)); (have M7 : Hid (w7.heap[w6.heap.size]? = some (.cells ((full (v - 1)).map by8).toArray 53)) := (hb7.block _ (by simp)).trans (heap_alloc_new w6 _)); have B7 := hid (B6.out.trans (hb7.mono B6.out.size)))
                  | (refine wpList_storeA _ rfl (.tmp 16) _ _ rfl sizeS _ rfl (full (v - 1)) rfl hS2.1 _ _ K7.out (by simp [hS.1]) ?_; intro w8 k8 ho8 hz8; have K8 := hid k8; (have M8 := hid ((ho8.block _ (lt_blk M7.out) (by omega)).trans M7.out)); (have B8 := hid (B7.out.trans (ho8.below B7.out.size (fun k e => by have := Z5.out; omega)))))
                  | (refine wpList_loadW _ (by rfl) (.tmp 16) _ rfl sizeS Try.underlying53 _ rfl (full (v - 1)) hS2.1 _ _ K8.out ?_)
                  | (refine wpList_loadW _ (by rfl) (.tmp 18) _ rfl sizeS Try.underlying53 _ rfl (full (v - 1)) hS2.1 _ _ M8.out ?_)
                  | (refine wpList_neqW _ (by rfl) _ _ _ rfl (full (v - 1)) rfl rfl hS2 ?_))
                  go_roundw
                  case rel => exact ⟨n + 1, by omega, by go_num, HD.out.later B8.out, HF.out.later B8.out, HL.out.later B8.out, HB.out.trans (B8.out.mono HB.out.size)⟩
                  case measure => simp [intOf]; omega
              · rw [decide_eq_false hin]
                have R2 := hid (RG (on0 n) (by rw [if_neg hin]))
                clear RG hagr
                go_wp2_with (first
                  | (go_at_call 23; refine (R2.out _ B5.out).mono ?_; rintro _ w6 ⟨rfl, hb6⟩; clear T5; have T6 := hid (Nat.le_refl w6.heap.size); (have K6 : Hid (w6.heap[w5.heap.size]? = some (.cells ((on0 n).map by8).toArray 53)) := (hb6.block _ (by simp)).trans (heap_alloc_new w5 _)); (have B6 : Hid (Below wr.heap.size wr (w6.alloc (.cells ((on0 n).map by8).toArray 53))) := (B5.out.trans (hb6.mono B5.out.size)).alloc (Nat.le_trans B5.out.size hb6.size) _); (have l56 : w5.heap.size < w6.heap.size := by have := hb6.size; simp at this; omega); have c6 := HLL.out _ B6.out)
                  | (go_at_call 23; refine R1.out.mono ?_; rintro _ w5 ⟨rfl, hb5⟩; have T5 := hid (Nat.le_refl w5.heap.size); have Z5 := hid hb5.size; (have B5 : Hid (Below wr.heap.size wr (w5.alloc (.cells ((on0 n).map by8).toArray 53))) := hb5.alloc hb5.size _))
                  | (have _q := T6.out; clear _q; refine wpList_storeS w6 rfl _ _ _ rfl sizeS _ rfl (by simp) (on0 n) rfl hS.1 _ (by simp; decide) ?_)
                  | (have _q := T5.out; clear _q; refine wpList_storeS w5 rfl _ _ _ rfl sizeS _ rfl (by simp) (on0 n) rfl hS.1 _ (by simp; decide) ?_)
                  | (refine wpList_loadW _ (by rfl) (.tmp 16) _ rfl sizeS Try.underlying53 _ rfl (on0 n) hS.1 _ _ ((Below.heap_alloc _ _ _ l56).trans K6.out) ?_)
                  | (refine wpList_loadW _ (by rfl) (.tmp 18) _ rfl sizeS Try.underlying53 _ rfl (on0 n) hS.1 _ _ (heap_alloc_new w6 _) ?_)
                  | (refine wpList_neqW _ (by rfl) _ _ _ rfl (on0 n) rfl rfl hS ?_))
                go_roundw
                case rel => exact ⟨n + 1, by omega, by go_num, HD.out.later B6.out, HF.out.later B6.out, HL.out.later B6.out, HB.out.trans (B6.out.mono HB.out.size)⟩
                case measure => simp [intOf]; omega
        · go_wp2
          go_ret
          exact ⟨rfl, HB.out⟩
/-! ### The row of DiskLasts -/
theorem diskLasts_own : ownKnob Try.prog.godebug = none := by kernel_rfl
theorem diskLasts_laidOut : laidOutB Try.prog = true := by kernel_rfl
set_option maxRecDepth 100000 in
theorem diskLasts_lifted (os : Os) (started : os.Started) (H : Type) (enc : TypeId × Value → H) :
    ReturnsInHanded {} Try.checked os 5 .any (Rows.diskLastsSpec.pre6 enc Try.prog Try.f5 Rows.diskLastsRow.domain false) (Rows.diskLastsSpec.post enc Try.prog Try.f5 false true false false) := by
  refine returnsInHanded_of_change (C := Try.checked) diskLasts_own started (by kernel_rfl) Try.func5
    (ChangeSpec.witness6 (enc := enc) (C := Try.checked) false ⟨#[], #[.slice none 0 0, .slice none 0 0, .slice none 0 0], []⟩ 8 (by kernel_rfl) (by kernel_rfl) (by kernel_rfl) (by kernel_rfl)) ?_
  intro W base args ds gs before hval0 hW hcnd _
  have hval : ∀ (j : Nat) t v, Try.f5.params[j]? = some t → args[j]? = some v → Value.okWide Try.prog W .any base t v := hval0
  have hW' := hW
  obtain ⟨p, q, hA0, hV, rfl, hfz, hnd⟩ := hW
  have hA : DataW.TrodAll enc Try.prog W 0 (fun _ => true) true Try.f5.params.toList args.toList ds p := hA0
  rw [Try.params5] at hA hval
  obtain ⟨v0, vs0, d0, ds0, p0, q0, hargs, rfl, rfl, h0, r0⟩ := trodAll_cons hA
  obtain ⟨v1, vs1, d1, ds1, p1, q1, rfl, rfl, rfl, h1, r1⟩ := trodAll_cons r0
  obtain ⟨v2, vs2, d2, ds2, p2, q2, rfl, rfl, rfl, h2, r2⟩ := trodAll_cons r1
  obtain ⟨rfl, rfl, rfl⟩ := trodAll_nil r2
  obtain rfl : args = #[v0, v1, v2] := by cases args; simp_all
  obtain ⟨rfl, rfl⟩ := trodVars_none hV
  have k0 := h0
  have lt0 : ∀ x ∈ p0, x.block < W.heap.size := by obtain ⟨m, hm⟩ := k0; exact DataW.trod_lt m _ _ _ hm
  obtain ⟨a0, len0, cap0, rfl⟩ := okWide_slice Try.underlying38 (hval 0 38 v0 rfl rfl)
  obtain ⟨z0, w0⟩ := isDs_of Try.underlying38 h0
  have k1 := h1
  have lt1 : ∀ x ∈ p1, x.block < W.heap.size := by obtain ⟨m, hm⟩ := k1; exact DataW.trod_lt m _ _ _ hm
  obtain ⟨a1, len1, cap1, rfl⟩ := okWide_slice Try.underlying38 (hval 1 38 v1 rfl rfl)
  obtain ⟨z1, w1⟩ := isDs_of Try.underlying38 h1
  have k2 := h2
  have lt2 : ∀ x ∈ p2, x.block < W.heap.size := by obtain ⟨m, hm⟩ := k2; exact DataW.trod_lt m _ _ _ hm
  obtain ⟨a2, len2, cap2, rfl⟩ := okWide_slice Try.underlying45 (hval 2 45 v2 rfl rfl)
  obtain ⟨z2, w2⟩ := isZ_of Try.underlying45 Try.underlying3 (by kernel_rfl) h2
  clear hA0 hval0
  refine (diskLasts_walk a0 len0 cap0 z0 a1 len1 cap1 z1 a2 len2 cap2 z2 W w0 w1 w2).mono fun e W' ⟨he, bel⟩ => ?_
  subst he
  exact ⟨_, rfl, _, _, _, [], _, [], hW', trodAll_mk1 (shut_bool Try.underlying4 _), (trodAll_cons_mk (Below.trod diskLasts_laidOut (by kernel_rfl) (of_decide_eq_true (by kernel_rfl)) k0 bel lt0) (trodAll_cons_mk (Below.trod diskLasts_laidOut (by kernel_rfl) (of_decide_eq_true (by kernel_rfl)) k1 bel lt1) (trodAll_cons_mk (Below.trod diskLasts_laidOut (by kernel_rfl) (of_decide_eq_true (by kernel_rfl)) k2 bel lt2) trodAll_mk0))), rfl, bel.frame _, fun h => by cases h⟩
theorem diskLasts_over : Rows.diskLastsRow.holds Try.pinned (OpenSpec.ofChange Rows.diskLastsSpec) :=
  OpenClaim.holds_of_wide 5 Try.f5 rfl rfl rfl rfl rfl rfl rfl ⟨rfl, rfl, rfl, rfl, rfl⟩ rfl rfl rfl rfl rfl (by kernel_rfl) Try.func5 (by kernel_rfl)
    (of_decide_eq_true (by kernel_rfl)) (by unfold Func.isWrapper; first | (rw [if_pos (by decide +kernel)]; kernel_rfl) | (rw [if_neg (by decide +kernel)]; exact ⟨rfl, rfl⟩))
    (fun os started H enc _ => diskLasts_lifted os started H enc)
/-- The statement. -/
theorem diskLasts_holds : Rows.DiskLastsSaid := diskLasts_over
#print axioms diskLasts_holds

end Go.Proofs.Yteimegacnmakaab
