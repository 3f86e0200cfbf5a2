/-
  The document's group: what it reads of an area's sectors.
  The document's groups of the area that counts: all, Groups, Free of backwaterref05.
-/
import Derived.Test.YtfmkgflhgapeoabGJ
import Derived.Test.YtfmkgflhgapeoabGF
namespace Go.Proofs.Ytfmkgflhgapeoab
open Go.RowKit Go.ChangeShapes Go.WideShapes Go.ChangeAt Go.Maps
set_option linter.unusedVariables false
set_option linter.unusedSimpArgs false

/-- What group answers. -/
def RGroupPost (t n : Int) (ss : List (List Int)) (w : World) (e : Ending) (w' : World) : Prop :=
  (∃ v ok, e = .returned (.tuple #[v, .bool ok]) ∧ ((∃ g, Jo.readF t n ss = some g ∧ ok = true ∧ PG w.heap.size w' v g) ∨ (Jo.readF t n ss = none ∧ ok = false))) ∧ Below w.heap.size w w'
set_option maxRecDepth 100000 in
set_option maxHeartbeats 2000000 in
theorem rgroup_c {w : World} {j r N : Nat} {L : List Sec} {B : List (Int × Sec)} (h : IsRJ w j r N L B) (st k : Nat) (hst : st + k ≤ N) (t n : Int) (ht : 0 ≤ t ∧ t < 4294967296) (hn : 0 ≤ n ∧ n < 4294967296) :
    Calls Try.prog 62 #[pB j, .int .i64 st, .int .i64 ((st + k : Nat) : Int), .int .u32 t, .int .u32 n] w (RGroupPost t n (secs (vwR L B) st k) w) := by
  have hN := h.two
  cases k with
  | zero =>
    have E : Hid (Jo.readF t n (secs (vwR L B) st 0) = none) := rfl
    clear h
    rw [Nat.add_zero]
    go_enter Try.func62, Try.ntmps62
    go_wp2
    go_ret2
    exact ⟨⟨_, _, rfl, .inr ⟨E.out, rfl⟩⟩, Below.refl _ _⟩
  | succ k =>
    have HV := hid (fun i => h.2.1.sec i)
    have RR : Hid (∀ (i : Nat) (W : World), i < N → Below w.heap.size w W → Calls Try.prog 25 #[pD r, .int .i64 i] W fun e w' => e = .returned (.tuple #[secV (vwR L B (i : Int)), .int .i64 0]) ∧ Below W.heap.size W w') := fun i W hi hW => by
      have := rread_c (h.2.1.later hW) i hi
      have eS : (bufAt B i).getD (L.getD i zsec) = vwR L B (i : Int) := by unfold vwR; simp
      rw [eS] at this
      exact this
    have CJ : Hid (∀ W, Below w.heap.size w W → W.cell? ⟨j, 0, none⟩ = some (pD r)) := fun W hW => (h.later hW).cell
    have c0 := h.cell
    clear h
    generalize vwR L B = v at *
    have hs := HV.out (st : Int)
    have hb9 := Jo.bytes_getD hs.2 9
    have hb10 := at4_bd hs.2 10
    obtain ⟨q, hq⟩ : ∃ q : Nat, (v (st : Int)).getD 9 0 = q := ⟨((v (st : Int)).getD 9 0).toNat, by omega⟩
    obtain ⟨z, hz⟩ : ∃ z : Nat, Fr.at4 (v (st : Int)) 10 = z := ⟨(Fr.at4 (v (st : Int)) 10).toNat, by omega⟩
    rw [hq] at hb9
    rw [hz] at hb10
    have hqI : 0 ≤ (q : Int) ∧ (q : Int) < 256 := hb9
    have hzI : 0 ≤ (z : Int) ∧ (z : Int) < 4294967296 := hb10
    have hsF := Jo.first_sct t n hqI z
    have HQ := hid hq
    have HZ0 := hid hz
    obtain ⟨en, hen⟩ : ∃ en : Nat, en = st + (k + 1) := ⟨_, rfl⟩
    rw [← hen]
    have hltI : ¬ (en : Int) ≤ (st : Int) := by omega
    have hltI' : (st : Int) < (en : Int) := by omega
    have henN : en ≤ N := by omega
    have HEN := hid hen
    clear hen hst
    clear hb9 hb10
    go_enter Try.func62, Try.ntmps62
    go_wp2_with fail
    refine (RR.out st w (by omega) (Below.refl _ _)).mono ?_
    rintro _ w1 ⟨rfl, hb1⟩
    have zz := zlit
    have zn : ¬ zsec = [] := by decide
    have hx1 : Bx (w1.alloc (.cells ((v (st : Int)).map by8).toArray 36)) w1.heap.size 36 (v (st : Int)) := heap_alloc_new w1 _
    have c9 : (w1.alloc (.cells ((v (st : Int)).map by8).toArray 36)).cell? ⟨w1.heap.size, 9, none⟩ = some (.int .u8 q) := by
      have := bx_cell hx1 9 (by rw [hs.1]; omega)
      rw [hq] at this; exact this
    have HI1 := hid (bx_isB hx1 hs.2 10 4 (by rw [hs.1]; omega) (by decide))
    have HR1 := hid (range_sec hx1)
    have hb1' : Below w.heap.size w (w1.alloc (.cells ((v (st : Int)).map by8).toArray 36)) := hb1.alloc hb1.size _
    have HB1 := hid hb1'
    have hsS := hs.1
    clear hb1' hx1 hb1 hq hz
    go_wp2_with (first
      | (refine wpList_storeS _ rfl _ _ _ rfl sizeR5 _ rfl (by simp) (v (st : Int)) rfl hsS _ (by simp; decide) ?_)
      | (go_at_call 60; refine (rnum_c _ 4 _ _ _ HI1.out (by omega)).mono ?_; rintro _ w2 ⟨rfl, hb2⟩; rw [at4_drop, HZ0.out]))
    have HRG := hid (range_later HR1.out hb2)
    have HB2 := hid (HB1.out.trans (hb2.mono HB1.out.size))
    clear HR1 HI1 hb2 c9
    cases hf : (v (st : Int) != Jo.firstS t n q z) with
    | true =>
      have E := hid (no_first (t := t) (n := n) (k := k) HV.out (st := st) (by rw [HQ.out, HZ0.out]; simpa using hf))
      have HF := hid hf
      clear hf
      refine wp_region_class (by kernel_rfl) (by kernel_rfl) ?_
      repeat (first
        | go_big_quiet_skip
        | (go_big_quiet_want
           apply quiet_by
           · intro w4 hw4
             exact qload _ 36 _ rfl rfl (qsecR (range_later HRG.out hw4) hs.1) hw4
           · go_simp; rfl
           go_big_quiet_on)
        | (go_big_quiet_want
           apply quiet_by
           · intro w4 hw4
             exact qconvI _ z rfl rfl (by omega) hw4
           · go_simp; rfl
           go_big_quiet_on)
        | (go_big_quiet_want
           apply quiet_by
           · intro w4 hw4
             exact qneqR _ _ _ (v (st : Int)) (Jo.firstS t n q z) rfl rfl rfl (sct_sec hs) (sct_sec hsF) _ HF.out hw4
           · go_simp; rfl
           go_big_quiet_on)
        | (go_big_quiet_want
           apply quiet_by
           · intro w4 hw4
             go_simp
             first
               | rfl
               | (go_at_call 81; exact class_of hw4 (rfirst_c t n q z _ ht hn hqI hzI))
           · go_simp; rfl
           go_big_quiet_on))
      refine wpQuiet_nil ?_
      intro w12 hw12
      go_wp2
      go_ret2
      exact ⟨⟨_, _, rfl, .inr ⟨E.out, rfl⟩⟩, HB2.out.trans (hw12.mono HB2.out.size)⟩
    | false =>
      have HF := hid hf
      have HFE : Hid (v (st : Int) = Jo.firstS t n q z) := by show _ = _; simpa using hf
      clear hf
      by_cases h1 : q < 1
      · have E := hid (no_few (t := t) (n := n) (k := k) HV.out (st := st) (by rw [HQ.out]; omega))
        have H1 := hid (show decide ((q : Int) < 1) = true from decide_eq_true (by omega))
        refine wp_region_class (by kernel_rfl) (by kernel_rfl) ?_
        repeat (first
          | go_big_quiet_skip
          | (go_big_quiet_want
             apply quiet_by
             · intro w4 hw4
               exact qload _ 36 _ rfl rfl (qsecR (range_later HRG.out hw4) hs.1) hw4
             · go_simp; rfl
             go_big_quiet_on)
          | (go_big_quiet_want
             apply quiet_by
             · intro w4 hw4
               exact qconvI _ z rfl rfl (by omega) hw4
             · go_simp; rfl
             go_big_quiet_on)
          | (go_big_quiet_want
             apply quiet_by
             · intro w4 hw4
               exact qneqR _ _ _ (v (st : Int)) (Jo.firstS t n q z) rfl rfl rfl (sct_sec hs) (sct_sec hsF) _ HF.out hw4
             · go_simp; rfl
             go_big_quiet_on)
          | (go_big_quiet_want
             apply quiet_by
             · intro w4 hw4
               exact qlssI _ _ _ q 1 rfl rfl rfl _ H1.out hw4
             · go_simp; rfl
             go_big_quiet_on)
          | (go_big_quiet_want
             apply quiet_by
             · intro w4 hw4
               go_simp
               first
                 | rfl
                 | (go_at_call 81; exact class_of hw4 (rfirst_c t n q z _ ht hn hqI hzI))
             · go_simp; rfl
             go_big_quiet_on))
        refine wpQuiet_nil ?_
        intro w12 hw12
        go_wp2
        go_ret2
        exact ⟨⟨_, _, rfl, .inr ⟨E.out, rfl⟩⟩, HB2.out.trans (hw12.mono HB2.out.size)⟩
      · have H1 := hid (show decide ((q : Int) < 1) = false from decide_eq_false (by omega))
        by_cases h8 : 8 < q
        · have E := hid (no_few (t := t) (n := n) (k := k) HV.out (st := st) (by rw [HQ.out]; omega))
          have H8 := hid (show decide ((8 : Int) < q) = true from decide_eq_true (by omega))
          refine wp_region_class (by kernel_rfl) (by kernel_rfl) ?_
          repeat (first
            | go_big_quiet_skip
            | (go_big_quiet_want
               apply quiet_by
               · intro w4 hw4
                 exact qload _ 36 _ rfl rfl (qsecR (range_later HRG.out hw4) hs.1) hw4
               · go_simp; rfl
               go_big_quiet_on)
            | (go_big_quiet_want
               apply quiet_by
               · intro w4 hw4
                 exact qconvI _ z rfl rfl (by omega) hw4
               · go_simp; rfl
               go_big_quiet_on)
            | (go_big_quiet_want
               apply quiet_by
               · intro w4 hw4
                 exact qneqR _ _ _ (v (st : Int)) (Jo.firstS t n q z) rfl rfl rfl (sct_sec hs) (sct_sec hsF) _ HF.out hw4
               · go_simp; rfl
               go_big_quiet_on)
            | (go_big_quiet_want
               apply quiet_by
               · intro w4 hw4
                 exact qlssI _ _ _ q 1 rfl rfl rfl _ H1.out hw4
               · go_simp; rfl
               go_big_quiet_on)
            | (go_big_quiet_want
               apply quiet_by
               · intro w4 hw4
                 exact qgtrI _ _ _ q 8 rfl rfl rfl _ H8.out hw4
               · go_simp; rfl
               go_big_quiet_on)
            | (go_big_quiet_want
               apply quiet_by
               · intro w4 hw4
                 go_simp
                 first
                   | rfl
                   | (go_at_call 81; exact class_of hw4 (rfirst_c t n q z _ ht hn hqI hzI))
               · go_simp; rfl
               go_big_quiet_on))
          refine wpQuiet_nil ?_
          intro w12 hw12
          go_wp2
          go_ret2
          exact ⟨⟨_, _, rfl, .inr ⟨E.out, rfl⟩⟩, HB2.out.trans (hw12.mono HB2.out.size)⟩
        · have H8 := hid (show decide ((8 : Int) < q) = false from decide_eq_false (by omega))
          by_cases hr : 31 * (k + 1) < z
          · have E := hid (no_room (t := t) (n := n) HV.out HZ0.out hr)
            have HZ := hid (show decide (((31 * (k + 1) : Nat) : Int) < z) = true from decide_eq_true (by omega))
            refine wp_region_class (by kernel_rfl) (by kernel_rfl) ?_
            repeat (first
              | go_big_quiet_skip
              | (go_big_quiet_want
                 apply quiet_by
                 · intro w4 hw4
                   exact qload _ 36 _ rfl rfl (qsecR (range_later HRG.out hw4) hs.1) hw4
                 · go_simp; rfl
                 go_big_quiet_on)
              | (go_big_quiet_want
                 apply quiet_by
                 · intro w4 hw4
                   exact qconvI _ z rfl rfl (by omega) hw4
                 · go_simp; rfl
                 go_big_quiet_on)
              | (go_big_quiet_want
                 apply quiet_by
                 · intro w4 hw4
                   exact qneqR _ _ _ (v (st : Int)) (Jo.firstS t n q z) rfl rfl rfl (sct_sec hs) (sct_sec hsF) _ HF.out hw4
                 · go_simp; rfl
                 go_big_quiet_on)
              | (go_big_quiet_want
                 apply quiet_by
                 · intro w4 hw4
                   exact qlssI _ _ _ q 1 rfl rfl rfl _ H1.out hw4
                 · go_simp; rfl
                 go_big_quiet_on)
              | (go_big_quiet_want
                 apply quiet_by
                 · intro w4 hw4
                   exact qgtrI _ _ _ q 8 rfl rfl rfl _ H8.out hw4
                 · go_simp; rfl
                 go_big_quiet_on)
              | (go_big_quiet_want
                 apply quiet_by
                 · intro w4 hw4
                   exact qsubI _ _ _ en st (k + 1) rfl rfl rfl HEN.out (by omega) hw4
                 · go_simp; rfl
                 go_big_quiet_on)
              | (go_big_quiet_want
                 apply quiet_by
                 · intro w4 hw4
                   exact qmulI _ _ _ 31 (k + 1) (31 * (k + 1)) rfl rfl rfl rfl (by have := HEN.out; omega) hw4
                 · go_simp; rfl
                 go_big_quiet_on)
              | (go_big_quiet_want
                 apply quiet_by
                 · intro w4 hw4
                   exact qconvU _ (31 * (k + 1)) rfl rfl (by have := HEN.out; omega) hw4
                 · go_simp; rfl
                 go_big_quiet_on)
              | (go_big_quiet_want
                 apply quiet_by
                 · intro w4 hw4
                   exact qgtr64 _ _ _ z (31 * (k + 1) : Nat) rfl rfl rfl _ HZ.out hw4
                 · go_simp; rfl
                 go_big_quiet_on)
              | (go_big_quiet_want
                 apply quiet_by
                 · intro w4 hw4
                   go_simp
                   first
                     | rfl
                     | (go_at_call 81; exact class_of hw4 (rfirst_c t n q z _ ht hn hqI hzI))
                 · go_simp; rfl
                 go_big_quiet_on))
            refine wpQuiet_nil ?_
            intro w12 hw12
            go_wp2
            go_ret2
            exact ⟨⟨_, _, rfl, .inr ⟨E.out, rfl⟩⟩, HB2.out.trans (hw12.mono HB2.out.size)⟩
          · have HZ := hid (show decide (((31 * (k + 1) : Nat) : Int) < z) = false from decide_eq_false (by omega))
            refine wp_region_class (by kernel_rfl) (by kernel_rfl) ?_
            repeat (first
              | go_big_quiet_skip
              | (go_big_quiet_want
                 apply quiet_by
                 · intro w4 hw4
                   exact qload _ 36 _ rfl rfl (qsecR (range_later HRG.out hw4) hs.1) hw4
                 · go_simp; rfl
                 go_big_quiet_on)
              | (go_big_quiet_want
                 apply quiet_by
                 · intro w4 hw4
                   exact qconvI _ z rfl rfl (by omega) hw4
                 · go_simp; rfl
                 go_big_quiet_on)
              | (go_big_quiet_want
                 apply quiet_by
                 · intro w4 hw4
                   exact qneqR _ _ _ (v (st : Int)) (Jo.firstS t n q z) rfl rfl rfl (sct_sec hs) (sct_sec hsF) _ HF.out hw4
                 · go_simp; rfl
                 go_big_quiet_on)
              | (go_big_quiet_want
                 apply quiet_by
                 · intro w4 hw4
                   exact qlssI _ _ _ q 1 rfl rfl rfl _ H1.out hw4
                 · go_simp; rfl
                 go_big_quiet_on)
              | (go_big_quiet_want
                 apply quiet_by
                 · intro w4 hw4
                   exact qgtrI _ _ _ q 8 rfl rfl rfl _ H8.out hw4
                 · go_simp; rfl
                 go_big_quiet_on)
              | (go_big_quiet_want
                 apply quiet_by
                 · intro w4 hw4
                   exact qsubI _ _ _ en st (k + 1) rfl rfl rfl HEN.out (by omega) hw4
                 · go_simp; rfl
                 go_big_quiet_on)
              | (go_big_quiet_want
                 apply quiet_by
                 · intro w4 hw4
                   exact qmulI _ _ _ 31 (k + 1) (31 * (k + 1)) rfl rfl rfl rfl (by have := HEN.out; omega) hw4
                 · go_simp; rfl
                 go_big_quiet_on)
              | (go_big_quiet_want
                 apply quiet_by
                 · intro w4 hw4
                   exact qconvU _ (31 * (k + 1)) rfl rfl (by have := HEN.out; omega) hw4
                 · go_simp; rfl
                 go_big_quiet_on)
              | (go_big_quiet_want
                 apply quiet_by
                 · intro w4 hw4
                   exact qgtr64 _ _ _ z (31 * (k + 1) : Nat) rfl rfl rfl _ HZ.out hw4
                 · go_simp; rfl
                 go_big_quiet_on)
              | (go_big_quiet_want
                 apply quiet_by
                 · intro w4 hw4
                   go_simp
                   first
                     | rfl
                     | (go_at_call 81; exact class_of hw4 (rfirst_c t n q z _ ht hn hqI hzI))
                 · go_simp; rfl
                 go_big_quiet_on))
            refine wpQuiet_nil ?_
            intro w12 hw12
            have HB3 := hid (HB2.out.trans (hw12.mono HB2.out.size))
            have c12 := CJ.out _ HB3.out
            have hmI : ((z : Int) + 30) / 31 = (Jo.many z : Nat) := by unfold Jo.many; omega
            have HM := hid hmI
            have hml := Jo.many_le z
            by_cases hfit : k ≤ Jo.many z
            · have E := hid (no_fits (t := t) (n := n) HV.out HZ0.out hfit)
              have hge : (en : Int) ≤ (st : Int) + 1 + ((z : Int) + 30) / 31 := by have := HEN.out; omega
              clear hmI HB2 hw12
              go_wp2
              go_ret2
              exact ⟨⟨_, _, rfl, .inr ⟨E.out, rfl⟩⟩, HB3.out⟩
            · have hge : ¬ (en : Int) ≤ (st : Int) + 1 + ((z : Int) + 30) / 31 := by have := HEN.out; omega
              have hsum : (st : Int) + 1 + ((z : Int) + 30) / 31 < 9223372036854775808 := by omega
              have hmk : Jo.many z < k := by omega
              have hke : st + 1 + k ≤ N := by have := HEN.out; omega
              clear hfit hmI HB2 hw12 HRG
              go_wp2
              rw [HM.out]
              clear HM hge hsum
              have NM := hid (fun i hi hf => no_mark (t := t) (n := n) (k := k) (i := i) HV.out HZ0.out hmk hi hf)
              have NZ := hid (fun i hi hf => no_zero (t := t) (n := n) (k := k) (i := i) HV.out HZ0.out hmk hi hf)
              have NL := hid (fun hf => no_last (t := t) (n := n) (k := k) HV.out HZ0.out hmk hf)
              have NP := hid (fun hf => no_parts (t := t) (n := n) (k := k) HV.out HQ.out HZ0.out hmk hf)
              have NN := hid (fun g hp hf => no_need (t := t) (n := n) (k := k) HV.out HQ.out HZ0.out hmk (g := g) hp hf)
              have YY := hid (fun g h2 h3 h5 h6 h7 h8 h9 => read_yes (t := t) (n := n) (k := k) HV.out (g := g) HQ.out HZ0.out HFE.out h2 h3 hmk h5 h6 h7 h8 h9)
              generalize hmz : Jo.many z = m at *
              clear hmz
              go_loopw [17, 18] (fun b i wr => ∃ p : Nat, p ≤ m ∧ i = .int .i64 p ∧ Hid (wr.ownsRow w.heap.size 5 1 b (31 * p) ((bodyR (secs v (st + 1) p)).map by8)) ∧ Hid (∀ y, y < p → (v ((st + 1 + y : Nat) : Int)).getD 0 0 = 68) ∧ Hid (Below w.heap.size w wr)) (fun _ i _ => m - (intOf i).toNat)
              case atStart => exact ⟨0, Nat.zero_le _, rfl, World.ownsRow_nil _ _ 5 1, (fun y hy => by omega), HB3⟩
              case round =>
                obtain ⟨p, hpm, rfl, HO, HMK, HB⟩ := hrel
                have cj := CJ.out _ HB.out
                obtain ⟨ba, bc, rfl⟩ := own_shape6 HO.out
                by_cases hlt : p < m
                · have RC := RR.out (st + 1 + p) wr (by omega) HB.out
                  have hs3 := HV.out ((st + 1 + p : Nat) : Int)
                  have HBS := hid (body_snoc v (st + 1) p)
                  have NMP := hid (fun hf => NM.out p hlt hf)
                  have HMN : Hid ((v ((st + 1 + p : Nat) : Int)).getD 0 0 = 68 → ∀ y, y < p + 1 → (v ((st + 1 + y : Nat) : Int)).getD 0 0 = 68) := fun e y hy => by
                    by_cases hy2 : y < p
                    · exact HMK.out y hy2
                    · rw [show y = p by omega]; exact e
                  generalize v ((st + 1 + p : Nat) : Int) = s at *
                  have ei : ((st + 1 + p : Nat) : Int) = (st : Int) + 1 + p := by omega
                  rw [ei] at RC
                  have RCH := hid RC
                  have hltI : (p : Int) < (m : Int) := by omega
                  clear RC ei
                  go_wp2_with fail
                  refine RCH.out.mono ?_
                  rintro _ w3 ⟨rfl, hb3⟩
                  have zz := zlit
                  have zn : ¬ zsec = [] := by decide
                  have hx3 : Bx (w3.alloc (.cells (s.map by8).toArray 36)) w3.heap.size 36 s := heap_alloc_new w3 _
                  have c3 : (w3.alloc (.cells (s.map by8).toArray 36)).cell? ⟨w3.heap.size, 0, none⟩ = some (.int .u8 (s.getD 0 0)) := bx_cell hx3 0 (by rw [hs3.1]; omega)
                  have HI3 : Hid (IsB (w3.alloc (.cells (s.map by8).toArray 36)) (some ⟨w3.heap.size, 1, none⟩) 31 (s.drop 1)) := by
                    have := bx_isB hx3 hs3.2 1 31 (by rw [hs3.1]; omega) (by decide)
                    rw [List.take_of_length_le (by rw [List.length_drop, hs3.1]; omega)] at this
                    exact this
                  have hb4 : Below w3.heap.size w3 (w3.alloc (.cells (s.map by8).toArray 36)) := (Below.refl _ _).alloc (Nat.le_refl _) _
                  have HO4 := hid (row_lat (row_lat HO.out hb3) hb4)
                  have HB4 := hid ((HB.out.trans (hb3.mono HB.out.size)).trans (hb4.mono (Nat.le_trans HB.out.size hb3.size)))
                  have hsS3 := hs3.1
                  clear hx3 hb4 hb3 HO RCH
                  by_cases hm0 : s.getD 0 0 = 68
                  · rw [hm0] at c3
                    have HNX := hid (HMN.out hm0)
                    clear hm0
                    go_wp2_with (first
                      | (refine wpList_storeS _ rfl _ _ _ rfl sizeR5 _ rfl (by simp) s rfl hsS3 _ (by simp; decide) ?_)
                      | (at_builtin; refine wpList_appendB _ rfl _ _ rfl w.heap.size _ _ _ rfl HO4.out (some ⟨w3.heap.size, 1, none⟩) 31 31 (s.drop 1) rfl HI3.out (fun e => by cases e) (by omega) (by have := HB4.out.size; simp at this ⊢; omega) ?_; intro v5 w5 hown5 hgrow5))
                    have HB5 := hid (below_grown HB4.out HO4.out (Nat.le_refl _) (by have := HB4.out.size; simp at this ⊢; omega) hgrow5)
                    have HO5 : Hid (w5.ownsRow w.heap.size 5 1 v5 (31 * (p + 1)) ((bodyR (secs v (st + 1) (p + 1))).map by8)) := by
                      show World.ownsRow _ _ _ _ _ _ _
                      rw [HBS.out, List.map_append, show 31 * (p + 1) = 31 * p + 31 by omega]
                      exact hown5
                    obtain ⟨a5, cc5, rfl⟩ := own_shape6 hown5
                    clear hown5 hgrow5
                    go_roundw
                    case rel => exact ⟨p + 1, by omega, by go_num, HO5, HNX, HB5⟩
                    case measure => simp [intOf]; omega
                  · have E := hid (NMP.out hm0)
                    generalize s.getD 0 0 = x at *
                    have hxB : (x != 68) = true := by simpa using hm0
                    have hxB2 : (x == 68) = false := by simpa using hm0
                    go_wp2_with (refine wpList_storeS _ rfl _ _ _ rfl sizeR5 _ rfl (by simp) s rfl hsS3 _ (by simp; decide) ?_)
                    go_ret2
                    exact ⟨⟨_, _, rfl, .inr ⟨E.out, rfl⟩⟩, HB4.out⟩
                · have epm : p = m := by omega
                  subst epm
                  clear hlt hpm
                  have hbl := body_secs HV.out (st + 1) p
                  have hbb : Jo.Bytes (bodyR (secs v (st + 1) p)) := bytes_body (secs_sct HV.out _ _)
                  obtain ⟨D, hD⟩ : ∃ D, D = bodyR (secs v (st + 1) p) := ⟨_, rfl⟩
                  rw [← hD] at hbl hbb HO NZ NP NN YY
                  have HO9 : wr.ownsRow w.heap.size 5 1 (.slice ba (31 * p) bc) D.length (D.map by8) := by rw [hbl]; exact HO.out
                  have hcm : bc ≤ 9223372036854775807 := by
                    rcases HO9.2 with ⟨he, _⟩ | ⟨_, _, _, he, _, _, _, hc, _⟩
                    · have := (Value.slice.inj he).2.2; omega
                    · have := (Value.slice.inj he).2.2; unfold maxLen at hc; omega
                  obtain ⟨ba', bc', he9, hI9, hlc9, hnc9, _⟩ := own_isB HO9 hbb
                  rw [hbl] at he9 hI9 hlc9
                  cases he9
                  have HI9 := hid hI9
                  have hD31 : 31 * p ≤ 70000 := by omega
                  clear HO9 hI9 HO hD
                  go_wp2
                  go_loopw [21] (fun i wr' => ∃ y : Nat, z ≤ y ∧ y ≤ 31 * p ∧ i = .int .i64 y ∧ Hid (∀ x, z ≤ x → x < y → D.getD x 0 = 0) ∧ wr' = wr) (fun i _ => ((31 * p : Nat) - intOf i).toNat)
                  case atStart => exact ⟨z, Nat.le_refl _, hml.2, rfl, (fun x h1 h2 => by omega), rfl⟩
                  case round =>
                    obtain ⟨y, hzy, hy, rfl, HZR, rfl⟩ := hrel
                    by_cases hlt : y < 31 * p
                    · obtain ⟨bb, bo, rfl, hcell⟩ := HI9.out.2.2.1 (by omega)
                      have cy := hcell y hlt
                      clear hcell
                      have hltI : (y : Int) < ((31 * p : Nat) : Int) := by omega
                      by_cases h0 : D.getD y 0 = 0
                      · rw [h0] at cy
                        have HZN : Hid (∀ x, z ≤ x → x < y + 1 → D.getD x 0 = 0) := fun x h1 h2 => by
                          by_cases hx : x < y
                          · exact HZR.out x h1 hx
                          · rw [show x = y by omega]; exact h0
                        clear h0
                        go_wp2
                        go_roundw
                        case rel => exact ⟨y + 1, by omega, by omega, by go_num, HZN, by first | rfl | trivial⟩
                        case measure => simp [intOf]; omega
                      · have E := hid (NZ.out y hzy h0)
                        generalize D.getD y 0 = x at *
                        have hxB : (x != 0) = true := by simpa using h0
                        have hxB2 : (x == 0) = false := by simpa using h0
                        go_wp2
                        go_ret2
                        exact ⟨⟨_, _, rfl, .inr ⟨E.out, rfl⟩⟩, HB.out⟩
                    · have ey : y = 31 * p := by omega
                      subst ey
                      have RC := RR.out (st + 1 + p) wr (by omega) HB.out
                      have hsc := HV.out ((st + 1 + p : Nat) : Int)
                      generalize v ((st + 1 + p : Nat) : Int) = sc at *
                      have ei : ((st + 1 + p : Nat) : Int) = (st : Int) + 1 + p := by omega
                      rw [ei] at RC
                      have RCH := hid RC
                      have hsL := Jo.last_sct t n
                      have hge : ¬ ((31 * p : Nat) : Int) < ((31 * p : Nat) : Int) := by omega
                      clear RC ei
                      go_wp2_with fail
                      refine RCH.out.mono ?_
                      rintro _ w6 ⟨rfl, hb6⟩
                      have zz := zlit
                      have zn : ¬ zsec = [] := by decide
                      have hx6 : Bx (w6.alloc (.cells (sc.map by8).toArray 36)) w6.heap.size 36 sc := heap_alloc_new w6 _
                      have HR6 := hid (range_sec hx6)
                      have hb7 : Below w6.heap.size w6 (w6.alloc (.cells (sc.map by8).toArray 36)) := (Below.refl _ _).alloc (Nat.le_refl _) _
                      have HB7 := hid ((HB.out.trans (hb6.mono HB.out.size)).trans (hb7.mono (Nat.le_trans HB.out.size hb6.size)))
                      have hzc : (z : Int) ≤ bc := by omega
                      have PC := hid (rparts_c ba z bc q (D.take z) _ ((((HI9.out.later hb6).later hb7)).front z hml.2) (by omega) (by omega) ⟨hcm, by omega⟩)
                      have hsSc := hsc.1
                      clear hx6 hb7 hb6 RCH
                      go_wp2_with (first
                        | (refine wpList_storeS _ rfl _ _ _ rfl sizeR5 _ rfl (by simp) sc rfl hsSc _ (by simp; decide) ?_)
                        | (go_at_call 82; refine PC.out.mono ?_; rintro _ w8 ⟨⟨gv, ok, rfl, hcase⟩, hb8⟩))
                      have HRC := hid (range_later HR6.out hb8)
                      have HB8 := hid (HB7.out.trans (hb8.mono HB7.out.size))
                      rcases hcase with ⟨g, hg, rfl, hP⟩ | ⟨hg, rfl⟩
                      · have HPG := hid (hP.base HB7.out.size)
                        have HGG := hid hg
                        obtain ⟨ga, gc, rfl, hG0⟩ := hP.isG0 (by have := parts_len _ _ _ hg; omega)
                        have HG0 := hid hG0
                        clear hP hG0 hg hb8
                        cases hl : (sc == Jo.lastS t n) with
                        | false =>
                          have E := hid (NL.out (by simpa using hl))
                          have HL := hid hl
                          clear hl
                          refine wp_region_class (by kernel_rfl) (by kernel_rfl) ?_
                          repeat (first
                            | go_big_quiet_skip
                            | (go_big_quiet_want
                               apply quiet_by
                               · intro w4 hw4
                                 exact qload _ 36 _ rfl rfl (qsecR (range_later HRC.out hw4) hsc.1) hw4
                               · go_simp; rfl
                               go_big_quiet_on)
                            | (go_big_quiet_want
                               apply quiet_by
                               · intro w4 hw4
                                 exact qeqR _ _ _ sc (Jo.lastS t n) rfl rfl rfl (sct_sec hsc) (sct_sec hsL) _ HL.out hw4
                               · go_simp; rfl
                               go_big_quiet_on)
                            | (go_big_quiet_want
                               apply quiet_by
                               · intro w4 hw4
                                 go_simp
                                 first
                                   | rfl
                                   | (go_at_call 83; exact class_of hw4 (rlast_c t n _ ht hn))
                               · go_simp; rfl
                               go_big_quiet_on))
                          refine wpQuiet_nil ?_
                          intro w12 hw12
                          go_wp2
                          go_ret2
                          exact ⟨⟨_, _, rfl, .inr ⟨E.out, rfl⟩⟩, HB8.out.trans (hw12.mono HB8.out.size)⟩
                        | true =>
                          have HLE : Hid (sc = Jo.lastS t n) := by show _ = _; simpa using hl
                          have HL := hid hl
                          clear hl
                          have hnl := need_le g
                          by_cases hne : Jo.needF g = p + 2
                          · have E := hid (YY.out g (by omega) (by omega) (fun i hi => HMK.out i hi) (fun i h1 h2 => HZR.out i h1 h2) HLE.out HGG.out hne)
                            have HN : Hid ((((Jo.needF g : Nat) : Int) == ((p + 2 : Nat) : Int)) = true) := by show _ = _; rw [hne]; simp
                            refine wp_region_class (by kernel_rfl) (by kernel_rfl) ?_
                            repeat (first
                              | go_big_quiet_skip
                              | (go_big_quiet_want
                                 apply quiet_by
                                 · intro w4 hw4
                                   exact qload _ 36 _ rfl rfl (qsecR (range_later HRC.out hw4) hsc.1) hw4
                                 · go_simp; rfl
                                 go_big_quiet_on)
                              | (go_big_quiet_want
                                 apply quiet_by
                                 · intro w4 hw4
                                   exact qeqR _ _ _ sc (Jo.lastS t n) rfl rfl rfl (sct_sec hsc) (sct_sec hsL) _ HL.out hw4
                                 · go_simp; rfl
                                 go_big_quiet_on)
                              | (go_big_quiet_want
                                 apply quiet_by
                                 · intro w4 hw4
                                   exact qaddI _ _ _ p 2 (p + 2) rfl rfl rfl rfl (by omega) hw4
                                 · go_simp; rfl
                                 go_big_quiet_on)
                              | (go_big_quiet_want
                                 apply quiet_by
                                 · intro w4 hw4
                                   exact qeqlI _ _ _ (Jo.needF g : Nat) (p + 2 : Nat) rfl rfl rfl _ HN.out hw4
                                 · go_simp; rfl
                                 go_big_quiet_on)
                              | (go_big_quiet_want
                                 apply quiet_by
                                 · intro w4 hw4
                                   go_simp
                                   first
                                     | rfl
                                     | (go_at_call 83; exact class_of hw4 (rlast_c t n _ ht hn))
                                     | (go_at_call 63; exact class_same hw4 (rneed_c ga _ gc g _ ((HG0.out.later hw4).isG)))
                                 · go_simp; rfl
                                 go_big_quiet_on))
                            refine wpQuiet_nil ?_
                            intro w12 hw12
                            go_wp2
                            go_ret2
                            exact ⟨⟨_, _, rfl, .inl ⟨g, E.out, rfl, HPG.out.later hw12⟩⟩, HB8.out.trans (hw12.mono HB8.out.size)⟩
                          · have E := hid (NN.out g HGG.out hne)
                            have HN : Hid ((((Jo.needF g : Nat) : Int) == ((p + 2 : Nat) : Int)) = false) := by show _ = _; simp; omega
                            refine wp_region_class (by kernel_rfl) (by kernel_rfl) ?_
                            repeat (first
                              | go_big_quiet_skip
                              | (go_big_quiet_want
                                 apply quiet_by
                                 · intro w4 hw4
                                   exact qload _ 36 _ rfl rfl (qsecR (range_later HRC.out hw4) hsc.1) hw4
                                 · go_simp; rfl
                                 go_big_quiet_on)
                              | (go_big_quiet_want
                                 apply quiet_by
                                 · intro w4 hw4
                                   exact qeqR _ _ _ sc (Jo.lastS t n) rfl rfl rfl (sct_sec hsc) (sct_sec hsL) _ HL.out hw4
                                 · go_simp; rfl
                                 go_big_quiet_on)
                              | (go_big_quiet_want
                                 apply quiet_by
                                 · intro w4 hw4
                                   exact qaddI _ _ _ p 2 (p + 2) rfl rfl rfl rfl (by omega) hw4
                                 · go_simp; rfl
                                 go_big_quiet_on)
                              | (go_big_quiet_want
                                 apply quiet_by
                                 · intro w4 hw4
                                   exact qeqlI _ _ _ (Jo.needF g : Nat) (p + 2 : Nat) rfl rfl rfl _ HN.out hw4
                                 · go_simp; rfl
                                 go_big_quiet_on)
                              | (go_big_quiet_want
                                 apply quiet_by
                                 · intro w4 hw4
                                   go_simp
                                   first
                                     | rfl
                                     | (go_at_call 83; exact class_of hw4 (rlast_c t n _ ht hn))
                                     | (go_at_call 63; exact class_same hw4 (rneed_c ga _ gc g _ ((HG0.out.later hw4).isG)))
                                 · go_simp; rfl
                                 go_big_quiet_on))
                            refine wpQuiet_nil ?_
                            intro w12 hw12
                            go_wp2
                            go_ret2
                            exact ⟨⟨_, _, rfl, .inr ⟨E.out, rfl⟩⟩, HB8.out.trans (hw12.mono HB8.out.size)⟩
                      · have E := hid (NP.out hg)
                        clear hg hb8
                        refine wp_region_class (by kernel_rfl) (by kernel_rfl) ?_
                        repeat (first
                          | go_big_quiet_skip
                          | (go_big_quiet_want
                             apply quiet_by
                             · intro w4 hw4
                               go_simp
                               first
                                 | rfl
                             · go_simp; rfl
                             go_big_quiet_on))
                        refine wpQuiet_nil ?_
                        intro w12 hw12
                        go_wp2
                        go_ret2
                        exact ⟨⟨_, _, rfl, .inr ⟨E.out, rfl⟩⟩, HB8.out.trans (hw12.mono HB8.out.size)⟩
end Go.Proofs.Ytfmkgflhgapeoab
namespace Go.Proofs.Ytfmkgflhgapeoab
open Go.RowKit Go.ChangeShapes Go.WideShapes Go.ChangeAt Go.Maps
set_option linter.unusedVariables false
set_option linter.unusedSimpArgs false
theorem secs_drop (v : Int → Sec) (st n m : Nat) : (secs v st n).drop m = secs v (st + m) (n - m) := by
  unfold secs
  apply List.ext_getElem?
  intro i
  rw [List.getElem?_drop]
  simp only [List.getElem?_map, List.getElem?_range']
  by_cases h : i < n - m
  · rw [List.getElem?_range (by omega), List.getElem?_range h]
    simp only [Option.map_some]
    congr 2
    omega
  · rw [List.getElem?_eq_none (by simp; omega), List.getElem?_eq_none (by simp; omega)]; rfl
theorem PG.grown {B : Nat} {w w' : World} {v u : Value} {n : Nat} {vals : List Value} {x : Jo.Gr} (hv : w.ownsRow B 22 1 v n vals) (hu : PG B w u x) (hg : w.grownBy w' v.ownBlock) : PG B w' u x := by
  have nrow : ∀ (q : Nat) (cur : Array Value) (e : TypeId) (fr : Nat × Nat), e ≠ 22 → w.heap[q]? = some (Obj.cells cur e fr) → v.ownBlock ≠ some q := fun q cur e fr he hq hb => by
    obtain ⟨cur', e'⟩ := own_cells hv q hb
    rw [e'] at hq; have := Option.some.inj hq; injection this with a b c; exact he b.symm
  refine hu.far fun q cur fr hq => ?_
  rcases hq with hq | hq
  · exact hg.block q (lt_blk hq) (fun e => nrow _ _ _ _ (by decide) hq e.symm)
  · exact hg.block q (lt_blk hq) (fun e => nrow _ _ _ _ (by decide) hq e.symm)
theorem PGs.snoc {B : Nat} {w w' : World} {v v' u : Value} {gs : List Jo.Gr} {g : Jo.Gr} {vals : List Value} (hv : w.ownsRow B 22 1 v gs.length vals) (h2 : ∀ i, i < gs.length → ∃ u, vals[i]? = some u ∧ PG B w u (gs.getD i []))
    (hu : PG B w u g) (hg : w.grownBy w' v.ownBlock) (hown : w'.ownsRow B 22 1 v' (gs.length + 1) (vals ++ [u])) : PGs B w' v' (gs ++ [g]) := by
  have hvl : vals.length = gs.length := by simpa using hv.1
  refine ⟨vals ++ [u], by simpa using hown, fun i hi => ?_⟩
  by_cases hlt : i < gs.length
  · obtain ⟨x, e1, e2⟩ := h2 i hlt
    have e : (gs ++ [g]).getD i [] = gs.getD i [] := by simp [List.getD, List.getElem?_append_left hlt]
    rw [e]
    exact ⟨x, by rw [List.getElem?_append_left (by omega)]; exact e1, e2.grown hv hg⟩
  · have ei : i = gs.length := by simp at hi; omega
    subst ei
    have e : (gs ++ [g]).getD gs.length [] = g := by simp [List.getD]
    rw [e]
    exact ⟨u, by rw [← hvl]; simp, hu.grown hv hg⟩
theorem grpsR_end {v : Int → Sec} {N : Nat} (hs : ∀ i, Jo.Sct (v i)) : arEnd v N ≤ arSt v N + asz N := by
  have key : ∀ (m : Nat) (n : Int) (ss : List (List Int)), (∀ s ∈ ss, Jo.Sct s) → sumN (Jo.groupsF (best v 2).2 m n ss) ≤ ss.length := by
    intro m
    induction m with
    | zero => intro n ss _; simp [Jo.groupsF, sumN]
    | succ m ih =>
      intro n ss hss
      unfold Jo.groupsF
      cases hr : Jo.readF (best v 2).2 n ss with
      | none => simp [sumN]
      | some g =>
        have h2 := need_two hr hss
        have := ih (n + 1) (ss.drop (Jo.needF g)) (fun s hm => hss s (List.mem_of_mem_drop hm))
        have e : sumN (g :: Jo.groupsF (best v 2).2 m (n + 1) (ss.drop (Jo.needF g))) = Jo.needF g + sumN (Jo.groupsF (best v 2).2 m (n + 1) (ss.drop (Jo.needF g))) := by unfold sumN; simp
        simp only
        rw [e]
        rw [List.length_drop] at this
        omega
  unfold arEnd grps allG
  have := key ((secs v (2 + (best v 2).1 * asz N) (asz N)).length + 1) 1 (secs v (2 + (best v 2).1 * asz N) (asz N)) (secs_sct hs _ _)
  rw [secs_len] at this ⊢
  omega
set_option maxRecDepth 100000 in
set_option maxHeartbeats 4000000 in
theorem rall_c {w : World} {j r N : Nat} {L : List Sec} {B : List (Int × Sec)} (h : IsRJ w j r N L B) :
    Calls Try.prog 44 #[pB j] w fun e w' => ∃ v, e = .returned (.tuple #[v, .int .i64 (arEnd (vwR L B) N : Nat)]) ∧ PGs w.heap.size w' v (grps (vwR L B) N) ∧ Below w.heap.size w w' := by
  have hN := h.two
  have hv := fun i => h.2.1.sec i
  have hbb := best_bd hv 2 (Nat.le_refl _)
  have haz : asz N ≤ 1023 := by unfold asz; omega
  have CC := hid (rcounts_c h)
  have AC : Hid (∀ W, Below w.heap.size w W → Calls Try.prog 45 #[pB j] W fun e w' => e = .returned (.int .i64 (asz N : Nat)) ∧ w' = W) := fun W hW => rarea_c (h.later hW)
  have GC : Hid (∀ (W : World) (st k : Nat) (t n : Int), Below w.heap.size w W → st + k ≤ N → (0 ≤ t ∧ t < 4294967296) → (0 ≤ n ∧ n < 4294967296) → Calls Try.prog 62 #[pB j, .int .i64 st, .int .i64 ((st + k : Nat) : Int), .int .u32 t, .int .u32 n] W (RGroupPost t n (secs (vwR L B) st k) W)) := fun W st k t n hW hk ht hn => rgroup_c (h.later hW) st k hk t n ht hn
  have hse : 2 + (best (vwR L B) 2).1 * asz N + asz N ≤ N := by
    have h2 : 2 * asz N + 2 ≤ N := by unfold asz; omega
    have : (best (vwR L B) 2).1 * asz N ≤ 1 * asz N := Nat.mul_le_mul_right _ hbb.1
    omega
  have HSC := hid (fun st n => secs_sct hv st n)
  have HG : Hid (grps (vwR L B) N = allG (best (vwR L B) 2).2 (secs (vwR L B) (2 + (best (vwR L B) 2).1 * asz N) (asz N))) := rfl
  have HE : Hid (arEnd (vwR L B) N = 2 + (best (vwR L B) 2).1 * asz N + sumN (grps (vwR L B) N)) := rfl
  obtain ⟨i0, hi, hzi0, hzi1, hzi2⟩ := info30
  have hk1 := hbb.1
  have ht := hbb.2
  clear h hv hbb
  generalize (best (vwR L B) 2).2 = t at *
  generalize hkk : (best (vwR L B) 2).1 = kk at *
  obtain ⟨X, hXe⟩ : ∃ X, X = kk * asz N := ⟨_, rfl⟩
  have hX : (kk : Int) * (asz N : Nat) = (X : Int) := by rw [hXe]; push_cast; rfl
  have hXb : X ≤ 1023 := by
    have : kk * asz N ≤ 1 * asz N := Nat.mul_le_mul_right _ hk1
    omega
  rw [← hXe] at hse HG HE
  generalize asz N = z at *
  generalize vwR L B = v at *
  clear hkk hXe
  go_enter Try.func44, Try.ntmps44
  go_wp2_with (first
    | (go_at_call 43; refine CC.out.mono ?_; rintro _ w1 ⟨rfl, hb1⟩; have HB1 := hid hb1)
    | (go_at_call 45; refine (AC.out _ HB1.out).mono ?_; rintro _ w2 ⟨rfl, rfl⟩))
  clear hX
  have hst0 : ((2 : Int) + (X : Int)) = ((2 + X : Nat) : Int) := by push_cast; rfl
  rw [hst0]
  obtain ⟨st, hst⟩ : ∃ st, st = 2 + X := ⟨_, rfl⟩
  rw [← hst] at HG HE hse ⊢
  have hstI : ((st : Int) + z) = ((st + z : Nat) : Int) := by push_cast; rfl
  rw [hstI]
  obtain ⟨en, hen⟩ : ∃ en, en = st + z := ⟨_, rfl⟩
  rw [← hen] at hse ⊢
  have HEN := hid hen
  have hsl : st ≤ en := by omega
  have HLS : Hid (Left t (secs v st z) [] (secs v st (en - st))) := by
    rw [show en - st = z by omega]; exact Left.start _ _
  clear hst hstI hen hst0
  go_loopw [6, 8] (fun at_ out wr => ∃ (p : Nat) (gs : List Jo.Gr), (st ≤ p ∧ p ≤ en) ∧ at_ = .int .i64 p ∧ Hid (p = st + sumN gs) ∧ Hid (Left t (secs v st z) gs (secs v p (en - p))) ∧ Hid (PGs w.heap.size wr out gs) ∧ Hid (Below w.heap.size w wr)) (fun at_ _ _ => en - (intOf at_).toNat)
  case atStart => exact ⟨st, [], ⟨Nat.le_refl _, hsl⟩, rfl, by show _ = _; simp [sumN], HLS, PGs.nil _ _, HB1⟩
  case round =>
    obtain ⟨p, gs, hp, rfl, HPS, HLF, HPG, HB⟩ := hrel
    have hgl : gs.length ≤ 1023 := by have := HLF.out.1; rw [secs_len, secs_len] at this; omega
    obtain ⟨oa, oc, rfl⟩ := HPG.out.shape
    have GG := GC.out wr p (en - p) t ((gs.length : Int) + 1) HB.out (by omega) ht (by omega)
    rw [show p + (en - p) = en by omega] at GG
    have GGH := hid GG
    clear GG
    go_wp2_with fail
    refine GGH.out.mono ?_
    rintro _ w3 ⟨⟨gv, ok, rfl, hcase⟩, hb3⟩
    have HB3 := hid (HB.out.trans (hb3.mono HB.out.size))
    rcases hcase with ⟨g, hg, rfl, hP⟩ | ⟨hg, rfl⟩
    · have hn2 := need_two hg (HSC.out _ _)
      have hle2 := hn2.2.1
      rw [secs_len] at hle2
      have HNX := hid (HLF.out.next hg (HSC.out _ _))
      rw [secs_drop] at HNX
      obtain ⟨vals, hrow, hall⟩ := HPG.out.later hb3
      have HRW := hid hrow
      have HAL := hid hall
      have HPG3 := hid (hP.base HB.out.size)
      obtain ⟨ga, gc, rfl, hG0⟩ := hP.isG0 (by have := (Jo.ok_iff.1 hn2.2.2).2.1; omega)
      have hb4 : Below w3.heap.size w3 (w3.alloc (.cells #[.slice ga g.length gc] 22)) := (Below.refl _ _).alloc (Nat.le_refl _) _
      have hnl := need_le g
      have HB4 := hid (HB3.out.trans (hb4.mono HB3.out.size))
      have HPG4 := hid (HPG3.out.later hb4)
      have HPS2 := hid (show p + Jo.needF g = st + sumN (gs ++ [g]) by rw [sumN_snoc, HPS.out]; omega)
      have hpn : p + Jo.needF g ≤ en := by omega
      have hgn : 2 ≤ Jo.needF g := hn2.1
      clear hrow hall hb3 hb4 GGH hg hP hG0 hn2
      go_wp2_with (first
        | (go_at_call 63; refine NC.out.mono ?_; rintro _ w10 ⟨rfl, rfl⟩)
        | (at_builtin; refine wpList_append_own _ rfl _ _ 63 rfl w.heap.size 22 i0 (.slice none 0 0) 1 24 Try.underlying63 hi hzi0 hzi1 hzi2 rfl (by decide) _ _ _ rfl (HRW.out.alloc _) ⟨w3.heap.size, 0, none⟩ 1 1 [.slice ga g.length gc] rfl rfl (cell_one_new _ _ _) (fun y hy => by simp at hy; subst hy; rfl) (by unfold maxLen; omega) (by omega) (by have := HB3.out.size; simp; omega) ?_; intro v9 w9 hown9 hgrow9 hnil9; (have HP9 := hid (HPG4.out.grown (HRW.out.alloc _) hgrow9)); (have HG9 := hid (PGs.snoc (HRW.out.alloc _) (fun i hi => by obtain ⟨u, e1, e2⟩ := HAL.out i hi; exact ⟨u, e1, e2.later ((Below.refl _ _).alloc (Nat.le_refl _) _)⟩) HPG4.out hgrow9 hown9)); (have HB9 := hid (below_grown HB4.out (HRW.out.alloc _) (Nat.le_refl _) HB4.out.size hgrow9)); obtain ⟨a9, c9, rfl⟩ := own_shape6 hown9; (have NC : Hid (Calls Try.prog 63 #[.slice ga g.length gc] w9 fun e w' => e = .returned (.int .i64 (Jo.needF g : Nat)) ∧ w' = w9) := by (obtain ⟨ga', gc', he, hG⟩ := HP9.out.isG0 (by have := need_len (g := g); omega); cases he; exact rneed_c ga _ gc g _ hG.isG)); clear hown9 hgrow9 hnil9))
      go_roundw
      case rel => exact ⟨p + Jo.needF g, gs ++ [g], ⟨by omega, by omega⟩, by go_num, HPS2, by rw [show en - (p + Jo.needF g) = en - p - Jo.needF g by omega]; exact HNX.out, HG9, HB9⟩
      case measure => simp [intOf]; omega
    · have E := hid (HLF.out.last hg)
      clear hg GGH
      go_wp2
      go_ret2
      have eg : grps v N = gs := by rw [HG.out]; exact E.out
      have ee : arEnd v N = p := by rw [HE.out, eg, HPS.out]
      rw [ee, eg]
      exact ⟨_, rfl, HPG.out.later hb3, HB3.out⟩
set_option maxHeartbeats 400000 in
theorem rgroups_c {w : World} {j r N : Nat} {L : List Sec} {B : List (Int × Sec)} (h : IsRJ w j r N L B) :
    Calls Try.prog 29 #[pB j] w fun e w' => ∃ v, e = .returned v ∧ PGs w.heap.size w' v (grps (vwR L B) N) ∧ Below w.heap.size w w' := by
  have AC := hid (rall_c h)
  clear h
  go_enter Try.func29, Try.ntmps29
  go_wp2_with (go_at_call 44; refine AC.out.mono ?_; rintro _ w1 ⟨v, rfl, hP, hb⟩)
  go_ret
  exact ⟨_, rfl, hP, hb⟩
set_option maxHeartbeats 1000000 in
theorem rfree_c {w : World} {j r N : Nat} {L : List Sec} {B : List (Int × Sec)} (h : IsRJ w j r N L B) :
    Calls Try.prog 27 #[pB j] w fun e w' => e = .returned (.int .i64 (((arSt (vwR L B) N + asz N : Nat) : Int) - (arEnd (vwR L B) N : Nat))) ∧ Below w.heap.size w w' := by
  have hN := h.two
  have hv := fun i => h.2.1.sec i
  have hbb := best_bd hv 2 (Nat.le_refl _)
  have haz : asz N ≤ 1023 := by unfold asz; omega
  have hle := grpsR_end (N := N) hv
  have CC := hid (rcounts_c h)
  have AC : Hid (∀ W, Below w.heap.size w W → Calls Try.prog 44 #[pB j] W fun e w' => ∃ v, e = .returned (.tuple #[v, .int .i64 (arEnd (vwR L B) N : Nat)]) ∧ PGs W.heap.size w' v (grps (vwR L B) N) ∧ Below W.heap.size W w') := fun W hW => rall_c (h.later hW)
  have SC : Hid (∀ W, Below w.heap.size w W → Calls Try.prog 45 #[pB j] W fun e w' => e = .returned (.int .i64 (asz N : Nat)) ∧ w' = W) := fun W hW => rarea_c (h.later hW)
  have e0 : arSt (vwR L B) N + asz N = 2 + ((best (vwR L B) 2).1 + 1) * asz N := by unfold arSt; rw [Nat.add_mul]; omega
  rw [e0] at hle ⊢
  have hk1 := hbb.1
  clear h hv hbb e0
  generalize arEnd (vwR L B) N = en at *
  generalize grps (vwR L B) N = gs at *
  generalize (best (vwR L B) 2).2 = t at *
  generalize (best (vwR L B) 2).1 = kk at *
  obtain ⟨X, hXe⟩ : ∃ X, X = (kk + 1) * asz N := ⟨_, rfl⟩
  have hX : ((kk : Int) + 1) * (asz N : Nat) = (X : Int) := by rw [hXe]; push_cast; rfl
  have hXb : X ≤ 2046 := by
    have : (kk + 1) * asz N ≤ 2 * asz N := Nat.mul_le_mul_right _ (by omega)
    omega
  rw [← hXe] at hle ⊢
  generalize asz N = z at *
  clear hXe
  have e1 : (((2 + X : Nat) : Int) - (en : Nat)) = 2 + (X : Int) - en := by omega
  rw [e1]
  clear e1
  go_enter Try.func27, Try.ntmps27
  go_wp2_with (first
    | (go_at_call 43; refine CC.out.mono ?_; rintro _ w1 ⟨rfl, hb1⟩; have HB1 := hid hb1)
    | (go_at_call 44; refine (AC.out _ HB1.out).mono ?_; rintro _ w2 ⟨v2, rfl, hP2, hb2⟩; have HB2 := hid (HB1.out.trans (hb2.mono HB1.out.size)))
    | (go_at_call 45; refine (SC.out _ HB2.out).mono ?_; rintro _ w3 ⟨rfl, rfl⟩))
  go_ret
  exact ⟨rfl, HB2.out⟩
end Go.Proofs.Ytfmkgflhgapeoab
