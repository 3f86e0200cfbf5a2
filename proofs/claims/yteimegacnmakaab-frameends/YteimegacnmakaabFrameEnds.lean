/-
  For every packet, place and bytes behind: a packet's bytes cut off are no packet's, with more behind them they are none either, and Cut cuts the packet off and leaves what is behind; and live holds.
-/
import Derived.Test.YteimegacnmakaabFCut
import Derived.Laws.AppendOwnNone
namespace Go.Proofs.Yteimegacnmakaab
open Go.ChangeShapes Go.WideShapes Go.ChangeAt Go.RowKit
open Go.ChangeMaps (open_string shut_string)
open Go.BigFrame
set_option linter.unusedVariables false
set_option linter.unusedSimpArgs false
theorem isB_cap {H : Type} {enc : TypeId × Value → H} {P : Program} {W : World} {t e : TypeId} {a : Option Addr} {len cap : Nat} {d : DataW H} {p : List MemPlace}
    (ht : P.underlying t = some (.slice e)) (he : P.underlying e = some (.int .u8)) (hc : P.cellsOf e = 1)
    (h : DataW.Trod enc P W 0 (fun _ => true) true t (.slice a len cap) d p) : a = none → cap = 0 := by
  obtain ⟨fuel, hf⟩ := h
  rcases open_ints ht he hc hf with ⟨hcs, _⟩ | ⟨x, l, c, zs, hcs, _⟩
  · simp [Value.cells] at hcs
    exact fun _ => hcs.2.2
  · simp [Value.cells] at hcs
    intro h0
    rw [h0] at hcs
    cases hcs.1
theorem conv_zero (w : World) (p : Option Addr) (c : Nat) : (convert 27 9 (.slice p 0 c)).run Try.prog w = .ok (.string (Fr.tx [])) w := by
  rw [run_convert_bytes_string w 27 9 5 p 0 c Try.underlying27 Try.underlying5 Try.underlying9]
  cases p with
  | none => simp [Conv.bytesToString]; rfl
  | some a => simp [Conv.bytesToString, loadCells, loadCellsFrom]; rfl
theorem IsB.conv' {w : World} {a : Option Addr} {len cap : Nat} {zs : List Int} (h : IsB w a len zs) : (convert 27 9 (.slice a len cap)).run Try.prog w = .ok (.string (Fr.tx zs)) w := by
  by_cases h0 : len = 0
  · subst h0
    have : zs = [] := List.eq_nil_of_length_eq_zero h.1
    subst this
    exact conv_zero w a cap
  · obtain ⟨b, off, rfl, _⟩ := h.2.2.1 (by omega)
    exact h.conv
theorem IsB.later' {w w' : World} {a : Option Addr} {len B : Nat} {zs : List Int} {W : World} (h : IsB w a len zs) (hb : Below B w w') (hB : W.heap.size ≤ w.heap.size) (hx : ∀ b off sp, 0 < len → a = some ⟨b, off, sp⟩ → b < B) : IsB w' a len zs := by
  obtain ⟨h1, h2, h3, h4⟩ := h
  refine ⟨h1, h2, fun hp => ?_, h4⟩
  obtain ⟨b, off, e, hc⟩ := h3 hp
  exact ⟨b, off, e, fun i hi => by rw [hb.cell (p := ⟨b, off + i, none⟩) (hx b off none hp e)]; exact hc i hi⟩
theorem isB_lt {w : World} {a : Option Addr} {len : Nat} {zs : List Int} (h : IsB w a len zs) : ∀ b off sp, 0 < len → a = some ⟨b, off, sp⟩ → b < w.heap.size := by
  intro b off sp hp e
  obtain ⟨b', off', e', hc⟩ := h.2.2.1 hp
  rw [e] at e'
  cases e'
  exact World.block_lt_of_cell? w _ (hc 0 hp)
set_option maxHeartbeats 1000000 in
theorem ends_bad (p : Fr.Pk) (hw : Fr.Wf p) (hs : p.b.size ≤ maxLen) (n : Int) (a : Option Addr) (len cap : Nat) (zs : List Int) (hr : Fr.rightB p = false) (w : World) :
    Calls Try.prog 3 #[Fr.val p, .int .u16 n, .slice a len cap] w fun e w' => e = .returned (.bool true) ∧ Below w.heap.size w w' := by
  obtain ⟨k, f, t, e, s, b⟩ := p
  have C := encode_c ⟨k, f, t, e, s, b⟩ hw hs
  rw [show Fr.val ⟨k, f, t, e, s, b⟩ = .agg #[.int .u8 k, .int .u8 f, .int .u8 t, .int .u32 e, .int .u32 s, .string b] from rfl] at C ⊢
  have HC : Hid _ := C
  clear C
  go_enter Try.func3, Try.ntmps3
  go_wp2_with fail
  refine (HC.out _).mono ?_
  have hB0 : Below w.heap.size w (w.alloc (.cells #[.int .u8 k, .int .u8 f, .int .u8 t, .int .u32 e, .int .u32 s, .string b] 25)) := (Below.refl _ _).alloc (Nat.le_refl _) _
  generalize (w.alloc (.cells #[.int .u8 k, .int .u8 f, .int .u8 t, .int .u32 e, .int .u32 s, .string b] 25)) = W at *
  rintro _ w1 ⟨⟨hr', _⟩ | ⟨_, rfl⟩, hb1⟩
  · rw [hr] at hr'; cases hr'
  · have hB1 := hB0.trans (hb1.mono hB0.size)
    go_wp2_with fail
    refine (live_c _).mono ?_
    rintro _ w2 ⟨rfl, hb2⟩
    go_wp2
    go_ret
    exact ⟨rfl, hB1.trans (hb2.mono hB1.size)⟩
set_option maxHeartbeats 2000000 in
theorem ends_none (p : Fr.Pk) (hw : Fr.Wf p) (hs : p.b.size ≤ maxLen) (n : Int) (hn : 0 ≤ n) (hn' : n < 65536)  (len cap : Nat) (zs : List Int) (hlc : len ≤ cap) (hr : Fr.rightB p = true) (w : World) (hb : IsB w none len zs) (hm9 : fewN len = 0) (hc0 : cap = 0) :
    Calls Try.prog 3 #[Fr.val p, .int .u16 n, .slice none len cap] w fun e w' => e = .returned (.bool true) ∧ Below w.heap.size w w' := by
  subst hc0
  have hsz := Fr.right_size hr
  have HL := hid (Fr.enc_length p)
  have HY := hid (Fr.enc_byte p hw)
  have HW := hid hw
  have HR := hid hr
  have HA := hid hb
  have hm := hb.2.1
  unfold maxLen at hm
  obtain ⟨i0, hi, hz0, hz1, hz2⟩ := info_parts8
  obtain ⟨k, f, t, e, s, b⟩ := p
  have C := encode_c ⟨k, f, t, e, s, b⟩ hw hs
  rw [show Fr.val ⟨k, f, t, e, s, b⟩ = .agg #[.int .u8 k, .int .u8 f, .int .u8 t, .int .u32 e, .int .u32 s, .string b] from rfl] at C ⊢
  have HC : Hid _ := C
  simp only at hsz HL
  clear C hw hr hs hb
  go_enter Try.func3, Try.ntmps3
  go_wp2_with fail
  refine (HC.out _).mono ?_
  have hB0 : Below w.heap.size w (w.alloc (.cells #[.int .u8 k, .int .u8 f, .int .u8 t, .int .u32 e, .int .u32 s, .string b] 25)) := (Below.refl _ _).alloc (Nat.le_refl _) _
  have hP0 : PB (w.alloc (.cells #[.int .u8 k, .int .u8 f, .int .u8 t, .int .u32 e, .int .u32 s, .string b] 25)) w.heap.size ⟨k, f, t, e, s, b⟩ := heap_alloc_new w _
  generalize (w.alloc (.cells #[.int .u8 k, .int .u8 f, .int .u8 t, .int .u32 e, .int .u32 s, .string b] 25)) = W at *
  rintro _ w1 ⟨⟨_, v, rfl, hown⟩ | ⟨hr', _⟩, hb1⟩
  · have hB1 := hB0.trans (hb1.mono hB0.size)
    have hP1 := hP0.later hb1
    generalize hZ : Fr.enc ⟨k, f, t, e, s, b⟩ = es at *
    have HZ := hid hZ
    have hll := HL.out
    obtain ⟨g, cap1, rfl, hg1, hg2⟩ := hown.form (by omega)
    have HCells := hid (own_cells8 hown)
    have HI1 : Hid (IsB w1 (some ⟨g, 0, none⟩) es.length es ∧ es.length ≤ cap1) := by
      obtain ⟨a1, c1, e9, h1, h2⟩ := isB_pile (T := 0) (g := 0) HY.out hown
      cases e9; exact ⟨h1, h2⟩
    have hcap1 := HI1.out.2
    have hlen : es.length < 17000 := by omega
    have hlen0 : 19 ≤ es.length := by omega
    have dl : ((es.length : Int) == 0) = false := beq_eq_false_iff_ne.2 (by omega)
    have hm0 : 0 ≤ n % (es.length : Int) := Int.emod_nonneg _ (by omega)
    have hm1 : n % (es.length : Int) < es.length := Int.emod_lt_of_pos _ (by omega)
    have hm2 : n % (es.length : Int) ≤ cap1 := by omega
    clear hZ hll hown
    go_wp2_with fail
    refine (few_c _ _ _ _ _ (HA.out.later hB1) hlc).mono ?_
    rintro _ w2 ⟨rfl, rfl⟩
    have HF := hid (few_isB (HA.out.later hB1))
    have hfn := fewN_le len
    rw [hm9] at HF hfn ⊢
    clear hfn
    go_wp2_with fail
    refine (decode_c _ _ _ _ _ (HI1.out.1.front (n % (es.length : Int)).toNat (by omega)) (by omega)).mono ?_
    rintro _ w3 ⟨⟨p', hp', rfl⟩ | ⟨hp', rfl⟩, hb3⟩
    · exfalso
      have hq : Fr.Begins p' es := ⟨hp'.1, hp'.2.1, es.drop (n % (es.length : Int)).toNat, by rw [← hp'.2.2, List.take_append_drop]⟩
      have e9 := Fr.begins_one hq (whole_begins ⟨HW.out, HR.out, HZ.out.symm⟩)
      subst e9
      have h8 := whole_length hp'
      rw [List.length_take] at h8
      have h9 := HL.out
      simp only at h8
      omega
    · have hB3 := hB1.trans (hb3.mono hB1.size)
      have hP3 := hP1.later hb3
      rw [show noPk = .agg #[.int .u8 0, .int .u8 0, .int .u8 0, .int .u32 0, .int .u32 0, .string ⟨#[]⟩] from rfl]
      clear hp'
      have hB4 := hB3.alloc hB3.size (.cells #[.int .u8 0, .int .u8 0, .int .u8 0, .int .u32 0, .int .u32 0, .string ⟨#[]⟩] 25)
      have hP4 := hP3.alloc (.cells #[.int .u8 0, .int .u8 0, .int .u8 0, .int .u32 0, .int .u32 0, .string ⟨#[]⟩] 25)
      have hb4 := hb3.alloc hb3.size (.cells #[.int .u8 0, .int .u8 0, .int .u8 0, .int .u32 0, .int .u32 0, .string ⟨#[]⟩] 25)
      have HCells4 : Hid (∀ j u, (es.map u8V)[j]? = some u → (w3.alloc (.cells #[.int .u8 0, .int .u8 0, .int .u8 0, .int .u32 0, .int .u32 0, .string ⟨#[]⟩] 25)).cell? ((⟨g, 0, none⟩ : Addr).add j) = some u) := fun j u h => cell_later hb4 (HCells.out j u h)
      have HF4 := hid (HF.out.later hb4)
      go_wp2_with (first
        | (at_builtin; refine wpList_append_own _ rfl (.tmp 47) (.tmp 48) 27 rfl (w3.heap.size + 1) 5 i0 (.int .u8 0) 1 1 Try.underlying27 hi hz0 hz1 hz2 rfl (by decide) (.slice (some ⟨w3.heap.size + 1, 0, none⟩) 0 0) 0 [] rfl (by simpa using own_empty8 (w3.alloc (.cells #[.int .u8 0, .int .u8 0, .int .u8 0, .int .u32 0, .int .u32 0, .string ⟨#[]⟩] 25))) ⟨g, 0, none⟩ es.length cap1 (es.map u8V) rfl (by simp) (fun j u hu => cell_later ((Below.refl _ _).alloc (Nat.le_refl _) _) (HCells4.out j u hu)) (fun y hy => by obtain ⟨x, _, rfl⟩ := List.mem_map.1 hy; rfl) (by unfold maxLen; omega) (by omega) (by simp) ?_; intro v5 w5 hown5 hgrow5 hnil5; (rw [Nat.zero_add, List.nil_append] at hown5); (have hb5 : Below (w3.heap.size + 1) (w3.alloc (.cells #[.int .u8 0, .int .u8 0, .int .u8 0, .int .u32 0, .int .u32 0, .string ⟨#[]⟩] 25)) w5 := Below.grown ((Below.refl _ _).alloc (by simp) _) hgrow5 (by simp) (fun k hk => by cases hk; exact Nat.le_refl _)); (have hz5 := hb5.size); (have HF5 := hid (HF4.out.later (hb5.mono (by simp)))); clear hnil5)
        | (at_builtin; refine wpList_append_own_none rfl (.tmp 49) (.tmp 50) 27 rfl (w3.heap.size + 1) 5 i0 1 Try.underlying27 hi _ _ _ rfl hown5 rfl ?_; (have hown6 : w5.ownsRow (w3.heap.size + 1) 5 1 v5 (es.length + 0) (es.map u8V ++ (zs.take 0).map u8V) := (by rw [List.take_zero]; simpa using hown5)); (obtain ⟨w6, hw6⟩ : ∃ w6, w6 = w5 := ⟨_, rfl⟩); (rw [← hw6] at hown6 ⊢); (have hb6 : Below (w3.heap.size + 1) w5 w6 := (by rw [hw6]; exact Below.refl _ _)); clear hw6))
      have hB6 : Below w.heap.size w w6 := (hB4.trans (hb5.mono (by have := hB3.size; omega))).trans (hb6.mono (by have := hB3.size; omega))
      have hP6 : PB w6 w.heap.size ⟨k, f, t, e, s, b⟩ := by
        have h7 := hP3.lt
        unfold PB at *
        rw [hb6.block _ (by omega), hb5.block _ (by omega)]; exact hP4
      have HF6 := hid (HF5.out.later' (W := w3) hb6 (by simp at hz5; omega) (fun b off sp hp e => by have := isB_lt HF.out b off sp hp e; have := hb3.size; omega))
      clear hgrow5
      have HLM : Hid (es.length + 0 = (es ++ zs.take 0).length) := by have := HF.out.1; show _ = _; rw [List.length_append, this]
      rw [HLM.out, ← List.map_append] at hown6
      have HYY : Hid (∀ x ∈ es ++ zs.take 0, 0 ≤ x ∧ x ≤ 255) := fun x hx => by
        rcases List.mem_append.1 hx with h | h
        · exact HY.out x h
        · exact Fr.mem_getD HF.out.2.2.2 x h
      obtain ⟨a6, cap6, rfl, hI6, hc6⟩ := isB_pile (T := 0) (g := 0) HYY.out hown6
      rw [← HLM.out] at hI6 hc6 ⊢
      have HI6 := hid hI6
      have HBG : Hid (Fr.Begins ⟨k, f, t, e, s, b⟩ (es ++ zs.take 0)) := ⟨HW.out, HR.out, _, by rw [HZ.out]⟩
      clear hI6 hown6
      go_wp2_with fail
      refine (decode_c _ _ _ _ _ HI6.out hc6).mono ?_
      rintro _ w7 ⟨⟨p', hp', rfl⟩ | ⟨hp', rfl⟩, hb7⟩
      · have e9 : p' = ⟨k, f, t, e, s, b⟩ := Fr.begins_one (whole_begins hp') HBG.out
        subst e9
        rw [show Fr.val ⟨k, f, t, e, s, b⟩ = .agg #[.int .u8 k, .int .u8 f, .int .u8 t, .int .u32 e, .int .u32 s, .string b] from rfl]
        clear hp'
        have hB7 := hB6.trans (hb7.mono hB6.size)
        have hP7 := hP6.later hb7
        have hB8 := hB7.alloc hB7.size (.cells #[.int .u8 k, .int .u8 f, .int .u8 t, .int .u32 e, .int .u32 s, .string b] 25)
        have hP8 := hP7.alloc (.cells #[.int .u8 k, .int .u8 f, .int .u8 t, .int .u32 e, .int .u32 s, .string b] 25)
        have hb8 := hb7.alloc hb7.size (.cells #[.int .u8 k, .int .u8 f, .int .u8 t, .int .u32 e, .int .u32 s, .string b] 25)
        go_wp2_with fail
        refine (cut_c _ _ _ _ _ (HI6.out.later hb8) hc6 (by omega)).mono ?_
        generalize (w7.alloc (.cells #[.int .u8 k, .int .u8 f, .int .u8 t, .int .u32 e, .int .u32 s, .string b] 25)) = w8 at *
        rintro _ w9 ⟨⟨q, v9, hq, rfl, hown9⟩ | ⟨hq, _⟩, hb9⟩
        · have e9 : q = ⟨k, f, t, e, s, b⟩ := Fr.begins_one hq HBG.out
          subst e9
          have hd9 : (es ++ zs.take 0).drop (19 + b.size) = zs.take 0 := by rw [← HL.out, List.drop_left]
          simp only [hd9] at hown9
          obtain ⟨a9, cap9, rfl, hI9, hc9⟩ := isB_pile (T := 0) (g := 0) (fun x hx => Fr.mem_getD HF.out.2.2.2 x hx) hown9
          have hlm : (zs.take 0).length = 0 := HF.out.1
          rw [hlm] at hI9 ⊢
          rw [show Fr.val ⟨k, f, t, e, s, b⟩ = .agg #[.int .u8 k, .int .u8 f, .int .u8 t, .int .u32 e, .int .u32 s, .string b] from rfl]
          have hB9 := hB8.trans (hb9.mono hB8.size)
          have hP9 := hP8.later hb9
          have hB10 := hB9.alloc hB9.size (.cells #[.int .u8 k, .int .u8 f, .int .u8 t, .int .u32 e, .int .u32 s, .string b] 25)
          have hP10 := hP9.alloc (.cells #[.int .u8 k, .int .u8 f, .int .u8 t, .int .u32 e, .int .u32 s, .string b] 25)
          have hQ10 : PB (w9.alloc (.cells #[.int .u8 k, .int .u8 f, .int .u8 t, .int .u32 e, .int .u32 s, .string b] 25)) w9.heap.size ⟨k, f, t, e, s, b⟩ := heap_alloc_new w9 _
          have hI10 := hI9.later ((Below.refl _ _).alloc (Nat.le_refl _) (.cells #[.int .u8 k, .int .u8 f, .int .u8 t, .int .u32 e, .int .u32 s, .string b] 25))
          have HF10 := HF6.out.later ((hb8.trans (hb9.mono hb8.size)).alloc (Nat.le_trans hb8.size hb9.size) (.cells #[.int .u8 k, .int .u8 f, .int .u8 t, .int .u32 e, .int .u32 s, .string b] 25))
          clear hd9 hlm hown9 hq hI9
          have HI10 := hid hI10
          have HG10 := hid HF10
          clear hI10 HF10
          go_wp2_with fail
          generalize (w9.alloc (.cells #[.int .u8 k, .int .u8 f, .int .u8 t, .int .u32 e, .int .u32 s, .string b] 25)) = w10 at *
          refine (live_c _).mono ?_
          rintro _ w11 ⟨rfl, hb11⟩
          obtain ⟨c0, c1, c2, c3, c4, c5⟩ := (hP10.later hb11).cells
          obtain ⟨d0, d1, d2, d3, d4, d5⟩ := (hQ10.later hb11).cells
          have kc := (HI10.out.later hb11).conv' (cap := cap9)
          have kd := (HG10.out.later hb11).conv' (cap := 0)
          generalize Fr.tx (zs.take 0) = X at *
          go_wp2
          go_ret
          exact ⟨rfl, hB10.trans (hb11.mono hB10.size)⟩
        · exact absurd HBG.out (hq _)
      · exfalso
        refine hp' ⟨k, f, t, e, s, b⟩ ⟨HW.out, HR.out, ?_⟩
        rw [HZ.out, List.take_zero, List.append_nil]
  · rw [HR.out] at hr'; cases hr'
set_option maxHeartbeats 2000000 in
theorem ends_zero (p : Fr.Pk) (hw : Fr.Wf p) (hs : p.b.size ≤ maxLen) (n : Int) (hn : 0 ≤ n) (hn' : n < 65536) (ad : Addr) (len cap : Nat) (zs : List Int) (hlc : len ≤ cap) (hr : Fr.rightB p = true) (w : World) (hb : IsB w (some ad) len zs) (hm9 : fewN len = 0) :
    Calls Try.prog 3 #[Fr.val p, .int .u16 n, .slice (some ad) len cap] w fun e w' => e = .returned (.bool true) ∧ Below w.heap.size w w' := by
  have hsz := Fr.right_size hr
  have HL := hid (Fr.enc_length p)
  have HY := hid (Fr.enc_byte p hw)
  have HW := hid hw
  have HR := hid hr
  have HA := hid hb
  have hm := hb.2.1
  unfold maxLen at hm
  obtain ⟨i0, hi, hz0, hz1, hz2⟩ := info_parts8
  obtain ⟨k, f, t, e, s, b⟩ := p
  have C := encode_c ⟨k, f, t, e, s, b⟩ hw hs
  rw [show Fr.val ⟨k, f, t, e, s, b⟩ = .agg #[.int .u8 k, .int .u8 f, .int .u8 t, .int .u32 e, .int .u32 s, .string b] from rfl] at C ⊢
  have HC : Hid _ := C
  simp only at hsz HL
  clear C hw hr hs hb
  go_enter Try.func3, Try.ntmps3
  go_wp2_with fail
  refine (HC.out _).mono ?_
  have hB0 : Below w.heap.size w (w.alloc (.cells #[.int .u8 k, .int .u8 f, .int .u8 t, .int .u32 e, .int .u32 s, .string b] 25)) := (Below.refl _ _).alloc (Nat.le_refl _) _
  have hP0 : PB (w.alloc (.cells #[.int .u8 k, .int .u8 f, .int .u8 t, .int .u32 e, .int .u32 s, .string b] 25)) w.heap.size ⟨k, f, t, e, s, b⟩ := heap_alloc_new w _
  generalize (w.alloc (.cells #[.int .u8 k, .int .u8 f, .int .u8 t, .int .u32 e, .int .u32 s, .string b] 25)) = W at *
  rintro _ w1 ⟨⟨_, v, rfl, hown⟩ | ⟨hr', _⟩, hb1⟩
  · have hB1 := hB0.trans (hb1.mono hB0.size)
    have hP1 := hP0.later hb1
    generalize hZ : Fr.enc ⟨k, f, t, e, s, b⟩ = es at *
    have HZ := hid hZ
    have hll := HL.out
    obtain ⟨g, cap1, rfl, hg1, hg2⟩ := hown.form (by omega)
    have HCells := hid (own_cells8 hown)
    have HI1 : Hid (IsB w1 (some ⟨g, 0, none⟩) es.length es ∧ es.length ≤ cap1) := by
      obtain ⟨a1, c1, e9, h1, h2⟩ := isB_pile (T := 0) (g := 0) HY.out hown
      cases e9; exact ⟨h1, h2⟩
    have hcap1 := HI1.out.2
    have hlen : es.length < 17000 := by omega
    have hlen0 : 19 ≤ es.length := by omega
    have dl : ((es.length : Int) == 0) = false := beq_eq_false_iff_ne.2 (by omega)
    have hm0 : 0 ≤ n % (es.length : Int) := Int.emod_nonneg _ (by omega)
    have hm1 : n % (es.length : Int) < es.length := Int.emod_lt_of_pos _ (by omega)
    have hm2 : n % (es.length : Int) ≤ cap1 := by omega
    clear hZ hll hown
    go_wp2_with fail
    refine (few_c _ _ _ _ _ (HA.out.later hB1) hlc).mono ?_
    rintro _ w2 ⟨rfl, rfl⟩
    have HF := hid (few_isB (HA.out.later hB1))
    have hfn := fewN_le len
    rw [hm9] at HF hfn ⊢
    clear hfn
    go_wp2_with fail
    refine (decode_c _ _ _ _ _ (HI1.out.1.front (n % (es.length : Int)).toNat (by omega)) (by omega)).mono ?_
    rintro _ w3 ⟨⟨p', hp', rfl⟩ | ⟨hp', rfl⟩, hb3⟩
    · exfalso
      have hq : Fr.Begins p' es := ⟨hp'.1, hp'.2.1, es.drop (n % (es.length : Int)).toNat, by rw [← hp'.2.2, List.take_append_drop]⟩
      have e9 := Fr.begins_one hq (whole_begins ⟨HW.out, HR.out, HZ.out.symm⟩)
      subst e9
      have h8 := whole_length hp'
      rw [List.length_take] at h8
      have h9 := HL.out
      simp only at h8
      omega
    · have hB3 := hB1.trans (hb3.mono hB1.size)
      have hP3 := hP1.later hb3
      rw [show noPk = .agg #[.int .u8 0, .int .u8 0, .int .u8 0, .int .u32 0, .int .u32 0, .string ⟨#[]⟩] from rfl]
      clear hp'
      have hB4 := hB3.alloc hB3.size (.cells #[.int .u8 0, .int .u8 0, .int .u8 0, .int .u32 0, .int .u32 0, .string ⟨#[]⟩] 25)
      have hP4 := hP3.alloc (.cells #[.int .u8 0, .int .u8 0, .int .u8 0, .int .u32 0, .int .u32 0, .string ⟨#[]⟩] 25)
      have hb4 := hb3.alloc hb3.size (.cells #[.int .u8 0, .int .u8 0, .int .u8 0, .int .u32 0, .int .u32 0, .string ⟨#[]⟩] 25)
      have HCells4 : Hid (∀ j u, (es.map u8V)[j]? = some u → (w3.alloc (.cells #[.int .u8 0, .int .u8 0, .int .u8 0, .int .u32 0, .int .u32 0, .string ⟨#[]⟩] 25)).cell? ((⟨g, 0, none⟩ : Addr).add j) = some u) := fun j u h => cell_later hb4 (HCells.out j u h)
      have HF4 := hid (HF.out.later hb4)
      go_wp2_with (first
        | (at_builtin; refine wpList_append_own _ rfl (.tmp 47) (.tmp 48) 27 rfl (w3.heap.size + 1) 5 i0 (.int .u8 0) 1 1 Try.underlying27 hi hz0 hz1 hz2 rfl (by decide) (.slice (some ⟨w3.heap.size + 1, 0, none⟩) 0 0) 0 [] rfl (by simpa using own_empty8 (w3.alloc (.cells #[.int .u8 0, .int .u8 0, .int .u8 0, .int .u32 0, .int .u32 0, .string ⟨#[]⟩] 25))) ⟨g, 0, none⟩ es.length cap1 (es.map u8V) rfl (by simp) (fun j u hu => cell_later ((Below.refl _ _).alloc (Nat.le_refl _) _) (HCells4.out j u hu)) (fun y hy => by obtain ⟨x, _, rfl⟩ := List.mem_map.1 hy; rfl) (by unfold maxLen; omega) (by omega) (by simp) ?_; intro v5 w5 hown5 hgrow5 hnil5; (rw [Nat.zero_add, List.nil_append] at hown5); (have hb5 : Below (w3.heap.size + 1) (w3.alloc (.cells #[.int .u8 0, .int .u8 0, .int .u8 0, .int .u32 0, .int .u32 0, .string ⟨#[]⟩] 25)) w5 := Below.grown ((Below.refl _ _).alloc (by simp) _) hgrow5 (by simp) (fun k hk => by cases hk; exact Nat.le_refl _)); (have hz5 := hb5.size); (have HF5 := hid (HF4.out.later (hb5.mono (by simp)))); clear hnil5)
        | (at_builtin; refine wpList_append_own _ rfl (.tmp 49) (.tmp 50) 27 rfl (w3.heap.size + 1) 5 i0 (.int .u8 0) 1 1 Try.underlying27 hi hz0 hz1 hz2 rfl (by decide) _ _ _ rfl hown5 ad 0 cap ((zs.take 0).map u8V) rfl (by simp) (fun j u h => by cases h) (fun y hy => by obtain ⟨x, _, rfl⟩ := List.mem_map.1 hy; rfl) (by unfold maxLen; omega) (by omega) (by simp at hz5; omega) ?_; intro v6 w6 hown6 hgrow6 hnil6; (have hb6 : Below (w3.heap.size + 1) w5 w6 := Below.grown (Below.refl _ _) hgrow6 (by simp at hz5; omega) (fun q hq => (hown5.lt q hq).1)); clear hgrow6 hnil6))
      have hB6 : Below w.heap.size w w6 := (hB4.trans (hb5.mono (by have := hB3.size; omega))).trans (hb6.mono (by have := hB3.size; omega))
      have hP6 : PB w6 w.heap.size ⟨k, f, t, e, s, b⟩ := by
        have h7 := hP3.lt
        unfold PB at *
        rw [hb6.block _ (by omega), hb5.block _ (by omega)]; exact hP4
      have HF6 := hid (HF5.out.later' (W := w3) hb6 (by simp at hz5; omega) (fun b off sp hp e => by have := isB_lt HF.out b off sp hp e; have := hb3.size; omega))
      clear hgrow5
      have HLM : Hid (es.length + 0 = (es ++ zs.take 0).length) := by have := HF.out.1; show _ = _; rw [List.length_append, this]
      rw [HLM.out, ← List.map_append] at hown6
      have HYY : Hid (∀ x ∈ es ++ zs.take 0, 0 ≤ x ∧ x ≤ 255) := fun x hx => by
        rcases List.mem_append.1 hx with h | h
        · exact HY.out x h
        · exact Fr.mem_getD HF.out.2.2.2 x h
      obtain ⟨a6, cap6, rfl, hI6, hc6⟩ := isB_pile (T := 0) (g := 0) HYY.out hown6
      rw [← HLM.out] at hI6 hc6 ⊢
      have HI6 := hid hI6
      have HBG : Hid (Fr.Begins ⟨k, f, t, e, s, b⟩ (es ++ zs.take 0)) := ⟨HW.out, HR.out, _, by rw [HZ.out]⟩
      clear hI6 hown6
      go_wp2_with fail
      refine (decode_c _ _ _ _ _ HI6.out hc6).mono ?_
      rintro _ w7 ⟨⟨p', hp', rfl⟩ | ⟨hp', rfl⟩, hb7⟩
      · have e9 : p' = ⟨k, f, t, e, s, b⟩ := Fr.begins_one (whole_begins hp') HBG.out
        subst e9
        rw [show Fr.val ⟨k, f, t, e, s, b⟩ = .agg #[.int .u8 k, .int .u8 f, .int .u8 t, .int .u32 e, .int .u32 s, .string b] from rfl]
        clear hp'
        have hB7 := hB6.trans (hb7.mono hB6.size)
        have hP7 := hP6.later hb7
        have hB8 := hB7.alloc hB7.size (.cells #[.int .u8 k, .int .u8 f, .int .u8 t, .int .u32 e, .int .u32 s, .string b] 25)
        have hP8 := hP7.alloc (.cells #[.int .u8 k, .int .u8 f, .int .u8 t, .int .u32 e, .int .u32 s, .string b] 25)
        have hb8 := hb7.alloc hb7.size (.cells #[.int .u8 k, .int .u8 f, .int .u8 t, .int .u32 e, .int .u32 s, .string b] 25)
        go_wp2_with fail
        refine (cut_c _ _ _ _ _ (HI6.out.later hb8) hc6 (by omega)).mono ?_
        generalize (w7.alloc (.cells #[.int .u8 k, .int .u8 f, .int .u8 t, .int .u32 e, .int .u32 s, .string b] 25)) = w8 at *
        rintro _ w9 ⟨⟨q, v9, hq, rfl, hown9⟩ | ⟨hq, _⟩, hb9⟩
        · have e9 : q = ⟨k, f, t, e, s, b⟩ := Fr.begins_one hq HBG.out
          subst e9
          have hd9 : (es ++ zs.take 0).drop (19 + b.size) = zs.take 0 := by rw [← HL.out, List.drop_left]
          simp only [hd9] at hown9
          obtain ⟨a9, cap9, rfl, hI9, hc9⟩ := isB_pile (T := 0) (g := 0) (fun x hx => Fr.mem_getD HF.out.2.2.2 x hx) hown9
          have hlm : (zs.take 0).length = 0 := HF.out.1
          rw [hlm] at hI9 ⊢
          rw [show Fr.val ⟨k, f, t, e, s, b⟩ = .agg #[.int .u8 k, .int .u8 f, .int .u8 t, .int .u32 e, .int .u32 s, .string b] from rfl]
          have hB9 := hB8.trans (hb9.mono hB8.size)
          have hP9 := hP8.later hb9
          have hB10 := hB9.alloc hB9.size (.cells #[.int .u8 k, .int .u8 f, .int .u8 t, .int .u32 e, .int .u32 s, .string b] 25)
          have hP10 := hP9.alloc (.cells #[.int .u8 k, .int .u8 f, .int .u8 t, .int .u32 e, .int .u32 s, .string b] 25)
          have hQ10 : PB (w9.alloc (.cells #[.int .u8 k, .int .u8 f, .int .u8 t, .int .u32 e, .int .u32 s, .string b] 25)) w9.heap.size ⟨k, f, t, e, s, b⟩ := heap_alloc_new w9 _
          have hI10 := hI9.later ((Below.refl _ _).alloc (Nat.le_refl _) (.cells #[.int .u8 k, .int .u8 f, .int .u8 t, .int .u32 e, .int .u32 s, .string b] 25))
          have HF10 := HF6.out.later ((hb8.trans (hb9.mono hb8.size)).alloc (Nat.le_trans hb8.size hb9.size) (.cells #[.int .u8 k, .int .u8 f, .int .u8 t, .int .u32 e, .int .u32 s, .string b] 25))
          clear hd9 hlm hown9 hq hI9
          have HI10 := hid hI10
          have HG10 := hid HF10
          clear hI10 HF10
          go_wp2_with fail
          generalize (w9.alloc (.cells #[.int .u8 k, .int .u8 f, .int .u8 t, .int .u32 e, .int .u32 s, .string b] 25)) = w10 at *
          refine (live_c _).mono ?_
          rintro _ w11 ⟨rfl, hb11⟩
          obtain ⟨c0, c1, c2, c3, c4, c5⟩ := (hP10.later hb11).cells
          obtain ⟨d0, d1, d2, d3, d4, d5⟩ := (hQ10.later hb11).cells
          have kc := (HI10.out.later hb11).conv' (cap := cap9)
          have kd := (HG10.out.later hb11).conv' (cap := cap)
          generalize Fr.tx (zs.take 0) = X at *
          go_wp2
          go_ret
          exact ⟨rfl, hB10.trans (hb11.mono hB10.size)⟩
        · exact absurd HBG.out (hq _)
      · exfalso
        refine hp' ⟨k, f, t, e, s, b⟩ ⟨HW.out, HR.out, ?_⟩
        rw [HZ.out, List.take_zero, List.append_nil]
  · rw [HR.out] at hr'; cases hr'
set_option maxHeartbeats 2000000 in
theorem ends_more (p : Fr.Pk) (hw : Fr.Wf p) (hs : p.b.size ≤ maxLen) (n : Int) (hn : 0 ≤ n) (hn' : n < 65536) (ab ao : Nat) (len cap : Nat) (zs : List Int) (hlc : len ≤ cap) (hr : Fr.rightB p = true) (w : World) (hb : IsB w (some ⟨ab, ao, none⟩) len zs) (hm9 : 0 < fewN len) :
    Calls Try.prog 3 #[Fr.val p, .int .u16 n, .slice (some ⟨ab, ao, none⟩) len cap] w fun e w' => e = .returned (.bool true) ∧ Below w.heap.size w w' := by
  have hsz := Fr.right_size hr
  have HL := hid (Fr.enc_length p)
  have HY := hid (Fr.enc_byte p hw)
  have HW := hid hw
  have HR := hid hr
  have HA := hid hb
  have hm := hb.2.1
  unfold maxLen at hm
  obtain ⟨i0, hi, hz0, hz1, hz2⟩ := info_parts8
  obtain ⟨k, f, t, e, s, b⟩ := p
  have C := encode_c ⟨k, f, t, e, s, b⟩ hw hs
  rw [show Fr.val ⟨k, f, t, e, s, b⟩ = .agg #[.int .u8 k, .int .u8 f, .int .u8 t, .int .u32 e, .int .u32 s, .string b] from rfl] at C ⊢
  have HC : Hid _ := C
  simp only at hsz HL
  clear C hw hr hs hb
  go_enter Try.func3, Try.ntmps3
  go_wp2_with fail
  refine (HC.out _).mono ?_
  have hB0 : Below w.heap.size w (w.alloc (.cells #[.int .u8 k, .int .u8 f, .int .u8 t, .int .u32 e, .int .u32 s, .string b] 25)) := (Below.refl _ _).alloc (Nat.le_refl _) _
  have hP0 : PB (w.alloc (.cells #[.int .u8 k, .int .u8 f, .int .u8 t, .int .u32 e, .int .u32 s, .string b] 25)) w.heap.size ⟨k, f, t, e, s, b⟩ := heap_alloc_new w _
  generalize (w.alloc (.cells #[.int .u8 k, .int .u8 f, .int .u8 t, .int .u32 e, .int .u32 s, .string b] 25)) = W at *
  rintro _ w1 ⟨⟨_, v, rfl, hown⟩ | ⟨hr', _⟩, hb1⟩
  · have hB1 := hB0.trans (hb1.mono hB0.size)
    have hP1 := hP0.later hb1
    generalize hZ : Fr.enc ⟨k, f, t, e, s, b⟩ = es at *
    have HZ := hid hZ
    have hll := HL.out
    obtain ⟨g, cap1, rfl, hg1, hg2⟩ := hown.form (by omega)
    have HCells := hid (own_cells8 hown)
    have HI1 : Hid (IsB w1 (some ⟨g, 0, none⟩) es.length es ∧ es.length ≤ cap1) := by
      obtain ⟨a1, c1, e9, h1, h2⟩ := isB_pile (T := 0) (g := 0) HY.out hown
      cases e9; exact ⟨h1, h2⟩
    have hcap1 := HI1.out.2
    have hlen : es.length < 17000 := by omega
    have hlen0 : 19 ≤ es.length := by omega
    have dl : ((es.length : Int) == 0) = false := beq_eq_false_iff_ne.2 (by omega)
    have hm0 : 0 ≤ n % (es.length : Int) := Int.emod_nonneg _ (by omega)
    have hm1 : n % (es.length : Int) < es.length := Int.emod_lt_of_pos _ (by omega)
    have hm2 : n % (es.length : Int) ≤ cap1 := by omega
    clear hZ hll hown
    go_wp2_with fail
    refine (few_c _ _ _ _ _ (HA.out.later hB1) hlc).mono ?_
    rintro _ w2 ⟨rfl, rfl⟩
    have HF := hid (few_isB (HA.out.later hB1))
    have hfn := fewN_le len
    generalize fewN len = m at *
    go_wp2_with fail
    refine (decode_c _ _ _ _ _ (HI1.out.1.front (n % (es.length : Int)).toNat (by omega)) (by omega)).mono ?_
    rintro _ w3 ⟨⟨p', hp', rfl⟩ | ⟨hp', rfl⟩, hb3⟩
    · exfalso
      have hq : Fr.Begins p' es := ⟨hp'.1, hp'.2.1, es.drop (n % (es.length : Int)).toNat, by rw [← hp'.2.2, List.take_append_drop]⟩
      have e9 := Fr.begins_one hq (whole_begins ⟨HW.out, HR.out, HZ.out.symm⟩)
      subst e9
      have h8 := whole_length hp'
      rw [List.length_take] at h8
      have h9 := HL.out
      simp only at h8
      omega
    · have hB3 := hB1.trans (hb3.mono hB1.size)
      have hP3 := hP1.later hb3
      rw [show noPk = .agg #[.int .u8 0, .int .u8 0, .int .u8 0, .int .u32 0, .int .u32 0, .string ⟨#[]⟩] from rfl]
      clear hp'
      have hB4 := hB3.alloc hB3.size (.cells #[.int .u8 0, .int .u8 0, .int .u8 0, .int .u32 0, .int .u32 0, .string ⟨#[]⟩] 25)
      have hP4 := hP3.alloc (.cells #[.int .u8 0, .int .u8 0, .int .u8 0, .int .u32 0, .int .u32 0, .string ⟨#[]⟩] 25)
      have hb4 := hb3.alloc hb3.size (.cells #[.int .u8 0, .int .u8 0, .int .u8 0, .int .u32 0, .int .u32 0, .string ⟨#[]⟩] 25)
      have HCells4 : Hid (∀ j u, (es.map u8V)[j]? = some u → (w3.alloc (.cells #[.int .u8 0, .int .u8 0, .int .u8 0, .int .u32 0, .int .u32 0, .string ⟨#[]⟩] 25)).cell? ((⟨g, 0, none⟩ : Addr).add j) = some u) := fun j u h => cell_later hb4 (HCells.out j u h)
      have HF4 := hid (HF.out.later hb4)
      go_wp2_with (first
        | (at_builtin; refine wpList_append_own _ rfl (.tmp 47) (.tmp 48) 27 rfl (w3.heap.size + 1) 5 i0 (.int .u8 0) 1 1 Try.underlying27 hi hz0 hz1 hz2 rfl (by decide) (.slice (some ⟨w3.heap.size + 1, 0, none⟩) 0 0) 0 [] rfl (by simpa using own_empty8 (w3.alloc (.cells #[.int .u8 0, .int .u8 0, .int .u8 0, .int .u32 0, .int .u32 0, .string ⟨#[]⟩] 25))) ⟨g, 0, none⟩ es.length cap1 (es.map u8V) rfl (by simp) (fun j u hu => cell_later ((Below.refl _ _).alloc (Nat.le_refl _) _) (HCells4.out j u hu)) (fun y hy => by obtain ⟨x, _, rfl⟩ := List.mem_map.1 hy; rfl) (by unfold maxLen; omega) (by omega) (by simp) ?_; intro v5 w5 hown5 hgrow5 hnil5; (rw [Nat.zero_add, List.nil_append] at hown5); (have hb5 : Below (w3.heap.size + 1) (w3.alloc (.cells #[.int .u8 0, .int .u8 0, .int .u8 0, .int .u32 0, .int .u32 0, .string ⟨#[]⟩] 25)) w5 := Below.grown ((Below.refl _ _).alloc (by simp) _) hgrow5 (by simp) (fun k hk => by cases hk; exact Nat.le_refl _)); (have hz5 := hb5.size); (have HF5 := hid (HF4.out.later (hb5.mono (by simp)))); clear hnil5)
        | (at_builtin; refine wpList_append_own _ rfl (.tmp 49) (.tmp 50) 27 rfl (w3.heap.size + 1) 5 i0 (.int .u8 0) 1 1 Try.underlying27 hi hz0 hz1 hz2 rfl (by decide) _ _ _ rfl hown5 ⟨ab, ao, none⟩ m cap ((zs.take m).map u8V) rfl (by rw [List.length_map, HF.out.1]; omega) (isB_cells HF5.out) (fun y hy => by obtain ⟨x, _, rfl⟩ := List.mem_map.1 hy; rfl) (by unfold maxLen; omega) (by omega) (by simp at hz5; omega) ?_; intro v6 w6 hown6 hgrow6 hnil6; (have hb6 : Below (w3.heap.size + 1) w5 w6 := Below.grown (Below.refl _ _) hgrow6 (by simp at hz5; omega) (fun q hq => (hown5.lt q hq).1)); clear hgrow6 hnil6))
      have hB6 : Below w.heap.size w w6 := (hB4.trans (hb5.mono (by have := hB3.size; omega))).trans (hb6.mono (by have := hB3.size; omega))
      have hP6 : PB w6 w.heap.size ⟨k, f, t, e, s, b⟩ := by
        have h7 := hP3.lt
        unfold PB at *
        rw [hb6.block _ (by omega), hb5.block _ (by omega)]; exact hP4
      have HF6 := hid (HF5.out.later' (W := w3) hb6 (by simp at hz5; omega) (fun b off sp hp e => by have := isB_lt HF.out b off sp hp e; have := hb3.size; omega))
      clear hgrow5
      have HLM : Hid (es.length + m = (es ++ zs.take m).length) := by have := HF.out.1; show _ = _; rw [List.length_append, this]
      rw [HLM.out, ← List.map_append] at hown6
      have HYY : Hid (∀ x ∈ es ++ zs.take m, 0 ≤ x ∧ x ≤ 255) := fun x hx => by
        rcases List.mem_append.1 hx with h | h
        · exact HY.out x h
        · exact Fr.mem_getD HF.out.2.2.2 x h
      obtain ⟨a6, cap6, rfl, hI6, hc6⟩ := isB_pile (T := 0) (g := 0) HYY.out hown6
      rw [← HLM.out] at hI6 hc6 ⊢
      have HI6 := hid hI6
      have HBG : Hid (Fr.Begins ⟨k, f, t, e, s, b⟩ (es ++ zs.take m)) := ⟨HW.out, HR.out, _, by rw [HZ.out]⟩
      clear hI6 hown6
      go_wp2_with fail
      refine (decode_c _ _ _ _ _ HI6.out hc6).mono ?_
      rintro _ w7 ⟨⟨p', hp', rfl⟩ | ⟨hp', rfl⟩, hb7⟩
      · exfalso
        have e9 : p' = ⟨k, f, t, e, s, b⟩ := Fr.begins_one (whole_begins hp') HBG.out
        subst e9
        have h8 := whole_length hp'
        have h7 := HF.out.1
        have h6 := HL.out
        rw [List.length_append] at h8
        simp only at h8
        omega
      · have dz : ((m : Int) == 0) = false := beq_eq_false_iff_ne.2 (by omega)
        rw [show noPk = .agg #[.int .u8 0, .int .u8 0, .int .u8 0, .int .u32 0, .int .u32 0, .string ⟨#[]⟩] from rfl]
        clear hp'
        have hB7 := hB6.trans (hb7.mono hB6.size)
        have hP7 := hP6.later hb7
        have hB8 := hB7.alloc hB7.size (.cells #[.int .u8 0, .int .u8 0, .int .u8 0, .int .u32 0, .int .u32 0, .string ⟨#[]⟩] 25)
        have hP8 := hP7.alloc (.cells #[.int .u8 0, .int .u8 0, .int .u8 0, .int .u32 0, .int .u32 0, .string ⟨#[]⟩] 25)
        have hb8 := hb7.alloc hb7.size (.cells #[.int .u8 0, .int .u8 0, .int .u8 0, .int .u32 0, .int .u32 0, .string ⟨#[]⟩] 25)
        go_wp2_with fail
        refine (cut_c _ _ _ _ _ (HI6.out.later hb8) hc6 (by omega)).mono ?_
        generalize (w7.alloc (.cells #[.int .u8 0, .int .u8 0, .int .u8 0, .int .u32 0, .int .u32 0, .string ⟨#[]⟩] 25)) = w8 at *
        rintro _ w9 ⟨⟨q, v9, hq, rfl, hown9⟩ | ⟨hq, _⟩, hb9⟩
        · have e9 : q = ⟨k, f, t, e, s, b⟩ := Fr.begins_one hq HBG.out
          subst e9
          have hd9 : (es ++ zs.take m).drop (19 + b.size) = zs.take m := by rw [← HL.out, List.drop_left]
          simp only [hd9] at hown9
          obtain ⟨a9, cap9, rfl, hI9, hc9⟩ := isB_pile (T := 0) (g := 0) (fun x hx => Fr.mem_getD HF.out.2.2.2 x hx) hown9
          have hlm : (zs.take m).length = m := HF.out.1
          rw [hlm] at hI9 ⊢
          rw [show Fr.val ⟨k, f, t, e, s, b⟩ = .agg #[.int .u8 k, .int .u8 f, .int .u8 t, .int .u32 e, .int .u32 s, .string b] from rfl]
          have hB9 := hB8.trans (hb9.mono hB8.size)
          have hP9 := hP8.later hb9
          have hB10 := hB9.alloc hB9.size (.cells #[.int .u8 k, .int .u8 f, .int .u8 t, .int .u32 e, .int .u32 s, .string b] 25)
          have hP10 := hP9.alloc (.cells #[.int .u8 k, .int .u8 f, .int .u8 t, .int .u32 e, .int .u32 s, .string b] 25)
          have hQ10 : PB (w9.alloc (.cells #[.int .u8 k, .int .u8 f, .int .u8 t, .int .u32 e, .int .u32 s, .string b] 25)) w9.heap.size ⟨k, f, t, e, s, b⟩ := heap_alloc_new w9 _
          have hI10 := hI9.later ((Below.refl _ _).alloc (Nat.le_refl _) (.cells #[.int .u8 k, .int .u8 f, .int .u8 t, .int .u32 e, .int .u32 s, .string b] 25))
          have HF10 := HF6.out.later ((hb8.trans (hb9.mono hb8.size)).alloc (Nat.le_trans hb8.size hb9.size) (.cells #[.int .u8 k, .int .u8 f, .int .u8 t, .int .u32 e, .int .u32 s, .string b] 25))
          clear hd9 hlm hown9 hq hI9
          have HI10 := hid hI10
          have HG10 := hid HF10
          clear hI10 HF10
          go_wp2_with fail
          generalize (w9.alloc (.cells #[.int .u8 k, .int .u8 f, .int .u8 t, .int .u32 e, .int .u32 s, .string b] 25)) = w10 at *
          refine (live_c _).mono ?_
          rintro _ w11 ⟨rfl, hb11⟩
          obtain ⟨c0, c1, c2, c3, c4, c5⟩ := (hP10.later hb11).cells
          obtain ⟨d0, d1, d2, d3, d4, d5⟩ := (hQ10.later hb11).cells
          have kc := (HI10.out.later hb11).conv' (cap := cap9)
          have kd := (HG10.out.later hb11).conv' (cap := cap)
          generalize Fr.tx (zs.take m) = X at *
          go_wp2
          go_ret
          exact ⟨rfl, hB10.trans (hb11.mono hB10.size)⟩
        · exact absurd HBG.out (hq _)
  · rw [HR.out] at hr'; cases hr'
theorem frameEnds_walk (p : Fr.Pk) (hw : Fr.Wf p) (hs : p.b.size ≤ maxLen) (n : Int) (hn : (Lit.int .u16 n).wf = true) (a : Option Addr) (len cap : Nat) (zs : List Int) (hlc : len ≤ cap) (hnc : a = none → cap = 0) (w : World) (hb : IsB w a len zs) :
    Calls Try.prog 3 #[Fr.val p, .int .u16 n, .slice a len cap] w fun e w' => e = .returned (.bool true) ∧ Below w.heap.size w w' := by
  obtain ⟨n0, n1⟩ := bd_u16 hn
  cases hr : Fr.rightB p with
  | false => exact ends_bad p hw hs n a len cap zs hr w
  | true =>
    by_cases h0 : fewN len = 0
    · cases a with
      | none => exact ends_none p hw hs n n0 n1 len cap zs hlc hr w hb h0 (hnc rfl)
      | some ad => exact ends_zero p hw hs n n0 n1 ad len cap zs hlc hr w hb h0
    · have : 0 < len := by have := (fewN_le len).1; omega
      obtain ⟨ab, ao, rfl, _⟩ := hb.2.2.1 this
      exact ends_more p hw hs n n0 n1 ab ao len cap zs hlc hr w hb (by omega)
/-! ### The row of FrameEnds -/
theorem frameEnds_own : ownKnob Try.prog.godebug = none := by kernel_rfl
theorem frameEnds_laidOut : laidOutB Try.prog = true := by kernel_rfl
set_option maxRecDepth 100000 in
theorem frameEnds_lifted (os : Os) (started : os.Started) (H : Type) (enc : TypeId × Value → H) :
    ReturnsInHanded {} Try.checked os 3 .any (Rows.frameEndsSpec.pre6 enc Try.prog Try.f3 Rows.frameEndsRow.domain false) (Rows.frameEndsSpec.post enc Try.prog Try.f3 false true false false) := by
  refine returnsInHanded_of_change (C := Try.checked) frameEnds_own started (by kernel_rfl) Try.func3
    (ChangeSpec.witness6 (enc := enc) (C := Try.checked) false ⟨#[], #[.agg #[.int .u8 0, .int .u8 0, .int .u8 0, .int .u32 0, .int .u32 0, .string ByteArray.empty], .int .u16 0, .slice none 0 0], []⟩ 8 (by kernel_rfl) (by kernel_rfl) (by kernel_rfl) (by kernel_rfl)) ?_
  intro W base args ds gs before hval0 hW hcnd _
  have hval : ∀ (j : Nat) t v, Try.f3.params[j]? = some t → args[j]? = some v → Value.okWide Try.prog W .any base t v := hval0
  have hW' := hW
  obtain ⟨p, q, hA0, hV, rfl, hfz, hnd⟩ := hW
  have hA : DataW.TrodAll enc Try.prog W 0 (fun _ => true) true Try.f3.params.toList args.toList ds p := hA0
  rw [Try.params3] at hA hval
  obtain ⟨v0, vs0, d0, ds0, p0, q0, hargs, rfl, rfl, h0, r0⟩ := trodAll_cons hA
  obtain ⟨v1, vs1, d1, ds1, p1, q1, rfl, rfl, rfl, h1, r1⟩ := trodAll_cons r0
  obtain ⟨v2, vs2, d2, ds2, p2, q2, rfl, rfl, rfl, h2, r2⟩ := trodAll_cons r1
  obtain ⟨rfl, rfl, rfl⟩ := trodAll_nil r2
  obtain rfl : args = #[v0, v1, v2] := by cases args; simp_all
  obtain ⟨rfl, rfl⟩ := trodVars_none hV
  have k0 := h0
  have lt0 : ∀ x ∈ p0, x.block < W.heap.size := by obtain ⟨m, hm⟩ := k0; exact DataW.trod_lt m _ _ _ hm
  obtain ⟨q0, rfl, wq0, zq0⟩ := open_packet (hval 0 25 v0 rfl rfl) h0
  obtain ⟨a1, rfl, rfl, rfl, w1⟩ := open_int Try.underlying26 (hval 1 26 v1 rfl rfl) h1
  have k2 := h2
  have lt2 : ∀ x ∈ p2, x.block < W.heap.size := by obtain ⟨m, hm⟩ := k2; exact DataW.trod_lt m _ _ _ hm
  obtain ⟨a2, len2, cap2, rfl⟩ := okWide_slice Try.underlying27 (hval 2 27 v2 rfl rfl)
  obtain ⟨z2, w2, lc2⟩ := isB_of Try.underlying27 Try.underlying5 (by kernel_rfl) h2
  clear hA0 hval0
  refine (frameEnds_walk q0 wq0 zq0 a1 w1 a2 len2 cap2 z2 lc2 (isB_cap Try.underlying27 Try.underlying5 (by kernel_rfl) h2) W w2).mono fun e W' ⟨he, bel⟩ => ?_
  subst he
  exact ⟨_, rfl, _, _, _, [], _, [], hW', trodAll_mk1 (shut_bool Try.underlying4 _), (trodAll_cons_mk (Below.trod frameEnds_laidOut (by kernel_rfl) (of_decide_eq_true (by kernel_rfl)) k0 bel lt0) (trodAll_cons_mk (shut_int Try.underlying26 w1) (trodAll_cons_mk (Below.trod frameEnds_laidOut (by kernel_rfl) (of_decide_eq_true (by kernel_rfl)) k2 bel lt2) trodAll_mk0))), rfl, bel.frame _, fun h => by cases h⟩
theorem frameEnds_over : Rows.frameEndsRow.holds Try.pinned (OpenSpec.ofChange Rows.frameEndsSpec) :=
  OpenClaim.holds_of_wide 3 Try.f3 rfl rfl rfl rfl rfl rfl rfl ⟨rfl, rfl, rfl, rfl, rfl⟩ rfl rfl rfl rfl rfl (by kernel_rfl) Try.func3 (by kernel_rfl)
    (of_decide_eq_true (by kernel_rfl)) (by unfold Func.isWrapper; first | (rw [if_pos (by decide +kernel)]; kernel_rfl) | (rw [if_neg (by decide +kernel)]; exact ⟨rfl, rfl⟩))
    (fun os started H enc _ => frameEnds_lifted os started H enc)
/-- The statement. -/
theorem frameEnds_holds : Rows.FrameEndsSaid := frameEnds_over
#print axioms frameEnds_holds

end Go.Proofs.Yteimegacnmakaab
