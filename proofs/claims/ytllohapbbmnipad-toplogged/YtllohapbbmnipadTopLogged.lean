/-
  For every texts and steps: a journal holds the texts that were appended to it, in order, whatever Torn took the power away from and kept; the first twenty texts are looked at, each as far as 100 bytes.
-/
import Derived.Test.YtllohapbbmnipadJTop
import Derived.SliceStrings
namespace Go.Proofs.Ytllohapbbmnipad
open Go.ChangeShapes Go.WideShapes Go.ChangeAt Go.RowKit Go.Maps
open Go.ChangeMaps (open_string shut_string)
set_option linter.unusedVariables false
set_option linter.unusedSimpArgs false
/-- A slice of texts that came in. -/
def IsS (w : World) (v : Value) (ss : List ByteArray) : Prop :=
  ∃ a cap, v = .slice a ss.length cap ∧ ss.length ≤ maxLen ∧ (0 < ss.length → ∃ b off, a = some ⟨b, off, none⟩ ∧ ∀ i, i < ss.length → w.cell? ⟨b, off + i, none⟩ = some (.string (ss.getD i ByteArray.empty))) ∧ ∀ i, (ss.getD i ByteArray.empty).size ≤ maxLen
theorem isS_of {H : Type} {enc : TypeId × Value → H} {P : Program} {W : World} {t e : TypeId} {a : Option Addr} {len cap : Nat} {d : DataW H} {p : List MemPlace}
    (ht : P.underlying t = some (.slice e)) (he : P.underlying e = some .string) (hc : P.cellsOf e = 1)
    (h : DataW.Trod enc P W 0 (fun _ => true) true t (.slice a len cap) d p) : ∃ ss, ss.length = len ∧ IsS W (.slice a len cap) ss := by
  obtain ⟨fuel, hf⟩ := h
  rcases open_strings ht he hc hf with ⟨hcs, _⟩ | ⟨x, l, c, ss, hcs, _, hl, hm, hz, _, hcell, hws⟩
  · simp [Value.cells] at hcs
    obtain ⟨rfl, rfl, rfl⟩ := hcs
    exact ⟨[], rfl, none, 0, rfl, Nat.zero_le _, fun h => absurd h (by simp), fun i => by simp⟩
  · simp [Value.cells] at hcs
    obtain ⟨rfl, rfl, rfl⟩ := hcs
    have hz' : ss.length = cap := by simpa using hz
    have hlen : (ss.take len).length = len := by rw [List.length_take]; omega
    refine ⟨ss.take len, hlen, some x, cap, by rw [hlen], by omega, fun hp => ?_, fun i => ?_⟩
    · obtain ⟨b, off, spot⟩ := x
      have hc0 := hcell 0 (by omega)
      have hspot : spot = none := by simpa [Addr.add] using World.cell?_spot hc0
      subst hspot
      refine ⟨b, off, rfl, fun i hi => ?_⟩
      have h1 := hcell i (by omega)
      have h2 : (⟨b, off, none⟩ : Addr).add i = ⟨b, off + i, none⟩ := by rcases i with _ | i <;> simp [Addr.add]
      rw [h2] at h1
      rw [h1]
      have hi' : i < len := by omega
      simp [List.getD, List.getElem?_take, hi']
    · by_cases hi : i < (ss.take len).length
      · have : (ss.take len).getD i ByteArray.empty ∈ ss.take len := by
          rw [List.getD_eq_getElem?_getD, List.getElem?_eq_getElem hi]; exact List.getElem_mem hi
        exact hws _ (List.mem_of_mem_take this)
      · rw [List.getD_eq_getElem?_getD, List.getElem?_eq_none (by omega)]; exact Nat.zero_le _
theorem qgeqI {o : Oper} {a : Act} {C : World → Prop} {w : World} (x y : Operand) (t : TypeId) (m n : Nat) (hop : o.op = .binOp .geq 3 x y t) (hx : a.eval x = .int .i64 m) (hy : a.eval y = .int .i64 n) (hb : m < n) (hC : C w) : o.quietAt Try.prog a C w (.bool false) := by
  have hb' : ¬ (n : Int) ≤ m := by omega
  unfold Oper.quietAt
  simp only [execOp, hop, hx, hy]
  simp [go_sem, Result.andThen, hC, eqGuard, hb]
theorem infoS : ∃ i : TypeInfo, Try.prog.info? 9 = some i ∧ i.zero = some (.string ByteArray.empty) ∧ i.size = 1 ∧ i.bytes = 16 := by
  have h : (Try.prog.info? 9).map (fun i => (i.zero, i.size, i.bytes)) = some (some (.string ByteArray.empty), 1, 16) := by kernel_rfl
  cases hi : Try.prog.info? 9 with
  | none => rw [hi] at h; cases h
  | some i => rw [hi] at h; simp at h; exact ⟨i, rfl, h.1, h.2.1, h.2.2⟩
set_option maxRecDepth 100000 in
set_option maxHeartbeats 4000000 in
theorem topLogged_walk (a : Option Addr) (len cap : Nat) (ss : List ByteArray) (hl : ss.length = len) (b : Option Addr) (blen bcap : Nat) (zs : List Int) (lc : blen ≤ bcap) (w : World) (hS : IsS w (.slice a len cap) ss) (hB : IsB w b blen zs) :
    Calls Try.prog 3 #[.slice a len cap, .slice b blen bcap] w fun e w' => e = .returned (.bool true) ∧ Below w.heap.size w w' := by
  obtain ⟨i0, hi, hz0, hz1, hz2⟩ := infoS
  have HC : Hid (∀ i, i < len → ∃ b off, a = some ⟨b, off, none⟩ ∧ w.cell? ⟨b, off + i, none⟩ = some (.string (ss.getD i ByteArray.empty))) := by
    intro i hi
    obtain ⟨a', cap', e, h1, h2, h3⟩ := hS
    rw [hl] at e h2
    cases e
    obtain ⟨b, off, e2, hc⟩ := h2 (by omega)
    exact ⟨b, off, e2, hc i hi⟩
  have HM : Hid (∀ i, (ss.getD i ByteArray.empty).size ≤ maxLen) := by obtain ⟨_, _, _, _, _, h3⟩ := hS; exact h3
  have HBC : Hid (∀ i, i < blen → ∃ q off, b = some ⟨q, off, none⟩ ∧ w.cell? ⟨q, off + i, none⟩ = some (.int .u8 (zs.getD i 0)) ∧ 0 ≤ zs.getD i 0 ∧ zs.getD i 0 < 256) := by
    intro i hi
    obtain ⟨q, off, e2, hc⟩ := hB.2.2.1 (by omega)
    have := hB.2.2.2 i
    exact ⟨q, off, e2, hc i hi, by omega, by omega⟩
  have hm : len ≤ maxLen := by obtain ⟨_, _, _, h1, _, _⟩ := hS; omega
  have hm2 : blen ≤ maxLen := hB.2.1
  unfold maxLen at hm hm2
  have kc : ∀ (W : World) (x : ByteArray), (convert 9 23 (.string x)).run Try.prog W = .ok (.slice (some ⟨W.heap.size, 0, none⟩) x.size (grownCap W x.size 0 5)) (W.drew.alloc (.cells (bytesRow x (grownCap W x.size 0 5)) 5 ((bytesRow x (grownCap W x.size 0 5)).size, (bytesRow x (grownCap W x.size 0 5)).size + 1))) :=
    fun W x => run_bytes_of_string W 9 23 5 x Try.underlying9 Try.underlying23 Try.underlying5
  clear hS hl hB
  go_enter Try.func3, Try.ntmps3
  go_wp2_with (first
    | (go_at_call 6; refine (jl_new _).mono ?_; rintro _ w1 ⟨d, rfl, hb1, oc⟩; have OC := hid oc; clear oc)
    | (go_at_call 5; refine OC.out.mono ?_; rintro _ w2 ⟨j, rfl, hJ, hb2⟩))
  have HJ := hid hJ
  have HB2 := hid (hb1.trans (hb2.mono hb1.size))
  clear hJ hb1 hb2 OC
  go_loopw [5, 6, 7] (fun jv v i wr => ∃ (k jj : Nat) (ts : List ByteArray), k ≤ 20 ∧ k ≤ len ∧ i = .int .i64 k ∧ jv = pB jj ∧ ts.length ≤ k ∧ sumN (grT ts) ≤ 6 * k ∧ JL w.heap.size wr jj (grT ts) ∧ wr.ownsRow w.heap.size 9 1 v ts.length (ts.map Value.string) ∧ Below w.heap.size w wr) (fun _ _ i _ => (20 - intOf i).toNat)
  case atStart => exact ⟨0, _, [], by omega, by omega, rfl, rfl, by simp, by simp [grT, sumN], HJ.out, World.ownsRow_nil _ _ _ _, HB2.out⟩
  case round =>
    obtain ⟨k, jj, ts, hk20, hkl, rfl, rfl, htk, hsum, hJk, hown, hbw⟩ := hrel
    by_cases hlt : k < len
    · by_cases h20 : k < 20
      · obtain ⟨sb, soff, rfl, hcell⟩ := HC.out k hlt
        have hx := HM.out k
        unfold maxLen at hx
        generalize ss.getD k ByteArray.empty = x at *
        have hcr := cell_later hbw hcell
        by_cases h5 : 100 < x.size
        · have h5' : (100 : Int) < x.size := by omega
          by_cases hs : k < blen
          · obtain ⟨q, qo, rfl, hyc, hy0, hy1⟩ := HBC.out k hs
            generalize zs.getD k 0 = y at *
            have hyr := cell_later hbw hyc
            by_cases h3 : y % 3 < 2
            · go_wp2_with fail
              have hxe : (x.extract 0 100).size ≤ 100 := by rw [ByteArray.size_extract]; omega
              have hxm : min 100 x.size = (x.extract 0 100).size := by rw [ByteArray.size_extract]; omega
              rw [hxm]
              clear hxm
              generalize x.extract 0 100 = xx at *
              have TB := text_new wr xx (by omega)
              refine (jl_groupsN (hJk.later TB.2) ts.length (grT_len ts)).mono ?_
              rintro _ w3 ⟨ga3, gc3, rfl, _, _, hb3⟩
              have HG3 := hid (TB.1.later hb3)
              have hB3 : Below wr.heap.size wr w3 := TB.2.trans (hb3.mono TB.2.size)
              have HJ3 := hid (hJk.later hB3)
              have HO3 := hid ((kp_below (Nat.le_refl _) hB3).own hown)
              have HB3 := hid (hbw.trans (hB3.mono hbw.size))
              have hy3 := cell_later hB3 hyr
              clear TB hb3 hB3 hJk hown
              go_wp2_with fail
              have e3 : IntKind.i64.wrap (y.tmod 3) = y % 3 := by
                rw [Int.tmod_eq_emod_of_nonneg hy0]
                exact wrap_small _ (by omega) (by omega)
              have ey : IntKind.i64.wrap y = y := wrap_small _ (by omega) (by omega)
              have hbz : Below w3.heap.size w3 (w3.alloc (.cells #[.int .i64 ((IntKind.i64.wrap y).tmod 60), .int .i64 ((IntKind.i64.wrap y).tmod 50), .int .i64 ((IntKind.i64.wrap y).tmod 40)] 3)).drew := ((Below.refl _ w3).alloc (Nat.le_refl _) _).drew
              have hz3 : IsZ (w3.alloc (.cells #[.int .i64 ((IntKind.i64.wrap y).tmod 60), .int .i64 ((IntKind.i64.wrap y).tmod 50), .int .i64 ((IntKind.i64.wrap y).tmod 40)] 3)).drew (some ⟨w3.heap.size, 0, none⟩) 3 [(IntKind.i64.wrap y).tmod 60, (IntKind.i64.wrap y).tmod 50, (IntKind.i64.wrap y).tmod 40] :=
                isZ_three w3 _ _ _ (by rw [ey, Int.tmod_eq_emod_of_nonneg hy0]; omega) (by rw [ey, Int.tmod_eq_emod_of_nonneg hy0]; omega) (by rw [ey, Int.tmod_eq_emod_of_nonneg hy0]; omega)
              have K3 : w3.drew.cell? ⟨q, qo + k, none⟩ = some (.int .u8 y) := hy3
              have HK3 := hid (cell_later hbz hy3)
              have hst : IntKind.i64.wrap (y.tmod 3) = 0 ∨ IntKind.i64.wrap (y.tmod 3) = 1 := by rw [e3]; omega
              have HT := hid (jl_torn (HJ3.out.later hbz) (Nat.le_trans HB3.out.size hbz.size) (some ⟨wr.heap.size + 1, 0, none⟩) 1 1 (Fr.bs xx) (by rw [Fr.bs_length]; omega) (HG3.out.later hbz) (by omega) _ hst _ _ 3 _ hz3)
              have HO3' := hid ((kp_below (Nat.le_refl _) hbz).own HO3.out)
              have HB3' := hid (HB3.out.trans (hbz.mono HB3.out.size))
              clear hbz hz3 e3 ey hst HJ3 HG3 HO3 HB3
              go_region_held3 (fun w' => w'.cell? ⟨q, qo + k, none⟩ = some (.int .u8 y)) (first | (with_reducible exact K4) | (with_reducible exact K3) | go_keep)
                ((go_at_call 8; refine HT.out.mono ?_; rintro _ w4 ⟨rfl, hJ4, hK4⟩; (have K4 : w4.cell? ⟨q, qo + k, none⟩ = some (.int .u8 y) := hK4.cell HK3.out); (have HO4 := hid (hK4.own HO3'.out)); (have HB4 := hid (HB3'.out.trans hK4.1)); (have HJ4 := hid hJ4); clear hJ4 hK4))
              clear HT K3 HK3 HO3' HB3' K4
              rcases HJ4.out with hJ4 | hJ4
              · have HJ5 := hid hJ4
                clear hJ4 HJ4
                go_wp2_with fail
                refine (jl_groupsN HJ5.out ts.length (grT_len ts)).mono ?_
                rintro _ w6 ⟨ga6, gc6, rfl, _, _, hb6⟩
                have HJ6 := hid (HJ5.out.later hb6)
                have HO6 := hid ((kp_below (Nat.le_refl _) hb6).own HO4.out)
                have HB6 := hid (HB4.out.trans (hb6.mono HB4.out.size))
                clear hb6 HJ5 HO4
                go_wp2_with (first
                  | (go_at_call 10; refine (jl_disk HJ6.out HB6.out.size).mono ?_; rintro _ w8 ⟨d8, rfl, hb8, oc⟩; have OC := hid oc; clear oc)
                  | (go_at_call 5; refine OC.out.mono ?_; rintro _ w9 ⟨j9, rfl, hJ9, hb9⟩))
                have hb79 : Below w6.heap.size w6 w9 := hb8.trans (hb9.mono hb8.size)
                go_roundw
                case rel => exact ⟨k + 1, j9, ts, by omega, by omega, by go_num, rfl, by omega, by omega, hJ9, (kp_below (Nat.le_refl _) hb79).own HO6.out, HB6.out.trans (hb79.mono HB6.out.size)⟩
                case measure => simp [intOf]; omega
              · rw [← grT_snoc] at hJ4
                have HJ5 := hid hJ4
                clear hJ4 HJ4
                go_wp2_with fail
                refine (jl_groupsN HJ5.out (ts.length + 1) (by rw [grT_len]; simp)).mono ?_
                rintro _ w6 ⟨ga6, gc6, rfl, _, _, hb6⟩
                have HJ6 := hid (HJ5.out.later hb6)
                have HO6 := hid ((kp_below (Nat.le_refl _) hb6).own HO4.out)
                have HB6 := hid (HB4.out.trans (hb6.mono HB4.out.size))
                clear hb6 HJ5 HO4
                have hba := (Below.refl w6.heap.size w6).alloc (Nat.le_refl _) (.cells #[.string xx] 9)
                have HJA := hid (HJ6.out.later hba)
                have HOA := hid (HO6.out.alloc (.cells #[.string xx] 9))
                have HBA := hid (HB6.out.trans (hba.mono HB6.out.size))
                clear hba HJ6 HO6
                go_wp2_with (first
                  | (at_builtin; refine wpList_append_own _ rfl _ _ 22 rfl w.heap.size 9 i0 (.string ByteArray.empty) 1 16 Try.underlying22 hi hz0 hz1 hz2 rfl (by decide) _ _ _ rfl HOA.out ⟨w6.heap.size, 0, none⟩ 1 1 [.string xx] rfl rfl (cell_one_new _ _ _) (fun y hy => by simp at hy; subst hy; rfl) (by unfold maxLen; omega) (by omega) HBA.out.size ?_; intro v7 w7 hown7 hgrow7 hnil7; have HJ7 := hid (HJA.out.far HOA.out hgrow7); have HB7 := hid (below_grown HBA.out HOA.out (Nat.le_refl _) HBA.out.size hgrow7); have HO7 := hid hown7; clear hown7 hgrow7 hnil7)
                  | (go_at_call 10; refine (jl_disk HJ7.out HB7.out.size).mono ?_; rintro _ w8 ⟨d8, rfl, hb8, oc⟩; have OC := hid oc; clear oc)
                  | (go_at_call 5; refine OC.out.mono ?_; rintro _ w9 ⟨j9, rfl, hJ9, hb9⟩))
                have hb79 : Below w7.heap.size w7 w9 := hb8.trans (hb9.mono hb8.size)
                go_roundw
                case rel => exact ⟨k + 1, j9, ts ++ [xx], by omega, by omega, by go_num, rfl, by simp; omega, by have := sum_snoc ts xx (by omega); omega, hJ9, by have := (kp_below (Nat.le_refl _) hb79).own HO7.out; simpa using this, HB7.out.trans (hb79.mono HB7.out.size)⟩
                case measure => simp [intOf]; omega
            · go_wp2_with fail
              have hxe : (x.extract 0 100).size ≤ 100 := by rw [ByteArray.size_extract]; omega
              have hxm : min 100 x.size = (x.extract 0 100).size := by rw [ByteArray.size_extract]; omega
              rw [hxm]
              clear hxm
              generalize x.extract 0 100 = xx at *
              have TB := text_new wr xx (by omega)
              refine (jl_groupsN (hJk.later TB.2) ts.length (grT_len ts)).mono ?_
              rintro _ w3 ⟨ga3, gc3, rfl, _, _, hb3⟩
              have HG3 := hid (TB.1.later hb3)
              have hB3 : Below wr.heap.size wr w3 := TB.2.trans (hb3.mono TB.2.size)
              have HJ3 := hid (hJk.later hB3)
              have HO3 := hid ((kp_below (Nat.le_refl _) hB3).own hown)
              have HB3 := hid (hbw.trans (hB3.mono hbw.size))
              have hy3 := cell_later hB3 hyr
              clear TB hb3 hB3 hJk hown
              go_wp2_with fail
              refine (jl_append HJ3.out HB3.out.size _ _ _ (Fr.bs xx) (by rw [Fr.bs_length]; omega) HG3.out (by omega)).mono ?_
              rintro _ w4 ⟨rfl, hJ4, hK4⟩
              rw [← grT_snoc] at hJ4
              have HJ4 := hid hJ4
              have HO4 := hid (hK4.own HO3.out)
              have HB4 := hid (HB3.out.trans hK4.1)
              clear hJ4 hK4 HJ3 HO3 HG3
              go_wp2_with fail
              refine (jl_groupsN HJ4.out (ts.length + 1) (by rw [grT_len]; simp)).mono ?_
              rintro _ w5 ⟨ga5, gc5, rfl, _, _, hb5⟩
              have HJ5 := hid (HJ4.out.later hb5)
              have HO5 := hid ((kp_below (Nat.le_refl _) hb5).own HO4.out)
              have HB5 := hid (HB4.out.trans (hb5.mono HB4.out.size))
              clear hb5 HJ4 HO4
              go_wp2_with fail
              refine (jl_groupsN HJ5.out (ts.length + 1) (by rw [grT_len]; simp)).mono ?_
              rintro _ w6 ⟨ga6, gc6, rfl, _, _, hb6⟩
              have HJ6 := hid (HJ5.out.later hb6)
              have HO6 := hid ((kp_below (Nat.le_refl _) hb6).own HO5.out)
              have HB6 := hid (HB5.out.trans (hb6.mono HB5.out.size))
              clear hb6 HJ5 HO5
              have hba := (Below.refl w6.heap.size w6).alloc (Nat.le_refl _) (.cells #[.string xx] 9)
              have HJA := hid (HJ6.out.later hba)
              have HOA := hid (HO6.out.alloc (.cells #[.string xx] 9))
              have HBA := hid (HB6.out.trans (hba.mono HB6.out.size))
              clear hba HJ6 HO6
              go_wp2_with (first
                | (at_builtin; refine wpList_append_own _ rfl _ _ 22 rfl w.heap.size 9 i0 (.string ByteArray.empty) 1 16 Try.underlying22 hi hz0 hz1 hz2 rfl (by decide) _ _ _ rfl HOA.out ⟨w6.heap.size, 0, none⟩ 1 1 [.string xx] rfl rfl (cell_one_new _ _ _) (fun y hy => by simp at hy; subst hy; rfl) (by unfold maxLen; omega) (by omega) HBA.out.size ?_; intro v7 w7 hown7 hgrow7 hnil7; have HJ7 := hid (HJA.out.far HOA.out hgrow7); have HB7 := hid (below_grown HBA.out HOA.out (Nat.le_refl _) HBA.out.size hgrow7); have HO7 := hid hown7; clear hown7 hgrow7 hnil7)
                | (go_at_call 10; refine (jl_disk HJ7.out HB7.out.size).mono ?_; rintro _ w8 ⟨d8, rfl, hb8, oc⟩; have OC := hid oc; clear oc)
                | (go_at_call 5; refine OC.out.mono ?_; rintro _ w9 ⟨j9, rfl, hJ9, hb9⟩))
              have hb79 : Below w7.heap.size w7 w9 := hb8.trans (hb9.mono hb8.size)
              go_roundw
              case rel => exact ⟨k + 1, j9, ts ++ [xx], by omega, by omega, by go_num, rfl, by simp; omega, by have := sum_snoc ts xx (by omega); omega, hJ9, by have := (kp_below (Nat.le_refl _) hb79).own HO7.out; simpa using this, HB7.out.trans (hb79.mono HB7.out.size)⟩
              case measure => simp [intOf]; omega
          · go_wp2_with fail
            have hxe : (x.extract 0 100).size ≤ 100 := by rw [ByteArray.size_extract]; omega
            have hxm : min 100 x.size = (x.extract 0 100).size := by rw [ByteArray.size_extract]; omega
            rw [hxm]
            clear hxm
            generalize x.extract 0 100 = xx at *
            have TB := text_new wr xx (by omega)
            refine (jl_groupsN (hJk.later TB.2) ts.length (grT_len ts)).mono ?_
            rintro _ w3 ⟨ga3, gc3, rfl, _, _, hb3⟩
            have HG3 := hid (TB.1.later hb3)
            have hB3 : Below wr.heap.size wr w3 := TB.2.trans (hb3.mono TB.2.size)
            have HJ3 := hid (hJk.later hB3)
            have HO3 := hid ((kp_below (Nat.le_refl _) hB3).own hown)
            have HB3 := hid (hbw.trans (hB3.mono hbw.size))
            clear TB hb3 hB3 hJk hown
            go_wp2_with fail
            refine (jl_append HJ3.out HB3.out.size _ _ _ (Fr.bs xx) (by rw [Fr.bs_length]; omega) HG3.out (by omega)).mono ?_
            rintro _ w4 ⟨rfl, hJ4, hK4⟩
            rw [← grT_snoc] at hJ4
            have HJ4 := hid hJ4
            have HO4 := hid (hK4.own HO3.out)
            have HB4 := hid (HB3.out.trans hK4.1)
            clear hJ4 hK4 HJ3 HO3 HG3
            go_wp2_with fail
            refine (jl_groupsN HJ4.out (ts.length + 1) (by rw [grT_len]; simp)).mono ?_
            rintro _ w5 ⟨ga5, gc5, rfl, _, _, hb5⟩
            have HJ5 := hid (HJ4.out.later hb5)
            have HO5 := hid ((kp_below (Nat.le_refl _) hb5).own HO4.out)
            have HB5 := hid (HB4.out.trans (hb5.mono HB4.out.size))
            clear hb5 HJ4 HO4
            go_wp2_with fail
            refine (jl_groupsN HJ5.out (ts.length + 1) (by rw [grT_len]; simp)).mono ?_
            rintro _ w6 ⟨ga6, gc6, rfl, _, _, hb6⟩
            have HJ6 := hid (HJ5.out.later hb6)
            have HO6 := hid ((kp_below (Nat.le_refl _) hb6).own HO5.out)
            have HB6 := hid (HB5.out.trans (hb6.mono HB5.out.size))
            clear hb6 HJ5 HO5
            have hba := (Below.refl w6.heap.size w6).alloc (Nat.le_refl _) (.cells #[.string xx] 9)
            have HJA := hid (HJ6.out.later hba)
            have HOA := hid (HO6.out.alloc (.cells #[.string xx] 9))
            have HBA := hid (HB6.out.trans (hba.mono HB6.out.size))
            clear hba HJ6 HO6
            go_wp2_with (first
              | (at_builtin; refine wpList_append_own _ rfl _ _ 22 rfl w.heap.size 9 i0 (.string ByteArray.empty) 1 16 Try.underlying22 hi hz0 hz1 hz2 rfl (by decide) _ _ _ rfl HOA.out ⟨w6.heap.size, 0, none⟩ 1 1 [.string xx] rfl rfl (cell_one_new _ _ _) (fun y hy => by simp at hy; subst hy; rfl) (by unfold maxLen; omega) (by omega) HBA.out.size ?_; intro v7 w7 hown7 hgrow7 hnil7; have HJ7 := hid (HJA.out.far HOA.out hgrow7); have HB7 := hid (below_grown HBA.out HOA.out (Nat.le_refl _) HBA.out.size hgrow7); have HO7 := hid hown7; clear hown7 hgrow7 hnil7)
              | (go_at_call 10; refine (jl_disk HJ7.out HB7.out.size).mono ?_; rintro _ w8 ⟨d8, rfl, hb8, oc⟩; have OC := hid oc; clear oc)
              | (go_at_call 5; refine OC.out.mono ?_; rintro _ w9 ⟨j9, rfl, hJ9, hb9⟩))
            have hb79 : Below w7.heap.size w7 w9 := hb8.trans (hb9.mono hb8.size)
            go_roundw
            case rel => exact ⟨k + 1, j9, ts ++ [xx], by omega, by omega, by go_num, rfl, by simp; omega, by have := sum_snoc ts xx (by omega); omega, hJ9, by have := (kp_below (Nat.le_refl _) hb79).own HO7.out; simpa using this, HB7.out.trans (hb79.mono HB7.out.size)⟩
            case measure => simp [intOf]; omega
        · have h5' : (x.size : Int) ≤ 100 := by omega
          by_cases hs : k < blen
          · obtain ⟨q, qo, rfl, hyc, hy0, hy1⟩ := HBC.out k hs
            generalize zs.getD k 0 = y at *
            have hyr := cell_later hbw hyc
            by_cases h3 : y % 3 < 2
            · go_wp2_with fail
              have TB := text_new wr x (by omega)
              refine (jl_groupsN (hJk.later TB.2) ts.length (grT_len ts)).mono ?_
              rintro _ w3 ⟨ga3, gc3, rfl, _, _, hb3⟩
              have HG3 := hid (TB.1.later hb3)
              have hB3 : Below wr.heap.size wr w3 := TB.2.trans (hb3.mono TB.2.size)
              have HJ3 := hid (hJk.later hB3)
              have HO3 := hid ((kp_below (Nat.le_refl _) hB3).own hown)
              have HB3 := hid (hbw.trans (hB3.mono hbw.size))
              have hy3 := cell_later hB3 hyr
              clear TB hb3 hB3 hJk hown
              go_wp2_with fail
              have e3 : IntKind.i64.wrap (y.tmod 3) = y % 3 := by
                rw [Int.tmod_eq_emod_of_nonneg hy0]
                exact wrap_small _ (by omega) (by omega)
              have ey : IntKind.i64.wrap y = y := wrap_small _ (by omega) (by omega)
              have hbz : Below w3.heap.size w3 (w3.alloc (.cells #[.int .i64 ((IntKind.i64.wrap y).tmod 60), .int .i64 ((IntKind.i64.wrap y).tmod 50), .int .i64 ((IntKind.i64.wrap y).tmod 40)] 3)).drew := ((Below.refl _ w3).alloc (Nat.le_refl _) _).drew
              have hz3 : IsZ (w3.alloc (.cells #[.int .i64 ((IntKind.i64.wrap y).tmod 60), .int .i64 ((IntKind.i64.wrap y).tmod 50), .int .i64 ((IntKind.i64.wrap y).tmod 40)] 3)).drew (some ⟨w3.heap.size, 0, none⟩) 3 [(IntKind.i64.wrap y).tmod 60, (IntKind.i64.wrap y).tmod 50, (IntKind.i64.wrap y).tmod 40] :=
                isZ_three w3 _ _ _ (by rw [ey, Int.tmod_eq_emod_of_nonneg hy0]; omega) (by rw [ey, Int.tmod_eq_emod_of_nonneg hy0]; omega) (by rw [ey, Int.tmod_eq_emod_of_nonneg hy0]; omega)
              have K3 : w3.drew.cell? ⟨q, qo + k, none⟩ = some (.int .u8 y) := hy3
              have HK3 := hid (cell_later hbz hy3)
              have hst : IntKind.i64.wrap (y.tmod 3) = 0 ∨ IntKind.i64.wrap (y.tmod 3) = 1 := by rw [e3]; omega
              have HT := hid (jl_torn (HJ3.out.later hbz) (Nat.le_trans HB3.out.size hbz.size) (some ⟨wr.heap.size + 1, 0, none⟩) 1 1 (Fr.bs x) (by rw [Fr.bs_length]; omega) (HG3.out.later hbz) (by omega) _ hst _ _ 3 _ hz3)
              have HO3' := hid ((kp_below (Nat.le_refl _) hbz).own HO3.out)
              have HB3' := hid (HB3.out.trans (hbz.mono HB3.out.size))
              clear hbz hz3 e3 ey hst HJ3 HG3 HO3 HB3
              go_region_held3 (fun w' => w'.cell? ⟨q, qo + k, none⟩ = some (.int .u8 y)) (first | (with_reducible exact K4) | (with_reducible exact K3) | go_keep)
                ((go_at_call 8; refine HT.out.mono ?_; rintro _ w4 ⟨rfl, hJ4, hK4⟩; (have K4 : w4.cell? ⟨q, qo + k, none⟩ = some (.int .u8 y) := hK4.cell HK3.out); (have HO4 := hid (hK4.own HO3'.out)); (have HB4 := hid (HB3'.out.trans hK4.1)); (have HJ4 := hid hJ4); clear hJ4 hK4))
              clear HT K3 HK3 HO3' HB3' K4
              rcases HJ4.out with hJ4 | hJ4
              · have HJ5 := hid hJ4
                clear hJ4 HJ4
                go_wp2_with fail
                refine (jl_groupsN HJ5.out ts.length (grT_len ts)).mono ?_
                rintro _ w6 ⟨ga6, gc6, rfl, _, _, hb6⟩
                have HJ6 := hid (HJ5.out.later hb6)
                have HO6 := hid ((kp_below (Nat.le_refl _) hb6).own HO4.out)
                have HB6 := hid (HB4.out.trans (hb6.mono HB4.out.size))
                clear hb6 HJ5 HO4
                go_wp2_with (first
                  | (go_at_call 10; refine (jl_disk HJ6.out HB6.out.size).mono ?_; rintro _ w8 ⟨d8, rfl, hb8, oc⟩; have OC := hid oc; clear oc)
                  | (go_at_call 5; refine OC.out.mono ?_; rintro _ w9 ⟨j9, rfl, hJ9, hb9⟩))
                have hb79 : Below w6.heap.size w6 w9 := hb8.trans (hb9.mono hb8.size)
                go_roundw
                case rel => exact ⟨k + 1, j9, ts, by omega, by omega, by go_num, rfl, by omega, by omega, hJ9, (kp_below (Nat.le_refl _) hb79).own HO6.out, HB6.out.trans (hb79.mono HB6.out.size)⟩
                case measure => simp [intOf]; omega
              · rw [← grT_snoc] at hJ4
                have HJ5 := hid hJ4
                clear hJ4 HJ4
                go_wp2_with fail
                refine (jl_groupsN HJ5.out (ts.length + 1) (by rw [grT_len]; simp)).mono ?_
                rintro _ w6 ⟨ga6, gc6, rfl, _, _, hb6⟩
                have HJ6 := hid (HJ5.out.later hb6)
                have HO6 := hid ((kp_below (Nat.le_refl _) hb6).own HO4.out)
                have HB6 := hid (HB4.out.trans (hb6.mono HB4.out.size))
                clear hb6 HJ5 HO4
                have hba := (Below.refl w6.heap.size w6).alloc (Nat.le_refl _) (.cells #[.string x] 9)
                have HJA := hid (HJ6.out.later hba)
                have HOA := hid (HO6.out.alloc (.cells #[.string x] 9))
                have HBA := hid (HB6.out.trans (hba.mono HB6.out.size))
                clear hba HJ6 HO6
                go_wp2_with (first
                  | (at_builtin; refine wpList_append_own _ rfl _ _ 22 rfl w.heap.size 9 i0 (.string ByteArray.empty) 1 16 Try.underlying22 hi hz0 hz1 hz2 rfl (by decide) _ _ _ rfl HOA.out ⟨w6.heap.size, 0, none⟩ 1 1 [.string x] rfl rfl (cell_one_new _ _ _) (fun y hy => by simp at hy; subst hy; rfl) (by unfold maxLen; omega) (by omega) HBA.out.size ?_; intro v7 w7 hown7 hgrow7 hnil7; have HJ7 := hid (HJA.out.far HOA.out hgrow7); have HB7 := hid (below_grown HBA.out HOA.out (Nat.le_refl _) HBA.out.size hgrow7); have HO7 := hid hown7; clear hown7 hgrow7 hnil7)
                  | (go_at_call 10; refine (jl_disk HJ7.out HB7.out.size).mono ?_; rintro _ w8 ⟨d8, rfl, hb8, oc⟩; have OC := hid oc; clear oc)
                  | (go_at_call 5; refine OC.out.mono ?_; rintro _ w9 ⟨j9, rfl, hJ9, hb9⟩))
                have hb79 : Below w7.heap.size w7 w9 := hb8.trans (hb9.mono hb8.size)
                go_roundw
                case rel => exact ⟨k + 1, j9, ts ++ [x], by omega, by omega, by go_num, rfl, by simp; omega, by have := sum_snoc ts x (by omega); omega, hJ9, by have := (kp_below (Nat.le_refl _) hb79).own HO7.out; simpa using this, HB7.out.trans (hb79.mono HB7.out.size)⟩
                case measure => simp [intOf]; omega
            · go_wp2_with fail
              have TB := text_new wr x (by omega)
              refine (jl_groupsN (hJk.later TB.2) ts.length (grT_len ts)).mono ?_
              rintro _ w3 ⟨ga3, gc3, rfl, _, _, hb3⟩
              have HG3 := hid (TB.1.later hb3)
              have hB3 : Below wr.heap.size wr w3 := TB.2.trans (hb3.mono TB.2.size)
              have HJ3 := hid (hJk.later hB3)
              have HO3 := hid ((kp_below (Nat.le_refl _) hB3).own hown)
              have HB3 := hid (hbw.trans (hB3.mono hbw.size))
              have hy3 := cell_later hB3 hyr
              clear TB hb3 hB3 hJk hown
              go_wp2_with fail
              refine (jl_append HJ3.out HB3.out.size _ _ _ (Fr.bs x) (by rw [Fr.bs_length]; omega) HG3.out (by omega)).mono ?_
              rintro _ w4 ⟨rfl, hJ4, hK4⟩
              rw [← grT_snoc] at hJ4
              have HJ4 := hid hJ4
              have HO4 := hid (hK4.own HO3.out)
              have HB4 := hid (HB3.out.trans hK4.1)
              clear hJ4 hK4 HJ3 HO3 HG3
              go_wp2_with fail
              refine (jl_groupsN HJ4.out (ts.length + 1) (by rw [grT_len]; simp)).mono ?_
              rintro _ w5 ⟨ga5, gc5, rfl, _, _, hb5⟩
              have HJ5 := hid (HJ4.out.later hb5)
              have HO5 := hid ((kp_below (Nat.le_refl _) hb5).own HO4.out)
              have HB5 := hid (HB4.out.trans (hb5.mono HB4.out.size))
              clear hb5 HJ4 HO4
              go_wp2_with fail
              refine (jl_groupsN HJ5.out (ts.length + 1) (by rw [grT_len]; simp)).mono ?_
              rintro _ w6 ⟨ga6, gc6, rfl, _, _, hb6⟩
              have HJ6 := hid (HJ5.out.later hb6)
              have HO6 := hid ((kp_below (Nat.le_refl _) hb6).own HO5.out)
              have HB6 := hid (HB5.out.trans (hb6.mono HB5.out.size))
              clear hb6 HJ5 HO5
              have hba := (Below.refl w6.heap.size w6).alloc (Nat.le_refl _) (.cells #[.string x] 9)
              have HJA := hid (HJ6.out.later hba)
              have HOA := hid (HO6.out.alloc (.cells #[.string x] 9))
              have HBA := hid (HB6.out.trans (hba.mono HB6.out.size))
              clear hba HJ6 HO6
              go_wp2_with (first
                | (at_builtin; refine wpList_append_own _ rfl _ _ 22 rfl w.heap.size 9 i0 (.string ByteArray.empty) 1 16 Try.underlying22 hi hz0 hz1 hz2 rfl (by decide) _ _ _ rfl HOA.out ⟨w6.heap.size, 0, none⟩ 1 1 [.string x] rfl rfl (cell_one_new _ _ _) (fun y hy => by simp at hy; subst hy; rfl) (by unfold maxLen; omega) (by omega) HBA.out.size ?_; intro v7 w7 hown7 hgrow7 hnil7; have HJ7 := hid (HJA.out.far HOA.out hgrow7); have HB7 := hid (below_grown HBA.out HOA.out (Nat.le_refl _) HBA.out.size hgrow7); have HO7 := hid hown7; clear hown7 hgrow7 hnil7)
                | (go_at_call 10; refine (jl_disk HJ7.out HB7.out.size).mono ?_; rintro _ w8 ⟨d8, rfl, hb8, oc⟩; have OC := hid oc; clear oc)
                | (go_at_call 5; refine OC.out.mono ?_; rintro _ w9 ⟨j9, rfl, hJ9, hb9⟩))
              have hb79 : Below w7.heap.size w7 w9 := hb8.trans (hb9.mono hb8.size)
              go_roundw
              case rel => exact ⟨k + 1, j9, ts ++ [x], by omega, by omega, by go_num, rfl, by simp; omega, by have := sum_snoc ts x (by omega); omega, hJ9, by have := (kp_below (Nat.le_refl _) hb79).own HO7.out; simpa using this, HB7.out.trans (hb79.mono HB7.out.size)⟩
              case measure => simp [intOf]; omega
          · go_wp2_with fail
            have TB := text_new wr x (by omega)
            refine (jl_groupsN (hJk.later TB.2) ts.length (grT_len ts)).mono ?_
            rintro _ w3 ⟨ga3, gc3, rfl, _, _, hb3⟩
            have HG3 := hid (TB.1.later hb3)
            have hB3 : Below wr.heap.size wr w3 := TB.2.trans (hb3.mono TB.2.size)
            have HJ3 := hid (hJk.later hB3)
            have HO3 := hid ((kp_below (Nat.le_refl _) hB3).own hown)
            have HB3 := hid (hbw.trans (hB3.mono hbw.size))
            clear TB hb3 hB3 hJk hown
            go_wp2_with fail
            refine (jl_append HJ3.out HB3.out.size _ _ _ (Fr.bs x) (by rw [Fr.bs_length]; omega) HG3.out (by omega)).mono ?_
            rintro _ w4 ⟨rfl, hJ4, hK4⟩
            rw [← grT_snoc] at hJ4
            have HJ4 := hid hJ4
            have HO4 := hid (hK4.own HO3.out)
            have HB4 := hid (HB3.out.trans hK4.1)
            clear hJ4 hK4 HJ3 HO3 HG3
            go_wp2_with fail
            refine (jl_groupsN HJ4.out (ts.length + 1) (by rw [grT_len]; simp)).mono ?_
            rintro _ w5 ⟨ga5, gc5, rfl, _, _, hb5⟩
            have HJ5 := hid (HJ4.out.later hb5)
            have HO5 := hid ((kp_below (Nat.le_refl _) hb5).own HO4.out)
            have HB5 := hid (HB4.out.trans (hb5.mono HB4.out.size))
            clear hb5 HJ4 HO4
            go_wp2_with fail
            refine (jl_groupsN HJ5.out (ts.length + 1) (by rw [grT_len]; simp)).mono ?_
            rintro _ w6 ⟨ga6, gc6, rfl, _, _, hb6⟩
            have HJ6 := hid (HJ5.out.later hb6)
            have HO6 := hid ((kp_below (Nat.le_refl _) hb6).own HO5.out)
            have HB6 := hid (HB5.out.trans (hb6.mono HB5.out.size))
            clear hb6 HJ5 HO5
            have hba := (Below.refl w6.heap.size w6).alloc (Nat.le_refl _) (.cells #[.string x] 9)
            have HJA := hid (HJ6.out.later hba)
            have HOA := hid (HO6.out.alloc (.cells #[.string x] 9))
            have HBA := hid (HB6.out.trans (hba.mono HB6.out.size))
            clear hba HJ6 HO6
            go_wp2_with (first
              | (at_builtin; refine wpList_append_own _ rfl _ _ 22 rfl w.heap.size 9 i0 (.string ByteArray.empty) 1 16 Try.underlying22 hi hz0 hz1 hz2 rfl (by decide) _ _ _ rfl HOA.out ⟨w6.heap.size, 0, none⟩ 1 1 [.string x] rfl rfl (cell_one_new _ _ _) (fun y hy => by simp at hy; subst hy; rfl) (by unfold maxLen; omega) (by omega) HBA.out.size ?_; intro v7 w7 hown7 hgrow7 hnil7; have HJ7 := hid (HJA.out.far HOA.out hgrow7); have HB7 := hid (below_grown HBA.out HOA.out (Nat.le_refl _) HBA.out.size hgrow7); have HO7 := hid hown7; clear hown7 hgrow7 hnil7)
              | (go_at_call 10; refine (jl_disk HJ7.out HB7.out.size).mono ?_; rintro _ w8 ⟨d8, rfl, hb8, oc⟩; have OC := hid oc; clear oc)
              | (go_at_call 5; refine OC.out.mono ?_; rintro _ w9 ⟨j9, rfl, hJ9, hb9⟩))
            have hb79 : Below w7.heap.size w7 w9 := hb8.trans (hb9.mono hb8.size)
            go_roundw
            case rel => exact ⟨k + 1, j9, ts ++ [x], by omega, by omega, by go_num, rfl, by simp; omega, by have := sum_snoc ts x (by omega); omega, hJ9, by have := (kp_below (Nat.le_refl _) hb79).own HO7.out; simpa using this, HB7.out.trans (hb79.mono HB7.out.size)⟩
            case measure => simp [intOf]; omega
      · have hkk : k = 20 := by omega
        subst hkk
        go_wp2_with fail
        refine (jl_groupsN hJk ts.length (grT_len ts)).mono ?_
        rintro _ w3 ⟨ga3, gc3, rfl, hgs3, _, hb3⟩
        have HO3 := hid ((kp_below (Nat.le_refl _) hb3).own hown)
        have HB3 := hid (hbw.trans (hb3.mono hbw.size))
        have HG3 := hid hgs3
        have hml : ts.length ≤ 20 := by omega
        clear hgs3 hb3 hJk hown hbw
        obtain ⟨va, vc, hv6⟩ := own_shape6 HO3.out
        subst hv6
        go_wp2
        go_loopw [12] (fun i wr => ∃ m : Nat, m ≤ ts.length ∧ i = .int .i64 m ∧ Below w3.heap.size w3 wr) (fun i _ => (ts.length - intOf i).toNat)
        case atStart => exact ⟨0, by omega, rfl, Below.refl _ _⟩
        case round =>
          obtain ⟨m, hmn, rfl, hbm⟩ := hrel
          by_cases hmt : m < ts.length
          · obtain ⟨lb, lo, gb, go, gc, pa, pc, rfl, c1, c2, c3⟩ := gs_at (HG3.out.later hbm) m hmt
            obtain ⟨vg, vcap, hve, hvc, c4⟩ := own_at ((kp_below (Nat.le_refl _) hbm).own HO3.out) m hmt
            cases hve
            have hxm : (ts.map Value.string)[m]? = some (.string (ts.getD m ByteArray.empty)) := by simp [List.getD, hmt]
            rw [hxm] at c4
            generalize ts.getD m ByteArray.empty = x at *
            have FX : Hid (∀ w', Below wr.heap.size wr w' → w'.cell? ⟨lb, lo + m, none⟩ = some (.slice (some ⟨gb, go, none⟩) 1 gc) ∧ w'.cell? ⟨gb, go, none⟩ = some (.slice pa (Fr.bs x).length pc) ∧ w'.cell? ⟨vg, m, none⟩ = some (.string x) ∧ (convert 23 9 (.slice pa (Fr.bs x).length pc)).run Try.prog w' = .ok (.string x) w') := fun w' h => ⟨cell_later h c1, cell_later h c2, cell_later h c4, part_text (c3.later h)⟩
            generalize (Fr.bs x).length = pn at *
            have hge : ¬ (ts.length : Int) ≤ m := by omega
            have hlt' : (m : Int) < ts.length := by omega
            clear hxm c1 c2 c3 c4
            go_wp2_with fail
            refine wp_region_class (by kernel_rfl) (by kernel_rfl) ?_
            repeat (first
              | go_big_quiet_skip
              | (go_big_quiet_want
                 apply quiet_by (v := .bool false)
                 · intro w4 hw4
                   exact qgeqI _ _ _ m ts.length rfl rfl rfl hmt hw4
                 · go_simp; rfl
                 go_big_quiet_on)
              | (go_big_quiet_want
                 apply quiet_by
                 · intro w4 hw4
                   obtain ⟨k1, k2, k4, k3⟩ := FX.out w4 hw4
                   go_simp
                   first
                     | rfl
                     | (simp [k1, k2, k3, k4]; rfl)
                 · go_simp; rfl
                 go_big_quiet_on))
            refine wpQuiet_nil ?_
            intro w12 hw12
            go_wp2
            go_roundw
            case rel => exact ⟨m + 1, by omega, by go_num, hbm.trans (hw12.mono hbm.size)⟩
            case measure => simp [intOf]; omega
          · have hmm : m = ts.length := by omega
            subst hmm
            go_wp2
            go_ret
            exact ⟨by first | rfl | exact ret_bool (by simp), HB3.out.trans (hbm.mono HB3.out.size)⟩
    · go_wp2_with fail
      refine (jl_groupsN hJk ts.length (grT_len ts)).mono ?_
      rintro _ w3 ⟨ga3, gc3, rfl, hgs3, _, hb3⟩
      have HO3 := hid ((kp_below (Nat.le_refl _) hb3).own hown)
      have HB3 := hid (hbw.trans (hb3.mono hbw.size))
      have HG3 := hid hgs3
      have hml : ts.length ≤ 20 := by omega
      clear hgs3 hb3 hJk hown hbw
      obtain ⟨va, vc, hv6⟩ := own_shape6 HO3.out
      subst hv6
      go_wp2
      go_loopw [12] (fun i wr => ∃ m : Nat, m ≤ ts.length ∧ i = .int .i64 m ∧ Below w3.heap.size w3 wr) (fun i _ => (ts.length - intOf i).toNat)
      case atStart => exact ⟨0, by omega, rfl, Below.refl _ _⟩
      case round =>
        obtain ⟨m, hmn, rfl, hbm⟩ := hrel
        by_cases hmt : m < ts.length
        · obtain ⟨lb, lo, gb, go, gc, pa, pc, rfl, c1, c2, c3⟩ := gs_at (HG3.out.later hbm) m hmt
          obtain ⟨vg, vcap, hve, hvc, c4⟩ := own_at ((kp_below (Nat.le_refl _) hbm).own HO3.out) m hmt
          cases hve
          have hxm : (ts.map Value.string)[m]? = some (.string (ts.getD m ByteArray.empty)) := by simp [List.getD, hmt]
          rw [hxm] at c4
          generalize ts.getD m ByteArray.empty = x at *
          have FX : Hid (∀ w', Below wr.heap.size wr w' → w'.cell? ⟨lb, lo + m, none⟩ = some (.slice (some ⟨gb, go, none⟩) 1 gc) ∧ w'.cell? ⟨gb, go, none⟩ = some (.slice pa (Fr.bs x).length pc) ∧ w'.cell? ⟨vg, m, none⟩ = some (.string x) ∧ (convert 23 9 (.slice pa (Fr.bs x).length pc)).run Try.prog w' = .ok (.string x) w') := fun w' h => ⟨cell_later h c1, cell_later h c2, cell_later h c4, part_text (c3.later h)⟩
          generalize (Fr.bs x).length = pn at *
          have hge : ¬ (ts.length : Int) ≤ m := by omega
          have hlt' : (m : Int) < ts.length := by omega
          clear hxm c1 c2 c3 c4
          go_wp2_with fail
          refine wp_region_class (by kernel_rfl) (by kernel_rfl) ?_
          repeat (first
            | go_big_quiet_skip
            | (go_big_quiet_want
               apply quiet_by (v := .bool false)
               · intro w4 hw4
                 exact qgeqI _ _ _ m ts.length rfl rfl rfl hmt hw4
               · go_simp; rfl
               go_big_quiet_on)
            | (go_big_quiet_want
               apply quiet_by
               · intro w4 hw4
                 obtain ⟨k1, k2, k4, k3⟩ := FX.out w4 hw4
                 go_simp
                 first
                   | rfl
                   | (simp [k1, k2, k3, k4]; rfl)
               · go_simp; rfl
               go_big_quiet_on))
          refine wpQuiet_nil ?_
          intro w12 hw12
          go_wp2
          go_roundw
          case rel => exact ⟨m + 1, by omega, by go_num, hbm.trans (hw12.mono hbm.size)⟩
          case measure => simp [intOf]; omega
        · have hmm : m = ts.length := by omega
          subst hmm
          go_wp2
          go_ret
          exact ⟨by first | rfl | exact ret_bool (by simp), HB3.out.trans (hbm.mono HB3.out.size)⟩
/-! ### The row of TopLogged -/
theorem topLogged_own : ownKnob Try.prog.godebug = none := by kernel_rfl
theorem topLogged_laidOut : laidOutB Try.prog = true := by kernel_rfl
set_option maxRecDepth 100000 in
theorem topLogged_lifted (os : Os) (started : os.Started) (H : Type) (enc : TypeId × Value → H) :
    ReturnsInHanded {} Try.checked os 3 .any (Rows.topLoggedSpec.pre6 enc Try.prog Try.f3 Rows.topLoggedRow.domain false) (Rows.topLoggedSpec.post enc Try.prog Try.f3 false true false false) := by
  refine returnsInHanded_of_change (C := Try.checked) topLogged_own started (by kernel_rfl) Try.func3
    (ChangeSpec.witness6 (enc := enc) (C := Try.checked) false ⟨#[], #[.slice none 0 0, .slice none 0 0], []⟩ 8 (by kernel_rfl) (by kernel_rfl) (by kernel_rfl) (by kernel_rfl)) ?_
  intro W base args ds gs before hval0 hW hcnd _
  have hval : ∀ (j : Nat) t v, Try.f3.params[j]? = some t → args[j]? = some v → Value.okWide Try.prog W .any base t v := hval0
  have hW' := hW
  obtain ⟨p, q, hA0, hV, rfl, hfz, hnd⟩ := hW
  have hA : DataW.TrodAll enc Try.prog W 0 (fun _ => true) true Try.f3.params.toList args.toList ds p := hA0
  rw [Try.params3] at hA hval
  obtain ⟨v0, vs0, d0, ds0, p0, q0, hargs, rfl, rfl, h0, r0⟩ := trodAll_cons hA
  obtain ⟨v1, vs1, d1, ds1, p1, q1, rfl, rfl, rfl, h1, r1⟩ := trodAll_cons r0
  obtain ⟨rfl, rfl, rfl⟩ := trodAll_nil r1
  obtain rfl : args = #[v0, v1] := by cases args; simp_all
  obtain ⟨rfl, rfl⟩ := trodVars_none hV
  have k0 := h0
  have lt0 : ∀ x ∈ p0, x.block < W.heap.size := by obtain ⟨m, hm⟩ := k0; exact DataW.trod_lt m _ _ _ hm
  obtain ⟨a0, len0, cap0, rfl⟩ := okWide_slice Try.underlying22 (hval 0 22 v0 rfl rfl)
  obtain ⟨z0, lz0, w0⟩ := isS_of Try.underlying22 Try.underlying9 (by kernel_rfl) h0
  have k1 := h1
  have lt1 : ∀ x ∈ p1, x.block < W.heap.size := by obtain ⟨m, hm⟩ := k1; exact DataW.trod_lt m _ _ _ hm
  obtain ⟨a1, len1, cap1, rfl⟩ := okWide_slice Try.underlying23 (hval 1 23 v1 rfl rfl)
  obtain ⟨z1, w1, lc1⟩ := isB_of Try.underlying23 Try.underlying5 (by kernel_rfl) h1
  clear hA0 hval0
  refine (topLogged_walk a0 len0 cap0 z0 lz0 a1 len1 cap1 z1 lc1 W w0 w1).mono fun e W' ⟨he, bel⟩ => ?_
  subst he
  exact ⟨_, rfl, _, _, _, [], _, [], hW', trodAll_mk1 (shut_bool Try.underlying4 _), (trodAll_cons_mk (Below.trod topLogged_laidOut (by kernel_rfl) (of_decide_eq_true (by kernel_rfl)) k0 bel lt0) (trodAll_cons_mk (Below.trod topLogged_laidOut (by kernel_rfl) (of_decide_eq_true (by kernel_rfl)) k1 bel lt1) trodAll_mk0)), rfl, bel.frame _, fun h => by cases h⟩
theorem topLogged_over : Rows.topLoggedRow.holds Try.pinned (OpenSpec.ofChange Rows.topLoggedSpec) :=
  OpenClaim.holds_of_wide 3 Try.f3 rfl rfl rfl rfl rfl rfl rfl ⟨rfl, rfl, rfl, rfl, rfl⟩ rfl rfl rfl rfl rfl (by kernel_rfl) Try.func3 (by kernel_rfl)
    (of_decide_eq_true (by kernel_rfl)) (by unfold Func.isWrapper; first | (rw [if_pos (by decide +kernel)]; kernel_rfl) | (rw [if_neg (by decide +kernel)]; exact ⟨rfl, rfl⟩))
    (fun os started H enc _ => topLogged_lifted os started H enc)
/-- The statement. -/
theorem topLogged_holds : Rows.TopLoggedSaid := topLogged_over
#print axioms topLogged_holds

end Go.Proofs.Ytllohapbbmnipad
