/-
  readGroup of the package journal: the group that sectors begin with.
-/
import Derived.Test.YtllohapbbmnipadJPartsOf
namespace Go.Proofs.Ytllohapbbmnipad
open Go.RowKit Go.ChangeShapes Go.WideShapes Go.ChangeAt Go.Maps
set_option linter.unusedVariables false
set_option linter.unusedSimpArgs false
/-- What readGroup answers. -/
def GroupPost (t n : Int) (ss : List (List Int)) (w : World) (e : Ending) (w' : World) : Prop :=
  ((∃ g v, Jo.readF t n ss = some g ∧ e = .returned (.tuple #[v, .int .i64 (Jo.needF g : Nat), .bool true]) ∧ PG w.heap.size w' v g) ∨ (Jo.readF t n ss = none ∧ e = .returned (.tuple #[.slice none 0 0, .int .i64 0, .bool false]))) ∧ Below w.heap.size w w'
theorem at4_bd {s : List Int} (h : Jo.Bytes s) (i : Nat) : 0 ≤ Fr.at4 s i ∧ Fr.at4 s i < 4294967296 := by
  have h0 := Jo.bytes_getD h i
  have h1 := Jo.bytes_getD h (i + 1)
  have h2 := Jo.bytes_getD h (i + 2)
  have h3 := Jo.bytes_getD h (i + 3)
  exact Fr.num4_lt _ _ _ _ (by omega) (by omega) (by omega) (by omega)
theorem PG.base {B B' : Nat} {w : World} {v : Value} {gs : Jo.Gr} (h : PG B w v gs) (hB : B' ≤ B) : PG B' w v gs := by
  obtain ⟨vals, h1, h2⟩ := h
  refine ⟨vals, own_base h1 hB, fun i hi => ?_⟩
  obtain ⟨u, e1, e2, e3⟩ := h2 i hi
  exact ⟨u, e1, own_base e2 hB, e3⟩
theorem qneqI {o : Oper} {a : Act} {C : World → Prop} {w : World} (x y : Operand) (t : TypeId) (m n : Nat) (hop : o.op = .binOp .neq 3 x y t) (hx : a.eval x = .int .i64 m) (hy : a.eval y = .int .i64 n) (hb : ((m : Int) != (n : Int)) = true) (hC : C w) : o.quietAt Try.prog a C w (.bool true) := by
  unfold Oper.quietAt
  simp only [execOp, hop, hx, hy]
  rw [← hb]
  simp [go_sem, Result.andThen, hC, eqGuard]
theorem mem_isB {w : World} {a : Option Addr} {len : Nat} {zs : List Int} (h : IsB w a len zs) : ∀ x ∈ zs, 0 ≤ x ∧ x ≤ 255 := by
  intro x hx
  obtain ⟨i, hi, rfl⟩ := List.getElem_of_mem hx
  have := h.2.2.2 i
  simpa [List.getD, hi] using this
set_option maxHeartbeats 400000 in
theorem readGroup_none (a : Option Addr) (cap : Nat) (t n : Int) (w : World) :
    Calls Try.prog 35 #[.slice a 0 cap, .int .u32 t, .int .u32 n] w (GroupPost t n [] w) := by
  go_enter Try.func35, Try.ntmps35
  go_wp2
  refine bodyPost_ret (v := .tuple #[.slice none 0 0, .int .i64 0, .bool false]) (by simp [results, Try.results35, go_sem]) rfl ⟨.inr ⟨rfl, rfl⟩, Below.refl _ _⟩
set_option maxRecDepth 20000 in
set_option maxHeartbeats 4000000 in
theorem readGroup_some (b off N cap : Nat) (t n : Int) (s : List Int) (r : List (List Int)) (w : World) (h : IsSS w (some ⟨b, off, none⟩) N (s :: r)) (hc : N ≤ cap) (hN : N ≤ 2048) (ht : 0 ≤ t ∧ t < 4294967296) (hn : 0 ≤ n ∧ n < 4294967296) :
    Calls Try.prog 35 #[.slice (some ⟨b, off, none⟩) N cap, .int .u32 t, .int .u32 n] w (GroupPost t n (s :: r) w) := by
  have hlen := h.1
  simp only [List.length_cons] at hlen
  obtain ⟨r1, s1⟩ := h.at 0 (by omega)
  simp only [List.getD_cons_zero, Nat.zero_mul, Nat.add_zero] at r1 s1
  have hi1 : (Try.prog.info? 90).map (·.size) = some (s.map by8).length := by rw [sizeS]; simp [s1.1]
  have hx1 : Bx (w.alloc (.cells (s.map by8).toArray 90)) w.heap.size 90 s := heap_alloc_new w _
  have hB1 : Below w.heap.size w (w.alloc (.cells (s.map by8).toArray 90)) := (Below.refl _ _).alloc (Nat.le_refl _) _
  have hI1 := bx_isB hx1 s1.2 10 4 (by rw [s1.1]; omega) (by decide)
  have RN := readNumber_c _ 4 _ _ hI1
  rw [at4_drop] at RN
  have hbd := at4_bd s1.2 10
  obtain ⟨len, hle⟩ : ∃ len : Nat, Fr.at4 s 10 = len := ⟨(Fr.at4 s 10).toNat, by omega⟩
  rw [hle] at RN hbd
  have hlt' : (Fr.at4 s 10).toNat = len := by omega
  have zz := zlit
  have hs32 := s1.1
  have HRN := hid RN
  have H := hid h
  have hN1 : ¬ ((N : Int) == 0) = true := by simp; omega
  have hN0 : ¬ (N : Int) = 0 := by omega
  clear RN h hI1
  by_cases hbig : 131104 < len
  · have E : Hid (Jo.readF t n (s :: r) = none) := by
      show _ = _
      unfold Jo.readF
      simp only [hle]
      rw [if_pos (.inl (by omega))]
    have hbig' : (131104 : Int) < len := by omega
    go_enter Try.func35, Try.ntmps35
    go_wp2_with (first
      | (go_at_call 63; refine HRN.out.mono ?_; rintro e w' ⟨rfl, rfl⟩)
      | (go_at_call 64; refine (field_c w.heap.size 10 _ (by omega)).mono ?_; rintro e w' ⟨rfl, rfl⟩)
      | (refine wpList_load_mid rfl _ _ rfl b off rfl (s.map by8) _ r1 Try.underlying90 rfl hi1 ?_)
      | (refine wpList_storeS _ rfl _ _ _ rfl sizeS _ rfl (by simp) s rfl hs32 _ (by simp; decide) ?_))
    exact bodyPost_ret (v := .tuple #[.slice none 0 0, .int .i64 0, .bool false]) (by simp [results, Try.results35, go_sem]) rfl ⟨.inr ⟨E.out, rfl⟩, hB1⟩
  · have hbig' : ¬ (131104 : Int) < len := by omega
    have hsec : Jo.secsOf len ≤ 5000 := by unfold Jo.secsOf Jo.many; omega
    have hsec2 : 2 ≤ Jo.secsOf len := by unfold Jo.secsOf; omega
    by_cases hfit : N < Jo.secsOf len
    · have E : Hid (Jo.readF t n (s :: r) = none) := by
        show _ = _
        unfold Jo.readF
        simp only [hlt', List.length_cons, hlen]
        rw [if_pos (.inr (by omega))]
      have SO := hid (sectorsOf_c len (w.alloc (.cells (s.map by8).toArray 90)) (by omega))
      generalize Jo.secsOf len = sz at *
      have hfit' : (N : Int) < sz := by omega
      go_enter Try.func35, Try.ntmps35
      go_wp2_with (first
        | (go_at_call 65; refine SO.out.mono ?_; rintro e w' ⟨rfl, rfl⟩)
        | (go_at_call 63; refine HRN.out.mono ?_; rintro e w' ⟨rfl, rfl⟩)
        | (go_at_call 64; refine (field_c w.heap.size 10 _ (by omega)).mono ?_; rintro e w' ⟨rfl, rfl⟩)
        | (refine wpList_load_mid rfl _ _ rfl b off rfl (s.map by8) _ r1 Try.underlying90 rfl hi1 ?_)
        | (refine wpList_storeS _ rfl _ _ _ rfl sizeS _ rfl (by simp) s rfl hs32 _ (by simp; decide) ?_))
      exact bodyPost_ret (v := .tuple #[.slice none 0 0, .int .i64 0, .bool false]) (by simp [results, Try.results35, go_sem]) rfl ⟨.inr ⟨E.out, rfl⟩, hB1⟩
    · have hml := Jo.many_le len
      have hsz : Jo.secsOf len = Jo.many len + 2 := by unfold Jo.secsOf; omega
      obtain ⟨cnt, hcnt⟩ : ∃ cnt : Nat, s.getD 9 0 = cnt := ⟨(s.getD 9 0).toNat, by have := Jo.bytes_getD s1.2 9; omega⟩
      have hcb : cnt < 256 := by have := Jo.bytes_getD s1.2 9; omega
      have c9 := bx_cell hx1 9 (by rw [s1.1]; omega)
      rw [hcnt] at c9
      have hSS := (H.out.later hB1).sub 1 (Jo.many len) (by omega)
      have hSZ := (H.out.later hB1).sub 0 (Jo.many len + 2) (by omega)
      rw [List.drop_zero, Nat.zero_mul, Nat.add_zero] at hSZ
      have hRF : Jo.readF t n (s :: r) = (match Jo.partsF cnt (Jo.readL (((s :: r).drop 1).take (Jo.many len)) len) with
          | none => none
          | some g => if Jo.needF g = Jo.many len + 2 ∧ Jo.laid g t n = (s :: r).take (Jo.many len + 2) then some g else none) := by
        unfold Jo.readF
        simp only [hlt', hcnt, hsz, List.length_cons, hlen, Int.toNat_natCast]
        rw [if_neg (by rw [hle]; omega), show Jo.many len + 2 - 1 = Jo.many len + 1 by omega, List.drop_take, show Jo.many len + 1 - 1 = Jo.many len by omega]
        cases Jo.partsF cnt (Jo.readL (((s :: r).drop 1).take (Jo.many len)) len) <;> rfl
      have SO := hid (sectorsOf_c len (w.alloc (.cells (s.map by8).toArray 90)) (by omega))
      rw [hsz] at SO
      have HF := hid hRF
      have HSS := hid hSS
      have HSZ := hid hSZ
      clear hRF hSS hSZ hsz hsec hsec2
      generalize (((s :: r).drop 1).take (Jo.many len)) = mid at *
      generalize ((s :: r).take (Jo.many len + 2)) = fst at *
      have hfit2 : Jo.many len + 2 ≤ N := by have := hfit; unfold Jo.secsOf at this; omega
      clear hfit
      generalize Jo.many len = q at *
      obtain ⟨sz, hsz⟩ : ∃ sz, sz = q + 2 := ⟨_, rfl⟩
      have HSQ := hid hsz
      rw [← hsz] at SO HF HSZ hfit2
      have p0 : ¬ (N : Int) < (sz : Int) := by omega
      have p1 : (sz : Int) ≤ N := by omega
      have p2 : (sz : Int) - 1 ≤ cap := by omega
      have p3 : (1 : Int) ≤ (sz : Int) - 1 := by omega
      have p4 : (sz : Int) ≤ cap := by omega
      have p5 : sz - 1 - 1 = q := by omega
      have pwl : IntKind.i64.wrap (len : Int) = len := by rw [M.wrap_i64]; unfold wrap64; omega
      have pwc : IntKind.i64.wrap (cnt : Int) = cnt := by rw [M.wrap_i64]; unfold wrap64; omega
      have p6 : ¬ cap = 1 := by omega
      have p7 : (0 : Int) ≤ (sz : Int) := by omega
      have pw : IntKind.i64.wrap ((sz : Int) - 1) = (sz : Int) - 1 := by rw [M.wrap_i64]; unfold wrap64; omega
      clear hsz
      generalize hW1 : (w.alloc (.cells (s.map by8).toArray 90)) = W1 at *
      have hz1 : W1.heap.size = w.heap.size + 1 := by rw [← hW1]; simp
      go_enter Try.func35, Try.ntmps35
      go_wp2_with (first
        | (go_at_call 65; refine SO.out.mono ?_; rintro e w' ⟨rfl, rfl⟩)
        | (go_at_call 63; refine HRN.out.mono ?_; rintro e w' ⟨rfl, rfl⟩)
        | (go_at_call 64; refine (field_c w.heap.size 10 _ (by omega)).mono ?_; rintro e w' ⟨rfl, rfl⟩)
        | (refine wpList_load_mid rfl _ _ rfl b off rfl (s.map by8) _ r1 Try.underlying90 rfl hi1 ?_)
        | (refine wpList_storeS _ rfl _ _ _ rfl sizeS _ rfl (by simp) s rfl hs32 _ (by simp; decide) ?_; rw [hW1]))
      go_region_held3 (fun w' => w'.cell? ⟨w.heap.size, 9, none⟩ = some (.int .u8 cnt)) (first | exact K3 | exact K2 | go_keep)
        (first
          | (go_at_call 66; refine (partsOf_c la len cnt _ _ hI2 hn2 hcb (by omega)).mono ?_; rintro e w3 ⟨⟨v, ok, rfl, hcase⟩, hb3⟩; (have K3 : w3.cell? ⟨w.heap.size, 9, none⟩ = some (.int .u8 cnt) := cell_later hb3 K2); (have B3 : Below w'.heap.size w' w3 := ((Below.refl _ w').drew.trans hb2).trans (hb3.mono hb2.size)))
          | (go_at_call 67; refine (readLoad_c (some ⟨b, off + 32, none⟩) q _ len mid _ (by exact HSS.out) (by omega) (by omega)).mono ?_; rintro e w2 ⟨la, rfl, hI2, hn2, hb2⟩; (have K2 : w2.cell? ⟨w.heap.size, 9, none⟩ = some (.int .u8 cnt) := cell_later hb2 c9)))
      have hbw : Below w.heap.size w w3 := hB1.trans (B3.mono (by omega))
      have hSZ3 := hid (HSZ.out.later B3)
      have hw2 : w.heap.size ≤ w2.heap.size := Nat.le_trans hB1.size hb2.size
      rcases hcase with ⟨g, hpg, rfl, hPG⟩ | ⟨hpg, rfl⟩
      · rw [hpg] at HF
        have HPG := hid (hPG.base hw2)
        obtain ⟨ga, gc, rfl, hG⟩ := hPG.isG0 (by have := (Jo.parts_bytes _ _ _ hpg (fun x hx => by have := mem_isB hI2 x hx; omega)).2; omega)
        have HG := hid hG
        clear hPG hG hpg hI2
        by_cases hne : Jo.needF g = sz
        · have hok := (Jo.need_pos (g := g) (by rw [hne]; have := HSQ.out; omega)).1
          have hlaid := Jo.laid_len g t n
          have hnl := Jo.need_ok hok
          have hl3 : (Jo.laid g t n).length = sz := by rw [hlaid, ← hnl, hne]
          have hsct := Jo.laid_sct HG.out.isG.bytes (Jo.ok_iff.1 hok).2.1 t n
          have HNE := hid hne
          have hne' : ((Jo.needF g : Nat) : Int) = (sz : Int) := by rw [hne]
          have NC := hid (needs_c ga g.length gc g w3.drew HG.out.isG)
          rw [hne] at NC
          have HN2 := HSQ.out
          simp only [hne, true_and] at HF
          cases hEq : (Jo.laid g t n == fst) with
          | true =>
            have hEq' : Jo.laid g t n = fst := by simpa using hEq
            rw [if_pos hEq'] at HF
            have HE := hid hEq
            have hsz3 : sz ≤ 100000 := by omega
            have hszp : 0 < sz := by omega
            have GS := hid (groupSectors_c ga g.length gc g t n w3.drew HG.out hok ht hn)
            have HSC := hid hsct
            have HL3 := hid hl3
            have HF2 := hid HF
            have HNE2 := hid hne'
            clear hEq hEq' HF hl3 hlaid hnl hsct hne hok HN2 hne'
            go_wp2_with fail
            go_region_held3 (fun w' => True) (trivial) (first
              | (go_at_call 68; refine (equal_c sb so sz scap b off sz cap (Jo.laid g t n) fst _ hS5 (hSZ3.out.later hB5)).mono ?_; rw [HE.out]; rintro e w6 ⟨rfl, hb6⟩)
              | (go_at_call 41; refine GS.out.mono ?_; rintro e w5 ⟨v5, rfl, hown5, hb5⟩; obtain ⟨sa, scap, hv5, hS5, hsc5, hin5⟩ := own_isSS hown5 HSC.out (by rw [HL3.out]; exact hsz3); rw [HL3.out] at hv5 hS5; subst hv5; obtain ⟨sb, so, rfl, _⟩ := hS5.2.2.2 hszp; (have hB5 : Below w3.heap.size w3 w5 := ((Below.refl _ w3).drew).trans hb5); clear hown5 hsc5 hin5)
              | (go_at_call 39; refine NC.out.mono ?_; rintro e w4 ⟨rfl, rfl⟩))
            go_wp2
            have hB6 := hB5.trans (hb6.mono hB5.size)
            exact bodyPost_ret (v := .tuple #[.slice ga g.length gc, .int .i64 sz, .bool true]) (by simp [results, Try.results35, go_sem]) rfl ⟨.inl ⟨g, _, HF2.out.out, by rw [HNE.out], HPG.out.later hB6⟩, hbw.trans (hB6.mono hbw.size)⟩
          | false =>
            have hEq' : ¬ Jo.laid g t n = fst := by simpa using hEq
            rw [if_neg hEq'] at HF
            have HE := hid hEq
            have hsz3 : sz ≤ 100000 := by omega
            have hszp : 0 < sz := by omega
            have GS := hid (groupSectors_c ga g.length gc g t n w3.drew HG.out hok ht hn)
            have HSC := hid hsct
            have HL3 := hid hl3
            have HF2 := hid HF
            have HNE2 := hid hne'
            clear hEq hEq' HF hl3 hlaid hnl hsct hne hok HN2 hne'
            go_wp2_with fail
            go_region_held3 (fun w' => True) (trivial) (first
              | (go_at_call 68; refine (equal_c sb so sz scap b off sz cap (Jo.laid g t n) fst _ hS5 (hSZ3.out.later hB5)).mono ?_; rw [HE.out]; rintro e w6 ⟨rfl, hb6⟩)
              | (go_at_call 41; refine GS.out.mono ?_; rintro e w5 ⟨v5, rfl, hown5, hb5⟩; obtain ⟨sa, scap, hv5, hS5, hsc5, hin5⟩ := own_isSS hown5 HSC.out (by rw [HL3.out]; exact hsz3); rw [HL3.out] at hv5 hS5; subst hv5; obtain ⟨sb, so, rfl, _⟩ := hS5.2.2.2 hszp; (have hB5 : Below w3.heap.size w3 w5 := ((Below.refl _ w3).drew).trans hb5); clear hown5 hsc5 hin5)
              | (go_at_call 39; refine NC.out.mono ?_; rintro e w4 ⟨rfl, rfl⟩))
            go_wp2
            have hB6 := hB5.trans (hb6.mono hB5.size)
            exact bodyPost_ret (v := .tuple #[.slice none 0 0, .int .i64 0, .bool false]) (by simp [results, Try.results35, go_sem]) rfl ⟨.inr ⟨HF2.out.out, rfl⟩, hbw.trans (hB6.mono hbw.size)⟩
        · have hE : Hid (Jo.readF t n (s :: r) = none) := by
            have := HF.out
            simp only [hne, false_and, if_false] at this
            exact this
          have NC : Hid (∀ w1, Below w3.heap.size w3 w1 → Calls Try.prog 39 #[.slice ga g.length gc] w1 fun e w' => e = .returned (.int .i64 (Jo.needF g : Nat)) ∧ w' = w1) := fun w1 hw1 => needs_c ga g.length gc g w1 (HG.out.later hw1).isG
          have hne' : ((Jo.needF g : Nat) : Int) ≠ (sz : Int) := by omega
          generalize Jo.needF g = ng at *
          have hne2 : ((ng : Int) == (sz : Int)) = false := by simp; omega
          have hne3 : ¬ ng = sz := hne
          have hdn : ((ng : Int) != (sz : Int)) = true := by simp; omega
          clear HF
          obtain ⟨bb, hbb⟩ : ∃ bb : Bool, bb = ((ng : Int) != (sz : Int)) := ⟨_, rfl⟩
          have hbt : bb = true := by rw [hbb]; exact hdn
          have HBB := hid hbb
          clear hdn hne2 hne3 hne' hne hbb
          go_wp2_with fail
          refine wp_region_class (by kernel_rfl) (by kernel_rfl) ?_
          repeat (first
            | go_big_quiet_skip
            | (go_big_quiet_want
               apply quiet_by (v := .bool true)
               · intro w1 hw1
                 exact qneqI _ _ _ ng sz rfl rfl rfl (HBB.out ▸ hbt) hw1
               · go_simp; rfl
               go_big_quiet_on)
            | (go_big_quiet_want
               apply quiet_by
               · intro w1 hw1
                 go_simp
                 first
                   | rfl
                   | (go_at_call 39; exact class_same hw1 (NC.out w1 hw1))
               · go_simp; rfl
               go_big_quiet_on))
          refine wpQuiet_nil ?_
          intro w12 hw12
          go_wp2
          exact bodyPost_ret (v := .tuple #[.slice none 0 0, .int .i64 0, .bool false]) (by simp [results, Try.results35, go_sem]) rfl ⟨.inr ⟨hE.out, rfl⟩, hbw.trans (hw12.mono hbw.size)⟩
      · rw [hpg] at HF
        have HF' : Hid (Jo.readF t n (s :: r) = none) := HF.out
        clear hpg HF
        go_wp2_with fail
        refine wp_region_class (by kernel_rfl) (by kernel_rfl) ?_
        repeat (first
          | go_big_quiet_skip
          | (go_big_quiet_want
             apply quiet_by
             · intro w1 hw1
               go_simp
               rfl
             · go_simp; rfl
             go_big_quiet_on))
        refine wpQuiet_nil ?_
        intro w12 hw12
        go_wp2
        exact bodyPost_ret (v := .tuple #[.slice none 0 0, .int .i64 0, .bool false]) (by simp [results, Try.results35, go_sem]) rfl ⟨.inr ⟨HF'.out, rfl⟩, hbw.trans (hw12.mono hbw.size)⟩
end Go.Proofs.Ytllohapbbmnipad
