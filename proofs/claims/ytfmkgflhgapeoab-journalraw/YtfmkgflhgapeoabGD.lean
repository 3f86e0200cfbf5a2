/-
  readGroup of the package journal: the group that sectors begin with.
  A journal over its disk: read, area, readHead of the package journal.
  The area that counts, and its sectors: counting and sectors of the package journal.
  The groups of an area, gone through by a function that yields: for every loop body that goes on and keeps rows of sectors.
  tail of the package journal: how many groups an area has, and the first sector behind them.
-/
import Derived.Test.YtfmkgflhgapeoabGC
namespace Go.Proofs.Ytfmkgflhgapeoab
open Go.RowKit Go.ChangeShapes Go.WideShapes Go.ChangeAt Go.Maps
set_option linter.unusedVariables false
set_option linter.unusedSimpArgs false
/-- What readGroup answers. -/
def GroupPost (t n : Int) (ss : List (List Int)) (w : World) (e : Ending) (w' : World) : Prop :=
  ((∃ g v, Jo.readF t n ss = some g ∧ e = .returned (.tuple #[v, .int .i64 (Jo.needF g : Nat), .bool true]) ∧ PG w.heap.size w' v g) ∨ (Jo.readF t n ss = none ∧ e = .returned (.tuple #[.slice none 0 0, .int .i64 0, .bool false]))) ∧ Below w.heap.size w w'
theorem at4_bd {s : List Int} (h : Jo.Bytes s) (i : Nat) : 0 ≤ Fr.at4 s i ∧ Fr.at4 s i < 4294967296 := by
  have h0 := Jo.bytes_getD h i
  have h1 := Jo.bytes_getD h (i + 1)
  have h2 := Jo.bytes_getD h (i + 2)
  have h3 := Jo.bytes_getD h (i + 3)
  exact Fr.num4_lt _ _ _ _ (by omega) (by omega) (by omega) (by omega)
theorem PG.base {B B' : Nat} {w : World} {v : Value} {gs : Jo.Gr} (h : PG B w v gs) (hB : B' ≤ B) : PG B' w v gs := by
  obtain ⟨vals, h1, h2⟩ := h
  refine ⟨vals, own_base h1 hB, fun i hi => ?_⟩
  obtain ⟨u, e1, e2, e3⟩ := h2 i hi
  exact ⟨u, e1, own_base e2 hB, e3⟩
theorem qneqI {o : Oper} {a : Act} {C : World → Prop} {w : World} (x y : Operand) (t : TypeId) (m n : Nat) (hop : o.op = .binOp .neq 3 x y t) (hx : a.eval x = .int .i64 m) (hy : a.eval y = .int .i64 n) (hb : ((m : Int) != (n : Int)) = true) (hC : C w) : o.quietAt Try.prog a C w (.bool true) := by
  unfold Oper.quietAt
  simp only [execOp, hop, hx, hy]
  rw [← hb]
  simp [go_sem, Result.andThen, hC, eqGuard]
theorem mem_isB {w : World} {a : Option Addr} {len : Nat} {zs : List Int} (h : IsB w a len zs) : ∀ x ∈ zs, 0 ≤ x ∧ x ≤ 255 := by
  intro x hx
  obtain ⟨i, hi, rfl⟩ := List.getElem_of_mem hx
  have := h.2.2.2 i
  simpa [List.getD, hi] using this
set_option maxHeartbeats 400000 in
theorem readGroup_none (a : Option Addr) (cap : Nat) (t n : Int) (w : World) :
    Calls Try.prog 55 #[.slice a 0 cap, .int .u32 t, .int .u32 n] w (GroupPost t n [] w) := by
  go_enter Try.func55, Try.ntmps55
  go_wp2
  refine bodyPost_ret (v := .tuple #[.slice none 0 0, .int .i64 0, .bool false]) (by simp [results, Try.results55, go_sem]) rfl ⟨.inr ⟨rfl, rfl⟩, Below.refl _ _⟩
set_option maxRecDepth 20000 in
set_option maxHeartbeats 4000000 in
theorem readGroup_some (b off N cap : Nat) (t n : Int) (s : List Int) (r : List (List Int)) (w : World) (h : IsSS w (some ⟨b, off, none⟩) N (s :: r)) (hc : N ≤ cap) (hN : N ≤ 2048) (ht : 0 ≤ t ∧ t < 4294967296) (hn : 0 ≤ n ∧ n < 4294967296) :
    Calls Try.prog 55 #[.slice (some ⟨b, off, none⟩) N cap, .int .u32 t, .int .u32 n] w (GroupPost t n (s :: r) w) := by
  have hlen := h.1
  simp only [List.length_cons] at hlen
  obtain ⟨r1, s1⟩ := h.at 0 (by omega)
  simp only [List.getD_cons_zero, Nat.zero_mul, Nat.add_zero] at r1 s1
  have hi1 : (Try.prog.info? 34).map (·.size) = some (s.map by8).length := by rw [sizeS]; simp [s1.1]
  have hx1 : Bx (w.alloc (.cells (s.map by8).toArray 34)) w.heap.size 34 s := heap_alloc_new w _
  have hB1 : Below w.heap.size w (w.alloc (.cells (s.map by8).toArray 34)) := (Below.refl _ _).alloc (Nat.le_refl _) _
  have hI1 := bx_isB hx1 s1.2 10 4 (by rw [s1.1]; omega) (by decide)
  have RN := readNumber_c _ 4 _ _ hI1
  rw [at4_drop] at RN
  have hbd := at4_bd s1.2 10
  obtain ⟨len, hle⟩ : ∃ len : Nat, Fr.at4 s 10 = len := ⟨(Fr.at4 s 10).toNat, by omega⟩
  rw [hle] at RN hbd
  have hlt' : (Fr.at4 s 10).toNat = len := by omega
  have zz := zlit
  have hs32 := s1.1
  have HRN := hid RN
  have H := hid h
  have hN1 : ¬ ((N : Int) == 0) = true := by simp; omega
  have hN0 : ¬ (N : Int) = 0 := by omega
  clear RN h hI1
  by_cases hbig : 131104 < len
  · have E : Hid (Jo.readF t n (s :: r) = none) := by
      show _ = _
      unfold Jo.readF
      simp only [hle]
      rw [if_pos (.inl (by omega))]
    have hbig' : (131104 : Int) < len := by omega
    go_enter Try.func55, Try.ntmps55
    go_wp2_with (first
      | (go_at_call 72; refine HRN.out.mono ?_; rintro e w' ⟨rfl, rfl⟩)
      | (go_at_call 73; refine (field_c w.heap.size 10 _ (by omega)).mono ?_; rintro e w' ⟨rfl, rfl⟩)
      | (refine wpList_load_mid rfl _ _ rfl b off rfl (s.map by8) _ r1 Try.underlying34 rfl hi1 ?_)
      | (refine wpList_storeS _ rfl _ _ _ rfl sizeS _ rfl (by simp) s rfl hs32 _ (by simp; decide) ?_))
    exact bodyPost_ret (v := .tuple #[.slice none 0 0, .int .i64 0, .bool false]) (by simp [results, Try.results55, go_sem]) rfl ⟨.inr ⟨E.out, rfl⟩, hB1⟩
  · have hbig' : ¬ (131104 : Int) < len := by omega
    have hsec : Jo.secsOf len ≤ 5000 := by unfold Jo.secsOf Jo.many; omega
    have hsec2 : 2 ≤ Jo.secsOf len := by unfold Jo.secsOf; omega
    by_cases hfit : N < Jo.secsOf len
    · have E : Hid (Jo.readF t n (s :: r) = none) := by
        show _ = _
        unfold Jo.readF
        simp only [hlt', List.length_cons, hlen]
        rw [if_pos (.inr (by omega))]
      have SO := hid (sectorsOf_c len (w.alloc (.cells (s.map by8).toArray 34)) (by omega))
      generalize Jo.secsOf len = sz at *
      have hfit' : (N : Int) < sz := by omega
      go_enter Try.func55, Try.ntmps55
      go_wp2_with (first
        | (go_at_call 41; refine SO.out.mono ?_; rintro e w' ⟨rfl, rfl⟩)
        | (go_at_call 72; refine HRN.out.mono ?_; rintro e w' ⟨rfl, rfl⟩)
        | (go_at_call 73; refine (field_c w.heap.size 10 _ (by omega)).mono ?_; rintro e w' ⟨rfl, rfl⟩)
        | (refine wpList_load_mid rfl _ _ rfl b off rfl (s.map by8) _ r1 Try.underlying34 rfl hi1 ?_)
        | (refine wpList_storeS _ rfl _ _ _ rfl sizeS _ rfl (by simp) s rfl hs32 _ (by simp; decide) ?_))
      exact bodyPost_ret (v := .tuple #[.slice none 0 0, .int .i64 0, .bool false]) (by simp [results, Try.results55, go_sem]) rfl ⟨.inr ⟨E.out, rfl⟩, hB1⟩
    · have hml := Jo.many_le len
      have hsz : Jo.secsOf len = Jo.many len + 2 := by unfold Jo.secsOf; omega
      obtain ⟨cnt, hcnt⟩ : ∃ cnt : Nat, s.getD 9 0 = cnt := ⟨(s.getD 9 0).toNat, by have := Jo.bytes_getD s1.2 9; omega⟩
      have hcb : cnt < 256 := by have := Jo.bytes_getD s1.2 9; omega
      have c9 := bx_cell hx1 9 (by rw [s1.1]; omega)
      rw [hcnt] at c9
      have hSS := (H.out.later hB1).sub 1 (Jo.many len) (by omega)
      have hSZ := (H.out.later hB1).sub 0 (Jo.many len + 2) (by omega)
      rw [List.drop_zero, Nat.zero_mul, Nat.add_zero] at hSZ
      have hRF : Jo.readF t n (s :: r) = (match Jo.partsF cnt (Jo.readL (((s :: r).drop 1).take (Jo.many len)) len) with
          | none => none
          | some g => if Jo.needF g = Jo.many len + 2 ∧ Jo.laid g t n = (s :: r).take (Jo.many len + 2) then some g else none) := by
        unfold Jo.readF
        simp only [hlt', hcnt, hsz, List.length_cons, hlen, Int.toNat_natCast]
        rw [if_neg (by rw [hle]; omega), show Jo.many len + 2 - 1 = Jo.many len + 1 by omega, List.drop_take, show Jo.many len + 1 - 1 = Jo.many len by omega]
        cases Jo.partsF cnt (Jo.readL (((s :: r).drop 1).take (Jo.many len)) len) <;> rfl
      have SO := hid (sectorsOf_c len (w.alloc (.cells (s.map by8).toArray 34)) (by omega))
      rw [hsz] at SO
      have HF := hid hRF
      have HSS := hid hSS
      have HSZ := hid hSZ
      clear hRF hSS hSZ hsz hsec hsec2
      generalize (((s :: r).drop 1).take (Jo.many len)) = mid at *
      generalize ((s :: r).take (Jo.many len + 2)) = fst at *
      have hfit2 : Jo.many len + 2 ≤ N := by have := hfit; unfold Jo.secsOf at this; omega
      clear hfit
      generalize Jo.many len = q at *
      obtain ⟨sz, hsz⟩ : ∃ sz, sz = q + 2 := ⟨_, rfl⟩
      have HSQ := hid hsz
      rw [← hsz] at SO HF HSZ hfit2
      have p0 : ¬ (N : Int) < (sz : Int) := by omega
      have p1 : (sz : Int) ≤ N := by omega
      have p2 : (sz : Int) - 1 ≤ cap := by omega
      have p3 : (1 : Int) ≤ (sz : Int) - 1 := by omega
      have p4 : (sz : Int) ≤ cap := by omega
      have p5 : sz - 1 - 1 = q := by omega
      have pwl : IntKind.i64.wrap (len : Int) = len := by rw [M.wrap_i64]; unfold wrap64; omega
      have pwc : IntKind.i64.wrap (cnt : Int) = cnt := by rw [M.wrap_i64]; unfold wrap64; omega
      have p6 : ¬ cap = 1 := by omega
      have p7 : (0 : Int) ≤ (sz : Int) := by omega
      have pw : IntKind.i64.wrap ((sz : Int) - 1) = (sz : Int) - 1 := by rw [M.wrap_i64]; unfold wrap64; omega
      clear hsz
      generalize hW1 : (w.alloc (.cells (s.map by8).toArray 34)) = W1 at *
      have hz1 : W1.heap.size = w.heap.size + 1 := by rw [← hW1]; simp
      go_enter Try.func55, Try.ntmps55
      go_wp2_with (first
        | (go_at_call 41; refine SO.out.mono ?_; rintro e w' ⟨rfl, rfl⟩)
        | (go_at_call 72; refine HRN.out.mono ?_; rintro e w' ⟨rfl, rfl⟩)
        | (go_at_call 73; refine (field_c w.heap.size 10 _ (by omega)).mono ?_; rintro e w' ⟨rfl, rfl⟩)
        | (refine wpList_load_mid rfl _ _ rfl b off rfl (s.map by8) _ r1 Try.underlying34 rfl hi1 ?_)
        | (refine wpList_storeS _ rfl _ _ _ rfl sizeS _ rfl (by simp) s rfl hs32 _ (by simp; decide) ?_; rw [hW1]))
      go_region_held3 (fun w' => w'.cell? ⟨w.heap.size, 9, none⟩ = some (.int .u8 cnt)) (first | exact K3 | exact K2 | go_keep)
        (first
          | (go_at_call 74; refine (partsOf_c la len cnt _ _ hI2 hn2 hcb (by omega)).mono ?_; rintro e w3 ⟨⟨v, ok, rfl, hcase⟩, hb3⟩; (have K3 : w3.cell? ⟨w.heap.size, 9, none⟩ = some (.int .u8 cnt) := cell_later hb3 K2); (have B3 : Below w'.heap.size w' w3 := ((Below.refl _ w').drew.trans hb2).trans (hb3.mono hb2.size)))
          | (go_at_call 75; refine (readLoad_c (some ⟨b, off + 32, none⟩) q _ len mid _ (by exact HSS.out) (by omega) (by omega)).mono ?_; rintro e w2 ⟨la, rfl, hI2, hn2, hb2⟩; (have K2 : w2.cell? ⟨w.heap.size, 9, none⟩ = some (.int .u8 cnt) := cell_later hb2 c9)))
      have hbw : Below w.heap.size w w3 := hB1.trans (B3.mono (by omega))
      have hSZ3 := hid (HSZ.out.later B3)
      have hw2 : w.heap.size ≤ w2.heap.size := Nat.le_trans hB1.size hb2.size
      rcases hcase with ⟨g, hpg, rfl, hPG⟩ | ⟨hpg, rfl⟩
      · rw [hpg] at HF
        have HPG := hid (hPG.base hw2)
        obtain ⟨ga, gc, rfl, hG⟩ := hPG.isG0 (by have := (Jo.parts_bytes _ _ _ hpg (fun x hx => by have := mem_isB hI2 x hx; omega)).2; omega)
        have HG := hid hG
        clear hPG hG hpg hI2
        by_cases hne : Jo.needF g = sz
        · have hok := (Jo.need_pos (g := g) (by rw [hne]; have := HSQ.out; omega)).1
          have hlaid := Jo.laid_len g t n
          have hnl := Jo.need_ok hok
          have hl3 : (Jo.laid g t n).length = sz := by rw [hlaid, ← hnl, hne]
          have hsct := Jo.laid_sct HG.out.isG.bytes (Jo.ok_iff.1 hok).2.1 t n
          have HNE := hid hne
          have hne' : ((Jo.needF g : Nat) : Int) = (sz : Int) := by rw [hne]
          have NC := hid (needs_c ga g.length gc g w3.drew HG.out.isG)
          rw [hne] at NC
          have HN2 := HSQ.out
          simp only [hne, true_and] at HF
          cases hEq : (Jo.laid g t n == fst) with
          | true =>
            have hEq' : Jo.laid g t n = fst := by simpa using hEq
            rw [if_pos hEq'] at HF
            have HE := hid hEq
            have hsz3 : sz ≤ 100000 := by omega
            have hszp : 0 < sz := by omega
            have GS := hid (groupSectors_c ga g.length gc g t n w3.drew HG.out hok ht hn)
            have HSC := hid hsct
            have HL3 := hid hl3
            have HF2 := hid HF
            have HNE2 := hid hne'
            clear hEq hEq' HF hl3 hlaid hnl hsct hne hok HN2 hne'
            go_wp2_with fail
            go_region_held3 (fun w' => True) (trivial) (first
              | (go_at_call 76; refine (equal_c sb so sz scap b off sz cap (Jo.laid g t n) fst _ hS5 (hSZ3.out.later hB5)).mono ?_; rw [HE.out]; rintro e w6 ⟨rfl, hb6⟩)
              | (go_at_call 52; refine GS.out.mono ?_; rintro e w5 ⟨v5, rfl, hown5, hb5⟩; obtain ⟨sa, scap, hv5, hS5, hsc5, hin5⟩ := own_isSS hown5 HSC.out (by rw [HL3.out]; exact hsz3); rw [HL3.out] at hv5 hS5; subst hv5; obtain ⟨sb, so, rfl, _⟩ := hS5.2.2.2 hszp; (have hB5 : Below w3.heap.size w3 w5 := ((Below.refl _ w3).drew).trans hb5); clear hown5 hsc5 hin5)
              | (go_at_call 21; refine NC.out.mono ?_; rintro e w4 ⟨rfl, rfl⟩))
            go_wp2
            have hB6 := hB5.trans (hb6.mono hB5.size)
            exact bodyPost_ret (v := .tuple #[.slice ga g.length gc, .int .i64 sz, .bool true]) (by simp [results, Try.results55, go_sem]) rfl ⟨.inl ⟨g, _, HF2.out.out, by rw [HNE.out], HPG.out.later hB6⟩, hbw.trans (hB6.mono hbw.size)⟩
          | false =>
            have hEq' : ¬ Jo.laid g t n = fst := by simpa using hEq
            rw [if_neg hEq'] at HF
            have HE := hid hEq
            have hsz3 : sz ≤ 100000 := by omega
            have hszp : 0 < sz := by omega
            have GS := hid (groupSectors_c ga g.length gc g t n w3.drew HG.out hok ht hn)
            have HSC := hid hsct
            have HL3 := hid hl3
            have HF2 := hid HF
            have HNE2 := hid hne'
            clear hEq hEq' HF hl3 hlaid hnl hsct hne hok HN2 hne'
            go_wp2_with fail
            go_region_held3 (fun w' => True) (trivial) (first
              | (go_at_call 76; refine (equal_c sb so sz scap b off sz cap (Jo.laid g t n) fst _ hS5 (hSZ3.out.later hB5)).mono ?_; rw [HE.out]; rintro e w6 ⟨rfl, hb6⟩)
              | (go_at_call 52; refine GS.out.mono ?_; rintro e w5 ⟨v5, rfl, hown5, hb5⟩; obtain ⟨sa, scap, hv5, hS5, hsc5, hin5⟩ := own_isSS hown5 HSC.out (by rw [HL3.out]; exact hsz3); rw [HL3.out] at hv5 hS5; subst hv5; obtain ⟨sb, so, rfl, _⟩ := hS5.2.2.2 hszp; (have hB5 : Below w3.heap.size w3 w5 := ((Below.refl _ w3).drew).trans hb5); clear hown5 hsc5 hin5)
              | (go_at_call 21; refine NC.out.mono ?_; rintro e w4 ⟨rfl, rfl⟩))
            go_wp2
            have hB6 := hB5.trans (hb6.mono hB5.size)
            exact bodyPost_ret (v := .tuple #[.slice none 0 0, .int .i64 0, .bool false]) (by simp [results, Try.results55, go_sem]) rfl ⟨.inr ⟨HF2.out.out, rfl⟩, hbw.trans (hB6.mono hbw.size)⟩
        · have hE : Hid (Jo.readF t n (s :: r) = none) := by
            have := HF.out
            simp only [hne, false_and, if_false] at this
            exact this
          have NC : Hid (∀ w1, Below w3.heap.size w3 w1 → Calls Try.prog 21 #[.slice ga g.length gc] w1 fun e w' => e = .returned (.int .i64 (Jo.needF g : Nat)) ∧ w' = w1) := fun w1 hw1 => needs_c ga g.length gc g w1 (HG.out.later hw1).isG
          have hne' : ((Jo.needF g : Nat) : Int) ≠ (sz : Int) := by omega
          generalize Jo.needF g = ng at *
          have hne2 : ((ng : Int) == (sz : Int)) = false := by simp; omega
          have hne3 : ¬ ng = sz := hne
          have hdn : ((ng : Int) != (sz : Int)) = true := by simp; omega
          clear HF
          obtain ⟨bb, hbb⟩ : ∃ bb : Bool, bb = ((ng : Int) != (sz : Int)) := ⟨_, rfl⟩
          have hbt : bb = true := by rw [hbb]; exact hdn
          have HBB := hid hbb
          clear hdn hne2 hne3 hne' hne hbb
          go_wp2_with fail
          refine wp_region_class (by kernel_rfl) (by kernel_rfl) ?_
          repeat (first
            | go_big_quiet_skip
            | (go_big_quiet_want
               apply quiet_by (v := .bool true)
               · intro w1 hw1
                 exact qneqI _ _ _ ng sz rfl rfl rfl (HBB.out ▸ hbt) hw1
               · go_simp; rfl
               go_big_quiet_on)
            | (go_big_quiet_want
               apply quiet_by
               · intro w1 hw1
                 go_simp
                 first
                   | rfl
                   | (go_at_call 21; exact class_same hw1 (NC.out w1 hw1))
               · go_simp; rfl
               go_big_quiet_on))
          refine wpQuiet_nil ?_
          intro w12 hw12
          go_wp2
          exact bodyPost_ret (v := .tuple #[.slice none 0 0, .int .i64 0, .bool false]) (by simp [results, Try.results55, go_sem]) rfl ⟨.inr ⟨hE.out, rfl⟩, hbw.trans (hw12.mono hbw.size)⟩
      · rw [hpg] at HF
        have HF' : Hid (Jo.readF t n (s :: r) = none) := HF.out
        clear hpg HF
        go_wp2_with fail
        refine wp_region_class (by kernel_rfl) (by kernel_rfl) ?_
        repeat (first
          | go_big_quiet_skip
          | (go_big_quiet_want
             apply quiet_by
             · intro w1 hw1
               go_simp
               rfl
             · go_simp; rfl
             go_big_quiet_on))
        refine wpQuiet_nil ?_
        intro w12 hw12
        go_wp2
        exact bodyPost_ret (v := .tuple #[.slice none 0 0, .int .i64 0, .bool false]) (by simp [results, Try.results55, go_sem]) rfl ⟨.inr ⟨HF'.out, rfl⟩, hbw.trans (hw12.mono hbw.size)⟩
end Go.Proofs.Ytfmkgflhgapeoab
namespace Go.Proofs.Ytfmkgflhgapeoab
open Go.RowKit Go.ChangeShapes Go.WideShapes Go.ChangeAt Go.Maps
set_option linter.unusedVariables false
set_option linter.unusedSimpArgs false
/-- A journal: its cell in block j, its disk. -/
def IsJ (w : World) (j d b1 b2 N : Nat) (on : Int → Sec) (c : Int → Option Sec) : Prop :=
  w.heap[j]? = some (.cells #[pD d] 58 (0, 0)) ∧ IsD w d b1 b2 N on c ∧ 8 ≤ N
/-- What is read. -/
def vw (on : Int → Sec) (c : Int → Option Sec) (i : Int) : Sec := (c i).getD (on i)
theorem IsD.sec {w : World} {d b1 b2 N : Nat} {on : Int → Sec} {c : Int → Option Sec} (h : IsD w d b1 b2 N on c) (i : Int) : Jo.Sct (vw on c i) := by
  obtain ⟨_, _, _, _, h2, m, h3, h4⟩ := h
  have key : IsSec ((c i).getD (on i)) := by
    cases hc : c i with
    | some s => exact (h2.2 i s hc).1
    | none =>
      rw [Option.getD_none, h4 i]
      cases hm : m i with
      | none => exact zsec_is
      | some u => exact (h3.2 i u hm).1
  exact ⟨key.1, key.2⟩
theorem IsD.two {w : World} {d b1 b2 N : Nat} {on : Int → Sec} {c : Int → Option Sec} (h : IsD w d b1 b2 N on c) : N ≤ 2048 := h.2.2.2.1
theorem IsJ.later {w w' : World} {j d b1 b2 N : Nat} {on : Int → Sec} {c : Int → Option Sec} (h : IsJ w j d b1 b2 N on c) (hb : Below w.heap.size w w') : IsJ w' j d b1 b2 N on c :=
  ⟨by rw [hb.block j (lt_blk h.1)]; exact h.1, h.2.1.later hb, h.2.2⟩
theorem IsJ.cell {w : World} {j d b1 b2 N : Nat} {on : Int → Sec} {c : Int → Option Sec} (h : IsJ w j d b1 b2 N on c) : w.cell? ⟨j, 0, none⟩ = some (pD d) := by
  rw [cell_of_row w j 0 _ _ _ h.1]; rfl
set_option maxRecDepth 100000 in
set_option maxHeartbeats 1000000 in
theorem jread_c {w : World} {j d b1 b2 N : Nat} {on : Int → Sec} {c : Int → Option Sec} (h : IsJ w j d b1 b2 N on c) (i : Int) (h0 : 0 ≤ i) (h1 : i < N) :
    Calls Try.prog 58 #[pB j, .int .i64 i] w fun e w' => e = .returned (secV (vw on c i)) ∧ Below w.heap.size w w' := by
  have zz := zlit
  have hs := (h.2.1.sec i).1
  have hb1 : Below w.heap.size w (w.alloc (.cells (zsec.map by8).toArray 34)) := (Below.refl _ _).alloc (Nat.le_refl _) _
  have hJ1 := h.later hb1
  have c1 := hJ1.cell
  have RC := hid (read_c hJ1.2.1 i h0 h1)
  have R0 : (w.alloc (.cells (zsec.map by8).toArray 34)).heap[w.heap.size]? = some (.cells (zsec.map by8).toArray 34 (0, 0)) := heap_alloc_new w _
  have hz1 : (w.alloc (.cells (zsec.map by8).toArray 34)).heap.size = w.heap.size + 1 := by simp
  clear h hJ1
  change Hid (Calls Try.prog 24 #[pD d, .int .i64 i] _ fun e w' => e = .returned (.tuple #[secV (vw on c i), .int .i64 0]) ∧ _) at RC
  generalize vw on c i = S at *
  go_enter Try.func58, Try.ntmps58
  go_wp2_with fail
  generalize (w.alloc (.cells (zsec.map by8).toArray 34)) = W1 at *
  refine RC.out.mono ?_
  rintro _ w2 ⟨rfl, hb2⟩
  have R2 : w2.heap[w.heap.size]? = some (.cells (zsec.map by8).toArray 34 (0, 0)) := by rw [hb2.block _ (by omega)]; exact R0
  have hz2 : w.heap.size < w2.heap.size := by have := hb2.size; omega
  have n3 := heap_alloc_new w2 (.cells (S.map by8).toArray 34)
  have A3 := alloc_facts w2 (.cells (S.map by8).toArray 34)
  have B3 : Below w.heap.size w (w2.alloc (.cells (S.map by8).toArray 34)) := (hb1.trans (hb2.mono (by omega))).alloc (by omega) _
  have R3 : (w2.alloc (.cells (S.map by8).toArray 34)).heap[w.heap.size]? = some (.cells (zsec.map by8).toArray 34 (0, 0)) := by rw [A3.2.1 _ hz2]; exact R2
  go_wp2_with (first
    | (refine wpList_storeS _ rfl _ _ _ rfl sizeS _ rfl (by simp) S rfl hs _ (by simp; decide) ?_)
    | (refine wpList_loadS _ rfl _ _ rfl sizeS Try.underlying34 _ rfl S hs _ _ n3 ?_)
    | (refine wpList_storeA _ rfl _ _ _ rfl sizeS _ rfl S rfl hs _ _ R3 (by simp; decide) ?_; intro w4 k1 k2 k3))
  exact bodyPost_ret (v := secV S) (res_sec1 rfl _ _ sizeS Try.underlying34 w.heap.size rfl _ hs _ _ k1) rfl ⟨rfl, B3.trans (k2.below (by rw [A3.1]; omega) (fun k e => by omega))⟩
/-- An area: its number, its turn, its first sector, the first one behind it. -/
def arV (k t st en : Int) : Value := .agg #[.int .i64 k, .int .u32 t, .int .i64 st, .int .i64 en]
def asz (N : Nat) : Nat := (N - 2) / 2
set_option maxHeartbeats 1000000 in
theorem area_c {w : World} {j d b1 b2 N : Nat} {on : Int → Sec} {c : Int → Option Sec} (h : IsJ w j d b1 b2 N on c) (k : Nat) (hk : k ≤ 1) (t : Int) :
    Calls Try.prog 56 #[pB j, .int .i64 k, .int .u32 t] w fun e w' => e = .returned (arV k t ((2 + k * asz N : Nat) : Int) ((2 + k * asz N + asz N : Nat) : Int)) ∧ Below w.heap.size w w' := by
  have hb1 : Below w.heap.size w (w.alloc (.cells #[.int .i64 0, .int .u32 0, .int .i64 0, .int .i64 0] 86)) := (Below.refl _ _).alloc (Nat.le_refl _) _
  have hJ1 := h.later hb1
  have c1 := hJ1.cell
  have SC := hid (size_c hJ1.2.1)
  have hN := h.2.1.two
  have h8 := h.2.2
  have n1 := heap_alloc_new w (.cells #[.int .i64 0, .int .u32 0, .int .i64 0, .int .i64 0] 86)
  clear h hJ1
  have e1 : (((N : Int) - 2) / 2) = ((asz N : Nat) : Int) := by unfold asz; omega
  have hk2 : k = 0 ∨ k = 1 := by omega
  have haz : asz N ≤ 1023 := by unfold asz; omega
  rcases hk2 with rfl | rfl
  all_goals
    go_enter Try.func56, Try.ntmps56
    go_wp2_with (go_at_call 14; refine SC.out.mono ?_; rintro e w' ⟨rfl, rfl⟩)
    refine bodyPost_ret (results_cell_row rfl _ _ w.heap.size _ _ _ _ rfl (heap_alloc_new w _) Try.underlying86 rfl (by kernel_rfl)) rfl ⟨?_, (Below.refl _ _).alloc (Nat.le_refl _) _⟩
    unfold arV
    simp
    try omega
theorem turn_none {s : List Int} (h : Fr.at4 s 1 = 0 ∨ ¬ s = Jo.headS (Fr.at4 s 1)) : Jo.turnOf s = 0 := by unfold Jo.turnOf; rw [if_neg (by rintro ⟨h1, h2⟩; rcases h with h | h; exact h1 h; exact h h2)]
set_option maxRecDepth 20000 in
set_option maxHeartbeats 2000000 in
theorem readHead_c (s : List Int) (w : World) (hs : Jo.Sct s) :
    Calls Try.prog 57 #[secV s] w fun e w' => e = .returned (.tuple #[.int .u32 (Jo.turnOf s), .bool (Jo.turnOf s != 0)]) ∧ Below w.heap.size w w' := by
  unfold secV
  have hx1 : Bx (w.alloc (.cells (s.map by8).toArray 34)) w.heap.size 34 s := heap_alloc_new w _
  have hB1 : Below w.heap.size w (w.alloc (.cells (s.map by8).toArray 34)) := (Below.refl _ _).alloc (Nat.le_refl _) _
  have hI1 := bx_isB hx1 hs.2 1 4 (by rw [hs.1]; omega) (by decide)
  have RN := readNumber_c _ 4 _ _ hI1
  rw [at4_drop] at RN
  have hbd := at4_bd hs.2 1
  have HRN := hid RN
  have hr1 := range_sec hx1
  clear RN hI1
  by_cases h0 : Fr.at4 s 1 = 0
  · have E := hid (turn_none (.inl h0))
    rw [h0] at HRN
    go_enter Try.func57, Try.ntmps57
    go_wp2_with (first
      | (go_at_call 72; refine HRN.out.mono ?_; rintro e w' ⟨rfl, rfl⟩)
      | (go_at_call 73; refine (field_c w.heap.size 1 _ (by omega)).mono ?_; rintro e w' ⟨rfl, rfl⟩))
    refine wp_region_class (by kernel_rfl) (by kernel_rfl) ?_
    repeat (first
      | go_big_quiet_skip
      | (go_big_quiet_want
         apply quiet_by
         · intro w1 hw1
           go_simp
           rfl
         · go_simp; rfl
         go_big_quiet_on))
    refine wpQuiet_nil ?_
    intro w12 hw12
    go_wp2
    go_ret2
    exact ⟨by rw [E.out]; rfl, hB1.trans (hw12.mono hB1.size)⟩
  · obtain ⟨t, hte⟩ : ∃ t, t = Fr.at4 s 1 := ⟨_, rfl⟩
    rw [← hte] at HRN hbd h0
    have HTE := hid hte
    clear hte
    have hsT := Jo.head_sct t
    have h0b : ((t : Int) == 0) = false := by simpa using h0
    cases hq : (s == Jo.headS t) with
    | true =>
      have hq' : s = Jo.headS t := by simpa using hq
      have E : Hid (Jo.turnOf s = t) := by
        show _ = _
        unfold Jo.turnOf
        rw [← HTE.out, if_pos ⟨h0, hq'⟩]
      have HQ := hid hq
      clear hq hq'
      go_enter Try.func57, Try.ntmps57
      go_wp2_with (first
        | (go_at_call 72; refine HRN.out.mono ?_; rintro e w' ⟨rfl, rfl⟩)
        | (go_at_call 73; refine (field_c w.heap.size 1 _ (by omega)).mono ?_; rintro e w' ⟨rfl, rfl⟩))
      generalize (w.alloc (.cells (s.map by8).toArray 34)) = W1 at *
      refine wp_region_class (by kernel_rfl) (by kernel_rfl) ?_
      repeat (first
        | go_big_quiet_skip
        | (go_big_quiet_want
           apply quiet_by
           · intro w1 hw1
             exact qload _ 34 _ rfl rfl (qsec (range_later hr1 hw1) hs.1) hw1
           · go_simp; rfl
           go_big_quiet_on)
        | (go_big_quiet_want
           apply quiet_by
           · intro w1 hw1
             exact qneq _ _ _ s (Jo.headS t) rfl rfl rfl (sct_sec hs) (sct_sec hsT) _ HQ.out hw1
           · go_simp; rfl
           go_big_quiet_on)
        | (go_big_quiet_want
           apply quiet_by
           · intro w1 hw1
             go_simp
             first
               | rfl
               | (go_at_call 59; exact class_of hw1 (headSector_c t _ hbd))
           · go_simp; rfl
           go_big_quiet_on))
      refine wpQuiet_nil ?_
      intro w12 hw12
      go_wp2
      go_ret2
      exact ⟨by rw [E.out]; simp [h0], hB1.trans (hw12.mono hB1.size)⟩
    | false =>
      have E := hid (turn_none (s := s) (.inr (by rw [← HTE.out]; simpa using hq)))
      have HQ := hid hq
      clear hq
      go_enter Try.func57, Try.ntmps57
      go_wp2_with (first
        | (go_at_call 72; refine HRN.out.mono ?_; rintro e w' ⟨rfl, rfl⟩)
        | (go_at_call 73; refine (field_c w.heap.size 1 _ (by omega)).mono ?_; rintro e w' ⟨rfl, rfl⟩))
      generalize (w.alloc (.cells (s.map by8).toArray 34)) = W1 at *
      refine wp_region_class (by kernel_rfl) (by kernel_rfl) ?_
      repeat (first
        | go_big_quiet_skip
        | (go_big_quiet_want
           apply quiet_by
           · intro w1 hw1
             exact qload _ 34 _ rfl rfl (qsec (range_later hr1 hw1) hs.1) hw1
           · go_simp; rfl
           go_big_quiet_on)
        | (go_big_quiet_want
           apply quiet_by
           · intro w1 hw1
             exact qneq _ _ _ s (Jo.headS t) rfl rfl rfl (sct_sec hs) (sct_sec hsT) _ HQ.out hw1
           · go_simp; rfl
           go_big_quiet_on)
        | (go_big_quiet_want
           apply quiet_by
           · intro w1 hw1
             go_simp
             first
               | rfl
               | (go_at_call 59; exact class_of hw1 (headSector_c t _ hbd))
           · go_simp; rfl
           go_big_quiet_on))
      refine wpQuiet_nil ?_
      intro w12 hw12
      go_wp2
      go_ret2
      exact ⟨by rw [E.out]; rfl, hB1.trans (hw12.mono hB1.size)⟩
end Go.Proofs.Ytfmkgflhgapeoab
namespace Go.Proofs.Ytfmkgflhgapeoab
open Go.RowKit Go.ChangeShapes Go.WideShapes Go.ChangeAt Go.Maps
set_option linter.unusedVariables false
set_option linter.unusedSimpArgs false
theorem wpList_exec {P : Program} {w w' : World} {ops : Array Oper} {rest : List Oper} {o : Oper} {a : Act} {Q : Exit → Act → World → Prop} (hg : o.guard = none) {v : Value} (hrun : (execOp a.eval o).run P w = .ok (.value v) w') (hK : wpList P ops Q rest (a.put o.dst v) w') : wpList P ops Q (o :: rest) a w :=
  wpList_plain hg fun K hK' => by unfold Oper.wp; rw [hrun]; exact hK' _ _ hK
/-- The area that counts among the first k heads, and its turn. -/
def best (v : Int → Sec) : Nat → Nat × Int
  | 0 => (0, 0)
  | k + 1 => if (best v k).2 < Jo.turnOf (v k) then (k, Jo.turnOf (v k)) else best v k
theorem best_bd {v : Int → Sec} (hv : ∀ i, Jo.Sct (v i)) : ∀ k, k ≤ 2 → (best v k).1 ≤ 1 ∧ 0 ≤ (best v k).2 ∧ (best v k).2 < 4294967296
  | 0, _ => by simp [best]
  | k + 1, hk => by
    have ih := best_bd hv k (by omega)
    have ht := Jo.turnOf_bd (hv k).2
    unfold best
    split
    · exact ⟨by omega, ht⟩
    · exact ih
def arC (k : Nat) (t : Int) (N : Nat) : Array Value := #[.int .i64 k, .int .u32 t, .int .i64 ((2 + k * asz N : Nat) : Int), .int .i64 ((2 + k * asz N + asz N : Nat) : Int)]
theorem arV_arC (k : Nat) (t : Int) (N : Nat) : arV k t ((2 + k * asz N : Nat) : Int) ((2 + k * asz N + asz N : Nat) : Int) = .agg (arC k t N) := rfl
/-- The sectors of an area. -/
def secs (v : Int → Sec) (st n : Nat) : List (List Int) := (List.range n).map fun i => v ((st + i : Nat) : Int)
theorem secs_snoc (v : Int → Sec) (st n : Nat) : secs v st (n + 1) = secs v st n ++ [v ((st + n : Nat) : Int)] := by unfold secs; rw [List.range_succ, List.map_append]; rfl
theorem secs_len (v : Int → Sec) (st n : Nat) : (secs v st n).length = n := by unfold secs; simp
theorem secs_sct {v : Int → Sec} (hv : ∀ i, Jo.Sct (v i)) (st n : Nat) : ∀ s ∈ secs v st n, Jo.Sct s := fun s hs => by
  unfold secs at hs; obtain ⟨i, _, rfl⟩ := List.mem_map.1 hs; exact hv _
set_option maxRecDepth 20000 in
set_option maxHeartbeats 2000000 in
theorem sectors_c {w : World} {j d b1 b2 N : Nat} {on : Int → Sec} {c : Int → Option Sec} (h : IsJ w j d b1 b2 N on c) (k t : Int) (st en : Nat) (hse : st ≤ en) (hen : en ≤ N) :
    Calls Try.prog 54 #[pB j, arV k t st en] w fun e w' => ∃ v, e = .returned v ∧ w'.ownsRow w.heap.size 34 32 v (secs (vw on c) st (en - st)).length (scells (secs (vw on c) st (en - st))) ∧ Below w.heap.size w w' := by
  unfold arV
  have hN := h.2.1.two
  have hv := fun i => h.2.1.sec i
  obtain ⟨i0, hi, hz0, hz1, hz2⟩ := infoSec
  have hb1 : Below w.heap.size w (w.alloc (.cells #[.int .i64 k, .int .u32 t, .int .i64 st, .int .i64 en] 86)) := (Below.refl _ _).alloc (Nat.le_refl _) _
  have n1 := heap_alloc_new w (.cells #[.int .i64 k, .int .u32 t, .int .i64 st, .int .i64 en] 86)
  have hz1' : (w.alloc (.cells #[.int .i64 k, .int .u32 t, .int .i64 st, .int .i64 en] 86)).heap.size = w.heap.size + 1 := by simp
  have H := hid h
  have HV := hid hv
  clear h hv
  go_enter Try.func54, Try.ntmps54
  go_wp2_with (at_make; refine wpList_make_own _ rfl _ _ 75 rfl (w.heap.size + 1) 34 i0 _ 32 Try.underlying75 hi hz0 hz1 _ _ _ (en - st) rfl rfl (by omega) (by rw [hz2]; omega) (by unfold maxLen; omega) (by omega) ?_; intro w1 hown0 hgr0; generalize (w.alloc (.cells #[.int .i64 k, .int .u32 t, .int .i64 st, .int .i64 en] 86)) = W1 at *; (have hB0 : Below (w.heap.size + 1) W1 w1 := (Below.refl _ _).grown hgr0 (by omega) (fun k hk => by cases hk)); (have n2 : w1.heap[w.heap.size]? = some (.cells #[.int .i64 k, .int .u32 t, .int .i64 st, .int .i64 en] 86 (0, 0)) := by rw [hB0.block _ (by omega)]; exact n1); (have q2 : w1.cell? ⟨w.heap.size, 2, none⟩ = some (.int .i64 st) := by rw [cell_of_row w1 _ 2 _ _ _ n2]; rfl))
  have hBw : Below w.heap.size w w1 := hb1.trans (hB0.mono (by omega))
  go_loopw [5, 6] (fun v i wr => ∃ m : Nat, m ≤ en - st ∧ i = .int .i64 ((st + m : Nat) : Int) ∧ wr.ownsRow (w.heap.size + 1) 34 32 v (secs (vw on c) st m).length (scells (secs (vw on c) st m)) ∧ Below (w.heap.size + 1) W1 wr) (fun _ i _ => en - (intOf i).toNat)
  case atStart => exact ⟨0, Nat.zero_le _, rfl, by rw [hz1'] at hown0; simpa [secs, scells] using hown0, hB0⟩
  case round =>
    obtain ⟨m, hm, rfl, hown, hB⟩ := hrel
    have hBz := hB.size
    have n3 : wr.heap[w.heap.size]? = some (.cells #[.int .i64 k, .int .u32 t, .int .i64 st, .int .i64 en] 86 (0, 0)) := by rw [hB.block _ (by omega)]; exact n1
    have q3 : wr.cell? ⟨w.heap.size, 3, none⟩ = some (.int .i64 en) := by rw [cell_of_row wr _ 3 _ _ _ n3]; rfl
    have hBr : Below w.heap.size w wr := hb1.trans (hB.mono (by omega))
    have HO := hid hown
    have HB := hid hB
    have hsl := secs_len (vw on c) st m
    by_cases hlt : st + m < en
    · have RC := hid (jread_c (H.out.later hBr) ((st + m : Nat) : Int) (by omega) (by omega))
      have hS := (HV.out ((st + m : Nat) : Int)).1
      have HSN := hid (secs_snoc (vw on c) st m)
      have hlt' : ((st + m : Nat) : Int) < en := by omega
      have HQ : Hid (((st + m : Nat) : Int) + 1 = ((st + (m + 1) : Nat) : Int)) := by show _ = _; omega
      have hSl := hid hsl
      clear hown hB hsl
      generalize vw on c ((st + m : Nat) : Int) = S at *
      obtain ⟨q, hq⟩ : ∃ q, q = st + m := ⟨_, rfl⟩
      rw [← hq] at RC HQ hlt' hlt ⊢
      have hqb : q ≤ 2048 := by omega
      have HQQ := hid hq
      clear hq
      go_wp2_with (first
        | (have _q := K3.out; clear _q K3; at_builtin; refine wpList_append_own _ rfl _ _ 75 rfl (w.heap.size + 1) 34 i0 (secV zsec) 32 32 Try.underlying75 hi hz0 hz1 hz2 (by rfl) (by decide) _ _ _ rfl (hown5.alloc _) ⟨w5.heap.size, 0, none⟩ 1 1 (S.map by8) rfl (by simp [hS]) (news_sec (heap_alloc_new w5 _)) (one8 _) (by unfold maxLen; omega) (by omega) (by simp; omega) ?_; intro v9 w9 hown9 hgrow9 hnil9)
        | (have _q := K2.out; clear _q; refine wpList_exec rfl (exec_slice1 _ rfl S rfl hS) ?_; clear K2; (have K3 : Hid True := hid trivial))
        | (go_at_call 58; refine RC.out.mono ?_; rintro e w5 ⟨rfl, hb5⟩; (have hown5 := own_keep HO.out (Out.of (S := fun _ => False) hb5) (fun _ _ h => h)); (have hz5 := hb5.size); (have K2 : Hid True := hid trivial); rw [hSl.out] at hown5))
      have B9 : Below (w.heap.size + 1) W1 w9 := below_grown ((HB.out.trans (hb5.mono (by omega))).alloc (by omega) _) (hown5.alloc _) (Nat.le_refl _) (by simp; omega) hgrow9
      obtain ⟨a9, c9, rfl⟩ := own_shape6 hown9
      go_roundw
      case rel => exact ⟨m + 1, by have := HQQ.out; omega, by rw [← HQ.out], by rw [HSN.out, scells_snoc, List.length_append, hSl.out]; exact hown9, B9⟩
      case measure => simp [intOf]; omega
    · have em : m = en - st := by omega
      have hlt' : ¬ ((st + m : Nat) : Int) < en := by omega
      rw [em] at hown
      have HO2 := hid (own_base hown (Nat.le_succ _))
      obtain ⟨a9, c9, rfl⟩ := own_shape6 hown
      clear hown
      obtain ⟨q, hq⟩ : ∃ q, q = st + m := ⟨_, rfl⟩
      rw [← hq] at hlt' ⊢
      have hqb : q ≤ 4096 := by omega
      clear hq
      go_wp2
      go_ret
      exact ⟨_, rfl, HO2.out, hBr⟩
theorem size70 : (Try.prog.info? 86).map (·.size) = some 4 := by kernel_rfl
theorem hi70 (k : Nat) (t : Int) (N : Nat) : (Try.prog.info? 86).map (·.size) = some (arC k t N).size := size70
theorem one70 (k : Nat) (t : Int) (N : Nat) : (arC k t N).all (·.oneCell') = true := by unfold arC; simp [Value.oneCell']
theorem best_no {v : Int → Sec} {k : Nat} (h : ¬ (best v k).2 < Jo.turnOf (v k)) : best v (k + 1) = best v k := by conv => lhs; unfold best; rw [if_neg h]
theorem best_yes {v : Int → Sec} {k : Nat} (h : (best v k).2 < Jo.turnOf (v k)) : best v (k + 1) = (k, Jo.turnOf (v k)) := by conv => lhs; unfold best; rw [if_pos h]
set_option maxRecDepth 20000 in
set_option maxHeartbeats 4000000 in
theorem counting_c {w : World} {j d b1 b2 N : Nat} {on : Int → Sec} {c : Int → Option Sec} (h : IsJ w j d b1 b2 N on c) :
    Calls Try.prog 39 #[pB j] w fun e w' => e = .returned (.agg (arC (best (vw on c) 2).1 (best (vw on c) 2).2 N)) ∧ Below w.heap.size w w' := by
  have hN := h.2.1.two
  have h8 := h.2.2
  have hv := fun i => h.2.1.sec i
  have haz : asz N ≤ 1023 := by unfold asz; omega
  have hb1 : Below w.heap.size w (w.alloc (.cells #[.int .i64 0, .int .u32 0, .int .i64 0, .int .i64 0] 86)) := (Below.refl _ _).alloc (Nat.le_refl _) _
  have n1 := heap_alloc_new w (.cells #[.int .i64 0, .int .u32 0, .int .i64 0, .int .i64 0] 86)
  have hz1 : (w.alloc (.cells #[.int .i64 0, .int .u32 0, .int .i64 0, .int .i64 0] 86)).heap.size = w.heap.size + 1 := by simp
  have AC := hid (area_c (h.later hb1) 0 (by omega) 0)
  have H := hid h
  have HV := hid hv
  clear h hv
  go_enter Try.func39, Try.ntmps39
  go_wp2_with fail
  generalize (w.alloc (.cells #[.int .i64 0, .int .u32 0, .int .i64 0, .int .i64 0] 86)) = W1 at *
  refine AC.out.mono ?_
  rintro _ w2 ⟨rfl, hb2⟩
  unfold arV
  have n2 : w2.heap[w.heap.size]? = some (.cells #[.int .i64 0, .int .u32 0, .int .i64 0, .int .i64 0] 86 (0, 0)) := by rw [hb2.block _ (by omega)]; exact n1
  have hB2 : Below w.heap.size w w2 := hb1.trans (hb2.mono (by omega))
  have hz2 := hb2.size
  have n3 := heap_alloc_new w2 (.cells (arC 0 0 N) 86)
  have A3 := alloc_facts w2 (.cells (arC 0 0 N) 86)
  have B3 : Below w.heap.size w (w2.alloc (.cells (arC 0 0 N) 86)) := hB2.alloc hB2.size _
  have r3 : (w2.alloc (.cells (arC 0 0 N) 86)).heap[w.heap.size]? = some (.cells #[.int .i64 0, .int .u32 0, .int .i64 0, .int .i64 0] 86 (0, 0)) := by rw [A3.2.1 _ (by omega)]; exact n2
  have e0 : arC 0 0 N = #[.int .i64 0, .int .u32 0, .int .i64 2, .int .i64 (2 + (asz N : Nat))] := by unfold arC; simp
  rw [e0] at r3 B3
  have n3' : (w2.alloc (.cells #[.int .i64 0, .int .u32 0, .int .i64 2, .int .i64 (2 + (asz N : Nat))] 86)).heap[w2.heap.size]? = some (.cells (arC 0 0 N) 86 (0, 0)) := by rw [← e0]; exact n3
  clear n3 e0
  have hfb1 : w.heap.size < w2.heap.size := by omega
  have hu70 := Try.underlying86
  go_wp2
  go_loopw [9] (fun i wr => ∃ m : Nat, m ≤ 2 ∧ i = .int .i64 m ∧ wr.heap[w2.heap.size]? = some (.cells (arC (best (vw on c) m).1 (best (vw on c) m).2 N) 86 (0, 0)) ∧ wr.heap[w.heap.size]? = some (.cells #[.int .i64 0, .int .u32 0, .int .i64 0, .int .i64 0] 86 (0, 0)) ∧ Below w.heap.size w wr) (fun i _ => 2 - (intOf i).toNat)
  case atStart => exact ⟨0, by omega, rfl, n3', r3, B3⟩
  case round =>
    obtain ⟨m, hm, rfl, hx, hr, hB⟩ := hrel
    clear n3' A3 B3 r3 n2
    have hbb := best_bd HV.out m hm
    have HX := hid hx
    have HR := hid hr
    have HB := hid hB
    have hfz : w2.heap.size < wr.heap.size := lt_blk hx
    clear hx hr hB
    by_cases hlt : m < 2
    · have hlt' : ((m : Nat) : Int) < 2 := by omega
      have RC := hid (jread_c (H.out.later HB.out) (m : Int) (by omega) (by omega))
      have hS := HV.out (m : Int)
      have hTb := Jo.turnOf_bd hS.2
      have HY := hid (best_yes (v := vw on c) (k := m))
      have HNo := hid (best_no (v := vw on c) (k := m))
      have HD := hid (fun w => readHead_c (vw on c (m : Int)) w hS)
      generalize vw on c (m : Int) = S at *
      generalize Jo.turnOf S = T at *
      obtain ⟨bk, hbk⟩ : ∃ bk, bk = (best (vw on c) m).1 := ⟨_, rfl⟩
      obtain ⟨bt, hbt⟩ : ∃ bt, bt = (best (vw on c) m).2 := ⟨_, rfl⟩
      rw [← hbk, ← hbt] at HX hbb
      rw [← hbt] at HY HNo
      have HBK := hid hbk
      have HBT := hid hbt
      clear hbk hbt
      by_cases hT : bt < T
      · have hb0 : (T != 0) = true := by simp; omega
        rw [hb0] at HD
        have AR : Hid (∀ w6, Below w.heap.size w w6 → Calls Try.prog 56 #[pB j, .int .i64 m, .int .u32 T] w6 fun e w' => e = .returned (.agg (arC m T N)) ∧ Below w6.heap.size w6 w') := fun w6 h6 => area_c (H.out.later h6) m (by omega) T
        go_wp2_with (first
          | (go_at_call 56; refine (AR.out w6 (HB.out.trans (B6.mono HB.out.size))).mono ?_; rintro e w7 ⟨rfl, hb7⟩; (have B7 : Below wr.heap.size wr w7 := B6.trans (hb7.mono B6.size)); (have x7 : w7.heap[w2.heap.size]? = some (.cells (arC bk bt N) 86 (0, 0)) := by rw [B7.block _ hfz]; exact HX.out); (have K7 : Hid True := hid trivial))
          | (have _q := K7.out; clear _q; refine wpList_store_row rfl _ _ _ rfl w2.heap.size (arC m T N) rfl rfl _ _ x7 (hi70 m T N) rfl (one70 m T N) ?_; clear K7)
          | (go_at_call 57; refine (HD.out _).mono ?_; rintro e w6 ⟨rfl, hb6⟩; (have B6 : Below wr.heap.size wr w6 := hb5.trans (hb6.mono hb5.size)); (have x6 : w6.heap[w2.heap.size]? = some (.cells (arC bk bt N) 86 (0, 0)) := by rw [B6.block _ hfz]; exact HX.out); (have q6 : w6.cell? ⟨w2.heap.size, 1, none⟩ = some (.int .u32 bt) := by rw [cell_of_row w6 _ 1 _ _ _ x6]; rfl))
          | (go_at_call 58; refine RC.out.mono ?_; rintro e w5 ⟨rfl, hb5⟩))
        go_roundw
        case rel => exact ⟨m + 1, by omega, by go_num, by rw [HY.out hT]; exact setRow_heap w7 _ _ _ _ _ x7, by rw [row_other _ _ _ _ (by omega), B7.block _ (by omega)]; exact HR.out, Below.setRow (HB.out.trans (B7.mono HB.out.size)) _ _ (by omega)⟩
        case measure => simp [intOf]; omega
      · by_cases hT0 : T = 0
        · subst hT0
          have hb0 : ((0 : Int) != 0) = false := by decide
          rw [hb0] at HD
          go_wp2_with (first
            | (go_at_call 57; refine (HD.out _).mono ?_; rintro e w6 ⟨rfl, hb6⟩; (have B6 : Below wr.heap.size wr w6 := hb5.trans (hb6.mono hb5.size)); (have x6 : w6.heap[w2.heap.size]? = some (.cells (arC bk bt N) 86 (0, 0)) := by rw [B6.block _ hfz]; exact HX.out); (have q6 : w6.cell? ⟨w2.heap.size, 1, none⟩ = some (.int .u32 bt) := by rw [cell_of_row w6 _ 1 _ _ _ x6]; rfl))
            | (go_at_call 58; refine RC.out.mono ?_; rintro e w5 ⟨rfl, hb5⟩))
          go_roundw
          case rel => exact ⟨m + 1, by omega, by go_num, by rw [HNo.out hT, ← HBK.out, ← HBT.out]; exact x6, by rw [B6.block _ (by omega)]; exact HR.out, HB.out.trans (B6.mono HB.out.size)⟩
          case measure => simp [intOf]; omega
        · have hb0 : (T != 0) = true := by simp; omega
          rw [hb0] at HD
          go_wp2_with (first
            | (go_at_call 57; refine (HD.out _).mono ?_; rintro e w6 ⟨rfl, hb6⟩; (have B6 : Below wr.heap.size wr w6 := hb5.trans (hb6.mono hb5.size)); (have x6 : w6.heap[w2.heap.size]? = some (.cells (arC bk bt N) 86 (0, 0)) := by rw [B6.block _ hfz]; exact HX.out); (have q6 : w6.cell? ⟨w2.heap.size, 1, none⟩ = some (.int .u32 bt) := by rw [cell_of_row w6 _ 1 _ _ _ x6]; rfl))
            | (go_at_call 58; refine RC.out.mono ?_; rintro e w5 ⟨rfl, hb5⟩))
          go_roundw
          case rel => exact ⟨m + 1, by omega, by go_num, by rw [HNo.out hT, ← HBK.out, ← HBT.out]; exact x6, by rw [B6.block _ (by omega)]; exact HR.out, HB.out.trans (B6.mono HB.out.size)⟩
          case measure => simp [intOf]; omega
    · have em : m = 2 := by omega
      subst em
      go_wp2_with (first
        | (refine wpList_load_row rfl _ _ rfl w2.heap.size rfl _ _ _ _ HX.out hu70 rfl (hi70 _ _ N) ?_)
        | (refine wpList_store_row rfl _ _ _ rfl w.heap.size (arC (best (vw on c) 2).1 (best (vw on c) 2).2 N) rfl rfl _ _ HR.out (hi70 _ _ N) rfl (one70 _ _ N) ?_))
      refine bodyPost_ret (v := .agg (arC (best (vw on c) 2).1 (best (vw on c) 2).2 N)) (results_cell_row rfl _ _ w.heap.size _ _ _ _ rfl (setRow_heap wr _ _ _ _ _ HR.out) hu70 rfl (hi70 _ _ N)) rfl ⟨rfl, Below.setRow HB.out _ _ (Nat.le_refl _)⟩
end Go.Proofs.Ytfmkgflhgapeoab
namespace Go.Proofs.Ytfmkgflhgapeoab
open Go.RowKit Go.ChangeShapes Go.WideShapes Go.ChangeAt Go.Maps Go.Shelf
attribute [local go_sem] Oper.semAt_some
set_option linter.unusedVariables false
set_option linter.unusedSimpArgs false
theorem IsSS.blk {w w' : World} {b off n : Nat} {ss : List (List Int)} (h : IsSS w (some ⟨b, off, none⟩) n ss) (hb : w'.heap[b]? = w.heap[b]?) : IsSS w' (some ⟨b, off, none⟩) n ss := by
  obtain ⟨h1, h2, h3, h4⟩ := h
  refine ⟨h1, h2, h3, fun hp => ?_⟩
  obtain ⟨b', off', e, hc⟩ := h4 hp
  cases e
  exact ⟨b, off, rfl, fun i hi j v hv => by rw [World.cell?_of_block (a := ⟨b, off + i * 32 + j, none⟩) hb]; exact hc i hi j v hv⟩
theorem IsSS.rest {w : World} {b off n : Nat} {ss : List (List Int)} (h : IsSS w (some ⟨b, off, none⟩) n ss) (m : Nat) (hm : m ≤ n) : IsSS w (some ⟨b, off + m * 32, none⟩) (n - m) (ss.drop m) := by
  have h1 := h.sub m (n - m) (by omega)
  rwa [List.take_of_length_le (by simp [h.1])] at h1
/-- What is left behind the groups gs. -/
def Left (t : Int) (ss : List (List Int)) (gs : List Jo.Gr) (r : List (List Int)) : Prop :=
  r.length + 2 * gs.length ≤ ss.length ∧ Jo.groupsF t (ss.length + 1) 1 ss = gs ++ Jo.groupsF t (ss.length + 1 - gs.length) ((gs.length : Int) + 1) r
theorem Left.start (t : Int) (ss : List (List Int)) : Left t ss [] ss := ⟨by simp, by simp⟩
theorem need_two {t n : Int} {g : Jo.Gr} {r : List (List Int)} (h : Jo.readF t n r = some g) (hs : ∀ s ∈ r, Jo.Sct s) : 2 ≤ Jo.needF g ∧ Jo.needF g ≤ r.length ∧ Jo.okG g = true := by
  obtain ⟨⟨ho, r', e⟩, _⟩ := Jo.of_read h hs
  have h1 := Jo.need_ok ho
  have h2 := Jo.laid_len g t n
  refine ⟨by rw [h1]; unfold Jo.secsOf; omega, ?_, ho⟩
  rw [h1, ← h2, e, List.length_append]; omega
theorem Left.next {t : Int} {ss r : List (List Int)} {gs : List Jo.Gr} {g : Jo.Gr} (h : Left t ss gs r) (hg : Jo.readF t ((gs.length : Int) + 1) r = some g) (hs : ∀ s ∈ r, Jo.Sct s) : Left t ss (gs ++ [g]) (r.drop (Jo.needF g)) := by
  have hn := need_two hg hs
  refine ⟨by simp; have := h.1; omega, ?_⟩
  rw [h.2]
  obtain ⟨k, hk⟩ : ∃ k, ss.length + 1 - gs.length = k + 1 := ⟨ss.length - gs.length, by have := h.1; omega⟩
  rw [hk]
  conv => lhs; unfold Jo.groupsF; rw [hg]
  simp only [List.length_append, List.length_cons, List.length_nil, List.append_assoc, List.cons_append, List.nil_append]
  rw [show ss.length + 1 - (gs.length + (0 + 1)) = k by omega, show (((gs.length + (0 + 1) : Nat)) : Int) + 1 = (gs.length : Int) + 1 + 1 by omega]
theorem Left.last {t : Int} {ss r : List (List Int)} {gs : List Jo.Gr} (h : Left t ss gs r) (hg : Jo.readF t ((gs.length : Int) + 1) r = none) : Jo.groupsF t (ss.length + 1) 1 ss = gs := by
  rw [h.2]
  obtain ⟨k, hk⟩ : ∃ k, ss.length + 1 - gs.length = k + 1 := ⟨ss.length - gs.length, by have := h.1; omega⟩
  rw [hk]
  unfold Jo.groupsF
  rw [hg]
  simp
/-- All groups of an area's sectors. -/
def allG (t : Int) (ss : List (List Int)) : List Jo.Gr := Jo.groupsF t (ss.length + 1) 1 ss
set_option maxRecDepth 20000 in
set_option maxHeartbeats 4000000 in
theorem groups1_in (l jb ab : Nat) (j d b1 b2 N : Nat) (on : Int → Sec) (c : Int → Option Sec) (k t : Int) (st en : Nat) (hse : st ≤ en) (hen : en ≤ N) (ht : 0 ≤ t ∧ t < 4294967296) (W : World) (I : List Jo.Gr → World → Prop)
    (hJ : IsJ W j d b1 b2 N on c) (hjb : W.heap[jb]? = some (.cells #[pB j] 37 (0, 0))) (hab : W.heap[ab]? = some (.cells #[.int .i64 k, .int .u32 t, .int .i64 st, .int .i64 en] 86 (0, 0)))
    (hL : ∀ (gs : List Jo.Gr) (V V' : World), I gs V → Below V.heap.size V V' → I gs V') (hab' : ∀ (gs : List Jo.Gr) (V : World), I gs V → V.heap[ab]? = some (.cells #[.int .i64 k, .int .u32 t, .int .i64 st, .int .i64 en] 86 (0, 0)))
    (hY : ∀ (gs : List Jo.Gr) (g : Jo.Gr) (v : Value) (V : World), I gs V → W.heap.size ≤ V.heap.size → PG W.heap.size V v g → gs.length < 2048 → YieldAt Fence.wide 1 Try.prog l #[v, .int .i64 (Jo.needF g : Nat)] V fun e V' => e = .returned (.bool true) ∧ I (gs ++ [g]) V' ∧ W.heap.size ≤ V'.heap.size ∧ ∀ (q : Nat) (cur : Array Value) (fr : Nat × Nat), V.heap[q]? = some (Obj.cells cur 34 fr) → V'.heap[q]? = V.heap[q]?)
    (h0 : I [] W) :
    CallsIn Fence.wide 2 Try.prog 53 #[.func (.yield l) #[] #[], .pointer (some ⟨jb, 0, none⟩), .pointer (some ⟨ab, 0, none⟩)] W fun e V' => (∃ v, e = .returned v) ∧ I (allG t (secs (vw on c) st (en - st))) V' := by
  have hN := hJ.2.1.two
  have hv := fun i => hJ.2.1.sec i
  have hsct := secs_sct hv st (en - st)
  have hsl := secs_len (vw on c) st (en - st)
  have SC := hid (sectors_c hJ k t st en hse hen)
  unfold arV at SC
  have cj := cell_box hjb
  have a0 : W.cell? ⟨ab, 0, none⟩ = some (.int .i64 k) := by rw [cell_of_row W _ 0 _ _ _ hab]; rfl
  have a1 : W.cell? ⟨ab, 1, none⟩ = some (.int .u32 t) := by rw [cell_of_row W _ 1 _ _ _ hab]; rfl
  have a2 : W.cell? ⟨ab, 2, none⟩ = some (.int .i64 st) := by rw [cell_of_row W _ 2 _ _ _ hab]; rfl
  have a3 : W.cell? ⟨ab, 3, none⟩ = some (.int .i64 en) := by rw [cell_of_row W _ 3 _ _ _ hab]; rfl
  have H0 := hid h0
  have hm : (secs (vw on c) st (en - st)).length ≤ 2048 := by omega
  have HSL := hid hsl
  clear hsl
  unfold allG
  generalize secs (vw on c) st (en - st) = ss at *
  clear hJ hv h0
  refine callsIn_of_wp Try.func53 rfl trivial ?_ rfl
  simp only [Try.ntmps53, List.size_toArray, List.length_cons, List.length_nil, Nat.reduceAdd, Nat.reduceSub, Array.replicate_succ, Array.replicate_zero, List.push_toArray, List.append_toArray, List.nil_append, List.cons_append]
  gi_wp2_with fail
  refine ⟨trivial, (callsIn_wide.2 SC.out).mono ?_⟩
  rintro _ W1 ⟨v, rfl, hown, hb1⟩
  obtain ⟨ra, rc, rfl, hS, hrc, hin⟩ := own_isSS hown hsct (by omega)
  have hT : ∀ q, ra = some q → ∃ cur fr, W1.heap[q.block]? = some (.cells cur 34 fr) := by
    intro q e
    rcases hown.2 with ⟨hv, _⟩ | ⟨g, cap, cur, hv, _, e3, _⟩
    · cases e; cases hv
    · cases e; cases hv; exact ⟨_, _, e3⟩
  have hI1 := hL _ _ _ H0.out hb1
  clear hown hin
  gi_wp2
  gi_loopw [4, 5] (fun s i wr => ∃ (gs : List Jo.Gr) (r : List (List Int)) (a : Option Addr) (m cp : Nat), s = .slice a m cp ∧ m ≤ cp ∧ i = .int .u32 ((gs.length : Int) + 1) ∧ Left t ss gs r ∧ IsSS wr a m r ∧ I gs wr ∧ W.heap.size ≤ wr.heap.size ∧ (∀ q, a = some q → ∃ cur fr, wr.heap[q.block]? = some (.cells cur 34 fr))) (fun s _ _ => match s with | .slice _ m _ => m | _ => 0)
  case atStart => exact ⟨[], ss, ra, _, rc, rfl, hrc, rfl, Left.start t ss, hS, hI1, hb1.size, hT⟩
  case round =>
    obtain ⟨gs, r, a, m, cp, rfl, hmc, rfl, hLf, hSr, hIr, hzr, hTr⟩ := hrel
    have hgl : gs.length ≤ 1024 := by have := hLf.1; omega
    have hrl := hSr.1
    have hrm : m ≤ 2048 := by have := hLf.1; omega
    have x1 : wr.cell? ⟨ab, 1, none⟩ = some (.int .u32 t) := by rw [cell_of_row wr _ 1 _ _ _ (hab' _ _ hIr)]; rfl
    have RG : Calls Try.prog 55 #[.slice a m cp, .int .u32 t, .int .u32 ((gs.length : Int) + 1)] wr (GroupPost t ((gs.length : Int) + 1) r wr) := by
      cases r with
      | nil =>
        have : m = 0 := by simpa using hrl.symm
        subst this
        exact readGroup_none a cp t _ wr
      | cons s r =>
        obtain ⟨b, off, rfl, _⟩ := hSr.2.2.2 (by rw [← hrl]; simp)
        exact readGroup_some b off m cp t _ s r wr hSr hmc hrm ht (by omega)
    have HRG := hid RG
    have HLf := hid hLf
    have HSr := hid hSr
    have HIr := hid hIr
    have HTr := hid hTr
    clear RG hLf hSr hIr hTr
    gi_wp2_with fail
    refine ⟨trivial, (callsIn_wide.2 HRG.out).mono ?_⟩
    rintro _ w2 ⟨⟨g, gv, hg, rfl, hP⟩ | ⟨hg, rfl⟩, hb2⟩
    · have hn2 := need_two hg HSr.out.2.2.1
      have HNX := hid (HLf.out.next hg HSr.out.2.2.1)
      rw [hrl] at hn2
      obtain ⟨b, off, rfl, _⟩ := HSr.out.2.2.2 (by omega)
      obtain ⟨cur, fr, hcur⟩ := HTr.out _ rfl
      have hcur2 : w2.heap[b]? = some (.cells cur 34 fr) := by rw [hb2.block b (lt_blk hcur)]; exact hcur
      obtain ⟨fn, tmps, assign, body, hy, hR⟩ := hY gs g gv w2 (hL _ _ _ HIr.out hb2) (Nat.le_trans hzr hb2.size) (hP.base hzr) (by omega)
      obtain ⟨ga, gc, hgv, _⟩ := hP.isG0 (by have := (Jo.ok_iff.1 hn2.2.2).2.1; omega)
      subst hgv
      have HR := hid hR
      have HS2 := hid (HSr.out.later hb2)
      clear hR hP hg hcur
      generalize Jo.needF g = ng at *
      have i0 : (0 : Int) ≤ ng := by omega
      have i1 : (ng : Int) ≤ m := by omega
      have i2 : (ng : Int) ≤ cp := by omega
      have i3 : (m : Int) ≤ cp := by omega
      have hgl2 : (gs.length : Int) + 1 + 1 < 4294967296 := by omega
      gi_wp2_with fail
      refine HR.out.mono ?_
      rintro _ W3 ⟨rfl, hI3, hz3, hk3⟩
      have hb3 := hk3 b cur fr hcur2
      have SS3 := (HS2.out.blk hb3).rest ng (by omega)
      have T3 : W3.heap[b]? = some (.cells cur 34 fr) := hb3.trans hcur2
      by_cases hcp : cp = ng
      · have hm0 : m = ng := by omega
        have SS0 : IsSS W3 (some ⟨b, off, none⟩) 0 (r.drop ng) := ⟨by rw [SS3.1]; omega, by omega, SS3.2.2.1, fun hp => by omega⟩
        have HSS0 := hid SS0
        clear SS3 SS0
        gi_wp2
        go_roundw
        case rel => exact ⟨gs ++ [g], r.drop ng, some ⟨b, off, none⟩, _, _, rfl, by omega, by simp, HNX.out, HSS0.out, hI3, hz3, fun q e => by cases e; exact ⟨_, _, T3⟩⟩
        case measure => simp; omega
      · have HSS3 := hid SS3
        clear SS3
        gi_wp2
        go_roundw
        case rel => exact ⟨gs ++ [g], r.drop ng, some ⟨b, off + ng * 32, none⟩, _, _, rfl, by omega, by simp, HNX.out, HSS3.out, hI3, hz3, fun q e => by cases e; exact ⟨_, _, T3⟩⟩
        case measure => simp; omega
    · have E := hid (HLf.out.last hg)
      have hI2 := hL _ _ _ HIr.out hb2
      gi_wp2
      refine ⟨fun _ h => (by cases h), ?_⟩
      gi_wp2
      refine bodyPost_ret (results_none (by kernel_rfl) _ _ _) rfl ?_
      exact ⟨⟨_, rfl⟩, by rw [E.out]; exact hI2⟩
end Go.Proofs.Ytfmkgflhgapeoab
namespace Go.Proofs.Ytfmkgflhgapeoab
open Go.RowKit Go.ChangeShapes Go.WideShapes Go.ChangeAt Go.Maps Go.Shelf
attribute [local go_sem] Oper.semAt_some
set_option linter.unusedVariables false
set_option linter.unusedSimpArgs false
set_option maxHeartbeats 400000 in
theorem groups_c (j : Nat) (k t st en : Int) (w : World) :
    Calls Try.prog 38 #[pB j, .agg #[.int .i64 k, .int .u32 t, .int .i64 st, .int .i64 en]] w fun e w' => e = .returned (.func (.func 53) #[] #[.pointer (some ⟨w.heap.size, 0, none⟩), .pointer (some ⟨w.heap.size + 1, 0, none⟩)]) ∧ w' = (w.alloc (.cells #[pB j] 37)).alloc (.cells #[.int .i64 k, .int .u32 t, .int .i64 st, .int .i64 en] 86) := by
  go_enter Try.func38, Try.ntmps38
  go_wp2
  go_ret
  exact ⟨rfl, rfl⟩
def sumN (gs : List Jo.Gr) : Nat := (gs.map Jo.needF).sum
theorem sumN_snoc (gs : List Jo.Gr) (g : Jo.Gr) : sumN (gs ++ [g]) = sumN gs + Jo.needF g := by unfold sumN; simp
theorem need_le (g : Jo.Gr) : Jo.needF g ≤ 5000 := by
  unfold Jo.needF
  split
  · rename_i h; have := (Jo.ok_load h).2; unfold Jo.secsOf Jo.many; omega
  · omega
theorem sumN_le (gs : List Jo.Gr) : sumN gs ≤ 5000 * gs.length := by
  induction gs with
  | nil => simp [sumN]
  | cons g gs ih => have := need_le g; unfold sumN at *; simp; omega
theorem alloc5 (w : World) (o0 o1 o2 o3 o4 : Obj) : (((((w.alloc o0).alloc o1).alloc o2).alloc o3).alloc o4).heap.size = w.heap.size + 5 ∧ Below w.heap.size w (((((w.alloc o0).alloc o1).alloc o2).alloc o3).alloc o4) ∧
    (((((w.alloc o0).alloc o1).alloc o2).alloc o3).alloc o4).heap[w.heap.size]? = some o0 ∧ (((((w.alloc o0).alloc o1).alloc o2).alloc o3).alloc o4).heap[w.heap.size + 1]? = some o1 ∧ (((((w.alloc o0).alloc o1).alloc o2).alloc o3).alloc o4).heap[w.heap.size + 2]? = some o2 ∧
    (((((w.alloc o0).alloc o1).alloc o2).alloc o3).alloc o4).heap[w.heap.size + 3]? = some o3 ∧ (((((w.alloc o0).alloc o1).alloc o2).alloc o3).alloc o4).heap[w.heap.size + 4]? = some o4 := by
  have n0 := heap_alloc_new w o0
  have A0 := alloc_facts w o0
  generalize w.alloc o0 = a at *
  have n1 := heap_alloc_new a o1
  have A1 := alloc_facts a o1
  generalize a.alloc o1 = b at *
  have n2 := heap_alloc_new b o2
  have A2 := alloc_facts b o2
  generalize b.alloc o2 = c at *
  have n3 := heap_alloc_new c o3
  have A3 := alloc_facts c o3
  generalize c.alloc o3 = d at *
  have n4 := heap_alloc_new d o4
  have A4 := alloc_facts d o4
  generalize d.alloc o4 = e at *
  have s0 := A0.1
  have s1 := A1.1
  have s2 := A2.1
  have s3 := A3.1
  have s4 := A4.1
  rw [s0] at n1
  rw [s1, s0] at n2
  rw [s2, s1, s0] at n3
  rw [s3, s2, s1, s0] at n4
  refine ⟨by omega, (((((alloc_below A0 (Nat.le_refl _))).trans (alloc_below A1 (by omega))).trans (alloc_below A2 (by omega))).trans (alloc_below A3 (by omega))).trans (alloc_below A4 (by omega)), ?_, ?_, ?_, ?_, n4⟩
  · rw [A4.2.1 _ (by omega), A3.2.1 _ (by omega), A2.2.1 _ (by omega), A1.2.1 _ (by omega)]; exact n0
  · rw [A4.2.1 _ (by omega), A3.2.1 _ (by omega), A2.2.1 _ (by omega)]; exact n1
  · rw [A4.2.1 _ (by omega), A3.2.1 _ (by omega)]; exact n2
  · rw [A4.2.1 _ (by omega)]; exact n3
/-- Rows of sectors stay. -/
def KS (V W' : World) : Prop := ∀ (q : Nat) (cur : Array Value) (fr : Nat × Nat), V.heap[q]? = some (Obj.cells cur 34 fr) → W'.heap[q]? = V.heap[q]?
/-- What tail has counted so far. -/
def TI (w : World) (j : Nat) (k t : Int) (st en : Nat) (R : Obj) (gs : List Jo.Gr) (V : World) : Prop :=
  Below w.heap.size w V ∧ w.heap.size + 7 ≤ V.heap.size ∧ V.heap[w.heap.size + 1]? = some (.cells #[.int .u32 (gs.length : Nat)] 84 (0, 0)) ∧ V.heap[w.heap.size + 2]? = some (.cells #[.int .i64 ((st + sumN gs : Nat) : Int)] 3 (0, 0)) ∧
  V.heap[w.heap.size + 3]? = some (.cells #[pB j] 37 (0, 0)) ∧ V.heap[w.heap.size + 4]? = some (.cells #[.int .i64 k, .int .u32 t, .int .i64 st, .int .i64 en] 86 (0, 0)) ∧
  V.heap[w.heap.size + 5]? = some (.deferred (some [])) ∧ V.heap[w.heap.size + 6]? = some R
theorem TI.later {w V V' : World} {j : Nat} {k t : Int} {st en : Nat} {R : Obj} {gs : List Jo.Gr} (h : TI w j k t st en R gs V) (hb : Below V.heap.size V V') : TI w j k t st en R gs V' := by
  obtain ⟨h1, h2, h3, h4, h5, h6, h7, h8⟩ := h
  refine ⟨h1.trans (hb.mono (by omega)), Nat.le_trans h2 hb.size, ?_, ?_, ?_, ?_, ?_, ?_⟩
  all_goals (rw [hb.block _ (by omega)]; assumption)
theorem TI.next {w V : World} {j : Nat} {k t : Int} {st en : Nat} {r : Loop} {Rb : Obj} {gs : List Jo.Gr} {g : Jo.Gr} {u v : Int} (h : TI w j k t st en (.loop r) gs V) (hu : u = ((gs ++ [g]).length : Nat)) (hv : v = ((st + sumN (gs ++ [g]) : Nat) : Int)) :
    (((V.putObj (w.heap.size + 6) Rb).setCell ⟨w.heap.size + 1, 0, none⟩ (.int .u32 u)).setCell ⟨w.heap.size + 2, 0, none⟩ (.int .i64 v)).heap[w.heap.size + 6]? = some Rb ∧
    TI w j k t st en (.loop r) (gs ++ [g]) ((((V.putObj (w.heap.size + 6) Rb).setCell ⟨w.heap.size + 1, 0, none⟩ (.int .u32 u)).setCell ⟨w.heap.size + 2, 0, none⟩ (.int .i64 v)).putObj (w.heap.size + 6) (.loop r)) ∧
    V.heap.size ≤ ((((V.putObj (w.heap.size + 6) Rb).setCell ⟨w.heap.size + 1, 0, none⟩ (.int .u32 u)).setCell ⟨w.heap.size + 2, 0, none⟩ (.int .i64 v)).putObj (w.heap.size + 6) (.loop r)).heap.size ∧
    ∀ (q : Nat) (cur : Array Value) (fr : Nat × Nat), V.heap[q]? = some (Obj.cells cur 34 fr) → ((((V.putObj (w.heap.size + 6) Rb).setCell ⟨w.heap.size + 1, 0, none⟩ (.int .u32 u)).setCell ⟨w.heap.size + 2, 0, none⟩ (.int .i64 v)).putObj (w.heap.size + 6) (.loop r)).heap[q]? = V.heap[q]? := by
  obtain ⟨h1, h2, h3, h4, h5, h6, h7, h8⟩ := h
  subst hu
  subst hv
  have oth : ∀ q, q ≠ w.heap.size + 1 → q ≠ w.heap.size + 2 → q ≠ w.heap.size + 6 → ((((V.putObj (w.heap.size + 6) Rb).setCell ⟨w.heap.size + 1, 0, none⟩ (.int .u32 ((gs ++ [g]).length : Nat))).setCell ⟨w.heap.size + 2, 0, none⟩ (.int .i64 ((st + sumN (gs ++ [g]) : Nat) : Int))).putObj (w.heap.size + 6) (.loop r)).heap[q]? = V.heap[q]? := fun q a1 a2 a3 => by
    rw [World.putObj_heap_other a3, heap_setCell_other _ _ _ _ a2, heap_setCell_other _ _ _ _ a1, World.putObj_heap_other a3]
  refine ⟨?_, ⟨⟨h1.os, h1.tape, h1.output, by simp [World.setCell]; omega, fun q hq => by rw [oth q (by omega) (by omega) (by omega)]; exact h1.block q hq⟩, by simp [World.setCell]; omega, ?_, ?_, ?_, ?_, ?_, World.putObj_heap_same (by simp [World.setCell]; omega)⟩, by simp [World.setCell], ?_⟩
  · rw [heap_setCell_other _ _ _ _ (by simp), heap_setCell_other _ _ _ _ (by simp)]; exact World.putObj_heap_same (by omega)
  · rw [World.putObj_heap_other (by omega), heap_setCell_other _ _ _ _ (by simp)]; exact heap_setBox _ (by rw [World.putObj_heap_other (by omega)]; exact h3)
  · rw [World.putObj_heap_other (by omega)]; exact heap_setBox _ (by rw [heap_setCell_other _ _ _ _ (by simp), World.putObj_heap_other (by omega)]; exact h4)
  · rw [oth _ (by omega) (by omega) (by omega)]; exact h5
  · rw [oth _ (by omega) (by omega) (by omega)]; exact h6
  · rw [oth _ (by omega) (by omega) (by omega)]; exact h7
  · intro q cur fr hq
    refine oth q ?_ ?_ ?_
    · rintro rfl; rw [h3] at hq; have := Option.some.inj hq; injection this with a b c; exact absurd b (by decide)
    · rintro rfl; rw [h4] at hq; have := Option.some.inj hq; injection this with a b c; exact absurd b (by decide)
    · rintro rfl; rw [h8] at hq; cases hq
set_option maxRecDepth 20000 in
set_option maxHeartbeats 4000000 in
theorem tail_c {w : World} {j d b1 b2 N : Nat} {on : Int → Sec} {c : Int → Option Sec} (h : IsJ w j d b1 b2 N on c) (k t : Int) (st en : Nat) (hse : st ≤ en) (hen : en ≤ N) (ht : 0 ≤ t ∧ t < 4294967296) :
    Calls Try.prog 42 #[pB j, arV k t st en] w fun e w' => e = .returned (.tuple #[.int .u32 ((allG t (secs (vw on c) st (en - st))).length : Nat), .int .i64 ((st + sumN (allG t (secs (vw on c) st (en - st))) : Nat) : Int)]) ∧ Below w.heap.size w w' := by
  unfold arV
  have hN := h.2.1.two
  have H := hid h
  clear h
  refine (callsIn_wide (n := 3)).1 ?_
  refine callsIn_of_wp_marks Try.func42 rfl trivial ?_ rfl
  simp only [Try.ntmps42, List.size_toArray, List.length_cons, List.length_nil, Nat.reduceAdd, Nat.reduceSub, Array.replicate_succ, Array.replicate_zero, List.push_toArray, List.append_toArray, List.nil_append, List.cons_append]
  gi_wp2_with fail
  refine ⟨trivial, (callsIn_wide.2 (groups_c j k t st en _)).mono ?_⟩
  rintro _ _ ⟨rfl, rfl⟩
  gi_wp2_with fail
  obtain ⟨hsz, hA0, x0, x1, x2, x3, x4⟩ := alloc5 w (.cells #[.int .i64 k, .int .u32 t, .int .i64 st, .int .i64 en] 86) (.cells #[.int .u32 0] 84) (.cells #[.int .i64 st] 3) (.cells #[pB j] 37) (.cells #[.int .i64 k, .int .u32 t, .int .i64 st, .int .i64 en] 86)
  generalize (((((w.alloc (.cells #[.int .i64 k, .int .u32 t, .int .i64 st, .int .i64 en] 86)).alloc (.cells #[.int .u32 0] 84)).alloc (.cells #[.int .i64 st] 3)).alloc (.cells #[pB j] 37)).alloc (.cells #[.int .i64 k, .int .u32 t, .int .i64 st, .int .i64 en] 86)) = W0 at *
  refine Rg.range_go (gf := 53) (lb := #[.pointer (some ⟨w.heap.size + 3, 0, none⟩), .pointer (some ⟨w.heap.size + 4, 0, none⟩)]) (by first | rfl | simp) (enters_of Try.func53 (by kernel_rfl) rfl) (fun W' => ∃ R, TI w j k t st en R (allG t (secs (vw on c) st (en - st))) W') ?_ ?_
  · intro fn
    generalize hR : Rg.recOf fn _ _ _ _ _ = R
    have h6 : W0.heap.size + 1 = w.heap.size + 6 := by omega
    have hD1 : ((W0.alloc (.deferred (some []))).alloc (.loop (R .ready))).heap[w.heap.size + 5]? = some (.deferred (some [])) := by
      rw [Below.heap_alloc _ _ _ (by simp; omega), ← hsz]; exact heap_alloc_new W0 _
    have hL1 : ((W0.alloc (.deferred (some []))).alloc (.loop (R .ready))).heap[w.heap.size + 6]? = some (.loop (R .ready)) := by
      have := heap_alloc_new (W0.alloc (.deferred (some []))) (.loop (R .ready)); rw [World.size_alloc, h6] at this; exact this
    have hB1 : Below W0.heap.size W0 ((W0.alloc (.deferred (some []))).alloc (.loop (R .ready))) := ((Below.refl _ _).alloc (Nat.le_refl _) _).alloc (by simp) _
    have hz1 : w.heap.size + 7 ≤ ((W0.alloc (.deferred (some []))).alloc (.loop (R .ready))).heap.size := by simp; omega
    generalize ((W0.alloc (.deferred (some []))).alloc (.loop (R .ready))) = W1 at *
    have hBW : Below w.heap.size w W1 := hA0.trans (hB1.mono (by omega))
    have t3 : W1.heap[w.heap.size + 3]? = some (.cells #[pB j] 37 (0, 0)) := by rw [hB1.block _ (by omega)]; exact x3
    have t4 : W1.heap[w.heap.size + 4]? = some (.cells #[.int .i64 k, .int .u32 t, .int .i64 st, .int .i64 en] 86 (0, 0)) := by rw [hB1.block _ (by omega)]; exact x4
    rw [hsz, show w.heap.size + 5 + 1 = w.heap.size + 6 from rfl]
    refine (groups1_in (w.heap.size + 6) (w.heap.size + 3) (w.heap.size + 4) j d b1 b2 N on c k t st en hse hen ht W1 (TI w j k t st en (.loop (R .ready))) (H.out.later hBW) t3 t4 (fun gs V V' h hb => h.later hb) (fun gs V h => h.2.2.2.2.2.1) ?_ ?_).mono ?_
    · intro gs g v V hT hVz hP hgl
      rw [hsz] at hR
      subst hR
      have hn5 := need_le g
      have hs5 := sumN_le gs
      have hsn := sumN_snoc gs g
      have NX := fun (Rb : Obj) (u v : Int) hu hv => TI.next (g := g) (Rb := Rb) (u := u) (v := v) hT hu hv
      refine Rg.round_go (R := fun W' => TI w j k t st en _ (gs ++ [g]) W' ∧ W1.heap.size ≤ W'.heap.size ∧ KS V W') hT.2.2.2.2.2.2.2 (by rfl) ?_
      gi_wp2
      refine ⟨hT.2.2.2.2.2.2.2, ?_⟩
      generalize Obj.loop (Rg.recOf fn _ _ _ _ (w.heap.size + 5) LoopState.busy) = Rb at *
      have b1 : (V.putObj (w.heap.size + 6) Rb).heap[w.heap.size + 1]? = some (.cells #[.int .u32 (gs.length : Nat)] 84 (0, 0)) := by rw [World.putObj_heap_other (by omega)]; exact hT.2.2.1
      have b2 : (V.putObj (w.heap.size + 6) Rb).heap[w.heap.size + 2]? = some (.cells #[.int .i64 ((st + sumN gs : Nat) : Int)] 3 (0, 0)) := by rw [World.putObj_heap_other (by omega)]; exact hT.2.2.2.1
      have c1 := cell_box b1
      have c2 := cell_box b2
      have f1 := frozen_box b1
      have f2 := frozen_box b2
      have NX1 := hid (NX Rb ((gs.length : Int) + 1) (((st + sumN gs : Nat) : Int) + (Jo.needF g : Nat)) (by simp) (by rw [hsn]; push_cast; omega))
      have hVz2 := hid hVz
      clear NX b1 b2 hsn hP
      generalize Jo.needF g = ng at *
      generalize hq : st + sumN gs = q at *
      have hqb : q ≤ 20000000 := by omega
      clear hq
      generalize V.putObj (w.heap.size + 6) Rb = V1 at *
      gi_wp2
      exact ⟨NX1.out.1, NX1.out.2.1, by have a := hVz2.out; have b := NX1.out.2.2.1; simp [World.setCell] at b ⊢; omega, NX1.out.2.2.2⟩
    · exact ⟨hBW, hz1, by rw [hB1.block _ (by omega)]; exact x1, by rw [hB1.block _ (by omega)]; simpa [sumN] using x2, t3, t4, hD1, hL1⟩
    · rintro e V ⟨he, hG⟩
      exact ⟨he, hG.2.2.2.2.2.2.2, hG.2.2.2.2.2.2.1, _, hG⟩
  · rintro W' o ⟨R, hG⟩ hD hl
    rw [hsz] at hD hl ⊢
    have hG2 : ∀ q, q ≠ w.heap.size + 6 → (W'.putObj (w.heap.size + 5 + 1) o).heap[q]? = W'.heap[q]? := fun q hq => World.putObj_heap_other (by omega)
    have z1 : (W'.putObj (w.heap.size + 5 + 1) o).heap[w.heap.size + 1]? = some (.cells #[.int .u32 ((allG t (secs (vw on c) st (en - st))).length : Nat)] 84 (0, 0)) := by rw [hG2 _ (by omega)]; exact hG.2.2.1
    have z2 : (W'.putObj (w.heap.size + 5 + 1) o).heap[w.heap.size + 2]? = some (.cells #[.int .i64 ((st + sumN (allG t (secs (vw on c) st (en - st))) : Nat) : Int)] 3 (0, 0)) := by rw [hG2 _ (by omega)]; exact hG.2.2.2.1
    have z5 : (W'.putObj (w.heap.size + 5 + 1) o).heap[w.heap.size + 5]? = some (.deferred (some [])) := by rw [hG2 _ (by omega)]; exact hD
    have hBB : Below w.heap.size w (W'.putObj (w.heap.size + 5 + 1) o) := hG.1.trans ⟨rfl, rfl, rfl, by simp, fun q hq => hG2 q (by omega)⟩
    clear hG hG2 hD hl
    generalize W'.putObj (w.heap.size + 5 + 1) o = W2 at *
    obtain ⟨A, hA⟩ : ∃ A, A = (allG t (secs (vw on c) st (en - st))).length := ⟨_, rfl⟩
    obtain ⟨B, hBe⟩ : ∃ B, B = st + sumN (allG t (secs (vw on c) st (en - st))) := ⟨_, rfl⟩
    rw [← hA] at z1
    rw [← hBe] at z2
    have HA := hid hA
    have HBe := hid hBe
    have Z1 := hid z1
    have Z2 := hid z2
    clear hA hBe
    have c1 := cell_box z1
    have c2 := cell_box z2
    have f1 := frozen_box z1
    have f2 := frozen_box z2
    gi_wp2_with fail
    gi_region
    all_goals
      gi_wp2
    all_goals
      have y0 : ((W2.setCell ⟨w.heap.size + 1, 0, none⟩ (.int .u32 (A : Nat))).setCell ⟨w.heap.size + 1 + 1, 0, none⟩ (.int .i64 (B : Nat))).drew.heap[w.heap.size + 5]? = some (.deferred (some [])) := by
        show ((W2.setCell ⟨w.heap.size + 1, 0, none⟩ (.int .u32 (A : Nat))).setCell ⟨w.heap.size + 1 + 1, 0, none⟩ (.int .i64 (B : Nat))).heap[w.heap.size + 5]? = _
        rw [heap_setCell_other _ _ _ _ (by simp only; omega), heap_setCell_other _ _ _ _ (by simp only; omega)]; exact z5
      have y1 : (((W2.setCell ⟨w.heap.size + 1, 0, none⟩ (.int .u32 (A : Nat))).setCell ⟨w.heap.size + 1 + 1, 0, none⟩ (.int .i64 (B : Nat))).drew.putObj (w.heap.size + 5) (.deferred none)).cell? ⟨w.heap.size + 1, 0, none⟩ = some (.int .u32 (A : Nat)) := by
        refine cell_box (T := 84) ?_
        rw [World.putObj_heap_other (by omega)]
        show ((W2.setCell ⟨w.heap.size + 1, 0, none⟩ (.int .u32 (A : Nat))).setCell ⟨w.heap.size + 1 + 1, 0, none⟩ (.int .i64 (B : Nat))).heap[w.heap.size + 1]? = _
        rw [heap_setCell_other _ _ _ _ (by simp only; omega)]; exact heap_setBox _ Z1.out
      have y2 : (((W2.setCell ⟨w.heap.size + 1, 0, none⟩ (.int .u32 (A : Nat))).setCell ⟨w.heap.size + 1 + 1, 0, none⟩ (.int .i64 (B : Nat))).drew.putObj (w.heap.size + 5) (.deferred none)).cell? ⟨w.heap.size + 1 + 1, 0, none⟩ = some (.int .i64 (B : Nat)) := by
        refine cell_box (T := 3) ?_
        rw [World.putObj_heap_other (by omega)]
        show ((W2.setCell ⟨w.heap.size + 1, 0, none⟩ (.int .u32 (A : Nat))).setCell ⟨w.heap.size + 1 + 1, 0, none⟩ (.int .i64 (B : Nat))).heap[w.heap.size + 1 + 1]? = _
        exact heap_setBox _ (by rw [heap_setCell_other _ _ _ _ (by simp only; omega)]; exact Z2.out)
      have y3 : Below w.heap.size w (((W2.setCell ⟨w.heap.size + 1, 0, none⟩ (.int .u32 (A : Nat))).setCell ⟨w.heap.size + 1 + 1, 0, none⟩ (.int .i64 (B : Nat))).drew.putObj (w.heap.size + 5) (.deferred none)) :=
        (Below.drew ((hBB.setCell (p := ⟨w.heap.size + 1, 0, none⟩) (by simp only; omega) _).setCell (p := ⟨w.heap.size + 1 + 1, 0, none⟩) (by simp only; omega) _)).trans ⟨rfl, rfl, rfl, by simp, fun q hq => World.putObj_heap_other (by omega)⟩
      refine ⟨by simp, .inl ⟨_, _, rfl, run_takeDeferred y0, ?_⟩⟩
      refine ⟨.tuple #[.int .u32 (A : Nat), .int .i64 (B : Nat)], ?_, by rw [HA.out, HBe.out], y3⟩
      simp [results, Try.results42, go_sem, y1, y2]
end Go.Proofs.Ytfmkgflhgapeoab
