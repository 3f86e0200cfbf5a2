/-
  The document's Same, Cut, Drop of logs.
-/
import Derived.Test.YtegkmkbbmdplkaaCOpsL
namespace Go.Proofs.Ytegkmkbbmdplkaa
open Go.RowKit Go.ChangeShapes Go.WideShapes Go.ChangeAt Go.Maps Go.Shelf
set_option linter.unusedVariables false
set_option linter.unusedSimpArgs false
set_option maxRecDepth 20000 in
set_option maxHeartbeats 4000000 in
theorem rsame_c (a b : Option Addr) (ca cb : Nat) (l k : List Rec) (w : World) (hl : IsL w a l) (hk : IsL w b k) (hm : l.length ≤ 100000) (hm' : k.length ≤ 100000) :
    Calls Try.prog 15 #[.slice a l.length ca, .slice b k.length cb] w fun e w' => e = .returned (.bool (eqL l k)) ∧ Below w.heap.size w w' := by
  by_cases hn : l.length = k.length
  · have hnI : ((l.length : Int) == (k.length : Int)) = true := by simp; omega
    have hnI2 : ((l.length : Int) != (k.length : Int)) = false := by simp; omega
    have HL := hid hl
    have HK := hid hk
    have HN := hid hn
    have hg := rec_guard
    rw [← hn]
    obtain ⟨R, hR⟩ : ∃ R, R = eqL l k := ⟨_, rfl⟩
    rw [← hR]
    have HR := hid hR
    obtain ⟨n, hnn⟩ : ∃ n, n = l.length := ⟨_, rfl⟩
    rw [← hnn] at hm HN ⊢
    have HNN := hid hnn
    clear hl hk hn hm' hnI hnI2 hR hnn
    go_enter Try.func15, Try.ntmps15
    go_wp2
    go_loopg [5] n (fun g v wr => ∃ m : Nat, m + g = n ∧ v = .int .i64 m ∧ Hid (∀ i, i < m → l.getD i Rec.no = k.getD i Rec.no) ∧ Hid (Below w.heap.size w wr))
    case atStart => exact ⟨0, by omega, rfl, hid (fun i hi => by omega), hid (Below.refl _ _)⟩
    case round =>
      obtain ⟨m, hm2, rfl, HE, HB⟩ := hrel
      by_cases hlt : m < n
      · have hltI : (m : Int) < n := by omega
        have hl1 := HL.out.later HB.out
        have hk1 := HK.out.later HB.out
        obtain ⟨b1, o1, rfl, _⟩ := hl1.2.2 (by rw [← HNN.out]; omega)
        obtain ⟨b2, o2, rfl, _⟩ := hk1.2.2 (by rw [← HN.out]; omega)
        have hx := hl1.at (i := m) (by rw [← HNN.out]; omega)
        have hy := hk1.at (i := m) (by rw [← HN.out]; omega)
        have HQ := hid (fun W => rec_equal W (hl1.wf (i := m) (by rw [← HNN.out]; omega)) (hk1.wf (i := m) (by rw [← HN.out]; omega)))
        clear hl1 hk1
        generalize ex : l.getD m Rec.no = x at *
        generalize ey : k.getD m Rec.no = y at *
        have x0 : wr.cell? ⟨b1, o1 + m * 9, none⟩ = some (.int .u8 x.k) := hx 0 _ rfl
        have x1 : wr.cell? ⟨b1, o1 + m * 9 + 1, none⟩ = some (.int .u32 x.fid) := hx 1 _ rfl
        have x2 : wr.cell? ⟨b1, o1 + m * 9 + 2, none⟩ = some (.int .u32 x.dir) := hx 2 _ rfl
        have x3 : wr.cell? ⟨b1, o1 + m * 9 + 3, none⟩ = some (.string x.nm) := hx 3 _ rfl
        have x4 : wr.cell? ⟨b1, o1 + m * 9 + 4, none⟩ = some (.int .u32 x.to) := hx 4 _ rfl
        have x5 : wr.cell? ⟨b1, o1 + m * 9 + 5, none⟩ = some (.string x.nm2) := hx 5 _ rfl
        have x6 : wr.cell? ⟨b1, o1 + m * 9 + 6, none⟩ = some (.int .u16 x.md) := hx 6 _ rfl
        have x7 : wr.cell? ⟨b1, o1 + m * 9 + 7, none⟩ = some (.string x.dt) := hx 7 _ rfl
        have x8 : wr.cell? ⟨b1, o1 + m * 9 + 8, none⟩ = some (.int .u64 x.sn) := hx 8 _ rfl
        have y0 : wr.cell? ⟨b2, o2 + m * 9, none⟩ = some (.int .u8 y.k) := hy 0 _ rfl
        have y1 : wr.cell? ⟨b2, o2 + m * 9 + 1, none⟩ = some (.int .u32 y.fid) := hy 1 _ rfl
        have y2 : wr.cell? ⟨b2, o2 + m * 9 + 2, none⟩ = some (.int .u32 y.dir) := hy 2 _ rfl
        have y3 : wr.cell? ⟨b2, o2 + m * 9 + 3, none⟩ = some (.string y.nm) := hy 3 _ rfl
        have y4 : wr.cell? ⟨b2, o2 + m * 9 + 4, none⟩ = some (.int .u32 y.to) := hy 4 _ rfl
        have y5 : wr.cell? ⟨b2, o2 + m * 9 + 5, none⟩ = some (.string y.nm2) := hy 5 _ rfl
        have y6 : wr.cell? ⟨b2, o2 + m * 9 + 6, none⟩ = some (.int .u16 y.md) := hy 6 _ rfl
        have y7 : wr.cell? ⟨b2, o2 + m * 9 + 7, none⟩ = some (.string y.dt) := hy 7 _ rfl
        have y8 : wr.cell? ⟨b2, o2 + m * 9 + 8, none⟩ = some (.int .u64 y.sn) := hy 8 _ rfl
        clear hx hy
        by_cases q : x = y
        · have hq := HQ.out
          simp only [eqR_t q] at hq
          subst q
          have HE2 : Hid (∀ i, i < m + 1 → l.getD i Rec.no = k.getD i Rec.no) := hid (fun i hi => by
            by_cases e : i = m
            · rw [e, ex, ey]
            · exact HE.out i (by omega))
          unfold Rec.val at hq
          clear HQ ex ey HE
          go_wp2
          go_region
          go_wp2
          go_roundg (gk - 1)
          case measure => omega
          case rel => exact ⟨m + 1, by omega, by go_num, HE2, hid (Below.drew HB.out)⟩
        · have hq := HQ.out
          simp only [eqR_f q] at hq
          have HE2 : Hid (R = false) := hid (by
            rw [HR.out]
            refine eqL_f ?_
            intro e
            rw [e, ey] at ex
            exact q ex.symm)
          unfold Rec.val at hq
          clear HQ ex ey HE q
          go_wp2
          go_region
          go_wp2
          go_ret
          exact ⟨by rw [HE2.out]; rfl, Below.drew HB.out⟩
      · have em : m = n := by omega
        subst em
        have hge : ¬ (m : Int) < m := by omega
        have HE2 : Hid (R = true) := hid (by
          rw [HR.out]
          refine eqL_t ?_
          exact list_same (by rw [← HN.out, ← HNN.out]) (fun i hi => HE.out i (by rw [← HNN.out] at hi; exact hi)))
        clear HE
        go_wp2
        go_ret
        exact ⟨by rw [HE2.out]; rfl, HB.out⟩
  · have hne : (l.length : Int) ≠ k.length := by omega
    have e : eqL l k = false := eqL_f (fun e => hn (by rw [e]))
    rw [e]
    clear hl hk e hn
    go_enter Try.func15, Try.ntmps15
    go_wp2
    go_ret
    exact ⟨rfl, Below.refl _ _⟩
set_option maxRecDepth 20000 in
set_option maxHeartbeats 2000000 in
theorem rdrop_c (a : Option Addr) (cap : Nat) (l : List Rec) (z : Int) (w : World) (h : IsL w a l) (hm : l.length ≤ 100000) :
    Calls Try.prog 17 #[.slice a l.length cap, .int .i64 z] w fun e w' => ∃ v, e = .returned v ∧ w'.ownsRow w.heap.size 37 9 v (dropF z l).length (rcells (dropF z l)) ∧ Below w.heap.size w w' := by
  have H := hid h
  obtain ⟨i0, hi, hz0, hz1, hz2⟩ := info_rec
  clear h
  obtain ⟨p, hp⟩ : ∃ p : Nat → Bool, p = (fun i : Nat => decide ((i : Int) < z)) := ⟨_, rfl⟩
  have hd : dropF z l = keepF p l l.length := by rw [hp]; rfl
  rw [hd]
  have HPP := hid hp
  clear hp hd
  obtain ⟨n, hn⟩ : ∃ n, n = l.length := ⟨_, rfl⟩
  rw [← hn] at hm ⊢
  have HN := hid hn
  clear hn
  go_enter Try.func17, Try.ntmps17
  go_wp2
  go_loopg [5, 6] n (fun g v i wr => ∃ m : Nat, m + g = n ∧ i = .int .i64 m ∧ Hid (wr.ownsRow w.heap.size 37 9 v (keepF p l m).length (rcells (keepF p l m))) ∧ Hid (Below w.heap.size w wr))
  case atStart => exact ⟨0, by omega, rfl, World.ownsRow_nil _ _ 37 9, Below.refl _ _⟩
  case round =>
    obtain ⟨m, hm2, rfl, HO, HB⟩ := hrel
    obtain ⟨va, vc, rfl⟩ := own_shapeR HO.out
    by_cases hlt : m < n
    · have hltI : (m : Int) < n := by omega
      have hk1 : keepF p l (m + 1) = if p m then keepF p l m else keepF p l m ++ [l.getD m Rec.no] := rfl
      have hkl := keep_len p l m
      by_cases q : (m : Int) < z
      · have e : p m = true := by rw [HPP.out]; simpa using q
        rw [e, if_pos rfl] at hk1
        have HO2 : Hid (wr.ownsRow w.heap.size 37 9 (.slice va (keepF p l m).length vc) (keepF p l (m + 1)).length (rcells (keepF p l (m + 1)))) := hid (by rw [hk1]; exact HO.out)
        clear hk1 e HO
        go_wp2
        go_roundg (gk - 1)
        case measure => omega
        case rel => exact ⟨m + 1, by omega, by go_num, HO2, HB⟩
      · have e : p m = false := by rw [HPP.out]; simpa using q
        rw [e, if_neg (by simp)] at hk1
        have HK := hid hk1
        have q2 : z ≤ (m : Int) := by omega
        obtain ⟨b, off, rfl, hc⟩ := H.out.2.2 (by rw [← HN.out]; omega)
        have hr := (hc m (by rw [← HN.out]; exact hlt)).later HB.out
        clear hk1 e hc
        generalize l.getD m Rec.no = x at *
        have k0 : wr.cell? ⟨b, off + m * 9, none⟩ = some (.int .u8 x.k) := hr 0 _ rfl
        have k1 : wr.cell? ⟨b, off + m * 9 + 1, none⟩ = some (.int .u32 x.fid) := hr 1 _ rfl
        have k2 : wr.cell? ⟨b, off + m * 9 + 2, none⟩ = some (.int .u32 x.dir) := hr 2 _ rfl
        have k3 : wr.cell? ⟨b, off + m * 9 + 3, none⟩ = some (.string x.nm) := hr 3 _ rfl
        have k4 : wr.cell? ⟨b, off + m * 9 + 4, none⟩ = some (.int .u32 x.to) := hr 4 _ rfl
        have k5 : wr.cell? ⟨b, off + m * 9 + 5, none⟩ = some (.string x.nm2) := hr 5 _ rfl
        have k6 : wr.cell? ⟨b, off + m * 9 + 6, none⟩ = some (.int .u16 x.md) := hr 6 _ rfl
        have k7 : wr.cell? ⟨b, off + m * 9 + 7, none⟩ = some (.string x.dt) := hr 7 _ rfl
        have k8 : wr.cell? ⟨b, off + m * 9 + 8, none⟩ = some (.int .u64 x.sn) := hr 8 _ rfl
        clear hr
        have b1 : Below wr.heap.size wr (wr.alloc (.cells x.cells.toArray 37)) := (Below.refl _ _).alloc (Nat.le_refl _) _
        have O1 := hid (own_latR HO.out b1)
        have B1 := hid (HB.out.trans (b1.mono HB.out.size))
        have N1 := hid (heap_alloc_new wr (.cells x.cells.toArray 37))
        clear b1
        go_wp2_with (at_builtin; refine wpList_append_own _ rfl _ _ 22 rfl w.heap.size 37 i0 Rec.no.val 9 88 Try.underlying22 hi hz0 hz1 hz2 (by rfl) (by decide) _ _ _ rfl O1.out ⟨wr.heap.size, 0, none⟩ 1 1 x.cells rfl rfl (rec_news N1.out) (rec_one x) (by unfold maxLen; omega) (by omega) B1.out.size ?_; intro v9 w9 hown9 hgrow9 hnil9)
        have HB9 := hid (below_grownR B1.out O1.out (Nat.le_refl _) B1.out.size hgrow9)
        have HO9 : Hid (w9.ownsRow w.heap.size 37 9 v9 (keepF p l (m + 1)).length (rcells (keepF p l (m + 1)))) := by
          show World.ownsRow _ _ _ _ _ _ _
          rw [HK.out]
          simp only [List.length_append, List.length_cons, List.length_nil, rcells_snoc]
          exact hown9
        obtain ⟨a9, c9, rfl⟩ := own_shapeR hown9
        clear hown9 hgrow9 hnil9
        go_roundg (gk - 1)
        case measure => omega
        case rel => exact ⟨m + 1, by omega, by go_num, HO9, HB9⟩
    · have em : m = n := by omega
      subst em
      have hge : ¬ (m : Int) < m := by omega
      go_wp2
      go_ret
      exact ⟨_, rfl, HO.out, HB.out⟩
theorem keep_stop (p : Nat → Bool) (l : List Rec) : ∀ f m, (∀ j, m ≤ j → p j = true) → keepF p l (m + f) = keepF p l m
  | 0, m, _ => rfl
  | f + 1, m, h => by
    show (if p (m + f) then keepF p l (m + f) else _) = _
    rw [h (m + f) (by omega), if_pos rfl]
    exact keep_stop p l f m h
set_option maxRecDepth 20000 in
set_option maxHeartbeats 2000000 in
theorem rcut_c (a : Option Addr) (cap : Nat) (l : List Rec) (z : Int) (w : World) (h : IsL w a l) (hm : l.length ≤ 100000) :
    Calls Try.prog 16 #[.slice a l.length cap, .int .i64 z] w fun e w' => ∃ v, e = .returned v ∧ w'.ownsRow w.heap.size 37 9 v (cutF z l).length (rcells (cutF z l)) ∧ Below w.heap.size w w' := by
  have H := hid h
  obtain ⟨i0, hi, hz0, hz1, hz2⟩ := info_rec
  clear h
  obtain ⟨p, hp⟩ : ∃ p : Nat → Bool, p = (fun i : Nat => decide (z ≤ (i : Int))) := ⟨_, rfl⟩
  have hd : cutF z l = keepF p l l.length := by rw [hp]; rfl
  rw [hd]
  have HPP := hid hp
  clear hp hd
  obtain ⟨n, hn⟩ : ∃ n, n = l.length := ⟨_, rfl⟩
  rw [← hn] at hm ⊢
  have HN := hid hn
  clear hn
  go_enter Try.func16, Try.ntmps16
  go_wp2
  go_loopg [5, 6] n (fun g v i wr => ∃ m : Nat, m + g = n ∧ i = .int .i64 m ∧ Hid (wr.ownsRow w.heap.size 37 9 v (keepF p l m).length (rcells (keepF p l m))) ∧ Hid (Below w.heap.size w wr))
  case atStart => exact ⟨0, by omega, rfl, World.ownsRow_nil _ _ 37 9, Below.refl _ _⟩
  case round =>
    obtain ⟨m, hm2, rfl, HO, HB⟩ := hrel
    obtain ⟨va, vc, rfl⟩ := own_shapeR HO.out
    by_cases hlt : m < n
    · have hltI : (m : Int) < n := by omega
      have hk1 : keepF p l (m + 1) = if p m then keepF p l m else keepF p l m ++ [l.getD m Rec.no] := rfl
      have hkl := keep_len p l m
      by_cases q : z ≤ (m : Int)
      · have q3 : ¬ (m : Int) < z := by omega
        have hall := keep_stop p l (n - m) m (fun j hj => by rw [HPP.out]; simp; omega)
        rw [show m + (n - m) = n by omega] at hall
        have HO2 : Hid (wr.ownsRow w.heap.size 37 9 (.slice va (keepF p l m).length vc) (keepF p l n).length (rcells (keepF p l n))) := hid (by rw [hall]; exact HO.out)
        clear hk1 hall HO
        go_wp2
        go_ret
        exact ⟨_, rfl, HO2.out, HB.out⟩
      · have e : p m = false := by rw [HPP.out]; simp; omega
        rw [e, if_neg (by simp)] at hk1
        have HK := hid hk1
        have q2 : (m : Int) < z := by omega
        obtain ⟨b, off, rfl, hc⟩ := H.out.2.2 (by rw [← HN.out]; omega)
        have hr := (hc m (by rw [← HN.out]; exact hlt)).later HB.out
        clear hk1 e hc
        generalize l.getD m Rec.no = x at *
        have k0 : wr.cell? ⟨b, off + m * 9, none⟩ = some (.int .u8 x.k) := hr 0 _ rfl
        have k1 : wr.cell? ⟨b, off + m * 9 + 1, none⟩ = some (.int .u32 x.fid) := hr 1 _ rfl
        have k2 : wr.cell? ⟨b, off + m * 9 + 2, none⟩ = some (.int .u32 x.dir) := hr 2 _ rfl
        have k3 : wr.cell? ⟨b, off + m * 9 + 3, none⟩ = some (.string x.nm) := hr 3 _ rfl
        have k4 : wr.cell? ⟨b, off + m * 9 + 4, none⟩ = some (.int .u32 x.to) := hr 4 _ rfl
        have k5 : wr.cell? ⟨b, off + m * 9 + 5, none⟩ = some (.string x.nm2) := hr 5 _ rfl
        have k6 : wr.cell? ⟨b, off + m * 9 + 6, none⟩ = some (.int .u16 x.md) := hr 6 _ rfl
        have k7 : wr.cell? ⟨b, off + m * 9 + 7, none⟩ = some (.string x.dt) := hr 7 _ rfl
        have k8 : wr.cell? ⟨b, off + m * 9 + 8, none⟩ = some (.int .u64 x.sn) := hr 8 _ rfl
        clear hr
        have b1 : Below wr.heap.size wr (wr.alloc (.cells x.cells.toArray 37)) := (Below.refl _ _).alloc (Nat.le_refl _) _
        have O1 := hid (own_latR HO.out b1)
        have B1 := hid (HB.out.trans (b1.mono HB.out.size))
        have N1 := hid (heap_alloc_new wr (.cells x.cells.toArray 37))
        clear b1
        go_wp2_with (at_builtin; refine wpList_append_own _ rfl _ _ 22 rfl w.heap.size 37 i0 Rec.no.val 9 88 Try.underlying22 hi hz0 hz1 hz2 (by rfl) (by decide) _ _ _ rfl O1.out ⟨wr.heap.size, 0, none⟩ 1 1 x.cells rfl rfl (rec_news N1.out) (rec_one x) (by unfold maxLen; omega) (by omega) B1.out.size ?_; intro v9 w9 hown9 hgrow9 hnil9)
        have HB9 := hid (below_grownR B1.out O1.out (Nat.le_refl _) B1.out.size hgrow9)
        have HO9 : Hid (w9.ownsRow w.heap.size 37 9 v9 (keepF p l (m + 1)).length (rcells (keepF p l (m + 1)))) := by
          show World.ownsRow _ _ _ _ _ _ _
          rw [HK.out]
          simp only [List.length_append, List.length_cons, List.length_nil, rcells_snoc]
          exact hown9
        obtain ⟨a9, c9, rfl⟩ := own_shapeR hown9
        clear hown9 hgrow9 hnil9
        go_roundg (gk - 1)
        case measure => omega
        case rel => exact ⟨m + 1, by omega, by go_num, HO9, HB9⟩
    · have em : m = n := by omega
      subst em
      have hge : ¬ (m : Int) < m := by omega
      go_wp2
      go_ret
      exact ⟨_, rfl, HO.out, HB.out⟩
end Go.Proofs.Ytegkmkbbmdplkaa
