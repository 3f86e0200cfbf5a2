/-
  The document's Touches: the objects that a record names.
-/
import Derived.Test.YtegkmkbbmdplkaaCRef
namespace Go.Proofs.Ytegkmkbbmdplkaa
open Go.RowKit Go.ChangeShapes Go.WideShapes Go.ChangeAt Go.Maps Go.Shelf
set_option linter.unusedVariables false
set_option linter.unusedSimpArgs false
def u32N (x : Int) : Value := .int .u32 x
def nameL (x : Rec) : List Int := (if x.fid != 0 then [x.fid] else []) ++ ((if x.dir != 0 then [x.dir] else []) ++ (if x.to != 0 then [x.to] else []))
theorem info_fid : ∃ i : TypeInfo, Try.prog.info? 28 = some i ∧ i.zero = some (.int .u32 0) ∧ i.size = 1 ∧ i.bytes = 4 := by
  have h : (Try.prog.info? 28).map (fun i => (i.zero, i.size, i.bytes)) = some (some (.int .u32 0), 1, 4) := by kernel_rfl
  cases hi : Try.prog.info? 28 with
  | none => rw [hi] at h; cases h
  | some i => rw [hi] at h; simp at h; exact ⟨i, rfl, h.1, h.2.1, h.2.2⟩
theorem own_snoc32 {w : World} {B T : Nat} {v : Value} {zs : List Int} {f : Int} (h : w.ownsRow B T 1 v (zs.length + 1) (zs.map u32N ++ [.int .u32 f])) : w.ownsRow B T 1 v (zs ++ [f]).length ((zs ++ [f]).map u32N) := by
  rw [List.length_append, List.map_append]; exact h
theorem below_one (w : World) (o : Obj) : Below w.heap.size w (w.alloc o) := (Below.refl _ _).alloc (Nat.le_refl _) _
theorem fid_news (w : World) (f : Int) (t : TypeId) (g : Nat) (hg : g = w.heap.size) : ∀ j u, ([.int .u32 f] : List Value)[j]? = some u → (w.alloc (.cells #[.int .u32 f] t)).cell? ((⟨g, 0, none⟩ : Addr).add j) = some u := fun j u hu => by
  subst hg
  have e : (⟨w.heap.size, 0, none⟩ : Addr).add j = ⟨w.heap.size, 0 + j, none⟩ := by unfold Addr.add; split <;> simp_all
  rw [e, cell_of_row _ _ _ _ _ _ (heap_alloc_new w (.cells #[.int .u32 f] t))]
  simpa using hu
theorem fid_one (f : Int) : ∀ u ∈ ([.int .u32 f] : List Value), u.oneCell' = true := fun u hu => by
  rw [List.mem_singleton.1 hu]; rfl
theorem op_box {w : World} {g : Nat} {x : Rec} {t : TypeId} {fr : Nat × Nat} (h : w.heap[g]? = some (.cells x.ops.toArray t fr)) : w.cell? ⟨g, 1, none⟩ = some (.int .u32 x.fid) ∧ w.cell? ⟨g, 2, none⟩ = some (.int .u32 x.dir) ∧ w.cell? ⟨g, 4, none⟩ = some (.int .u32 x.to) := by
  refine ⟨?_, ?_, ?_⟩ <;> (rw [cell_of_row w g _ _ t fr h]; rfl)
set_option maxRecDepth 20000 in
set_option maxHeartbeats 2000000 in
theorem rnames_c (x : Rec) (w : World) :
    Calls Try.prog 29 #[x.opV] w fun e w' => ∃ v, e = .returned v ∧ w'.ownsRow w.heap.size 28 1 v (nameL x).length ((nameL x).map u32N) ∧ Below w.heap.size w w' := by
  obtain ⟨i0, hi, hz0, hz1, hz2⟩ := info_fid
  have hx : (w.alloc (.cells x.ops.toArray 34)).heap[w.heap.size]? = some (.cells x.ops.toArray 34 (0, 0)) := heap_alloc_new w _
  have HX := hid hx
  have hb0 := below_one w (.cells x.ops.toArray 34)
  have HB0 := hid hb0
  obtain ⟨y1, y2, y4⟩ := op_box hx
  obtain ⟨B, hB⟩ : ∃ B, B = (w.alloc (.cells x.ops.toArray 34)).heap.size := ⟨_, rfl⟩
  have HB : Hid (Below B (w.alloc (.cells x.ops.toArray 34)) (w.alloc (.cells x.ops.toArray 34))) := hid (Below.refl _ _)
  have HS : Hid (B ≤ (w.alloc (.cells x.ops.toArray 34)).heap.size) := hid (by omega)
  have HO : Hid ((w.alloc (.cells x.ops.toArray 34)).ownsRow B 28 1 (.slice none 0 0) ([] : List Int).length (([] : List Int).map u32N)) := hid (World.ownsRow_nil _ _ _ _)
  have HBB := hid hB
  have HLT : Hid (w.heap.size < B) := hid (by rw [hB]; simp)
  clear hx hb0 hB
  unfold Rec.opV nameL
  cases e1 : (x.fid != 0) <;> cases e2 : (x.dir != 0) <;> cases e3 : (x.to != 0)
  all_goals
    have f1 : (x.fid == 0) = !(x.fid != 0) := by simp [bne]
    have f2 : (x.dir == 0) = !(x.dir != 0) := by simp [bne]
    have f3 : (x.to == 0) = !(x.to != 0) := by simp [bne]
    rw [e1] at f1
    rw [e2] at f2
    rw [e3] at f3
    simp only [Bool.not_true, Bool.not_false] at f1 f2 f3
    go_enter Try.func29, Try.ntmps29
    go_wp2_with (first
      | (at_builtin; refine wpList_append_own _ rfl _ _ 47 rfl B 28 i0 (.int .u32 0) 1 4 Try.underlying47 hi hz0 hz1 hz2 (by rfl) (by decide) _ _ _ rfl (own_latR HO.out (below_one _ _)) ⟨_, 0, none⟩ 1 1 [.int .u32 _] rfl rfl (fid_news _ _ _ _ (by simp)) (fid_one _) (by unfold maxLen; simp) (by simp) (Nat.le_trans HS.out (below_one _ _).size) ?_; intro v9 w9 hown9 hgrow9 hnil9
         have HB9 := hid (below_grownR (HB.out.trans ((below_one _ _).mono HS.out)) (own_latR HO.out (below_one _ _)) (Nat.le_refl _) (Nat.le_trans HS.out (below_one _ _).size) hgrow9)
         have HO9 := hid (own_snoc32 hown9)
         have HS9 : Hid (B ≤ w9.heap.size) := hid (Nat.le_trans (Nat.le_of_eq HBB.out) HB9.out.size)
         obtain ⟨z1, z2, z4⟩ := op_box ((HB9.out.block _ HLT.out).trans HX.out)
         obtain ⟨a9, c9, rfl⟩ := own_shapeR hown9
         clear hown9 hgrow9 hnil9 HO HB HS
         have HO := HO9
         have HB := HB9
         have HS := HS9
         clear HO9 HB9 HS9))
    go_ret
    exact ⟨_, rfl, own_baseR HO.out (Nat.le_of_lt HLT.out), HB0.out.trans (HB.out.mono (Nat.le_of_lt HLT.out))⟩
theorem own_at32 {w : World} {B T n c : Nat} {a : Option Addr} {zs : List Int} (h : w.ownsRow B T 1 (.slice a n c) zs.length (zs.map u32N)) {k : Nat} (hk : k < zs.length) : ∃ g, a = some ⟨g, 0, none⟩ ∧ w.cell? ⟨g, k, none⟩ = some (.int .u32 (zs.getD k 0)) := by
  rcases h.2 with ⟨h1, hn⟩ | ⟨g, cap, cur, h1, hb, hg, hn, hc, hs, ht⟩
  · omega
  · cases h1
    refine ⟨g, rfl, ?_⟩
    rw [cell_of_row w g k cur _ _ hg]
    have : (zs.map u32N)[k]? = some (.int .u32 (zs.getD k 0)) := by simp [List.getD, hk, u32N]
    rw [← ht, List.getElem?_take, if_pos (by omega)] at this
    simpa using this
theorem touch_name (x : Rec) (f : Int) : (nameL x).any (fun y => y == f) = touchF x f := by
  unfold nameL touchF
  by_cases q : f = 0
  · subst q
    cases e1 : (x.fid != 0) <;> cases e2 : (x.dir != 0) <;> cases e3 : (x.to != 0) <;> simp_all
  · cases e1 : (x.fid != 0) <;> cases e2 : (x.dir != 0) <;> cases e3 : (x.to != 0) <;> simp_all [bne] <;> grind
set_option maxRecDepth 20000 in
set_option maxHeartbeats 2000000 in
theorem rtouches_c (x : Rec) (f : Int) (w : World) :
    Calls Try.prog 19 #[x.val, .int .u32 f] w fun e w' => e = .returned (.bool (touchF x f)) ∧ Below w.heap.size w w' := by
  rw [← touch_name]
  have hx : (w.alloc (.cells x.cells.toArray 37)).heap[w.heap.size]? = some (.cells x.cells.toArray 37 (0, 0)) := heap_alloc_new w _
  obtain ⟨y0, y1, y2, y3, y4, y5, y6, y7, y8⟩ := rec_box hx
  have HB0 := hid (below_one w (.cells x.cells.toArray 37))
  have NC := hid (rnames_c x (w.alloc (.cells x.cells.toArray 37)))
  have hn : (nameL x).length ≤ 3 := by
    unfold nameL
    cases e1 : (x.fid != 0) <;> cases e2 : (x.dir != 0) <;> cases e3 : (x.to != 0) <;> simp
  generalize nameL x = zs at *
  obtain ⟨R, hR⟩ : ∃ R, R = zs.any (fun y => y == f) := ⟨_, rfl⟩
  rw [← hR]
  have HR := hid hR
  clear hR
  unfold Rec.val
  clear hx
  go_enter Try.func19, Try.ntmps19
  go_wp2_with (go_at_call 29; refine NC.out.mono ?_; rintro _ w1 ⟨v1, rfl, hO1, hb1⟩; obtain ⟨a1, c1, rfl⟩ := own_shapeR hO1; have O1 := hid hO1; have B1 := hid (HB0.out.trans (hb1.mono HB0.out.size)); clear hO1 hb1)
  clear NC y0 y1 y2 y3 y4 y5 y6 y7 y8
  obtain ⟨n, hnn⟩ : ∃ n, n = zs.length := ⟨_, rfl⟩
  rw [← hnn] at hn ⊢
  have HNN := hid hnn
  clear hnn
  go_loopg [6] n (fun g v wr => ∃ m : Nat, m + g = n ∧ v = .int .i64 m ∧ Hid (wr = w1) ∧ Hid (R = (zs.drop m).any (fun y => y == f)))
  case atStart => exact ⟨0, by omega, rfl, hid rfl, hid (by rw [HR.out]; rfl)⟩
  case round =>
    obtain ⟨m, hm, rfl, HW, HD⟩ := hrel
    by_cases hlt : m < n
    · have hltI : (m : Int) < n := by omega
      obtain ⟨g, rfl, hc⟩ := own_at32 O1.out (k := m) (by rw [← HNN.out]; exact hlt)
      have HE : Hid (R = ((zs.getD m 0 == f) || (zs.drop (m + 1)).any (fun y => y == f))) := hid (by
        rw [HD.out, List.drop_eq_getElem_cons (by rw [← HNN.out]; exact hlt), List.any_cons]
        simp [List.getD, show m < zs.length by rw [← HNN.out]; exact hlt])
      have hwr := HW.out
      subst hwr
      generalize zs.getD m 0 = z at *
      cases hz : (z == f) with
      | true =>
        rw [hz] at HE
        go_wp2
        go_ret
        exact ⟨by rw [HE.out]; rfl, B1.out⟩
      | false =>
        rw [hz] at HE
        go_wp2
        go_roundg (gk - 1)
        case measure => omega
        case rel => exact ⟨m + 1, by omega, by go_num, hid rfl, hid (by rw [HE.out]; rfl)⟩
    · have em : m = n := by omega
      subst em
      have hge : ¬ (m : Int) < m := by omega
      have HE : Hid (R = false) := hid (by rw [HD.out, List.drop_eq_nil_of_le (by rw [← HNN.out]; omega)]; rfl)
      have hwr := HW.out
      subst hwr
      go_wp2
      go_ret
      exact ⟨by rw [HE.out]; rfl, B1.out⟩
end Go.Proofs.Ytegkmkbbmdplkaa
