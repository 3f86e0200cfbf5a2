/-
  Logs that are gone through: without, Cut, Drop of the package cml.
-/
import Derived.Test.YtihgiemgcmpmmaaCBase
import Derived.Shelf.Abstract
namespace Go.Proofs.Ytihgiemgcmpmmaa
open Go.RowKit Go.ChangeShapes Go.WideShapes Go.ChangeAt Go.Maps Go.Shelf
set_option linter.unusedVariables false
set_option linter.unusedSimpArgs false
/-- The records whose places are not taken out, of the first m. -/
def keepF (p : Nat → Bool) (l : List Rec) : Nat → List Rec
  | 0 => []
  | m + 1 => if p m then keepF p l m else keepF p l m ++ [l.getD m Rec.no]
theorem keep_wf {p : Nat → Bool} {l : List Rec} (h : ∀ x ∈ l, x.Wf) : ∀ m, m ≤ l.length → ∀ x ∈ keepF p l m, x.Wf
  | 0, _, x, hx => by simp [keepF] at hx
  | m + 1, hm, x, hx => by
    unfold keepF at hx
    split at hx
    · exact keep_wf h m (by omega) x hx
    · rcases List.mem_append.1 hx with hx | hx
      · exact keep_wf h m (by omega) x hx
      · rw [List.mem_singleton.1 hx, List.getD, List.getElem?_eq_getElem (by omega)]
        exact h _ (List.getElem_mem _)
theorem keep_len (p : Nat → Bool) (l : List Rec) : ∀ m, (keepF p l m).length ≤ m
  | 0 => by simp [keepF]
  | m + 1 => by
    have := keep_len p l m
    unfold keepF
    split
    · omega
    · simp; omega
theorem rec_news {w : World} {g : Nat} {x : Rec} {t : TypeId} {fr : Nat × Nat} (hb : w.heap[g]? = some (.cells x.cells.toArray t fr)) : ∀ j u, x.cells[j]? = some u → w.cell? ((⟨g, 0, none⟩ : Addr).add j) = some u := fun j u hu => by
  have e : (⟨g, 0, none⟩ : Addr).add j = ⟨g, 0 + j, none⟩ := by unfold Addr.add; split <;> simp_all
  rw [e, cell_of_row w g _ _ t fr hb]
  simpa using hu
theorem rec_one (x : Rec) : ∀ u ∈ x.cells, u.oneCell' = true := fun u hu => by
  simp [Rec.cells] at hu
  rcases hu with rfl | rfl | rfl | rfl | rfl | rfl | rfl | rfl | rfl <;> rfl
set_option maxRecDepth 20000 in
set_option maxHeartbeats 2000000 in
theorem without_c (a : Option Addr) (cap : Nat) (l : List Rec) (w : World) (h : IsL w a l) (hm : l.length ≤ 100000) (fid : Nat) (caps : Array Value) (p : Nat → Bool) (hE : ∀ (args : Array Value) (W : World), (callFunc fid args).run Try.prog W = .ok (.enter fid args) W)
    (hp : ∀ (i : Nat) (W : World), i < l.length → Below w.heap.size w W → Calls Try.prog fid (#[.int .i64 i] ++ caps) W fun e w' => e = .returned (.bool (p i)) ∧ Below W.heap.size W w') :
    Calls Try.prog 18 #[.slice a l.length cap, .func (.func fid) #[] caps] w fun e w' => ∃ v, e = .returned v ∧ w'.ownsRow w.heap.size 49 9 v (keepF p l l.length).length (rcells (keepF p l l.length)) ∧ Below w.heap.size w w' := by
  have H := hid h
  have HP := hid hp
  have HE := hid hE
  obtain ⟨i0, hi, hz0, hz1, hz2⟩ := info_rec
  clear h hp hE
  obtain ⟨n, hn⟩ : ∃ n, n = l.length := ⟨_, rfl⟩
  rw [← hn] at hm HP ⊢
  have HN := hid hn
  clear hn
  go_enter Try.func18, Try.ntmps18
  go_wp2
  go_loopw [5, 10] (fun v i wr => ∃ m : Nat, m ≤ n ∧ i = .int .i64 m ∧ Hid (wr.ownsRow w.heap.size 49 9 v (keepF p l m).length (rcells (keepF p l m))) ∧ Hid (Below w.heap.size w wr)) (fun _ i _ => (n - intOf i).toNat)
  case atStart => exact ⟨0, by omega, rfl, World.ownsRow_nil _ _ 49 9, Below.refl _ _⟩
  case round =>
    obtain ⟨m, hm2, rfl, HO, HB⟩ := hrel
    obtain ⟨va, vc, rfl⟩ := own_shapeR HO.out
    by_cases hlt : m < n
    · have hltI : (m : Int) < n := by omega
      obtain ⟨b, off, rfl, hc⟩ := H.out.2.2 (by rw [← HN.out]; omega)
      have hr := (hc m (by rw [← HN.out]; exact hlt)).later HB.out
      have PC := HP.out m
      have hk1 : keepF p l (m + 1) = if p m then keepF p l m else keepF p l m ++ [l.getD m Rec.no] := rfl
      have HK := hid hk1
      have hkl := keep_len p l m
      generalize l.getD m Rec.no = x at *
      have k0 : wr.cell? ⟨b, off + m * 9, none⟩ = some (.int .u8 x.k) := hr 0 _ rfl
      have k1 : wr.cell? ⟨b, off + m * 9 + 1, none⟩ = some (.int .u32 x.fid) := hr 1 _ rfl
      have k2 : wr.cell? ⟨b, off + m * 9 + 2, none⟩ = some (.int .u32 x.dir) := hr 2 _ rfl
      have k3 : wr.cell? ⟨b, off + m * 9 + 3, none⟩ = some (.string x.nm) := hr 3 _ rfl
      have k4 : wr.cell? ⟨b, off + m * 9 + 4, none⟩ = some (.int .u32 x.to) := hr 4 _ rfl
      have k5 : wr.cell? ⟨b, off + m * 9 + 5, none⟩ = some (.string x.nm2) := hr 5 _ rfl
      have k6 : wr.cell? ⟨b, off + m * 9 + 6, none⟩ = some (.int .u16 x.md) := hr 6 _ rfl
      have k7 : wr.cell? ⟨b, off + m * 9 + 7, none⟩ = some (.string x.dt) := hr 7 _ rfl
      have k8 : wr.cell? ⟨b, off + m * 9 + 8, none⟩ = some (.int .u64 x.sn) := hr 8 _ rfl
      clear hc hr
      go_wp2_with fail
      have hb1 : Below wr.heap.size wr (wr.alloc (.cells x.cells.toArray 49)) := (Below.refl _ _).alloc (Nat.le_refl _) _
      have hx1 := heap_alloc_new wr (.cells x.cells.toArray 49)
      rw [HE.out, Oper.upon_enter]
      refine (PC _ hlt (HB.out.trans (hb1.mono HB.out.size))).mono ?_
      rintro _ w2 ⟨rfl, hb2⟩
      have hx2 : w2.heap[wr.heap.size]? = some (.cells x.cells.toArray 49 (0, 0)) := (hb2.block _ (lt_blkR hx1)).trans hx1
      have HO2 := hid (own_latR (own_latR HO.out hb1) hb2)
      have HB2 := hid ((HB.out.trans (hb1.mono HB.out.size)).trans (hb2.mono (Nat.le_trans HB.out.size hb1.size)))
      obtain ⟨y0, y1, y2, y3, y4, y5, y6, y7, y8⟩ := rec_box hx2
      clear hx1 hx2 hb1 hb2 k0 k1 k2 k3 k4 k5 k6 k7 k8 HO
      cases hpm : p m with
      | true =>
        rw [hpm] at HK
        go_wp2
        go_roundw
        case rel => exact ⟨m + 1, by omega, by go_num, by rw [HK.out]; exact HO2.out, HB2⟩
        case measure => simp [intOf]; omega
      | false =>
        rw [hpm] at HK
        have hb3 : Below w2.heap.size w2 (w2.alloc (.cells x.cells.toArray 49)) := (Below.refl _ _).alloc (Nat.le_refl _) _
        have HO3 := hid (own_latR HO2.out hb3)
        have HB3 := hid (HB2.out.trans (hb3.mono HB2.out.size))
        have HN3 := hid (heap_alloc_new w2 (.cells x.cells.toArray 49))
        clear hb3
        go_wp2_with (at_builtin; refine wpList_append_own _ rfl _ _ 23 rfl w.heap.size 49 i0 Rec.no.val 9 88 Try.underlying23 hi hz0 hz1 hz2 (by rfl) (by decide) _ _ _ rfl HO3.out ⟨w2.heap.size, 0, none⟩ 1 1 x.cells rfl rfl (rec_news HN3.out) (rec_one x) (by unfold maxLen; omega) (by omega) HB3.out.size ?_; intro v9 w9 hown9 hgrow9 hnil9)
        have HB9 := hid (below_grownR HB3.out HO3.out (Nat.le_refl _) HB3.out.size hgrow9)
        have HO9 : Hid (w9.ownsRow w.heap.size 49 9 v9 (keepF p l (m + 1)).length (rcells (keepF p l (m + 1)))) := by
          show World.ownsRow _ _ _ _ _ _ _
          rw [HK.out]
          simp only [Bool.false_eq_true, if_false, List.length_append, List.length_cons, List.length_nil, rcells_snoc]
          exact hown9
        obtain ⟨a9, c9, rfl⟩ := own_shapeR hown9
        clear hown9 hgrow9 hnil9
        go_roundw
        case rel => exact ⟨m + 1, by omega, by go_num, HO9, HB9⟩
        case measure => simp [intOf]; omega
    · have em : m = n := by omega
      subst em
      have hge : ¬ (m : Int) < m := by omega
      go_wp2
      go_ret
      exact ⟨_, rfl, HO.out, HB.out⟩
def cutF (n : Int) (l : List Rec) : List Rec := keepF (fun i => decide (n ≤ (i : Int))) l l.length
def dropF (n : Int) (l : List Rec) : List Rec := keepF (fun i => decide ((i : Int) < n)) l l.length
set_option maxHeartbeats 1000000 in
theorem cut1_c (i : Nat) (n : Int) (X : Nat) (hi : i < 4611686018427387904) (w : World) (h : w.cell? ⟨X, 0, none⟩ = some (.int .i64 n)) :
    Calls Try.prog 24 #[.int .i64 i, .pointer (some ⟨X, 0, none⟩)] w fun e w' => e = .returned (.bool (decide (n ≤ (i : Int)))) ∧ w' = w := by
  go_enter Try.func24, Try.ntmps24
  go_wp2
  go_ret
  exact ⟨rfl, rfl⟩
set_option maxHeartbeats 1000000 in
theorem cut_c (a : Option Addr) (cap : Nat) (l : List Rec) (n : Int) (w : World) (h : IsL w a l) (hm : l.length ≤ 100000) :
    Calls Try.prog 12 #[.slice a l.length cap, .int .i64 n] w fun e w' => ∃ v, e = .returned v ∧ w'.ownsRow w.heap.size 49 9 v (cutF n l).length (rcells (cutF n l)) ∧ Below w.heap.size w w' := by
  have hb0 : Below w.heap.size w (w.alloc (.cells #[.int .i64 n] 3)) := (Below.refl _ _).alloc (Nat.le_refl _) _
  have hx0 := heap_alloc_new w (.cells #[.int .i64 n] 3)
  have WC := hid (without_c a cap l _ (h.later hb0) hm 24 #[.pointer (some ⟨w.heap.size, 0, none⟩)] (fun i => decide (n ≤ (i : Int))) (enters_of Try.func24 (by kernel_rfl) rfl) (fun i W hi hW => (cut1_c i n w.heap.size (by omega) W (cell_later hW (by rw [cell_of_row _ _ _ _ _ _ hx0]; rfl))).mono fun e w' he => ⟨he.1, by rw [he.2]; exact Below.refl _ _⟩))
  have HB0 := hid hb0
  clear h hb0 hx0
  go_enter Try.func12, Try.ntmps12
  go_wp2_with (go_at_call 18; refine WC.out.mono ?_; rintro _ w1 ⟨v, rfl, hO, hb1⟩)
  go_ret
  exact ⟨_, rfl, own_baseR hO HB0.out.size, HB0.out.trans (hb1.mono HB0.out.size)⟩
set_option maxHeartbeats 1000000 in
theorem drop1_c (i : Nat) (n : Int) (X : Nat) (hi : i < 4611686018427387904) (w : World) (h : w.cell? ⟨X, 0, none⟩ = some (.int .i64 n)) :
    Calls Try.prog 25 #[.int .i64 i, .pointer (some ⟨X, 0, none⟩)] w fun e w' => e = .returned (.bool (decide ((i : Int) < n))) ∧ w' = w := by
  go_enter Try.func25, Try.ntmps25
  go_wp2
  go_ret
  exact ⟨rfl, rfl⟩
set_option maxHeartbeats 1000000 in
theorem drop_c (a : Option Addr) (cap : Nat) (l : List Rec) (n : Int) (w : World) (h : IsL w a l) (hm : l.length ≤ 100000) :
    Calls Try.prog 13 #[.slice a l.length cap, .int .i64 n] w fun e w' => ∃ v, e = .returned v ∧ w'.ownsRow w.heap.size 49 9 v (dropF n l).length (rcells (dropF n l)) ∧ Below w.heap.size w w' := by
  have hb0 : Below w.heap.size w (w.alloc (.cells #[.int .i64 n] 3)) := (Below.refl _ _).alloc (Nat.le_refl _) _
  have hx0 := heap_alloc_new w (.cells #[.int .i64 n] 3)
  have WC := hid (without_c a cap l _ (h.later hb0) hm 25 #[.pointer (some ⟨w.heap.size, 0, none⟩)] (fun i => decide ((i : Int) < n)) (enters_of Try.func25 (by kernel_rfl) rfl) (fun i W hi hW => (drop1_c i n w.heap.size (by omega) W (cell_later hW (by rw [cell_of_row _ _ _ _ _ _ hx0]; rfl))).mono fun e w' he => ⟨he.1, by rw [he.2]; exact Below.refl _ _⟩))
  have HB0 := hid hb0
  clear h hb0 hx0
  go_enter Try.func13, Try.ntmps13
  go_wp2_with (go_at_call 18; refine WC.out.mono ?_; rintro _ w1 ⟨v, rfl, hO, hb1⟩)
  go_ret
  exact ⟨_, rfl, own_baseR hO HB0.out.size, HB0.out.trans (hb1.mono HB0.out.size)⟩
end Go.Proofs.Ytihgiemgcmpmmaa
