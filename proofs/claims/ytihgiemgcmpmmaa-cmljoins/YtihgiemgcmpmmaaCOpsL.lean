/-
  The operations of a log: Ops of the package cml.
-/
import Derived.Test.YtihgiemgcmpmmaaCTake
namespace Go.Proofs.Ytihgiemgcmpmmaa
open Go.RowKit Go.ChangeShapes Go.WideShapes Go.ChangeAt Go.Maps Go.Shelf
set_option linter.unusedVariables false
set_option linter.unusedSimpArgs false
/-- The cells of a row of operations. -/
def ocells (l : List Rec) : List Value := l.flatMap Rec.ops
theorem ocells_snoc (l : List Rec) (x : Rec) : ocells (l ++ [x]) = ocells l ++ x.ops := by unfold ocells; simp
theorem op_news {w : World} {g : Nat} {x : Rec} {t : TypeId} {fr : Nat × Nat} (hb : w.heap[g]? = some (.cells x.ops.toArray t fr)) : ∀ j u, x.ops[j]? = some u → w.cell? ((⟨g, 0, none⟩ : Addr).add j) = some u := fun j u hu => by
  have e : (⟨g, 0, none⟩ : Addr).add j = ⟨g, 0 + j, none⟩ := by unfold Addr.add; split <;> simp_all
  rw [e, cell_of_row w g _ _ t fr hb]
  simpa using hu
theorem op_one (x : Rec) : ∀ u ∈ x.ops, u.oneCell' = true := fun u hu => by
  simp [Rec.ops] at hu
  rcases hu with rfl | rfl | rfl | rfl | rfl | rfl | rfl | rfl <;> rfl
theorem info_op : ∃ i : TypeInfo, Try.prog.info? 46 = some i ∧ i.zero = some Rec.no.opV ∧ i.size = 8 ∧ i.bytes = 80 := by
  have h : (Try.prog.info? 46).map (fun i => (i.zero, i.size, i.bytes)) = some (some Rec.no.opV, 8, 80) := by kernel_rfl
  cases hi : Try.prog.info? 46 with
  | none => rw [hi] at h; cases h
  | some i => rw [hi] at h; simp at h; exact ⟨i, rfl, h.1, h.2.1, h.2.2⟩
set_option maxRecDepth 20000 in
set_option maxHeartbeats 2000000 in
theorem ops_c (a : Option Addr) (cap : Nat) (l : List Rec) (w : World) (h : IsL w a l) (hm : l.length ≤ 100000) :
    Calls Try.prog 8 #[.slice a l.length cap] w fun e w' => ∃ v, e = .returned v ∧ w'.ownsRow w.heap.size 46 8 v l.length (ocells l) ∧ Below w.heap.size w w' := by
  have H := hid h
  obtain ⟨i0, hi, hz0, hz1, hz2⟩ := info_op
  clear h
  obtain ⟨n, hn⟩ : ∃ n, n = l.length := ⟨_, rfl⟩
  rw [← hn] at hm ⊢
  have HN := hid hn
  clear hn
  go_enter Try.func8, Try.ntmps8
  go_wp2
  go_loopw [3, 8] (fun v i wr => ∃ m : Nat, m ≤ n ∧ i = .int .i64 m ∧ Hid (wr.ownsRow w.heap.size 46 8 v m (ocells (l.take m))) ∧ Hid (Below w.heap.size w wr)) (fun _ i _ => (n - intOf i).toNat)
  case atStart => exact ⟨0, by omega, rfl, World.ownsRow_nil _ _ 46 8, Below.refl _ _⟩
  case round =>
    obtain ⟨m, hm2, rfl, HO, HB⟩ := hrel
    obtain ⟨va, vc, rfl⟩ := own_shapeR HO.out
    by_cases hlt : m < n
    · have hltI : (m : Int) < n := by omega
      obtain ⟨b, off, rfl, hc⟩ := H.out.2.2 (by rw [← HN.out]; omega)
      have hr := (hc m (by rw [← HN.out]; exact hlt)).later HB.out
      have HK := hid (take_one (l := l) (m := m) (by rw [← HN.out]; exact hlt))
      generalize l.getD m Rec.no = x at *
      have k0 : wr.cell? ⟨b, off + m * 9, none⟩ = some (.int .u8 x.k) := hr 0 _ rfl
      have k1 : wr.cell? ⟨b, off + m * 9 + 1, none⟩ = some (.int .u32 x.fid) := hr 1 _ rfl
      have k2 : wr.cell? ⟨b, off + m * 9 + 2, none⟩ = some (.int .u32 x.dir) := hr 2 _ rfl
      have k3 : wr.cell? ⟨b, off + m * 9 + 3, none⟩ = some (.string x.nm) := hr 3 _ rfl
      have k4 : wr.cell? ⟨b, off + m * 9 + 4, none⟩ = some (.int .u32 x.to) := hr 4 _ rfl
      have k5 : wr.cell? ⟨b, off + m * 9 + 5, none⟩ = some (.string x.nm2) := hr 5 _ rfl
      have k6 : wr.cell? ⟨b, off + m * 9 + 6, none⟩ = some (.int .u16 x.md) := hr 6 _ rfl
      have k7 : wr.cell? ⟨b, off + m * 9 + 7, none⟩ = some (.string x.dt) := hr 7 _ rfl
      have k8 : wr.cell? ⟨b, off + m * 9 + 8, none⟩ = some (.int .u64 x.sn) := hr 8 _ rfl
      clear hc hr
      have b1 : Below wr.heap.size wr (wr.alloc (.cells x.cells.toArray 49)) := (Below.refl _ _).alloc (Nat.le_refl _) _
      have s1 : (wr.alloc (.cells x.cells.toArray 49)).heap.size = wr.heap.size + 1 := by simp
      have O1 := own_latR HO.out b1
      have B1 := HB.out.trans (b1.mono HB.out.size)
      have b2 : Below (wr.alloc (.cells x.cells.toArray 49)).heap.size (wr.alloc (.cells x.cells.toArray 49)) ((wr.alloc (.cells x.cells.toArray 49)).alloc (.cells x.ops.toArray 46)) := (Below.refl _ _).alloc (Nat.le_refl _) _
      have O2 := hid (own_latR O1 b2)
      have B2 := hid (B1.trans (b2.mono B1.size))
      have h2 := heap_alloc_new (wr.alloc (.cells x.cells.toArray 49)) (.cells x.ops.toArray 46)
      rw [s1] at h2
      have N2 := hid h2
      clear b1 b2 O1 B1 h2 s1 HO
      go_wp2_with (at_builtin; refine wpList_append_own _ rfl _ _ 22 rfl w.heap.size 46 i0 Rec.no.opV 8 80 Try.underlying22 hi hz0 hz1 hz2 (by rfl) (by decide) _ _ _ rfl O2.out ⟨wr.heap.size + 1, 0, none⟩ 1 1 x.ops rfl rfl (op_news N2.out) (op_one x) (by unfold maxLen; omega) (by omega) B2.out.size ?_; intro v9 w9 hown9 hgrow9 hnil9)
      have HB9 := hid (below_grownR B2.out O2.out (Nat.le_refl _) B2.out.size hgrow9)
      have HO9 : Hid (w9.ownsRow w.heap.size 46 8 v9 (m + 1) (ocells (l.take (m + 1)))) := by
        show World.ownsRow _ _ _ _ _ _ _
        rw [HK.out, ocells_snoc]
        exact hown9
      obtain ⟨a9, c9, rfl⟩ := own_shapeR hown9
      clear hown9 hgrow9 hnil9
      go_roundw
      case rel => exact ⟨m + 1, by omega, by go_num, HO9, HB9⟩
      case measure => simp [intOf]; omega
    · have em : m = n := by omega
      subst em
      have hge : ¬ (m : Int) < m := by omega
      have ho := HO.out
      rw [HN.out, List.take_length, ← HN.out] at ho
      have HO2 := hid ho
      clear ho HO
      go_wp2
      go_ret
      exact ⟨_, rfl, HO2.out, HB.out⟩
end Go.Proofs.Ytihgiemgcmpmmaa
