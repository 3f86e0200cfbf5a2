/-
  Bytes of records: putList, putRecords, written, Records of the package record.
-/
import Derived.Test.YtbgninmkglgfeaaRRc
namespace Go.Proofs.Ytbgninmkglgfeaa
open Go.RowKit Go.ChangeShapes Go.WideShapes Go.ChangeAt Go.Shelf
set_option linter.unusedVariables false
set_option linter.unusedSimpArgs false
def Small (l : List Rec) : Prop := ∀ x ∈ l, x.nm.size + x.nm2.size + x.dt.size ≤ 88
theorem recsB_le {l : List Rec} (h : Small l) : (recsB l).length ≤ l.length * 114 := by
  unfold recsB
  induction l with
  | nil => simp
  | cons x t ih =>
    have h1 := h x (by simp)
    have h2 := ih (fun y hy => h y (by simp [hy]))
    rw [List.flatMap_cons, List.length_append, recB_len, List.length_cons]
    omega
theorem small_take {l : List Rec} (h : Small l) (m : Nat) : Small (l.take m) := fun x hx => h x (List.mem_of_mem_take hx)
set_option maxRecDepth 20000 in
set_option maxHeartbeats 2000000 in
theorem putList_c (T base g : Nat) (zs : List Int) (a : Option Addr) (cap : Nat) (l : List Rec) (w : World) (hp : Pile w T base g zs) (hn : zs.length < 1000) (hl : ∀ W, KpT base g w W → IsL W a l) (hm : l.length ≤ 255) (hs : Small l) :
    Calls Try.prog 101 #[.pointer (some ⟨g, 0, none⟩), .slice a l.length cap, .func (.func 102) #[] #[]] w fun e w' => e = .returned (.tuple #[]) ∧ Pile w' T base g (zs ++ (beF l.length 1 ++ recsB l)) ∧ KpT base g w w' := by
  have NC := hid (num1_c (n := (l.length : Int)) hp (by omega) (by omega) (by omega))
  have HL := hid hl
  have HS := hid hs
  have ku : IntKind.u64.wrap (l.length : Int) = l.length := by rw [IntKind.wrap_u64]; omega
  clear hp hl hs
  obtain ⟨n, hnn⟩ : ∃ n, n = l.length := ⟨_, rfl⟩
  rw [← hnn] at hm NC ku ⊢
  have HN := hid hnn
  clear hnn
  go_enter Try.func101, Try.ntmps101
  go_wp2_with (go_at_call 90; refine NC.out.mono ?_; rintro _ w1 ⟨rfl, hp1, hk1⟩; have HP1 := hid hp1; have K1 := hid hk1; clear hp1 hk1)
  clear NC
  go_loopg [15] n (fun k v wr => ∃ m : Nat, m + k = n ∧ v = .int .i64 m ∧ Hid (Pile wr T base g (zs ++ beF n 1 ++ recsB (l.take m))) ∧ Hid (KpT base g w wr))
  case atStart => exact ⟨0, by omega, rfl, hid (by simpa [recsB] using HP1.out), K1⟩
  case round =>
    clear HP1 K1
    obtain ⟨m, hmk, rfl, HP, HK⟩ := hrel
    by_cases hlt : m < n
    · have hltI : (m : Int) < n := by omega
      have hil := HL.out wr HK.out
      obtain ⟨b, off, rfl, _⟩ := hil.2.2 (by rw [← HN.out]; omega)
      have hr := at_rec hil (i := m) (by rw [← HN.out]; exact hlt)
      have hwf := wf_rec hil (i := m) (by rw [← HN.out]; exact hlt)
      have hsz := HS.out (l.getD m Rec.no) (by rw [List.getD, List.getElem?_eq_getElem (by rw [← HN.out]; exact hlt)]; exact List.getElem_mem _)
      have HT := hid (take_rec (l := l) (m := m) (by rw [← HN.out]; exact hlt))
      have hlen : (zs ++ beF n 1 ++ recsB (l.take m)).length < 400000 := by
        have := recsB_le (small_take HS.out m)
        rw [List.length_take] at this
        rw [List.length_append, List.length_append, beF_len]
        omega
      clear hil
      generalize l.getD m Rec.no = x at *
      have k0 : wr.cell? ⟨b, off + m * 9, none⟩ = some (.int .u8 x.k) := hr 0 _ rfl
      have k1 : wr.cell? ⟨b, off + m * 9 + 1, none⟩ = some (.int .u32 x.fid) := hr 1 _ rfl
      have k2 : wr.cell? ⟨b, off + m * 9 + 2, none⟩ = some (.int .u32 x.dir) := hr 2 _ rfl
      have k3 : wr.cell? ⟨b, off + m * 9 + 3, none⟩ = some (.string x.nm) := hr 3 _ rfl
      have k4 : wr.cell? ⟨b, off + m * 9 + 4, none⟩ = some (.int .u32 x.to) := hr 4 _ rfl
      have k5 : wr.cell? ⟨b, off + m * 9 + 5, none⟩ = some (.string x.nm2) := hr 5 _ rfl
      have k6 : wr.cell? ⟨b, off + m * 9 + 6, none⟩ = some (.int .u16 x.md) := hr 6 _ rfl
      have k7 : wr.cell? ⟨b, off + m * 9 + 7, none⟩ = some (.string x.dt) := hr 7 _ rfl
      have k8 : wr.cell? ⟨b, off + m * 9 + 8, none⟩ = some (.int .u64 x.sn) := hr 8 _ rfl
      have PC := hid (putRecord_c T base g _ x _ (HP.out.other (w' := wr) (.cells x.cells.toArray 79)) hlen hwf (by omega))
      have KA : Hid (KpT base g w (wr.alloc (.cells x.cells.toArray 79))) := hid (HK.out.trans (alloc_kpT _ HP.out.len.2))
      unfold Rec.val at PC
      clear hr hwf hsz hlen
      go_wp2_with (go_at_call 102; refine PC.out.mono ?_; rintro _ w2 ⟨rfl, hp2, hk2⟩)
      go_roundg (gk - 1)
      case measure => omega
      case rel => exact ⟨m + 1, by omega, by go_num, hid (by rw [HT.out, recsB_snoc, ← List.append_assoc]; exact hp2), hid (KA.out.trans hk2)⟩
    · have em : m = n := by omega
      have hge : ¬ (m : Int) < n := by omega
      have HP2 : Hid (Pile wr T base g (zs ++ (beF n 1 ++ recsB l))) := hid (by
        have := HP.out
        rw [List.take_of_length_le (by rw [← HN.out]; omega), List.append_assoc] at this
        exact this)
      go_wp2
      exact body_end (by kernel_rfl) rfl ⟨rfl, HP2.out, HK.out⟩
set_option maxHeartbeats 1000000 in
theorem putRecords_c (T base g : Nat) (zs : List Int) (a : Option Addr) (cap : Nat) (l : List Rec) (w : World) (hp : Pile w T base g zs) (hn : zs.length < 1000) (hl : ∀ W, KpT base g w W → IsL W a l) (hm : l.length ≤ 255) (hs : Small l) :
    Calls Try.prog 73 #[.pointer (some ⟨g, 0, none⟩), .slice a l.length cap] w fun e w' => e = .returned (.tuple #[]) ∧ Pile w' T base g (zs ++ (beF l.length 1 ++ recsB l)) ∧ KpT base g w w' := by
  have PC := hid (putList_c T base g zs a cap l w hp hn hl hm hs)
  clear hp hl
  go_enter Try.func73, Try.ntmps73
  go_wp2_with (go_at_call 101; refine PC.out.mono ?_; rintro _ w1 ⟨rfl, h1, h2⟩)
  exact body_end (by kernel_rfl) rfl ⟨rfl, h1, h2⟩
/-- The bytes of records. -/
def recsA (l : List Rec) : List Int := beF l.length 1 ++ recsB l
set_option maxRecDepth 20000 in
set_option maxHeartbeats 1000000 in
theorem writtenRecs_c (a : Option Addr) (cap : Nat) (l : List Rec) (w : World) (h : IsL w a l) (hm : l.length ≤ 255) (hs : Small l) :
    Calls Try.prog 72 #[.slice a l.length cap, .func (.func 73) #[] #[]] w fun e w' => ∃ v, e = .returned v ∧ w'.ownsRow w.heap.size 5 1 v (recsA l).length ((recsA l).map u8V) ∧ Below w.heap.size w w' := by
  have b1 := below_1 w (.cells #[.slice none 0 0] 118)
  have hg2 := heap_alloc_new w (.cells #[.slice none 0 0] 118)
  have hs2 : (w.alloc (.cells #[.slice none 0 0] 118)).heap.size = w.heap.size + 1 := by simp
  have HP : Hid (Pile (w.alloc (.cells #[.slice none 0 0] 118)) 118 (w.heap.size + 1) w.heap.size []) := hid ⟨by omega, by rw [hs2]; omega, _, hg2, World.ownsRow_nil _ _ _ _⟩
  have PC := hid (putRecords_c 118 (w.heap.size + 1) w.heap.size [] a cap l _ HP.out (by simp) (fun W hW => h.later (b1.trans (hW.below (by omega) (Nat.le_refl _)))) hm hs)
  have B1 := hid b1
  clear h hg2 hs2 b1 HP
  rw [List.nil_append] at PC
  change Hid (Calls _ _ _ _ fun e w' => e = .returned (.tuple #[]) ∧ Pile w' _ _ _ (recsA l) ∧ _) at PC
  go_enter Try.func72, Try.ntmps72
  go_wp2_with (first | (go_at_call 73; refine PC.out.mono ?_; rintro _ w1 ⟨rfl, ⟨hg, hbase, v, hbox, hown⟩, hk⟩; have hc := cell_box hbox; obtain ⟨va, vn, vc, rfl⟩ := own_slice hown))
  go_ret
  exact ⟨_, rfl, own_baseR hown (by omega), B1.out.trans (hk.below (by omega) (Nat.le_refl _))⟩
def recsOk (l : List Rec) : Bool := decide (l.length ≤ 24) && !l.any wrongF
theorem small_right {l : List Rec} (h : l.any wrongF = false) : Small l := fun x hx => by
  rw [List.any_eq_false] at h
  have := h x hx
  unfold wrongF at this
  have := right_size x (by simpa using this)
  omega
set_option maxRecDepth 20000 in
set_option maxHeartbeats 1000000 in
theorem records_c (a : Option Addr) (cap : Nat) (l : List Rec) (w : World) (h : IsL w a l) (hm : l.length ≤ 100000) :
    Calls Try.prog 35 #[.slice a l.length cap] w fun e w' => (if recsOk l then ∃ v, e = .returned (.tuple #[v, .int .i64 0]) ∧ w'.ownsRow w.heap.size 5 1 v (recsA l).length ((recsA l).map u8V) else e = .returned (.tuple #[.slice none 0 0, .int .i64 3])) ∧ Below w.heap.size w w' := by
  have CC := hid (containsFunc_c a cap l w h hm)
  have WC := hid (fun W (hW : Below w.heap.size w W) (h1 : l.length ≤ 255) h2 => writtenRecs_c a cap l W (h.later hW) h1 h2)
  have HSR := hid (fun h2 => small_right (l := l) h2)
  clear h
  unfold recsOk
  by_cases q : l.length ≤ 24
  · have qI : ¬ (24 : Int) < l.length := by omega
    rw [decide_eq_true q]
    cases hr : l.any wrongF with
    | true =>
      rw [hr] at CC
      simp only [Bool.not_true, Bool.and_false, Bool.false_eq_true, if_false]
      go_enter Try.func35, Try.ntmps35
      go_wp2_with (go_at_call 70; refine CC.out.mono ?_; rintro _ w1 ⟨rfl, hb1⟩)
      go_ret2
      exact ⟨rfl, hb1⟩
    | false =>
      rw [hr] at CC
      have HS := hid (HSR.out hr)
      simp only [Bool.not_false, Bool.and_true, if_true]
      go_enter Try.func35, Try.ntmps35
      go_wp2_with (first
        | (go_at_call 72; refine (WC.out _ B1.out (by omega) HS.out).mono ?_; rintro _ w2 ⟨v2, rfl, hO2, hb2⟩; obtain ⟨a2, c2, rfl⟩ := own_shapeR hO2)
        | (go_at_call 70; refine CC.out.mono ?_; rintro _ w1 ⟨rfl, hb1⟩; have B1 := hid hb1; clear hb1))
      go_ret2
      exact ⟨⟨_, rfl, own_baseR hO2 B1.out.size⟩, B1.out.trans (hb2.mono B1.out.size)⟩
  · have qI : (24 : Int) < l.length := by omega
    rw [decide_eq_false q]
    simp only [Bool.false_and, Bool.false_eq_true, if_false]
    go_enter Try.func35, Try.ntmps35
    go_wp2
    go_ret2
    exact ⟨rfl, Below.refl _ _⟩
end Go.Proofs.Ytbgninmkglgfeaa
