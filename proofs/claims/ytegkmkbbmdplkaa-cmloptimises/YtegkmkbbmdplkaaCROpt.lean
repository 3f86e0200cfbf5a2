/-
  The document's Optimise, step by step: needed, entry, content.
-/
import Derived.Test.YtegkmkbbmdplkaaCApp
import Derived.Test.YtegkmkbbmdplkaaCList
namespace Go.Proofs.Ytegkmkbbmdplkaa
open Go.RowKit Go.ChangeShapes Go.WideShapes Go.ChangeAt Go.Maps Go.Shelf
set_option linter.unusedVariables false
set_option linter.unusedSimpArgs false
set_option maxRecDepth 20000 in
set_option maxHeartbeats 2000000 in
theorem rentry_c (x : Rec) (f : Int) (nm : ByteArray) (w : World) :
    Calls Try.prog 41 #[x.val, .int .u32 f, .string nm] w fun e w' => e = .returned (.bool (namesF x f nm)) ∧ Below w.heap.size w w' := by
  have hx : (w.alloc (.cells x.cells.toArray 37)).heap[w.heap.size]? = some (.cells x.cells.toArray 37 (0, 0)) := heap_alloc_new w _
  obtain ⟨y0, y1, y2, y3, y4, y5, y6, y7, y8⟩ := rec_box hx
  have HB := hid (below_one w (.cells x.cells.toArray 37))
  unfold Rec.val namesF
  clear hx
  cases e1 : (x.dir == f) <;> cases e2 : (x.nm.toList == nm.toList) <;> cases e3 : (x.to == f) <;> (go_enter Try.func41, Try.ntmps41; go_wp2; go_ret; exact ⟨by first | rfl | simp_all, HB.out⟩)
set_option maxRecDepth 20000 in
set_option maxHeartbeats 2000000 in
theorem rcontent_c (x : Rec) (f : Int) (w : World) :
    Calls Try.prog 42 #[x.val, .int .u32 f] w fun e w' => e = .returned (.bool (setsF x.k && x.fid == f)) ∧ Below w.heap.size w w' := by
  have hx : (w.alloc (.cells x.cells.toArray 37)).heap[w.heap.size]? = some (.cells x.cells.toArray 37 (0, 0)) := heap_alloc_new w _
  obtain ⟨y0, y1, y2, y3, y4, y5, y6, y7, y8⟩ := rec_box hx
  have HB := hid (below_one w (.cells x.cells.toArray 37))
  unfold Rec.val setsF
  clear hx
  cases e1 : (x.k == 8) <;> cases e2 : (x.k == 9) <;> cases e3 : (x.fid == f) <;> (go_enter Try.func42, Try.ntmps42; go_wp2; go_ret; exact ⟨by first | rfl | simp_all, HB.out⟩)
theorem any_at {l : List Rec} (p : Rec → Bool) {m : Nat} (h : m < l.length) : (l.drop m).any p = (p (l.getD m Rec.no) || (l.drop (m + 1)).any p) := by
  rw [List.drop_eq_getElem_cons h, List.any_cons]
  simp [List.getD, h]
set_option maxRecDepth 20000 in
set_option maxHeartbeats 2000000 in
theorem rneeded_c (a : Option Addr) (cap : Nat) (l : List Rec) (i : Nat) (w : World) (h : IsL w a l) (hm : l.length ≤ 100000) (hi : i < l.length) :
    Calls Try.prog 25 #[.slice a l.length cap, .int .i64 i] w fun e w' => e = .returned (.bool (!needF l i)) ∧ Below w.heap.size w w' := by
  rw [need_anew l i hi]
  unfold anewF
  obtain ⟨b, off, rfl, hc⟩ := h.2.2 (by omega)
  have HL := hid h
  have hr := hc i hi
  have HX := hid hr
  clear hc h
  generalize l.getD i Rec.no = x at *
  obtain ⟨n, hn⟩ : ∃ n, n = l.length := ⟨_, rfl⟩
  rw [← hn] at hm hi ⊢
  have HN := hid hn
  have hiI : (i : Int) < n := by omega
  have k0 : w.cell? ⟨b, off + i * 9, none⟩ = some (.int .u8 x.k) := hr 0 _ rfl
  clear hr hn
  obtain ⟨R, hR⟩ : ∃ R, R = (l.drop (i + 1)).any (fun y => y.k == x.k && y.fid == x.fid) := ⟨_, rfl⟩
  rw [← hR]
  have HR := hid hR
  clear hR
  cases hs : setsF x.k with
  | false =>
    have e1 : (x.k == 8) = false := by unfold setsF at hs; simp at hs; simp; omega
    have e2 : (x.k == 9) = false := by unfold setsF at hs; simp at hs; simp; omega
    have e1n : (x.k != 8) = true := by rw [bne, e1]; rfl
    have e2n : (x.k != 9) = true := by rw [bne, e2]; rfl
    clear hs
    go_enter Try.func25, Try.ntmps25
    go_wp2
    go_ret
    exact ⟨rfl, Below.refl _ _⟩
  | true =>
    have e3 : x.k = 8 ∨ x.k = 9 := by unfold setsF at hs; simpa using hs
    have key : ∀ e1 e2 : Bool, (x.k == 8) = e1 → (x.k == 9) = e2 → (e1 || e2) = true → Calls Try.prog 25 #[.slice (some ⟨b, off, none⟩) n cap, .int .i64 i] w fun e w' => e = .returned (.bool (!(true && R))) ∧ Below w.heap.size w w' := by
      intro e1 e2 h1 h2 h3
      have h1n : (x.k != 8) = !e1 := by rw [← h1]; rfl
      have h2n : (x.k != 9) = !e2 := by rw [← h2]; rfl
      cases e1 <;> cases e2
      · cases h3
      all_goals
        simp only [Bool.not_true, Bool.not_false] at h1n h2n
        clear hs e3 h3
        go_enter Try.func25, Try.ntmps25
        go_wp2
        go_loopg [6] n (fun g v wr => ∃ m : Nat, i + 1 + (m - (i + 1)) = m ∧ m + g = n + i + 1 ∧ m ≤ n ∧ v = .int .i64 m ∧ Hid (R = (l.drop m).any (fun y => y.k == x.k && y.fid == x.fid)) ∧ Hid (Below w.heap.size w wr))
        case atStart => exact ⟨i + 1, by omega, by omega, by omega, by go_num, hid HR.out, hid (Below.refl _ _)⟩
        case round =>
          obtain ⟨m, hmi, hmg, hmn, rfl, HD, HB⟩ := hrel
          by_cases hlt : m < n
          · have hltI : (m : Int) < n := by omega
            have HE := hid (HD.out.trans (any_at (fun y => y.k == x.k && y.fid == x.fid) (by rw [← HN.out]; exact hlt)))
            have hil := HL.out.later HB.out
            have hy := hil.at (i := m) (by rw [← HN.out]; exact hlt)
            have hx := HX.out.later HB.out
            clear hil
            generalize l.getD m Rec.no = y at *
            have y0 : wr.cell? ⟨b, off + m * 9, none⟩ = some (.int .u8 y.k) := hy 0 _ rfl
            have y1 : wr.cell? ⟨b, off + m * 9 + 1, none⟩ = some (.int .u32 y.fid) := hy 1 _ rfl
            have x1 : wr.cell? ⟨b, off + i * 9 + 1, none⟩ = some (.int .u32 x.fid) := hx 1 _ rfl
            clear hy hx HD
            cases q1 : (y.k == x.k) with
            | false =>
              have HE2 : Hid (R = (l.drop (m + 1)).any (fun y => y.k == x.k && y.fid == x.fid)) := hid (by have := HE.out; simpa [q1] using this)
              clear HE
              go_wp2
              go_region
              go_wp2
              go_roundg (gk - 1)
              case measure => omega
              case rel => exact ⟨m + 1, by omega, by omega, by omega, by go_num, HE2, hid (Below.drew HB.out)⟩
            | true =>
              cases q2 : (y.fid == x.fid) with
              | false =>
                have HE2 : Hid (R = (l.drop (m + 1)).any (fun y => y.k == x.k && y.fid == x.fid)) := hid (by have := HE.out; simpa [q1, q2] using this)
                clear HE
                go_wp2
                go_region
                go_wp2
                go_roundg (gk - 1)
                case measure => omega
                case rel => exact ⟨m + 1, by omega, by omega, by omega, by go_num, HE2, hid (Below.drew HB.out)⟩
              | true =>
                have HE2 : Hid (R = true) := hid (by have := HE.out; simpa [q1, q2] using this)
                clear HE
                go_wp2
                go_region
                go_wp2
                go_ret
                exact ⟨by rw [HE2.out]; rfl, Below.drew HB.out⟩
          · have em : m = n := by omega
            subst em
            have hge : ¬ (m : Int) < m := by omega
            have HE : Hid (R = false) := hid (by rw [HD.out, List.drop_eq_nil_of_le (by rw [← HN.out]; omega)]; rfl)
            clear HD
            go_wp2
            go_ret
            exact ⟨by rw [HE.out]; rfl, HB.out⟩
    exact key _ _ rfl rfl (by rcases e3 with e | e <;> rw [e] <;> rfl)
end Go.Proofs.Ytegkmkbbmdplkaa
