/-
  The document's Next of caches.
-/
import Derived.Test.YtilcbkejmpfnfaaCR3
namespace Go.Proofs.Ytilcbkejmpfnfaa
open Go.RowKit Go.ChangeShapes Go.WideShapes Go.ChangeAt Go.Maps Go.Shelf
set_option linter.unusedVariables false
set_option linter.unusedSimpArgs false
set_option maxRecDepth 100000
theorem Rc.bst_dirty {r : Rc} {m : Nat} (h : r.dty m = true) : r.bst (m + 1) = r.bst m := by rw [Rc.bst, if_neg (by simp [h])]
theorem Rc.bst_first {r : Rc} {m : Nat} (h : r.dty m = false) (h2 : r.bst m < 0) : r.bst (m + 1) = (m : Int) := by rw [Rc.bst, if_pos ⟨h, .inl h2⟩]
theorem Rc.bst_less {r : Rc} {m b : Nat} (h : r.dty m = false) (hb : r.bst m = (b : Int)) (h2 : r.dear (r.fid m) < r.dear (r.fid b)) : r.bst (m + 1) = (m : Int) := by rw [Rc.bst, if_pos ⟨h, .inr (by rw [hb]; simpa using h2)⟩]
theorem Rc.bst_more {r : Rc} {m b : Nat} (hb : r.bst m = (b : Int)) (h2 : ¬ r.dear (r.fid m) < r.dear (r.fid b)) : r.bst (m + 1) = r.bst m := by
  rw [Rc.bst, if_neg]
  rintro ⟨_, h | h⟩
  · rw [hb] at h; omega
  · rw [hb] at h; exact h2 (by simpa using h)
set_option maxHeartbeats 4000000 in
theorem rcnext_c {w : World} {g : Nat} {vl vh : Value} {r : Rc} (h : IsRc w g vl vh r) (hm : r.L.length ≤ 1000) (hm2 : r.H.length ≤ 1000) :
    Calls Try.prog 26 #[pA g] w fun e w' => e = .returned (.tuple #[.int .u32 r.nx, .bool (decide (0 ≤ r.bst r.L.length))]) ∧ Below w.heap.size w w' := by
  have H := hid h
  have ND : Hid (r.nx = if r.bst r.L.length < 0 then 0 else r.fid (r.bst r.L.length).toNat) := hid rfl
  generalize r.nx = nx at *
  have INV := hid r.bst_inv
  have DC : Hid (∀ W f, Below w.heap.size w W → Calls Try.prog 29 #[pA g, .int .u32 f] W fun e w' => e = .returned (.int .i64 (r.dear f)) ∧ Below W.heap.size W w') := hid (fun W f hb => (rcdear_c (h.later hb) hm2 f).mono fun e w' q => ⟨q.1, by rw [q.2]; exact Below.refl _ _⟩)
  have RW : Hid (∀ W, Below w.heap.size w W → 0 < r.L.length → ∃ gl o cap, vl = .slice (some ⟨gl, o, none⟩) r.L.length cap ∧ ∀ i, i < r.L.length → W.cell? ⟨gl, o + i * 2, none⟩ = some (.int .u32 (r.fid i)) ∧ W.cell? ⟨gl, o + i * 2 + 1, none⟩ = some (.bool (r.dty i))) := hid (fun W hb hp => (h.later hb).rowL hp)
  obtain ⟨a, cap, rfl, hcap⟩ := own_shapeC h.2.1
  obtain ⟨n, hn⟩ : ∃ n, n = r.L.length := ⟨_, rfl⟩
  rw [← hn] at hm ND RW hcap ⊢
  have HN := hid hn
  have L1 : Hid (∀ W, Below w.heap.size w W → W.cell? ⟨g, 1, none⟩ = some (.slice a n cap)) := hid (fun W hb => by have := (H.out.later hb).cells.2.1; rw [hn]; exact this)
  clear hn h
  go_enter Try.func26, Try.ntmps26
  go_wp2
  go_loopg [4, 5] n (fun gk bv jv wr => ∃ m : Nat, m + gk = n ∧ jv = .int .i64 m ∧ bv = .int .i64 (r.bst m) ∧ Hid (Below w.heap.size w wr))
  case atStart => exact ⟨0, by omega, rfl, rfl, hid (Below.refl _ _)⟩
  case round =>
    obtain ⟨m, hm3, rfl, rfl, HB⟩ := hrel
    have c1 := L1.out wr HB.out
    by_cases hlt : m < n
    · have hltI : (m : Int) < n := by omega
      obtain ⟨gl, o, cap', e, hc⟩ := RW.out wr HB.out (by omega)
      cases e
      have CL : Hid (∀ W, Below wr.heap.size wr W → Below w.heap.size w W) := hid (fun W hb => HB.out.trans (hb.mono HB.out.size))
      have C1 : ∀ W, Below wr.heap.size wr W → W.cell? ⟨g, 1, none⟩ = some (.slice (some ⟨gl, o, none⟩) n cap) := fun W hb => L1.out W (CL.out W hb)
      have M0 : ∀ W, Below wr.heap.size wr W → W.cell? ⟨gl, o + m * 2, none⟩ = some (.int .u32 (r.fid m)) := fun W hb => by
        obtain ⟨gl', o', cap'', e', hc'⟩ := RW.out W (CL.out W hb) (by omega)
        cases e'
        exact (hc' m hlt).1
      have M1 : ∀ W, Below wr.heap.size wr W → W.cell? ⟨gl, o + m * 2 + 1, none⟩ = some (.bool (r.dty m)) := fun W hb => by
        obtain ⟨gl', o', cap'', e', hc'⟩ := RW.out W (CL.out W hb) (by omega)
        cases e'
        exact (hc' m hlt).2
      cases hd : r.dty m with
      | true =>
        rw [hd] at M1
        have HS := hid (Rc.bst_dirty hd)
        generalize r.fid m = fm at *
        clear hd hc
        go_wp2_with fail
        refine wp_region_class (by kernel_rfl) (by kernel_rfl) ?_
        repeat (first
          | go_big_quiet_skip
          | (go_big_quiet_want
             apply quiet_by
             · intro w1 hw1
               go_simp
               rfl
             · go_simp; rfl
             go_big_quiet_on))
        refine wpQuiet_nil ?_
        intro w2 hw2
        go_wp2
        go_roundg (gk - 1)
        case measure => omega
        case rel => exact ⟨m + 1, by omega, by go_num, by rw [HS.out], hid (HB.out.trans (hw2.mono HB.out.size))⟩
      | false =>
        rw [hd] at M1
        rcases INV.out m with ⟨eb, _⟩ | ⟨b, eb, hbm, _⟩
        · have HS := hid (Rc.bst_first hd (by rw [eb]; decide))
          rw [eb]
          generalize r.fid m = fm at *
          clear hd hc
          go_wp2_with fail
          refine wp_region_class (by kernel_rfl) (by kernel_rfl) ?_
          repeat (first
            | go_big_quiet_skip
            | (go_big_quiet_want
               apply quiet_by
               · intro w1 hw1
                 go_simp
                 rfl
               · go_simp; rfl
               go_big_quiet_on))
          refine wpQuiet_nil ?_
          intro w2 hw2
          go_wp2
          go_roundg (gk - 1)
          case measure => omega
          case rel => exact ⟨m + 1, by omega, by go_num, by rw [HS.out], hid (HB.out.trans (hw2.mono HB.out.size))⟩
        · have B0 : ∀ W, Below wr.heap.size wr W → W.cell? ⟨gl, o + b * 2, none⟩ = some (.int .u32 (r.fid b)) := fun W hb => by
            obtain ⟨gl', o', cap'', e', hc'⟩ := RW.out W (CL.out W hb) (by omega)
            cases e'
            exact (hc' b (by omega)).1
          have HE := hid eb
          have hbI : (b : Int) < n := by omega
          have hb0 : ¬ (b : Int) < 0 := by omega
          have hbd : decide ((b : Int) < 0) = false := decide_eq_false hb0
          have DM : Hid (∀ W, Below wr.heap.size wr W → Calls Try.prog 29 #[pA g, .int .u32 (r.fid m)] W fun e w' => e = .returned (.int .i64 (r.dear (r.fid m))) ∧ Below W.heap.size W w') := hid (fun W hb => DC.out W _ (CL.out W hb))
          have DB : Hid (∀ W, Below wr.heap.size wr W → Calls Try.prog 29 #[pA g, .int .u32 (r.fid b)] W fun e w' => e = .returned (.int .i64 (r.dear (r.fid b))) ∧ Below W.heap.size W w') := hid (fun W hb => DC.out W _ (CL.out W hb))
          rw [eb]
          by_cases hq : r.dear (r.fid m) < r.dear (r.fid b)
          · have HS := hid (Rc.bst_less hd eb hq)
            have hqd : decide (r.dear (r.fid m) < r.dear (r.fid b)) = true := decide_eq_true hq
            clear hd hc DC INV eb
            generalize r.dear (r.fid m) = d1 at *
            generalize r.dear (r.fid b) = d2 at *
            generalize r.fid m = fm at *
            generalize r.fid b = fb at *
            go_wp2_with fail
            refine wp_region_class (by kernel_rfl) (by kernel_rfl) ?_
            repeat (first
              | go_big_quiet_skip
              | (go_big_quiet_want
                 apply quiet_by
                 · intro w1 hw1
                   go_simp
                   first
                     | rfl
                     | (go_at_call 29; with_reducible exact class_of hw1 (DM.out _ hw1))
                     | (go_at_call 29; with_reducible exact class_of hw1 (DB.out _ hw1))
                 · go_simp; rfl
                 go_big_quiet_on))
            refine wpQuiet_nil ?_
            intro w2 hw2
            go_wp2
            go_roundg (gk - 1)
            case measure => omega
            case rel => exact ⟨m + 1, by omega, by go_num, by rw [HS.out], hid (HB.out.trans (hw2.mono HB.out.size))⟩
          · have HS := hid (Rc.bst_more eb hq)
            have hqd : decide (r.dear (r.fid m) < r.dear (r.fid b)) = false := decide_eq_false hq
            clear hd hc DC INV eb
            generalize r.dear (r.fid m) = d1 at *
            generalize r.dear (r.fid b) = d2 at *
            generalize r.fid m = fm at *
            generalize r.fid b = fb at *
            go_wp2_with fail
            refine wp_region_class (by kernel_rfl) (by kernel_rfl) ?_
            repeat (first
              | go_big_quiet_skip
              | (go_big_quiet_want
                 apply quiet_by
                 · intro w1 hw1
                   go_simp
                   first
                     | rfl
                     | (go_at_call 29; with_reducible exact class_of hw1 (DM.out _ hw1))
                     | (go_at_call 29; with_reducible exact class_of hw1 (DB.out _ hw1))
                 · go_simp; rfl
                 go_big_quiet_on))
            refine wpQuiet_nil ?_
            intro w2 hw2
            go_wp2
            go_roundg (gk - 1)
            case measure => omega
            case rel => exact ⟨m + 1, by omega, by go_num, by rw [HS.out, HE.out], hid (HB.out.trans (hw2.mono HB.out.size))⟩
    · have em : m = n := by omega
      subst em
      have hge : ¬ (m : Int) < m := by omega
      rcases INV.out m with ⟨eb, _⟩ | ⟨b, eb, hbm, _⟩
      · have EN : Hid (nx = 0) := hid (by rw [ND.out, eb, if_pos (by decide)])
        have EB := hid eb
        rw [eb]
        clear eb
        go_wp2
        exact bodyPost_ret (v := .tuple #[.int .u32 0, .bool false]) (by simp [results, Try.results26, go_sem]) rfl ⟨by rw [EN.out, EB.out]; rfl, HB.out⟩
      · obtain ⟨gl, o, cap', e, hc⟩ := RW.out wr HB.out (by omega)
        cases e
        obtain ⟨k0, _⟩ := hc b hbm
        have EN : Hid (nx = r.fid b) := hid (by rw [ND.out, eb, if_neg (by omega)]; rfl)
        rw [eb]
        have hbI : (b : Int) < m := by omega
        have hb0 : ¬ (b : Int) < 0 := by omega
        have hbd : decide ((b : Int) < 0) = false := decide_eq_false hb0
        have hbe : decide ((0 : Int) ≤ b) = true := decide_eq_true (by omega)
        have EB := hid eb
        have EBE := hid hbe
        clear eb hc hbe
        generalize r.fid b = fb at *
        go_wp2
        exact bodyPost_ret (v := .tuple #[.int .u32 fb, .bool true]) (by simp [results, Try.results26, go_sem]) rfl ⟨by rw [EN.out, EB.out, EBE.out], HB.out⟩
end Go.Proofs.Ytilcbkejmpfnfaa
