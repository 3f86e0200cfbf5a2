/-
  The first PAIR of what is left: pair of the package cml.
-/
import Derived.Test.YtihgiemgcmpmmaaCSrch
import Derived.Deep.LoopGhost
namespace Go.Proofs.Ytihgiemgcmpmmaa
open Go.RowKit Go.ChangeShapes Go.WideShapes Go.ChangeAt Go.Maps Go.Shelf
set_option linter.unusedVariables false
set_option linter.unusedSimpArgs false
/-- From a place on: where a maker's search stops, and whether it has found its end. -/
def scanF (l : List Rec) (g : Nat → Bool) (m : Rec) : Nat → Nat → Nat × Bool
  | 0, j => (j, false)
  | f + 1, j => if g j then scanF l g m f (j + 1) else if unmakesF (l.getD j Rec.no) m then (j, true) else if wayF (l.getD j Rec.no) m then (j, false) else scanF l g m f (j + 1)
def scanG (l : List Rec) (g : Nat → Bool) (m : Rec) (j : Nat) : Nat × Bool := scanF l g m (l.length - j) j
theorem scanG_lt {l : List Rec} {g : Nat → Bool} {m : Rec} {j : Nat} (h : j < l.length) : scanG l g m j = if g j then scanG l g m (j + 1) else if unmakesF (l.getD j Rec.no) m then (j, true) else if wayF (l.getD j Rec.no) m then (j, false) else scanG l g m (j + 1) := by
  unfold scanG
  rw [show l.length - j = (l.length - (j + 1)) + 1 by omega]
  rfl
theorem scanG_ge {l : List Rec} {g : Nat → Bool} {m : Rec} {j : Nat} (h : ¬ j < l.length) : scanG l g m j = (j, false) := by
  unfold scanG
  rw [show l.length - j = 0 by omega]
  rfl
def setN (nx : Nat → Nat) (i v : Nat) : Nat → Nat := fun k => if k = i then v else nx k
/-- The first PAIR from a maker's place on, and where each maker looks on then. -/
def pairF (l : List Rec) (g : Nat → Bool) : Nat → Nat → (Nat → Nat) → Option (Nat × Nat) × (Nat → Nat)
  | 0, _, nx => (none, nx)
  | f + 1, i, nx => if g i || !makesF (l.getD i Rec.no).k then pairF l g f (i + 1) nx else
    if (scanG l g (l.getD i Rec.no) (nx i)).2 then (some (i, (scanG l g (l.getD i Rec.no) (nx i)).1), setN nx i (scanG l g (l.getD i Rec.no) (nx i)).1)
    else pairF l g f (i + 1) (setN nx i (scanG l g (l.getD i Rec.no) (nx i)).1)
def pairG (l : List Rec) (g : Nat → Bool) (i : Nat) (nx : Nat → Nat) : Option (Nat × Nat) × (Nat → Nat) := pairF l g (l.length - i) i nx
theorem pairG_lt {l : List Rec} {g : Nat → Bool} {i : Nat} {nx : Nat → Nat} (h : i < l.length) : pairG l g i nx = if g i || !makesF (l.getD i Rec.no).k then pairG l g (i + 1) nx else
    if (scanG l g (l.getD i Rec.no) (nx i)).2 then (some (i, (scanG l g (l.getD i Rec.no) (nx i)).1), setN nx i (scanG l g (l.getD i Rec.no) (nx i)).1)
    else pairG l g (i + 1) (setN nx i (scanG l g (l.getD i Rec.no) (nx i)).1) := by
  unfold pairG
  rw [show l.length - i = (l.length - (i + 1)) + 1 by omega]
  rfl
theorem pairG_ge {l : List Rec} {g : Nat → Bool} {i : Nat} {nx : Nat → Nat} (h : ¬ i < l.length) : pairG l g i nx = (none, nx) := by
  unfold pairG
  rw [show l.length - i = 0 by omega]
  rfl
def pairV : Option (Nat × Nat) → Value
  | some (i, j) => .tuple #[.int .i64 i, .int .i64 j, .bool true]
  | none => .tuple #[.int .i64 0, .int .i64 0, .bool false]
theorem setN_same (nx : Nat → Nat) (i : Nat) : setN nx i (nx i) = nx := by funext k; unfold setN; by_cases q : k = i <;> simp [q]
theorem setN_twice (nx : Nat → Nat) (i u v : Nat) : setN (setN nx i u) i v = setN nx i v := by funext k; unfold setN; by_cases q : k = i <;> simp [q]
theorem setN_at (nx : Nat → Nat) (i v : Nat) : setN nx i v i = v := by simp [setN]
theorem IsL.at {w : World} {b off : Nat} {l : List Rec} {i : Nat} (h : IsL w (some ⟨b, off, none⟩) l) (hi : i < l.length) : RcAt w b (off + i * 9) (l.getD i Rec.no) := by
  obtain ⟨b', off', e, hc⟩ := h.2.2 (by omega)
  cases e
  exact hc i hi
set_option maxRecDepth 20000 in
set_option maxHeartbeats 4000000 in
theorem pair_c (B : Nat) (S G X : Nat) (a : Option Addr) (cap : Nat) (l : List Rec) (g : Nat → Bool) (nx0 : Nat → Nat) (w : World) (h : Sr w S G X a l.length cap g nx0) (hm : l.length ≤ 100000) (hl : ∀ w', Below B w w' → IsL w' a l) (hBX : B ≤ X) (hBw : B ≤ w.heap.size) (P : Nat) (o : Obj) (hP : w.heap[P]? = some o) (hPX : P ≠ X) :
    Calls Try.prog 34 #[.pointer (some ⟨S, 0, none⟩)] w fun e w' => e = .returned (pairV (pairG l g 0 nx0).1) ∧ Sr w' S G X a l.length cap g (pairG l g 0 nx0).2 ∧ Fr B P o w w' := by
  have HP0 := hid (Fr.start hBw hP)
  have HL := hid hl
  have HS := hid h
  obtain ⟨R, hR⟩ : ∃ R, R = pairG l g 0 nx0 := ⟨_, rfl⟩
  rw [← hR]
  have HR := hid hR
  obtain ⟨n, hn⟩ : ∃ n, n = l.length := ⟨_, rfl⟩
  rw [← hn] at hm h HS ⊢
  have HN := hid hn
  obtain ⟨c0, c1, c2⟩ := h.cells
  clear h hl hn hR hP
  go_enter Try.func34, Try.ntmps34
  go_wp2
  go_step3
  go_wp2
  go_step3
  go_wp2
  go_loopg [13] n (fun k v wr => ∃ (m : Nat) (nx : Nat → Nat), m + k = n ∧ v = .int .i64 m ∧ Hid (Sr wr S G X a n cap g nx) ∧ Hid (Fr B P o w wr) ∧ Hid (pairG l g m nx = R))
  case atStart => exact ⟨0, nx0, by omega, rfl, HS, HP0, hid HR.out.symm⟩
  case round =>
    clear HS c0 c1 c2 HP0
    obtain ⟨m, nx, hm2, rfl, HS, HB, HP⟩ := hrel
    obtain ⟨c0, c1, c2⟩ := HS.out.cells
    by_cases hlt : m < n
    · have hltI : (m : Int) < n := by omega
      have hil := HL.out wr HB.out.1
      obtain ⟨b, off, rfl, hc⟩ := hil.2.2 (by rw [← HN.out]; omega)
      have hr := hc m (by rw [← HN.out]; omega)
      have HPm := hid (pairG_lt (l := l) (g := g) (nx := nx) (show m < l.length by rw [← HN.out]; exact hlt))
      rw [HP.out] at HPm
      clear hc hil
      have k0 : wr.cell? ⟨b, off + m * 9, none⟩ = some (.int .u8 (l.getD m Rec.no).k) := hr 0 _ rfl
      have k1 := HS.out.2.1.cell hlt
      have HRm := hid (fun W (hW : Below B w W) => (IsL.at (HL.out W hW) (i := m) (by rw [← HN.out]; exact hlt)))
      clear hr
      generalize hx : l.getD m Rec.no = x at *
      cases hg : g m with
      | true =>
        rw [hg] at HPm k1
        have HP2 : Hid (pairG l g (m + 1) nx = R) := hid (by have := HPm.out; simpa using this.symm)
        clear HPm HP hg
        go_wp2
        go_roundg (gk - 1)
        case measure => omega
        case rel => exact ⟨m + 1, nx, by omega, by go_num, HS, HB, HP2⟩
      | false =>
        rw [hg] at HPm k1
        cases hk : makesF x.k with
        | false =>
          rw [hk] at HPm
          have HP2 : Hid (pairG l g (m + 1) nx = R) := hid (by have := HPm.out; simpa using this.symm)
          have MC := hid (makes_c x.k wr)
          rw [hk] at MC
          clear HPm HP hg hk
          go_wp2_with (go_at_call 46; refine MC.out.mono ?_; rintro _ _ ⟨rfl, rfl⟩)
          go_roundg (gk - 1)
          case measure => omega
          case rel => exact ⟨m + 1, nx, by omega, by go_num, HS, HB, HP2⟩
        | true =>
          rw [hk] at HPm
          have MC := hid (makes_c x.k wr)
          rw [hk] at MC
          clear HP hg hk
          go_wp2_with (go_at_call 46; refine MC.out.mono ?_; rintro _ _ ⟨rfl, rfl⟩)
          clear MC c0 c1 c2 k0 k1
          obtain ⟨g1, hg1⟩ : ∃ g1, g1 = gk := ⟨_, rfl⟩
          have hm3 : m + g1 = n := by omega
          go_loopg [] (n + 1 - nx m) (fun k2 wy => ∃ (j : Nat), k2 = n + 1 - j ∧ Hid (Sr wy S G X (some ⟨b, off, none⟩) n cap g (setN nx m j)) ∧ Hid (Fr B P o w wy) ∧ Hid (scanG l g x j = scanG l g x (nx m)))
          case atStart => exact ⟨nx m, rfl, by rw [setN_same]; exact HS, HB, hid rfl⟩
          case round =>
            clear HS HB hg1
            obtain ⟨j, rfl, HS, HB, HC⟩ := hrel
            obtain ⟨c0, c1, c2⟩ := HS.out.cells
            have k9 := HS.out.2.2.1.cell hlt
            have k8 := HS.out.2.2.1.frozen m
            rw [setN_at] at k9
            by_cases hj : j < n
            · have hjI : (j : Int) < n := by omega
              have HCj := hid (scanG_lt (l := l) (g := g) (m := x) (j := j) (by rw [← HN.out]; exact hj))
              rw [HC.out] at HCj
              have k7 := HS.out.2.1.cell hj
              have HRj := hid (fun W (hW : Below B w W) => (IsL.at (HL.out W hW) (i := j) (by rw [← HN.out]; exact hj)))
              generalize hy : l.getD j Rec.no = y at *
              have hset : ∀ W, Sr W S G X (some ⟨b, off, none⟩) n cap g (setN nx m j) → Sr (W.setCell ⟨X, m, none⟩ (.int .i64 (j + 1))) S G X (some ⟨b, off, none⟩) n cap g (setN nx m (j + 1)) := fun W hW => hW.setX m (j + 1) (fun k hk => by unfold setN; by_cases q : k = m <;> simp [q])
              have HSET := hid hset
              clear hset HC
              cases hgj : g j with
              | true =>
                rw [hgj] at HCj k7
                have HC2 : Hid (scanG l g x (j + 1) = scanG l g x (nx m)) := hid (by have := HCj.out; simpa using this.symm)
                have HS3 := hid (HSET.out _ HS.out)
                have HB3 := hid (HB.out.set (p := ⟨X, m, none⟩) hBX hPX (.int .i64 ((j : Int) + 1)))
                clear HCj HSET HRj hgj
                go_wp2
                go_region
                go_wp2
                go_roundg (n + 1 - (j + 1))
                case measure => omega
                case rel => exact ⟨j + 1, rfl, HS3, hid HB3.out.drew, HC2⟩
              | false =>
                rw [hgj] at HCj k7
                have UC := hid (unmakes_c y x b (off + j * 9) b (off + m * 9) wr.drew (HRj.out _ HB.out.drew.1) (HRm.out _ HB.out.drew.1))
                have HB1 := hid HB.out.drew
                have HS1 := hid (show Sr wr.drew S G X (some ⟨b, off, none⟩) n cap g (setN nx m j) from HS.out)
                clear hgj HB
                cases hu : unmakesF y x with
                | true =>
                  rw [hu] at HCj UC
                  have hsc : scanG l g x (nx m) = (j, true) := by have := HCj.out; simpa using this
                  rw [hsc] at HPm
                  have HR2 : Hid (R = (some (m, j), setN nx m j)) := hid (by have := HPm.out; simpa using this)
                  clear HCj HPm hsc hu
                  go_wp2
                  go_region
                  go_wp2_with (go_at_call 47; refine UC.out.mono ?_; rintro _ w2 ⟨rfl, hb2⟩)
                  try rw [Exit.noGoto_ret]
                  go_ret3
                  refine ⟨?_, ?_, HB1.out.on hb2⟩
                  · rw [HR2.out]; rfl
                  · rw [HR2.out]; exact HS1.out.later hb2
                | false =>
                  rw [hu] at HCj UC
                  cases hv : wayF y x with
                  | true =>
                    rw [hv] at HCj
                    have hsc : scanG l g x (nx m) = (j, false) := by have := HCj.out; simpa using this
                    rw [hsc] at HPm
                    have HP2 : Hid (pairG l g (m + 1) (setN nx m j) = R) := hid (by have := HPm.out; simpa using this.symm)
                    clear HCj HPm hsc hu
                    go_wp2
                    go_region
                    go_wp2_with (first
                      | (go_at_call 48; refine WC.out.mono ?_; rintro _ w3 ⟨rfl, hb3⟩)
                      | (go_at_call 47; refine UC.out.mono ?_; rintro _ w2 ⟨rfl, hb2⟩; have HB2 := hid (HB1.out.on hb2); have WC := hid (way_c y x b (off + j * 9) b (off + m * 9) w2 (HRj.out _ HB2.out.1) (HRm.out _ HB2.out.1)); rw [hv] at WC; have HS2 := hid (HS1.out.later hb2); obtain ⟨d0, d1, d2⟩ := HS2.out.cells; have HB0 := hid hb2; clear hb2))
                    go_roundg (g1 - 1)
                    case measure => omega
                    case rel => exact ⟨m + 1, _, by omega, by go_num, hid (HS2.out.later hb3), hid (HB2.out.on hb3), HP2⟩
                  | false =>
                    rw [hv] at HCj
                    have HC2 : Hid (scanG l g x (j + 1) = scanG l g x (nx m)) := hid (by have := HCj.out; simpa using this.symm)
                    clear HCj hu
                    go_wp2
                    go_region
                    go_wp2_with (first
                      | (go_at_call 48; refine WC.out.mono ?_; rintro _ w3 ⟨rfl, hb3⟩; have HB3 := hid (HB2.out.on hb3); have HS3 := hid (HS2.out.later hb3); obtain ⟨e0, e1, e2⟩ := HS3.out.cells; have q9 := HS3.out.2.2.1.cell hlt; have q8 := HS3.out.2.2.1.frozen m; rw [setN_at] at q9; clear hb3)
                      | (go_at_call 47; refine UC.out.mono ?_; rintro _ w2 ⟨rfl, hb2⟩; have HB2 := hid (HB1.out.on hb2); have WC := hid (way_c y x b (off + j * 9) b (off + m * 9) w2 (HRj.out _ HB2.out.1) (HRm.out _ HB2.out.1)); rw [hv] at WC; have HS2 := hid (HS1.out.later hb2); obtain ⟨d0, d1, d2⟩ := HS2.out.cells; have HB0 := hid hb2; clear hb2))
                    go_roundg (n + 1 - (j + 1))
                    case measure => omega
                    case rel => exact ⟨j + 1, rfl, hid (HSET.out _ HS3.out), hid (HB3.out.set (p := ⟨X, m, none⟩) hBX hPX _), HC2⟩
            · have hge : ¬ (j : Int) < n := by omega
              have HCj := hid (scanG_ge (l := l) (g := g) (m := x) (j := j) (by rw [← HN.out]; exact hj))
              rw [HC.out] at HCj
              rw [HCj.out] at HPm
              have HP2 : Hid (pairG l g (m + 1) (setN nx m j) = R) := hid (by have := HPm.out; simpa using this.symm)
              clear HPm HCj HC
              go_wp2
              go_region
              go_wp2
              go_roundg (g1 - 1)
              case measure => omega
              case rel => exact ⟨m + 1, _, by omega, by go_num, HS, hid HB.out.drew, HP2⟩
    · have em : m = n := by omega
      subst em
      have hge : ¬ (m : Int) < m := by omega
      have HE := hid (pairG_ge (l := l) (g := g) (i := m) (nx := nx) (by rw [← HN.out]; omega))
      rw [HP.out] at HE
      clear HR HP
      go_wp2
      try rw [Exit.noGoto_ret]
      go_ret3
      refine ⟨?_, ?_, HB.out⟩
      · rw [HE.out]; rfl
      · rw [HE.out]; exact HS.out
end Go.Proofs.Ytihgiemgcmpmmaa
