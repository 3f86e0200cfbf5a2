/-
  The document's List, Same, Dirty, Walk of caches.
-/
import Derived.Test.YtilcbkejmpfnfaaCR7
namespace Go.Proofs.Ytilcbkejmpfnfaa
open Go.RowKit Go.ChangeShapes Go.WideShapes Go.ChangeAt Go.Maps Go.Shelf
set_option linter.unusedVariables false
set_option linter.unusedSimpArgs false
set_option maxRecDepth 100000
set_option maxHeartbeats 2000000 in
theorem rcsame_c {w : World} {b1 b2 : Nat} {v1 v2 : Value} {us : List Int} (h1 : RdF w b1 v1 us) (h2 : RdF w b2 v2 us) (hm : us.length ≤ 1000) :
    Calls Try.prog 30 #[v1, v2] w fun e w' => e = .returned (.bool true) ∧ Below w.heap.size w w' := by
  have H1 := hid h1
  have H2 := hid h2
  obtain ⟨a1, cap1, e1, hcap1, _⟩ := h1
  obtain ⟨a2, cap2, e2, hcap2, _⟩ := h2
  subst e1 e2
  obtain ⟨n, hn⟩ : ∃ n, n = us.length := ⟨_, rfl⟩
  rw [← hn] at hm hcap1 hcap2 H1 H2
  rw [← hn]
  clear hn
  have hnn : ((n : Int) != (n : Int)) = false := by simp
  go_enter Try.func30, Try.ntmps30
  go_wp2
  go_loopg [5] n (fun gk j wr => ∃ m : Nat, m + gk = n ∧ j = .int .i64 m ∧ Hid (Below w.heap.size w wr))
  case atStart => exact ⟨0, by omega, rfl, hid (Below.refl _ _)⟩
  case round =>
    obtain ⟨m, hm2, rfl, HB⟩ := hrel
    by_cases hlt : m < n
    · have hltI : (m : Int) < n := by omega
      obtain ⟨eL1, _, hr1⟩ := (H1.out.later HB.out).at
      obtain ⟨g1, o1, ea1, _, hc1⟩ := hr1 (by omega)
      subst ea1
      obtain ⟨eL2, _, hr2⟩ := (H2.out.later HB.out).at
      obtain ⟨g2, o2, ea2, _, hc2⟩ := hr2 (by omega)
      subst ea2
      have k1 := hc1 m hlt
      have k2 := hc2 m hlt
      clear eL1 eL2 hr1 hr2 hc1 hc2
      generalize us.getD m 0 = y at *
      have hyy : (y != y) = false := by simp
      go_wp2_with fail
      go_region
      go_wp2
      go_roundg (gk - 1)
      case measure => omega
      case rel => exact ⟨m + 1, by omega, by go_num, hid (Below.drew HB.out)⟩
    · have em : m = n := by omega
      subst em
      have hge : ¬ (m : Int) < m := by omega
      go_wp2
      go_ret
      exact ⟨rfl, HB.out⟩
def Rc.dirtyR (r : Rc) (f : Int) : Bool := decide (0 ≤ r.at f) && r.dty (r.at f).toNat
set_option maxHeartbeats 1000000 in
theorem rcdirty_c {w : World} {g : Nat} {vl vh : Value} {r : Rc} (h : IsRc w g vl vh r) (hm : r.L.length ≤ 900) (f : Int) :
    Calls Try.prog 28 #[pA g, .int .u32 f] w fun e w' => e = .returned (.bool (r.dirtyR f)) ∧ w' = w := by
  have AC := hid (rcat_c h (by omega) f)
  unfold Rc.dirtyR
  rcases r.at_cases f with ea | ⟨i, ea, hi, _⟩
  · rw [ea] at AC
    rw [ea]
    clear h ea
    go_enter Try.func28, Try.ntmps28
    go_wp2_with (go_at_call 52; refine AC.out.mono ?_; rintro _ w1 ⟨rfl, h1⟩; rw [h1]; clear h1)
    go_ret
    exact ⟨rfl, rfl⟩
  · rw [ea] at AC
    rw [ea]
    obtain ⟨c0, c1, c2, cf, cl⟩ := h.cells
    obtain ⟨gl, o, cap, e, hc⟩ := h.rowL (by omega)
    subst e
    obtain ⟨k0, k1⟩ := hc i hi
    have hiI : (i : Int) < (r.L.length : Int) := by omega
    have hi0 : (0 : Int) ≤ (i : Int) := by omega
    have hid0 : decide ((0 : Int) ≤ (i : Int)) = true := decide_eq_true hi0
    have hid1 : decide ((i : Int) ≥ 0) = true := decide_eq_true hi0
    rw [hid0, Int.toNat_natCast, Bool.true_and]
    clear h ea hc cf
    generalize r.L.length = n at *
    generalize r.dty i = dm at *
    go_enter Try.func28, Try.ntmps28
    go_wp2_with (go_at_call 52; refine AC.out.mono ?_; rintro _ w1 ⟨rfl, h1⟩; rw [h1]; clear h1)
    go_ret
    exact ⟨rfl, rfl⟩
theorem Rl.dirtyB {c : Ca} {r : Rc} (h : Rl c r) (f : Int) : r.dirtyR f = c.dirtyB f := by
  unfold Rc.dirtyR
  cases hh : c.has f with
  | true =>
    obtain ⟨i, e, _, hi, e2, e3⟩ := h.at_has hh
    rw [e, decide_eq_true (Int.natCast_nonneg _), Int.toNat_natCast, Bool.true_and]; exact e3
  | false => rw [h.at_none hh, Rl.dirty_no hh]; rfl
theorem fids_snoc (r : Rc) {m : Nat} (h : m < r.L.length) : sortF ((r.L.take (m + 1)).map (·.1)) = insF (r.fid m) (sortF ((r.L.take m).map (·.1))) := by
  rw [take_snocC r.L h, List.map_append]
  show sortF ((r.L.take m).map (·.1) ++ [r.L[m].1]) = _
  rw [sortF_snoc, Rc.fid_eq h]
set_option maxHeartbeats 4000000 in
theorem rclist_c {w : World} {g : Nat} {vl vh : Value} {r : Rc} (h : IsRc w g vl vh r) (hm : r.L.length ≤ 400) :
    Calls Try.prog 31 #[pA g] w fun e w' => ∃ v, e = .returned v ∧ OwF w' w.heap.size v r.ss ∧ Below w.heap.size w w' := by
  have H := hid h
  have FIN : Hid (sortF ((r.L.take r.L.length).map (·.1)) = r.ss) := hid (by rw [List.take_length]; rfl)
  have STP : Hid (∀ m, m < r.L.length → sortF ((r.L.take (m + 1)).map (·.1)) = insF (r.fid m) (sortF ((r.L.take m).map (·.1)))) := hid (fun m hm => fids_snoc r hm)
  have LE : Hid (∀ m, (sortF ((r.L.take m).map (·.1))).length ≤ 400) := hid (fun m => by
    rw [sort_len, List.length_map]
    have h2 := List.length_take_le' m r.L
    omega)
  obtain ⟨a, cap, e, hcap⟩ := own_shapeC h.2.1
  subst e
  clear h
  obtain ⟨n, hn⟩ : ∃ n, n = r.L.length := ⟨_, rfl⟩
  rw [← hn] at hm FIN STP hcap
  have HN := hid hn
  have L1 : ∀ W, Below w.heap.size w W → W.cell? ⟨g, 1, none⟩ = some (.slice a n cap) := fun W hb => by have := (H.out.later hb).cells.2.1; rw [hn]; exact this
  clear hn
  go_enter Try.func31, Try.ntmps31
  go_wp2
  go_loopg [3, 4] n (fun gk v j wr => ∃ m : Nat, m + gk = n ∧ j = .int .i64 m ∧ Hid (OwF wr w.heap.size v (sortF ((r.L.take m).map (·.1)))) ∧ Hid (Below w.heap.size w wr))
  case atStart => exact ⟨0, by omega, rfl, hid (World.ownsRow_nil _ _ _ _), hid (Below.refl _ _)⟩
  case round =>
    obtain ⟨m, hm2, rfl, HO, HB⟩ := hrel
    obtain ⟨va, vn, vc, rfl⟩ := own_anyW HO.out
    have k9 := L1 wr HB.out
    by_cases hlt : m < n
    · have hltI : (m : Int) < n := by omega
      obtain ⟨gl, o, cap', e, hc⟩ := (H.out.later HB.out).rowL (by rw [← HN.out]; omega)
      rw [← HN.out] at e
      cases e
      obtain ⟨k0, k1⟩ := hc m (by rw [← HN.out]; exact hlt)
      have IC := hid (rcinsert_c (HO.out.rd.base (Nat.zero_le _)) (by have := LE.out m; omega) (r.fid m))
      have HS := hid (STP.out m hlt)
      clear hc k1
      generalize r.fid m = fm at *
      go_wp2_with (go_at_call 53; refine IC.out.mono ?_; rintro _ w9 ⟨v9, rfl, ho9, hb9⟩; (have O9 := hid (own_baseC ho9 HB.out.size)); (have B9 := hid (HB.out.trans (hb9.mono HB.out.size))); (obtain ⟨a9, n9, c9, rfl⟩ := own_anyW ho9); clear ho9 hb9)
      go_roundg (gk - 1)
      case measure => omega
      case rel => exact ⟨m + 1, by omega, by go_num, hid (by rw [HS.out]; exact O9.out), B9⟩
    · have em : m = n := by omega
      subst em
      have hge : ¬ (m : Int) < m := by omega
      go_wp2
      go_ret
      exact ⟨_, rfl, by have := HO.out; rw [FIN.out] at this; exact this, HB.out⟩
/-- Those that are dear by n, and not at hand. -/
def Rc.lvl (r : Rc) (n : Int) (H : List (Int × Int)) : List Int := sortF ((H.filter (fun p => decide (p.2 = n) && !decide (0 ≤ r.at p.1))).map (·.1))
def Rc.walkM (r : Rc) (m : Nat) : List Int := (List.range m).flatMap (fun j : Nat => r.lvl (100 - (j : Int)) r.H)
theorem lvl_snoc (r : Rc) (n : Int) {m : Nat} (h : m < r.H.length) : r.lvl n (r.H.take (m + 1)) = if r.hn m = n ∧ r.at (r.hf m) < 0 then insF (r.hf m) (r.lvl n (r.H.take m)) else r.lvl n (r.H.take m) := by
  unfold Rc.lvl
  rw [take_snocC r.H h, List.filter_append, List.map_append, (Rc.hf_eq h).1, (Rc.hf_eq h).2]
  by_cases q : r.H[m].2 = n ∧ r.at r.H[m].1 < 0
  · rw [if_pos q]
    have e : [r.H[m]].filter (fun p => decide (p.2 = n) && !decide (0 ≤ r.at p.1)) = [r.H[m]] := by
      rw [List.filter_cons_of_pos (by rw [decide_eq_true q.1, decide_eq_false (by omega)]; rfl)]; rfl
    rw [e]
    exact sortF_snoc _ _
  · rw [if_neg q]
    have e : [r.H[m]].filter (fun p => decide (p.2 = n) && !decide (0 ≤ r.at p.1)) = [] := by
      rw [List.filter_cons_of_neg]
      · rfl
      · intro p
        apply q
        simp at p
        exact ⟨p.1, by omega⟩
    rw [e]; simp
theorem lvl_len (r : Rc) (n : Int) (H : List (Int × Int)) : (r.lvl n H).length ≤ H.length := by
  unfold Rc.lvl
  rw [sort_len, List.length_map]
  exact List.length_filter_le _ _
theorem walkM_succ (r : Rc) (m : Nat) : r.walkM (m + 1) = r.walkM m ++ r.lvl (100 - (m : Int)) r.H := by unfold Rc.walkM; rw [List.range_succ, List.flatMap_append]; simp
theorem walkM_len (r : Rc) (h : r.H.length ≤ 8) : ∀ m, m ≤ 100 → (r.walkM m).length ≤ 8 * m
  | 0, _ => by simp [Rc.walkM]
  | m + 1, hm => by
    rw [walkM_succ, List.length_append]
    have h1 := walkM_len r h m (by omega)
    have h2 := lvl_len r (100 - (m : Int)) r.H
    omega
/-- append of a whole row of fids. -/
theorem wpList_appF (w : World) {ops : Array Oper} {rest : List Oper} {o : Oper} {a : Act} {Q : Exit → Act → World → Prop} (hgd : o.guard = none) (s x : Operand)
    (ho : o.op = .call { callee := .builtin .append, args := #[s, x], argTypes := #[32, 32] })
    (base : Nat) (v : Value) (L : List Int) (hs : a.eval s = v) (hown : OwF w base v L) (u : Value) (M : List Int) (hx : a.eval x = u) (hsrc : OwF w 0 u M) (hl : L.length ≤ 1000) (hl2 : M.length ≤ 1000) (hb : base ≤ w.heap.size)
    (h : ∀ v' w', OwF w' base v' (L ++ M) → w.grownBy w' v.ownBlock → wpList Try.prog ops Q rest (a.put o.dst v') w') : wpList Try.prog ops Q (o :: rest) a w := by
  obtain ⟨i0, hi0, hz0, hz1, hz2⟩ := info_fid
  rcases hsrc.2 with ⟨rfl, h0⟩ | ⟨g, cap, cur, rfl, _, hg, hn, hm, hsz2, htk⟩
  · have hM : M = [] := List.eq_nil_of_length_eq_zero h0
    subst hM
    refine wpList_append_own_none hgd s x 32 ho base 24 i0 1 Try.underlying32 hi0 v _ _ hs hown hx ?_
    exact h v w (by simpa using hown) (World.grownBy.refl w _)
  · refine wpList_append_own w hgd s x 32 ho base 24 i0 (.int .u32 0) 1 4 Try.underlying32 hi0 hz0 hz1 hz2 (by rfl) (by decide) v L.length _ hs hown ⟨g, 0, none⟩ M.length cap (M.map encF) hx (by simp) (fun j y hj => hsrc.cells (g := g) rfl j y hj) (fun y hy => ?_) (by unfold maxLen; omega) (by omega) hb ?_
    · obtain ⟨p, _, rfl⟩ := List.mem_map.1 hy
      rfl
    · intro v' w' q1 q2 _
      exact h v' w' (by unfold OwF; rw [List.map_append, List.length_append]; exact q1) q2
end Go.Proofs.Ytilcbkejmpfnfaa
