/-
  What the document's cache is in memory; its small calls.
-/
import Derived.Test.YtilcbkejmpfnfaaCSm
import Derived.Deep.AppendLies
namespace Go.Proofs.Ytilcbkejmpfnfaa
open Go.RowKit Go.ChangeShapes Go.WideShapes Go.ChangeAt Go.Maps Go.Shelf
set_option linter.unusedVariables false
set_option linter.unusedSimpArgs false
set_option maxRecDepth 100000
def itC (p : Int × Bool) : List Value := [.int .u32 p.1, .bool p.2]
def dnC (p : Int × Int) : List Value := [.int .u32 p.1, .int .i64 p.2]
theorem twoC_len {α : Type} {c : α → List Value} (hc : ∀ x, (c x).length = 2) (L : List α) : (L.flatMap c).length = L.length * 2 := by
  induction L with
  | nil => rfl
  | cons p ps ih => rw [List.flatMap_cons, List.length_append, ih, List.length_cons, hc]; omega
theorem twoC_get {α : Type} {c : α → List Value} (hc : ∀ x, (c x).length = 2) (L : List α) (i : Nat) (h : i < L.length) (j : Nat) (hj : j < 2) : (L.flatMap c)[i * 2 + j]? = (c L[i])[j]? := by
  induction L generalizing i with
  | nil => simp at h
  | cons p ps ih =>
    rw [List.flatMap_cons]
    rcases i with _ | i
    · rw [Nat.zero_mul, Nat.zero_add, List.getElem?_append_left (by rw [hc]; exact hj)]; rfl
    · rw [List.getElem?_append_right (by rw [hc]; omega)]
      have : (i + 1) * 2 + j - (c p).length = i * 2 + j := by rw [hc]; omega
      rw [this, ih i (by simpa using h)]; rfl
def OwI (w : World) (base : Nat) (v : Value) (L : List (Int × Bool)) : Prop := w.ownsRow base 78 2 v L.length (L.flatMap itC)
def OwD (w : World) (base : Nat) (v : Value) (H : List (Int × Int)) : Prop := w.ownsRow base 80 2 v H.length (H.flatMap dnC)
theorem own_shapeC {w : World} {base e size n : Nat} {v : Value} {xs : List Value} (h : w.ownsRow base e size v n xs) : ∃ a cap, v = .slice a n cap ∧ n ≤ cap := by
  rcases h.2 with ⟨hv, hn⟩ | ⟨g, cap, cur, hv, _, _, hc, _⟩
  · exact ⟨_, _, by rw [hv, hn], by omega⟩
  · exact ⟨_, _, hv, hc⟩
theorem own_outC {S : Nat → Prop} {w w' : World} {base e size n : Nat} {v : Value} {xs : List Value} (h : w.ownsRow base e size v n xs) (ho : Ou S w w') (hS : ∀ k, v.ownBlock = some k → ¬ S k) : w'.ownsRow base e size v n xs := by
  refine ⟨h.1, ?_⟩
  rcases h.2 with h | ⟨g, cap, cur, e1, e2, e3, e4⟩
  · exact .inl h
  · exact .inr ⟨g, cap, cur, e1, e2, by rw [ho.block g (lt_blkC e3) (hS g (by rw [e1]; rfl))]; exact e3, e4⟩
theorem own_latC {w w' : World} {base e size n : Nat} {v : Value} {xs : List Value} (h : w.ownsRow base e size v n xs) (hb : Below w.heap.size w w') : w'.ownsRow base e size v n xs := own_outC h (Ou.of (S := fun _ => False) hb) (fun _ _ => id)
theorem own_baseC {w : World} {base base' e size n : Nat} {v : Value} {xs : List Value} (h : w.ownsRow base e size v n xs) (hB : base' ≤ base) : w.ownsRow base' e size v n xs := by
  refine ⟨h.1, ?_⟩
  rcases h.2 with h | ⟨g, cap, cur, e1, e2, e4⟩
  · exact .inl h
  · exact .inr ⟨g, cap, cur, e1, by omega, e4⟩
theorem below_grownC {B : Nat} {a w w' : World} {base : Nat} {e size n : Nat} {v : Value} {xs : List Value} (h : Below B a w) (hown : w.ownsRow base e size v n xs) (hB : B ≤ base) (hBw : B ≤ w.heap.size) (hg : w.grownBy w' v.ownBlock) : Below B a w' :=
  Below.grown h hg hBw (fun k hk => by have := (hown.lt k hk).1; omega)
theorem own_twoC {α : Type} {c : α → List Value} (hc : ∀ x, (c x).length = 2) {w : World} {base e : Nat} {v : Value} {L : List α} (h : w.ownsRow base e 2 v L.length (L.flatMap c)) (hp : 0 < L.length) :
    ∃ g o cap, v = .slice (some ⟨g, o, none⟩) L.length cap ∧ L.length ≤ cap ∧ o = 0 ∧ base ≤ g ∧ (∃ cur, w.heap[g]? = some (.cells cur e (0, 0)) ∧ L.length * 2 ≤ cur.size) ∧ ∀ i (hi : i < L.length), ∀ u v, c L[i] = [u, v] → w.cell? ⟨g, o + i * 2, none⟩ = some u ∧ w.cell? ⟨g, o + i * 2 + 1, none⟩ = some v := by
  rcases h.2 with ⟨rfl, hn⟩ | ⟨g, cap, cur, rfl, hb, hg, hn, hc1, hs, ht⟩
  · omega
  · refine ⟨g, 0, cap, rfl, hn, rfl, hb, ⟨cur, hg, by have := Nat.mul_le_mul_right 2 hn; omega⟩, fun i hi u v huv => ?_⟩
    have key : ∀ j, j < 2 → w.cell? ⟨g, 0 + i * 2 + j, none⟩ = (c L[i])[j]? := by
      intro j hj
      have e := h.cells (g := g) rfl (i * 2 + j)
      have hlt : j < (c L[i]).length := by rw [hc]; exact hj
      have := e _ (by rw [twoC_get hc L i hi j hj, List.getElem?_eq_getElem hlt])
      rw [List.getElem?_eq_getElem hlt, ← this]
      congr 1
      unfold Addr.add
      split
      · rename_i q; simp only [Nat.zero_add]; rw [q]
      · simp
    have k0 := key 0 (by omega)
    have k1 := key 1 (by omega)
    rw [huv] at k0 k1
    exact ⟨k0, k1⟩
theorem own_types {w : World} {base base' e e' size size' n n' : Nat} {v v' : Value} {xs xs' : List Value} (h : w.ownsRow base e size v n xs) (h' : w.ownsRow base' e' size' v' n' xs') (hne : e ≠ e') {k : Nat} (hk : v.ownBlock = some k) : v'.ownBlock ≠ some k := fun hk' => by
  rcases h.2 with ⟨rfl, _⟩ | ⟨g, cap, cur, rfl, _, e3, _⟩
  · cases hk
  · cases hk
    rcases h'.2 with ⟨rfl, _⟩ | ⟨g', cap', cur', rfl, _, e3', _⟩
    · cases hk'
    · cases hk'
      rw [e3] at e3'
      cases e3'
      exact hne rfl
/-- The document's cache in memory: its block, its two rows. -/
def IsRc (w : World) (g : Nat) (vl vh : Value) (r : Rc) : Prop :=
  w.heap[g]? = some (.cells #[.int .i64 r.most, vl, vh] 75 (0, 0)) ∧ OwI w 0 vl r.L ∧ OwD w 0 vh r.H
/-- The blocks of it. -/
def Bk (g : Nat) (vl vh : Value) (k : Nat) : Prop := k = g ∨ vl.ownBlock = some k ∨ vh.ownBlock = some k
theorem IsRc.out {S : Nat → Prop} {w w' : World} {g : Nat} {vl vh : Value} {r : Rc} (h : IsRc w g vl vh r) (ho : Ou S w w') (hS : ∀ k, Bk g vl vh k → ¬ S k) : IsRc w' g vl vh r :=
  ⟨by rw [ho.block g (lt_blkC h.1) (hS g (.inl rfl))]; exact h.1, own_outC h.2.1 ho (fun k hk => hS k (.inr (.inl hk))), own_outC h.2.2 ho (fun k hk => hS k (.inr (.inr hk)))⟩
theorem IsRc.later {w w' : World} {g : Nat} {vl vh : Value} {r : Rc} (h : IsRc w g vl vh r) (hb : Below w.heap.size w w') : IsRc w' g vl vh r := h.out (Ou.of (S := fun _ => False) hb) (fun _ _ => id)
theorem IsRc.lt {w : World} {g : Nat} {vl vh : Value} {r : Rc} (h : IsRc w g vl vh r) {k : Nat} (hk : Bk g vl vh k) : k < w.heap.size := by
  rcases hk with rfl | hk | hk
  · exact lt_blkC h.1
  · exact (h.2.1.lt k hk).2
  · exact (h.2.2.lt k hk).2
theorem IsRc.ty {w : World} {g : Nat} {vl vh : Value} {r : Rc} (h : IsRc w g vl vh r) {k : Nat} (hk : Bk g vl vh k) : ∃ cur t, w.heap[k]? = some (.cells cur t (0, 0)) ∧ (t = 75 ∨ t = 78 ∨ t = 80) := by
  rcases hk with rfl | hk | hk
  · exact ⟨_, _, h.1, .inl rfl⟩
  · rcases h.2.1.2 with ⟨rfl, _⟩ | ⟨g', cap, cur, rfl, _, e3, _⟩
    · cases hk
    · cases hk; exact ⟨_, _, e3, .inr (.inl rfl)⟩
  · rcases h.2.2.2 with ⟨rfl, _⟩ | ⟨g', cap, cur, rfl, _, e3, _⟩
    · cases hk
    · cases hk; exact ⟨_, _, e3, .inr (.inr rfl)⟩
/-- Its blocks and those of the program's cache are not the same. -/
theorem IsRc.apart {w : World} {g : Nat} {vl vh : Value} {r : Rc} (h : IsRc w g vl vh r) {p b1 b2 : Nat} {c : Ca} (hc : IsCa w p b1 b2 c) {k : Nat} (hk : Bk g vl vh k) : ¬ Tri p b1 b2 k := by
  obtain ⟨cur, t, e, ht⟩ := h.ty hk
  rintro (rfl | rfl | rfl)
  · rw [hc.1] at e; cases e; revert ht; decide
  · obtain ⟨D, ⟨es, clock, hb, _⟩, _⟩ := hc.2.1; rw [hb] at e; cases e
  · obtain ⟨D, ⟨es, clock, hb, _⟩, _⟩ := hc.2.2.1; rw [hb] at e; cases e
theorem IsRc.cells {w : World} {g : Nat} {vl vh : Value} {r : Rc} (h : IsRc w g vl vh r) :
    w.cell? ⟨g, 0, none⟩ = some (.int .i64 r.most) ∧ w.cell? ⟨g, 1, none⟩ = some vl ∧ w.cell? ⟨g, 2, none⟩ = some vh ∧ (∀ o, w.frozen? ⟨g, o, none⟩ = false) ∧ g < w.heap.size := by
  have e := h.1
  refine ⟨by simp [World.cell?, e], by simp [World.cell?, e], by simp [World.cell?, e], fun o => by simp [World.frozen?, e], lt_blkC e⟩
/-- What is read of its rows. -/
theorem IsRc.rowL {w : World} {g : Nat} {vl vh : Value} {r : Rc} (h : IsRc w g vl vh r) (hp : 0 < r.L.length) :
    ∃ gl o cap, vl = .slice (some ⟨gl, o, none⟩) r.L.length cap ∧ ∀ i, i < r.L.length → w.cell? ⟨gl, o + i * 2, none⟩ = some (.int .u32 (r.fid i)) ∧ w.cell? ⟨gl, o + i * 2 + 1, none⟩ = some (.bool (r.dty i)) := by
  obtain ⟨gl, o, cap, e, _, _, _, _, hc⟩ := own_twoC (c := itC) (fun _ => rfl) h.2.1 hp
  exact ⟨gl, o, cap, e, fun i hi => by rw [Rc.fid_eq hi, Rc.dty_eq hi]; exact hc i hi _ _ rfl⟩
def Rc.hf (r : Rc) (i : Nat) : Int := (r.H.getD i (0, 0)).1
def Rc.hn (r : Rc) (i : Nat) : Int := (r.H.getD i (0, 0)).2
theorem Rc.hf_eq {r : Rc} {i : Nat} (h : i < r.H.length) : r.hf i = r.H[i].1 ∧ r.hn i = r.H[i].2 := by unfold Rc.hf Rc.hn; simp [List.getD, List.getElem?_eq_getElem h]
theorem IsRc.rowH {w : World} {g : Nat} {vl vh : Value} {r : Rc} (h : IsRc w g vl vh r) (hp : 0 < r.H.length) :
    ∃ gl o cap, vh = .slice (some ⟨gl, o, none⟩) r.H.length cap ∧ ∀ i, i < r.H.length → w.cell? ⟨gl, o + i * 2, none⟩ = some (.int .u32 (r.hf i)) ∧ w.cell? ⟨gl, o + i * 2 + 1, none⟩ = some (.int .i64 (r.hn i)) := by
  obtain ⟨gl, o, cap, e, _, _, _, _, hc⟩ := own_twoC (c := dnC) (fun _ => rfl) h.2.2 hp
  exact ⟨gl, o, cap, e, fun i hi => by rw [(Rc.hf_eq hi).1, (Rc.hf_eq hi).2]; exact hc i hi _ _ rfl⟩
theorem info_item : ∃ i : TypeInfo, Try.prog.info? 78 = some i ∧ i.zero = some (.agg #[.int .u32 0, .bool false]) ∧ i.size = 2 ∧ i.bytes = 8 := by
  have h : (Try.prog.info? 78).map (fun i => (i.zero, i.size, i.bytes)) = some (some (.agg #[.int .u32 0, .bool false]), 2, 8) := by kernel_rfl
  cases hi : Try.prog.info? 78 with
  | none => rw [hi] at h; cases h
  | some i => rw [hi] at h; simp at h; exact ⟨i, rfl, h.1, h.2.1, h.2.2⟩
theorem info_dear : ∃ i : TypeInfo, Try.prog.info? 80 = some i ∧ i.zero = some (.agg #[.int .u32 0, .int .i64 0]) ∧ i.size = 2 ∧ i.bytes = 16 := by
  have h : (Try.prog.info? 80).map (fun i => (i.zero, i.size, i.bytes)) = some (some (.agg #[.int .u32 0, .int .i64 0]), 2, 16) := by kernel_rfl
  cases hi : Try.prog.info? 80 with
  | none => rw [hi] at h; cases h
  | some i => rw [hi] at h; simp at h; exact ⟨i, rfl, h.1, h.2.1, h.2.2⟩
theorem two_news {w : World} {g : Nat} {u v : Value} {t : TypeId} (hb : w.heap[g]? = some (.cells #[u, v] t (0, 0))) : ∀ j x, [u, v][j]? = some x → w.cell? ((⟨g, 0, none⟩ : Addr).add j) = some x := World.news_of_block hb
theorem itC_one (p : Int × Bool) : ∀ u ∈ itC p, u.oneCell' = true := fun u hu => by
  simp [itC] at hu
  rcases hu with rfl | rfl <;> rfl
theorem dnC_one (p : Int × Int) : ∀ u ∈ dnC p, u.oneCell' = true := fun u hu => by
  simp [dnC] at hu
  rcases hu with rfl | rfl <;> rfl
set_option maxHeartbeats 1000000 in
theorem rcnew_c (n : Int) (h0 : 1 ≤ n) (h1 : n ≤ 40) (w : World) : Calls Try.prog 24 #[.int .i64 n] w fun e w' => e = .returned (pA w.heap.size) ∧ IsRc w' w.heap.size (.slice none 0 0) (.slice none 0 0) ⟨n, [], []⟩ ∧ Below w.heap.size w w' := by
  have g1 : ¬ n < 1 := by omega
  have g2 : ¬ 40 < n := by omega
  have d1 : decide (n < 1) = false := decide_eq_false g1
  have d2 : decide (40 < n) = false := decide_eq_false g2
  go_enter Try.func24, Try.ntmps24
  go_wp2
  go_ret
  exact ⟨rfl, ⟨heap_alloc_new w _, World.ownsRow_nil _ _ _ _, World.ownsRow_nil _ _ _ _⟩, (Below.refl _ _).alloc (Nat.le_refl _) _⟩
set_option maxHeartbeats 2000000 in
theorem rcat_c {w : World} {g : Nat} {vl vh : Value} {r : Rc} (h : IsRc w g vl vh r) (hm : r.L.length ≤ 1000) (f : Int) :
    Calls Try.prog 52 #[pA g, .int .u32 f] w fun e w' => e = .returned (.int .i64 (r.at f)) ∧ w' = w := by
  obtain ⟨c0, c1, c2, cf, cl⟩ := h.cells
  have HR := hid h.rowL
  obtain ⟨a, cap, rfl, hcap⟩ := own_shapeC h.2.1
  have YES : Hid (∀ i, i < r.L.length → r.fid i = f → (∀ j, j < i → r.fid j ≠ f) → r.at f = (i : Int)) := hid (fun i hi e hn => (Rc.at_is hi e hn).1)
  have NO : Hid ((∀ j, j < r.L.length → r.fid j ≠ f) → r.at f = -1) := hid Rc.at_no
  generalize r.at f = res at *
  clear h cf
  generalize hn : r.L.length = n at *
  clear hn
  go_enter Try.func52, Try.ntmps52
  go_wp2
  go_loopg [5] n (fun gk v wr => ∃ m : Nat, m + gk = n ∧ v = .int .i64 m ∧ Hid (∀ j, j < m → r.fid j ≠ f) ∧ wr = w)
  case atStart => exact ⟨0, by omega, rfl, hid (fun i hi => by omega), rfl⟩
  case round =>
    obtain ⟨m, hm2, rfl, HE, rfl⟩ := hrel
    by_cases hlt : m < n
    · have hltI : (m : Int) < n := by omega
      obtain ⟨gl, o, cap', e, hc⟩ := HR.out (by omega)
      cases e
      obtain ⟨k0, k1⟩ := hc m hlt
      have HF : Hid (r.fid m = r.fid m) := hid rfl
      by_cases q : r.fid m = f
      · have R := hid (YES.out m hlt q HE.out)
        have q2 : (r.fid m == f) = true := by simp [q]
        clear hc HR q k1
        generalize r.fid m = fm at *
        go_wp2
        go_ret
        exact ⟨ret_int R.out.symm, rfl⟩
      · have q2 : (r.fid m == f) = false := by simp [q]
        have HE2 : Hid (∀ j, j < m + 1 → r.fid j ≠ f) := hid (fun j hj => by
          by_cases e : j = m
          · rw [e]; exact q
          · exact HE.out j (by omega))
        clear hc k1
        generalize r.fid m = fm at *
        go_wp2
        go_roundg (gk - 1)
        case measure => omega
        case rel => exact ⟨m + 1, by omega, by go_num, HE2, rfl⟩
    · have em : m = n := by omega
      subst em
      have hge : ¬ (m : Int) < m := by omega
      have R := hid (NO.out HE.out)
      go_wp2
      go_ret
      exact ⟨ret_int R.out.symm, rfl⟩
end Go.Proofs.Ytilcbkejmpfnfaa
