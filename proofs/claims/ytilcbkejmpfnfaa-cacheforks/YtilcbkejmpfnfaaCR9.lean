/-
  The document's Walk of caches: it tells what the program's tells.
-/
import Derived.Test.YtilcbkejmpfnfaaCR8
namespace Go.Proofs.Ytilcbkejmpfnfaa
open Go.RowKit Go.ChangeShapes Go.WideShapes Go.ChangeAt Go.Maps Go.Shelf
set_option linter.unusedVariables false
set_option linter.unusedSimpArgs false
set_option maxRecDepth 100000
theorem mem_sortF (us : List Int) (h : us.Pairwise (fun a b => a ≠ b)) (x : Int) : x ∈ sortF us ↔ x ∈ us := (sort_all us h).2 x
theorem lvl_all {c : Ca} {r : Rc} (h : Rl c r) (n : Int) : (r.lvl n r.H).Pairwise (fun a b => a < b) ∧ ∀ x, x ∈ r.lvl n r.H ↔ (c.d x = some n ∧ c.has x = false) := by
  have nd : ((r.H.filter (fun p => decide (p.2 = n) && !decide (0 ≤ r.at p.1))).map (·.1)).Pairwise (fun a b => a ≠ b) := List.pairwise_map.2 (List.Pairwise.filter _ h.hnd)
  obtain ⟨a, b⟩ := sort_all _ nd
  refine ⟨a, fun x => ?_⟩
  unfold Rc.lvl
  rw [b x, List.mem_map]
  constructor
  · rintro ⟨⟨y, m⟩, hp, rfl⟩
    rw [List.mem_filter] at hp
    obtain ⟨hp1, hp2⟩ := hp
    rw [Bool.and_eq_true] at hp2
    have e1 := of_decide_eq_true hp2.1
    have e2 : decide (0 ≤ r.at y) = false := by simpa using hp2.2
    rw [h.has_at] at e2
    simp only at e1
    subst e1
    exact ⟨(h.hmem y m).1 hp1, e2⟩
  · rintro ⟨h1, h2⟩
    refine ⟨(x, n), ?_, rfl⟩
    rw [List.mem_filter]
    refine ⟨(h.hmem x n).2 h1, ?_⟩
    rw [h.has_at, h2]
    simp
/-- It is what the program's Walk tells. -/
theorem walkM_is {c : Ca} {r : Rc} (h : Rl c r) : ∀ m, m ≤ 100 → (r.walkM m).Pairwise (fun a b => c.rank a < c.rank b) ∧ ∀ x, x ∈ r.walkM m ↔ (∃ n, c.d x = some n ∧ 100 - (m : Int) < n) ∧ c.has x = false
  | 0, _ => ⟨by simp [Rc.walkM], fun x => by
    constructor
    · intro q; simp [Rc.walkM] at q
    · rintro ⟨⟨n, h1, h2⟩, _⟩
      have := (h.hrng (x, n) ((h.hmem x n).2 h1)).2
      simp only at this
      omega⟩
  | m + 1, hm => by
    obtain ⟨i1, i2⟩ := walkM_is h m (by omega)
    obtain ⟨l1, l2⟩ := lvl_all h (100 - (m : Int))
    have rngD : ∀ {x n}, c.d x = some n → (0 ≤ x ∧ x < 4294967296) ∧ c.dearN x = n := fun {x n} hx => by
      have := (h.hrng (x, n) ((h.hmem x n).2 hx)).1
      simp only at this
      exact ⟨by omega, by unfold Ca.dearN; rw [hx]; rfl⟩
    rw [walkM_succ]
    refine ⟨List.pairwise_append.2 ⟨i1, ?_, ?_⟩, fun x => ?_⟩
    · refine List.Pairwise.imp_of_mem (fun {a b} ha hb hab => ?_) l1
      have ea := (rngD ((l2 a).1 ha).1).2
      have eb := (rngD ((l2 b).1 hb).1).2
      unfold Ca.rank
      rw [ea, eb]
      omega
    · intro a ha b hb
      obtain ⟨⟨n, h1, h2⟩, _⟩ := (i2 a).1 ha
      have ea := rngD h1
      have eb := rngD ((l2 b).1 hb).1
      unfold Ca.rank
      rw [ea.2, eb.2]
      omega
    · rw [List.mem_append, i2 x, l2 x]
      constructor
      · rintro (⟨⟨n, q1, q2⟩, q3⟩ | ⟨q1, q3⟩)
        · exact ⟨⟨n, q1, by omega⟩, q3⟩
        · exact ⟨⟨_, q1, by omega⟩, q3⟩
      · rintro ⟨⟨n, q1, q2⟩, q3⟩
        by_cases e : n = 100 - (m : Int)
        · rw [e] at q1; exact .inr ⟨q1, q3⟩
        · exact .inl ⟨⟨n, q1, by omega⟩, q3⟩
theorem walkR_is {c : Ca} {r : Rc} (h : Rl c r) : WalkL c (r.walkM 100) := by
  obtain ⟨a, b⟩ := walkM_is h 100 (Nat.le_refl _)
  refine ⟨a, fun x => ?_⟩
  rw [b x]
  constructor
  · rintro ⟨⟨n, h1, _⟩, h2⟩; exact ⟨by rw [h1]; rfl, h2⟩
  · rintro ⟨h1, h2⟩
    obtain ⟨n, hn⟩ := Option.isSome_iff_exists.1 h1
    refine ⟨⟨n, hn, ?_⟩, h2⟩
    have := (h.hrng (x, n) ((h.hmem x n).2 hn)).2
    simp only at this
    omega
theorem rank_eq {c : Ca} : ∀ (a b : List Int), a.Pairwise (fun x y => c.rank x < c.rank y) → b.Pairwise (fun x y => c.rank x < c.rank y) → (∀ x, x ∈ a ↔ x ∈ b) → a = b
  | [], [], _, _, _ => rfl
  | [], y :: b, _, _, h => by have := (h y).2 (by simp); simp at this
  | x :: a, [], _, _, h => by have := (h x).1 (by simp); simp at this
  | x :: a, y :: b, ha, hb, h => by
    rw [List.pairwise_cons] at ha hb
    have hxy : x = y := by
      rcases List.mem_cons.1 ((h x).1 (by simp)) with e | e
      · exact e
      · rcases List.mem_cons.1 ((h y).2 (by simp)) with e2 | e2
        · exact e2.symm
        · have := hb.1 x e
          have := ha.1 y e2
          omega
    subst hxy
    congr 1
    refine rank_eq a b ha.2 hb.2 (fun z => ?_)
    constructor
    · intro hz
      rcases List.mem_cons.1 ((h z).1 (List.mem_cons_of_mem _ hz)) with e | e
      · have := ha.1 z hz; rw [e] at this; omega
      · exact e
    · intro hz
      rcases List.mem_cons.1 ((h z).2 (List.mem_cons_of_mem _ hz)) with e | e
      · have := hb.1 z hz; rw [e] at this; omega
      · exact e
theorem walkL_eq {c : Ca} {a b : List Int} (ha : WalkL c a) (hb : WalkL c b) : a = b := rank_eq a b ha.1 hb.1 (fun x => (ha.2 x).trans (hb.2 x).symm)
set_option maxHeartbeats 8000000 in
theorem rcwalk_c {w : World} {g : Nat} {vl vh : Value} {r : Rc} (h : IsRc w g vl vh r) (hmL : r.L.length ≤ 400) (hm : r.H.length ≤ 8) :
    Calls Try.prog 32 #[pA g] w fun e w' => ∃ v, e = .returned v ∧ OwF w' w.heap.size v (r.walkM 100) ∧ Below w.heap.size w w' := by
  have H := hid h
  have STP : Hid (∀ nn m, m < r.H.length → r.lvl nn (r.H.take (m + 1)) = if r.hn m = nn ∧ r.at (r.hf m) < 0 then insF (r.hf m) (r.lvl nn (r.H.take m)) else r.lvl nn (r.H.take m)) := hid (fun nn m hm => lvl_snoc r nn hm)
  have FIN : Hid (r.H.take r.H.length = r.H) := hid List.take_length
  have LL : Hid (∀ nn m, (r.lvl nn (r.H.take m)).length ≤ 8) := hid (fun nn m => by
    have h1 := lvl_len r nn (r.H.take m)
    have h2 := List.length_take_le' m r.H
    omega)
  have WS : Hid (∀ m, r.walkM (m + 1) = r.walkM m ++ r.lvl (100 - (m : Int)) r.H) := hid (walkM_succ r)
  have WLN : Hid (∀ m, m ≤ 100 → (r.walkM m).length ≤ 8 * m) := hid (walkM_len r hm)
  have HC : Hid (∀ W f, Below w.heap.size w W → Calls Try.prog 27 #[pA g, .int .u32 f] W fun e w' => e = .returned (.bool (decide (0 ≤ r.at f))) ∧ w' = W) := hid (fun W f hb => rchas_c (h.later hb) (by omega) f)
  obtain ⟨a, cap, e, hcap⟩ := own_shapeC h.2.2
  subst e
  clear h
  obtain ⟨nh, hn⟩ : ∃ nh, nh = r.H.length := ⟨_, rfl⟩
  rw [← hn] at hm STP FIN hcap
  have HN := hid hn
  have L2 : ∀ W, Below w.heap.size w W → W.cell? ⟨g, 2, none⟩ = some (.slice a nh cap) := fun W hb => by have := (H.out.later hb).cells.2.2.1; rw [hn]; exact this
  clear hn
  go_enter Try.func32, Try.ntmps32
  go_wp2
  go_loopg [3, 4] 100 (fun gk v nv wr => ∃ m : Nat, m + gk = 100 ∧ nv = .int .i64 (100 - (m : Int)) ∧ Hid (OwF wr w.heap.size v (r.walkM m)) ∧ Hid (Below w.heap.size w wr))
  case atStart => exact ⟨0, by omega, rfl, hid (World.ownsRow_nil _ _ _ _), hid (Below.refl _ _)⟩
  case round =>
    obtain ⟨m, hm2, rfl, HO, HB⟩ := hrel
    obtain ⟨va, vn, vc, rfl⟩ := own_anyW HO.out
    by_cases hlt : m < 100
    · have hltI : (0 : Int) < 100 - (m : Int) := by omega
      have hltD : decide ((0 : Int) < 100 - (m : Int)) = true := decide_eq_true hltI
      have WS1 := hid (WS.out m)
      have WL1 := WLN.out m (by omega)
      have STN : Hid (∀ k, k < nh → r.lvl (100 - (m : Int)) (r.H.take (k + 1)) = if r.hn k = 100 - (m : Int) ∧ r.at (r.hf k) < 0 then insF (r.hf k) (r.lvl (100 - (m : Int)) (r.H.take k)) else r.lvl (100 - (m : Int)) (r.H.take k)) := hid (fun k hk => STP.out _ k hk)
      have LLN : Hid (∀ k, (r.lvl (100 - (m : Int)) (r.H.take k)).length ≤ 8) := hid (LL.out _)
      have hnext : (100 - (m : Int)) - 1 = 100 - ((m + 1 : Nat) : Int) := by omega
      have HNX := hid hnext
      clear hnext
      obtain ⟨wo, hwo⟩ : ∃ wo, wo = wr := ⟨_, rfl⟩
      subst hwo
      obtain ⟨go, hgo⟩ : ∃ go, go = gk := ⟨_, rfl⟩
      subst hgo
      have hmb : (100 - (m : Int)) ≤ 100 := by omega
      generalize hnn : 100 - (m : Int) = nn at *
      go_wp2_with fail
      go_loopg [5, 6] nh (fun gk2 v5 j wx => ∃ k : Nat, k + gk2 = nh ∧ j = .int .i64 k ∧ Hid (OwF wx w.heap.size v5 (r.lvl nn (r.H.take k))) ∧ Hid (Below wo.heap.size wo wx))
      case atStart => exact ⟨0, by omega, rfl, hid (World.ownsRow_nil _ _ _ _), hid (Below.refl _ _)⟩
      case round =>
        obtain ⟨k, hk, rfl, HO5, HX⟩ := hrel
        obtain ⟨xa, xn, xc, rfl⟩ := own_anyW HO5.out
        have BX := hid (HB.out.trans (HX.out.mono HB.out.size))
        by_cases hkl : k < nh
        · have hkI : (k : Int) < nh := by omega
          have k9 := L2 wr BX.out
          obtain ⟨gl, o, cap', e, hc⟩ := (H.out.later BX.out).rowH (by rw [← HN.out]; omega)
          rw [← HN.out] at e
          cases e
          obtain ⟨k0, k1⟩ := hc k (by rw [← HN.out]; exact hkl)
          have SK := hid (STN.out k hkl)
          have IC := hid (rcinsert_c (HO5.out.rd.base (Nat.zero_le _)) (by have := LLN.out k; omega) (r.hf k))
          have HK := hid (HC.out wr (r.hf k) BX.out)
          clear hc
          generalize r.hf k = fk at *
          generalize r.hn k = hk9 at *
          by_cases q1 : hk9 = nn
          · have q2 : (hk9 == nn) = true := by simp [q1]
            by_cases q3 : 0 ≤ r.at fk
            · rw [decide_eq_true q3] at HK
              have SE : Hid (r.lvl nn (r.H.take (k + 1)) = r.lvl nn (r.H.take k)) := hid (by rw [SK.out, if_neg (fun q => by omega)])
              clear SK q1
              go_wp2_with (go_at_call 27; refine HK.out.mono ?_; rintro _ w8 ⟨rfl, h8⟩; rw [h8]; clear h8)
              go_roundg (gk - 1)
              case measure => omega
              case rel => exact ⟨k + 1, by omega, by go_num, hid (by rw [SE.out]; exact HO5.out), HX⟩
            · rw [decide_eq_false q3] at HK
              have SE : Hid (r.lvl nn (r.H.take (k + 1)) = insF fk (r.lvl nn (r.H.take k))) := hid (by rw [SK.out, if_pos ⟨q1, by omega⟩])
              clear SK q1
              go_wp2_with (first
                | (go_at_call 27; refine HK.out.mono ?_; rintro _ w8 ⟨rfl, h8⟩; rw [h8]; clear h8)
                | (go_at_call 53; refine IC.out.mono ?_; rintro _ w9 ⟨v9, rfl, ho9, hb9⟩; (have O9 := hid (own_baseC ho9 BX.out.size)); (have B9 := hid (HX.out.trans (hb9.mono HX.out.size))); (obtain ⟨a9, n9, c9, rfl⟩ := own_anyW ho9); clear ho9 hb9))
              go_roundg (gk - 1)
              case measure => omega
              case rel => exact ⟨k + 1, by omega, by go_num, hid (by rw [SE.out]; exact O9.out), B9⟩
          · have q2 : (hk9 == nn) = false := by simp [q1]
            have SE : Hid (r.lvl nn (r.H.take (k + 1)) = r.lvl nn (r.H.take k)) := hid (by rw [SK.out, if_neg (fun q => q1 q.1)])
            clear SK
            go_wp2
            go_roundg (gk - 1)
            case measure => omega
            case rel => exact ⟨k + 1, by omega, by go_num, hid (by rw [SE.out]; exact HO5.out), HX⟩
        · have ek : k = nh := by omega
          subst ek
          have hge : ¬ (k : Int) < k := by omega
          have k9 := L2 wr BX.out
          have O3 := hid (own_latC HO.out HX.out)
          have S5 : Hid (OwF wr 0 (.slice xa xn xc) (r.lvl nn r.H)) := hid (by have := HO5.out; rw [FIN.out] at this; exact own_baseC this (Nat.zero_le _))
          have l8 : (r.lvl nn r.H).length ≤ 1000 := by have := LLN.out k; rw [FIN.out] at this; omega
          go_wp2_with (at_builtin; refine wpList_appF _ rfl _ _ rfl w.heap.size _ (r.walkM m) rfl O3.out _ (r.lvl nn r.H) rfl S5.out (by omega) l8 BX.out.size ?_; intro v7 w7 ho7 hg7; (have O7 := hid ho7); (have B7 := hid (below_grownC BX.out O3.out (Nat.le_refl _) BX.out.size hg7)); (obtain ⟨a7, n7, c7, rfl⟩ := own_anyW ho7); clear ho7 hg7)
          go_roundg (go - 1)
          case measure => omega
          case rel => exact ⟨m + 1, by omega, by first | (rw [← HNX.out]; go_num) | go_num, hid (by rw [WS1.out]; exact O7.out), B7⟩
    · have em : m = 100 := by omega
      subst em
      go_wp2
      go_ret
      exact ⟨_, rfl, HO.out, HB.out⟩
end Go.Proofs.Ytilcbkejmpfnfaa
