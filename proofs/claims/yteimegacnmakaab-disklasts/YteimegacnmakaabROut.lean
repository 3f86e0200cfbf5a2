/-
  What out, Flush and Crash of the document's disk do.
-/
import Derived.Test.YteimegacnmakaabRRead
namespace Go.Proofs.Yteimegacnmakaab
open Go.RowKit Go.ChangeShapes Go.WideShapes Go.ChangeAt Go.Maps
set_option linter.unusedVariables false
set_option linter.unusedSimpArgs false
theorem set_cells (g : Nat) (e : TypeId) (fr : Nat × Nat) : ∀ (vs : List Value) (o : Nat) (cur : Array Value) (w : World), w.heap[g]? = some (.cells cur e fr) → o + vs.length ≤ cur.size →
    (∃ cur', (w.setCells g o vs).heap[g]? = some (.cells cur' e fr) ∧ cur'.size = cur.size ∧ cur'.toList = cur.toList.take o ++ vs ++ cur.toList.drop (o + vs.length)) ∧ Out (fun k => k = g) w (w.setCells g o vs) ∧ (w.setCells g o vs).heap.size = w.heap.size
  | [], o, cur, w, h, hl => ⟨⟨cur, h, rfl, by simp⟩, Out.refl _ _, rfl⟩
  | v :: vs, o, cur, w, h, hl => by
    have h1 : (w.setCell ⟨g, o, none⟩ v).heap[g]? = some (.cells (cur.setIfInBounds o v) e fr) := by
      simp only [World.setCell, Array.getElem?_modify, h]
      simp
    simp only [List.length_cons] at hl
    obtain ⟨⟨cur', e1, e2, e3⟩, o1, s1⟩ := set_cells g e fr vs (o + 1) (cur.setIfInBounds o v) (w.setCell ⟨g, o, none⟩ v) h1 (by simp; omega)
    refine ⟨⟨cur', e1, by rw [e2]; simp, ?_⟩, (Out.setCell (S := fun k => k = g) w ⟨g, o, none⟩ v rfl).trans o1, by rw [World.setCells, s1]; simp [World.setCell]⟩
    rw [e3, Array.toList_setIfInBounds]
    have hlt : o < cur.toList.length := by simp; omega
    rw [List.take_set, List.drop_set_of_lt (by omega), List.take_succ_eq_append_getElem hlt, List.set_append, if_neg (by rw [List.length_take]; omega), List.length_take]
    have : o - min o cur.toList.length = 0 := by omega
    rw [this]
    simp
    congr 1
    omega
theorem flat_set {α : Type} (f : α → List Value) (n : Nat) : ∀ (l : List α), (∀ x ∈ l, (f x).length = n) → ∀ (q : Nat) (s : α), q < l.length → (l.flatMap f).take (q * n) ++ f s ++ (l.flatMap f).drop (q * n + n) = (l.set q s).flatMap f
  | [], _, q, s, h => by simp at h
  | y :: l, hf, 0, s, h => by
    have hy := hf y (by simp)
    simp [List.flatMap_cons, ← hy]
  | y :: l, hf, q + 1, s, h => by
    have hy := hf y (by simp)
    have ih := flat_set f n l (fun z hz => hf z (by simp [hz])) q s (by simpa using h)
    rw [List.set_cons_succ, List.flatMap_cons, List.flatMap_cons, ← ih]
    have e1 : (q + 1) * n = n + q * n := by rw [Nat.add_mul]; omega
    rw [e1, ← hy, List.take_length_add_append, Nat.add_assoc, List.drop_length_add_append]
    simp
theorem row_set {w : World} {base : Nat} {e : TypeId} {n N : Nat} {g cap : Nat} {α : Type} {f : α → List Value} {l : List α} (h : w.ownsRow base e n (.slice (some ⟨g, 0, none⟩) N cap) N (l.flatMap f)) (hl : l.length = N) (hf : ∀ x ∈ l, (f x).length = n) (q : Nat) (hq : q < N) (s : α) (hs : (f s).length = n) :
    (w.setCells g (q * n) (f s)).ownsRow base e n (.slice (some ⟨g, 0, none⟩) N cap) N ((l.set q s).flatMap f) ∧ Out (fun k => k = g) w (w.setCells g (q * n) (f s)) ∧ (w.setCells g (q * n) (f s)).heap.size = w.heap.size := by
  have hlen := h.1
  rcases h.2 with ⟨h1, _⟩ | ⟨g', cap', cur, h1, hb, hg, hn, hm, hs', ht⟩
  · cases h1
  · cases h1
    have hle : q * n + n ≤ N * n := by have := Nat.mul_le_mul_right n (show q + 1 ≤ N from hq); rw [Nat.add_mul] at this; omega
    have hcn : N * n ≤ cap * n := Nat.mul_le_mul_right n hn
    obtain ⟨⟨cur', c1, c2, c3⟩, o1, s1⟩ := set_cells g e (0, 0) (f s) (q * n) cur w hg (by omega)
    have key : cur'.toList.take (N * n) = (l.set q s).flatMap f := by
      rw [← flat_set f n l hf q s (by omega), c3, hs]
      have hX : cur.toList = l.flatMap f ++ cur.toList.drop (N * n) := by rw [← ht, List.take_append_drop]
      have hFl : (l.flatMap f).length = N * n := hlen
      generalize l.flatMap f = FQ at hX hFl ⊢
      generalize cur.toList.drop (N * n) = R at hX
      have t1 : (FQ ++ R).take (q * n) = FQ.take (q * n) := List.take_append_of_le_length (by omega)
      have t2 : (FQ ++ R).drop (q * n + n) = FQ.drop (q * n + n) ++ R := List.drop_append_of_le_length (by omega)
      have t3 : FQ.take (q * n) ++ f s ++ (FQ.drop (q * n + n) ++ R) = (FQ.take (q * n) ++ f s ++ FQ.drop (q * n + n)) ++ R := by simp
      rw [hX, t1, t2, t3, List.take_append_of_le_length (by simp [hs]; omega), List.take_of_length_le (by simp [hs]; omega)]
    exact ⟨⟨by rw [← key, List.length_take]; simp; omega, .inr ⟨g, cap, cur', rfl, hb, c1, hn, hm, by rw [c2]; exact hs', key⟩⟩, o1, s1⟩
theorem row_there {w : World} {base : Nat} {e : TypeId} {n N : Nat} {g cap : Nat} {xs : List Value} (h : w.ownsRow base e n (.slice (some ⟨g, 0, none⟩) N cap) N xs) (q : Nat) (hq : q < N) : w.there g (q * n) n := by
  rcases h.2 with ⟨h1, _⟩ | ⟨g', cap', cur, h1, hb, hg, hn, hm, hs', ht⟩
  · cases h1
  · cases h1
    have hle : q * n + n ≤ N * n := by have := Nat.mul_le_mul_right n (show q + 1 ≤ N from hq); rw [Nat.add_mul] at this; omega
    have hcn : N * n ≤ cap * n := Nat.mul_le_mul_right n hn
    intro j hj
    rw [cell_of_row _ _ _ _ _ _ hg]
    refine ⟨by rw [Array.getElem?_eq_getElem (by omega)]; rfl, by simp [World.frozen?, hg]⟩
/-- What is on the disk when some of the buffer are. -/
def outStep (all : Bool) (ks : List Int) (L : List Sec) (p : Int × Sec) : List Sec := if all = true ∨ p.1 ∈ ks then L.set p.1.toNat p.2 else L
def outL (all : Bool) (ks : List Int) (B : List (Int × Sec)) (L : List Sec) : List Sec := B.foldl (outStep all ks) L
theorem outL_snoc (all : Bool) (ks : List Int) (B : List (Int × Sec)) (L : List Sec) (p : Int × Sec) : outL all ks (B ++ [p]) L = outStep all ks (outL all ks B L) p := by unfold outL; rw [List.foldl_append]; rfl
theorem outL_len (all : Bool) (ks : List Int) : ∀ (B : List (Int × Sec)) (L : List Sec), (outL all ks B L).length = L.length
  | [], L => rfl
  | p :: B, L => by
    show (outL all ks B (outStep all ks L p)).length = _
    rw [outL_len all ks B]
    unfold outStep
    split <;> simp
theorem outL_sec (all : Bool) (ks : List Int) : ∀ (B : List (Int × Sec)) (L : List Sec), (∀ p ∈ B, IsSec p.2) → (∀ s ∈ L, IsSec s) → ∀ s ∈ outL all ks B L, IsSec s
  | [], L, _, h, s, hs => h s hs
  | p :: B, L, hB, h, s, hs => by
    refine outL_sec all ks B (outStep all ks L p) (fun q hq => hB q (by simp [hq])) (fun x hx => ?_) s hs
    unfold outStep at hx
    split at hx
    · rcases List.mem_or_eq_of_mem_set hx with h1 | h1
      · exact h x h1
      · rw [h1]; exact hB p (by simp)
    · exact h x hx
theorem own_emptyS (w : World) : (w.alloc (.cells #[] 61)).ownsRow w.heap.size 61 32 (.slice (some ⟨w.heap.size, 0, none⟩) 0 0) 0 [] :=
  ⟨rfl, .inr ⟨w.heap.size, 0, #[], rfl, Nat.le_refl _, heap_alloc_new w _, Nat.le_refl _, Nat.zero_le _, rfl, rfl⟩⟩
theorem row_cells {w : World} {base : Nat} {e : TypeId} {n N : Nat} {g cap : Nat} {xs : List Value} (h : w.ownsRow base e n (.slice (some ⟨g, 0, none⟩) N cap) N xs) : ∀ j u, xs[j]? = some u → w.cell? ((⟨g, 0, none⟩ : Addr).add j) = some u := by
  intro j u hu
  have hadd : (⟨g, 0, none⟩ : Addr).add j = ⟨g, j, none⟩ := by unfold Addr.add; split <;> simp_all
  rcases h.2 with ⟨h1, _⟩ | ⟨g', cap', cur, h1, hb, hg, hn, hm, hs', ht⟩
  · cases h1
  · cases h1
    rw [hadd, cell_of_row _ _ _ _ _ _ hg]
    rw [← ht, List.getElem?_take] at hu
    split at hu
    · simpa using hu
    · cases hu
def isB (all : Bool) (ks : List Int) (x : Int) (k : Nat) : Bool := all || decide (x ∈ ks.take k)
theorem isB_zero' (all : Bool) (ks : List Int) (x : Int) : isB all ks x 0 = all := by simp [isB]
theorem isB_succ (all : Bool) (ks : List Int) (x : Int) (k : Nat) (h : k < ks.length) : isB all ks x (k + 1) = (isB all ks x k || decide (ks.getD k 0 = x)) := by
  unfold isB
  rw [Bool.eq_iff_iff]
  simp only [Bool.or_eq_true, decide_eq_true_eq]
  rw [take_mem_succ ks k h]
  constructor
  · rintro (h1 | h1 | h1)
    · exact .inl (.inl h1)
    · exact .inl (.inr h1)
    · exact .inr h1.symm
  · rintro ((h1 | h1) | h1)
    · exact .inl h1
    · exact .inr (.inl h1)
    · exact .inr (.inr h1.symm)
theorem isB_all (all : Bool) (ks : List Int) (x : Int) (k : Nat) (h : ks.length ≤ k) : isB all ks x k = true ↔ (all = true ∨ x ∈ ks) := by
  unfold isB; rw [List.take_of_length_le h]; simp
theorem below_wide {W : World} {B : Nat} {v w : World} (h : Below B W v) (k : Below v.heap.size v w) (hB : B ≤ v.heap.size) : Below B W w := h.trans (k.mono hB)
set_option maxRecDepth 100000 in
set_option maxHeartbeats 4000000 in
theorem rout_c {w : World} {r N : Nat} {L : List Sec} {B : List (Int × Sec)} (h : IsR w r N L B) (all : Bool) (a : Option Addr) (len cap : Nat) (ks : List Int) (hz : IsZ w a len ks) :
    Calls Try.prog 43 #[pD r, .bool all, .slice a len cap] w fun e w' => e = .returned (.tuple #[]) ∧ IsR w' r N (outL all ks B L) [] ∧ Out (fun k => k = r) w w' := by
  obtain ⟨al, capl, ab, capb, hr, hol, hob⟩ := h.row
  obtain ⟨c0, c1, f0, f1⟩ := two_cells hr
  have hrl : r < w.heap.size := lt_blk hr
  have hfew := h.few
  have hN8 : N ≤ 8 := h.2.2.2.2.2.2
  have hN1 : 1 ≤ N := h.2.2.2.2.2.1
  have HBS := hid h.2.2.2.2.1
  have HLS := hid h.2.2.1
  have HLN := hid h.2.1
  have H := hid h
  have HR := hid hr
  have HOB := hid hob
  have HZ := hid hz
  have hlm : len ≤ maxLen := hz.2.1
  unfold maxLen at hlm
  obtain ⟨iS, hi, hz0, hz1, hz2⟩ := infoS
  have hLl := HLN.out
  rw [← hLl] at hol
  obtain ⟨gl, capl', eg, hcapl, hgl, _, _⟩ := row_at hol (fun x hx => by rw [List.length_map]; exact (HLS.out x hx).1) (by omega)
  rw [hLl] at eg hol
  cases eg
  have HOL := hid hol
  have hfl : (L.flatMap fun s => s.map by8).length = N * 32 := hol.1
  have HONE : Hid (∀ u ∈ L.flatMap (fun s => s.map by8), u.oneCell' = true) := fun u hu => by
    obtain ⟨s, _, hs⟩ := List.mem_flatMap.1 hu
    obtain ⟨x, _, rfl⟩ := List.mem_map.1 hs
    rfl
  have HCE : Hid (∀ j u, (L.flatMap fun s => s.map by8)[j]? = some u → (w.alloc (.cells #[] 61)).cell? ((⟨gl, 0, none⟩ : Addr).add j) = some u) := fun j u hu => row_cells (hol.alloc _) j u hu
  obtain ⟨FL, eFL⟩ : ∃ FL, FL = L.flatMap (fun s => s.map by8) := ⟨_, rfl⟩
  rw [← eFL] at hfl HONE HCE
  have EFL := hid eFL
  have HFL := hid hfl
  have hcr : (w.alloc (.cells #[] 61)).cell? ⟨r, 0, none⟩ = some (.slice (some ⟨gl, 0, none⟩) N capl) := by
    rw [← c0]; exact World.cell?_of_block (Below.heap_alloc _ _ r hrl)
  clear h hr hol hob hz hLl eFL hfl
  go_enter Try.func43, Try.ntmps43
  go_wp2_with (at_builtin; refine wpList_append_own _ rfl _ _ 91 rfl w.heap.size 61 iS _ 32 32 Try.underlying91 hi hz0 hz1 hz2 rfl (by omega) _ _ _ rfl (own_emptyS w) ⟨gl, 0, none⟩ N capl FL rfl HFL.out HCE.out HONE.out (by unfold maxLen; omega) (by omega) (by simp) ?_; intro v2 w2 hown2 hgrow2 hnil2)
  have hB2 : Below w.heap.size w w2 := ((Below.refl _ _).alloc (Nat.le_refl _) _).grown hgrow2 (by simp) (fun k hk => by cases hk; exact Nat.le_refl _)
  have hown3 : w2.ownsRow w.heap.size 61 32 v2 N (L.flatMap fun s => s.map by8) := by
    rw [← EFL.out]; simpa using hown2
  have hsh : ∃ g2 cap2, v2 = .slice (some ⟨g2, 0, none⟩) N cap2 ∧ w.heap.size ≤ g2 := by
    rcases hown3.2 with ⟨_, h0⟩ | ⟨g2, cap2, cur, e, hb, _⟩
    · omega
    · exact ⟨g2, cap2, e, hb⟩
  obtain ⟨g2, cap2, ev2, hg2⟩ := hsh
  rw [ev2] at hown3 ⊢
  have HO3 := hid hown3
  have HB2 := hid hB2
  clear hown2 hown3 hgrow2 hnil2 hB2 ev2 hcr HCE HONE HFL EFL
  go_loopw [7] (fun k wr => ∃ m : Nat, m ≤ B.length ∧ k = .int .i64 m ∧ Hid (wr.ownsRow w.heap.size 61 32 (.slice (some ⟨g2, 0, none⟩) N cap2) N ((outL all ks (B.take m) L).flatMap fun s => s.map by8)) ∧ Hid (Below w.heap.size w wr)) (fun k _ => (B.length - intOf k).toNat)
  case atStart => exact ⟨0, by omega, rfl, HO3, HB2⟩
  case round =>
    obtain ⟨m, hm, rfl, HO, HB⟩ := hrel
    have hc1 : wr.cell? ⟨r, 1, none⟩ = some (.slice ab B.length capb) := by rw [← c1]; exact World.cell?_of_block (HB.out.block r hrl)
    by_cases hml : m < B.length
    · obtain ⟨p, hp⟩ : ∃ p, B[m]? = some p := ⟨B[m], List.getElem?_eq_getElem hml⟩
      have hpB : p ∈ B := List.mem_of_getElem? hp
      obtain ⟨g, cap', eg, hcap, hgb, _, hrg⟩ := row_at HOB.out (fun x hx => lcells_len x (HBS.out x hx).1.1) (by omega)
      cases eg
      have HRW := hid (hrg m p hp)
      have hpp := HBS.out p hpB
      have HTK : Hid (outL all ks (B.take (m + 1)) L = outStep all ks (outL all ks (B.take m) L) p) := by
        show _ = _
        rw [← outL_snoc]; congr 1
        rw [List.take_succ_eq_append_getElem hml]
        rw [List.getElem?_eq_getElem hml] at hp
        cases hp; rfl
      obtain ⟨pi, ps⟩ := p
      simp only at hpp
      obtain ⟨q, rfl⟩ : ∃ q : Nat, pi = (q : Int) := ⟨pi.toNat, by omega⟩
      have hps := hpp.1
      have hqN : q < N := by omega
      have HR2 : Hid (∀ W, Below w.heap.size w W → W.cell? ⟨r, 1, none⟩ = some (.slice (some ⟨g, 0, none⟩) B.length capb) ∧ W.cell? ⟨g, m * 33, none⟩ = some (.int .i64 (q : Int)) ∧ W.rangeAt g (m * 33 + 1) (ps.map by8)) := fun W hW => by
        have hrp := range_lat HRW.out hW hgb
        refine ⟨by rw [← c1]; exact World.cell?_of_block (hW.block r hrl), hrp 0 _ rfl, fun x v hv => ?_⟩
        have := hrp (x + 1) v (by unfold lcells; simpa using hv)
        rwa [show m * 33 + (x + 1) = m * 33 + 1 + x by omega] at this
      clear hrg hpB hp hpp HRW
      go_wp2
      generalize wr = wo at *
      go_loopw [8, 9] (fun is k wx => ∃ n : Nat, n ≤ len ∧ k = .int .i64 n ∧ is = .bool (isB all ks (q : Int) n) ∧ Hid (Below wo.heap.size wo wx)) (fun _ k _ => (len - intOf k).toNat)
      case atStart => exact ⟨0, by omega, rfl, by rw [isB_zero'], Below.refl _ _⟩
      case round =>
        obtain ⟨n, hn, rfl, rfl, HX⟩ := hrel
        have hBx : Below w.heap.size w wr := below_wide HB.out HX.out HB.out.size
        obtain ⟨d1, d2, d3⟩ := HR2.out wr hBx
        have HD3 := hid d3
        have hmB : (m : Int) < (B.length : Int) := by omega
        by_cases hnl : n < len
        · obtain ⟨zb, zo, ea, hcz⟩ := HZ.out.2.2.1 (by omega)
          have hcz1 : wr.cell? ⟨zb, zo + n, none⟩ = some (.int .i64 (ks.getD n 0)) := by
            rw [← hcz n hnl]; exact World.cell?_of_block (hBx.block zb (World.block_lt_of_cell? w _ (hcz n hnl)))
          have HIS := hid (isB_succ all ks (q : Int) n (by have := HZ.out.1; omega))
          obtain ⟨z, ez⟩ : ∃ z, z = ks.getD n 0 := ⟨_, rfl⟩
          rw [← ez] at hcz1 HIS
          have hnI : (n : Int) < (len : Int) := by omega
          have HBX := hid hBx
          rw [ea]
          clear hcz ez d3 hBx
          cases hb : isB all ks (q : Int) n with
          | true =>
            rw [hb] at HIS
            go_wp2
            go_quiet (fail)
            go_wp2
            go_roundw
            case rel => exact ⟨n + 1, by omega, by go_num, by rw [HIS.out]; rfl, below_drewN HX.out _⟩
            case measure => simp [intOf]; omega
          | false =>
            rw [hb] at HIS
            by_cases hzq : z = (q : Int)
            · have hzb : (z == (q : Int)) = true := by simp [hzq]
              have HZQ := hid hzq
              clear hzq
              go_wp2
              go_quiet (fail)
              go_wp2
              go_roundw
              case rel => exact ⟨n + 1, by omega, by go_num, by rw [HIS.out]; simp [HZQ.out], below_drewN HX.out _⟩
              case measure => simp [intOf]; omega
            · have hzb : (z == (q : Int)) = false := by simp [hzq]
              go_wp2
              go_quiet (fail)
              go_wp2
              go_roundw
              case rel => exact ⟨n + 1, by omega, by go_num, by rw [HIS.out]; simp [hzq], below_drewN HX.out _⟩
              case measure => simp [intOf]; omega
        · have HAL := hid (isB_all all ks (q : Int) n (by have := HZ.out.1; omega))
          have HBX := hid hBx
          clear d3 hBx
          have HORX := hid (own_lat HO.out HX.out)
          have hnI : ¬ (n : Int) < (len : Int) := by omega
          cases hb : isB all ks (q : Int) n with
          | false =>
            have eS : outStep all ks (outL all ks (B.take m) L) ((q : Int), ps) = outL all ks (B.take m) L := by
              unfold outStep
              rw [if_neg (fun h => by rw [HAL.out.2 h] at hb; cases hb)]
            have ES := hid eS
            clear eS
            go_wp2
            go_roundw
            case rel => exact ⟨m + 1, by omega, by go_num, by rw [HTK.out, ES.out]; exact HORX.out, HBX.out⟩
            case measure => simp [intOf]; omega
          | true =>
            have eS : outStep all ks (outL all ks (B.take m) L) ((q : Int), ps) = (outL all ks (B.take m) L).set q ps := by
              unfold outStep
              rw [if_pos (HAL.out.1 hb)]
              simp
            have ES := hid eS
            have hth : wr.there g2 (q * 32) 32 := row_there HORX.out q hqN
            have hu := Try.underlying61
            have hi5 : (Try.prog.info? 61).map (·.size) = some (ps.map by8).length := by rw [sizeR]; simp [hps.1]
            have hl32 : (ps.map by8).length = 32 := by simp [hps.1]
            have h1c : ∀ v ∈ ps.map by8, v.oneCell' = true := fun v hv => by obtain ⟨x, _, rfl⟩ := List.mem_map.1 hv; rfl
            have hne1 : r ≠ g2 := by omega
            have hne2 : g ≠ g2 := by omega
            have hqI : (q : Int) < (N : Int) := by omega
            have hd3 := HD3.out
            have hor : wr.drew.ownsRow w.heap.size 61 32 (.slice (some ⟨g2, 0, none⟩) N cap2) N ((outL all ks (B.take m) L).flatMap fun s => s.map by8) := HORX.out
            obtain ⟨r1, r2, r3⟩ := row_set hor (by rw [outL_len]; exact HLN.out) (fun x hx => by rw [List.length_map]; exact (outL_sec all ks _ L (fun p hp => (HBS.out p (List.mem_of_mem_take hp)).1) HLS.out x hx).1) q hqN ps hl32
            have hrx : r < wr.heap.size := Nat.lt_of_lt_of_le hrl HBX.out.size
            have hgx : g < wr.heap.size := Nat.lt_of_lt_of_le hgb HBX.out.size
            have KS : (fun w' : World => w'.cell? ⟨r, 1, none⟩ = some (.slice (some ⟨g, 0, none⟩) B.length capb) ∧ w'.cell? ⟨g, m * 33, none⟩ = some (.int .i64 (q : Int)) ∧ w'.rangeAt g (m * 33 + 1) (ps.map by8) ∧ w'.there g2 (q * 32) 32) (wr.drew.setCells g2 (q * 32) (ps.map by8)) := by
              refine ⟨?_, ?_, ?_, World.there_setCells (w := wr.drew) hth _ _ _⟩
              · rw [← d1]; exact World.cell?_of_block (r2.block r hrx hne1)
              · rw [← d2]; exact World.cell?_of_block (r2.block g hgx hne2)
              · intro x v hv; rw [← hd3 x v hv]; exact World.cell?_of_block (r2.block g hgx hne2)
            have R1 := hid r1
            have R2 := hid r2
            clear eS r1 r2 r3 hor
            go_wp2
            go_region_held3 (fun w' => w'.cell? ⟨r, 1, none⟩ = some (.slice (some ⟨g, 0, none⟩) B.length capb) ∧ w'.cell? ⟨g, m * 33, none⟩ = some (.int .i64 (q : Int)) ∧ w'.rangeAt g (m * 33 + 1) (ps.map by8) ∧ w'.there g2 (q * 32) 32) (first | go_keep_ranges | exact KS) (fail)
            go_wp2
            go_roundw
            case rel => exact ⟨m + 1, by omega, by go_num, by rw [HTK.out, ES.out]; exact R1.out, (HBX.out.drew).trans (R2.out.below (by have := HBX.out.size; exact this) (fun k e => by omega))⟩
            case measure => simp [intOf]; omega
    · obtain rfl : m = B.length := by omega
      have eT : B.take B.length = B := List.take_of_length_le (Nat.le_refl _)
      rw [eT] at HO
      have hcr0 : wr.cell? ⟨r, 0, none⟩ = some (.slice (some ⟨gl, 0, none⟩) N capl) := by rw [← c0]; exact World.cell?_of_block (HB.out.block r hrl)
      have hfr0 : wr.frozen? ⟨r, 0, none⟩ = false := by rw [← f0]; exact World.frozen?_of_block (HB.out.block r hrl)
      have hr5 : wr.heap[r]? = some (.cells #[.slice (some ⟨gl, 0, none⟩) N capl, .slice ab B.length capb] 94 (0, 0)) := by rw [HB.out.block r hrl]; exact HR.out
      have hr6 := set_first (z := .slice (some ⟨g2, 0, none⟩) N cap2) hr5
      obtain ⟨_, e1, _, e3⟩ := two_cells hr6
      have HR5 := hid hr5
      have HR6 := hid hr6
      clear hr5 hr6 eT
      go_wp2
      go_end0
      obtain ⟨_, q2, q3, q4, q5, q6, q7⟩ := H.out
      refine ⟨rfl, ⟨⟨_, _, set_second HR6.out, own_set (own_set (own0 HO.out) HR5.out (by decide) _ _) HR6.out (by decide) _ _, World.ownsRow_nil _ _ _ _⟩, by rw [outL_len]; exact q2, outL_sec all ks B L (fun p hp => (q5 p hp).1) q3, List.Pairwise.nil, fun p hp => (by cases hp), q6, q7⟩, ?_⟩
      exact (Out.of (HB.out)).trans ((Out.setCell (S := fun k => k = r) wr ⟨r, 0, none⟩ _ rfl).trans (Out.setCell (S := fun k => k = r) _ ⟨r, 1, none⟩ _ rfl))
theorem isZ_none (w : World) : IsZ w none 0 [] := ⟨rfl, Nat.zero_le _, fun h => absurd h (by omega), fun i => by simp⟩
set_option maxHeartbeats 400000 in
theorem rflush_c {w : World} {r N : Nat} {L : List Sec} {B : List (Int × Sec)} (h : IsR w r N L B) : Calls Try.prog 25 #[pD r] w fun e w' => e = .returned (.int .i64 0) ∧ IsR w' r N (outL true [] B L) [] ∧ Out (fun k => k = r) w w' := by
  have RC := hid (rout_c h true none 0 0 [] (isZ_none w))
  clear h
  go_enter Try.func25, Try.ntmps25
  go_wp2_with (go_at_call 43; refine RC.out.mono ?_; rintro _ w1 ⟨rfl, h1, h2⟩)
  go_ret
  exact ⟨rfl, h1, h2⟩
set_option maxHeartbeats 400000 in
theorem rcrash_c {w : World} {r N : Nat} {L : List Sec} {B : List (Int × Sec)} (h : IsR w r N L B) (a : Option Addr) (len cap : Nat) (ks : List Int) (hz : IsZ w a len ks) : Calls Try.prog 44 #[pD r, .slice a len cap] w fun e w' => e = .returned (.int .i64 0) ∧ IsR w' r N (outL false ks B L) [] ∧ Out (fun k => k = r) w w' := by
  have RC := hid (rout_c h false a len cap ks hz)
  clear h hz
  go_enter Try.func44, Try.ntmps44
  go_wp2_with (go_at_call 43; refine RC.out.mono ?_; rintro _ w1 ⟨rfl, h1, h2⟩)
  go_ret
  exact ⟨rfl, h1, h2⟩
end Go.Proofs.Yteimegacnmakaab
