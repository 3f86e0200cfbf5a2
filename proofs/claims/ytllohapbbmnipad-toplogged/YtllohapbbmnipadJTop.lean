/-
  What a journal of 300 sectors that holds certain groups, and was never reset, answers.
-/
import Derived.Test.YtllohapbbmnipadJTorn
import Derived.Test.YtllohapbbmnipadJHold
import Derived.Test.YtllohapbbmnipadJLive
import Derived.Laws.IdiomStrings
namespace Go.Proofs.Ytllohapbbmnipad
open Go.RowKit Go.ChangeShapes Go.WideShapes Go.ChangeAt Go.Maps
set_option linter.unusedVariables false
set_option linter.unusedSimpArgs false
/-- A journal that holds groups; its maps are newer than B. -/
def JL (B : Nat) (V : World) (jj : Nat) (L : List Jo.Gr) : Prop := ∃ d b1 b2 on, IsJ V jj d b1 b2 300 on (fun _ => none) ∧ (B ≤ b1 ∧ B ≤ b2) ∧ Hold on L
/-- All blocks below B, and all rows, stay. -/
def Kp (B : Nat) (V V' : World) : Prop := Below B V V' ∧ KC V V'
theorem kp_out {B : Nat} {V V' : World} {d b1 b2 N : Nat} {on : Int → Sec} {c : Int → Option Sec} (hD : IsD V d b1 b2 N on c) (hB : B ≤ b1 ∧ B ≤ b2) (hs : B ≤ V.heap.size) (ho : Out (fun k => k = b1 ∨ k = b2) V V') : Kp B V V' :=
  ⟨ho.below hs (fun k e => by omega), fun q cur e fr h => by rw [row_disk h hD ho, h]⟩
theorem kp_below {B : Nat} {V V' : World} (hs : B ≤ V.heap.size) (hb : Below V.heap.size V V') : Kp B V V' := ⟨hb.mono hs, fun q cur e fr h => hb.block q (lt_blk h)⟩
theorem Kp.cell {B : Nat} {V V' : World} (h : Kp B V V') {q o : Nat} {v : Value} (hc : V.cell? ⟨q, o, none⟩ = some v) : V'.cell? ⟨q, o, none⟩ = some v := by
  have h6 : ∃ cur t fr, V.heap[q]? = some (.cells cur t fr) := by
    have := hc
    unfold World.cell? at this
    simp only at this
    split at this
    · rename_i cur t fr e; exact ⟨cur, t, fr, e⟩
    all_goals cases this
  obtain ⟨cur, t, fr, e6⟩ := h6
  rw [← hc]
  exact World.cell?_of_block (h.2 q cur t fr e6)
theorem Kp.own {B b : Nat} {V V' : World} (h : Kp B V V') {e : TypeId} {size n : Nat} {v : Value} {xs : List Value} (ho : V.ownsRow b e size v n xs) : V'.ownsRow b e size v n xs :=
  own_far ho fun k hk => by obtain ⟨cur, hc⟩ := own_cells ho k hk; exact h.2 k cur _ _ hc
theorem JL.sct {V : World} {jj d b1 b2 : Nat} {on : Int → Sec} (h : IsJ V jj d b1 b2 300 on (fun _ => none)) : ∀ i, Jo.Sct (on i) := fun i => h.2.1.sec i
theorem JL.later {B : Nat} {V V' : World} {jj : Nat} {L : List Jo.Gr} (h : JL B V jj L) (hb : Below V.heap.size V V') : JL B V' jj L := by
  obtain ⟨d, b1, b2, on, h1, h2, h3⟩ := h
  exact ⟨d, b1, b2, on, h1.later hb, h2, h3⟩
theorem JL.far {B : Nat} {V V' : World} {jj : Nat} {L : List Jo.Gr} (h : JL B V jj L) {b n : Nat} {v : Value} {xs : List Value} (ho : V.ownsRow b 9 1 v n xs) (hg : V.grownBy V' v.ownBlock) : JL B V' jj L := by
  obtain ⟨d, b1, b2, on, ⟨h1, h2, h8⟩, h4, h5⟩ := h
  have O : Out (fun k => v.ownBlock = some k) V V' := Out.grown hg (fun k e => e)
  have key : ∀ k, v.ownBlock = some k → ∃ cur, V.heap[k]? = some (.cells cur 9 (0, 0)) := fun k hk => own_cells ho k hk
  have nj : ¬ v.ownBlock = some jj := fun e => by obtain ⟨cur, hc⟩ := key _ e; rw [h1] at hc; injection hc with hc; injection hc with _ hc; exact absurd hc (by decide)
  have nd : ¬ v.ownBlock = some d := fun e => by obtain ⟨cur, hc⟩ := key _ e; rw [h2.1] at hc; injection hc with hc; injection hc with _ hc; exact absurd hc (by decide)
  obtain ⟨⟨es2, cl2, m2⟩, es1, cl1, m1⟩ := h2.mapAt
  have n1 : ¬ v.ownBlock = some b1 := fun e => by obtain ⟨cur, hc⟩ := key _ e; rw [m1] at hc; cases hc
  have n2 : ¬ v.ownBlock = some b2 := fun e => by obtain ⟨cur, hc⟩ := key _ e; rw [m2] at hc; cases hc
  exact ⟨d, b1, b2, on, ⟨by rw [O.block jj (lt_blk h1) nj]; exact h1, h2.out O nd n1 n2, h8⟩, h4, h5⟩
theorem Hold.len {v : Int → Sec} {L : List Jo.Gr} (h : Hold v L) : L.length ≤ 149 ∧ ∀ g ∈ L, g.length ≤ 8 := by
  refine ⟨?_, fun g hg => (Jo.ok_iff.1 (h.ok g hg)).2.1⟩
  have h3 : L.length ≤ sumN L := by
    have hk := h.ok
    clear h
    induction L with
    | nil => simp
    | cons a L ih =>
      have e : sumN (a :: L) = Jo.needF a + sumN L := by unfold sumN; simp
      have := ih fun g hg => hk g (by simp [hg])
      have h2 := Jo.need_ok (hk a (by simp))
      unfold Jo.secsOf at h2
      rw [e, List.length_cons]; omega
  have := h.le; omega
theorem jl_groups {B : Nat} {V : World} {jj : Nat} {L : List Jo.Gr} (h : JL B V jj L) :
    Calls Try.prog 7 #[pB jj] V fun e V' => ∃ a cap, e = .returned (.slice a L.length cap) ∧ IsGs V' a L.length L ∧ L.length ≤ cap ∧ Below V.heap.size V V' := by
  obtain ⟨d, b1, b2, on, h1, h2, h3⟩ := h
  refine (groups_all_c h1).mono ?_
  rintro e V' ⟨v, rfl, hg, hb⟩
  rw [show vw on (fun _ => none) = on from rfl, h3.grps (JL.sct h1)] at hg
  have hl := h3.len
  obtain ⟨a, cap, rfl, k1, k2⟩ := hg.isGs (by omega) (fun g hg => by have := hl.2 g hg; omega)
  exact ⟨a, cap, rfl, k1, k2, hb⟩
theorem jl_groupsN {B : Nat} {V : World} {jj : Nat} {L : List Jo.Gr} (h : JL B V jj L) (n : Nat) (hn : L.length = n) :
    Calls Try.prog 7 #[pB jj] V fun e V' => ∃ a cap, e = .returned (.slice a n cap) ∧ IsGs V' a n L ∧ n ≤ cap ∧ Below V.heap.size V V' := by
  subst hn; exact jl_groups h
theorem jl_append {B : Nat} {V : World} {jj : Nat} {L : List Jo.Gr} (h : JL B V jj L) (hs : B ≤ V.heap.size) (a : Option Addr) (len cap : Nat) (t : List Int) (ht : t.length ≤ 100) (hG : IsG0 V a len [t]) (hr : sumN L ≤ 140) :
    Calls Try.prog 9 #[pB jj, .slice a len cap] V fun e V' => e = .returned (.int .i64 0) ∧ JL B V' jj (L ++ [[t]]) ∧ Kp B V V' := by
  obtain ⟨d, b1, b2, on, h1, h2, h3⟩ := h
  obtain ⟨n1, n2⟩ := need_one t ht
  have hz : Jo.needF [t] ≠ 0 := by rw [Jo.need_ok n1]; unfold Jo.secsOf; omega
  have ha := h3.arEnd (JL.sct h1)
  refine (append_c h1 a len cap [t] hG).mono ?_
  rintro e V' (⟨z, _⟩ | ⟨_, z, _⟩ | ⟨_, _, rfl, hJ, ho⟩)
  · exact absurd z hz
  · exfalso
    rw [show vw on (fun _ => none) = on from rfl, ha.1, ha.2, show asz 300 = 149 from rfl] at z; omega
  · exact ⟨rfl, ⟨d, b1, b2, _, hJ, h2, h3.added (JL.sct h1) n1 (by omega)⟩, kp_out h1.2.1 h2 hs ho⟩
theorem tornF_A (on : Int → Sec) (g : Jo.Gr) (st : Int) (zs : List Int) : tornF st zs on (updO on (arEnd on 300) ((Jo.laid g (best on 2).2 ((grps on 300).length + 1)).take (Jo.needF g - 1))) (added on 300 g) = tornA on 300 g st zs := rfl
theorem jl_torn {B : Nat} {V : World} {jj : Nat} {L : List Jo.Gr} (h : JL B V jj L) (hs : B ≤ V.heap.size) (a : Option Addr) (len cap : Nat) (t : List Int) (ht : t.length ≤ 100) (hG : IsG0 V a len [t]) (hr : sumN L ≤ 140) (st : Int) (hst : st = 0 ∨ st = 1) (z : Option Addr) (zl zc : Nat) (zs : List Int) (hZ : IsZ V z zl zs) :
    Calls Try.prog 8 #[pB jj, .slice a len cap, .bool false, .int .i64 st, .slice z zl zc] V fun e V' => e = .returned (.int .i64 0) ∧ (JL B V' jj L ∨ JL B V' jj (L ++ [[t]])) ∧ Kp B V V' := by
  obtain ⟨d, b1, b2, on, h1, h2, h3⟩ := h
  obtain ⟨n1, n2⟩ := need_one t ht
  have hz : Jo.needF [t] ≠ 0 := by rw [Jo.need_ok n1]; unfold Jo.secsOf; omega
  have ha := h3.arEnd (JL.sct h1)
  have C : Calls Try.prog 8 #[pB jj, .slice a len cap, .bool false, .int .i64 st, .slice z zl zc] V (TornPost jj d b1 b2 300 on (fun _ => none) [t] st zs V) := by
    rcases hst with rfl | rfl
    · exact torn_a0 h1 a len cap [t] hG z zl zc zs hZ
    · exact torn_a1 h1 a len cap [t] hG z zl zc zs hZ
  refine C.mono ?_
  rintro e V' (⟨z, _⟩ | ⟨_, z, _⟩ | ⟨_, _, rfl, hJ, ho⟩)
  · exact absurd z hz
  · exfalso
    rw [show vw on (fun _ => none) = on from rfl, ha.1, ha.2, show asz 300 = 149 from rfl] at z; omega
  · refine ⟨rfl, ?_, kp_out h1.2.1 h2 hs ho⟩
    rw [show vw on (fun _ => none) = on from rfl, tornF_A] at hJ
    rcases h3.torn (JL.sct h1) n1 (by omega) st zs with h | h
    · exact .inl ⟨d, b1, b2, _, hJ, h2, h⟩
    · exact .inr ⟨d, b1, b2, _, hJ, h2, h⟩
theorem jl_disk {B : Nat} {V : World} {jj : Nat} {L : List Jo.Gr} (h : JL B V jj L) (hs : B ≤ V.heap.size) :
    Calls Try.prog 10 #[pB jj] V fun e V' => ∃ d', e = .returned (pD d') ∧ Below V.heap.size V V' ∧ Calls Try.prog 5 #[pD d'] V' fun e V2 => ∃ j2, e = .returned (pB j2) ∧ JL B V2 j2 L ∧ Below V'.heap.size V' V2 := by
  obtain ⟨d, b1, b2, on, h1, h2, h3⟩ := h
  refine (jdisk_c h1).mono ?_
  rintro e V' ⟨d', p1, p2, rfl, hD, hl, hb⟩
  refine ⟨d', rfl, hb, (open_c hD (by omega)).mono ?_⟩
  rintro e V2 ⟨j2, d2, q1, q2, rfl, hJ, hl2, hb2⟩
  have := hb.size
  exact ⟨j2, rfl, ⟨d2, q1, q2, on, hJ, ⟨by omega, by omega⟩, h3⟩, hb2⟩
theorem jl_new (V : World) : Calls Try.prog 6 #[.int .i64 300] V fun e V' => ∃ d, e = .returned (pD d) ∧ Below V.heap.size V V' ∧ Calls Try.prog 5 #[pD d] V' fun e V2 => ∃ j2, e = .returned (pB j2) ∧ JL V.heap.size V2 j2 [] ∧ Below V'.heap.size V' V2 := by
  refine (new_c 300 V (by omega) (by omega)).mono ?_
  rintro e V' ⟨rfl, hD, hb, _⟩
  refine ⟨_, rfl, hb, (open_c hD (by omega)).mono ?_⟩
  rintro e V2 ⟨j2, d2, q1, q2, rfl, hJ, hl2, hb2⟩
  have := hb.size
  exact ⟨j2, rfl, ⟨d2, q1, q2, _, hJ, ⟨by omega, by omega⟩, Hold.zero⟩, hb2⟩
/-- The groups of texts. -/
def grT (ts : List ByteArray) : List Jo.Gr := ts.map fun x => [Fr.bs x]
theorem grT_snoc (ts : List ByteArray) (x : ByteArray) : grT (ts ++ [x]) = grT ts ++ [[Fr.bs x]] := by unfold grT; simp
theorem grT_len (ts : List ByteArray) : (grT ts).length = ts.length := by unfold grT; simp
theorem sum_snoc (ts : List ByteArray) (x : ByteArray) (hx : x.size ≤ 100) : sumN (grT (ts ++ [x])) ≤ sumN (grT ts) + 6 := by
  rw [grT_snoc, sumN_snoc]
  have := (need_one (Fr.bs x) (by rw [Fr.bs_length]; exact hx)).2
  omega
theorem bytesRow_at (x : ByteArray) (cap i : Nat) (hi : i < x.size) : (bytesRow x cap)[i]? = some (.int .u8 ((Fr.bs x).getD i 0)) := by
  unfold bytesRow
  have h1 : i < (x.data.map fun b => Value.int .u8 b.toNat).size := by rw [Array.size_map]; exact hi
  have h2 : i < (Fr.bs x).length := by rw [Fr.bs_length]; exact hi
  have h3 : (Fr.bs x)[i]? = some ((x.data[i]'hi).toNat : Int) := by
    unfold Fr.bs
    rw [List.getElem?_map, Array.getElem?_toList, Array.getElem?_eq_getElem hi]; rfl
  rw [Array.getElem?_append_left h1, Array.getElem?_eq_getElem h1, List.getD, h3]
  simp
theorem text_blk (W : World) (x : ByteArray) (cap : Nat) (fr : Nat × Nat) (hc : x.size ≤ cap) (hx : x.size ≤ 100) : IsG0 ((W.drew.alloc (.cells (bytesRow x cap) 5 fr)).alloc (.cells #[.slice (some ⟨W.heap.size, 0, none⟩) x.size cap] 23)) (some ⟨W.heap.size + 1, 0, none⟩) 1 [Fr.bs x] ∧
    Below W.heap.size W ((W.drew.alloc (.cells (bytesRow x cap) 5 fr)).alloc (.cells #[.slice (some ⟨W.heap.size, 0, none⟩) x.size cap] 23)) := by
  have hb : Below W.heap.size W ((W.drew.alloc (.cells (bytesRow x cap) 5 fr)).alloc (.cells #[.slice (some ⟨W.heap.size, 0, none⟩) x.size cap] 23)) := ((Below.refl _ W).drew.alloc (Nat.le_refl _) _).alloc (by simp) _
  refine ⟨?_, hb⟩
  have hn1 : (W.drew.alloc (.cells (bytesRow x cap) 5 fr)).heap[W.heap.size]? = some (.cells (bytesRow x cap) 5 fr) := heap_alloc_new W.drew _
  have hn2 := heap_alloc_new (W.drew.alloc (.cells (bytesRow x cap) 5 fr)) (.cells #[.slice (some ⟨W.heap.size, 0, none⟩) x.size cap] 23)
  have hs : (W.drew.alloc (.cells (bytesRow x cap) 5 fr)).heap.size = W.heap.size + 1 := by simp
  rw [hs] at hn2
  have hB : IsB (W.drew.alloc (.cells (bytesRow x cap) 5 fr)) (some ⟨W.heap.size, 0, none⟩) (Fr.bs x).length (Fr.bs x) := by
    have hl := Fr.bs_length x
    refine ⟨rfl, by unfold maxLen; omega, fun _ => ⟨W.heap.size, 0, rfl, fun i hi => ?_⟩, fun i => ?_⟩
    · rw [cell_of_row _ _ _ _ _ _ hn1, Nat.zero_add, bytesRow_at x cap i (by omega)]
    · by_cases hi : i < (Fr.bs x).length
      · have := Fr.bs_byte x ((Fr.bs x).getD i 0) (by rw [List.getD, List.getElem?_eq_getElem hi]; exact List.getElem_mem hi)
        omega
      · simp [List.getD, List.getElem?_eq_none (by omega : (Fr.bs x).length ≤ i)]
  refine ⟨rfl, by unfold maxLen; omega, fun _ => ⟨W.heap.size + 1, 0, rfl, fun i hi => ?_⟩⟩
  obtain rfl : i = 0 := by omega
  refine ⟨some ⟨W.heap.size, 0, none⟩, cap, ?_, hB.later ((Below.refl _ _).alloc (Nat.le_refl _) _), ?_, fun e => by cases e⟩
  · rw [cell_of_row _ _ _ _ _ _ hn2]
    simp [Fr.bs_length]
  · show (Fr.bs x).length ≤ cap
    rw [Fr.bs_length]; exact hc
theorem text_new (W : World) (x : ByteArray) (hx : x.size ≤ 100) : IsG0 ((W.alloc (.cells (bytesRow x (grownCap W x.size 0 5)) 5 ((bytesRow x (grownCap W x.size 0 5)).size, (bytesRow x (grownCap W x.size 0 5)).size + 1))).alloc (.cells #[.slice (some ⟨W.heap.size, 0, none⟩) x.size (grownCap W x.size 0 5)] 23)).drew (some ⟨W.heap.size + 1, 0, none⟩) 1 [Fr.bs x] ∧
    Below W.heap.size W ((W.alloc (.cells (bytesRow x (grownCap W x.size 0 5)) 5 ((bytesRow x (grownCap W x.size 0 5)).size, (bytesRow x (grownCap W x.size 0 5)).size + 1))).alloc (.cells #[.slice (some ⟨W.heap.size, 0, none⟩) x.size (grownCap W x.size 0 5)] 23)).drew :=
  text_blk W x (grownCap W x.size 0 5) _ (grownCap_ge W x.size 0 5) hx
theorem isZ_three (W : World) (a b c : Int) (ha : 0 ≤ a ∧ a < 256) (hb : 0 ≤ b ∧ b < 256) (hc : 0 ≤ c ∧ c < 256) : IsZ (W.alloc (.cells #[.int .i64 a, .int .i64 b, .int .i64 c] 3)) (some ⟨W.heap.size, 0, none⟩) 3 [a, b, c] := by
  refine ⟨rfl, by unfold maxLen; omega, fun _ => ⟨W.heap.size, 0, rfl, fun i hi => ?_⟩, fun i => ?_⟩
  · rw [cell_of_row _ _ _ _ _ _ (heap_alloc_new W _)]
    match i, hi with
    | 0, _ => rfl
    | 1, _ => rfl
    | 2, _ => rfl
  · match i with
    | 0 => simp; omega
    | 1 => simp; omega
    | 2 => simp; omega
    | n + 3 => simp
theorem conv_zero (w : World) (p : Option Addr) (c : Nat) : (convert 23 9 (.slice p 0 c)).run Try.prog w = .ok (.string ByteArray.empty) w := by
  rw [run_convert_bytes_string w 23 9 5 _ 0 c Try.underlying23 Try.underlying5 Try.underlying9]
  cases p <;> simp [Conv.bytesToString, loadCells]
  all_goals rfl
/-- The bytes of a part as a text. -/
theorem part_text {w : World} {pa : Option Addr} {pc : Nat} {x : ByteArray} (h : IsB w pa (Fr.bs x).length (Fr.bs x)) : (convert 23 9 (.slice pa (Fr.bs x).length pc)).run Try.prog w = .ok (.string x) w := by
  by_cases hp : 0 < (Fr.bs x).length
  · obtain ⟨b, off, rfl, _⟩ := h.2.2.1 hp
    rw [isB_conv h hp, Fr.tx_bs]
  · have h0 : (Fr.bs x).length = 0 := by omega
    have hx : x = ByteArray.empty := by
      rw [← Fr.tx_bs x, List.eq_nil_of_length_eq_zero h0]; rfl
    rw [h0, conv_zero, hx]
theorem own_at {V : World} {B e n : Nat} {v : Value} {xs : List Value} (h : V.ownsRow B e 1 v n xs) (k : Nat) (hk : k < n) : ∃ g cap, v = .slice (some ⟨g, 0, none⟩) n cap ∧ n ≤ cap ∧ V.cell? ⟨g, k, none⟩ = xs[k]? := by
  rcases h.2 with ⟨rfl, hn⟩ | ⟨g, cap, cur, rfl, hg, hbk, hnc, hcm, hcs, ht⟩
  · omega
  · refine ⟨g, cap, rfl, hnc, ?_⟩
    rw [cell_of_row V g _ cur e (0, 0) hbk, ← ht, List.getElem?_take, if_pos (by omega), Array.getElem?_toList]
theorem gs_at {V : World} {a : Option Addr} {n : Nat} {ts : List ByteArray} (h : IsGs V a n (grT ts)) (k : Nat) (hk : k < n) : ∃ lb lo gb go gc pa pc, a = some ⟨lb, lo, none⟩ ∧ V.cell? ⟨lb, lo + k, none⟩ = some (.slice (some ⟨gb, go, none⟩) 1 gc) ∧ V.cell? ⟨gb, go, none⟩ = some (.slice pa (Fr.bs (ts.getD k ByteArray.empty)).length pc) ∧ IsB V pa (Fr.bs (ts.getD k ByteArray.empty)).length (Fr.bs (ts.getD k ByteArray.empty)) := by
  obtain ⟨h1, h2, h3⟩ := h
  rw [grT_len] at h1
  obtain ⟨lb, lo, e, hc⟩ := h3 (by omega)
  obtain ⟨ga, gc, c1, g1⟩ := hc k hk
  have hg : (grT ts).getD k [] = [Fr.bs (ts.getD k ByteArray.empty)] := by
    unfold grT
    have : k < ts.length := by omega
    simp [List.getD, this]
  rw [hg] at c1 g1
  obtain ⟨_, _, g3⟩ := g1
  obtain ⟨gb, go, rfl, hc2⟩ := g3 (by simp)
  obtain ⟨pa, pc, c2, hB, hpc, _⟩ := hc2 0 (by simp)
  refine ⟨lb, lo, gb, go, gc, pa, pc, e, c1, by simpa using c2, by simpa using hB⟩
end Go.Proofs.Ytllohapbbmnipad
