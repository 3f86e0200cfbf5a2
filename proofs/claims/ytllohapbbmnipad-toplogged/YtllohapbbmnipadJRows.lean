/-
  Rows of bytes and of sectors: what is read of a row that was made here; an append of bytes that may be none; loadOf and readHead of the package journal.
-/
import Derived.Test.YtllohapbbmnipadJNeed
import Derived.Laws.AppendOwnNone
namespace Go.Proofs.Ytllohapbbmnipad
open Go.RowKit Go.ChangeShapes Go.WideShapes Go.ChangeAt Go.Maps
set_option linter.unusedVariables false
set_option linter.unusedSimpArgs false
theorem addr_add (b off j : Nat) : (⟨b, off, none⟩ : Addr).add j = ⟨b, off + j, none⟩ := by unfold Addr.add; split <;> simp_all
theorem isB_news {w : World} {b off len : Nat} {zs : List Int} (h : IsB w (some ⟨b, off, none⟩) len zs) : ∀ j u, (zs.map by8)[j]? = some u → w.cell? ((⟨b, off, none⟩ : Addr).add j) = some u := by
  intro j u hu
  obtain ⟨h1, h2, h3, h4⟩ := h
  rw [List.getElem?_map] at hu
  by_cases hj : j < zs.length
  · obtain ⟨b', off', e, hc⟩ := h3 (by omega)
    cases e
    rw [List.getElem?_eq_getElem hj] at hu
    simp at hu
    rw [addr_add, hc j (by omega), ← hu]
    simp [List.getD, hj, by8]
  · rw [List.getElem?_eq_none (by omega)] at hu; cases hu
theorem one8 (zs : List Int) : ∀ u ∈ zs.map by8, u.oneCell' = true := fun u hu => by obtain ⟨x, _, rfl⟩ := List.mem_map.1 hu; rfl
theorem grown_refl (w : World) (r : Option Nat) : w.grownBy w r := ⟨rfl, rfl, rfl, Nat.le_refl _, fun _ _ _ => rfl⟩
/-- 'append(s, x...)' of bytes that may be none. -/
theorem wpList_appendB (w : World) {ops : Array Oper} {rest : List Oper} {o : Oper} {a : Act} {Q : Exit → Act → World → Prop} (hgd : o.guard = none) (s x : Operand)
    (ho : o.op = .call { callee := .builtin .append, args := #[s, x], argTypes := #[23, 23] }) (base : Nat) (v : Value) (n : Nat) (xs : List Value) (hs : a.eval s = v) (hown : w.ownsRow base 5 1 v n xs)
    (pa : Option Addr) (m c : Nat) (zs : List Int) (hx : a.eval x = .slice pa m c) (hb : IsB w pa m zs) (hc : pa = none → c = 0) (h63 : n + m ≤ 1000000) (hbase : base ≤ w.heap.size)
    (h : ∀ v' w', w'.ownsRow base 5 1 v' (n + m) (xs ++ zs.map by8) → w.grownBy w' v.ownBlock → wpList Try.prog ops Q rest (a.put o.dst v') w') : wpList Try.prog ops Q (o :: rest) a w := by
  obtain ⟨i0, hi, hz0, hz1, hz2⟩ := info_parts8
  cases pa with
  | none =>
    have hm : m = 0 := by
      rcases Nat.eq_zero_or_pos m with h0 | h0
      · exact h0
      · obtain ⟨b, off, e, _⟩ := hb.2.2.1 h0; cases e
    subst hm
    have hz : zs = [] := List.eq_nil_of_length_eq_zero hb.1
    subst hz
    have hc0 := hc rfl
    subst hc0
    refine wpList_append_own_none hgd s x 23 ho base 5 i0 1 Try.underlying23 hi v n xs hs hown hx ?_
    exact h v w (by simpa using hown) (grown_refl _ _)
  | some ad =>
    by_cases hm : m = 0
    · subst hm
      have hz : zs = [] := List.eq_nil_of_length_eq_zero hb.1
      subst hz
      refine wpList_append_own w hgd s x 23 ho base 5 i0 (.int .u8 0) 1 1 Try.underlying23 hi hz0 hz1 hz2 rfl (by decide) v n xs hs hown ad 0 c [] hx rfl (fun j u hu => by simp at hu) (fun u hu => by cases hu) (by unfold maxLen; omega) (by omega) hbase ?_
      intro v' w' h1 h2 h3
      exact h v' w' (by simpa using h1) h2
    · obtain ⟨b, off, e, _⟩ := hb.2.2.1 (by omega)
      cases e
      refine wpList_append_own w hgd s x 23 ho base 5 i0 (.int .u8 0) 1 1 Try.underlying23 hi hz0 hz1 hz2 rfl (by decide) v n xs hs hown ⟨b, off, none⟩ m c (zs.map by8) hx (by simp [hb.1]) (isB_news hb) (one8 zs) (by unfold maxLen; omega) (by omega) hbase ?_
      intro v' w' h1 h2 h3
      exact h v' w' h1 h2
/-- What is read of a row of bytes that was made here. -/
theorem own_isB {w : World} {base : Nat} {v : Value} {zs : List Int} (h : w.ownsRow base 5 1 v zs.length (zs.map by8)) (hb : Jo.Bytes zs) : ∃ a cap, v = .slice a zs.length cap ∧ IsB w a zs.length zs ∧ zs.length ≤ cap ∧ (a = none → cap = 0) ∧ (∀ q, a = some q → base ≤ q.block ∧ q.block < w.heap.size) := by
  have hbd : ∀ i, 0 ≤ zs.getD i 0 ∧ zs.getD i 0 ≤ 255 := fun i => by have := Jo.bytes_getD hb i; omega
  have hlt := h.lt
  rcases h with ⟨hl, ⟨rfl, hn⟩ | ⟨g, cap, cur, rfl, hg, hbk, hnc, hcm, hcs, ht⟩⟩
  · exact ⟨none, 0, by rw [hn], ⟨rfl, by unfold maxLen; omega, (fun hp => by omega), hbd⟩, by omega, (fun _ => rfl), (fun q e => by cases e)⟩
  · refine ⟨some ⟨g, 0, none⟩, cap, rfl, ⟨rfl, by omega, fun hp => ⟨g, 0, rfl, fun i hi => ?_⟩, hbd⟩, hnc, (fun e => by cases e), (fun q e => by cases e; exact hlt g rfl)⟩
    rw [cell_of_row w g _ cur 5 (0, 0) hbk]
    have e1 : (cur.toList.take (zs.length * 1))[i]? = (zs.map by8)[i]? := by rw [ht]
    rw [List.getElem?_take, if_pos (by omega)] at e1
    simp only [Nat.zero_add]
    rw [← Array.getElem?_toList, e1]
    simp [hi, by8, List.getD]
/-- The parts of a group, with what is known of those that are none. -/
def IsG0 (w : World) (a : Option Addr) (len : Nat) (g : Jo.Gr) : Prop :=
  g.length = len ∧ len ≤ maxLen ∧ (0 < len → ∃ b off, a = some ⟨b, off, none⟩ ∧ ∀ i, i < len → ∃ pa cap, w.cell? ⟨b, off + i, none⟩ = some (.slice pa (g.getD i []).length cap) ∧ IsB w pa (g.getD i []).length (g.getD i []) ∧ (g.getD i []).length ≤ cap ∧ (pa = none → cap = 0))
theorem IsG0.isG {w : World} {a : Option Addr} {len : Nat} {g : Jo.Gr} (h : IsG0 w a len g) : IsG w a len g := by
  obtain ⟨h1, h2, h3⟩ := h
  refine ⟨h1, h2, fun hp => ?_⟩
  obtain ⟨b, off, e, hc⟩ := h3 hp
  refine ⟨b, off, e, fun i hi => ?_⟩
  obtain ⟨pa, cap, c1, c2, c3, _⟩ := hc i hi
  exact ⟨pa, cap, c1, c2, c3⟩
theorem IsG0.later {w w' : World} {a : Option Addr} {len : Nat} {g : Jo.Gr} (h : IsG0 w a len g) (hb : Below w.heap.size w w') : IsG0 w' a len g := by
  obtain ⟨h1, h2, h3⟩ := h
  refine ⟨h1, h2, fun hp => ?_⟩
  obtain ⟨b, off, e, hc⟩ := h3 hp
  refine ⟨b, off, e, fun i hi => ?_⟩
  obtain ⟨pa, cap, c1, c2, c3, c4⟩ := hc i hi
  exact ⟨pa, cap, cell_later hb c1, c2.later hb, c3, c4⟩
theorem zero4 : (#[.int .u8 0, .int .u8 0, .int .u8 0, .int .u8 0] : Array Value) = (([0, 0, 0, 0] : List Int).map by8).toArray := rfl
theorem below_grown {B : Nat} {a w w' : World} {base : Nat} {e size n : Nat} {v : Value} {xs : List Value} (h : Below B a w) (hown : w.ownsRow base e size v n xs) (hB : B ≤ base) (hBw : B ≤ w.heap.size) (hg : w.grownBy w' v.ownBlock) : Below B a w' :=
  Below.grown h hg hBw (fun k hk => by have := (hown.lt k hk).1; omega)
theorem own_keep {S : Nat → Prop} {w w' : World} {base : Nat} {e : TypeId} {size : Nat} {v : Value} {n : Nat} {xs : List Value} (h : w.ownsRow base e size v n xs) (ho : Out S w w') (hS : ∀ k, v.ownBlock = some k → ¬ S k) : w'.ownsRow base e size v n xs := by
  refine ⟨h.1, ?_⟩
  rcases h.2 with h | ⟨g, cap, cur, e1, e2, e3, e4⟩
  · exact .inl h
  · exact .inr ⟨g, cap, cur, e1, e2, by rw [ho.block g (lt_blk e3) (hS g (by rw [e1]; rfl))]; exact e3, e4⟩
theorem own_shape6 {w : World} {base e size n : Nat} {v : Value} {xs : List Value} (h : w.ownsRow base e size v n xs) : ∃ a cap, v = .slice a n cap := by
  rcases h.2 with ⟨hv, hn⟩ | ⟨g, cap, cur, hv, _⟩
  · exact ⟨_, _, by rw [hv, hn]⟩
  · exact ⟨_, _, hv⟩
theorem isB_put4 {w : World} {g : Nat} {T : TypeId} {n : Int} (h : Bx w g T (put [0, 0, 0, 0] 0 (Fr.le4 n))) : IsB w (some ⟨g, 0, none⟩) 4 (Fr.le4 n) :=
  bx_isB (s := Fr.le4 n) h (Jo.bytes_le4 _) 0 4 (by rw [Jo.le4_len]; omega) (by decide)
theorem out_new {a w' : World} {o : Obj} (h : Out (fun k => k = a.heap.size) (a.alloc o) w') : Out (fun k => a.heap.size ≤ k) a w' :=
  (Out.of ((Below.refl _ _).alloc (Nat.le_refl _) o)).trans (h.mono (fun k e => by omega))
theorem out_below {a w' : World} (h : Out (fun k => a.heap.size ≤ k) a w') : Below a.heap.size a w' := h.below (Nat.le_refl _) (fun k e => e)
set_option maxRecDepth 20000 in
set_option maxHeartbeats 2000000 in
theorem loadOf_c (a : Option Addr) (len cap : Nat) (g : Jo.Gr) (w : World) (h : IsG0 w a len g) (hok : g.length ≤ 8) (hsm : ∀ j, j < g.length → (g.getD j []).length ≤ 16384) :
    Calls Try.prog 70 #[.slice a len cap] w fun e w' => ∃ v, e = .returned v ∧ w'.ownsRow w.heap.size 5 1 v (Jo.loadF g).length ((Jo.loadF g).map by8) ∧ Below w.heap.size w w' := by
  have H := hid h
  obtain ⟨h1, h2, h3⟩ := h
  unfold maxLen at h2
  have HL := hid h1
  have H3 := hid h3
  have HS := hid hsm
  have HO := hid hok
  clear h3 h1 hsm hok
  have zf := zero4
  go_enter Try.func70, Try.ntmps70
  go_wp2
  go_loopw [3, 9] (fun v i wr => ∃ k : Nat, k ≤ len ∧ i = .int .i64 k ∧ wr.ownsRow w.heap.size 5 1 v (Jo.loadF (g.take k)).length ((Jo.loadF (g.take k)).map by8) ∧ Below w.heap.size w wr) (fun _ i _ => len - (intOf i).toNat)
  case atStart => exact ⟨0, Nat.zero_le _, rfl, by simpa [Jo.loadF] using World.ownsRow_nil w w.heap.size 5 1, Below.refl _ _⟩
  case round =>
    obtain ⟨k, hk, rfl, hown, hB⟩ := hrel
    have hBz := hB.size
    by_cases hlt : k < len
    · obtain ⟨b, off, rfl, hc⟩ := H3.out (by omega)
      obtain ⟨pa, pc, c1, c2, c3, c4⟩ := hc k hlt
      have c1' := cell_later hB c1
      have hpl := HS.out k (by rw [HL.out]; exact hlt)
      have hle := load_take_le (g := g) (k := k) (by rw [HL.out]; exact hk) HO.out (fun j hj => HS.out j (by rw [HL.out]; omega))
      have C2 := hid c2
      have C4 := hid c4
      have HT := hid (Jo.load_take (g := g) (k := k) (by rw [HL.out]; exact hlt))
      have HO1 := hid hown
      have HB1 := hid hB
      clear hc c1 c2 c4 hB
      generalize hp : g.getD k [] = p at *
      clear hp
      have hx1 : Bx (wr.alloc (.cells (([0, 0, 0, 0] : List Int).map by8).toArray 165)) wr.heap.size 165 [0, 0, 0, 0] := heap_alloc_new wr _
      have hB1 : Below wr.heap.size wr (wr.alloc (.cells (([0, 0, 0, 0] : List Int).map by8).toArray 165)) := (Below.refl _ _).alloc (Nat.le_refl _) _
      go_wp2_with (first
        | (at_builtin; refine wpList_appendB _ rfl _ _ rfl w.heap.size _ _ _ rfl hown5 pa p.length pc p rfl (C2.out.later (HB1.out.trans B5)) C4.out (by omega) (by have := B5.size; omega) ?_; intro v6 w6 hown6 hgrow6)
        | (at_builtin; refine wpList_appendB _ rfl _ _ rfl w.heap.size _ _ _ rfl hown1 (some ⟨wr.heap.size, 0, none⟩) 4 4 (Fr.le4 p.length) rfl (isB_put4 hb1) (fun e => by cases e) (by omega) (by have := O1.size; omega) ?_; intro v5 w5 hown5 hgrow5; (have B5 : Below w.heap.size wr w5 := below_grown ((out_below O1).mono hBz) hown1 (Nat.le_refl _) (by have := O1.size; omega) hgrow5))
        | (go_at_call 75; refine (putNumber_c wr.heap.size 0 4 165 [0, 0, 0, 0] _ _ (by exact hx1) (by decide) (by omega) (by omega)).mono ?_; rintro e w1 ⟨rfl, hb1, ho1, hz1⟩; (have O1 := out_new ho1); (have hown1 := own_keep HO1.out O1 (fun k hk h => by have := (HO1.out.lt k hk).2; omega))))
      have B6 : Below w.heap.size w w6 := below_grown (HB1.out.trans B5) hown5 (Nat.le_refl _) (by have := B5.size; omega) hgrow6
      obtain ⟨a6, c6, rfl⟩ := own_shape6 hown6
      go_roundw
      case rel => exact ⟨k + 1, by omega, by go_num, by rw [HT.out]; simpa [Jo.le4_len, Nat.add_assoc] using hown6, B6⟩
      case measure => simp [intOf]; omega
    · have ek : k = len := by omega
      have ht : g.take k = g := List.take_of_length_le (by rw [HL.out]; omega)
      rw [ht] at hown
      have HO1 := hid hown
      obtain ⟨a6, c6, rfl⟩ := own_shape6 hown
      clear hown ht
      go_wp2
      go_ret
      exact ⟨_, rfl, HO1.out, hB⟩
end Go.Proofs.Ytllohapbbmnipad
