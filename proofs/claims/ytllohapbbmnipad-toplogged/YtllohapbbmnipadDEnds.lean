/-
  What Flush and Crash of the package disk do.
-/
import Derived.Test.YtllohapbbmnipadDMove
namespace Go.Proofs.Ytllohapbbmnipad
open Go.RowKit Go.ChangeShapes Go.WideShapes Go.ChangeAt Go.Maps
set_option linter.unusedVariables false
set_option linter.unusedSimpArgs false
theorem IsD.ext {w : World} {d b1 b2 N : Nat} {on on' : Int → Sec} {c c' : Int → Option Sec} (h : IsD w d b1 b2 N on c) (e1 : ∀ i, on' i = on i) (e2 : ∀ i, c' i = c i) : IsD w d b1 b2 N on' c' := by
  have h1 : on' = on := funext e1
  have h2 : c' = c := funext e2
  rw [h1, h2]; exact h
set_option maxHeartbeats 400000 in
theorem flush_nil (w : World) : Calls Try.prog 21 #[.pointer none] w fun e w' => e = .returned (.int .i64 1) ∧ w' = w := by
  go_enter Try.func21, Try.ntmps21
  go_wp2
  go_ret
  exact ⟨rfl, rfl⟩
set_option maxRecDepth 100000 in
set_option maxHeartbeats 1000000 in
theorem flush_c {w : World} {d b1 b2 N : Nat} {on : Int → Sec} {c : Int → Option Sec} (h : IsD w d b1 b2 N on c) :
    Calls Try.prog 21 #[pD d] w fun e w' => e = .returned (.int .i64 0) ∧ IsD w' d b1 b2 N (fun i => (c i).getD (on i)) (fun _ => none) ∧ Out (fun k => k = b1 ∨ k = b2) w w' := by
  obtain ⟨c0, c1, c2, l0, l1, l2, d1, d2, d3⟩ := h.cells
  obtain ⟨D, hown, hf⟩ := h.2.2.2.2.1.1
  have HS : Hid (∀ i s, c i = some s → IsSec s ∧ 0 ≤ i ∧ i < N) := h.2.2.2.2.1.2
  have HF := hid hf
  have H := hid h
  have HO := hid hown
  have HN := hid h.2.2.2.1
  clear h hf hown c0 c1
  go_enter Try.func21, Try.ntmps21
  go_wp2_with (at_range; refine wpList_range_own _ rfl _ 53 rfl 3 90 law3 Try.underlying53 secR b2 N D rfl HO.out ?_; intro w0 hrg0 hg0 hs0)
  go_frame
  have R0 := hid hrg0
  have G0 := hid hg0
  clear hrg0 hg0 hs0 c2
  go_loopw [3] (fun _ wr => ∃ D' left cnt on' c', wr.ranges Try.prog 3 secR b2 w.heap.size N D' left cnt ∧ IsD wr d b1 b2 N on' c' ∧ Hid (∀ i, left (ky i) = true → c i ≠ none) ∧ Hid (∀ i, c' i = if left (ky i) = true then c i else none) ∧ Hid (∀ i, on' i = if left (ky i) = true then on i else (c i).getD (on i)) ∧ Out (fun k => k = b1 ∨ k = b2) w wr) (fun _ wr => wr.rangeLeft b2 w.heap.size)
  case atStart =>
    have o0 : Out (fun k => k = b1 ∨ k = b2) w w0 := Out.grown G0.out (fun k e => by cases e)
    have o1 : Out (fun _ => False) w w0 := Out.grown G0.out (fun k e => by cases e)
    have e0 : ∀ i, Maps.has D (ky i) = (c i).isSome := fun i => by rw [HF.out i]; exact (look_at HO.out i zsec).2
    refine ⟨D, Maps.has D, Maps.size D, on, c, R0.out, H.out.out o1 id id id, ?_, ?_, ?_, o0⟩
    · intro i hi e; rw [e0, e] at hi; cases hi
    · intro i; rw [e0]; cases c i <;> rfl
    · intro i; rw [e0]; cases c i <;> rfl
  case round =>
    obtain ⟨D', left, cnt, on', c', hrg, hD, hl, hc', hon', hout⟩ := hrel
    have HR := hid hrg
    have HD := hid hD
    have HU := hid hout
    clear hrg hD hout
    go_wp2_with (at_next; refine wpList_next_ranges _ rfl _ rfl 3 law3 secR (Value.int .i64) secV (fun key kl hk => by obtain ⟨x, hx, _⟩ := Maps.keyOf_int_inv Try.underlying3 hk; exact ⟨x, hx⟩) (fun v y hv => by obtain ⟨s, _, hx, _⟩ := secR_inv hv; exact ⟨s, hx⟩) b2 w.heap.size N _ _ _ rfl HR.out ?_ ?_)
    · intro _ hl0
      have HL0 := hid hl0
      clear hl0
      go_wp2
      go_ret
      refine ⟨rfl, HD.out.ext (fun i => ?_) (fun i => ?_), HU.out⟩
      · rw [hon'.out i, HL0.out, if_neg (by simp)]
      · rw [hc'.out i, HL0.out, if_neg (by simp)]
    · intro x s kl yd yp w1 cnt1 hkey hlk hv hat hrg1 hlt hg1 hs1 hen
      obtain ⟨x', ex, ekl, hwx⟩ := Maps.keyOf_int_inv Try.underlying3 hkey
      cases ex
      have ekl' : kl = ky x := ekl
      subst ekl'
      have R1 := hid hrg1
      have o1 : Out (fun k => k = w.heap.size) wr w1 := Out.grown hg1 (fun k e => by cases e; rfl)
      have O1 := hid o1
      have HD1 : Hid (IsD w1 d b1 b2 N on' c') := HD.out.out o1 (by omega) (by omega) (by omega)
      have hcx : ∃ s0, c x = some s0 := by
        have := hl.out x hlk
        cases hq : c x with
        | none => exact absurd hq this
        | some s0 => exact ⟨s0, rfl⟩
      obtain ⟨s0, hs0⟩ := hcx
      have hcx' : c' x = some s0 := by rw [hc'.out x, if_pos hlk, hs0]
      have HS0 := hid hs0
      have HLK := hid hlk
      have SC := hid (settle_some HD1.out x hcx')
      have HLT := hid hlt
      clear hkey hlk hv hat hrg1 hlt hg1 hs1 ekl hwx o1 hs0 hcx'
      go_wp2_with (go_at_call 44; refine SC.out.mono ?_; rintro e w2 ⟨rfl, q1, q2, q3⟩)
      obtain ⟨cnt2, q4, q5⟩ := q3 _ _ _ _ _ (by omega) R1.out
      rw [Maps.strike_twice] at q4
      go_roundw
      case rel =>
        have key : ∀ i : Int, (left (ky i) && !(ky i).sameKey (ky x)) = true ↔ left (ky i) = true ∧ i ≠ x := fun i => by rw [same_ky]; simp
        have hout2 : Out (fun k => k = b1 ∨ k = b2) w w2 := by
          refine ⟨q2.os.trans (O1.out.os.trans HU.out.os), q2.tape.trans (O1.out.tape.trans HU.out.tape), q2.output.trans (O1.out.output.trans HU.out.output), Nat.le_trans HU.out.size (Nat.le_trans O1.out.size q2.size), fun k hk hS => ?_⟩
          rw [q2.block k (Nat.lt_of_lt_of_le hk (Nat.le_trans HU.out.size O1.out.size)) hS, O1.out.block k (Nat.lt_of_lt_of_le hk HU.out.size) (by omega), HU.out.block k hk hS]
        refine ⟨_, _, cnt2, _, _, q4, q1, fun i hi => hl.out i ((key i).1 hi).1, fun i => ?_, fun i => ?_, hout2⟩
        · unfold upd
          by_cases hi : i = x
          · rw [if_pos hi, if_neg (by rw [key]; simp [hi])]
          · rw [if_neg hi, hc'.out i]
            by_cases hq : left (ky i) = true
            · rw [if_pos hq, if_pos ((key i).2 ⟨hq, hi⟩)]
            · rw [if_neg hq, if_neg (fun h => hq ((key i).1 h).1)]
        · unfold updS
          by_cases hi : i = x
          · rw [if_pos hi, if_neg (by rw [key]; simp [hi]), hi, HS0.out]; rfl
          · rw [if_neg hi, hon'.out i]
            by_cases hq : left (ky i) = true
            · rw [if_pos hq, if_pos ((key i).2 ⟨hq, hi⟩)]
            · rw [if_neg hq, if_neg (fun h => hq ((key i).1 h).1)]
      case measure => rw [q4.left_eq, HR.out.left_eq]; have := HLT.out; omega
/-- Numbers that came in. -/
def IsZ (w : World) (a : Option Addr) (len : Nat) (zs : List Int) : Prop :=
  zs.length = len ∧ len ≤ maxLen ∧ (0 < len → ∃ b off, a = some ⟨b, off, none⟩ ∧ ∀ i, i < len → w.cell? ⟨b, off + i, none⟩ = some (.int .i64 (zs.getD i 0))) ∧ ∀ i, -9223372036854775808 ≤ zs.getD i 0 ∧ zs.getD i 0 < 9223372036854775808
theorem IsM.cell {w : World} {b N : Nat} {f : Int → Option Sec} (h : IsM w b N f) {g o : Nat} {v : Value} (hc : w.cell? ⟨g, o, none⟩ = some v) : g ≠ b := by
  intro e
  obtain ⟨⟨D, ⟨es, clock, hb, _⟩, _⟩, _⟩ := h
  subst e
  simp [World.cell?, hb] at hc
theorem take_mem_succ (zs : List Int) (k : Nat) (h : k < zs.length) (j : Int) : j ∈ zs.take (k + 1) ↔ j ∈ zs.take k ∨ j = zs.getD k 0 := by
  rw [List.take_succ_eq_append_getElem h, List.mem_append, List.mem_singleton]
  simp [List.getD, List.getElem?_eq_getElem h]
set_option maxHeartbeats 400000 in
theorem crash_nil (a : Option Addr) (len cap : Nat) (w : World) : Calls Try.prog 22 #[.pointer none, .slice a len cap] w fun e w' => e = .returned (.int .i64 1) ∧ w' = w := by
  go_enter Try.func22, Try.ntmps22
  go_wp2
  go_ret
  exact ⟨rfl, rfl⟩
set_option maxRecDepth 100000 in
set_option maxHeartbeats 1000000 in
theorem crash_c {w : World} {d b1 b2 N : Nat} {on : Int → Sec} {c : Int → Option Sec} (h : IsD w d b1 b2 N on c) (a : Option Addr) (len cap : Nat) (zs : List Int) (hz : IsZ w a len zs) :
    Calls Try.prog 22 #[pD d, .slice a len cap] w fun e w' => e = .returned (.int .i64 0) ∧ IsD w' d b1 b2 N (fun i => if i ∈ zs then (c i).getD (on i) else on i) (fun _ => none) ∧ Out (fun k => k = b1 ∨ k = b2) w w' := by
  obtain ⟨c0, c1, c2, l0, l1, l2, d1, d2, d3⟩ := h.cells
  have H := hid h
  have HZ := hid hz
  have hm := hz.2.1
  unfold maxLen at hm
  have HC : Hid (∀ i, i < len → ∃ b off, a = some ⟨b, off, none⟩ ∧ w.cell? ⟨b, off + i, none⟩ = some (.int .i64 (zs.getD i 0)) ∧ b < w.heap.size ∧ b ≠ b1 ∧ b ≠ b2) := by
    intro i hi
    obtain ⟨b, off, e, hc⟩ := hz.2.2.1 (by omega)
    have h1 := hc i hi
    obtain ⟨_, _, _, _, m2, m, m1, _⟩ := h
    exact ⟨b, off, e, h1, World.block_lt_of_cell? w _ h1, m1.cell h1, m2.cell h1⟩
  clear h hz c0 c1 c2
  go_enter Try.func22, Try.ntmps22
  go_wp2
  go_loopw [6, 11] (fun _ i wr => ∃ (k : Nat) (on' : Int → Sec) (c' : Int → Option Sec), k ≤ len ∧ i = .int .i64 k ∧ Hid (IsD wr d b1 b2 N on' c') ∧ Hid (∀ j, c' j = if j ∈ zs.take k then none else c j) ∧ Hid (∀ j, on' j = if j ∈ zs.take k then (c j).getD (on j) else on j) ∧ Hid (Out (fun k => k = b1 ∨ k = b2) w wr)) (fun _ i _ => len - (intOf i).toNat)
  case atStart => exact ⟨0, on, c, Nat.zero_le _, rfl, H, fun j => by simp, fun j => by simp, Out.refl _ _⟩
  case round =>
    obtain ⟨k, on', c', hk, rfl, HD, hc', hon', HU⟩ := hrel
    by_cases hlt : k < len
    · obtain ⟨b, off, rfl, hcell, hbl, hb1, hb2⟩ := HC.out k hlt
      have hz1 := HZ.out.2.2.2 k
      have hcw : wr.cell? ⟨b, off + k, none⟩ = some (.int .i64 (zs.getD k 0)) := by
        rw [← hcell]; exact World.cell?_of_block (HU.out.block b hbl (by omega))
      have HT : Hid (∀ j, j ∈ zs.take (k + 1) ↔ j ∈ zs.take k ∨ j = zs.getD k 0) := take_mem_succ zs k (by have := HZ.out.1; omega)
      obtain ⟨z, ez⟩ : ∃ z, z = zs.getD k 0 := ⟨_, rfl⟩
      have EZ := hid ez
      rw [← ez] at hz1 hcw
      clear ez hcell hbl hb1 hb2
      cases hq : c' z with
      | none =>
        have SC := hid (settle_none HD.out z hz1.1 hz1.2 hq)
        have HQ := hid hq
        clear hq
        go_wp2_with (go_at_call 44; refine SC.out.mono ?_; rintro e w2 ⟨rfl, q1⟩)
        go_roundw
        case rel =>
          refine ⟨k + 1, on', c', by omega, by go_num, HD.out.later q1, fun j => ?_, fun j => ?_, HU.out.trans (Out.of q1)⟩
          · rw [hc'.out j]
            by_cases hj : j ∈ zs.take k
            · rw [if_pos hj, if_pos ((HT.out j).2 (.inl hj))]
            · rw [if_neg hj]
              by_cases hjz : j = z
              · have := HQ.out
                rw [hc'.out, ← hjz, if_neg hj] at this
                rw [this]; split <;> rfl
              · rw [if_neg (fun h => by rcases (HT.out j).1 h with h | h; exact hj h; exact hjz (h.trans EZ.out.symm))]
          · rw [hon'.out j]
            by_cases hj : j ∈ zs.take k
            · rw [if_pos hj, if_pos ((HT.out j).2 (.inl hj))]
            · rw [if_neg hj]
              by_cases hjz : j = z
              · have := HQ.out
                rw [hc'.out, ← hjz, if_neg hj] at this
                rw [this]; split <;> rfl
              · rw [if_neg (fun h => by rcases (HT.out j).1 h with h | h; exact hj h; exact hjz (h.trans EZ.out.symm))]
        case measure => simp [intOf]; omega
      | some s =>
        have SC := hid (settle_some HD.out z hq)
        have HQ := hid hq
        clear hq
        go_wp2_with (go_at_call 44; refine SC.out.mono ?_; rintro e w2 ⟨rfl, q1, q2, _⟩)
        go_roundw
        case rel =>
          refine ⟨k + 1, _, _, by omega, by go_num, q1, fun j => ?_, fun j => ?_, HU.out.trans q2⟩
          · unfold upd
            by_cases hjz : j = z
            · rw [if_pos hjz, if_pos ((HT.out j).2 (.inr (hjz.trans EZ.out)))]
            · rw [if_neg hjz, hc'.out j]
              by_cases hj : j ∈ zs.take k
              · rw [if_pos hj, if_pos ((HT.out j).2 (.inl hj))]
              · rw [if_neg hj, if_neg (fun h => by rcases (HT.out j).1 h with h | h; exact hj h; exact hjz (h.trans EZ.out.symm))]
          · unfold updS
            by_cases hjz : j = z
            · have := HQ.out
              rw [hc'.out] at this
              split at this
              · cases this
              · rw [if_pos hjz, if_pos ((HT.out j).2 (.inr (hjz.trans EZ.out))), hjz, this]; rfl
            · rw [if_neg hjz, hon'.out j]
              by_cases hj : j ∈ zs.take k
              · rw [if_pos hj, if_pos ((HT.out j).2 (.inl hj))]
              · rw [if_neg hj, if_neg (fun h => by rcases (HT.out j).1 h with h | h; exact hj h; exact hjz (h.trans EZ.out.symm))]
        case measure => simp [intOf]; omega
    · have ek : k = len := by omega
      have EK := hid ek
      clear ek
      have c2' := HD.out.cells.2.2.1
      go_wp2_with (refine wpList_clear _ rfl _ rfl b2 N c' rfl HD.out.2.2.2.2.1 ?_; intro w2 m2 t2)
      go_ret
      have o2 : Out (fun k => k = b2) wr w2 := Out.turned t2 rfl
      obtain ⟨e1, e2, e3, e4, e5, m, e6, e7⟩ := HD.out
      refine ⟨rfl, ⟨by rw [o2.block d (lt_blk e1) d2]; exact e1, e2, e3, e4, m2, m, e6.out o2 d3, fun i => ?_⟩, HU.out.trans (o2.mono fun _ e => Or.inr e)⟩
      rw [← e7 i, hon'.out i, EK.out, List.take_of_length_le (by have := HZ.out.1; omega)]
end Go.Proofs.Ytllohapbbmnipad
