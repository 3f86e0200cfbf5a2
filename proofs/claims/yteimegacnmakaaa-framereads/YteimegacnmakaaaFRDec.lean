/-
  What the document's answer for Decode and All returns.
-/
import Derived.Test.YteimegacnmakaaaFRCutG
import Derived.Laws.AppendOwnNone
namespace Go.Proofs.Yteimegacnmakaaa
open Go.RowKit Go.ChangeShapes Go.WideShapes Go.ChangeAt
open Go.BigFrame
set_option linter.unusedVariables false
set_option linter.unusedSimpArgs false
theorem isB_cap {H : Type} {enc : TypeId × Value → H} {P : Program} {W : World} {t e : TypeId} {a : Option Addr} {len cap : Nat} {d : DataW H} {p : List MemPlace}
    (ht : P.underlying t = some (.slice e)) (he : P.underlying e = some (.int .u8)) (hc : P.cellsOf e = 1)
    (h : DataW.Trod enc P W 0 (fun _ => true) true t (.slice a len cap) d p) : a = none → cap = 0 := by
  obtain ⟨fuel, hf⟩ := h
  rcases open_ints ht he hc hf with ⟨hcs, _⟩ | ⟨x, l, c, zs, hcs, _⟩
  · simp [Value.cells] at hcs
    exact fun _ => hcs.2.2
  · simp [Value.cells] at hcs
    intro h0
    rw [h0] at hcs
    cases hcs.1
theorem conv_zero (w : World) (p : Option Addr) (c : Nat) : (convert 26 9 (.slice p 0 c)).run Try.prog w = .ok (.string (Fr.tx [])) w := by
  rw [run_convert_bytes_string w 26 9 5 p 0 c Try.underlying26 Try.underlying5 Try.underlying9]
  cases p with
  | none => simp [Conv.bytesToString]; rfl
  | some a => simp [Conv.bytesToString, loadCells, loadCellsFrom]; rfl
theorem IsB.conv' {w : World} {a : Option Addr} {len cap : Nat} {zs : List Int} (h : IsB w a len zs) : (convert 26 9 (.slice a len cap)).run Try.prog w = .ok (.string (Fr.tx zs)) w := by
  by_cases h0 : len = 0
  · subst h0
    have : zs = [] := List.eq_nil_of_length_eq_zero h.1
    subst this
    exact conv_zero w a cap
  · obtain ⟨b, off, rfl, _⟩ := h.2.2.1 (by omega)
    exact h.conv
theorem own_len0 {w : World} {base e size n : Nat} {v : Value} {xs : List Value} (h : w.ownsRow base e size v n xs) : ∃ a cap, v = .slice a n cap := by
  rcases h.2 with ⟨hv, hn⟩ | ⟨g, cap, cur, hv, _⟩
  · exact ⟨none, 0, by rw [hv, hn]⟩
  · exact ⟨_, _, hv⟩
set_option maxHeartbeats 1000000 in
theorem rdecode_c (a : Option Addr) (len cap : Nat) (zs : List Int) (w : World) (hb : IsB w a len zs) (hlc : len ≤ cap) (hsm : len < 1000000) :
    Calls Try.prog 16 #[.slice a len cap] w (DecPost zs w) := by
  have HB := hid hb
  clear hb
  go_enter Try.func16, Try.ntmps16
  go_wp2_with fail
  have hP0 := zero_pb w
  have hB0 : Below w.heap.size w (w.alloc (.cells #[.int .u8 0, .int .u8 0, .int .u8 0, .int .u32 0, .int .u32 0, .string ⟨#[]⟩] 25)) := (Below.refl _ _).alloc (Nat.le_refl _) _
  generalize (w.alloc (.cells #[.int .u8 0, .int .u8 0, .int .u8 0, .int .u32 0, .int .u32 0, .string ⟨#[]⟩] 25)) = W at *
  refine (rcut_c _ _ _ _ _ (HB.out.later hB0) hlc hsm).mono ?_
  rintro _ w1 ⟨⟨p, v, hp, rfl, hown⟩ | ⟨hp, rfl⟩, hb1⟩
  · have hP1 := hP0.later hb1
    have hB1 := hB0.trans (hb1.mono hB0.size)
    have HL := begins_long hp
    have hll := HB.out.1
    have HP := hid hp
    obtain ⟨k, f, t, e, s, b⟩ := p
    simp only at HL hown
    obtain ⟨_, _, hsz, _⟩ := HL
    rw [hll] at hsz
    obtain ⟨a1, c1', rfl⟩ := own_len0 hown
    rw [List.length_drop, hll]
    clear hown hp
    rw [show Fr.val ⟨k, f, t, e, s, b⟩ = .agg #[.int .u8 k, .int .u8 f, .int .u8 t, .int .u32 e, .int .u32 s, .string b] from rfl]
    obtain ⟨c0, c1, c2, c3, c4, c5⟩ := hP1.cells
    have f1 : ∀ i, w1.frozen? ⟨w.heap.size, i, none⟩ = false := fun i => pb_frozen hP1 i
    have hlt := hP1.lt
    have hne : ¬ w.heap.size = w1.heap.size := by omega
    have hz1 := hB1.size
    by_cases hq : 19 + b.size = len
    · have H : Hid (Whole ⟨k, f, t, e, s, b⟩ zs) := begins_whole HP.out (by rw [hll]; exact hq)
      have hq' : len - (19 + b.size) = 0 := by omega
      rw [hq']
      clear hll hq hq'
      go_wp2
      exact bodyPost_ret (v := .tuple #[Fr.val ⟨k, f, t, e, s, b⟩, .int .i64 0]) (by simp [results, Try.results16, go_sem, Fr.val, hlt, hne, c0, c1, c2, c3, c4, c5]) rfl ⟨.inl ⟨_, H.out, rfl⟩, (below6 hB1 (Nat.le_refl _) _ _ _ _ _ _).alloc (by simp; omega) _⟩
    · have H : Hid (∀ p, ¬ Whole p zs) := fun q hw => by
        have e := Fr.begins_one (whole_begins hw) HP.out
        subst e
        have := whole_length hw
        simp only at this
        omega
      have hq' : (((len - (19 + b.size) : Nat) : Int) != 0) = true := by rw [bne_iff_ne]; omega
      clear hll hq
      generalize len - (19 + b.size) = d at *
      go_wp2
      exact bodyPost_ret (v := .tuple #[noPk, .int .i64 3]) (by simp [results, Try.results16, go_sem, noPk, hlt, hne, c0, c1, c2, c3, c4, c5]) rfl ⟨.inr ⟨H.out, rfl⟩, (below6 hB1 (Nat.le_refl _) _ _ _ _ _ _).alloc (by simp; omega) _⟩
  · have hP1 := hP0.later hb1
    have hB1 := hB0.trans (hb1.mono hB0.size)
    have H : Hid (∀ p, ¬ Whole p zs) := fun q hw => hp q (whole_begins hw)
    rw [show noPk = .agg #[.int .u8 0, .int .u8 0, .int .u8 0, .int .u32 0, .int .u32 0, .string ⟨#[]⟩] from rfl]
    obtain ⟨c0, c1, c2, c3, c4, c5⟩ := hP1.cells
    have f1 : ∀ i, w1.frozen? ⟨w.heap.size, i, none⟩ = false := fun i => pb_frozen hP1 i
    have hlt := hP1.lt
    have hne : ¬ w.heap.size = w1.heap.size := by omega
    have hz1 := hB1.size
    clear hp
    go_wp2
    exact bodyPost_ret (v := .tuple #[noPk, .int .i64 3]) (by simp [results, Try.results16, go_sem, noPk, hlt, hne, c0, c1, c2, c3, c4, c5]) rfl ⟨.inr ⟨H.out, rfl⟩, (below6 hB1 (Nat.le_refl _) _ _ _ _ _ _).alloc (by simp; omega) _⟩
end Go.Proofs.Yteimegacnmakaaa
