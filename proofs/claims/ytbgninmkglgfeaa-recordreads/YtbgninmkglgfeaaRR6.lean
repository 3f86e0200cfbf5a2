/-
  The document's ReadRecords.
-/
import Derived.Test.YtbgninmkglgfeaaRR5
import Derived.Test.YtbgninmkglgfeaaRDr
namespace Go.Proofs.Ytbgninmkglgfeaa
open Go.RowKit Go.ChangeShapes Go.WideShapes Go.ChangeAt
set_option linter.unusedVariables false
set_option linter.unusedSimpArgs false
set_option maxRecDepth 100000
theorem recsAll_of {zs z : List Int} {L : List Rec} {b : Bool} (h : recsP zs = bif b then none else some (L, z)) : recsAll zs = if b = false ∧ z.length = 0 then some L else none := by
  unfold recsAll
  rw [h]
  cases b with
  | true => rfl
  | false =>
    cases z with
    | nil => rfl
    | cons u t => rfl
/-- What the document's ReadRecords answers. -/
def RrsP (w : World) (zs : List Int) (e : Ending) (w' : World) : Prop :=
  Below w.heap.size w w' ∧ match recsAll zs with
    | none => e = .returned (.tuple #[.slice none 0 0, .int .i64 3])
    | some L => ∃ v, e = .returned (.tuple #[v, .int .i64 0]) ∧ w'.ownsRow w.heap.size 79 9 v L.length (rcells L)
set_option maxHeartbeats 4000000 in
theorem rReadRecs_c (a : Option Addr) (n c : Nat) (zs : List Int) (w : World) (h : IsB w a n zs) (hc : n ≤ c) (hl : Lies2 w a n c) :
    Calls Try.prog 10 #[.slice a n c] w fun e w' => RrsP w zs e w' := by
  have b0 := below_1 w (.cells #[.slice a n c, .bool false] 63)
  have hB := heap_alloc_new w (.cells #[.slice a n c, .bool false] 63)
  have RC := hid (rdRecs_e (rdr_box h hc hl b0 (Nat.le_refl _) hB))
  have B0 := hid b0
  clear hB h hc hl b0
  go_enter Try.func10, Try.ntmps10
  go_upto_region 3 with (go_at_call 28; refine RC.out.mono ?_; rintro _ w1 ⟨v, b, z, L, rfl, hO1, hk1, hr1, hp1⟩)
  have PA := hid (recsAll_of hp1)
  have KB := hid (B0.out.trans (hk1.below B0.out.size (Nat.le_refl _)))
  have HO := hid (own_baseR hO1 B0.out.size)
  obtain ⟨va, vc, rfl⟩ := own_shapeR hO1
  obtain ⟨ra, rl, rc, rbox, rI, _⟩ := hr1
  obtain ⟨rb0, rb1, _, _⟩ := cellsF rbox
  have hzl : z.length = rl := rI.1
  clear rbox rI hp1 hk1 hO1 RC
  cases b with
  | true =>
    have FIN : Hid (RrsP w zs (.returned (.tuple #[.slice none 0 0, .int .i64 3])) w1) := hid ⟨KB.out, by rw [PA.out]; rfl⟩
    clear PA hzl
    go_wp2
    go_ret2
    exact FIN.out
  | false =>
    by_cases q : rl = 0
    · have FIN : Hid (RrsP w zs (.returned (.tuple #[.slice va L.length vc, .int .i64 0])) w1) := hid ⟨KB.out, by rw [PA.out, if_pos ⟨rfl, by omega⟩]; exact ⟨_, rfl, HO.out⟩⟩
      subst q
      clear PA hzl
      go_wp2
      go_ret2
      exact FIN.out
    · have FIN : Hid (RrsP w zs (.returned (.tuple #[.slice none 0 0, .int .i64 3])) w1) := hid ⟨KB.out, by rw [PA.out, if_neg (fun h => q (by omega))]⟩
      have qB : ((rl : Int) != 0) = true := by rw [bne_iff_ne]; omega
      clear PA hzl
      go_wp2
      go_ret2
      exact FIN.out
end Go.Proofs.Ytbgninmkglgfeaa
