/-
  What is read of what was written: plain laws; an operation that comes in.
-/
import Derived.Test.YtbgninmkglgfeaaRLv2
namespace Go.Proofs.Ytbgninmkglgfeaa
open Go.RowKit Go.ChangeShapes Go.WideShapes Go.ChangeAt Go.Maps Go.Shelf
set_option linter.unusedVariables false
set_option linter.unusedSimpArgs false
theorem numF_acc (l : List Int) : ∀ a : Int, l.foldl (fun n b => n * 256 + b) a = a * 256 ^ l.length + numF l := by
  unfold numF
  induction l with
  | nil => intro a; simp
  | cons b t ih =>
    intro a
    rw [List.foldl_cons, List.foldl_cons, ih, ih (0 * 256 + b), List.length_cons, Int.pow_succ]
    rw [Int.add_mul, Int.add_mul]
    have : a * 256 * 256 ^ t.length = a * (256 ^ t.length * 256) := by rw [Int.mul_assoc, Int.mul_comm 256]
    omega
theorem numF_cons (b : Int) (t : List Int) : numF (b :: t) = b * 256 ^ t.length + numF t := by
  have := numF_acc (b :: t) 0
  unfold numF
  rw [List.foldl_cons, numF_acc]
  simp [numF]
theorem pow_cast : ∀ s : Nat, (256 : Int) ^ s = ((256 ^ s : Nat) : Int)
  | 0 => rfl
  | s + 1 => by rw [Int.pow_succ, Nat.pow_succ, pow_cast s, Int.natCast_mul]; rfl
theorem numF_beN (n : Nat) : ∀ s, numF (beF (n : Int) s) = ((n % 256 ^ s : Nat) : Int)
  | 0 => by simp [beF, numF, Nat.mod_one]
  | s + 1 => by
    rw [beF, numF_cons, beF_len, numF_beN n s, Nat.pow_succ, Nat.mod_mul, pow_cast s]
    generalize 256 ^ s = P
    have e : ((n : Int) / (P : Int)) % 256 = ((n / P % 256 : Nat) : Int) := by
      rw [Int.natCast_emod, Int.natCast_ediv]; rfl
    rw [e, Int.natCast_add, Int.natCast_mul, Int.mul_comm, Int.add_comm]
theorem numF_be (n : Int) (s : Nat) (h0 : 0 ≤ n) (h1 : n < 256 ^ s) : numF (beF n s) = n := by
  obtain ⟨m, rfl⟩ := Int.eq_ofNat_of_zero_le h0
  rw [pow_cast] at h1
  have h2 : m < 256 ^ s := Int.ofNat_lt.1 h1
  have := numF_beN m s
  rw [Nat.mod_eq_of_lt h2] at this
  exact this
theorem numP_be (n : Int) (s : Nat) (rest : List Int) (h0 : 0 ≤ n) (h1 : n < 256 ^ s) : numP s (beF n s ++ rest) = some (n, rest) := by
  have hl := beF_len n s
  unfold numP
  rw [if_pos (by rw [List.length_append, hl]; omega)]
  have e1 : (beF n s ++ rest).take s = beF n s := by rw [List.take_append_of_le_length (by omega), List.take_of_length_le (by omega)]
  have e2 : (beF n s ++ rest).drop s = rest := by rw [List.drop_append_of_le_length (by omega), List.drop_eq_nil_of_le (by omega), List.nil_append]
  rw [e1, e2, numF_be n s h0 h1]
theorem shortP_tx (s : ByteArray) (rest : List Int) (h : s.size ≤ 255) : shortP (txF s ++ rest) = some (Fr.bs s, rest) := by
  unfold shortP txF
  rw [List.append_assoc, numP_be (s.size : Int) 1 _ (by omega) (by simp; omega)]
  simp only [Int.toNat_natCast]
  have hl := Fr.bs_length s
  rw [if_pos (by rw [List.length_append, hl]; omega), List.take_append_of_le_length (by omega), List.take_of_length_le (by omega), List.drop_append_of_le_length (by omega), List.drop_eq_nil_of_le (by omega), List.nil_append]
theorem opP_opB (x : Rec) (rest : List Int) (hw : x.Wf) (hr : rightF x = true) : opP (opB x ++ rest) = some ({ x with sn := 0 }, rest) := by
  obtain ⟨s1, s2, s3⟩ := right_size x hr
  obtain ⟨h1, h2, h3, h4, h5, h6, h7, h8, h9⟩ := hw
  obtain ⟨k, fid, dir, nm, tt, nm2, md, dt, sn⟩ := x
  simp only at *
  unfold opP opB
  simp only [List.append_assoc]
  rw [numP_be k 1 _ h1.1 (by simpa using h1.2)]
  simp only
  rw [numP_be fid 4 _ h2.1 (by simpa using h2.2)]
  simp only
  rw [numP_be dir 4 _ h3.1 (by simpa using h3.2)]
  simp only
  rw [shortP_tx nm _ (by omega)]
  simp only
  rw [numP_be tt 4 _ h4.1 (by simpa using h4.2)]
  simp only
  rw [shortP_tx nm2 _ (by omega)]
  simp only
  rw [numP_be md 2 _ h5.1 (by simpa using h5.2)]
  simp only
  rw [shortP_tx dt _ (by omega)]
  simp only [Fr.tx_bs]
  have hr2 : rightF ⟨k, fid, dir, nm, tt, nm2, md, dt, 0⟩ = true := hr
  rw [hr2, if_pos rfl]
theorem opAll_opB (x : Rec) (hw : x.Wf) (hr : rightF x = true) : opAll (opB x) = some { x with sn := 0 } := by
  have := opP_opB x [] hw hr
  rw [List.append_nil] at this
  unfold opAll
  rw [this]
/-- UNLIKE OPERATIONS HAVE UNLIKE BYTES. -/
theorem opB_inj {x y : Rec} (hx : x.Wf) (hy : y.Wf) (rx : rightF x = true) (ry : rightF y = true) : opB x = opB y ↔ x.opV = y.opV := by
  constructor
  · intro e
    have h1 := opAll_opB x hx rx
    have h2 := opAll_opB y hy ry
    rw [e, h2] at h1
    obtain ⟨k, fid, dir, nm, tt, nm2, md, dt, sn⟩ := x
    obtain ⟨k', fid', dir', nm', tt', nm2', md', dt', sn'⟩ := y
    simp only [Option.some.injEq, Rec.mk.injEq] at h1
    obtain ⟨rfl, rfl, rfl, rfl, rfl, rfl, rfl, rfl, _⟩ := h1
    rfl
  · intro e
    obtain ⟨k, fid, dir, nm, tt, nm2, md, dt, sn⟩ := x
    obtain ⟨k', fid', dir', nm', tt', nm2', md', dt', sn'⟩ := y
    simp [Rec.opV] at e
    obtain ⟨rfl, rfl, rfl, rfl, rfl, rfl, rfl, rfl⟩ := e
    rfl
theorem tx_inj {a b : List Int} (ha : ∀ y ∈ a, 0 ≤ y ∧ y ≤ 255) (hb : ∀ y ∈ b, 0 ≤ y ∧ y ≤ 255) : ((Fr.tx a).toList == (Fr.tx b).toList) = true ↔ a = b := by
  constructor
  · intro h
    have h1 : (Fr.tx a).toList = (Fr.tx b).toList := by simpa using h
    have h2 : Fr.tx a = Fr.tx b := by
      rw [Lib.toList_data, Lib.toList_data] at h1
      have : (Fr.tx a).data = (Fr.tx b).data := Array.ext' h1
      cases hA : Fr.tx a
      cases hB : Fr.tx b
      rw [hA, hB] at this
      simp only at this
      rw [this]
    rw [← Fr.bs_tx a ha, ← Fr.bs_tx b hb, h2]
  · intro h; subst h; simp
set_option maxRecDepth 100000 in
theorem open_op {H : Type} {enc : TypeId × Value → H} {W : World} {r : Reach} {b0 : Nat} {v : Value} {d : DataW H} {p : List MemPlace}
    (hv : Value.okWide Try.prog W r b0 29 v) (h : DataW.Trod enc Try.prog W 0 (fun _ => true) true 29 v d p) :
    ∃ q : Rec, v = q.opV ∧ q.Wf := by
  simp only [Value.okWide, Try.underlying29] at hv
  obtain ⟨cs, rfl, hsz, _⟩ := hv
  obtain ⟨fuel, hf⟩ := h
  obtain ⟨q, hq, hw, _⟩ := trod_op hf
  refine ⟨q, ?_, hw⟩
  have : cs = q.ops.toArray := by
    apply Array.ext'
    simpa [Value.cells] using hq
  rw [this]; rfl
end Go.Proofs.Ytbgninmkglgfeaa
