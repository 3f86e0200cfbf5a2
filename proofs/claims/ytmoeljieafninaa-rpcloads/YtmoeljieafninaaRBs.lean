/-
  Callers: what lies in memory of one, and what its calls return and leave.
-/
import Derived.Test.YtmoeljieafninaaFCalls
import Derived.ChangeArms
import Derived.ChangeOld
import Derived.Below
namespace Go.Proofs.Ytmoeljieafninaa
open Go.RowKit Go.ChangeShapes Go.WideShapes Go.ChangeAt
set_option linter.unusedVariables false
set_option linter.unusedSimpArgs false
set_option maxRecDepth 100000
/-- All blocks that were there, but for those of S, are as they were. -/
structure Ou (S : Nat → Prop) (w w' : World) : Prop where
  os : w'.os = w.os
  tape : w'.tape = w.tape
  output : w'.output = w.output
  size : w.heap.size ≤ w'.heap.size
  block : ∀ k, k < w.heap.size → ¬ S k → w'.heap[k]? = w.heap[k]?
theorem Ou.refl (S : Nat → Prop) (w : World) : Ou S w w := ⟨rfl, rfl, rfl, Nat.le_refl _, fun _ _ _ => rfl⟩
theorem Ou.trans {S : Nat → Prop} {a b c : World} (h : Ou S a b) (k : Ou S b c) : Ou S a c :=
  ⟨k.os.trans h.os, k.tape.trans h.tape, k.output.trans h.output, Nat.le_trans h.size k.size, fun i hi hS => (k.block i (Nat.lt_of_lt_of_le hi h.size) hS).trans (h.block i hi hS)⟩
theorem Ou.mono {S T : Nat → Prop} {a b : World} (h : Ou S a b) (k : ∀ i, S i → T i) : Ou T a b := ⟨h.os, h.tape, h.output, h.size, fun i hi hS => h.block i hi fun e => hS (k i e)⟩
theorem Ou.of {S : Nat → Prop} {w w' : World} (h : Below w.heap.size w w') : Ou S w w' := ⟨h.os, h.tape, h.output, h.size, fun i hi _ => h.block i hi⟩
theorem Ou.below {S : Nat → Prop} {w w' : World} {B : Nat} (h : Ou S w w') (hB : B ≤ w.heap.size) (hS : ∀ k, S k → B ≤ k) : Below B w w' :=
  ⟨h.os, h.tape, h.output, h.size, fun i hi => h.block i (by omega) (fun e => by have := hS i e; omega)⟩
theorem Ou.alloc {S : Nat → Prop} {a w : World} (h : Ou S a w) (o : Obj) : Ou S a (w.alloc o) :=
  h.trans (Ou.of ((Below.refl _ _).alloc (Nat.le_refl _) o))
theorem Ou.drew {S : Nat → Prop} {a w : World} (h : Ou S a w) : Ou S a w.drew := ⟨h.os, h.tape, h.output, h.size, h.block⟩
theorem Ou.set {S : Nat → Prop} {a w : World} (h : Ou S a w) {g o : Nat} {v : Value} (hS : S g) : Ou S a (w.setCell ⟨g, o, none⟩ v) :=
  h.trans ⟨rfl, rfl, rfl, by simp [World.setCell], fun k hk hn => heap_setCell_other _ _ _ _ (fun e => hn (e ▸ hS))⟩
theorem lt_blkC {w : World} {g : Nat} {o : Obj} (h : w.heap[g]? = some o) : g < w.heap.size := by
  have := (Array.getElem?_eq_some_iff.1 h).1; exact this
/-- New blocks that are written do not matter. -/
theorem ou_new {S : Nat → Prop} {w W w' : World} (hb : Below w.heap.size w W) (h : Ou (fun k => S k ∨ k = w.heap.size) W w') : Ou S w w' :=
  ⟨h.os.trans hb.os, h.tape.trans hb.tape, h.output.trans hb.output, Nat.le_trans hb.size h.size, fun k hk hS => (h.block k (Nat.lt_of_lt_of_le hk hb.size) (fun e => e.elim hS (by omega))).trans (hb.block k hk)⟩
/-- A caller: whose, its epoch, the last number; whether a call is under way, its body, how often it was sent, when last. -/
structure Cl where
  cl : Int
  ep : Int
  num : Int
  uw : Bool
  body : ByteArray
  sends : Int
  lst : Int
def Cl.arr (c : Cl) : Array Value := #[.int .u8 c.cl, .int .u32 c.ep, .int .u32 c.num, .bool c.uw, .string c.body, .int .i64 c.sends, .int .u64 c.lst]
def Cl.Wf (c : Cl) : Prop := (0 ≤ c.cl ∧ c.cl < 256) ∧ (0 ≤ c.ep ∧ c.ep < 4294967296) ∧ (0 ≤ c.num ∧ c.num < 4294967296) ∧ (0 ≤ c.sends ∧ c.sends < 1000) ∧ (0 ≤ c.lst ∧ c.lst < 18446744073709551616) ∧ c.body.size ≤ 16384
def IsC (T : TypeId) (w : World) (g : Nat) (c : Cl) : Prop := w.heap[g]? = some (.cells c.arr T (0, 0))
abbrev pC (g : Nat) : Value := .pointer (some ⟨g, 0, none⟩)
theorem IsC.cells {T : TypeId} {w : World} {g : Nat} {c : Cl} (h : IsC T w g c) : w.cell? ⟨g, 0, none⟩ = some (.int .u8 c.cl) ∧ w.cell? ⟨g, 1, none⟩ = some (.int .u32 c.ep) ∧ w.cell? ⟨g, 2, none⟩ = some (.int .u32 c.num) ∧ w.cell? ⟨g, 3, none⟩ = some (.bool c.uw) ∧ w.cell? ⟨g, 4, none⟩ = some (.string c.body) ∧ w.cell? ⟨g, 5, none⟩ = some (.int .i64 c.sends) ∧ w.cell? ⟨g, 6, none⟩ = some (.int .u64 c.lst) ∧ ∀ o, w.frozen? ⟨g, o, none⟩ = false := by
  unfold IsC Cl.arr at h
  refine ⟨?_, ?_, ?_, ?_, ?_, ?_, ?_, fun o => ?_⟩
  all_goals simp [World.cell?, World.frozen?, h]
theorem IsC.out {S : Nat → Prop} {T : TypeId} {w w' : World} {g : Nat} {c : Cl} (h : IsC T w g c) (ho : Ou S w w') (hS : ¬ S g) : IsC T w' g c := by
  unfold IsC at *; rw [ho.block g (lt_blkC h) hS]; exact h
theorem IsC.later {T : TypeId} {w w' : World} {g : Nat} {c : Cl} (h : IsC T w g c) (hb : Below w.heap.size w w') : IsC T w' g c := h.out (S := fun _ => False) (Ou.of hb) id
theorem IsC.lt {T : TypeId} {w : World} {g : Nat} {c : Cl} (h : IsC T w g c) : g < w.heap.size := lt_blkC h
theorem row_set {w : World} {g : Nat} {arr : Array Value} {T : TypeId} (o : Nat) (v : Value) (h : w.heap[g]? = some (.cells arr T (0, 0))) : (w.setCell ⟨g, o, none⟩ v).heap[g]? = some (.cells (arr.setIfInBounds o v) T (0, 0)) := by
  rw [heap_setCell_same w g o arr T v h]
/-- A packet in a variable. -/
def PkAt (w : World) (B : Nat) (p : Fr.Pk) : Prop := w.heap[B]? = some (.cells #[.int .u8 p.k, .int .u8 p.f, .int .u8 p.t, .int .u32 p.e, .int .u32 p.s, .string p.b] 26 (0, 0))
def zpk : Fr.Pk := ⟨0, 0, 0, 0, 0, ⟨#[]⟩⟩
theorem PkAt.cells {w : World} {B : Nat} {p : Fr.Pk} (h : PkAt w B p) : w.cell? ⟨B, 0, none⟩ = some (.int .u8 p.k) ∧ w.cell? ⟨B, 1, none⟩ = some (.int .u8 p.f) ∧ w.cell? ⟨B, 2, none⟩ = some (.int .u8 p.t) ∧ w.cell? ⟨B, 3, none⟩ = some (.int .u32 p.e) ∧ w.cell? ⟨B, 4, none⟩ = some (.int .u32 p.s) ∧ w.cell? ⟨B, 5, none⟩ = some (.string p.b) ∧ ∀ o, w.frozen? ⟨B, o, none⟩ = false := by
  unfold PkAt at h
  refine ⟨?_, ?_, ?_, ?_, ?_, ?_, fun o => ?_⟩
  all_goals simp [World.cell?, World.frozen?, h]
theorem PkAt.out {S : Nat → Prop} {w w' : World} {g : Nat} {p : Fr.Pk} (h : PkAt w g p) (ho : Ou S w w') (hS : ¬ S g) : PkAt w' g p := by
  unfold PkAt at *; rw [ho.block g (lt_blkC h) hS]; exact h
theorem PkAt.later {w w' : World} {g : Nat} {p : Fr.Pk} (h : PkAt w g p) (hb : Below w.heap.size w w') : PkAt w' g p := h.out (S := fun _ => False) (Ou.of hb) id
theorem PkAt.lt {w : World} {g : Nat} {p : Fr.Pk} (h : PkAt w g p) : g < w.heap.size := lt_blkC h
theorem PkAt.new (w : World) (p : Fr.Pk) : PkAt (w.alloc (.cells #[.int .u8 p.k, .int .u8 p.f, .int .u8 p.t, .int .u32 p.e, .int .u32 p.s, .string p.b] 26)) w.heap.size p := heap_alloc_new w _
set_option maxHeartbeats 400000 in
theorem busy_c {w : World} {g : Nat} {c : Cl} (h : IsC 80 w g c) : Calls Try.prog 21 #[pC g] w fun e w' => e = .returned (.bool c.uw) ∧ w' = w := by
  obtain ⟨c0, c1, c2, c3, c4, c5, c6, cf⟩ := h.cells
  clear h c0 c1 c2 c4 c5 c6
  obtain ⟨cl, ep, num, uw, body, sends, lst⟩ := c
  simp only at c3 ⊢
  go_enter Try.func21, Try.ntmps21
  go_wp2
  go_ret
  exact ⟨rfl, rfl⟩
set_option maxHeartbeats 400000 in
theorem busy_nil (w : World) : Calls Try.prog 21 #[.pointer none] w fun e w' => e = .returned (.bool false) ∧ w' = w := by
  go_enter Try.func21, Try.ntmps21
  go_wp2
  go_ret
  exact ⟨rfl, rfl⟩
/-- What Call answers, and what the caller is then. -/
def callE (c : Cl) (s : ByteArray) : Int := if c.uw then 13 else if 16384 < s.size then 3 else if c.num = 4294967295 then 2 else 0
def callS (c : Cl) (s : ByteArray) : Cl := if callE c s = 0 then ⟨c.cl, c.ep, c.num + 1, true, s, 0, 0⟩ else c
set_option maxHeartbeats 1000000 in
theorem call_c {w : World} {g : Nat} {c : Cl} (h : IsC 80 w g c) (hw : c.Wf) (s : ByteArray) :
    Calls Try.prog 13 #[pC g, .string s] w fun e w' => e = .returned (.int .i64 (callE c s)) ∧ IsC 80 w' g (callS c s) ∧ Ou (fun k => k = g) w w' := by
  have BC := hid (busy_c h)
  have H := hid h
  obtain ⟨c0, c1, c2, c3, c4, c5, c6, cf⟩ := h.cells
  have f2 := cf 2
  have f3 := cf 3
  have f4 := cf 4
  have f5 := cf 5
  have f6 := cf 6
  obtain ⟨_, _, hn, _⟩ := hw
  clear h
  obtain ⟨cl, ep, num, uw, body, sends, lst⟩ := c
  simp only at *
  cases uw with
  | true =>
    have E : Hid (callE ⟨cl, ep, num, true, body, sends, lst⟩ s = 13) := rfl
    have E2 : Hid (callS ⟨cl, ep, num, true, body, sends, lst⟩ s = ⟨cl, ep, num, true, body, sends, lst⟩) := rfl
    go_enter Try.func13, Try.ntmps13
    go_wp2_with (go_at_call 21; refine BC.out.mono ?_; rintro _ w1 ⟨rfl, h1⟩; rw [h1])
    go_ret
    exact ⟨ret_int E.out.symm, by rw [E2.out]; exact H.out, Ou.refl _ _⟩
  | false =>
    by_cases hs : 16384 < s.size
    · have hs' : (16384 : Int) < s.size := by omega
      have e1 : callE ⟨cl, ep, num, false, body, sends, lst⟩ s = 3 := by simp [callE, hs]
      have E := hid e1
      have E2 : Hid (callS ⟨cl, ep, num, false, body, sends, lst⟩ s = ⟨cl, ep, num, false, body, sends, lst⟩) := by show _ = _; unfold callS; rw [e1]; rfl
      clear e1
      go_enter Try.func13, Try.ntmps13
      go_wp2_with (go_at_call 21; refine BC.out.mono ?_; rintro _ w1 ⟨rfl, h1⟩; rw [h1])
      go_ret
      exact ⟨ret_int E.out.symm, by rw [E2.out]; exact H.out, Ou.refl _ _⟩
    · have hs' : (s.size : Int) ≤ 16384 := by omega
      by_cases h3 : num = 4294967295
      · have e1 : callE ⟨cl, ep, num, false, body, sends, lst⟩ s = 2 := by simp [callE, hs, h3]
        have E := hid e1
        have E2 : Hid (callS ⟨cl, ep, num, false, body, sends, lst⟩ s = ⟨cl, ep, num, false, body, sends, lst⟩) := by show _ = _; unfold callS; rw [e1]; rfl
        have hb : (num == 4294967295) = true := beq_iff_eq.2 h3
        clear e1 h3
        go_enter Try.func13, Try.ntmps13
        go_wp2_with (go_at_call 21; refine BC.out.mono ?_; rintro _ w1 ⟨rfl, h1⟩; rw [h1])
        go_ret
        exact ⟨ret_int E.out.symm, by rw [E2.out]; exact H.out, Ou.refl _ _⟩
      · have e1 : callE ⟨cl, ep, num, false, body, sends, lst⟩ s = 0 := by simp [callE, hs, h3]
        have E := hid e1
        have E2 : Hid (callS ⟨cl, ep, num, false, body, sends, lst⟩ s = ⟨cl, ep, num + 1, true, s, 0, 0⟩) := by show _ = _; unfold callS; rw [e1]; rfl
        have hb : (num == 4294967295) = false := beq_eq_false_iff_ne.2 h3
        have hnum : num < 4294967295 := by omega
        clear e1 h3
        go_enter Try.func13, Try.ntmps13
        go_wp2_with (go_at_call 21; refine BC.out.mono ?_; rintro _ w1 ⟨rfl, h1⟩; rw [h1])
        go_ret
        exact ⟨ret_int E.out.symm, by rw [E2.out]; exact row_set 6 _ (row_set 5 _ (row_set 4 _ (row_set 3 _ (row_set 2 _ H.out)))), (((((Ou.refl (fun k => k = g) _).set rfl).set rfl).set rfl).set rfl).set rfl⟩
set_option maxHeartbeats 400000 in
theorem call_nil (s : ByteArray) (w : World) : Calls Try.prog 13 #[.pointer none, .string s] w fun e w' => e = .returned (.int .i64 1) ∧ w' = w := by
  go_enter Try.func13, Try.ntmps13
  go_wp2
  go_ret
  exact ⟨rfl, rfl⟩
/-- Is a call due? -/
def dueB (c : Cl) (now : Int) : Bool := decide (c.sends = 0) || (decide (c.lst ≤ now) && decide (4 ≤ now - c.lst))
set_option maxHeartbeats 1000000 in
theorem due_c {w : World} {g : Nat} {c : Cl} (h : IsC 80 w g c) (hw : c.Wf) (now : Int) (n0 : 0 ≤ now) (n1 : now < 18446744073709551616) :
    Calls Try.prog 29 #[.pointer (some ⟨g, 3, none⟩), .int .u64 now] w fun e w' => e = .returned (.bool (dueB c now)) ∧ w' = w := by
  obtain ⟨c0, c1, c2, c3, c4, c5, c6, cf⟩ := h.cells
  obtain ⟨_, _, _, _, hl, _⟩ := hw
  clear h c0 c1 c2 c3 c4 cf
  obtain ⟨cl, ep, num, uw, body, sends, lst⟩ := c
  simp only at *
  by_cases h1 : sends = 0
  · have E : Hid (dueB ⟨cl, ep, num, uw, body, sends, lst⟩ now = true) := by show _ = _; simp [dueB, h1]
    have hb : (sends == 0) = true := beq_iff_eq.2 h1
    clear h1
    go_enter Try.func29, Try.ntmps29
    go_wp2
    go_ret
    exact ⟨ret_bool E.out.symm, rfl⟩
  · have hb : (sends == 0) = false := beq_eq_false_iff_ne.2 h1
    by_cases h2 : lst ≤ now
    · have hd : decide (lst ≤ now) = true := decide_eq_true h2
      by_cases h3 : 4 ≤ now - lst
      · have E : Hid (dueB ⟨cl, ep, num, uw, body, sends, lst⟩ now = true) := by show _ = _; simp [dueB, h1, h2, h3]
        have hd3 : decide (4 ≤ now - lst) = true := decide_eq_true h3
        clear h1
        go_enter Try.func29, Try.ntmps29
        go_wp2
        go_ret
        exact ⟨ret_bool E.out.symm, rfl⟩
      · have E : Hid (dueB ⟨cl, ep, num, uw, body, sends, lst⟩ now = false) := by show _ = _; simp [dueB, h1, h2]; omega
        have hd3 : decide (4 ≤ now - lst) = false := decide_eq_false h3
        clear h1
        go_enter Try.func29, Try.ntmps29
        go_wp2
        go_ret
        exact ⟨ret_bool E.out.symm, rfl⟩
    · have E : Hid (dueB ⟨cl, ep, num, uw, body, sends, lst⟩ now = false) := by show _ = _; simp [dueB, h1, h2]
      have hd : decide (lst ≤ now) = false := decide_eq_false h2
      clear h1
      go_enter Try.func29, Try.ntmps29
      go_wp2
      go_ret
      exact ⟨ret_bool E.out.symm, rfl⟩
/-- Is a packet sent? Which, and what the caller is then. -/
def tickB (c : Cl) (now : Int) : Bool := c.uw && dueB c now
def tickP (c : Cl) (now : Int) : Fr.Pk := if tickB c now then ⟨1, c.cl, 0, c.ep, c.num, c.body⟩ else zpk
def tickS (c : Cl) (now : Int) : Cl := if tickB c now then ⟨c.cl, c.ep, c.num, c.uw, c.body, c.sends + 1, now⟩ else c
set_option maxHeartbeats 2000000 in
theorem tick_no {w : World} {g : Nat} {c : Cl} (h : IsC 80 w g c) (hw : c.Wf) (now : Int) (n0 : 0 ≤ now) (n1 : now < 18446744073709551616) (ht : tickB c now = false) :
    Calls Try.prog 14 #[pC g, .int .u64 now] w fun e w' => e = .returned (.tuple #[Fr.val zpk, .bool false]) ∧ Below w.heap.size w w' := by
  have b0 : Below w.heap.size w (w.alloc (.cells #[.int .u8 0, .int .u8 0, .int .u8 0, .int .u32 0, .int .u32 0, .string ⟨#[]⟩] 26)) := (Below.refl _ _).alloc (Nat.le_refl _) _
  have BC := hid (busy_c (h.later b0))
  have DC := hid (due_c (h.later b0) hw now n0 n1)
  cases hu : c.uw with
  | false =>
    rw [hu] at BC
    go_enter Try.func14, Try.ntmps14
    go_wp2_with (go_at_call 21; refine BC.out.mono ?_; rintro _ w1 ⟨rfl, h1⟩; rw [h1])
    exact bodyPost_ret (v := .tuple #[Fr.val zpk, .bool false]) (by simp [results, Try.results14, go_sem, Fr.val, zpk]) rfl ⟨rfl, b0⟩
  | true =>
    have hd : dueB c now = false := by simpa [tickB, hu] using ht
    rw [hu] at BC
    rw [hd] at DC
    go_enter Try.func14, Try.ntmps14
    go_wp2_with (first
      | (go_at_call 21; refine BC.out.mono ?_; rintro _ w1 ⟨rfl, h1⟩; rw [h1])
      | (go_at_call 29; refine DC.out.mono ?_; rintro _ w1 ⟨rfl, h1⟩; rw [h1]))
    exact bodyPost_ret (v := .tuple #[Fr.val zpk, .bool false]) (by simp [results, Try.results14, go_sem, Fr.val, zpk]) rfl ⟨rfl, b0⟩
set_option maxHeartbeats 2000000 in
theorem tick_yes {w : World} {g : Nat} {c : Cl} (h : IsC 80 w g c) (hw : c.Wf) (now : Int) (n0 : 0 ≤ now) (n1 : now < 18446744073709551616) (ht : tickB c now = true) :
    Calls Try.prog 14 #[pC g, .int .u64 now] w fun e w' => e = .returned (.tuple #[Fr.val ⟨1, c.cl, 0, c.ep, c.num, c.body⟩, .bool true]) ∧ IsC 80 w' g ⟨c.cl, c.ep, c.num, c.uw, c.body, c.sends + 1, now⟩ ∧ Ou (fun k => k = g) w w' := by
  have b0 : Below w.heap.size w (w.alloc (.cells #[.int .u8 0, .int .u8 0, .int .u8 0, .int .u32 0, .int .u32 0, .string ⟨#[]⟩] 26)) := (Below.refl _ _).alloc (Nat.le_refl _) _
  have BC := hid (busy_c (h.later b0))
  have DC := hid (due_c (h.later b0) hw now n0 n1)
  obtain ⟨hu, hd⟩ : c.uw = true ∧ dueB c now = true := by simpa [tickB] using ht
  rw [hu] at BC
  rw [hd] at DC
  have H := hid (h.later b0)
  have hlt := h.lt
  have P0 : Hid (PkAt (w.alloc (.cells #[.int .u8 0, .int .u8 0, .int .u8 0, .int .u32 0, .int .u32 0, .string ⟨#[]⟩] 26)) w.heap.size zpk) := PkAt.new w zpk
  obtain ⟨c0, c1, c2, c3, c4, c5, c6, cf⟩ := (h.later b0).cells
  have f5 := cf 5
  have f6 := cf 6
  obtain ⟨_, _, _, hsn, _⟩ := hw
  have B0 := hid b0
  clear h b0 ht hd hu cf
  obtain ⟨cl, ep, num, uw, body, sends, lst⟩ := c
  simp only at *
  have hzp : zpk = ⟨0, 0, 0, 0, 0, ⟨#[]⟩⟩ := rfl
  go_enter Try.func14, Try.ntmps14
  go_wp2_with fail
  generalize (w.alloc (.cells #[.int .u8 0, .int .u8 0, .int .u8 0, .int .u32 0, .int .u32 0, .string ⟨#[]⟩] 26)) = W at *
  refine BC.out.mono ?_
  rintro _ w1 ⟨rfl, h1⟩
  rw [h1]
  obtain ⟨p0, p1, p2, p3, p4, p5, pf⟩ := P0.out.cells
  have q0 := pf 0
  have q1 := pf 1
  have q2 := pf 2
  have q3 := pf 3
  have q4 := pf 4
  have q5 := pf 5
  have hne : ¬ w.heap.size = g := by omega
  have hne' : ¬ g = w.heap.size := by omega
  clear h1 pf hzp
  go_wp2_with (go_at_call 29; refine DC.out.mono ?_; rintro _ w1 ⟨rfl, h1⟩; rw [h1])
  go_region
  go_wp2
  refine bodyPost_ret (v := .tuple #[Fr.val ⟨1, cl, 0, ep, num, body⟩, .bool true]) (by simp [results, Try.results14, go_sem, Fr.val, p0, p1, p2, p3, p4, p5, hne]) rfl ⟨rfl, row_set 6 _ (row_set 5 _ H.out) |> fun e => (IsC.out (c := ⟨cl, ep, num, uw, body, sends + 1, now⟩) (S := fun k => k = w.heap.size) e ((((((((Ou.refl (fun k => k = w.heap.size) _).set rfl).set rfl).set rfl).set rfl).set rfl).set rfl).drew) hne'), ?_⟩
  have o1 : Ou (fun k => k = g ∨ k = w.heap.size) W (((W.setCell ⟨g, 5, none⟩ (.int .i64 (sends + 1))).setCell ⟨g, 6, none⟩ (.int .u64 now))) := ((Ou.refl _ _).set (.inl rfl)).set (.inl rfl)
  exact ou_new B0.out (((((((o1.set (.inr rfl)).set (.inr rfl)).set (.inr rfl)).set (.inr rfl)).set (.inr rfl)).set (.inr rfl)).drew)
end Go.Proofs.Ytmoeljieafninaa
