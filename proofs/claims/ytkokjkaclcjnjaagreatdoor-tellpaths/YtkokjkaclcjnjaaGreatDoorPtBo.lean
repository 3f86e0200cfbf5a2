/-
  lineOf of the package tell, and what it calls; Tree of a new tree; live.
  A number as digits, whatever it is.
  insideOf of the package tell.
  What takes texts one by one (a loop over a function that yields), as its giver sees it.
-/
import Derived.Test.YtkokjkaclcjnjaaGreatDoorPtBn
import Derived.Test.YtkokjkaclcjnjaaGreatDoorPtAk
import Derived.Test.YtkokjkaclcjnjaaGreatDoorPtAl
import Derived.Lib.ItoaMem
import Derived.Lib.LaidTab
import Derived.Test.YtkokjkaclcjnjaaGreatDoorPtBm
import Derived.Laws.AppendOwnNone
import Derived.Test.YtkokjkaclcjnjaaGreatDoorPtBj
import Derived.Test.YtkokjkaclcjnjaaGreatDoorPtBk
import Derived.Test.YtkokjkaclcjnjaaGreatDoorPtAi
namespace Go.Proofs.YtkokjkaclcjnjaaGreatDoor
open Go.RowKit Go.ChangeShapes Go.WideShapes Go.ChangeAt
set_option linter.unusedVariables false
set_option linter.unusedSimpArgs false
set_option maxRecDepth 100000
def nwNd : Nd := ⟨1, 2, 0, 0, none, 0, [], none, 0, []⟩
def decB (n : Nat) : ByteArray := ⟨(Lib.decDigits n).toArray⟩
set_option maxHeartbeats 1000000 in
theorem digS_c (n : Nat) (hn : n < 100) (w : World) : Calls Tryz.prog 57 #[.int .u32 (n : Int)] w fun e w' => e = .returned (.string (decB n)) ∧ w' = w := by
 have h1 : (n : Int) < 100 := by omega
 have S1 := hid (fun W => Tryz.internal_strconv_small n hn W)
 have F1 : Hid (∀ W, Calls Tryz.prog 85 #[.int .u64 (n : Int), .int .i64 10] W fun e w' => e = .returned (.string (decB n)) ∧ w' = W) := hid (fun W => by
   go_enter Tryz.func85, Tryz.ntmps85
   go_wp2_with (go_at_call 92; refine (S1.out _).mono ?_; rintro _ w3 ⟨rfl, h3⟩; rw [h3]; clear h3)
   go_ret
   exact ⟨rfl, rfl⟩)
 have F2 : Hid (∀ W, Calls Tryz.prog 75 #[.int .u64 (n : Int), .int .i64 10] W fun e w' => e = .returned (.string (decB n)) ∧ w' = W) := hid (fun W => by
   go_enter Tryz.func75, Tryz.ntmps75
   go_wp2_with (go_at_call 85; refine (F1.out _).mono ?_; rintro _ w3 ⟨rfl, h3⟩; rw [h3]; clear h3)
   go_ret
   exact ⟨rfl, rfl⟩)
 go_enter Tryz.func57, Tryz.ntmps57
 go_wp2_with (go_at_call 75; refine (F2.out _).mono ?_; rintro _ w3 ⟨rfl, h3⟩; rw [h3]; clear h3)
 go_ret
 exact ⟨rfl, rfl⟩
def wordB (k : Int) : ByteArray := if k = 1 then ⟨#[102, 105, 108, 101]⟩ else if k = 2 then ⟨#[100, 105, 114]⟩ else if k = 3 then ⟨#[108, 105, 110, 107]⟩ else ⟨#[]⟩
set_option maxHeartbeats 1000000 in
theorem word_c (k : Int) (w : World) : Calls Tryz.prog 58 #[.int .u8 k] w fun e w' => e = .returned (.string (wordB k)) ∧ w' = w := by
 obtain ⟨r, hr⟩ : ∃ r, Hid (r = wordB k) := ⟨_, hid rfl⟩
 rw [← hr.out]
 by_cases h1 : k = 1
 · have e1 : (k == 1) = true := by simp [h1]
   have RE : Hid (r = ⟨#[102, 105, 108, 101]⟩) := hid (by rw [hr.out]; unfold wordB; rw [if_pos h1])
   clear hr h1
   go_enter Tryz.func58, Tryz.ntmps58
   go_wp2
   go_ret
   exact ⟨by rw [RE.out]; rfl, rfl⟩
 · have e1 : (k == 1) = false := by simp [h1]
   by_cases h2 : k = 2
   · have e2 : (k == 2) = true := by simp [h2]
     have RE : Hid (r = ⟨#[100, 105, 114]⟩) := hid (by rw [hr.out]; unfold wordB; rw [if_neg h1, if_pos h2])
     clear hr h1 h2
     go_enter Tryz.func58, Tryz.ntmps58
     go_wp2
     go_ret
     exact ⟨by rw [RE.out]; rfl, rfl⟩
   · have e2 : (k == 2) = false := by simp [h2]
     by_cases h3 : k = 3
     · have e3 : (k == 3) = true := by simp [h3]
       have RE : Hid (r = ⟨#[108, 105, 110, 107]⟩) := hid (by rw [hr.out]; unfold wordB; rw [if_neg h1, if_neg h2, if_pos h3])
       clear hr h1 h2 h3
       go_enter Tryz.func58, Tryz.ntmps58
       go_wp2
       go_ret
       exact ⟨by rw [RE.out]; rfl, rfl⟩
     · have e3 : (k == 3) = false := by simp [h3]
       have RE : Hid (r = ⟨#[]⟩) := hid (by rw [hr.out]; unfold wordB; rw [if_neg h1, if_neg h2, if_neg h3])
       clear hr h1 h2 h3
       go_enter Tryz.func58, Tryz.ntmps58
       go_wp2
       go_ret
       exact ⟨by rw [RE.out]; rfl, rfl⟩
set_option maxHeartbeats 1000000 in
theorem inside0_c (f m l : Int) (da ka : Option Addr) (dn dc kc : Nat) (w : World) : Calls Tryz.prog 59 #[.agg #[.int .u32 f, .int .u8 2, .int .u16 m, .int .u16 l, .slice da dn dc, .slice ka 0 kc]] w fun e w' => e = .returned (.string ⟨#[45]⟩) ∧ Below w.heap.size w w' := by
 have hb := below_1 w (.cells #[.int .u32 f, .int .u8 2, .int .u16 m, .int .u16 l, .slice da dn dc, .slice ka 0 kc] 37)
 have hB := heap_alloc_new w (.cells #[.int .u32 f, .int .u8 2, .int .u16 m, .int .u16 l, .slice da dn dc, .slice ka 0 kc] 37)
 have k1 : (w.alloc (.cells #[.int .u32 f, .int .u8 2, .int .u16 m, .int .u16 l, .slice da dn dc, .slice ka 0 kc] 37)).cell? ⟨w.heap.size, 1, none⟩ = some (.int .u8 2) := cell_of_row2 hB 1 rfl
 have k5 : (w.alloc (.cells #[.int .u32 f, .int .u8 2, .int .u16 m, .int .u16 l, .slice da dn dc, .slice ka 0 kc] 37)).cell? ⟨w.heap.size, 5, none⟩ = some (.slice ka 0 kc) := cell_of_row2 hB 5 rfl
 have B0 := hid hb
 clear hb hB
 go_enter Tryz.func59, Tryz.ntmps59
 go_wp2
 go_ret
 exact ⟨rfl, B0.out⟩
end Go.Proofs.YtkokjkaclcjnjaaGreatDoor
namespace Go.Proofs.YtkokjkaclcjnjaaGreatDoor
open Go.RowKit Go.ChangeShapes Go.WideShapes Go.ChangeAt Go.Sort
set_option linter.unusedVariables false
set_option linter.unusedSimpArgs false
set_option maxRecDepth 100000
end Go.Proofs.YtkokjkaclcjnjaaGreatDoor
namespace Go.Proofs.YtkokjkaclcjnjaaGreatDoor
open Go.RowKit Go.ChangeShapes Go.WideShapes Go.ChangeAt
set_option linter.unusedVariables false
set_option linter.unusedSimpArgs false
set_option maxRecDepth 100000
theorem info_strT : ∃ i : TypeInfo, Tryz.prog.info? 9 = some i ∧ i.zero = some (.string ByteArray.empty) ∧ i.size = 1 ∧ i.bytes = 16 := by
 have h : (Tryz.prog.info? 9).map (fun i => (i.zero, i.size, i.bytes)) = some (some (.string ByteArray.empty), 1, 16) := by kernel_rfl
 cases hi : Tryz.prog.info? 9 with
 | none => rw [hi] at h; cases h
 | some i => rw [hi] at h; simp at h; exact ⟨i, rfl, h.1, h.2.1, h.2.2⟩
def OwS (w : World) (base : Nat) (v : Value) (l : List ByteArray) : Prop := w.ownsRow base 9 1 v l.length (l.map Value.string)
theorem OwS.nil (w : World) (base : Nat) : OwS w base (.slice none 0 0) [] := World.ownsRow_nil _ _ 9 1
theorem OwS.later {w w' : World} {base : Nat} {v : Value} {l : List ByteArray} (h : OwS w base v l) (hb : Below w.heap.size w w') : OwS w' base v l := own_latR h hb
theorem OwS.shape {w : World} {base : Nat} {v : Value} {l : List ByteArray} (h : OwS w base v l) : ∃ a c, v = .slice a l.length c := by
 rcases h.2 with ⟨e, e0⟩ | ⟨g', cap, cur, hv, _⟩
 · exact ⟨none, 0, by rw [e, e0]⟩
 · exact ⟨_, cap, hv⟩
theorem OwS.cells {w : World} {base : Nat} {a : Option Addr} {c : Nat} {l : List ByteArray} (h : OwS w base (.slice a l.length c) l) (hp : 0 < l.length) : ∃ g, a = some ⟨g, 0, none⟩ ∧ g < w.heap.size ∧ l.length ≤ c ∧ ∀ (j : Nat) x, l[j]? = some x → w.cell? ⟨g, 0 + j, none⟩ = some (.string x) := by
 rcases h.2 with ⟨e, e0⟩ | ⟨g', cap, cur, hv, hb, hg, h1, h2, h3, h4⟩
 · exact absurd e0 (by omega)
 · simp only [Value.slice.injEq] at hv
   obtain ⟨rfl, _, rfl⟩ := hv
   refine ⟨g', rfl, lt_blkR hg, h1, fun j x hx => ?_⟩
   have hj : j < l.length := (List.getElem?_eq_some_iff.1 hx).1
   rw [Nat.zero_add, cell_of_row w g' j cur _ _ hg, ← Array.getElem?_toList]
   have h8 : (cur.toList.take (l.length * 1))[j]? = (l.map Value.string)[j]? := by rw [h4]
   rw [List.getElem?_take_of_lt (by omega), List.getElem?_map, hx] at h8
   exact h8
theorem below_grownI {B : Nat} {a w w' : World} {base : Nat} {e size n : Nat} {v : Value} {xs : List Value} (h : Below B a w) (hown : w.ownsRow base e size v n xs) (hB : B ≤ base) (hBw : B ≤ w.heap.size) (hg : w.grownBy w' v.ownBlock) : Below B a w' :=
 h.grown hg hBw (fun k hk => Nat.le_trans hB (hown.lt k hk).1)
end Go.Proofs.YtkokjkaclcjnjaaGreatDoor
namespace Go.Proofs.YtkokjkaclcjnjaaGreatDoor
open Go.RowKit Go.ChangeShapes Go.WideShapes Go.ChangeAt Go.Shelf
set_option linter.unusedVariables false
set_option linter.unusedSimpArgs false
set_option maxRecDepth 100000
theorem Ou.trans' {S T : Nat → Prop} {a b c : World} (h : Ou S a b) (k : Ou T b c) (hT : ∀ q, T q → S q ∨ a.heap.size ≤ q) : Ou S a c :=
 ⟨k.os.trans h.os, k.tape.trans h.tape, k.output.trans h.output, Nat.le_trans h.size k.size, fun i hi hS => (k.block i (Nat.lt_of_lt_of_le hi h.size) (fun e => by rcases hT i e with q | q; exact hS q; omega)).trans (h.block i hi hS)⟩
theorem Ou.put {S : Nat → Prop} (w : World) {q : Nat} (o : Obj) (hq : S q) : Ou S w (w.putObj q o) := ⟨rfl, rfl, rfl, by simp, fun k _ hk => World.putObj_heap_other (fun e => hk (e ▸ hq))⟩
theorem Ou.al {S : Nat → Prop} (w : World) (o : Obj) : Ou S w (w.alloc o) := Ou.of (below_1 w o)
theorem Ou.box {S : Nat → Prop} {w w' : World} {q : Nat} {o : Obj} (h : Ou S w w') (hq : ¬ S q) (ho : w.heap[q]? = some o) : w'.heap[q]? = some o := (h.block q (lt_blkR ho) hq).trans ho
structure Sink (lp N : Nat) (J : (Nat → Prop) → List ByteArray → World → Prop) : Prop where
 stab : ∀ U pre A B, J U pre A → Ou (fun k => ¬ U k) A B → J U pre B
 lt : ∀ U pre A k, J U pre A → U k → k < A.heap.size
 yield : ∀ U pre x A, J U pre A → pre.length < N → YieldAt Fence.wide 1 Tryz.prog lp #[.string x] A fun e B => e = .returned (.bool true) ∧ ∃ U', J U' (pre ++ [x]) B ∧ (∀ k, U' k → U k ∨ A.heap.size ≤ k) ∧ Ou U A B
theorem Sink.later {lp N : Nat} {J : (Nat → Prop) → List ByteArray → World → Prop} (S : Sink lp N J) {U : Nat → Prop} {pre : List ByteArray} {A B : World} (h : J U pre A) (hb : Below A.heap.size A B) : J U pre B := S.stab _ _ _ _ h (Ou.of hb)
def EntC (L : List Nd) (a : Option Addr) (cap : Nat) (w0 : World) (f : Int) (p : ByteArray) (R : List ByteArray) : Prop :=
 ∀ (lp N : Nat) (J : (Nat → Prop) → List ByteArray → World → Prop) (U : Nat → Prop) (pre : List ByteArray) (W : World) (bt bf bp : Nat), Sink lp N J → Below w0.heap.size w0 W → J U pre W → (∀ k, U k → w0.heap.size ≤ k) →
   W.heap[bt]? = some (.cells #[.slice a L.length cap] 23 (0, 0)) → W.heap[bf]? = some (.cells #[.int .u32 f] 31 (0, 0)) → W.heap[bp]? = some (.cells #[.string p] 9 (0, 0)) → ¬ U bt → ¬ U bf → ¬ U bp →
   pre.length + R.length ≤ N →
   CallsIn Fence.wide 2 Tryz.prog 32 #[.func (.yield lp) #[] #[], .pointer (some ⟨bt, 0, none⟩), .pointer (some ⟨bf, 0, none⟩), .pointer (some ⟨bp, 0, none⟩)] W fun e W' =>
     (∃ v, e = .returned v) ∧ ∃ U', J U' (pre ++ R) W' ∧ (∀ k, U' k → U k ∨ W.heap.size ≤ k) ∧ Ou U W W'
def Mks (w : World) : List Deferred → List Nat → Prop
 | [], [] => True
 | d :: ds, D :: Ds => d = { target := .collected D, args := #[] } ∧ w.heap[D]? = some (.deferred (some [])) ∧ D ∉ Ds ∧ Mks w ds Ds
 | _, _ => False
theorem Mks.keep {w w' : World} : ∀ {ds : List Deferred} {Ds : List Nat}, Mks w ds Ds → (∀ D ∈ Ds, w'.heap[D]? = w.heap[D]?) → Mks w' ds Ds
 | [], [], _, _ => trivial
 | [], _ :: _, h, _ => h.elim
 | _ :: _, [], h, _ => h.elim
 | d :: ds, D :: Ds, h, hk => ⟨h.1, (hk D (List.mem_cons_self ..)).trans h.2.1, h.2.2.1, h.2.2.2.keep (fun E hE => hk E (List.mem_cons_of_mem _ hE))⟩
theorem mks_lt {w : World} : ∀ {ds : List Deferred} {Ds : List Nat}, Mks w ds Ds → ∀ D ∈ Ds, D < w.heap.size
 | [], [], _, D, hD => by cases hD
 | [], _ :: _, h, _, _ => h.elim
 | _ :: _, [], h, _, _ => h.elim
 | d :: ds, D :: Ds, h, E, hE => by
   rcases List.mem_cons.1 hE with e | e
   · rw [e]; exact lt_blkR h.2.1
   · exact mks_lt h.2.2.2 E e
theorem leave_marks {n : Nat} {fn : Func} {tmps : Array Value} {R : Ending → World → Prop} : ∀ {ds : List Deferred} {Ds : List Nat} {w : World}, Mks w ds Ds → (∀ w', Ou (· ∈ Ds) w w' → LeavesInM Fence.wide n Tryz.prog fn tmps R [] .returning w') → LeavesInM Fence.wide n Tryz.prog fn tmps R ds .returning w
 | [], [], w, _, h => h w (Ou.refl _ _)
 | [], _ :: _, _, h, _ => h.elim
 | _ :: _, [], _, h, _ => h.elim
 | d :: ds, D :: Ds, w, hm, h => by
   obtain ⟨rfl, h1, h2, h3⟩ := hm
   refine ⟨by simp, .inl ⟨D, _, rfl, run_takeDeferred h1, ?_⟩⟩
   refine leave_marks (Ds := Ds) (h3.keep (fun E hE => World.putObj_heap_other (fun e => h2 (e ▸ hE)))) (fun w' hw' => h w' ?_)
   exact (Ou.put w _ (List.mem_cons_self ..)).trans (hw'.mono (fun q hq => List.mem_cons_of_mem _ hq))
end Go.Proofs.YtkokjkaclcjnjaaGreatDoor
