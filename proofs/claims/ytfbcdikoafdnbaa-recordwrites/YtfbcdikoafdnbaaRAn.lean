/-
  What Op, Records, Node answer: an error's number, bytes as a text; the program's and the document's alike.
-/
import Derived.Test.YtfbcdikoafdnbaaRN3
import Derived.Test.YtfbcdikoafdnbaaRLv2
namespace Go.Proofs.Ytfbcdikoafdnbaa
open Go.RowKit Go.ChangeShapes Go.WideShapes Go.ChangeAt
set_option linter.unusedVariables false
set_option linter.unusedSimpArgs false
set_option maxRecDepth 100000
def erF (b : Bool) : Int := if b then 0 else 3
def stF (b : Bool) (zs : List Int) : ByteArray := Fr.tx (if b then zs else [])
/-- Bytes and an error's number. -/
def Ans (er : Int) (s : ByteArray) (w : World) (e : Ending) (w' : World) : Prop :=
  ∃ a n c, e = .returned (.tuple #[.slice a n c, .int .i64 er]) ∧ (∀ W, Below w'.heap.size w' W → (convert 30 9 (.slice a n c)).run Try.prog W = .ok (.string s) W) ∧ Below w.heap.size w w'
theorem ans_of {b : Bool} {zs : List Int} {w w' : World} {e : Ending} (hz : b = true → ∀ y ∈ zs, 0 ≤ y ∧ y ≤ 255)
    (h : (if b then ∃ v, e = .returned (.tuple #[v, .int .i64 0]) ∧ w'.ownsRow w.heap.size 5 1 v zs.length (zs.map u8V) else e = .returned (.tuple #[.slice none 0 0, .int .i64 3])) ∧ Below w.heap.size w w') : Ans (erF b) (stF b zs) w e w' := by
  obtain ⟨h1, h2⟩ := h
  cases b with
  | false =>
    simp only [Bool.false_eq_true, if_false] at h1
    exact ⟨none, 0, 0, h1, fun W _ => conv_noneN W none 0, h2⟩
  | true =>
    simp only [if_true] at h1
    obtain ⟨v, rfl, ho⟩ := h1
    obtain ⟨a, cap, rfl, hI, _, _⟩ := isB_ownR ho (hz rfl)
    exact ⟨a, _, cap, rfl, fun W hW => conv_anyN (hI.later hW), h2⟩
theorem txN_in (s : ByteArray) : ∀ y ∈ txF s, 0 ≤ y ∧ y ≤ 255 := fun y hy => by
  unfold txF at hy
  rcases List.mem_append.1 hy with h | h
  · exact beF_in _ _ y h
  · unfold Fr.bs at h
    obtain ⟨c, _, rfl⟩ := List.mem_map.1 h
    have := c.toNat_lt
    omega
theorem recsN_inB (l : List Rec) : ∀ y ∈ recsA l, 0 ≤ y ∧ y ≤ 255 := fun y hy => by
  unfold recsA recsB at hy
  rcases List.mem_append.1 hy with h | h
  · exact beF_in _ _ y h
  · obtain ⟨x, _, hx⟩ := List.mem_flatMap.1 h
    unfold recB at hx
    rcases List.mem_append.1 hx with h2 | h2
    · exact beF_in _ _ y h2
    · exact opB_in x y h2
theorem nodeB_in (x : Nd) : ∀ y ∈ nodeB x, 0 ≤ y ∧ y ≤ 255 := fun y hy => by
  unfold nodeB at hy
  simp only [List.mem_append] at hy
  rcases hy with ((((h | h) | h) | h) | h) | (h | h)
  · exact beF_in _ _ y h
  · exact beF_in _ _ y h
  · exact beF_in _ _ y h
  · exact beF_in _ _ y h
  · exact txN_in _ y h
  · exact beF_in _ _ y h
  · unfold kidsB at h
    obtain ⟨k, _, hk⟩ := List.mem_flatMap.1 h
    unfold kidB at hk
    rcases List.mem_append.1 hk with h2 | h2
    · exact txN_in _ y h2
    · exact beF_in _ _ y h2
theorem op_a (x : Rec) (w : World) (hw : x.Wf) : Calls Try.prog 5 #[x.opV] w fun e w' => Ans (erF (rightF x)) (stF (rightF x) (opB x)) w e w' :=
  (op_c x w hw).mono fun _ _ h => ans_of (fun _ => opB_in x) h
theorem rop_a (x : Rec) (w : World) (hw : x.Wf) : Calls Try.prog 6 #[x.opV] w fun e w' => Ans (erF (rightF x)) (stF (rightF x) (opB x)) w e w' :=
  (rOp_c x w hw).mono fun _ _ h => ans_of (fun _ => opB_in x) h
theorem recs_a (a : Option Addr) (cap : Nat) (l : List Rec) (w : World) (h : IsL w a l) (hm : l.length ≤ 100000) : Calls Try.prog 7 #[.slice a l.length cap] w fun e w' => Ans (erF (recsOk l)) (stF (recsOk l) (recsA l)) w e w' :=
  (records_c a cap l w h hm).mono fun _ _ h => ans_of (fun _ => recsN_inB l) h
theorem rrecs_a (a : Option Addr) (cap : Nat) (l : List Rec) (w : World) (h : IsL w a l) (hm : l.length ≤ 100000) : Calls Try.prog 8 #[.slice a l.length cap] w fun e w' => Ans (erF (recsOk l)) (stF (recsOk l) (recsA l)) w e w' :=
  (rrecords_c a cap l w h hm).mono fun _ _ h => ans_of (fun _ => recsN_inB l) h
theorem node_a (x : Nd) (w : World) (h : x.Ok w) : Calls Try.prog 9 #[x.val] w fun e w' => Ans (erF (nodeOk x)) (stF (nodeOk x) (nodeB x)) w e w' :=
  (node_c x w h).mono fun _ _ h => ans_of (fun _ => nodeB_in x) h
theorem rnode_a (x : Nd) (w : World) (h : x.Ok w) : Calls Try.prog 10 #[x.val] w fun e w' => Ans (erF (nodeOk x)) (stF (nodeOk x) (nodeB x)) w e w' :=
  (rnode_c x w h).mono fun _ _ h => ans_of (fun _ => nodeB_in x) h
end Go.Proofs.Ytfbcdikoafdnbaa
