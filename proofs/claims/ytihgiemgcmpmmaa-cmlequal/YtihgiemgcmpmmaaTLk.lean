/-
  How many entries lead to each node: rightLinks of the package tree.
-/
import Derived.Test.YtihgiemgcmpmmaaTTb
namespace Go.Proofs.Ytihgiemgcmpmmaa
open Go.RowKit Go.ChangeShapes Go.WideShapes Go.ChangeAt Go.Maps
set_option linter.unusedVariables false
set_option linter.unusedSimpArgs false
set_option maxRecDepth 100000
/-- The fids that entries lead to. -/
def kfs (l : List Nd) : List Int := l.flatMap fun x => x.ks.map (·.fid)
/-- How often a fid stands in a list, as a map tells. -/
def cntF (P : List Int) : Int → Option Int := fun f => if P.count f = 0 then none else some (P.count f : Int)
theorem cntF_getD (P : List Int) (f : Int) : (cntF P f).getD 0 = (P.count f : Int) := by
  unfold cntF
  split
  · rename_i h; rw [h]; rfl
  · rfl
theorem cntF_snoc (P : List Int) (f : Int) : updF (cntF P) f (some ((P.count f : Int) + 1)) = cntF (P ++ [f]) := by
  funext g
  unfold updF cntF
  by_cases e : g = f
  · subst e
    rw [if_pos rfl, List.count_append]
    simp
  · rw [if_neg e, List.count_append, List.count_singleton]
    have : (f == g) = false := by rw [beq_eq_false_iff_ne]; exact fun h => e h.symm
    rw [this]
    simp
theorem kfs_take {l : List Nd} {m : Nat} (h : m < l.length) : kfs (l.take (m + 1)) = kfs (l.take m) ++ (l.getD m Nd.no).ks.map (·.fid) := by
  have e : l.take (m + 1) = l.take m ++ [l.getD m Nd.no] := by rw [List.take_add_one, List.getD, List.getElem?_eq_getElem h]; rfl
  unfold kfs
  rw [e, List.flatMap_append]
  simp only [List.flatMap_cons, List.flatMap_nil, List.append_nil]
theorem kfs_le {l : List Nd} (h : ∀ x ∈ l, x.ks.length ≤ 12) : (kfs l).length ≤ l.length * 12 := by
  unfold kfs
  induction l with
  | nil => simp
  | cons x t ih =>
    have h1 := h x (by simp)
    have h2 := ih (fun y hy => h y (by simp [hy]))
    rw [List.flatMap_cons, List.length_append, List.length_map, List.length_cons]
    omega
theorem map_take_kid {l : List Kd} {m : Nat} (h : m < l.length) : (l.take (m + 1)).map (·.fid) = (l.take m).map (·.fid) ++ [(l.getD m Kd.no).fid] := by rw [take_kid h, List.map_append]; rfl
/-- Has a node as many Links as entries lead to it, and as many as it may have? -/
def linkB (P : List Int) (x : Nd) : Bool := (x.ln == (P.count x.fid : Int)) && (x.fid == 1 || !(decide ((P.count x.fid : Int) < 1) || (x.k == 2 && decide ((1 : Int) < P.count x.fid))))
def linksTo (P : List Int) (l : List Nd) : Nat → Bool
  | 0 => true
  | m + 1 => linksTo P l m && linkB P (l.getD m Nd.no)
def linksB (l : List Nd) : Bool := linksTo (kfs l) l l.length
theorem links_no (P : List Int) (l : List Nd) (m : Nat) (h : linkB P (l.getD m Nd.no) = false) : ∀ d, linksTo P l (m + 1 + d) = false
  | 0 => by simp only [Nat.add_zero, linksTo, h, Bool.and_false]
  | d + 1 => by rw [← Nat.add_assoc]; simp only [linksTo, links_no P l m h d, Bool.false_and]
theorem linksB_no {l : List Nd} {m : Nat} (hm : m < l.length) (h : linkB (kfs l) (l.getD m Nd.no) = false) : linksB l = false := by
  unfold linksB
  obtain ⟨d, hd⟩ : ∃ d, l.length = m + 1 + d := ⟨l.length - (m + 1), by omega⟩
  rw [hd]; exact links_no _ l m h d
theorem zeroNu6 (w : World) : (zeroValue 3).run Try.prog w = .ok (numE.enc 0) w := by
  have h : (Try.prog.info? 3).map (fun i => i.zero) = some (some (.int .i64 0)) := by kernel_rfl
  cases hi : Try.prog.info? 3 with
  | none => rw [hi] at h; cases h
  | some i => rw [hi] at h; simp at h; simp [zeroValue, typeInfo, hi, h]; rfl
end Go.Proofs.Ytihgiemgcmpmmaa
