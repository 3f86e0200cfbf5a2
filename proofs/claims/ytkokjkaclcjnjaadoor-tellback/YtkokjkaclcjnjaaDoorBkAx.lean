/-
  Line of the package tell.
-/
import Derived.Test.YtkokjkaclcjnjaaDoorBkAr
import Derived.Test.YtkokjkaclcjnjaaDoorBkAt
import Derived.Test.YtkokjkaclcjnjaaDoorBkAw
namespace Go.Proofs.YtkokjkaclcjnjaaDoor
open Go.RowKit Go.ChangeShapes Go.WideShapes Go.ChangeAt
set_option linter.unusedVariables false
set_option linter.unusedSimpArgs false
set_option maxRecDepth 100000
def lineL (x : Nd) : List UInt8 := Lib.join [(decB x.fid.toNat).data.toList, (wordB x.k).data.toList, (decB x.md.toNat).data.toList, (decB x.ln.toNat).data.toList, (insB x).data.toList] [32]
theorem join_few2 {ks : List Kd} (hn : ∀ y ∈ ks, y.nm.size ≤ 1000) (hw : ∀ y ∈ ks, y.Wf) (hz : ks.length ≤ 1000) : (Lib.join (ks.map fun k => (kidT k).data.toList) [44]).length ≤ 2000000 := by
 cases ks with
 | nil => simp [Lib.join]
 | cons a t =>
   rw [List.map_cons, Lib.join_cons, List.length_append]
   have h1 := kidT_size (hn a (List.mem_cons_self ..)) (hw a (List.mem_cons_self ..))
   have h2 := joinTail_len [44] (t.map fun k => (kidT k).data.toList) (fun x hx => by
     obtain ⟨k, hk, rfl⟩ := List.mem_map.1 hx
     exact kidT_size (hn k (List.mem_cons_of_mem _ hk)) (hw k (List.mem_cons_of_mem _ hk)))
   rw [List.length_map] at h2
   rw [List.length_cons] at hz
   have h3 : t.length * ([44].length + 1021) ≤ 1000 * 1022 := Nat.mul_le_mul (by omega) (by decide)
   omega
theorem wordB_size (k : Int) : (wordB k).size ≤ 4 := by
 unfold wordB
 split
 · decide
 · split
   · decide
   · split
     · decide
     · decide
theorem ba_size (l : List UInt8) : (⟨l.toArray⟩ : ByteArray).size = l.length := by
 show (List.toArray l).size = _
 rw [List.size_toArray]
theorem insB_size {x : Nd} (h1 : x.zs.length ≤ 64) (h2 : x.ks.length ≤ 1000) (hn : ∀ y ∈ x.ks, y.nm.size ≤ 1000) (hw : ∀ y ∈ x.ks, y.Wf) : (insB x).size ≤ 2000000 := by
 unfold insB
 split
 · split
   · decide
   · rw [ba_size]; exact join_few2 hn hw h2
 · rw [ba_size]
   have := (quote_len (Fr.tx x.zs).data.toList).2
   have e : (Fr.tx x.zs).data.toList.length = (Fr.tx x.zs).size := rfl
   rw [txs_size] at e
   omega
theorem inside_c (x : Nd) (w : World) (hx : x.Ok w) (h1 : x.zs.length ≤ 64) (h2 : x.ks.length ≤ 1000) (hn : ∀ y ∈ x.ks, y.nm.size ≤ 1000) (ht : TabW w) : Calls Tryd.prog 55 #[x.val] w fun e w' => e = .returned (.string (insB x)) ∧ Below w.heap.size w w' := by
 unfold insB
 by_cases hk : x.k = 2
 · rw [if_pos hk]
   by_cases hks : x.ks = []
   · rw [if_pos hks]
     have := inside0_c x.fid x.md x.ln x.da x.ka x.zs.length x.dc x.kc w
     unfold Nd.val
     rw [hk, hks]
     exact this
   · rw [if_neg hks]
     exact inK_c x w hx h2 hk hks hn ht
 · rw [if_neg hk]
   exact inQ_c x w hx (by omega) hk
theorem lineOf_c (x : Nd) (w : World) (hx : x.Ok w) (h1 : x.zs.length ≤ 64) (h2 : x.ks.length ≤ 1000) (hn : ∀ y ∈ x.ks, y.nm.size ≤ 1000) (ht : TabW w) : Calls Tryd.prog 33 #[x.val] w fun e w' => e = .returned (.string ⟨(lineL x).toArray⟩) ∧ Below w.heap.size w w' := by
 obtain ⟨⟨f0, f1⟩, _, ⟨m0, m1⟩, ⟨l0, l1⟩, hB, hK⟩ := hx
 have dg : ∀ (z : Int), 0 ≤ z → z < 4294967296 → Hid (∀ W, Below w.heap.size w W → Calls Tryd.prog 53 #[.int .u32 z] W fun e w' => e = .returned (.string (decB z.toNat)) ∧ Below W.heap.size W w') := fun z z0 z1 => hid (fun W hW => by
   have := dig_c z.toNat (by omega) W (ht.later hW)
   rw [Int.toNat_of_nonneg z0] at this
   exact this)
 have s1 := decB_size (u := x.fid.toNat) (by omega)
 have s2 := wordB_size x.k
 have s3 := decB_size (u := x.md.toNat) (by omega)
 have s4 := decB_size (u := x.ln.toNat) (by omega)
 have s5 := insB_size h1 h2 hn hK.2.1
 exact line_c x.fid x.k x.md x.ln x.da x.ka x.zs.length x.dc x.ks.length x.kc w (decB x.fid.toNat) (wordB x.k) (decB x.md.toNat) (decB x.ln.toNat) (insB x) (by omega)
   (dg x.fid f0 f1)
   (hid (fun W _ => (word_c x.k W).mono fun e w' ⟨q1, q2⟩ => ⟨q1, by rw [q2]; exact Below.refl _ _⟩))
   (dg x.md m0 (by omega)) (dg x.ln l0 (by omega))
   (hid (fun W hW => inside_c x W ⟨⟨f0, f1⟩, by assumption, ⟨m0, m1⟩, ⟨l0, l1⟩, hB.later hW, hK.later hW⟩ h1 h2 hn (ht.later hW))) ⟨m0, m1⟩ ⟨l0, l1⟩
end Go.Proofs.YtkokjkaclcjnjaaDoor
