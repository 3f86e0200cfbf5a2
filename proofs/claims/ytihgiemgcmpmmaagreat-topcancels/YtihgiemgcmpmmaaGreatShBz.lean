/-
  A file that is made, written and removed, and directories beside it: what is left of the log, by computing.
-/
import Derived.Test.YtihgiemgcmpmmaaGreatShAu
import Derived.Test.YtihgiemgcmpmmaaGreatShAv
import Derived.Test.YtihgiemgcmpmmaaGreatShBx
namespace Go.Proofs.YtihgiemgcmpmmaaGreat
open Go.RowKit Go.ChangeShapes Go.WideShapes Go.ChangeAt Go.Maps Go.Shelf
set_option linter.unusedVariables false
set_option linter.unusedSimpArgs false
set_option maxRecDepth 100000
def caC : Rec := ⟨1, 5, 1, ⟨#[102]⟩, 0, ⟨#[]⟩, 0, ⟨#[]⟩, 0⟩
def caS (i : Nat) : Rec := ⟨8, 5, 0, ⟨#[]⟩, 0, ⟨#[]⟩, 0, Fr.tx [(i : Int)], 0⟩
def caH (i : Nat) : Rec := ⟨9, 5, 0, ⟨#[]⟩, 0, ⟨#[]⟩, (i : Int), ⟨#[]⟩, 0⟩
def caM (i : Nat) : Rec := ⟨2, 20 + (i : Int), 1, Fr.tx [109 + (i : Int)], 0, ⟨#[]⟩, 0, ⟨#[]⟩, 0⟩
def caU : Rec := ⟨5, 0, 1, ⟨#[102]⟩, 0, ⟨#[]⟩, 0, ⟨#[]⟩, 0⟩
def caW : Nat → List Rec
 | 0 => [caC]
 | i + 1 => caW i ++ [caS i, caH i]
def caO (a : Nat) : Nat → List Rec
 | 0 => caW a
 | i + 1 => caO a i ++ [caM i]
def caL (a b : Nat) : List Rec := caO a b ++ [caU]
def caT (b : Nat) : List Rec := (List.range b).map caM
theorem caW_len : ∀ a, (caW a).length = 1 + 2 * a
 | 0 => rfl
 | a + 1 => by unfold caW; rw [List.length_append, caW_len a]; simp only [List.length_cons, List.length_nil]; omega
theorem caO_len (a : Nat) : ∀ b, (caO a b).length = 1 + 2 * a + b
 | 0 => caW_len a
 | b + 1 => by unfold caO; rw [List.length_append, caO_len a b]; simp only [List.length_cons, List.length_nil]; omega
theorem tx_size (z : List Int) : (Fr.tx z).size = z.length := by unfold Fr.tx; show (List.toArray _).size = _; simp
theorem caS_wf {i : Nat} (h : i < 6) : (caS i).Wf := ⟨by show (0 : Int) ≤ 8 ∧ (8 : Int) < 256; omega, by show (0 : Int) ≤ 5 ∧ (5 : Int) < 4294967296; omega, by show (0 : Int) ≤ 0 ∧ (0 : Int) < 4294967296; omega, by show (0 : Int) ≤ 0 ∧ (0 : Int) < 4294967296; omega, by show (0 : Int) ≤ 0 ∧ (0 : Int) < 65536; omega, by show (0 : Int) ≤ 0 ∧ (0 : Int) < 18446744073709551616; omega, by show 0 ≤ maxLen; unfold maxLen; omega, by show 0 ≤ maxLen; unfold maxLen; omega, by show (Fr.tx _).size ≤ maxLen; rw [tx_size]; show 1 ≤ maxLen; unfold maxLen; omega⟩
theorem caH_wf {i : Nat} (h : i < 6) : (caH i).Wf := ⟨by show (0 : Int) ≤ 9 ∧ (9 : Int) < 256; omega, by show (0 : Int) ≤ 5 ∧ (5 : Int) < 4294967296; omega, by show (0 : Int) ≤ 0 ∧ (0 : Int) < 4294967296; omega, by show (0 : Int) ≤ 0 ∧ (0 : Int) < 4294967296; omega, by show (0 : Int) ≤ (i : Int) ∧ (i : Int) < 65536; omega, by show (0 : Int) ≤ 0 ∧ (0 : Int) < 18446744073709551616; omega, by show 0 ≤ maxLen; unfold maxLen; omega, by show 0 ≤ maxLen; unfold maxLen; omega, by show 0 ≤ maxLen; unfold maxLen; omega⟩
theorem caM_wf {i : Nat} (h : i < 6) : (caM i).Wf := ⟨by show (0 : Int) ≤ 2 ∧ (2 : Int) < 256; omega, by show (0 : Int) ≤ 20 + (i : Int) ∧ 20 + (i : Int) < 4294967296; omega, by show (0 : Int) ≤ 1 ∧ (1 : Int) < 4294967296; omega, by show (0 : Int) ≤ 0 ∧ (0 : Int) < 4294967296; omega, by show (0 : Int) ≤ 0 ∧ (0 : Int) < 65536; omega, by show (0 : Int) ≤ 0 ∧ (0 : Int) < 18446744073709551616; omega, by show (Fr.tx _).size ≤ maxLen; rw [tx_size]; show 1 ≤ maxLen; unfold maxLen; omega, by show 0 ≤ maxLen; unfold maxLen; omega, by show 0 ≤ maxLen; unfold maxLen; omega⟩
theorem caX_wf (k f d : Int) (hk : 0 ≤ k ∧ k < 256) (hf : 0 ≤ f ∧ f < 100) (hd : 0 ≤ d ∧ d < 100) : (⟨k, f, d, ⟨#[102]⟩, 0, ⟨#[]⟩, 0, ⟨#[]⟩, 0⟩ : Rec).Wf := ⟨hk, by show 0 ≤ f ∧ f < 4294967296; omega, by show 0 ≤ d ∧ d < 4294967296; omega, by show (0 : Int) ≤ 0 ∧ (0 : Int) < 4294967296; omega, by show (0 : Int) ≤ 0 ∧ (0 : Int) < 65536; omega, by show (0 : Int) ≤ 0 ∧ (0 : Int) < 18446744073709551616; omega, by show 1 ≤ maxLen; unfold maxLen; omega, by show 0 ≤ maxLen; unfold maxLen; omega, by show 0 ≤ maxLen; unfold maxLen; omega⟩
theorem caW_wf : ∀ a, a ≤ 6 → ∀ x ∈ caW a, x.Wf
 | 0, _ => fun x hx => by
   unfold caW at hx
   rw [List.mem_singleton] at hx
   rw [hx]
   exact caX_wf 1 5 1 (by omega) (by omega) (by omega)
 | a + 1, h => fun x hx => by
   unfold caW at hx
   rcases List.mem_append.1 hx with q | q
   · exact caW_wf a (by omega) x q
   · rcases List.mem_cons.1 q with e | e
     · rw [e]; exact caS_wf (by omega)
     · rw [List.mem_singleton] at e
       rw [e]; exact caH_wf (by omega)
theorem caO_wf {a : Nat} (ha : a ≤ 6) : ∀ b, b ≤ 6 → ∀ x ∈ caO a b, x.Wf
 | 0, _ => caW_wf a ha
 | b + 1, h => fun x hx => by
   unfold caO at hx
   rcases List.mem_append.1 hx with q | q
   · exact caO_wf ha b (by omega) x q
   · rw [List.mem_singleton] at q
     rw [q]; exact caM_wf (by omega)
theorem caL_wf {a b : Nat} (ha : a ≤ 6) (hb : b ≤ 6) : ∀ x ∈ caL a b, x.Wf := fun x hx => by
 unfold caL at hx
 rcases List.mem_append.1 hx with q | q
 · exact caO_wf ha b hb x q
 · rw [List.mem_singleton] at q
   rw [q]; exact caX_wf 5 0 1 (by omega) (by omega) (by omega)
theorem caT_wf {b : Nat} (hb : b ≤ 6) : ∀ x ∈ caT b, x.Wf := fun x hx => by
 unfold caT at hx
 obtain ⟨i, hi, rfl⟩ := List.mem_map.1 hx
 exact caM_wf (by rw [List.mem_range] at hi; omega)
theorem caT_len (b : Nat) : (caT b).length = b := by unfold caT; rw [List.length_map, List.length_range]
theorem caT_at (b : Nat) {i : Nat} (h : i < b) : (caT b).getD i Rec.no = caM i := by
 unfold caT
 rw [List.getD, List.getElem?_map, List.getElem?_range h]
 rfl
theorem ca_opt : ∀ a b, a < 6 → b < 6 → optF (caL a b) = caT b
 | 0, 0, _, _ => by kernel_rfl
 | 0, 1, _, _ => by kernel_rfl
 | 0, 2, _, _ => by kernel_rfl
 | 0, 3, _, _ => by kernel_rfl
 | 0, 4, _, _ => by kernel_rfl
 | 0, 5, _, _ => by kernel_rfl
 | 1, 0, _, _ => by kernel_rfl
 | 1, 1, _, _ => by kernel_rfl
 | 1, 2, _, _ => by kernel_rfl
 | 1, 3, _, _ => by kernel_rfl
 | 1, 4, _, _ => by kernel_rfl
 | 1, 5, _, _ => by kernel_rfl
 | 2, 0, _, _ => by kernel_rfl
 | 2, 1, _, _ => by kernel_rfl
 | 2, 2, _, _ => by kernel_rfl
 | 2, 3, _, _ => by kernel_rfl
 | 2, 4, _, _ => by kernel_rfl
 | 2, 5, _, _ => by kernel_rfl
 | 3, 0, _, _ => by kernel_rfl
 | 3, 1, _, _ => by kernel_rfl
 | 3, 2, _, _ => by kernel_rfl
 | 3, 3, _, _ => by kernel_rfl
 | 3, 4, _, _ => by kernel_rfl
 | 3, 5, _, _ => by kernel_rfl
 | 4, 0, _, _ => by kernel_rfl
 | 4, 1, _, _ => by kernel_rfl
 | 4, 2, _, _ => by kernel_rfl
 | 4, 3, _, _ => by kernel_rfl
 | 4, 4, _, _ => by kernel_rfl
 | 4, 5, _, _ => by kernel_rfl
 | 5, 0, _, _ => by kernel_rfl
 | 5, 1, _, _ => by kernel_rfl
 | 5, 2, _, _ => by kernel_rfl
 | 5, 3, _, _ => by kernel_rfl
 | 5, 4, _, _ => by kernel_rfl
 | 5, 5, _, _ => by kernel_rfl
 | a + 6, _, h, _ => absurd h (by omega)
 | _, b + 6, _, h => absurd h (by omega)
theorem ca_ok : ∀ b, b < 6 → recsOk (caT b) = true
 | 0, _ => by kernel_rfl
 | 1, _ => by kernel_rfl
 | 2, _ => by kernel_rfl
 | 3, _ => by kernel_rfl
 | 4, _ => by kernel_rfl
 | 5, _ => by kernel_rfl
 | b + 6, h => absurd h (by omega)
theorem ca_tou : ∀ b, b < 6 → touchF (caM b) 5 = false
 | 0, _ => by kernel_rfl
 | 1, _ => by kernel_rfl
 | 2, _ => by kernel_rfl
 | 3, _ => by kernel_rfl
 | 4, _ => by kernel_rfl
 | 5, _ => by kernel_rfl
 | b + 6, h => absurd h (by omega)
theorem ca_errs : ∀ b, b < 6 → (FoldL newL (caT b)).2 = List.replicate b 0
 | 0, _ => by kernel_rfl
 | 1, _ => by kernel_rfl
 | 2, _ => by kernel_rfl
 | 3, _ => by kernel_rfl
 | 4, _ => by kernel_rfl
 | 5, _ => by kernel_rfl
 | b + 6, h => absurd h (by omega)
theorem ca_tree : ∀ b, b < 6 → (FoldL newL (caT b)).1.length = b + 1
 | 0, _ => by kernel_rfl
 | 1, _ => by kernel_rfl
 | 2, _ => by kernel_rfl
 | 3, _ => by kernel_rfl
 | 4, _ => by kernel_rfl
 | 5, _ => by kernel_rfl
 | b + 6, h => absurd h (by omega)
theorem cells_news {w : World} {g : Nat} {cs : List Value} {t : TypeId} {fr : Nat × Nat} (hb : w.heap[g]? = some (.cells cs.toArray t fr)) : ∀ j u, cs[j]? = some u → w.cell? ((⟨g, 0, none⟩ : Addr).add j) = some u := fun j u hu => by
 have e : (⟨g, 0, none⟩ : Addr).add j = ⟨g, 0 + j, none⟩ := by unfold Addr.add; split <;> simp_all
 rw [e, cell_of_row w g _ _ t fr hb]
 simpa using hu
theorem rec_two (x y : Rec) : ∀ u ∈ x.cells ++ y.cells, u.oneCell' = true := fun u hu => by
 rcases List.mem_append.1 hu with h | h
 · exact rec_one x u h
 · exact rec_one y u h
theorem rcells_two (l : List Rec) (x y : Rec) : rcells (l ++ [x, y]) = rcells l ++ (x.cells ++ y.cells) := by unfold rcells; simp
theorem own_oneR (w : World) (x : Rec) : (w.alloc (.cells x.cells.toArray 37)).ownsRow w.heap.size 37 9 (.slice (some ⟨w.heap.size, 0, none⟩) 1 1) 1 (rcells [x]) :=
 ⟨by rw [rcells_len]; rfl, .inr ⟨w.heap.size, 1, x.cells.toArray, rfl, Nat.le_refl _, heap_alloc_new w _, Nat.le_refl _, by unfold maxLen; omega, by rfl, by unfold rcells; simp [Rec.cells]⟩⟩
theorem conv_byte (W : World) (H : Nat) (hH : W.heap.size = H) (z : Int) : (convert 38 9 (.slice (some ⟨H, 0, none⟩) 1 1)).run Tryz.prog (W.alloc (.cells #[.int .u8 z] 5)) = .ok (.string (Fr.tx [z])) (W.alloc (.cells #[.int .u8 z] 5)) := by
 subst hH
 exact run_convert_bytes_arg (P := Tryz.prog) (W.alloc (.cells #[.int .u8 z] 5)) 38 5 Tryz.underlying38 Tryz.underlying5 W.heap.size 0 1 1 [z] rfl (fun i hi => by
   obtain rfl : i = 0 := by omega
   have key : ∀ V : World, V.heap[W.heap.size]? = some (.cells #[.int .u8 z] 5) → V.cell? ⟨W.heap.size, 0 + 0, none⟩ = some (.int .u8 z) := fun V h => by simp [World.cell?, h]
   exact key _ (heap_alloc_new W _)) 9 Tryz.underlying9
theorem es_zero {w : World} {b : Option Addr} {n : Nat} (h : IsEs w b (List.replicate n 0)) (hp : 0 < n) : ∃ g off, b = some ⟨g, off, none⟩ ∧ ∀ i, i < n → w.cell? ⟨g, off + i, none⟩ = some (.int .i64 0) := by
 obtain ⟨g, off, e, hc⟩ := h (by rw [List.length_replicate]; exact hp)
 refine ⟨g, off, e, fun i hi => ?_⟩
 have := hc i (by rw [List.length_replicate]; exact hi)
 rw [this, List.getD, List.getElem?_replicate, if_pos hi]
 rfl
end Go.Proofs.YtihgiemgcmpmmaaGreat
