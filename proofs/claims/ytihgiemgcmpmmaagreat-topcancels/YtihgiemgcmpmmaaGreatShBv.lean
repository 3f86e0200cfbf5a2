/-
  slices.Sort of at most forty fids, all unlike: what SortOK asks.
  In the place of PathCallsT at seats that have no path.Split.
  Look and Get of the program's tree.
  Find of the program's tree, where no symbolic link is in the tree.
  The law's live: two operations, a path, and whether that is a tree.
-/
import Derived.Test.YtihgiemgcmpmmaaGreatShBu
import Derived.Test.YtihgiemgcmpmmaaGreatShBq
namespace Go.Proofs.YtihgiemgcmpmmaaGreat
open Go.RowKit Go.ChangeShapes Go.WideShapes Go.ChangeAt
set_option linter.unusedVariables false
set_option linter.unusedSimpArgs false
set_option maxRecDepth 100000
open Go.Sort (ltInt)
open Go.Sort (PermIn SortedIn)
def arF (n : Nat) (f : Nat → Int) : Array Int := ((List.range n).map f).toArray
theorem arF_size (n : Nat) (f : Nat → Int) : (arF n f).size = n := by simp [arF]
theorem arF_get (n : Nat) (f : Nat → Int) {i : Nat} (h : i < n) : ft (arF n f) i = f i := by
 unfold ft
 rw [getElem!_pos (arF n f) i (by rw [arF_size]; exact h)]
 simp [arF]
theorem arF_inj {n : Nat} {f : Nat → Int} (h : ∀ a b, a < n → b < n → f a = f b → a = b) : InjA (arF n f) := by
 show ((List.range n).map f).Nodup
 unfold List.Nodup
 rw [List.pairwise_map]
 refine List.Pairwise.imp_of_mem ?_ (List.pairwise_lt_range (n := n))
 intro a b ha hb hlt e
 have := h a b (List.mem_range.1 ha) (List.mem_range.1 hb) e
 omega
theorem arF_at {w : World} {g n : Nat} {f : Nat → Int} (h : FidsAt w g n f) : Fa w g n (arF n f) := ⟨arF_size n f, h.ext (fun j hj => arF_get n f hj)⟩
theorem mem_ft {d : Array Int} {x : Int} : x ∈ d.toList ↔ ∃ k, k < d.size ∧ ft d k = x := by
 rw [List.mem_iff_getElem]
 constructor
 · rintro ⟨k, hk, e⟩
   have hk' : k < d.size := by simpa using hk
   refine ⟨k, hk', ?_⟩
   unfold ft
   rw [getElem!_pos d k hk', ← e, Array.getElem_toList]
 · rintro ⟨k, hk, e⟩
   refine ⟨k, by simpa using hk, ?_⟩
   unfold ft at e
   rw [getElem!_pos d k hk] at e
   rw [Array.getElem_toList]
   exact e
theorem arF_same {n : Nat} {f : Nat → Int} (h : ∀ a b, a < n → b < n → f a = f b → a = b) {R : Array Int} (hp : PermIn 0 n (arF n f) R) : SameF n f (ft R) := by
 have hs : R.size = n := by rw [hp.1, arF_size]
 have h2 := hp.2.2
 have e1 : (R.extract 0 n).toList = R.toList := by rw [← hs]; simp
 have e2 : ((arF n f).extract 0 n).toList = (arF n f).toList := by
   have hz := arF_size n f
   generalize arF n f = d at hz
   rw [← hz]
   simp
 rw [e1, e2] at h2
 refine ⟨fun x => ?_, fun a b ha hb e => ?_⟩
 · have m := h2.mem_iff (a := x)
   rw [mem_ft, mem_ft, hs, arF_size] at m
   rw [m]
   constructor
   · rintro ⟨k, hk, e⟩; exact ⟨k, hk, by rw [arF_get n f hk]; exact e⟩
   · rintro ⟨k, hk, e⟩; exact ⟨k, hk, by rw [arF_get n f hk] at e; exact e⟩
 · exact ((arF_inj h).perm (by rw [arF_size]; exact Nat.le_refl _) hp).eq (by omega) (by omega) e
set_option maxHeartbeats 1000000 in
theorem sortOK : SortOK := by
 intro g n cap f0 w h hinj hn hcap
 have PC : Hid (∀ v : Nat, v ≤ 6 → Calls Tryz.prog 96 #[.slice (some ⟨g, 0, none⟩) n cap, .int .i64 ((0 : Nat) : Int), .int .i64 n, .int .i64 v] w (PdP g n 0 n (arF n f0) w)) := hid (fun v hv => pdqA_c (n + 1) g n cap 0 n v (arF n f0) w (by omega) (arF_at h) (arF_inj hinj) (.inl rfl) hn hcap (by omega) (by omega) hv)
 have HI := hid hinj
 clear h hinj
 go_enter Tryz.func71, Tryz.ntmps71
 go_wp2_with (first
   | (go_at_call 97; refine (len_40 n hn _).mono ?_; rintro _ w1 ⟨⟨v, rfl, hv, hv2⟩, h1⟩; rw [h1]; clear hv2)
   | (go_at_call 96; refine (PC.out v hv).mono ?_; rintro _ w2 ⟨rfl, hr, ho⟩; have HR := hid hr; have HO := hid ho; clear hr ho))
 obtain ⟨R, h1, h2, h3⟩ := HR.out
 exact body_endF (by kernel_rfl) rfl ⟨rfl, ft R, h3.2, arF_same HI.out h1, fun a b hab hb => Int.not_lt.1 (of_decide_eq_false (h2 a b (by omega) hab hb)), HO.out⟩
end Go.Proofs.YtihgiemgcmpmmaaGreat
namespace Go.Proofs.YtihgiemgcmpmmaaGreat
open Go.RowKit Go.ChangeShapes Go.WideShapes Go.ChangeAt
end Go.Proofs.YtihgiemgcmpmmaaGreat
namespace Go.Proofs.YtihgiemgcmpmmaaGreat
open Go.RowKit Go.ChangeShapes Go.WideShapes Go.ChangeAt
set_option linter.unusedVariables false
set_option linter.unusedSimpArgs false
set_option maxRecDepth 100000
theorem rightT_c (a : Option Addr) (cap : Nat) (l : List Nd) (w : World) (h : IsNs w a l) (hm : l.length ≤ 100000) :
   Calls Tryz.prog 14 #[.slice a l.length cap] w fun e w' => e = .returned (.bool (rightD l)) ∧ Below w.heap.size w w' := by
 refine (right_c a cap l w h hm).mono ?_
 rintro e w' ⟨b, rfl, h1, h2⟩
 refine ⟨?_, h2⟩
 rw [rightD_iff] at h1
 have : b = rightD l := by
   cases b <;> cases q : rightD l <;> simp_all
 rw [this]
end Go.Proofs.YtihgiemgcmpmmaaGreat
