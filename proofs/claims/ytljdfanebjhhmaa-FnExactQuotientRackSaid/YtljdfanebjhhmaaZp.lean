import Derived.Test.YtljdfanebjhhmaaProg
import Derived.Test.YtljdfanebjhhmaaZk
import Derived.Test.YtljdfanebjhhmaaZa
namespace Go.Proofs.Ytljdfanebjhhmaa
open Go Go.RowKit
theorem neInfo : (Try.prog.info? 2).map (fun i => (i.zero, i.size, i.bytes)) = some (some (.int .i64 0), 1, 8) := by kernel_rfl
theorem neInfo2 : (Try.prog.info? 33).map (fun i => (i.zero, i.size, i.bytes)) = some (some (.slice none 0 0), 1, 24) := by kernel_rfl
theorem ne_new {w : World} {v : Value} {t : TypeId} : ∀ j u, [v][j]? = some u → (w.alloc (.cells #[v] t)).cell? ((⟨w.heap.size, 0, none⟩ : Addr).add j) = some u := by
  intro j u hj
  match j, hj with
  | 0, hj => simp at hj; subst hj; simp [Addr.add, World.cell?_alloc_new]
theorem ne_empty (w : World) (t : TypeId) : (w.alloc (.cells #[] t)).ownsRow w.heap.size t 1 (.slice (some ⟨w.heap.size, 0, none⟩) 0 0) 0 [] :=
  ⟨by simp, .inr ⟨w.heap.size, 0, #[], rfl, Nat.le_refl _, heap_alloc_new _ _, Nat.le_refl _, by unfold maxLen; omega, by simp, by simp⟩⟩
/-- Row x of the table of a function. -/
def frow (n : Nat) (h : Nat → Nat → Int) (x : Nat) : List Int := (List.range n).map fun (b : Nat) => h x b
theorem frow_length (n : Nat) (h : Nat → Nat → Int) (x : Nat) : (frow n h x).length = n := by simp [frow]
theorem frow_take (n : Nat) (h : Nat → Nat → Int) (x y : Nat) (hy : y < n) : ints ((frow n h x).take y) ++ [.int .i64 (h x y)] = ints ((frow n h x).take (y + 1)) := by
  rw [List.take_succ_eq_append_getElem (by rw [frow_length]; exact hy)]
  simp [ints, frow]
theorem grid_take (n : Nat) (h : Nat → Nat → Int) (x : Nat) (hx : x < n) : (grid n h).take (x + 1) = (grid n h).take x ++ [frow n h x] := by
  rw [List.take_succ_eq_append_getElem (by rw [grid_length]; exact hx)]
  simp [grid, frow]
end Go.Proofs.Ytljdfanebjhhmaa
