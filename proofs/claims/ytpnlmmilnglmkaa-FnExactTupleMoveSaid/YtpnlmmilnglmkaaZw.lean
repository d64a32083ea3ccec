import Derived.Test.YtpnlmmilnglmkaaZb
import Derived.Test.YtpnlmmilnglmkaaZh
namespace Go.Proofs.Ytpnlmmilnglmkaa
open Go Go.RowKit
section
variable {t : TypeId} {w w' : World} {g : Nat} {xs : List Int}
theorem own_read {B n c : Nat} {A : Option Addr} (h : w.ownsRow B t 1 (.slice A n c) n (ints xs)) (hn : 0 < n) : ∃ g, A = some ⟨g, 0, none⟩ ∧ OwnB t w g xs := by
  have hl := h.1
  rw [ints_length] at hl
  rcases ownB_of_ownsRow h with ⟨_, h0⟩ | ⟨g, h1, _, h2⟩
  · subst h0; simp at hl; omega
  · exact ⟨g, h1, h2⟩
theorem OwnB.keep (h : OwnB t w g xs) (hb : Below w.heap.size w w') : OwnB t w' g xs := h.later hb h.lt
theorem OwnB.cell1 (h : OwnB t w g xs) (i : Nat) (hi : i < xs.length) {v : Int} (hv : xs.getD i 0 = v) : w.cell? ⟨g, i, none⟩ = some (.int .i64 v) := by rw [← hv]; exact h.cell hi
end
theorem ints_snoc (xs : List Int) (x : Int) : ints (xs ++ [x]) = ints xs ++ [.int .i64 x] := by simp [ints]
end Go.Proofs.Ytpnlmmilnglmkaa
