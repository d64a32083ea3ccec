import Derived.Test.YtkflmhmbkilmpabDoorSplitLaid
import Derived.Test.YtkflmhmbkilmpabDoorSpF
import Derived.Test.YtkflmhmbkilmpabDoorBlk
namespace Go.Proofs.YtkflmhmbkilmpabDoor
open Go Go.RowKit

/-- What the library's searches ask of the memory: one variable of theirs holds some number. -/
def MaxL (w : World) : Prop := 0 < w.heap.size ∧ ∃ m, w.cell? ⟨0, 0, none⟩ = some (.int .i64 m)
theorem MaxL.later {w w' : World} (h : MaxL w) (hb : Below w.heap.size w w') : MaxL w' := by
  obtain ⟨h1, m, h2⟩ := h
  exact ⟨Nat.lt_of_lt_of_le h1 hb.size, m, (hb.cell (p := ⟨0, 0, none⟩) h1).trans h2⟩
theorem split_any (s : ByteArray) (w : World) (hs : s.size ≤ 1048576) (hm : MaxL w) :
    Calls Tryd.prog 21 #[.string s, .string ⟨#[47]⟩] w fun e w' => e = .returned (.slice (some ⟨w.heap.size, 0, none⟩) (parts 47 s).length (parts 47 s).length) ∧ Below w.heap.size w w' ∧ Blk w' w.heap.size 9 ((parts 47 s).map Value.string) := by
  obtain ⟨_, m, hm⟩ := hm
  have hl := Lib.splitB_all ⟨#[47]⟩ (by decide) 0 (Lib.countB s ⟨#[47]⟩) s rfl
  refine (Tryd.strings_Split s ⟨#[47]⟩ m w (by omega) hm (by decide)).mono ?_
  rintro e w' ⟨rfl, rfl⟩
  rw [splitB_parts] at hl ⊢
  rw [← hl]
  exact ⟨rfl, (Below.refl _ _).alloc (Nat.le_refl _) _, Blk.new _ _ _⟩
end Go.Proofs.YtkflmhmbkilmpabDoor
