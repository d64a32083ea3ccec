import Derived.Test.YtgmloaemnbnbgaaZp
import Derived.Test.YtgmloaemnbnbgaaZl
import Derived.Test.YtgmloaemnbnbgaaZn
import Derived.Test.YtgmloaemnbnbgaaZs
namespace Go.Proofs.Ytgmloaemnbnbgaa
open Go Go.RowKit
open Classical
/-- The greatest number of an orbit. -/
theorem orb_pos {f s : List (List Int)} (hg : NdS f s) : 1 ≤ orbN f s := by
  have h1 := (hg.sizes rfl).1
  have hok := lab_ok (bothL f s) f.length f.length (hg.both rfl) (Nat.le_refl _)
  have h2 := hok.all 0 (by omega)
  have h3 := hok.lt 0
  unfold orbN
  omega
theorem orb_le {f s : List (List Int)} : orbN f s ≤ f.length := lab_le _ _
theorem orb_rng {f s : List (List Int)} (hg : NdS f s) (j : Nat) (hj : j < f.length) : 0 ≤ (orbS f s).getD j 0 ∧ (orbS f s).getD j 0 < (orbN f s : Int) := by
  have hok := lab_ok (bothL f s) f.length f.length (hg.both rfl) (Nat.le_refl _)
  unfold orbS orbN
  rw [labL_at _ _ _ _ hj]
  exact ⟨hok.all j hj, hok.lt j⟩
theorem orb_onto {f s : List (List Int)} (hg : NdS f s) (k : Nat) (hk : k < orbN f s) : ∃ j, j < f.length ∧ (orbS f s).getD j 0 = (k : Int) := by
  have hok := lab_ok (bothL f s) f.length f.length (hg.both rfl) (Nat.le_refl _)
  obtain ⟨y, hy, e⟩ := hok.onto k hk
  refine ⟨y, hy, ?_⟩
  unfold orbS
  rw [labL_at _ _ _ _ hy]
  exact e
theorem orbS_length (f s : List (List Int)) : (orbS f s).length = f.length := labL_length _ _ _
theorem orb_max {f s : List (List Int)} (hg : NdS f s) : IsMax (orbS f s) ((orbN f s : Int) - 1) := by
  have h1 := orb_pos hg
  refine ⟨?_, fun i hi => ?_⟩
  · obtain ⟨j, hj, e⟩ := orb_onto hg (orbN f s - 1) (by omega)
    exact ⟨j, by rw [orbS_length]; exact hj, by rw [e]; omega⟩
  · have := orb_rng hg i (by rw [orbS_length] at hi; exact hi)
    omega
end Go.Proofs.Ytgmloaemnbnbgaa
