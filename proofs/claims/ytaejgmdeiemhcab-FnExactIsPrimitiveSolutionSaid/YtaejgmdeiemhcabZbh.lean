import Derived.Test.YtaejgmdeiemhcabZbf
import Derived.Test.YtaejgmdeiemhcabZad
import Derived.Test.YtaejgmdeiemhcabZbc
namespace Go.Proofs.Ytaejgmdeiemhcab
open Go Go.RowKit
open Classical
set_option maxHeartbeats 1000000
theorem numL_le (L : List Int) (a : Nat) : (numL L).getD a 0 ≤ (L.length : Int) := by
  by_cases h : a < L.length
  · have e : (numL L).getD a 0 = ixOf (firstsL L (a + 1)) (lb L a) := by simp [numL, numTo, h]
    rw [e]
    unfold ixOf
    by_cases hm : lb L a ∈ firstsL L (a + 1)
    · rw [if_pos hm]
      have h1 := List.idxOf_lt_length_of_mem hm
      have h2 := firstsL_le L (a + 1)
      omega
    · rw [if_neg hm]; omega
  · have hl := numL_length L
    simp [show ¬ a < (numL L).length by omega]
theorem gI_zero (xs : List Int) (n : Nat) (h : ∀ j, j < n → xs.getD j 0 = 0) : gI xs n ≤ 1 := by
  induction n with
  | zero => simp [gI]
  | succ n ih =>
    have h1 := ih fun j hj => h j (by omega)
    have h2 := h n (by omega)
    show (if gI xs n ≤ xs.getD n 0 then xs.getD n 0 + 1 else gI xs n) ≤ 1
    rw [h2]
    by_cases h3 : gI xs n ≤ 0
    · rw [if_pos h3]; omega
    · rw [if_neg h3]; exact h1
theorem oneB_great {f s : List (List Int)} {x y n : Nat} (hn : f.length = n) : gI (blL f s x y) n ≤ 1 ↔ OneB f s x y := by
  subst hn
  constructor
  · intro h z hz
    have h1 := gI_low (blL f s x y) f.length z hz
    have h2 : 0 ≤ (blL f s x y).getD z 0 := numL_nonneg _ z
    omega
  · intro h
    exact gI_zero _ _ h
theorem blL_12 {f s : List (List Int)} {x y n : Nat} (hn : f.length = n) (h12 : n ≤ 12) (j : Nat) : (blL f s x y).getD j 0 ≤ 12 := by
  have h := numL_le (mgC (ap (bothL f s)) (f.length + f.length) f.length x y) j
  rw [mgC_length] at h
  show (numL _).getD j 0 ≤ 12
  omega
end Go.Proofs.Ytaejgmdeiemhcab
