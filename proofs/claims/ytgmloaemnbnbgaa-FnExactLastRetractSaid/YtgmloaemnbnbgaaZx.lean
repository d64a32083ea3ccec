import Derived.Test.YtgmloaemnbnbgaaZu
import Derived.Test.YtgmloaemnbnbgaaZv
import Derived.Test.YtgmloaemnbnbgaaZt
namespace Go.Proofs.Ytgmloaemnbnbgaa
open Go Go.RowKit
open Classical
def AlRes (f s : List (List Int)) : List Int → Int → Prop := RRes7 (NdS f s) (alC f s)
theorem AlRes.ex (f s : List (List Int)) : ∃ zs code, AlRes f s zs code ∧ zs.length ≤ 1048576 := RRes7.ex _ _ (fun h => by rw [alC_length]; have := h.sizes rfl; omega)
def TwRes8 (f s : List (List Int)) : Bool → Int → Prop := BRes (NdS f s) (alN f s = 1)
theorem TwRes8.ex (f s : List (List Int)) : ∃ r code, TwRes8 f s r code := BRes.ex _ _
theorem gI_max {xs : List Int} {m : Int} (h : IsMax xs m) (h0 : 0 ≤ m) : gI xs xs.length = m + 1 := by
  obtain ⟨⟨i, hi, e⟩, hall⟩ := h
  have h1 := gI_low xs xs.length i hi
  rcases gI_hit xs xs.length with h2 | ⟨j, hj, h2⟩
  · omega
  · have := hall j hj
    omega
theorem alC_great {f s : List (List Int)} {n : Nat} (hn : f.length = n) (h1 : 1 ≤ n) : gI (alC f s) n = (alN f s : Int) := by
  have h := alC_max (s := s) hn h1
  have hp := alN_pos (s := s) hn h1
  have h2 := gI_max h (by omega)
  rw [alC_length, hn] at h2
  omega
theorem alC_12 {f s : List (List Int)} {n : Nat} (hn : f.length = n) (h1 : 1 ≤ n) (h12 : n ≤ 12) : ∀ j, j < n → (alC f s).getD j 0 ≤ 12 := by
  intro j hj
  have h := (alC_max (s := s) hn h1).2 j (by rw [alC_length]; omega)
  have := alN_le (s := s) hn
  omega
end Go.Proofs.Ytgmloaemnbnbgaa
