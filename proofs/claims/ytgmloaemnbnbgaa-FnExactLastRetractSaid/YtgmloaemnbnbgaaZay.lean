import Derived.Test.YtgmloaemnbnbgaaZd
import Derived.Test.YtgmloaemnbnbgaaZp
namespace Go.Proofs.Ytgmloaemnbnbgaa
open Go Go.RowKit
set_option maxHeartbeats 2000000
def relL (xs ys : List Int) : List Int := xs.map fun l => ys.getD l.toNat 0
theorem relL_length (xs ys : List Int) : (relL xs ys).length = xs.length := by simp [relL]
theorem relL_at (xs ys : List Int) {k : Nat} (h : k < xs.length) : (relL xs ys).getD k 0 = ys.getD (xs.getD k 0).toNat 0 := by simp [relL, h]
set_option maxRecDepth 100000 in
theorem relI_any (A : Option Addr) (n c : Nat) (xs : List Int) (C : Option Addr) (m e : Nat) (ys : List Int) (w : World) (hn : xs.length = n) (hb : n ≤ 1048576) (hm : ys.length = m) (hbm : m ≤ 1048576) (hr : Rd w A xs) (hr2 : Rd w C ys) (hx : ∀ x, x < n → 0 ≤ xs.getD x 0 ∧ xs.getD x 0 < (m : Int)) :
    Calls Try.prog 94 #[.slice A n c, .slice C m e] w fun e w' => e = .returned (.slice (some ⟨w.heap.size, 0, none⟩) n n) ∧ Below w.heap.size w w' ∧ Row 2 w' w.heap.size (relL xs ys) ∧ w'.heap.size = w.heap.size + 1 := by
  have hmk := run_make_row' (P := Try.prog) 26 2 (.int .i64 0) 8 Try.underlying26 idInfo rfl .i64 .i64 n (by omega) (by omega)
  have HN := hide hn
  have HM := hide hm
  have HR := hide hr
  have HR2 := hide hr2
  have HX := hide hx
  have HL : Hid ((relL xs ys).length = n) := hide (by rw [relL_length]; exact hn)
  clear hn hm hr hr2 hx
  go_enter Try.func94, Try.ntmps94
  go_wp2_with fail
  clear hmk
  go_loopw [13] (fun i wr => ∃ k : Nat, k ≤ n ∧ i = .int .i64 k ∧ Below w.heap.size w wr ∧ Row 2 wr w.heap.size ((relL xs ys).take k ++ List.replicate (n - k) 0) ∧ wr.heap.size = w.heap.size + 1) (fun i _ => n - (intOf i).toNat)
  case atStart => exact ⟨0, Nat.zero_le _, rfl, (Below.refl _ _).alloc (Nat.le_refl _) _, by simpa using Row.made 2 w n, by simp⟩
  case round =>
    obtain ⟨k, hk, rfl, hbe, hrow, hsz⟩ := hrel
    have HB := hide hbe
    have HROW := hide hrow
    have HSZ := hide hsz
    clear hbe hrow hsz
    by_cases hlt : k < n
    · have h2 := HROW.out.cell (i := k) (by have := HL.out; simp; omega)
      have h3 := HROW.out.frozen k
      obtain ⟨old, hold⟩ : ∃ q, ((relL xs ys).take k ++ List.replicate (n - k) 0).getD k 0 = q := ⟨_, rfl⟩
      rw [hold] at h2
      have hltz : (k : Int) < n := by omega
      obtain ⟨b, o, rfl, hbw, hc⟩ := HR.out (by rw [HN.out]; omega)
      have hck := (HB.out.cell (p := ⟨b, o + k, none⟩) hbw).trans (hc k (by rw [HN.out]; exact hlt))
      have hrg := HX.out k hlt
      obtain ⟨u, hu⟩ := Int.eq_ofNat_of_zero_le hrg.1
      rw [hu] at hck hrg
      have hum : u < m := by omega
      have humz : (u : Int) < m := by omega
      obtain ⟨b2, o2, rfl, hbw2, hc2⟩ := HR2.out (by rw [HM.out]; omega)
      have hcu := (HB.out.cell (p := ⟨b2, o2 + u, none⟩) hbw2).trans (hc2 u (by rw [HM.out]; exact hum))
      obtain ⟨q, hq⟩ : ∃ q, ys.getD u 0 = q := ⟨_, rfl⟩
      rw [hq] at hcu
      have hz : (relL xs ys).getD k 0 = q := by rw [relL_at xs ys (by rw [HN.out]; exact hlt), hu, ← hq]; rfl
      have hset := HROW.out.set k q
      rw [← hz, kq_fill (relL xs ys) n k HL.out hlt] at hset
      rw [hz] at hset
      have HS := hide hset
      clear hold hc hc2 hu hq hz hset hrg
      go_wp2_with fail
      go_roundw
      case rel => exact ⟨k + 1, by omega, by go_num, HB.out.setCell (p := ⟨w.heap.size, k, none⟩) (Nat.le_refl _) _, HS.out, by have := HSZ.out; simpa [World.setCell] using this⟩
      case measure => simp [intOf]; omega
    · have hkn : k = n := by omega
      subst hkn
      have h := HROW.out
      rw [List.take_of_length_le (by rw [HL.out]; exact Nat.le_refl _), Nat.sub_self] at h
      have HE : Hid (Row 2 wr w.heap.size (relL xs ys)) := hide (by simpa using h)
      clear h
      go_wp2_with fail
      go_ret
      exact ⟨rfl, HB.out, HE.out, HSZ.out⟩
end Go.Proofs.Ytgmloaemnbnbgaa
