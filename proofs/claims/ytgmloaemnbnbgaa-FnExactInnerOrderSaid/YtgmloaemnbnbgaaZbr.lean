import Derived.Test.YtgmloaemnbnbgaaZbo
import Derived.Test.YtgmloaemnbnbgaaZf
import Derived.Test.YtgmloaemnbnbgaaZi
import Derived.Test.YtgmloaemnbnbgaaZc
import Derived.Deep.Cut
namespace Go.Proofs.Ytgmloaemnbnbgaa
open Go Go.RowKit
set_option maxHeartbeats 4000000
theorem half (lo hi : Nat) : ((lo : Int) + (hi : Int)).tdiv 2 = (((lo + hi) / 2 : Nat) : Int) := by
  rw [Int.tdiv_eq_ediv_of_nonneg (by omega)]; omega
set_option maxRecDepth 100000 in
theorem search_any (A B : Option Addr) (m c n d : Nat) (l : List (List Int)) (p : List Int) (w : World) (hm : l.length = m) (hmb : m ≤ 1048576) (hll : ∀ i, i < l.length → (l.getD i []).length = n) (hp : p.length = n) (hn : n ≤ 12) (hasc : Asc l) (hr : Rd2 w A l) (hrp : Rd w B p) :
    Calls Try.prog 106 #[.slice A m c, .slice B n d] w fun e w' => ∃ k : Nat, e = .returned (.int .i64 k) ∧ Plc l p k k ∧ Quiet w w' := by
  have HM := hide hm
  have HLL := hide hll
  have HP := hide hp
  have HA := hide hasc
  have HR := hide hr
  have HRP := hide hrp
  clear hm hll hp hasc hr hrp
  go_enter Try.func106, Try.ntmps106
  go_wp2_with fail
  go_loopw [5, 6] (fun v i wr => ∃ lo hi : Nat, v = .int .i64 lo ∧ i = .int .i64 hi ∧ Plc l p lo hi ∧ Quiet w wr) (fun v i _ => (intOf i).toNat - (intOf v).toNat)
  case atStart => exact ⟨0, m, rfl, rfl, by have h := Plc.start l p; rw [HM.out] at h; exact h, Quiet.refl w⟩
  case round =>
    obtain ⟨lo, hi, rfl, rfl, hpl, hq⟩ := hrel
    have hle := hpl.le
    have htop := hpl.top
    rw [HM.out] at htop
    have HPLC := hide hpl
    have HQ := hide hq
    clear hpl hq
    by_cases hlt : lo < hi
    · have hltz : (lo : Int) < hi := by omega
      obtain ⟨mid, hmid⟩ : ∃ mid, (lo + hi) / 2 = mid := ⟨_, rfl⟩
      have hhalf := half lo hi
      rw [hmid] at hhalf
      have hm1 : lo ≤ mid := by omega
      have hm2 : mid < hi := by omega
      have HMID := hide hmid
      clear hmid
      have hmidz : (mid : Int) < m := by omega
      obtain ⟨bA, oA, rfl, hbA, hcA⟩ := (HQ.out.rd2 HR.out) (by rw [HM.out]; omega)
      obtain ⟨Am, cm, hcm, hrm⟩ := hcA mid (by rw [HM.out]; omega)
      rw [HLL.out mid (by rw [HM.out]; omega)] at hcm
      have HRM := hide hrm
      clear hrm hcA
      go_wp2_with fail
      refine (less_any Am B n cm d (l.getD mid []) p _ (HLL.out mid (by rw [HM.out]; omega)) HP.out (by omega) HRM.out (HQ.out.rd HRP.out)).mono ?_
      rintro e w2 ⟨rfl, hq2⟩
      have HQ2 := hide (HQ.out.trans hq2)
      clear hq2
      cases hls : lessL (l.getD mid []) p with
      | true =>
        have HLS := hide hls
        clear hls
        go_wp2_with fail
        go_roundw
        case rel => exact ⟨mid + 1, hi, by go_num, rfl, HPLC.out.up HA.out ⟨hm1, hm2⟩ HLS.out, HQ2.out⟩
        case measure => simp [intOf]; omega
      | false =>
        have HLS := hide hls
        clear hls
        go_wp2_with fail
        go_roundw
        case rel => exact ⟨lo, mid, rfl, rfl, HPLC.out.down HA.out ⟨hm1, hm2⟩ HLS.out, HQ2.out⟩
        case measure => simp [intOf]; omega
    · have hee : lo = hi := by omega
      subst hee
      go_wp2_with fail
      go_ret
      exact ⟨lo, rfl, HPLC.out, HQ.out⟩
end Go.Proofs.Ytgmloaemnbnbgaa
