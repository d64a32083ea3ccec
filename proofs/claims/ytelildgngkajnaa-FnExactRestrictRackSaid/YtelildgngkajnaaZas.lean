import Derived.Test.YtelildgngkajnaaZar
import Derived.Test.YtelildgngkajnaaZy
import Derived.Test.YtelildgngkajnaaZv
import Derived.Test.YtelildgngkajnaaZe
import Derived.Test.YtelildgngkajnaaZx
import Derived.Test.YtelildgngkajnaaZn
import Derived.Deep.Cut
namespace Go.Proofs.Ytelildgngkajnaa
open Go Go.RowKit
set_option maxHeartbeats 2000000

set_option maxRecDepth 100000 in
theorem isIncr_any (B : Option Addr) (m d : Nat) (xs : List Int) (r : Bool) (w : World) (hm : xs.length = m) (hb : m ≤ 1048576) (hr : Rd w B xs) (hres : r = true ↔ Incr xs) :
    Calls Try.prog 97 #[.slice B m d] w fun e w' => e = .returned (.bool r) ∧ Quiet w w' := by
  have HM := hide hm
  have HRES := hide hres
  have HR := hide hr
  clear hm hres hr
  go_enter Try.func97, Try.ntmps97
  go_wp2_with fail
  go_loopw [3] (fun i wr => ∃ k : Nat, 1 ≤ k ∧ k ≤ m + 1 ∧ i = .int .i64 k ∧ Quiet w wr ∧ ∀ j, 1 ≤ j → j < k → j < xs.length → xs.getD (j - 1) 0 < xs.getD j 0) (fun i _ => m + 1 - (intOf i).toNat)
  case atStart => exact ⟨1, Nat.le_refl _, by omega, rfl, Quiet.refl _, fun j hj h2 => by omega⟩
  case round =>
    obtain ⟨k, hk1, hk, rfl, hq, hall⟩ := hrel
    have HQ := hide hq
    have HALL := hide hall
    clear hq hall
    by_cases hlt : k < m
    · obtain ⟨b, o, rfl, hbw, hc⟩ := HQ.out.rd HR.out (by have := HM.out; omega)
      obtain ⟨k', rfl⟩ : ∃ k', k = k' + 1 := ⟨k - 1, by omega⟩
      have c1 := hc (k' + 1) (by have := HM.out; omega)
      have c2 := hc k' (by have := HM.out; omega)
      obtain ⟨x, hx⟩ : ∃ x, xs.getD (k' + 1) 0 = x := ⟨_, rfl⟩
      obtain ⟨y, hy⟩ : ∃ y, xs.getD k' 0 = y := ⟨_, rfl⟩
      rw [hx] at c1
      rw [hy] at c2
      have HX := hide hx
      have HY := hide hy
      have hltz : ((k' + 1 : Nat) : Int) < m := by omega
      have hz2 : ((k' + 1 : Nat) : Int) - 1 = (k' : Int) := by omega
      clear hx hy hc
      obtain ⟨K, hK⟩ : ∃ K, k' + 1 = K := ⟨_, rfl⟩
      have HKK := hide hK
      have hk'z : (k' : Int) < m := by omega
      rw [hK] at c1 hltz hz2 hk hk1 hlt ⊢
      clear hK
      by_cases hle : x ≤ y
      · have hrf : r = false := by
          cases r
          · rfl
          · exact absurd (by have h := HRES.out.1 rfl (k' + 1) (by omega) (by have := HM.out; have := HKK.out; omega); rw [HX.out, show k' + 1 - 1 = k' by omega, HY.out] at h; exact h) (by omega)
        subst hrf
        go_wp2_with fail
        go_quiet (fail)
        go_wp2_with fail
        go_ret
        exact ⟨rfl, HQ.out.trans (Quiet.of _ _)⟩
      · go_wp2_with fail
        go_quiet (fail)
        go_wp2_with fail
        go_roundw
        case rel => exact ⟨K + 1, by omega, by omega, by go_num, HQ.out.trans (Quiet.of _ _), fun j h1 h2 h3 => by
          by_cases e : j = k' + 1
          · rw [e, HX.out, show k' + 1 - 1 = k' by omega, HY.out]; omega
          · exact HALL.out j h1 (by have := HKK.out; omega) h3⟩
        case measure => simp [intOf]; omega
    · have hltz : ¬ (k : Int) < m := by omega
      have hrt : r = true := HRES.out.2 fun j h1 h2 => HALL.out j h1 (by have := HM.out; omega) h2
      subst hrt
      go_wp2_with fail
      go_ret
      exact ⟨rfl, HQ.out⟩

set_option maxRecDepth 100000 in
theorem rtC_any (A : Option Addr) (n c : Nat) (f : List (List Int)) (B : Option Addr) (m d : Nat) (xs : List Int) (ba bb : Nat) (w : World) (hn : f.length = n) (ht : Tbl f) (hr : Rd2 w A f) (hm : xs.length = m) (hm12 : m ≤ 12) (hx : Rd w B xs) (he : Els n xs)
    (hk1 : Blk w ba 53 [.slice A n c]) (hk2 : Blk w bb 48 [.slice B m d]) :
    CellFn Try.prog 99 #[.pointer (some ⟨bb, 0, none⟩), .pointer (some ⟨ba, 0, none⟩)] m (rtH f xs) w := by
  intro W x y hxm hym hb
  obtain ⟨b, o, hB, hbw, hc⟩ := hx (by omega)
  subst hB
  have HRA := hide (hr.later hb)
  have HKa := hide (hk1.later hb)
  have HKb := hide (hk2.later hb)
  have HT := hide ht
  have HN := hide hn
  have HM := hide hm
  have hv1 := he.val (i := x) (by omega)
  have hv2 := he.val (i := y) (by omega)
  have c1 := (hb.cell (p := ⟨b, o + x, none⟩) hbw).trans (hc x (by omega))
  have c2 := (hb.cell (p := ⟨b, o + y, none⟩) hbw).trans (hc y (by omega))
  rw [hv1.1] at c1
  rw [hv2.1] at c2
  have HRX : Hid (Rd W (some ⟨b, o, none⟩) xs) := hide (hx.later hb)
  have hbW : b < W.heap.size := Nat.lt_of_lt_of_le hbw hb.size
  unfold rtH
  obtain ⟨xa, hxa⟩ : ∃ a, el xs x = a := ⟨_, rfl⟩
  obtain ⟨ya, hya⟩ : ∃ a, el xs y = a := ⟨_, rfl⟩
  rw [hxa] at c1 hv1 ⊢
  rw [hya] at c2 hv2 ⊢
  have hxn := hv1.2
  have hyn := hv2.2
  obtain ⟨u, hue⟩ : ∃ a, ap f xa ya = a := ⟨_, rfl⟩
  rw [hue]
  have HU := hide hue
  have HC1 := hide c1
  have HC2 := hide c2
  have hxz : (x : Int) < m := by omega
  have hyz : (y : Int) < m := by omega
  obtain ⟨r, hre⟩ : ∃ r, ixOf xs (u : Int) = r := ⟨_, rfl⟩
  rw [hre]
  have hrb := ixOf_bounds xs (u : Int) (by omega)
  rw [hre] at hrb
  have HRE := hide hre
  have HBC : Hid (b < W.heap.size) := hide hbW
  clear hr hk1 hk2 hb hn hm ht hx he hc hue hxa hya hv1 hv2 c1 c2 hre
  show Calls Try.prog 99 #[.int .i64 x, .int .i64 y, .pointer (some ⟨bb, 0, none⟩), .pointer (some ⟨ba, 0, none⟩)] W _
  go_enter Try.func99, Try.ntmps99
  go_upto_region 1 with fail
  refine wp_gen fun w1 hw1 => ?_
  have HBc : Hid (Below W.heap.size W w1) := hide (by rw [hw1]; exact Below.refl _ _)
  replace HKa : Hid (Blk w1 ba 53 [.slice A n c]) := hide (by rw [hw1]; exact HKa.out)
  replace HKb : Hid (Blk w1 bb 48 [.slice (some ⟨b, o, none⟩) m d]) := hide (by rw [hw1]; exact HKb.out)
  clear hw1
  have k0 := HKa.out.cell 0 _ rfl
  have k1 := HKb.out.cell 0 _ rfl
  have c1 := (HBc.out.cell (p := ⟨b, o + x, none⟩) hbW).trans HC1.out
  have c2 := (HBc.out.cell (p := ⟨b, o + y, none⟩) hbW).trans HC2.out

  go_region_held3 (fun w' => w'.cell? ⟨ba, 0, none⟩ = some (.slice A n c) ∧ w'.cell? ⟨bb, 0, none⟩ = some (.slice (some ⟨b, o, none⟩) m d) ∧ w'.cell? ⟨b, o + x, none⟩ = some (.int .i64 xa) ∧ w'.cell? ⟨b, o + y, none⟩ = some (.int .i64 ya)) (first | exact ⟨k0, k1, c1, c2⟩ | go_keep) (first | (go_at_call 93; go_must (refine calls_gen fun wc hwc => ?_; (first | have hbx := drew_below hwc | have hbx := eq_below hwc); replace HBc := hide (HBc.out.trans (hbx.mono HBc.out.size)); replace HKa := hide (HKa.out.later hbx); replace HKb := hide (HKb.out.later hbx); clear hwc hbx; refine (act_any _ _ _ f xa ya u _ HN.out HT.out (HRA.out.later HBc.out) hxn hyn HU.out).mono ?_; rintro e wd ⟨rfl, hbd⟩; replace HBc := hide (HBc.out.trans (hbd.mono HBc.out.size)); replace HKa := hide (HKa.out.later hbd); replace HKb := hide (HKb.out.later hbd); clear hbd; have k0 := HKa.out.cell 0 _ rfl; have k1 := HKb.out.cell 0 _ rfl; have c1 := (HBc.out.cell (p := ⟨b, o + x, none⟩) hbW).trans HC1.out; have c2 := (HBc.out.cell (p := ⟨b, o + y, none⟩) hbW).trans HC2.out)) | (go_at_call 100; go_must (refine calls_gen fun wc hwc => ?_; (first | have hbx := drew_below hwc | have hbx := eq_below hwc); replace HBc := hide (HBc.out.trans (hbx.mono HBc.out.size)); replace HKa := hide (HKa.out.later hbx); replace HKb := hide (HKb.out.later hbx); clear hwc hbx; refine (indexI_any _ m _ xs u _ HM.out (by omega) (HRX.out.later HBc.out)).mono ?_; rintro e wd ⟨rfl, hqd⟩; have hbd := hqd.below wc.heap.size; clear hqd; replace HBc := hide (HBc.out.trans (hbd.mono HBc.out.size)); replace HKa := hide (HKa.out.later hbd); replace HKb := hide (HKb.out.later hbd); clear hbd; have k0 := HKa.out.cell 0 _ rfl; have k1 := HKb.out.cell 0 _ rfl; have c1 := (HBc.out.cell (p := ⟨b, o + x, none⟩) hbW).trans HC1.out; have c2 := (HBc.out.cell (p := ⟨b, o + y, none⟩) hbW).trans HC2.out)))
  all_goals clear k0 k1 c1 c2
  all_goals go_wp2_with fail
  all_goals rw [HRE.out]
  all_goals go_ret
  all_goals exact ⟨rfl, HBc.out⟩
end Go.Proofs.Ytelildgngkajnaa
