import Derived.Test.YtkflmhmbkilmpacGrF
import Derived.Test.YtkflmhmbkilmpacMbI
import Derived.Test.YtkflmhmbkilmpacRkA
namespace Go.Proofs.Ytkflmhmbkilmpac
open Go Go.RowKit
set_option maxHeartbeats 2000000

set_option maxRecDepth 100000 in
theorem grown_any (A : Option Addr) (n c : Nat) (f : List (List Int)) (S : Nat) (w : World) (hn : f.length = n) (ht : Tbl f) (hr : Rd2 w A f) (hS : S < 2 ^ n) :
    Calls Try.prog 62 #[.agg #[.slice A n c], .int .i64 S] w fun e w' => ∃ V : Nat, e = .returned (.int .i64 V) ∧ Below w.heap.size w w' ∧ GrF f S V ∧ V < 2 ^ n := by
  have h1 : 1 ≤ n := by rw [← hn]; exact ht.1
  have h12 : n ≤ 12 := by rw [← hn]; exact ht.2.1
  have hS12 : S < 4096 := Nat.lt_of_lt_of_le hS (pow_le n h12)
  have HN := hide hn
  have HTB := hide ht
  have HR := hide hr
  have HS := hide hS
  have HB0 := hide ((Below.refl _ w).alloc (Nat.le_refl _) (Obj.cells #[Value.slice A n c] 26))
  have HK0 := hide (Blk.new w 26 [.slice A n c])
  clear hn ht hr hS
  obtain ⟨m, hm⟩ : ∃ m, (mems 12 S).length = m := ⟨_, rfl⟩
  have hm12 : m ≤ 12 := by rw [← hm]; exact mems_length 12 S
  have HM := hide hm
  clear hm
  go_enter Try.func62, Try.ntmps62
  go_wp2_with fail
  refine (membersOf_any S _ hS12).mono ?_
  rintro e w1 ⟨B, d, rfl, hb1, hres⟩
  have HB1 := hide (HB0.out.trans (hb1.mono HB0.out.size))
  have HK1 := hide (HK0.out.later hb1)
  have HRS := hide hres.rd
  rw [HM.out]
  clear hb1 hres
  go_wp2_with fail
  go_loopw [1, 14] (fun s i wr => ∃ (k V : Nat), k ≤ m ∧ i = .int .i64 k ∧ s = .int .i64 V ∧ Below w1.heap.size w1 wr ∧ V < 2 ^ n ∧ GrQ f S k 0 V) (fun _ i _ => m - (intOf i).toNat)
  case atStart => exact ⟨0, S, Nat.zero_le _, rfl, rfl, Below.refl _ _, HS.out, GrQ.start f S⟩
  case round =>
    obtain ⟨k, V, hk, rfl, rfl, hbe, hV, hq⟩ := hrel
    have HB := hide hbe
    have HV := hide hV
    have HQ := hide hq
    clear hbe hV hq
    by_cases hlt : k < m
    · have hkz : (k : Int) < m := by omega
      obtain ⟨b, o, hBe, hbw, hc⟩ := HRS.out (by rw [memL_length, HM.out]; omega)
      subst hBe
      have HC : Hid (∀ i, i < m → w1.cell? ⟨b, o + i, none⟩ = some (.int .i64 (mel S i))) := hide (fun i hi => by rw [← mel_getD (by rw [HM.out]; exact hi)]; exact hc i (by rw [memL_length, HM.out]; exact hi))
      clear hc
      obtain ⟨x, hx⟩ : ∃ x, mel S k = x := ⟨_, rfl⟩
      have hxn : x < n := by rw [← hx]; exact inb_lt HS.out (mel_in (by rw [HM.out]; exact hlt))
      have c0 := (HB.out.cell (p := ⟨b, o + k, none⟩) hbw).trans (HC.out k hlt)
      rw [hx] at c0
      have HX := hide hx
      clear hx
      go_wp2_with fail
      clear c0
      go_loopw [1, 20] (fun s i wr => ∃ (j V : Nat), j ≤ m ∧ i = .int .i64 j ∧ s = .int .i64 V ∧ Below w1.heap.size w1 wr ∧ V < 2 ^ n ∧ GrQ f S k j V) (fun _ i _ => m - (intOf i).toNat)
      case atStart => exact ⟨0, V, Nat.zero_le _, rfl, rfl, HB.out, HV.out, HQ.out⟩
      case round =>
        clear HB HV HQ
        obtain ⟨j, V, hj, rfl, rfl, hbe, hV, hq⟩ := hrel
        have HB := hide hbe
        have HV := hide hV
        have HQ := hide hq
        clear hbe hV hq
        by_cases hltj : j < m
        · have hjz : (j : Int) < m := by omega
          obtain ⟨y, hy⟩ : ∃ y, mel S j = y := ⟨_, rfl⟩
          have hyn : y < n := by rw [← hy]; exact inb_lt HS.out (mel_in (by rw [HM.out]; exact hltj))
          have c1 := (HB.out.cell (p := ⟨b, o + j, none⟩) hbw).trans (HC.out j hltj)
          rw [hy] at c1
          have hv := HTB.out.ap_lt HN.out hxn hyn
          obtain ⟨v, hve⟩ : ∃ v, ap f x y = v := ⟨_, rfl⟩
          rw [hve] at hv
          have HU := hide hve
          have HSTEP : Hid (GrQ f S k (j + 1) (V ||| 2 ^ v)) := hide (HQ.out.step (by rw [HM.out]; exact hlt) (by rw [HM.out]; exact hltj) (by rw [HX.out, hy]; exact hve))
          have HV2 : Hid (V ||| 2 ^ v < 2 ^ n) := hide (or_lt HV.out hv)
          have hV12 : V < 4096 := Nat.lt_of_lt_of_le HV.out (pow_le n h12)
          obtain ⟨p, hp⟩ : ∃ p, 2 ^ v = p := ⟨_, rfl⟩
          have hp12 : p < 4096 := by rw [← hp]; exact Nat.lt_of_lt_of_le (Nat.pow_lt_pow_right (by decide) (by omega : v < 12)) (Nat.le_refl _)
          have g1 : (2 : Int) ^ v = (p : Int) := by rw [← hp]; simp
          have g2 := bt_or V p (by omega) (by omega)
          rw [hp] at HSTEP HV2
          obtain ⟨V2, hV2⟩ : ∃ V2, V ||| p = V2 := ⟨_, rfl⟩
          rw [hV2] at HSTEP HV2 g2
          have hV212 : V2 < 4096 := Nat.lt_of_lt_of_le HV2.out (pow_le n h12)
          clear hy hve hp hV2
          have k0 := (HK1.out.later HB.out).cell 0 _ rfl
          go_wp2_with fail
          clear k0 c1
          refine (act_any _ _ _ f x y v _ HN.out HTB.out (HR.out.later (HB1.out.trans (HB.out.mono HB1.out.size))) hxn hyn HU.out).mono ?_
          rintro e w5 ⟨rfl, hb5⟩
          have HB5 := hide (HB.out.trans (hb5.mono HB.out.size))
          clear hb5
          go_wp2_with fail
          go_roundw
          case rel => exact ⟨j + 1, V2, by omega, by go_num, rfl, HB5.out, HV2.out, HSTEP.out⟩
          case measure => simp [intOf]; omega
        · have hjm : j = m := by omega
          subst hjm
          go_wp2_with fail
          go_roundw
          case rel => exact ⟨k + 1, V, by omega, by go_num, rfl, HB.out, HV.out, GrQ.next (by rw [HM.out]; exact HQ.out)⟩
          case measure => simp [intOf]; omega
    · have hkm : k = m := by omega
      subst hkm
      go_wp2_with fail
      go_ret
      exact ⟨V, rfl, HB1.out.trans (HB.out.mono HB1.out.size), GrQ.done hS12 (by rw [HM.out]; exact HQ.out), HV.out⟩

set_option maxRecDepth 100000 in
theorem isSubrack_any (A : Option Addr) (n c : Nat) (f : List (List Int)) (S : Nat) (r : Bool) (w : World) (hn : f.length = n) (ht : Tbl f) (hr : Rd2 w A f) (hS : S < 2 ^ n) (hres : r = true ↔ SubF f S) :
    Calls Try.prog 61 #[.agg #[.slice A n c], .int .i64 S] w fun e w' => e = .returned (.bool r) ∧ Below w.heap.size w w' := by
  have HN := hide hn
  have HTB := hide ht
  have HR := hide hr
  have HRES := hide hres
  have HB0 := hide ((Below.refl _ w).alloc (Nat.le_refl _) (Obj.cells #[Value.slice A n c] 26))
  have HK0 := hide (Blk.new w 26 [.slice A n c])
  clear hn ht hr hres
  by_cases h0 : S = 0
  · subst h0
    have hrf : r = false := by
      cases r
      · rfl
      · exact absurd rfl (HRES.out.1 rfl).1
    subst hrf
    go_enter Try.func61, Try.ntmps61
    go_wp2_with fail
    go_ret
    exact ⟨rfl, HB0.out⟩
  · have h0z : ((S : Int) == 0) = false := by simpa using h0
    have h0z2 : ((S : Int) != 0) = true := by simpa using h0
    have HNZ := hide h0
    have HS := hide hS
    clear h0 hS
    go_enter Try.func61, Try.ntmps61
    have k0 := HK0.out.cell 0 _ rfl
    go_wp2_with fail
    clear k0
    refine (grown_any _ n _ f S _ HN.out HTB.out (HR.out.later HB0.out) HS.out).mono ?_
    rintro e w1 ⟨V, rfl, hb1, hg, hv⟩
    have HB1 := hide (HB0.out.trans (hb1.mono HB0.out.size))
    have HG := hide hg
    clear hb1 hg hv
    by_cases he : V = S
    · have hrt : r = true := HRES.out.2 ⟨HNZ.out, HG.out.closed.1 he⟩
      subst hrt
      subst he
      go_wp2_with fail
      go_ret
      exact ⟨rfl, HB1.out⟩
    · have hrf : r = false := by
        cases r
        · rfl
        · exact absurd (HG.out.closed.2 (HRES.out.1 rfl).2) he
      subst hrf
      have hez : ((V : Int) == (S : Int)) = false := by simpa using fun h => he (by omega)
      go_wp2_with fail
      go_ret
      exact ⟨rfl, HB1.out⟩
end Go.Proofs.Ytkflmhmbkilmpac
