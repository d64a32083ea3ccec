import Derived.Test.YtgmloaemnbnbgaaZv
import Derived.Test.YtgmloaemnbnbgaaZx
import Derived.Test.YtgmloaemnbnbgaaZu
import Derived.Test.YtgmloaemnbnbgaaZw
import Derived.Test.YtgmloaemnbnbgaaZt
namespace Go.Proofs.Ytgmloaemnbnbgaa
open Go Go.RowKit
set_option maxHeartbeats 2000000
theorem alwI (A : Option Addr) (n c : Nat) (f : List (List Int)) (B : Option Addr) (m d : Nat) (s : List (List Int)) (zs : List Int) (code : Int) (kz : Nat) (w : World) (hz : ZArg 1048576 w A n f B m s) (hr : AlRes f s zs code) (hk : zs.length = kz) :
    Calls Try.prog 16 #[.agg #[.slice A n c, .slice B m d]] w (RPost 2 kz zs code w) := by
  have HZ := hide hz
  have HB0 := hide ((Below.refl _ w).alloc (Nat.le_refl _) (Obj.cells #[Value.slice A n c, Value.slice B m d] 29))
  have HK0 := hide (Blk.new w 29 [.slice A n c, .slice B m d])
  rcases hr with ⟨hg, hzs, rfl⟩ | ⟨hg, rfl, rfl⟩
  · obtain rfl := hz.same hg.map
    have h1 := (hg.sizes hz.sz.fl).1
    have h12 := (hg.sizes hz.sz.fl).2.1
    have HG := hide hg
    obtain rfl : m = kz := by rw [← hk, hzs, alC_length]; exact hz.sz.fl.symm
    have hzs := hzs.symm
    subst hzs
    clear hk
    clear hg hz
    go_enter Try.func16, Try.ntmps16
    go_wp2_with fail
    refine (nd7I _ _ _ f _ _ _ s true _ (HZ.out.later HB0.out) (by simp [HG.out])).mono ?_
    rintro e w1 ⟨rfl, hb1⟩
    have HB1 := hide (HB0.out.trans (hb1.mono HB0.out.size))
    have HK1 := hide (HK0.out.later hb1)
    have k0 := HK1.out.cell 0 _ rfl
    have k1 := HK1.out.cell 1 _ rfl
    clear hb1
    go_wp2_with fail
    refine (alikeI_any _ _ _ f _ _ s _ (HZ.out.later HB1.out) HG.out).mono ?_
    rintro e w2 ⟨g2, c2, rfl, hb2, hg2, hobj⟩
    have HB2 := hide (HB1.out.trans (hb2.mono HB1.out.size))
    have HO2 := hide (show Res 2 w.heap.size w2 (some ⟨g2, 0, none⟩) (alC f s) from .inr ⟨g2, rfl, Nat.le_trans HB1.out.size hg2, hobj⟩)
    clear hb2 hobj k0 k1
    go_wp2_with fail
    go_ret2
    exact ⟨_, _, rfl, HB2.out, HO2.out⟩
  · skip
    obtain rfl : kz = 0 := by simpa using hk.symm
    have HG := hide hg
    clear hg hz
    go_enter Try.func16, Try.ntmps16
    go_wp2_with fail
    refine (nd7I _ _ _ f _ _ _ s false _ (HZ.out.later HB0.out) (by simp [HG.out])).mono ?_
    rintro e w1 ⟨rfl, hb1⟩
    have HB1 := hide (HB0.out.trans (hb1.mono HB0.out.size))
    clear hb1
    go_wp2_with fail
    go_ret2
    exact ⟨_, _, rfl, HB1.out, .inl ⟨rfl, rfl⟩⟩
theorem tw8I (A : Option Addr) (n c : Nat) (f : List (List Int)) (B : Option Addr) (m d : Nat) (s : List (List Int)) (v : Bool) (code : Int) (w : World) (hz : ZArg 1048576 w A n f B m s) (hr : TwRes8 f s v code) :
    Calls Try.prog 36 #[.agg #[.slice A n c, .slice B m d]] w fun e w' => e = .returned (.tuple #[.bool v, .int .i64 code]) ∧ Below w.heap.size w w' := by
  have HZ := hide hz
  have HB0 := hide ((Below.refl _ w).alloc (Nat.le_refl _) (Obj.cells #[Value.slice A n c, Value.slice B m d] 29))
  have HK0 := hide (Blk.new w 29 [.slice A n c, .slice B m d])
  rcases hr with ⟨hg, hv, rfl⟩ | ⟨hg, rfl, rfl⟩
  · obtain rfl := hz.same hg.map
    have h1 := (hg.sizes hz.sz.fl).1
    have h12 := (hg.sizes hz.sz.fl).2.1
    have HG := hide hg
    have HV := hide hv
    clear hv
    clear hg hz
    go_enter Try.func36, Try.ntmps36
    go_wp2_with fail
    refine (nd7I _ _ _ f _ _ _ s true _ (HZ.out.later HB0.out) (by simp [HG.out])).mono ?_
    rintro e w1 ⟨rfl, hb1⟩
    have HB1 := hide (HB0.out.trans (hb1.mono HB0.out.size))
    have HK1 := hide (HK0.out.later hb1)
    have k0 := HK1.out.cell 0 _ rfl
    have k1 := HK1.out.cell 1 _ rfl
    clear hb1
    have hmx := alC_max (s := s) HZ.out.sz.fl h1
    obtain ⟨q, hq⟩ : ∃ q, alN f s = q := ⟨_, rfl⟩
    rw [hq] at hmx
    obtain ⟨u, hu⟩ : ∃ u, (q : Int) - 1 = u := ⟨_, rfl⟩
    rw [hu] at hmx
    have hv2 : v = true ↔ u = 0 := by rw [HV.out, hq]; omega
    have HV2 := hide hv2
    have HMX := hide hmx
    clear hmx hq hu hv2
    go_wp2_with fail
    refine (alikeI_any _ _ _ f _ _ s _ (HZ.out.later HB1.out) HG.out).mono ?_
    rintro e w2 ⟨g2, c2, rfl, hb2, hg2, how⟩
    have HB2 := hide (HB1.out.trans (hb2.mono HB1.out.size))
    have HOW := hide how
    clear hb2 how k0 k1
    go_wp2_with fail
    refine (max_any _ m _ (alC f s) u _ (by rw [alC_length]; exact HZ.out.sz.fl) h1 (by omega) HOW.out.rd HMX.out).mono ?_
    rintro e w3 ⟨rfl, hb3⟩
    have HB3 := hide (HB2.out.trans (hb3.mono HB2.out.size))
    clear hb3
    by_cases h0 : u = 0
    · have hrt : v = true := HV2.out.2 h0
      subst hrt
      subst h0
      go_wp2_with fail
      go_ret2
      exact ⟨rfl, HB3.out⟩
    · have hrt : v = false := by
        cases v
        · rfl
        · exact absurd (HV2.out.1 rfl) h0
      subst hrt
      have hbeq : (u == 0) = false := by simpa using h0
      go_wp2_with fail
      go_ret2
      exact ⟨by simp, HB3.out⟩
  · skip
    have HG := hide hg
    clear hg hz
    go_enter Try.func36, Try.ntmps36
    go_wp2_with fail
    refine (nd7I _ _ _ f _ _ _ s false _ (HZ.out.later HB0.out) (by simp [HG.out])).mono ?_
    rintro e w1 ⟨rfl, hb1⟩
    have HB1 := hide (HB0.out.trans (hb1.mono HB0.out.size))
    clear hb1
    go_wp2_with fail
    go_ret2
    exact ⟨rfl, HB1.out⟩
end Go.Proofs.Ytgmloaemnbnbgaa
namespace Go.Proofs.Ytgmloaemnbnbgaa
open Go Go.RowKit
set_option maxHeartbeats 2000000
theorem alwS (A : Option Addr) (n c : Nat) (f : List (List Int)) (B : Option Addr) (m d : Nat) (s : List (List Int)) (zs : List Int) (code : Int) (kz : Nat) (w : World) (hz : ZArg 1048576 w A n f B m s) (hr : AlRes f s zs code) (hk : zs.length = kz) :
    Calls Try.prog 14 #[.agg #[.slice A n c, .slice B m d]] w (RPost 2 kz zs code w) := by
  have HZ := hide hz
  have HB0 := hide ((Below.refl _ w).alloc (Nat.le_refl _) (Obj.cells #[Value.slice A n c, Value.slice B m d] 29))
  have HK0 := hide (Blk.new w 29 [.slice A n c, .slice B m d])
  rcases hr with ⟨hg, hzs, rfl⟩ | ⟨hg, rfl, rfl⟩
  · obtain rfl := hz.same hg.map
    have h1 := (hg.sizes hz.sz.fl).1
    have h12 := (hg.sizes hz.sz.fl).2.1
    have HG := hide hg
    obtain rfl : m = kz := by rw [← hk, hzs, alC_length]; exact hz.sz.fl.symm
    have hzs := hzs.symm
    subst hzs
    clear hk
    clear hg hz
    go_enter Try.func14, Try.ntmps14
    go_wp2_with fail
    refine (nd7S _ _ _ f _ _ _ s true _ (HZ.out.later HB0.out) (by simp [HG.out])).mono ?_
    rintro e w1 ⟨rfl, hb1⟩
    have HB1 := hide (HB0.out.trans (hb1.mono HB0.out.size))
    have HK1 := hide (HK0.out.later hb1)
    have k0 := HK1.out.cell 0 _ rfl
    have k1 := HK1.out.cell 1 _ rfl
    clear hb1
    go_wp2_with fail
    refine (alikeS_any _ _ _ f _ _ s _ (HZ.out.later HB1.out) HG.out).mono ?_
    rintro e w2 ⟨A2, c2, rfl, hb2, hobj⟩
    have HB2 := hide (HB1.out.trans (hb2.mono HB1.out.size))
    have HO2 := hide (hobj.mono HB1.out.size)
    clear hb2 hobj k0 k1
    go_wp2_with fail
    go_ret2
    exact ⟨_, _, rfl, HB2.out, HO2.out⟩
  · skip
    obtain rfl : kz = 0 := by simpa using hk.symm
    have HG := hide hg
    clear hg hz
    go_enter Try.func14, Try.ntmps14
    go_wp2_with fail
    refine (nd7S _ _ _ f _ _ _ s false _ (HZ.out.later HB0.out) (by simp [HG.out])).mono ?_
    rintro e w1 ⟨rfl, hb1⟩
    have HB1 := hide (HB0.out.trans (hb1.mono HB0.out.size))
    clear hb1
    go_wp2_with fail
    go_ret2
    exact ⟨_, _, rfl, HB1.out, .inl ⟨rfl, rfl⟩⟩
theorem tw8S (A : Option Addr) (n c : Nat) (f : List (List Int)) (B : Option Addr) (m d : Nat) (s : List (List Int)) (v : Bool) (code : Int) (w : World) (hz : ZArg 1048576 w A n f B m s) (hr : TwRes8 f s v code) :
    Calls Try.prog 35 #[.agg #[.slice A n c, .slice B m d]] w fun e w' => e = .returned (.tuple #[.bool v, .int .i64 code]) ∧ Below w.heap.size w w' := by
  have HZ := hide hz
  have HB0 := hide ((Below.refl _ w).alloc (Nat.le_refl _) (Obj.cells #[Value.slice A n c, Value.slice B m d] 29))
  have HK0 := hide (Blk.new w 29 [.slice A n c, .slice B m d])
  rcases hr with ⟨hg, hv, rfl⟩ | ⟨hg, rfl, rfl⟩
  · obtain rfl := hz.same hg.map
    have h1 := (hg.sizes hz.sz.fl).1
    have h12 := (hg.sizes hz.sz.fl).2.1
    have HG := hide hg
    have HV := hide hv
    clear hv
    clear hg hz
    go_enter Try.func35, Try.ntmps35
    go_wp2_with fail
    refine (nd7S _ _ _ f _ _ _ s true _ (HZ.out.later HB0.out) (by simp [HG.out])).mono ?_
    rintro e w1 ⟨rfl, hb1⟩
    have HB1 := hide (HB0.out.trans (hb1.mono HB0.out.size))
    have HK1 := hide (HK0.out.later hb1)
    have k0 := HK1.out.cell 0 _ rfl
    have k1 := HK1.out.cell 1 _ rfl
    clear hb1
    go_wp2_with fail
    refine (alikeS_any _ _ _ f _ _ s _ (HZ.out.later HB1.out) HG.out).mono ?_
    rintro e w2 ⟨A2, c2, rfl, hb2, hobj⟩
    have HB2 := hide (HB1.out.trans (hb2.mono HB1.out.size))
    have HO2 := hide hobj
    clear hb2 hobj k0 k1
    go_wp2_with fail
    refine (greatest_any _ _ _ (alC f s) (alN f s : Int) _ (by rw [alC_length]; exact HZ.out.sz.fl) (by omega) HO2.out.rd (alC_12 HZ.out.sz.fl h1 h12) (alC_great HZ.out.sz.fl h1)).mono ?_
    rintro e w3 ⟨rfl, hq3⟩
    have HB3 := hide (HB2.out.trans (hq3.below _))
    obtain ⟨q, hq⟩ : ∃ q, alN f s = q := ⟨_, rfl⟩
    rw [hq]
    have hv2 : v = true ↔ q = 1 := by rw [← hq]; exact HV.out
    have HV2 := hide hv2
    clear hq3 hq hv2
    by_cases h0 : q = 1
    · have hrt : v = true := HV2.out.2 h0
      subst hrt
      subst h0
      go_wp2_with fail
      go_ret2
      exact ⟨rfl, HB3.out⟩
    · have hrt : v = false := by
        cases v
        · rfl
        · exact absurd (HV2.out.1 rfl) h0
      subst hrt
      have hbeq : ((q : Int) == 1) = false := by simpa using (by omega : ¬ (q : Int) = 1)
      go_wp2_with fail
      go_ret2
      exact ⟨by simp, HB3.out⟩
  · skip
    have HG := hide hg
    clear hg hz
    go_enter Try.func35, Try.ntmps35
    go_wp2_with fail
    refine (nd7S _ _ _ f _ _ _ s false _ (HZ.out.later HB0.out) (by simp [HG.out])).mono ?_
    rintro e w1 ⟨rfl, hb1⟩
    have HB1 := hide (HB0.out.trans (hb1.mono HB0.out.size))
    clear hb1
    go_wp2_with fail
    go_ret2
    exact ⟨rfl, HB1.out⟩
end Go.Proofs.Ytgmloaemnbnbgaa
