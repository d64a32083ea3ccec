import Derived.Test.YtgmloaemnbnbgaaZv
import Derived.Test.YtgmloaemnbnbgaaZbd
import Derived.Test.YtgmloaemnbnbgaaZaz
import Derived.Test.YtgmloaemnbnbgaaZw
import Derived.Test.YtgmloaemnbnbgaaZx
import Derived.Test.YtgmloaemnbnbgaaZt
import Derived.Test.YtgmloaemnbnbgaaZd
import Derived.Test.YtgmloaemnbnbgaaZi
import Derived.Deep.RegionHeld3
import Derived.BigQuiet
import Derived.Deep.RegionWith
namespace Go.Proofs.Ytgmloaemnbnbgaa
open Go Go.RowKit
set_option maxHeartbeats 2000000
theorem siz_fst (f s : List (List Int)) (k : Nat) : siz f s k = (ser f s k).1.length := rfl
attribute [local irreducible] serK siz lstTo
theorem LvRes.two' {f s : List (List Int)} {v code : Int} (h : LvRes f s v code) : (NdS f s ∧ ((siz f s (serK f s) = 1 ∧ v = (serK f s : Int) ∧ code = 0) ∨ (¬ siz f s (serK f s) = 1 ∧ v = 0 ∧ code = 4))) ∨ (¬ NdS f s ∧ v = 0 ∧ code = 1) := by
  rcases h with ⟨a, b, c, d⟩ | ⟨a, b, c, d⟩ | ⟨a, b, c⟩
  · exact .inl ⟨a, .inl ⟨b, c, d⟩⟩
  · exact .inl ⟨a, .inr ⟨b, c, d⟩⟩
  · exact .inr ⟨a, b, c⟩
theorem szwS (A : Option Addr) (n c : Nat) (f : List (List Int)) (B : Option Addr) (m d : Nat) (s : List (List Int)) (zs : List Int) (code : Int) (kz : Nat) (w : World) (hz : ZArg 1048576 w A n f B m s) (hr : SzRes f s zs code) (hk : zs.length = kz) :
    Calls Try.prog 25 #[.agg #[.slice A n c, .slice B m d]] w (RPost 2 kz zs code w) := by
  have HZ := hide hz
  have HB0 := hide ((Below.refl _ w).alloc (Nat.le_refl _) (Obj.cells #[Value.slice A n c, Value.slice B m d] 29))
  have HK0 := hide (Blk.new w 29 [.slice A n c, .slice B m d])
  rcases hr with ⟨hg, hzs, rfl⟩ | ⟨hg, rfl, rfl⟩
  · obtain rfl := hz.same hg.map
    have h1 := (hg.sizes hz.sz.fl).1
    have h12 := (hg.sizes hz.sz.fl).2.1
    have HG := hide hg
    have HZS := hide hzs
    have HKZ := hide hk
    clear hzs hk
    have hK := serK_lt HG.out
    have HKS : Hid (∃ K, serK f s = K) := hide ⟨_, rfl⟩
    obtain ⟨K, hKe⟩ := HKS.out
    rw [hKe] at hK
    have HKE := hide hKe
    clear hKe HKS
    have HZK : Hid (zs = szL f s (K + 1)) := hide (by rw [HZS.out, HKE.out])
    obtain rfl : kz = K + 1 := by rw [← HKZ.out, HZK.out, szL_length]
    clear HZS HKZ
    clear hg hz
    go_enter Try.func25, Try.ntmps25
    go_wp2_with fail
    refine (nd7S _ _ _ f _ _ _ s true _ (HZ.out.later HB0.out) (by simp [HG.out])).mono ?_
    rintro e w1 ⟨rfl, hb1⟩
    have HB1 := hide (HB0.out.trans (hb1.mono HB0.out.size))
    have HK1 := hide (HK0.out.later hb1)
    have k0 := HK1.out.cell 0 _ rfl
    have k1 := HK1.out.cell 1 _ rfl
    clear hb1
    obtain ⟨i0, hi, hz0, hz1, hz2⟩ := info_parts clInfo
    have hcon := serS_any A m c f B d s w1 (HZ.out.later HB1.out) HG.out
    rw [HKE.out] at hcon
    go_wp2_with fail
    refine hcon.mono ?_
    rintro e w2 ⟨A2, c2, vs, rfl, hb2, hql⟩
    obtain ⟨g, c3, hv, hg1, hg2, hcell⟩ := hql.base (by omega)
    injection hv with hv _ _
    subst hv
    have HB2 := hide (HB1.out.trans (hb2.mono HB1.out.size))
    have HCE : Hid (∀ i, i < K + 1 → ∃ Ai ci Bi di, w2.cell? ⟨g, i * 2, none⟩ = some (.slice Ai (siz f s i) ci) ∧ w2.cell? ⟨g, i * 2 + 1, none⟩ = some (.slice Bi (siz f s i) di)) := hide fun i hi => by
      obtain ⟨Ai, ci, Bi, di, q1, q2, _⟩ := hcell i hi
      exact ⟨Ai, ci, Bi, di, by rw [siz_fst]; exact q1, by rw [← siz_snd HG.out i]; exact q2⟩
    clear hb2 hql hcell k0 k1 hcon
    go_wp2_with fail
    go_loopw [5, 6] (fun v i wr => ∃ k : Nat, k ≤ K + 1 ∧ i = .int .i64 k ∧ Below w2.heap.size w2 wr ∧ wr.ownsRow w2.heap.size 2 1 v k (ints (szL f s k))) (fun _ i _ => K + 1 - (intOf i).toNat)
    case atStart => exact ⟨0, Nat.zero_le _, rfl, (Below.refl _ _).alloc (Nat.le_refl _) _, by simpa [ints, szL] using ne_empty w2 _⟩
    case round =>
      obtain ⟨k, hk, rfl, hbi, hoi⟩ := hrel
      have HBI := hide hbi
      have HOI := hide hoi
      clear hbi hoi
      by_cases hlt : k < K + 1
      · have hlz : (k : Int) < (K : Int) + 1 := by omega
        obtain ⟨Ai, ci, Bi, di, q1, q2⟩ := HCE.out k hlt
        have e1 := (HBI.out.cell (p := ⟨g, k * 2, none⟩) hg2).trans q1
        have e2 := (HBI.out.cell (p := ⟨g, k * 2 + 1, none⟩) hg2).trans q2
        have h12k := siz_12 HG.out k
        have HSC := hide (szL_succ f s k)
        obtain ⟨u, hu⟩ : ∃ u, siz f s k = u := ⟨_, rfl⟩
        rw [hu] at e1 e2 h12k HSC
        clear q1 q2 hu
        go_wp2_with (at_builtin; refine wpList_append_own _ rfl _ _ 26 rfl w2.heap.size 2 i0 (.int .i64 0) 1 8 Try.underlying26 hi hz0 hz1 hz2 rfl (by decide) _ _ _ rfl (HOI.out.alloc _) ⟨wr.heap.size, 0, none⟩ 1 1 [.int .i64 ((u : Int))] rfl rfl ?c1 ?c2 ?c3 ?c4 ?c5 ?_)
        case c1 => exact ne_new
        case c2 => intro u hu; simp at hu; subst hu; rfl
        case c3 => unfold maxLen; omega
        case c4 => omega
        case c5 => have := HBI.out.size; simp; omega
        intro v' w3 hown' hgrow _
        have HO3 := hide hown'
        have HB3 : Hid (Below w2.heap.size w2 w3) := hide ((HBI.out.alloc HBI.out.size _).grown hgrow (by have := HBI.out.size; simp; omega) (fun g hg => ((HOI.out.alloc (.cells #[.int .i64 ((u : Int))] 2)).lt g hg).1))
        clear hown' hgrow
        go_wp2_with fail
        go_roundw
        case rel => exact ⟨k + 1, by omega, by go_num, HB3.out, by have h := HO3.out; rw [HSC.out]; simpa [ints] using h⟩
        case measure => simp [intOf]; omega
      · have hyn : k = K + 1 := by omega
        subst hyn
        obtain ⟨A4, c4, hv4, hres4⟩ := own_shape HOI.out
        subst hv4
        have HRO := hide (hres4.mono HB2.out.size)
        have HB4 := hide (HB2.out.trans (HBI.out.mono HB2.out.size))
        go_wp2_with fail
        go_ret2
        exact ⟨_, _, rfl, HB4.out, by rw [HZK.out]; exact HRO.out⟩
  · skip
    obtain rfl : kz = 0 := by simpa using hk.symm
    have HG := hide hg
    clear hg hz
    go_enter Try.func25, Try.ntmps25
    go_wp2_with fail
    refine (nd7S _ _ _ f _ _ _ s false _ (HZ.out.later HB0.out) (by simp [HG.out])).mono ?_
    rintro e w1 ⟨rfl, hb1⟩
    have HB1 := hide (HB0.out.trans (hb1.mono HB0.out.size))
    clear hb1
    go_wp2_with fail
    go_ret2
    exact ⟨_, _, rfl, HB1.out, .inl ⟨rfl, rfl⟩⟩
theorem lvwS (A : Option Addr) (n c : Nat) (f : List (List Int)) (B : Option Addr) (m d : Nat) (s : List (List Int)) (v : Int) (code : Int) (w : World) (hz : ZArg 1048576 w A n f B m s) (hr : LvRes f s v code) :
    Calls Try.prog 27 #[.agg #[.slice A n c, .slice B m d]] w fun e w' => e = .returned (.tuple #[.int .i64 v, .int .i64 code]) ∧ Below w.heap.size w w' := by
  have HZ := hide hz
  have HB0 := hide ((Below.refl _ w).alloc (Nat.le_refl _) (Obj.cells #[Value.slice A n c, Value.slice B m d] 29))
  have HK0 := hide (Blk.new w 29 [.slice A n c, .slice B m d])
  rcases hr.two' with ⟨hg, hr2⟩ | ⟨hg, rfl, rfl⟩
  · obtain rfl := hz.same hg.map
    have h1 := (hg.sizes hz.sz.fl).1
    have h12 := (hg.sizes hz.sz.fl).2.1
    have HG := hide hg
    have hK := serK_lt HG.out
    have HKS : Hid (∃ K, serK f s = K) := hide ⟨_, rfl⟩
    obtain ⟨K, hKe⟩ := HKS.out
    rw [hKe] at hK
    have HKE := hide hKe
    clear hKe HKS
    have HRR : Hid ((siz f s K = 1 ∧ v = (K : Int) ∧ code = 0) ∨ (¬ siz f s K = 1 ∧ v = 0 ∧ code = 4)) := hide (by rw [← HKE.out]; exact hr2)
    clear hr2
    clear hg hz
    go_enter Try.func27, Try.ntmps27
    go_wp2_with fail
    refine (nd7S _ _ _ f _ _ _ s true _ (HZ.out.later HB0.out) (by simp [HG.out])).mono ?_
    rintro e w1 ⟨rfl, hb1⟩
    have HB1 := hide (HB0.out.trans (hb1.mono HB0.out.size))
    have HK1 := hide (HK0.out.later hb1)
    have k0 := HK1.out.cell 0 _ rfl
    have k1 := HK1.out.cell 1 _ rfl
    clear hb1
    have hcon := serS_any A m c f B d s w1 (HZ.out.later HB1.out) HG.out
    rw [HKE.out] at hcon
    go_wp2_with fail
    refine hcon.mono ?_
    rintro e w2 ⟨A2, c2, vs, rfl, hb2, hql⟩
    obtain ⟨g, c3, hv, hg1, hg2, hcell⟩ := hql.base (by omega)
    injection hv with hv _ _
    subst hv
    have HB2 := hide (HB1.out.trans (hb2.mono HB1.out.size))
    have HCE : Hid (∀ i, i < K + 1 → ∃ Ai ci Bi di, w2.cell? ⟨g, i * 2, none⟩ = some (.slice Ai (siz f s i) ci) ∧ w2.cell? ⟨g, i * 2 + 1, none⟩ = some (.slice Bi (siz f s i) di)) := hide fun i hi => by
      obtain ⟨Ai, ci, Bi, di, q1, q2, _⟩ := hcell i hi
      exact ⟨Ai, ci, Bi, di, by rw [siz_fst]; exact q1, by rw [← siz_snd HG.out i]; exact q2⟩
    clear hb2 hql hcell k0 k1 hcon
    have hp := siz_pos HG.out K
    obtain ⟨Ai, ci, Bi, di, q1, q2⟩ := HCE.out K (by omega)
    obtain ⟨u, hu⟩ : ∃ u, siz f s K = u := ⟨_, rfl⟩
    rw [hu] at q1 q2 hp
    have HU := hide hu
    clear hu
    rcases HRR.out with ⟨hs, rfl, rfl⟩ | ⟨hs, rfl, rfl⟩
    · have hu1 : u = 1 := by rw [← HU.out]; exact hs
      subst hu1
      clear hs
      go_wp2_with fail
      go_ret2
      exact ⟨by simp, HB2.out⟩
    · have hu1 : ¬ u = 1 := by rw [← HU.out]; exact hs
      have hu2 : (1 : Int) < (u : Int) := by omega
      clear hs
      go_wp2_with fail
      go_ret2
      exact ⟨by simp, HB2.out⟩
  · skip
    have HG := hide hg
    clear hg hz
    go_enter Try.func27, Try.ntmps27
    go_wp2_with fail
    refine (nd7S _ _ _ f _ _ _ s false _ (HZ.out.later HB0.out) (by simp [HG.out])).mono ?_
    rintro e w1 ⟨rfl, hb1⟩
    have HB1 := hide (HB0.out.trans (hb1.mono HB0.out.size))
    clear hb1
    go_wp2_with fail
    go_ret2
    exact ⟨rfl, HB1.out⟩
theorem irwS (A : Option Addr) (n c : Nat) (f : List (List Int)) (B : Option Addr) (m d : Nat) (s : List (List Int)) (v : Bool) (code : Int) (w : World) (hz : ZArg 1048576 w A n f B m s) (hr : IrRes f s v code) :
    Calls Try.prog 29 #[.agg #[.slice A n c, .slice B m d]] w fun e w' => e = .returned (.tuple #[.bool v, .int .i64 code]) ∧ Below w.heap.size w w' := by
  have HZ := hide hz
  have HB0 := hide ((Below.refl _ w).alloc (Nat.le_refl _) (Obj.cells #[Value.slice A n c, Value.slice B m d] 29))
  have HK0 := hide (Blk.new w 29 [.slice A n c, .slice B m d])
  rcases hr with ⟨hg, hv, rfl⟩ | ⟨hg, rfl, rfl⟩
  · obtain rfl := hz.same hg.map
    have h1 := (hg.sizes hz.sz.fl).1
    have h12 := (hg.sizes hz.sz.fl).2.1
    have HG := hide hg
    have HV := hide hv
    have HFL := hide hz.sz.fl
    clear hv
    clear hg hz
    go_enter Try.func29, Try.ntmps29
    go_wp2_with fail
    refine (nd7S _ _ _ f _ _ _ s true _ (HZ.out.later HB0.out) (by simp [HG.out])).mono ?_
    rintro e w1 ⟨rfl, hb1⟩
    have HB1 := hide (HB0.out.trans (hb1.mono HB0.out.size))
    have HK1 := hide (HK0.out.later hb1)
    have k0 := HK1.out.cell 0 _ rfl
    have k1 := HK1.out.cell 1 _ rfl
    clear hb1
    have hv0 : v = true ↔ 2 ≤ m ∧ alN f s = m := by rw [HV.out, ← HFL.out]; rfl
    have HV0 := hide hv0
    obtain ⟨q, hq⟩ : ∃ q, alN f s = q := ⟨_, rfl⟩
    have hgr := alC_great (s := s) HZ.out.sz.fl h1
    rw [hq] at hgr hv0
    have HGR := hide hgr
    have hq12 := alN_le (s := s) HZ.out.sz.fl
    rw [hq] at hq12
    clear hq hgr
    by_cases hm2 : 2 ≤ m
    · have hm3 : (1 : Int) < (m : Int) := by omega
      have hb : ((q : Int) == (m : Int)) = v := by
        cases v
        · exact beq_eq_false_iff_ne.2 fun e => by have := hv0.2 ⟨hm2, by omega⟩; cases this
        · have := (hv0.1 rfl).2; rw [this]; simp
      clear hv0
      go_upto_region 3 with fail
      go_region_held3 (fun w' => w'.cell? ⟨w.heap.size, 0, none⟩ = some (.slice A m c) ∧ w'.cell? ⟨w.heap.size, 1, none⟩ = some (.slice B m d)) (first | exact ⟨k0, k1⟩ | go_keep) (first
        | (go_at_call 46; go_must (refine calls_gen fun wc hwc => ?_; (first | have hbx := drew_below hwc | have hbx := eq_below hwc); replace HB1 := hide (HB1.out.trans (hbx.mono HB1.out.size)); replace HK1 := hide (HK1.out.later hbx); clear hwc hbx; refine (alikeS_any _ _ _ f _ _ s _ (HZ.out.later HB1.out) HG.out).mono ?_; rintro e wd ⟨A2, c2, rfl, hbd, hobj⟩; have HO2 := hide hobj.rd; replace HB1 := hide (HB1.out.trans (hbd.mono HB1.out.size)); replace HK1 := hide (HK1.out.later hbd); clear hbd hobj; have k0 := HK1.out.cell 0 _ rfl; have k1 := HK1.out.cell 1 _ rfl))
        | (go_at_call 57; go_must (refine calls_gen fun wc hwc => ?_; (first | have hbx := drew_below hwc | have hbx := eq_below hwc); replace HB1 := hide (HB1.out.trans (hbx.mono HB1.out.size)); replace HK1 := hide (HK1.out.later hbx); replace HO2 := hide (HO2.out.later hbx); clear hwc hbx; refine (greatest_any _ _ _ (alC f s) (q : Int) _ (by rw [alC_length]; exact HZ.out.sz.fl) (by omega) HO2.out (alC_12 HZ.out.sz.fl h1 h12) HGR.out).mono ?_; rintro e wd ⟨rfl, hqd⟩; have hbd := hqd.below wc.heap.size; replace HB1 := hide (HB1.out.trans (hbd.mono HB1.out.size)); replace HK1 := hide (HK1.out.later hbd); clear hbd hqd; have k0 := HK1.out.cell 0 _ rfl; have k1 := HK1.out.cell 1 _ rfl)))
      all_goals (go_wp2_with fail; go_ret2; exact ⟨rfl, HB1.out⟩)
    · have hrt : v = false := by
        cases v
        · rfl
        · exact absurd (HV0.out.1 rfl).1 hm2
      subst hrt
      clear hv0
      obtain rfl : m = 1 := by omega
      go_upto_region 3 with fail
      go_region
      go_wp2_with fail
      go_ret2
      exact ⟨rfl, HB1.out.drew⟩
  · skip
    have HG := hide hg
    clear hg hz
    go_enter Try.func29, Try.ntmps29
    go_wp2_with fail
    refine (nd7S _ _ _ f _ _ _ s false _ (HZ.out.later HB0.out) (by simp [HG.out])).mono ?_
    rintro e w1 ⟨rfl, hb1⟩
    have HB1 := hide (HB0.out.trans (hb1.mono HB0.out.size))
    clear hb1
    go_wp2_with fail
    go_ret2
    exact ⟨rfl, HB1.out⟩
end Go.Proofs.Ytgmloaemnbnbgaa
