import Derived.Test.YtaejgmdeiemhcaaZca
import Derived.Test.YtaejgmdeiemhcaaZbc
import Derived.Test.YtaejgmdeiemhcaaZar
import Derived.Test.YtaejgmdeiemhcaaZs
import Derived.Test.YtaejgmdeiemhcaaZak
import Derived.Test.YtaejgmdeiemhcaaZbv
import Derived.Deep.Cut
import Derived.Deep.RegionHeld3
import Derived.Deep.AppendLies
namespace Go.Proofs.Ytaejgmdeiemhcaa
open Go Go.RowKit
set_option maxHeartbeats 2000000
theorem osoInfoS : (Try.prog.info? 28).map (fun i => (i.zero, i.size, i.bytes)) = some (some (.agg #[.slice none 0 0, .slice none 0 0]), 2, 48) := by kernel_rfl
theorem meO_any (A : Option Addr) (n c : Nat) (f s : List (List Int)) (k : Nat) (E : List Int) (le : Nat) (w : World) (hn : f.length = n) (hol : (orbS f s).length = n) (hb : n ≤ 4096) (hE : orbE f s k = E) (hle : E.length = le) (hr : Rd w A (orbS f s)) :
    Calls Try.prog 75 #[.slice A n c, .int .i64 (k : Int)] w fun e w' => ∃ A' c', e = .returned (.slice A' le c') ∧ Below w.heap.size w w' ∧ Res 2 w.heap.size w' A' E := by
  subst hn
  subst hE
  subst hle
  exact members_any A f.length c (orbS f s) (k : Int) w hol hb hr
theorem suO_any (A : Option Addr) (n c : Nat) (f : List (List Int)) (B : Option Addr) (d : Nat) (s : List (List Int)) (C : Option Addr) (le e : Nat) (E : List Int) (zf zg : List (List Int)) (kf kg : Nat) (w : World) (hz : ZArg 1048576 w A n f B n s) (hp : PMap f s) (hk : E.length = le) (hi : IncSet n E) (hcl : ClF f s E) (hs : Rd w C E) (hgf : grid le (sb1 f E) = zf) (hgg : grid le (sb1 s E) = zg) (hkf : zf.length = kf) (hkg : zg.length = kg) :
    Calls Try.prog 77 #[.agg #[.slice A n c, .slice B n d], .slice C le e] w fun e w' => ∃ A' c' B' d', e = .returned (.agg #[.slice A' kf c', .slice B' kg d']) ∧ Below w.heap.size w w' ∧ ∃ lo hi, ObjW 37 2 lo hi w' A' zf B' zg := by
  have e1 : kf = le := by rw [← hkf, ← hgf, grid_length]
  have e2 : kg = le := by rw [← hkg, ← hgg, grid_length]
  subst e1 e2 hgf hgg
  exact (subS_any A n c f B n d s C _ e E w hz hp hk hi hcl hs).mono fun _ _ ⟨A', c', B', d', h1, h2, h3⟩ => ⟨A', c', B', d', h1, h2, _, _, h3⟩
set_option maxRecDepth 100000 in
theorem osoS (A : Option Addr) (n c : Nat) (f : List (List Int)) (B : Option Addr) (m d : Nat) (s : List (List Int)) (zs : List SolV) (code : Int) (kz : Nat) (w : World) (hz : ZArg 1048576 w A n f B m s) (hr : OsoRes f s zs code) (hk : zs.length = kz) :
    Calls Try.prog 47 #[.agg #[.slice A n c, .slice B m d]] w fun e w' => ∃ A c, e = .returned (.tuple #[.slice A kz c, .int .i64 code]) ∧ Below w.heap.size w w' ∧ RdQ w' A zs := by
  have HZ := hide hz
  have HB0 := hide ((Below.refl _ w).alloc (Nat.le_refl _) (Obj.cells #[Value.slice A n c, Value.slice B m d] 28))
  have HK0 := hide (Blk.new w 28 [.slice A n c, .slice B m d])
  rcases hr with ⟨hg, rfl, rfl⟩ | ⟨hg, rfl, rfl⟩
  · obtain rfl := hz.same hg.map
    have h1 := (hg.sizes hz.sz.fl).1
    have h12 := (hg.sizes hz.sz.fl).2.1
    have HG := hide hg
    rw [osL_length] at hk
    subst hk
    clear hg hz
    go_enter Try.func47, Try.ntmps47
    go_wp2_with fail
    refine (nd7S _ _ _ f _ _ _ s true _ (HZ.out.later HB0.out) (by simp [HG.out])).mono ?_
    rintro e w1 ⟨rfl, hb1⟩
    have HB1 := hide (HB0.out.trans (hb1.mono HB0.out.size))
    have HK1 := hide (HK0.out.later hb1)
    have k0 := HK1.out.cell 0 _ rfl
    have k1 := HK1.out.cell 1 _ rfl
    clear hb1
    have hfn := HZ.out.sz.fl
    have hol := orbS_length f s
    rw [hfn] at hol
    have HOL := hide hol
    have HFN := hide hfn
    have hpos := orb_pos HG.out
    have hq12 : orbN f s ≤ 12 := by have := @orb_le f s; omega
    have hts : (37 : TypeId) ≠ 28 := by decide
    have htt : (2 : TypeId) ≠ 28 := by decide
    clear hfn hol
    go_wp2_with fail
    refine (orbS_any _ _ _ f _ _ s _ (HZ.out.later HB1.out) HG.out).mono ?_
    rintro e w2 ⟨A4, c4, rfl, hb2, hres⟩
    have HB2 := hide (HB1.out.trans (hb2.mono HB1.out.size))
    have HK2 := hide (HK1.out.later hb2)
    obtain ⟨gl, hA4, ho2⟩ : ∃ g, A4 = some ⟨g, 0, none⟩ ∧ OwnB 2 w2 g (orbS f s) := by
      rcases hres with ⟨_, h0⟩ | ⟨g, e1, _, e3⟩
      · have h3 := HOL.out
        rw [h0] at h3
        simp at h3
        omega
      · exact ⟨g, e1, e3⟩
    subst hA4
    have HL2 := hide ho2
    clear hb2 hres ho2 k0 k1
    obtain ⟨i0, hinf, hz0, hz1, hz2⟩ := info_parts osoInfoS
    go_upto_region 4 with fail
    refine wp_gen fun w3 hw3 => ?_
    obtain ⟨g, hg⟩ : ∃ g, w2.heap.size = g := ⟨_, rfl⟩
    have hb3 : Below w2.heap.size w2 w3 := by rw [hw3]; exact (Below.refl _ _).alloc (Nat.le_refl _) _
    have HB3 := hide (HB2.out.trans (hb3.mono HB2.out.size))
    have HK3 := hide (HK2.out.later hb3)
    have HL3 := hide (HL2.out.later hb3 HL2.out.lt)
    have HQ3 : Hid (QL 37 2 28 (w.heap.size + 1) w3 (.slice (some ⟨g, 0, none⟩) 0 0) 0 (osZ f s) []) := hide (.nil _ _ _ (by rw [hw3, ← hg]; exact heap_alloc_new _ _) (by rw [← hg]; exact HK2.out.lt))
    try rw [hg]
    clear hw3 hb3 hg HB2 HK2 HL2
    obtain ⟨q, hq⟩ : ∃ q, orbN f s = q := ⟨_, rfl⟩
    have HQ := hide hq
    rw [hq] at hpos hq12
    clear hq
    go_wp2_with fail
    go_loopw [5, 6] (fun v i wr => ∃ (k : Nat) (vs : List Value), k ≤ q ∧ i = .int .i64 (k : Int) ∧ Below w.heap.size w wr ∧ Blk wr w.heap.size 28 [.slice A m c, .slice B m d] ∧ OwnB 2 wr gl (orbS f s) ∧ QL 37 2 28 (w.heap.size + 1) wr v k (osZ f s) vs) (fun _ i _ => q - (intOf i).toNat)
    case atStart => exact ⟨0, [], Nat.zero_le _, rfl, HB3.out, HK3.out, HL3.out, HQ3.out⟩
    case round =>
      clear HB3 HK3 HL3 HQ3
      obtain ⟨k, vs, hk, rfl, hbe, hkk, hl, hql⟩ := hrel
      have HB := hide hbe
      have HK := hide hkk
      have HL := hide hl
      have HQL := hide hql
      clear hbe hkk hl hql
      go_wp2_with fail
      refine (greatest_any _ _ _ (orbS f s) (q : Int) _ HOL.out (by omega) HL.out.rd (orb_12 HG.out HFN.out) (by rw [← HQ.out]; exact orb_great HG.out HFN.out)).mono ?_
      rintro e w5 ⟨rfl, hq5⟩
      have HBc := hide (HB.out.trans (hq5.below _))
      have HKc := hide (HK.out.later (hq5.below _))
      have HLc := hide (HL.out.later (hq5.below wr.heap.size) HL.out.lt)
      have HQc := hide (HQL.out.later (hq5.below _))
      clear hq5 HB HK HL HQL
      by_cases hlt : k < q
      · have hltz : (k : Int) < q := by omega
        have hoN : k < orbN f s := by rw [HQ.out]; exact hlt
        have hin := orbE_set HG.out hoN
        rw [HFN.out] at hin
        have hcl := orbE_closed HG.out k
        have hel := orbE_le f s k
        rw [HFN.out] at hel
        have hgf : grid (orbE f s k).length (sb1 f (orbE f s k)) = (osZ f s k).1 := rfl
        have hgg : grid (orbE f s k).length (sb1 s (orbE f s k)) = (osZ f s k).2 := rfl
        obtain ⟨E, hE⟩ : ∃ E, orbE f s k = E := ⟨_, rfl⟩
        obtain ⟨zf, hzf⟩ : ∃ z, (osZ f s k).1 = z := ⟨_, rfl⟩
        obtain ⟨zg, hzg⟩ : ∃ z, (osZ f s k).2 = z := ⟨_, rfl⟩
        rw [hE, hzf] at hgf
        rw [hE, hzg] at hgg
        rw [hE] at hel hin hcl
        obtain ⟨le, hle⟩ : ∃ l, E.length = l := ⟨_, rfl⟩
        obtain ⟨kf, hkf⟩ : ∃ l, zf.length = l := ⟨_, rfl⟩
        obtain ⟨kg, hkg⟩ : ∃ l, zg.length = l := ⟨_, rfl⟩
        rw [hle] at hel hgf hgg
        have HIN := hide hin
        have HCL := hide hcl
        have HGF := hide hgf
        have HGG := hide hgg
        have HEE := hide hE
        have HLE := hide hle
        have HZF := hide hzf
        have HZG := hide hzg
        have HKF := hide hkf
        have HKG := hide hkg
        clear hin hcl hgf hgg hE hzf hzg hle hkf hkg hoN
        obtain ⟨v0, hv0⟩ : ∃ v, u5 = v := ⟨_, rfl⟩
        rw [hv0] at HQc ⊢
        clear hv0
        have k0 := HKc.out.cell 0 _ rfl
        have k1 := HKc.out.cell 1 _ rfl
        go_upto_region 7 with fail
        go_region_held3 (fun w' => w'.cell? ⟨w.heap.size, 0, none⟩ = some (.slice A m c) ∧ w'.cell? ⟨w.heap.size, 1, none⟩ = some (.slice B m d)) (first | exact ⟨k0, k1⟩ | go_keep) (first | (go_at_call 75; go_must (refine calls_gen fun wc hwc => ?_; (first | have hbx := drew_below hwc | have hbx := eq_below hwc); replace HBc := hide (HBc.out.trans (hbx.mono HBc.out.size)); replace HKc := hide (HKc.out.later hbx); replace HLc := hide (HLc.out.later hbx HLc.out.lt); replace HQc := hide (HQc.out.later hbx); clear hwc hbx; refine (meO_any _ m _ f s k E le _ HFN.out HOL.out (by omega) HEE.out HLE.out HLc.out.rd).mono ?_; rintro e wd ⟨A2, c2, rfl, hbd, hres⟩; replace HBc := hide (HBc.out.trans (hbd.mono HBc.out.size)); replace HKc := hide (HKc.out.later hbd); replace HLc := hide (HLc.out.later hbd HLc.out.lt); replace HQc := hide (HQc.out.later hbd); have HE := hide hres.rd; clear hbd hres; have k0 := HKc.out.cell 0 _ rfl; have k1 := HKc.out.cell 1 _ rfl)) | (go_at_call 77; go_must (refine calls_gen fun wc hwc => ?_; (first | have hbx := drew_below hwc | have hbx := eq_below hwc); replace HBc := hide (HBc.out.trans (hbx.mono HBc.out.size)); replace HKc := hide (HKc.out.later hbx); replace HLc := hide (HLc.out.later hbx HLc.out.lt); replace HQc := hide (HQc.out.later hbx); replace HE := hide (HE.out.later hbx); clear hwc hbx; refine (suO_any _ m _ f _ _ s _ le _ E zf zg kf kg _ (HZ.out.later HBc.out) HG.out.map HLE.out HIN.out HCL.out HE.out HGF.out HGG.out HKF.out HKG.out).mono ?_; rintro e wd ⟨A3, c3, B3, d3, rfl, hbd, lo3, hi3, hob⟩; replace HBc := hide (HBc.out.trans (hbd.mono HBc.out.size)); replace HKc := hide (HKc.out.later hbd); replace HLc := hide (HLc.out.later hbd HLc.out.lt); replace HQc := hide (HQc.out.later hbd); have HOB := hide hob; clear hbd hob; have k0 := HKc.out.cell 0 _ rfl; have k1 := HKc.out.cell 1 _ rfl)) | (refine step_append_lies _ (by rfl) _ _ _ (by rfl) (w.heap.size + 1) 28 i0 _ 2 48 Try.underlying46 hinf hz0 hz1 hz2 rfl (by omega) v0 k vs (by rfl) (ownsRow_belowQ HQc.out.own ((Below.refl _ _).alloc (Nat.le_refl _) _)) ⟨wd.heap.size, 0, none⟩ 1 1 [.slice A3 kf c3, .slice B3 kg d3] (by rfl) (by rfl) twoS_new twoS_one (by omega) (by unfold maxLen; omega) (by omega) (by have := HKc.out.lt; simp; omega) (wd.heap.size + 1) (by simp) ?_; go_must (intro gg cap w9 hown hgrow _ _; have h9 := HQc.out.app (w0 := w) (cA := c3) (cB := d3) hts htt (by rw [HZF.out, HZG.out]; exact HOB.out) (by first | exact (Below.refl _ _).alloc (Nat.le_refl _) _ | exact ((Below.refl _ _).alloc (Nat.le_refl _) _).drew | exact (Below.refl _ _).drew.alloc (Nat.le_refl _) _) hgrow (by rw [HZF.out, HZG.out, HKF.out, HKG.out]; exact hown) HBc.out HKc.out HLc.out; rw [HZF.out, HZG.out, HKF.out, HKG.out] at h9; have H9 := hide h9; clear h9 hown hgrow; have k0 := H9.out.2.1.cell 0 _ rfl; have k1 := H9.out.2.1.cell 1 _ rfl)))
        all_goals (
          clear k0 k1
          go_wp2_with fail
          go_roundw
          case rel => exact ⟨k + 1, _, by omega, by go_num, H9.out.1, H9.out.2.1, H9.out.2.2.1, H9.out.2.2.2⟩
          case measure => simp [intOf]; omega)
      · have hkq : k = q := by omega
        subst hkq
        obtain ⟨Av, cv, hv⟩ : ∃ A c, u5 = Value.slice A k c := by
          rcases HQc.out.own.2 with ⟨h2, h3⟩ | ⟨g2, cap, c2, h2, _⟩
          · exact ⟨none, 0, by rw [h2, h3]⟩
          · exact ⟨_, _, h2⟩
        rw [hv] at HQc ⊢
        go_wp2_with fail
        go_ret2
        rw [HQ.out]
        exact ⟨_, _, rfl, HBc.out, HQc.out.rd⟩
  · skip
    have hk2 : kz = 0 := by rw [← hk]; rfl
    subst hk2
    clear hk
    have HG := hide hg
    clear hg hz
    go_enter Try.func47, Try.ntmps47
    go_wp2_with fail
    refine (nd7S _ _ _ f _ _ _ s false _ (HZ.out.later HB0.out) (by simp [HG.out])).mono ?_
    rintro e w1 ⟨rfl, hb1⟩
    have HB1 := hide (HB0.out.trans (hb1.mono HB0.out.size))
    clear hb1
    go_wp2_with fail
    go_ret2
    exact ⟨_, _, rfl, HB1.out, fun h => absurd h (Nat.not_lt_zero _)⟩

end Go.Proofs.Ytaejgmdeiemhcaa
