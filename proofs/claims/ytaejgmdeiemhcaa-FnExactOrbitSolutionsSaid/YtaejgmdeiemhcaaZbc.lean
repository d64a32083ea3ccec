import Derived.Test.YtaejgmdeiemhcaaZba
import Derived.Test.YtaejgmdeiemhcaaZs
import Derived.Test.YtaejgmdeiemhcaaZal
import Derived.Test.YtaejgmdeiemhcaaZh
import Derived.Test.YtaejgmdeiemhcaaZac
import Derived.Deep.Cut
import Derived.Deep.RegionHeld3
import Derived.Test.YtaejgmdeiemhcaaZar
import Derived.Test.YtaejgmdeiemhcaaZi
import Derived.Test.YtaejgmdeiemhcaaZg
import Derived.Test.YtaejgmdeiemhcaaZa
namespace Go.Proofs.Ytaejgmdeiemhcaa
open Go Go.RowKit
set_option maxHeartbeats 2000000
set_option maxRecDepth 100000 in
theorem fixI (A : Option Addr) (n c : Nat) (f : List (List Int)) (B : Option Addr) (m d : Nat) (s : List (List Int)) (zs : List Int) (code : Int) (kz : Nat) (w : World) (hz : ZArg 1048576 w A n f B m s) (hr : FixRes f s zs code) (hk : zs.length = kz) :
    Calls Try.prog 44 #[.agg #[.slice A n c, .slice B m d]] w (RPost 2 kz zs code w) := by
  have HZ := hide hz
  have HB0 := hide ((Below.refl _ w).alloc (Nat.le_refl _) (Obj.cells #[Value.slice A n c, Value.slice B m d] 28))
  have HK0 := hide (Blk.new w 28 [.slice A n c, .slice B m d])
  rcases hr with ⟨hg, hzs, rfl⟩ | ⟨hg, rfl, rfl⟩
  · obtain rfl := hz.same hg.map
    have h1 := (hg.sizes hz.sz.fl).1
    have h12 := (hg.sizes hz.sz.fl).2.1
    have HG := hide hg
    rw [hz.sz.fl] at hzs
    have hk2 := hk.symm
    subst hk2
    have hzs := hzs.symm
    subst hzs
    clear hg hz
    go_enter Try.func44, Try.ntmps44
    go_wp2_with fail
    refine (nd7I _ _ _ f _ _ _ s true _ (HZ.out.later HB0.out) (by simp [HG.out])).mono ?_
    rintro e w1 ⟨rfl, hb1⟩
    have HB1 := hide (HB0.out.trans (hb1.mono HB0.out.size))
    have HK1 := hide (HK0.out.later hb1)
    have k0 := HK1.out.cell 0 _ rfl
    have k1 := HK1.out.cell 1 _ rfl
    clear hb1
    have HBc := HB1
    have HKc := HK1
    clear HB1 HK1
    go_upto_region 3 with fail
    go_region_held3 (fun w' => w'.cell? ⟨w.heap.size, 0, none⟩ = some (.slice A m c) ∧ w'.cell? ⟨w.heap.size, 1, none⟩ = some (.slice B m d)) (first | exact ⟨k0, k1⟩ | go_keep) (first | (go_at_call 62; go_must (refine calls_gen fun wc hwc => ?_; (first | have hbx := drew_below hwc | have hbx := eq_below hwc); replace HBc := hide (HBc.out.trans (hbx.mono HBc.out.size)); replace HKc := hide (HKc.out.later hbx); clear hwc hbx; refine (size_any _ m _ _ _ _ _ HZ.out.sz.nb).mono ?_; rintro e wd ⟨rfl, hbd⟩; replace HBc := hide (HBc.out.trans (hbd.mono HBc.out.size)); replace HKc := hide (HKc.out.later hbd); clear hbd; have k0 := HKc.out.cell 0 _ rfl; have k1 := HKc.out.cell 1 _ rfl; skip)) | (go_at_call 66; go_must (refine calls_gen fun wc hwc => ?_; (first | have hbx := drew_below hwc | have hbx := eq_below hwc); replace HBc := hide (HBc.out.trans (hbx.mono HBc.out.size)); replace HKc := hide (HKc.out.later hbx); clear hwc hbx; refine (wsyZ_any _ m _ f _ _ s _ (HZ.out.later HBc.out) HG.out.map).mono ?_; rintro e wd ⟨A2, c2, rfl, hbd, hrd⟩; replace HBc := hide (HBc.out.trans (hbd.mono HBc.out.size)); replace HKc := hide (HKc.out.later hbd); clear hbd; have k0 := HKc.out.cell 0 _ rfl; have k1 := HKc.out.cell 1 _ rfl; have HRD := hide hrd; clear hrd)) | (go_at_call 76; go_must (refine calls_gen fun wc hwc => ?_; (first | have hbx := drew_below hwc | have hbx := eq_below hwc); replace HBc := hide (HBc.out.trans (hbx.mono HBc.out.size)); replace HKc := hide (HKc.out.later hbx); replace HRD := hide (HRD.out.later hbx); clear hwc hbx; have HLO := hide HBc.out.size; refine (fixedBy_any m _ (m + m) _ (bothL f s) _ h1 h12 (bothL_length HZ.out.sz.fl HZ.out.sz.sl) (by omega) (by omega) (HG.out.both HZ.out.sz.fl) HRD.out).mono ?_; rintro e wd ⟨A4, c4, rfl, hbd, hres⟩; replace HBc := hide (HBc.out.trans (hbd.mono HBc.out.size)); replace HKc := hide (HKc.out.later hbd); clear hbd; have k0 := HKc.out.cell 0 _ rfl; have k1 := HKc.out.cell 1 _ rfl; have HRS := hide (hres.mono HLO.out); clear hres)))
    clear k0 k1
    go_wp2_with fail
    go_ret2
    exact ⟨_, _, rfl, HBc.out, HRS.out⟩
  · skip
    obtain rfl : kz = 0 := by simpa using hk.symm
    have HG := hide hg
    clear hg hz
    go_enter Try.func44, Try.ntmps44
    go_wp2_with fail
    refine (nd7I _ _ _ f _ _ _ s false _ (HZ.out.later HB0.out) (by simp [HG.out])).mono ?_
    rintro e w1 ⟨rfl, hb1⟩
    have HB1 := hide (HB0.out.trans (hb1.mono HB0.out.size))
    clear hb1
    go_wp2_with fail
    go_ret2
    exact ⟨_, _, rfl, HB1.out, .inl ⟨rfl, rfl⟩⟩
end Go.Proofs.Ytaejgmdeiemhcaa
namespace Go.Proofs.Ytaejgmdeiemhcaa
open Go Go.RowKit
open Classical
set_option maxHeartbeats 2000000
theorem fsInfo : (Try.prog.info? 2).map (fun i => (i.zero, i.size, i.bytes)) = some (some (.int .i64 0), 1, 8) := by kernel_rfl
set_option maxRecDepth 100000 in
theorem members_any (A : Option Addr) (n c : Nat) (xs : List Int) (o : Int) (w : World) (hn : xs.length = n) (hb : n ≤ 4096) (hr : Rd w A xs) :
    Calls Try.prog 75 #[.slice A n c, .int .i64 o] w fun e w' => ∃ A' c', e = .returned (.slice A' (memTo xs o n).length c') ∧ Below w.heap.size w w' ∧ Res 2 w.heap.size w' A' (memTo xs o n) := by
  obtain ⟨i0, hi, hz0, hz1, hz2⟩ := info_parts fsInfo
  have HN := hide hn
  have HR := hide hr
  clear hn hr
  go_enter Try.func75, Try.ntmps75
  go_wp2_with fail
  go_loopw [5, 6] (fun v i wr => ∃ k : Nat, k ≤ n ∧ i = .int .i64 k ∧ Below w.heap.size w wr ∧ wr.ownsRow w.heap.size 2 1 v (memTo xs o k).length (ints (memTo xs o k)) ∧ w.heap.size ≤ wr.heap.size) (fun _ i _ => n - (intOf i).toNat)
  case atStart => exact ⟨0, Nat.zero_le _, rfl, (Below.refl _ _).alloc (Nat.le_refl _) _, by simpa [memTo, ints] using ne_empty w 2, by simp⟩
  case round =>
    obtain ⟨k, hk, rfl, hbe, hown, hsz⟩ := hrel
    have HB := hide hbe
    have HO := hide hown
    clear hbe hown
    by_cases hlt : k < n
    · have hltz : (k : Int) < n := by omega
      obtain ⟨b, oo, rfl, hbw, hc⟩ := HR.out (by have := HN.out; omega)
      have hck := (HB.out.cell (p := ⟨b, oo + k, none⟩) hbw).trans (hc k (by have := HN.out; omega))
      obtain ⟨x, hx⟩ : ∃ x, xs.getD k 0 = x := ⟨_, rfl⟩
      rw [hx] at hck
      have HX := hide hx
      obtain ⟨fl, hfl⟩ : ∃ fl, (memTo xs o k).length = fl := ⟨_, rfl⟩
      have hfk := memTo_le xs o k
      rw [hfl] at HO hfk
      have HFL := hide hfl
      clear hfl hc hx
      by_cases he : x = o
      · subst he
        have hbeq : ((x : Int) == x) = true := by simp
        have hst := memTo_hit xs x k HX.out
        have HST := hide hst
        clear hst
        go_wp2_with (at_builtin; refine wpList_append_own _ rfl _ _ 37 rfl w.heap.size 2 i0 (.int .i64 0) 1 8 Try.underlying37 hi hz0 hz1 hz2 rfl (by decide) _ _ _ rfl (HO.out.alloc _) ⟨wr.heap.size, 0, none⟩ 1 1 [.int .i64 k] rfl rfl ?c1 ?c2 ?c3 ?c4 ?c5 ?_)
        case c1 => exact ne_new
        case c2 => intro u hu; simp at hu; subst hu; rfl
        case c3 => unfold maxLen; omega
        case c4 => omega
        case c5 => simp; omega
        intro v' w4 hown' hgrow _
        have HO' := hide hown'
        have HG4 := hide hgrow
        clear hown' hgrow hck
        go_wp2_with fail
        go_roundw
        case rel =>
          have hB4 : Below w.heap.size w w4 := (HB.out.alloc hsz _).grown HG4.out (by simp; omega) (fun g hg => ((HO.out.alloc (.cells #[.int .i64 k] 2)).lt g hg).1)
          refine ⟨k + 1, by omega, by go_num, hB4, ?_, by have := HG4.out.size; simp at this; omega⟩
          have h := HO'.out
          rw [HST.out]
          simpa [ints, HFL.out] using h
        case measure => simp [intOf]; omega
      · have hbeq : ((x : Int) == o) = false := by simpa using he
        have hst := memTo_miss xs o k (by rw [HX.out]; exact he)
        have HST := hide hst
        clear hst
        go_wp2_with fail
        go_roundw
        case rel => exact ⟨k + 1, by omega, by go_num, HB.out, by rw [HST.out, HFL.out]; exact HO.out, hsz⟩
        case measure => simp [intOf]; omega
    · have hkn : k = n := by omega
      subst hkn
      go_wp2_with fail
      go_ret
      obtain ⟨A', c', hv, hres⟩ := own_shape HO.out
      exact ⟨A', c', by rw [← hv]; rfl, HB.out, hres⟩
set_option maxRecDepth 100000 in
theorem fixS (A : Option Addr) (n c : Nat) (f : List (List Int)) (B : Option Addr) (m d : Nat) (s : List (List Int)) (zs : List Int) (code : Int) (kz : Nat) (w : World) (hz : ZArg 1048576 w A n f B m s) (hr : FixRes f s zs code) (hk : zs.length = kz) :
    Calls Try.prog 43 #[.agg #[.slice A n c, .slice B m d]] w (RPost 2 kz zs code w) := by
  have HZ := hide hz
  have HB0 := hide ((Below.refl _ w).alloc (Nat.le_refl _) (Obj.cells #[Value.slice A n c, Value.slice B m d] 28))
  have HK0 := hide (Blk.new w 28 [.slice A n c, .slice B m d])
  rcases hr with ⟨hg, hzs, rfl⟩ | ⟨hg, rfl, rfl⟩
  · obtain rfl := hz.same hg.map
    have h1 := (hg.sizes hz.sz.fl).1
    have h12 := (hg.sizes hz.sz.fl).2.1
    have HG := hide hg
    rw [hz.sz.fl] at hzs
    have hk2 := hk.symm
    subst hk2
    have hzs := hzs.symm
    subst hzs
    clear hg hz
    go_enter Try.func43, Try.ntmps43
    go_wp2_with fail
    refine (nd7S _ _ _ f _ _ _ s true _ (HZ.out.later HB0.out) (by simp [HG.out])).mono ?_
    rintro e w1 ⟨rfl, hb1⟩
    have HB1 := hide (HB0.out.trans (hb1.mono HB0.out.size))
    have HK1 := hide (HK0.out.later hb1)
    have k0 := HK1.out.cell 0 _ rfl
    have k1 := HK1.out.cell 1 _ rfl
    clear hb1
    obtain ⟨i0, hi, hz0, hz1, hz2⟩ := info_parts fsInfo
    go_wp2_with fail
    refine (orbS_any _ _ _ f _ _ s _ (HZ.out.later HB1.out) HG.out).mono ?_
    rintro e w2 ⟨A2, c2, rfl, hb2, hobj⟩
    have HB2 := hide (HB1.out.trans (hb2.mono HB1.out.size))
    have HO2 := hide hobj.obj
    have hso := HB2.out.size
    clear hb2 hobj k0 k1
    go_wp2_with fail
    have HLN : Hid ((orbS f s).length = m) := hide (by rw [orbS_length]; exact HZ.out.sz.fl)
    obtain ⟨q, hq⟩ : ∃ q, orbN f s = q := ⟨_, rfl⟩
    have hqm : q ≤ m := by have h := @orb_le f s; rw [hq, HZ.out.sz.fl] at h; exact h
    have HGR : Hid (gI (orbS f s) m = (q : Int)) := hide (by rw [← hq]; exact orb_great HG.out HZ.out.sz.fl)
    have HSF : Hid (sngTo (orbS f s) q = fixTo (bothL f s) m) := hide (by have h := sng_fix (HG.out.both HZ.out.sz.fl) m (Nat.le_refl _); unfold orbS; rw [HZ.out.sz.fl, ← hq, orbN, HZ.out.sz.fl]; exact h)
    clear hq
    have HE0 : Hid ((w2.alloc (.cells #[] 2)).ownsRow w2.heap.size 2 1 (.slice (some ⟨w2.heap.size, 0, none⟩) 0 0) (sngTo (orbS f s) 0).length (ints (sngTo (orbS f s) 0))) := hide (by simpa [sngTo, ints] using ne_empty w2 2)
    obtain ⟨bs, hbs⟩ : ∃ bs, w2.heap.size = bs := ⟨_, rfl⟩
    have HBA : Hid (Below bs w2 (w2.alloc (.cells #[] 2))) := hide (by rw [← hbs]; exact (Below.refl _ _).alloc (Nat.le_refl _) _)
    have HSZ : Hid (bs ≤ (w2.alloc (.cells #[] 2)).heap.size) := hide (by rw [← hbs]; simp)
    rw [hbs] at HE0 hso ⊢
    have HBS := hide hbs
    clear hbs
    go_loopw [5, 6] (fun v i wr => ∃ k : Nat, k ≤ q ∧ i = .int .i64 k ∧ Below bs w2 wr ∧ wr.ownsRow bs 2 1 v (sngTo (orbS f s) k).length (ints (sngTo (orbS f s) k)) ∧ bs ≤ wr.heap.size) (fun _ i _ => q - (intOf i).toNat)
    case atStart => exact ⟨0, Nat.zero_le _, rfl, HBA.out, HE0.out, HSZ.out⟩
    case round =>
      clear HBA HE0 HSZ
      obtain ⟨k, hk, rfl, hbe, hown, hsz⟩ := hrel
      have HB := hide hbe
      have HO := hide hown
      have HL := hide (HO2.out.later (by rw [HBS.out]; exact hbe))
      clear hbe hown
      go_wp2_with fail
      refine (greatest_any _ _ _ (orbS f s) (q : Int) _ HLN.out (by omega) HL.out.rd (orb_12 HG.out HZ.out.sz.fl) HGR.out).mono ?_
      rintro e w3 ⟨rfl, hq3⟩
      have HB3 := hide (HB.out.trans (hq3.below _))
      have HO3 := hide (ownsRow_below HO.out (hq3.below _))
      have HL3 := hide (HL.out.later (hq3.below _))
      have hs3 : bs ≤ w3.heap.size := by have := (hq3.below w3.heap.size).size; omega
      clear hq3 HB HO HL
      by_cases hlt : k < q
      · have hltz : (k : Int) < q := by omega
        go_wp2_with fail
        refine (members_any _ _ _ (orbS f s) (k : Int) _ HLN.out (by omega) HL3.out.rd).mono ?_
        rintro e w4 ⟨A4, c4, rfl, hb4, hres4⟩
        have HB4 := hide (HB3.out.trans (hb4.mono hs3))
        have HO4 := hide (ownsRow_below HO3.out hb4)
        have HR4 := hide hres4.rd
        have hs4 : bs ≤ w4.heap.size := by have := hb4.size; omega
        obtain ⟨M, hM⟩ : ∃ M, memTo (orbS f s) (k : Int) m = M := ⟨_, rfl⟩
        rw [hM] at HR4 ⊢
        obtain ⟨ml, hml⟩ : ∃ ml, M.length = ml := ⟨_, rfl⟩
        rw [hml]
        have HM := hide hM
        have HML := hide hml
        obtain ⟨fl, hfl⟩ : ∃ fl, (sngTo (orbS f s) k).length = fl := ⟨_, rfl⟩
        have hfk := sngTo_le (orbS f s) k
        rw [hfl] at HO4 hfk
        have HFL := hide hfl
        clear hb4 hres4 hM hml hfl HO3 HL3 HB3
        by_cases h1m : ml = 1
        · subst h1m
          obtain ⟨b, oo, rfl, hbw, hc⟩ := HR4.out (by have := HML.out; omega)
          have hck := hc 0 (by have := HML.out; omega)
          rw [Nat.add_zero] at hck
          obtain ⟨x, hx⟩ : ∃ x, M.getD 0 0 = x := ⟨_, rfl⟩
          rw [hx] at hck
          have hst : sngTo (orbS f s) (k + 1) = sngTo (orbS f s) k ++ [x] := by rw [sngTo, HLN.out, HM.out, if_pos HML.out, hx]
          have HST := hide hst
          clear hst hx hc
          go_wp2_with (at_builtin; refine wpList_append_own _ rfl _ _ 37 rfl bs 2 i0 (.int .i64 0) 1 8 Try.underlying37 hi hz0 hz1 hz2 rfl (by decide) _ _ _ rfl (HO4.out.alloc _) ⟨w4.heap.size, 0, none⟩ 1 1 [.int .i64 x] rfl rfl ?c1 ?c2 ?c3 ?c4 ?c5 ?_)
          case c1 => exact ne_new
          case c2 => intro u hu; simp at hu; subst hu; rfl
          case c3 => unfold maxLen; omega
          case c4 => omega
          case c5 => simp; omega
          intro v' w5 hown' hgrow _
          have HO' := hide hown'
          have HG4 := hide hgrow
          clear hown' hgrow hck
          go_wp2_with fail
          go_roundw
          case rel =>
            have hB5 : Below bs w2 w5 := (HB4.out.alloc hs4 _).grown HG4.out (by simp; omega) (fun g hg => ((HO4.out.alloc (.cells #[.int .i64 x] 2)).lt g hg).1)
            refine ⟨k + 1, by omega, by go_num, hB5, ?_, by have := HG4.out.size; simp at this; omega⟩
            have h := HO'.out
            rw [HST.out]
            simpa [ints, HFL.out] using h
          case measure => simp [intOf]; omega
        · have hbeq : ((ml : Int) == 1) = false := by simpa using (by omega : ¬ (ml : Int) = 1)
          have hst : sngTo (orbS f s) (k + 1) = sngTo (orbS f s) k := by rw [sngTo, HLN.out, HM.out, if_neg (by rw [HML.out]; exact h1m)]
          have HST := hide hst
          clear hst
          go_wp2_with fail
          go_roundw
          case rel => exact ⟨k + 1, by omega, by go_num, HB4.out, by rw [HST.out, HFL.out]; exact HO4.out, hs4⟩
          case measure => simp [intOf]; omega
      · have hkq : k = q := by omega
        subst hkq
        go_wp2_with fail
        go_ret2
        have ho := HO3.out
        rw [HSF.out] at ho
        obtain ⟨A', c', hv, hres⟩ := own_shape ho
        refine ⟨A', c', by rw [hv]; rfl, HB2.out.trans (HB3.out.mono hso), ?_⟩
        exact hres.mono hso
  · skip
    obtain rfl : kz = 0 := by simpa using hk.symm
    have HG := hide hg
    clear hg hz
    go_enter Try.func43, Try.ntmps43
    go_wp2_with fail
    refine (nd7S _ _ _ f _ _ _ s false _ (HZ.out.later HB0.out) (by simp [HG.out])).mono ?_
    rintro e w1 ⟨rfl, hb1⟩
    have HB1 := hide (HB0.out.trans (hb1.mono HB0.out.size))
    clear hb1
    go_wp2_with fail
    go_ret2
    exact ⟨_, _, rfl, HB1.out, .inl ⟨rfl, rfl⟩⟩
end Go.Proofs.Ytaejgmdeiemhcaa
