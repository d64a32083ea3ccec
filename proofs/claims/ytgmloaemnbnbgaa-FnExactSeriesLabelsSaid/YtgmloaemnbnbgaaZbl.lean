import Derived.Test.YtgmloaemnbnbgaaZv
import Derived.Test.YtgmloaemnbnbgaaZbd
import Derived.Test.YtgmloaemnbnbgaaZbh
import Derived.Test.YtgmloaemnbnbgaaZw
import Derived.Test.YtgmloaemnbnbgaaZb
import Derived.Test.YtgmloaemnbnbgaaZe
namespace Go.Proofs.Ytgmloaemnbnbgaa
open Go Go.RowKit
set_option maxHeartbeats 4000000
attribute [local irreducible] serK lstTo siz ser
/-- The first y numbers of new, then those of old. -/
def mixL (old new : List Int) (y : Nat) : List Int := (List.range old.length).map fun i => if i < y then new.getD i 0 else old.getD i 0
theorem mixL_length (old new : List Int) (y : Nat) : (mixL old new y).length = old.length := by simp [mixL]
theorem mixL_zero (old new : List Int) : mixL old new 0 = old := by
  refine List.ext_getElem (mixL_length _ _ _) fun i h1 h2 => ?_
  simp [mixL, h2]
theorem mixL_full (old new : List Int) (h : new.length = old.length) : mixL old new old.length = new := by
  refine List.ext_getElem (by rw [mixL_length, h]) fun i h1 h2 => ?_
  have h3 : i < old.length := by omega
  simp [mixL, h2, h3]
theorem mixL_at (old new : List Int) (y : Nat) (h : y < old.length) : (mixL old new y).getD y 0 = old.getD y 0 := by
  simp [mixL, h]
theorem mixL_set (old new : List Int) (y : Nat) (_h : y < old.length) : (mixL old new y).set y (new.getD y 0) = mixL old new (y + 1) := by
  refine List.ext_getElem (by rw [List.length_set, mixL_length, mixL_length]) fun i h1 h2 => ?_
  rw [List.getElem_set]
  by_cases hi : y = i
  · subst hi
    simp [mixL]
  · rw [if_neg hi]
    simp only [mixL, List.getElem_map, List.getElem_range]
    by_cases h3 : i < y
    · rw [if_pos h3, if_pos (by omega)]
    · rw [if_neg h3, if_neg (by omega)]
set_option maxRecDepth 100000 in
theorem slS (A : Option Addr) (n c : Nat) (f : List (List Int)) (B : Option Addr) (m d : Nat) (s : List (List Int)) (x : Int) (zs : List Int) (code : Int) (kz : Nat) (w : World) (hz : ZArg 1048576 w A n f B m s) (_hx0 : -9223372036854775808 ≤ x) (_hx1 : x ≤ 9223372036854775807) (hr : SlRes f s x zs code) (hk : zs.length = kz) :
    Calls Try.prog 33 #[.agg #[.slice A n c, .slice B m d], .int .i64 x] w (RPost 2 kz zs code w) := by
  have HZ := hide hz
  have HFL := hide hz.sz.fl
  have HSR := hide hr
  have HKZ := hide hk
  have HB0 := hide ((Below.refl _ w).alloc (Nat.le_refl _) (Obj.cells #[Value.slice A n c, Value.slice B m d] 29))
  have HK0 := hide (Blk.new w 29 [.slice A n c, .slice B m d])
  by_cases hp : NdS f s
  · obtain rfl := hz.same hp.map
    have h1 := (hp.sizes hz.sz.fl).1
    have h12 := (hp.sizes hz.sz.fl).2.1
    have HG := hide hp
    have hK := serK_lt hp
    obtain ⟨K, hKe⟩ : ∃ K, serK f s = K := ⟨_, rfl⟩
    rw [hKe] at hK
    have HKE := hide hKe
    clear hp hz hk hr hKe
    go_enter Try.func33, Try.ntmps33
    go_wp2_with fail
    refine (nd7S _ _ _ f _ _ _ s true _ (HZ.out.later HB0.out) (by simp [HG.out])).mono ?_
    rintro e w1 ⟨rfl, hb1⟩
    have HB1 := hide (HB0.out.trans (hb1.mono HB0.out.size))
    have HK1 := hide (HK0.out.later hb1)
    have k0 := HK1.out.cell 0 _ rfl
    have k1 := HK1.out.cell 1 _ rfl
    clear hb1
    have hcon := serS_any A m c f B d s w1 (HZ.out.later HB1.out) HG.out
    rw [HKE.out] at hcon
    go_wp2_with fail
    refine hcon.mono ?_
    rintro e w2 ⟨A2, c2, vs, rfl, hb2, hql⟩
    obtain ⟨g0, c3, hv, hg1, hg2, hcell⟩ := hql.base (by omega)
    injection hv with hv _ _
    subst hv
    have HB2 := hide (HB1.out.trans (hb2.mono HB1.out.size))
    have HK2 := hide (HK1.out.later hb2)
    have HCE : Hid (∀ i, i < K + 1 → ∃ Ai ci Bi di, w2.cell? ⟨g0, i * 2, none⟩ = some (.slice Ai (siz f s i) ci) ∧ w2.cell? ⟨g0, i * 2 + 1, none⟩ = some (.slice Bi (siz f s i) di) ∧ ZArg 1048576 w2 Ai (siz f s i) (ser f s i).1 Bi (siz f s i) (ser f s i).2) := hide fun i hi => by
      obtain ⟨Ai, ci, Bi, di, q1, q2, lo, hi2, hob⟩ := hcell i hi
      exact ⟨Ai, ci, Bi, di, by rw [siz_fst8]; exact q1, by rw [← siz_snd HG.out i]; exact q2, by rw [siz_fst8]; exact ser_zarg (ser_nds HG.out i) hob⟩
    clear hb2 hql hcell k0 k1 hcon
    have k0 := HK2.out.cell 0 _ rfl
    have k1 := HK2.out.cell 1 _ rfl
    by_cases hxx : 0 ≤ x ∧ x ≤ (K : Int)
    · obtain ⟨X, rfl⟩ : ∃ X : Nat, x = (X : Int) := ⟨x.toNat, by omega⟩
      have hX : X ≤ K := by omega
      obtain ⟨hzs, hcode⟩ := HSR.out.hit HG.out rfl (by rw [HKE.out]; exact hX)
      subst hcode
      have hkm : kz = m := by rw [← HKZ.out, hzs, sLb_length]; exact HFL.out
      subst hkm
      have HZS := hide hzs
      clear hzs hxx
      go_wp2_with fail
      refine (in_any (X : Int) 0 (K : Int) true _ (by simp; omega)).mono ?_
      rintro e w3 ⟨rfl, hq3⟩
      have hb3 := hq3.below w2.heap.size
      have HB3 := hide (HB2.out.trans (hb3.mono HB2.out.size))
      have HK3 := hide (HK2.out.later hb3)
      have HQ3 := hide hb3
      clear hq3 hb3 k0 k1
      have k0 := HK3.out.cell 0 _ rfl
      have k1 := HK3.out.cell 1 _ rfl
      go_wp2_with fail
      refine (l01Unit_any kz _ (by omega)).mono ?_
      rintro e w4 ⟨A4, c4, rfl, hb4, hres⟩
      rcases hres with ⟨_, hnil⟩ | ⟨g, rfl, hg, hown⟩
      · have := congrArg List.length hnil
        rw [unitN_length] at this
        simp at this
        omega
      · have HB4 := hide (HB3.out.trans (hb4.mono HB3.out.size))
        have HQ4 := hide (HQ3.out.trans (hb4.mono HQ3.out.size))
        have hgw : w2.heap.size ≤ g := Nat.le_trans HQ3.out.size hg
        have HOW : Hid (OwnB 2 w4 g (sLb f s 0)) := hide (by show OwnB _ _ _ (unitN f.length); rw [HFL.out]; exact hown)
        clear hb4 hown k0 k1 HB3 HQ3 HK3
        go_wp2_with fail
        go_loopw [8] (fun i wr => ∃ j : Nat, j ≤ X ∧ i = .int .i64 j ∧ Below w2.heap.size w2 wr ∧ OwnB 2 wr g (sLb f s j)) (fun i _ => X - (intOf i).toNat)
        case atStart => exact ⟨0, Nat.zero_le _, rfl, HQ4.out, HOW.out⟩
        case round =>
          clear HQ4 HB4 HOW
          obtain ⟨j, hj, rfl, hbe, how⟩ := hrel
          have HBE := hide hbe
          have HOW := hide how
          clear hbe how
          by_cases hlt : j < X
          · have hltz : (j : Int) < (X : Int) := by omega
            have hjK : (j : Int) < (K : Int) + 1 := by omega
            obtain ⟨Ai, ci, Bi, di, q1, q2, hza⟩ := HCE.out j (by omega)
            have e1 := (HBE.out.cell (p := ⟨g0, j * 2, none⟩) hg2).trans q1
            have e2 := (HBE.out.cell (p := ⟨g0, j * 2 + 1, none⟩) hg2).trans q2
            have HZA := hide (hza.later HBE.out)
            have HNJ := hide (ser_nds HG.out j)
            have hs12 := siz_12 HG.out j
            have HRG := hide (sLb_rng f s j)
            have HAT : Hid (∀ y, y < f.length → (sLb f s (j + 1)).getD y 0 = (alC (ser f s j).1 (ser f s j).2).getD ((sLb f s j).getD y 0).toNat 0) := hide fun y hy => sLb_at f s j hy
            have HCL : Hid ((alC (ser f s j).1 (ser f s j).2).length = siz f s j) := hide (by rw [alC_length, siz_fst8])
            have HLO : Hid ((sLb f s j).length = kz ∧ (sLb f s (j + 1)).length = kz) := hide ⟨by rw [sLb_length]; exact HFL.out, by rw [sLb_length]; exact HFL.out⟩
            obtain ⟨u, hu⟩ : ∃ u, siz f s j = u := ⟨_, rfl⟩
            rw [hu] at e1 e2 hs12 HZA HRG HCL
            rw [HFL.out] at HRG HAT
            obtain ⟨old, hold⟩ : ∃ l, sLb f s j = l := ⟨_, rfl⟩
            obtain ⟨new, hnew⟩ : ∃ l, sLb f s (j + 1) = l := ⟨_, rfl⟩
            rw [hold] at HOW HRG HAT HLO
            rw [hnew] at HAT HLO
            have HNEW := hide hnew
            clear q1 q2 hza hu hold hnew
            go_wp2_with fail
            refine (alikeS_any _ _ _ (ser f s j).1 _ _ (ser f s j).2 _ HZA.out HNJ.out).mono ?_
            rintro e w5 ⟨A5, c5, rfl, hb5, hres5⟩
            obtain ⟨cl, hcl⟩ : ∃ l, alC (ser f s j).1 (ser f s j).2 = l := ⟨_, rfl⟩
            rw [hcl] at hres5 HCL HAT
            clear hcl
            rcases hres5 with ⟨_, hnil⟩ | ⟨gc, rfl, hgc, hownc⟩
            · have h2 := congrArg List.length hnil
              rw [HCL.out] at h2
              simp at h2
              have h3 := HRG.out 0 (by omega)
              omega
            · have hgg : g < wr.heap.size := HOW.out.lt
              have hne : g ≠ gc := by omega
              have HB5 := hide (HBE.out.trans (hb5.mono HBE.out.size))
              have HO5 := hide (HOW.out.later hb5 hgg)
              have HC5 := hide hownc
              clear hb5 hownc e1 e2
              go_wp2_with fail
              go_loopw [10] (fun i wi => ∃ y : Nat, y ≤ kz ∧ i = .int .i64 y ∧ Below w2.heap.size w2 wi ∧ OwnB 2 wi g (mixL old new y) ∧ OwnB 2 wi gc cl) (fun i _ => kz - (intOf i).toNat)
              case atStart => exact ⟨0, Nat.zero_le _, rfl, HB5.out, by rw [mixL_zero]; exact HO5.out, HC5.out⟩
              case round =>
                clear HB5 HO5 HC5 HBE HOW
                obtain ⟨y, hy, rfl, hbi, hoi, hci⟩ := hrel
                have HBI := hide hbi
                have HOI := hide hoi
                have HCI := hide hci
                have HML : Hid ((mixL old new y).length = kz) := hide (by rw [mixL_length]; exact HLO.out.1)
                clear hbi hoi hci
                by_cases hly : y < kz
                · have hlyz : (y : Int) < (kz : Int) := by omega
                  have hrg := HRG.out y hly
                  have hat := HAT.out y hly
                  obtain ⟨l, hl⟩ : ∃ l : Nat, old.getD y 0 = (l : Int) := ⟨(old.getD y 0).toNat, by omega⟩
                  rw [hl] at hrg hat
                  rw [Int.toNat_natCast] at hat
                  have hlu : l < u := by omega
                  have c1 := HOI.out.cell (i := y) (by rw [HML.out]; exact hly)
                  rw [mixL_at _ _ _ (by rw [HLO.out.1]; exact hly), hl] at c1
                  have c2 := HCI.out.cell (i := l) (by rw [HCL.out]; exact hlu)
                  rw [← hat] at c2
                  have cf := HOI.out.frozen y
                  have HST := hide (mixL_set old new y (by rw [HLO.out.1]; exact hly))
                  obtain ⟨v, hv⟩ : ∃ v, new.getD y 0 = v := ⟨_, rfl⟩
                  rw [hv] at c2 HST
                  have hluz : (l : Int) < (u : Int) := by omega
                  clear hrg hat hl hv
                  go_wp2_with fail
                  go_roundw
                  case rel => exact ⟨y + 1, by omega, by go_num, HBI.out.setCell (p := ⟨g, y, none⟩) hgw _, by rw [← HST.out]; exact HOI.out.set y v (by rw [HML.out]; exact hly), HCI.out.far (p := ⟨g, y, none⟩) (fun e => hne e.symm) _⟩
                  case measure => simp [intOf]; omega
                · have hye : y = kz := by omega
                  subst hye
                  have HON : Hid (OwnB 2 wr g (sLb f s (j + 1))) := hide (by
                    have h := HOI.out
                    have e := mixL_full old new (by rw [HLO.out.1, HLO.out.2])
                    rw [HLO.out.1] at e
                    rw [e] at h
                    rw [HNEW.out]
                    exact h)
                  go_wp2_with fail
                  go_roundw
                  case rel => exact ⟨j + 1, by omega, by go_num, HBI.out, HON.out⟩
                  case measure => simp [intOf]; omega
          · have hje : j = X := by omega
            subst hje
            have HBF := hide (HB2.out.trans (HBE.out.mono HB2.out.size))
            go_wp2_with fail
            go_ret2
            exact ⟨_, _, rfl, HBF.out, .inr ⟨g, rfl, Nat.le_trans HB2.out.size hgw, by rw [HZS.out]; exact HOW.out⟩⟩
    · obtain ⟨hzs, hcode⟩ := HSR.out.miss HG.out (fun j hj e => hxx ⟨by omega, by rw [HKE.out] at hj; omega⟩)
      subst hcode
      subst hzs
      obtain rfl : kz = 0 := by simpa using HKZ.out.symm
      go_wp2_with fail
      refine (in_any x 0 (K : Int) false _ (by constructor; (· intro h; cases h); (· intro h; exact absurd h hxx))).mono ?_
      rintro e w3 ⟨rfl, hq3⟩
      have HB3 := hide (HB2.out.trans ((hq3.below w2.heap.size).mono HB2.out.size))
      clear hq3 k0 k1
      go_wp2_with fail
      go_ret2
      exact ⟨_, _, rfl, HB3.out, .inl ⟨rfl, rfl⟩⟩
  · obtain ⟨hzs, hcode⟩ := hr.bad hp
    subst hzs
    subst hcode
    obtain rfl : kz = 0 := by simpa using hk.symm
    have HP := hide hp
    clear hp hz hk hr
    go_enter Try.func33, Try.ntmps33
    go_wp2_with fail
    refine (nd7S _ _ _ f _ _ _ s false _ (HZ.out.later HB0.out) (by simp [HP.out])).mono ?_
    rintro e w1 ⟨rfl, hb1⟩
    have HB1 := hide (HB0.out.trans (hb1.mono HB0.out.size))
    clear hb1
    go_wp2_with fail
    go_ret2
    exact ⟨_, _, rfl, HB1.out, .inl ⟨rfl, rfl⟩⟩
end Go.Proofs.Ytgmloaemnbnbgaa
