import Derived.Test.YtpnlmmilnglmkaaZab
import Derived.Test.YtpnlmmilnglmkaaZw
import Derived.Test.YtpnlmmilnglmkaaZg
import Derived.Deep.AppendLies
namespace Go.Proofs.Ytpnlmmilnglmkaa
open Go Go.RowKit
set_option maxHeartbeats 2000000
/-- The list while the k-th element is being found: j are undone. -/
def gbS (f : List (List Int)) (xs : List Int) (k j : Nat) : List Int := gbL f xs k ++ ((gbIn f (gbL f xs k) (elN xs k) j : Nat) : Int) :: xs.drop (k + 1)
theorem gbS_length (f : List (List Int)) (xs : List Int) (k j : Nat) (hk : k < xs.length) : (gbS f xs k j).length = xs.length := by
  simp [gbS, gbL_length]; omega
theorem gbS_at (f : List (List Int)) (xs : List Int) (k j : Nat) : (gbS f xs k j).getD k 0 = ((gbIn f (gbL f xs k) (elN xs k) j : Nat) : Int) := by
  have h : (gbL f xs k).length = k := gbL_length f xs k
  simp [gbS, List.getD_eq_getElem?_getD, List.getElem?_append_right, h]
theorem gbS_low (f : List (List Int)) (xs : List Int) (k j i : Nat) (hi : i < k) : (gbS f xs k j).getD i 0 = (gbL f xs k).getD i 0 := by
  have h : i < (gbL f xs k).length := by rw [gbL_length]; exact hi
  simp only [gbS, List.getD_eq_getElem?_getD]
  rw [List.getElem?_append_left h]
theorem gbS_set (f : List (List Int)) (xs : List Int) (k j : Nat) : (gbS f xs k j).set k ((gbIn f (gbL f xs k) (elN xs k) (j + 1) : Nat) : Int) = gbS f xs k (j + 1) := by
  have h : (gbL f xs k).length = k := gbL_length f xs k
  unfold gbS
  rw [List.set_append_right _ _ (by omega), h, Nat.sub_self]
  rfl
theorem gbS_start (f : List (List Int)) (xs : List Int) {n : Nat} (hx : Tup n xs) (k : Nat) (hk : k < xs.length) : gbL f xs k ++ xs.drop k = gbS f xs k 0 := by
  unfold gbS
  rw [List.drop_eq_getElem_cons hk]
  have h := (hx.el hk).1
  have e : xs.getD k 0 = xs[k] := by simp [hk]
  rw [← e, h]
  rfl
theorem gbS_end (f : List (List Int)) (xs : List Int) (k : Nat) : gbS f xs k k = gbL f xs (k + 1) ++ xs.drop (k + 1) := by
  simp [gbS, gbL]

set_option maxRecDepth 100000 in
theorem gbI_any (A : Option Addr) (n c : Nat) (f : List (List Int)) (B : Option Addr) (k d : Nat) (s : List (List Int)) (C : Option Addr) (m e : Nat) (xs : List Int) (zs : List Int) (code : Int) (kz : Nat) (w : World) (hz : ZArg 1048576 w A n f B k s) (hm : xs.length = m) (hb : m ≤ 1048576) (hr : Rd w C xs) (hres : GbRes f s xs zs code) (hkz : zs.length = kz) :
    Calls Try.prog 36 #[.agg #[.slice A n c, .slice B k d], .slice C m e] w fun e w' => ∃ A' c', e = .returned (.tuple #[.slice A' kz c', .int .i64 code]) ∧ Below w.heap.size w w' ∧ Res 2 w.heap.size w' A' zs := by
  have HZ := hide hz
  have HM := hide hm
  have HR := hide hr
  have HB0 := hide ((Below.refl _ w).alloc (Nat.le_refl _) (Obj.cells #[Value.slice A n c, Value.slice B k d] 30))
  have HK0 := hide (Blk.new w 30 [.slice A n c, .slice B k d])
  obtain ⟨hgc, hcase⟩ := hres
  have HGC := hide hgc
  rcases hcase with ⟨rfl, rfl⟩ | ⟨hc0, rfl⟩
  · obtain ⟨hs, htp, hnon⟩ : SolF f s ∧ Tup f.length xs ∧ NonF f s := by
      rcases hgc with ⟨h1, h2, h3, _⟩ | ⟨_, _, _, h⟩ | ⟨_, _, h⟩ | ⟨_, h⟩
      · exact ⟨h1, h2, h3⟩
      · omega
      · omega
      · omega
    have HP : Hid (PMap f s) := hide hs.1
    have HPM : Hid (AllPrm f) := hide hnon.1
    obtain rfl := (hz.same hs.1).symm
    have HN := hide hz.sz.fl
    have h12 := (hz.small hs.1).2
    rw [hz.sz.fl] at htp
    have HTP := hide htp
    have hm12 : m ≤ 12 := by rw [← hm]; exact htp.1
    obtain rfl : kz = m := by rw [← hkz]; unfold gbA; rw [gbL_length, hm]
    clear hz hm hr hgc hs htp hnon hkz
    go_enter Try.func36, Try.ntmps36
    have k0 := HK0.out.cell 0 _ rfl
    have k1 := HK0.out.cell 1 _ rfl
    go_wp2_with fail
    clear k0 k1
    refine (guFault_any A B C n c n d kz e f s xs 0 _ (HZ.out.later HB0.out) HM.out hb (HR.out.later HB0.out) HGC.out).mono ?_
    rintro e w1 ⟨rfl, hb1⟩
    have HB1 := hide (HB0.out.trans (hb1.mono HB0.out.size))
    have HK1 := hide (HK0.out.later hb1)
    clear hb1
    have k0 := HK1.out.cell 0 _ rfl
    have k1 := HK1.out.cell 1 _ rfl
    go_wp2_with fail
    clear k0 k1
    refine (inverses_any A n c f _ HN.out HP.out.1 HPM.out (HZ.out.later HB1.out).fst).mono ?_
    rintro e w2 ⟨Ci, ci, rfl, hb2, ho2⟩
    have HB2 := hide (HB1.out.trans (hb2.mono HB1.out.size))
    have HI2 := hide ho2.rd
    clear hb2 ho2
    go_wp2_with fail
    refine (cloneN_any C kz e xs _ HM.out hb (HR.out.later HB2.out)).mono ?_
    rintro e w3 ⟨A3, c3, rfl, hb3, ho3, hcap⟩
    have HB3 := hide (HB2.out.trans (hb3.mono HB2.out.size))
    have HI3 := hide (HI2.out.later hb3)
    have HW3 := hide hb3
    have HO3 := hide ho3
    clear hb3 ho3
    by_cases h0 : kz = 0
    · subst h0
      have hx0 : xs = [] := List.length_eq_zero_iff.1 HM.out
      subst hx0
      go_wp2_with fail
      go_loopw [25] (fun i wr => ∃ k : Nat, k ≤ 0 ∧ i = .int .i64 k ∧ Below w.heap.size w wr ∧ Res 2 w2.heap.size wr A3 []) (fun i _ => 0 - (intOf i).toNat)
      case atStart => exact ⟨0, Nat.le_refl _, rfl, HB3.out, HO3.out⟩
      case round =>
        obtain ⟨k, hk, rfl, hbe, hoe⟩ := hrel
        obtain rfl : k = 0 := by omega
        have HBe := hide hbe
        have HOe := hide hoe
        clear hbe hoe
        go_wp2_with fail
        go_ret2
        exact ⟨_, _, rfl, HBe.out, HOe.out.mono HB2.out.size⟩
    · obtain ⟨g, rfl, hg, hown⟩ : ∃ g, A3 = some ⟨g, 0, none⟩ ∧ w2.heap.size ≤ g ∧ OwnB 2 w3 g xs := by
        rcases HO3.out with ⟨_, h⟩ | h
        · exact absurd (by rw [← HM.out, h]; rfl) h0
        · exact h
      have HDT := hide (dual_tbl HP.out.1 HPM.out)
      have HDL : Hid ((dualL f).length = n) := hide (by rw [dualL_len]; exact HN.out)
      have HOW := hide hown
      obtain ⟨bI, oI, hA, hbI, hcI⟩ := HDT.out.cells HI2.out HDL.out
      subst hA
      have HC := hide hcI
      clear HO3 hown hcI
      go_wp2_with fail
      go_loopw [25] (fun i wr => ∃ k : Nat, k ≤ kz ∧ i = .int .i64 k ∧ Below w2.heap.size w2 wr ∧ OwnB 2 wr g (gbL f xs k ++ xs.drop k)) (fun i _ => kz - (intOf i).toNat)
      case atStart => exact ⟨0, Nat.zero_le _, rfl, HW3.out, HOW.out⟩
      case round =>
        obtain ⟨k, hk, rfl, hbe, how⟩ := hrel
        have HBr := hide hbe
        by_cases hlt : k < kz
        · have hkx : k < xs.length := by have := HM.out; omega
          rw [gbS_start f xs HTP.out k hkx] at how
          have HOr := hide how
          have hkz : (k : Int) < kz := by omega
          clear hbe how
          have hcap2 : k ≤ c3 := by omega
          have hcap3 : (k : Int) ≤ c3 := by omega
          go_wp2_with fail
          obtain ⟨wo, rfl⟩ : ∃ wo : World, wo = wr := ⟨_, rfl⟩
          go_loopw [32] (fun i wi => ∃ j : Nat, j ≤ k ∧ i = .int .i64 j ∧ Below w2.heap.size w2 wi ∧ OwnB 2 wi g (gbS f xs k j)) (fun i _ => k - (intOf i).toNat)
          case atStart => exact ⟨0, Nat.zero_le _, rfl, HBr.out, HOr.out⟩
          case round =>
            obtain ⟨j, hj, rfl, hbi, hoi⟩ := hrel
            have HBi := hide hbi
            have HOi := hide hoi
            clear hbi hoi
            by_cases hltj : j < k
            · have hjz : (j : Int) < k := by omega
              have hb1 := gbL_ok HP.out.1 HPM.out HN.out HTP.out k (by omega) j hltj
              have hcur := gbIn_lt HP.out.1 HPM.out HN.out HTP.out hkx j (by omega)
              have hlen := gbS_length f xs k j hkx
              have e1 := HOi.out.cell (i := j) (by rw [hlen]; omega)
              have e2 := HOi.out.cell (i := k) (by rw [hlen]; omega)
              have ef := HOi.out.frozen k
              rw [gbS_low f xs k j j hltj, hb1.1] at e1
              rw [gbS_at] at e2
              have HST := hide (HOi.out.set k ((gbIn f (gbL f xs k) (elN xs k) (j + 1) : Nat) : Int) (by rw [hlen]; omega))
              rw [gbS_set] at HST
              have hsv : gbIn f (gbL f xs k) (elN xs k) (j + 1) = sol f (elN (gbL f xs k) j) (gbIn f (gbL f xs k) (elN xs k) j) := rfl
              have hn1 := hb1.2
              obtain ⟨b, hbe⟩ : ∃ b, elN (gbL f xs k) j = b := ⟨_, rfl⟩
              obtain ⟨u, hue⟩ : ∃ u, gbIn f (gbL f xs k) (elN xs k) j = u := ⟨_, rfl⟩
              rw [hbe] at e1 hn1 hsv
              rw [hue] at e2 hcur hsv
              rw [hsv] at HST
              have hsa := sol_ap HP.out.1 HPM.out HN.out hn1 hcur
              obtain ⟨v, hve⟩ : ∃ v, sol f b u = v := ⟨_, rfl⟩
              rw [hve] at hsa HST
              obtain ⟨bx, ox, cx, q1, q2, q3⟩ := HC.out b hn1
              have q4 := q3 u hcur
              rw [hsa] at q4
              replace q1 := (HBi.out.cell (p := ⟨bI, oI + b, none⟩) hbI).trans q1
              replace q4 := (HBi.out.cell (p := ⟨bx, ox + u, none⟩) q2).trans q4
              have hbz : (b : Int) < n := by omega
              have huz : (u : Int) < n := by omega
              clear hb1 hlen hsv hbe hue hsa hve q3
              go_wp2_with fail
              go_still_tail 12, (by kernel_rfl)
              change wpList _ _ _ _ _ wr.drew
              go_wp2_with fail
              go_roundw
              case rel => exact ⟨j + 1, by omega, by go_num, (HBi.out.setCell (p := ⟨g, k, none⟩) hg _).drew, HST.out⟩
              case measure => simp [intOf]; omega
            · have hjk : j = k := by omega
              subst hjk
              have HOe := HOi
              rw [gbS_end] at HOe
              go_wp2_with fail
              go_roundw
              case rel => exact ⟨j + 1, by omega, by go_num, HBi.out, HOe.out⟩
              case measure => simp [intOf]; omega
        · have hkn : k = kz := by omega
          subst hkn
          have HOe := hide how
          clear hbe how
          go_wp2_with fail
          go_ret2
          refine ⟨_, _, rfl, HB2.out.trans (HBr.out.mono HB2.out.size), .inr ⟨g, rfl, by have := HB2.out.size; omega, ?_⟩⟩
          have h := HOe.out
          rw [List.drop_eq_nil_of_le (by have := HM.out; omega), List.append_nil] at h
          unfold gbA
          rw [HM.out]
          exact h
  · obtain rfl : kz = 0 := by rw [← hkz]; rfl
    clear hz hm hr hgc hkz
    have hcz : (code != (0 : Int)) = true := by simp [hc0]
    go_enter Try.func36, Try.ntmps36
    have k0 := HK0.out.cell 0 _ rfl
    have k1 := HK0.out.cell 1 _ rfl
    go_wp2_with fail
    clear k0 k1
    refine (guFault_any A B C n c k d m e f s xs code _ (HZ.out.later HB0.out) HM.out hb (HR.out.later HB0.out) HGC.out).mono ?_
    rintro e w1 ⟨rfl, hb1⟩
    have HB1 := hide (HB0.out.trans (hb1.mono HB0.out.size))
    clear hb1
    go_wp2_with fail
    go_ret2
    exact ⟨_, _, rfl, HB1.out, .inl ⟨rfl, rfl⟩⟩
end Go.Proofs.Ytpnlmmilnglmkaa
namespace Go.Proofs.Ytpnlmmilnglmkaa
open Go Go.RowKit
set_option maxHeartbeats 4000000

set_option maxRecDepth 100000 in
theorem gbS_any (A : Option Addr) (n c : Nat) (f : List (List Int)) (B : Option Addr) (k d : Nat) (s : List (List Int)) (C : Option Addr) (m e : Nat) (xs : List Int) (zs : List Int) (code : Int) (kz : Nat) (w : World) (hz : ZArg 1048576 w A n f B k s) (hm : xs.length = m) (hb : m ≤ 1048576) (hr : Rd w C xs) (hres : GbRes f s xs zs code) (hkz : zs.length = kz) :
    Calls Try.prog 35 #[.agg #[.slice A n c, .slice B k d], .slice C m e] w fun e w' => ∃ A' c', e = .returned (.tuple #[.slice A' kz c', .int .i64 code]) ∧ Below w.heap.size w w' ∧ Res 2 w.heap.size w' A' zs := by
  have HZ := hide hz
  have HM := hide hm
  have HR := hide hr
  have HB0 := hide ((Below.refl _ w).alloc (Nat.le_refl _) (Obj.cells #[Value.slice A n c, Value.slice B k d] 30))
  have HK0 := hide (Blk.new w 30 [.slice A n c, .slice B k d])
  obtain ⟨hgc, hcase⟩ := hres
  have HGC := hide hgc
  rcases hcase with ⟨rfl, rfl⟩ | ⟨hc0, rfl⟩
  · obtain ⟨hs, htp, hnon⟩ : SolF f s ∧ Tup f.length xs ∧ NonF f s := by
      rcases hgc with ⟨h1, h2, h3, _⟩ | ⟨_, _, _, h⟩ | ⟨_, _, h⟩ | ⟨_, h⟩
      · exact ⟨h1, h2, h3⟩
      · omega
      · omega
      · omega
    have HP : Hid (PMap f s) := hide hs.1
    have HPM : Hid (AllPrm f) := hide hnon.1
    obtain rfl := (hz.same hs.1).symm
    have HN := hide hz.sz.fl
    have h12 := (hz.small hs.1).2
    rw [hz.sz.fl] at htp
    have HTP := hide htp
    have hm12 : m ≤ 12 := by rw [← hm]; exact htp.1
    obtain rfl : kz = m := by rw [← hkz]; unfold gbA; rw [gbL_length, hm]
    obtain ⟨b1, o1, hA, hbw, hcc⟩ := HP.out.1.cells hz.fst HN.out
    obtain ⟨_, _, hA', _, hcr⟩ := rd_rows HP.out.1 hz.fst HN.out
    subst hA
    injection hA' with hA'
    injection hA' with e1 e2
    subst e1
    subst e2
    have HC := hide hcc
    have HCR := hide hcr
    obtain ⟨i0, hi, hz0, hz1, hz2⟩ := info_parts neInfo
    clear hz hm hr hgc hs htp hnon hkz hcc hcr
    go_enter Try.func35, Try.ntmps35
    have k0 := HK0.out.cell 0 _ rfl
    have k1 := HK0.out.cell 1 _ rfl
    go_wp2_with fail
    clear k0 k1
    refine (guCodeS_any _ B C n c n d kz e f s xs 0 _ (HZ.out.later HB0.out) HM.out hb (HR.out.later HB0.out) HGC.out).mono ?_
    rintro e w1 ⟨rfl, hb1⟩
    have HB1 := hide (HB0.out.trans (hb1.mono HB0.out.size))
    have HK1 := hide (HK0.out.later hb1)
    clear hb1
    go_wp2_with fail
    go_loopw [7, 8] (fun v i wr => ∃ (k : Nat) (A' : Option Addr) (c' : Nat), k ≤ kz ∧ i = .int .i64 k ∧ v = .slice A' k c' ∧ Below w1.heap.size w1 wr ∧ w1.heap.size < wr.heap.size ∧ wr.ownsRow w1.heap.size 2 1 v k (ints (gbL f xs k))) (fun _ i _ => kz - (intOf i).toNat)
    case atStart => exact ⟨0, _, _, Nat.zero_le _, rfl, rfl, (Below.refl _ _).alloc (Nat.le_refl _) _, by simp, by simpa [ints, gbL] using ne_empty w1 _⟩
    case round =>
      obtain ⟨k, Ao, co, hk, rfl, rfl, hbe, hsz, hoe⟩ := hrel
      have HBr := hide hbe
      have HOr := hide hoe
      clear hbe hoe
      have HBW := hide (HB1.out.trans (HBr.out.mono HB1.out.size))
      by_cases hlt : k < kz
      · have hkx : k < xs.length := by have := HM.out; omega
        have hkz : (k : Int) < kz := by omega
        obtain ⟨bt, ot, hCt, hbt, hct⟩ := HR.out (by omega)
        have t1 := (HBW.out.cell (p := ⟨bt, ot + k, none⟩) hbt).trans (hct k hkx)
        have hel := HTP.out.el hkx
        rw [hel.1] at t1
        have HCT := hide hct
        subst hCt
        clear hct
        go_wp2_with fail
        clear t1
        obtain ⟨wo, rfl⟩ : ∃ wo : World, wo = wr := ⟨_, rfl⟩
        go_loopw [9, 10] (fun v i wi => ∃ j : Nat, j ≤ k ∧ i = .int .i64 j ∧ v = .int .i64 ((gbIn f (gbL f xs k) (elN xs k) j : Nat) : Int) ∧ Below wo.heap.size wo wi) (fun _ i _ => k - (intOf i).toNat)
        case atStart => exact ⟨0, Nat.zero_le _, rfl, rfl, Below.refl _ _⟩
        case round =>
          obtain ⟨j, hj, rfl, rfl, hbi⟩ := hrel
          have HBI := hide hbi
          clear hbi
          by_cases hltj : j < k
          · have hjz : (j : Int) < k := by omega
            have hb1 := gbL_ok HP.out.1 HPM.out HN.out HTP.out k (by omega) j hltj
            have hcur := gbIn_lt HP.out.1 HPM.out HN.out HTP.out hkx j (by omega)
            have hsv : gbIn f (gbL f xs k) (elN xs k) (j + 1) = sol f (elN (gbL f xs k) j) (gbIn f (gbL f xs k) (elN xs k) j) := rfl
            have HRO := hide (own_read HOr.out (by omega))
            obtain ⟨g, hg, hrd⟩ := HRO.out
            subst hg
            have HRD := hide hrd
            have hn1 := hb1.2
            have heb := hb1.1
            obtain ⟨b, hbe⟩ : ∃ b, elN (gbL f xs k) j = b := ⟨_, rfl⟩
            rw [hbe] at hn1 hsv heb
            have HEB := hide heb
            obtain ⟨u, hue⟩ : ∃ u, gbIn f (gbL f xs k) (elN xs k) j = u := ⟨_, rfl⟩
            rw [hue] at hcur hsv ⊢
            have hix := sol_ix HP.out.1 HPM.out HN.out hn1 hcur
            obtain ⟨v, hve⟩ : ∃ v, sol f b u = v := ⟨_, rfl⟩
            rw [hve] at hix hsv
            obtain ⟨bx, ox, cx, q1, q2, q3⟩ := HC.out b hn1
            obtain ⟨Bz, cz2, q6, hrb⟩ := HCR.out b hn1
            have q7 := q6
            rw [q1] at q7
            injection q7 with q7
            injection q7 with q8 q9 q10
            subst q8
            have R1 := hide q1
            have HRB := hide hrb
            have HLB : Hid ((f.getD b []).length = n) := hide (HP.out.1.row_len HN.out hn1)
            have HIX := hide hix
            have HSV := hide hsv
            have hbz : (b : Int) < n := by omega
            have huz : (u : Int) < n := by omega
            clear hb1 hbe hue hve heb hrd hrb q1 q3 q6 hix
            go_wp2_with fail
            have ff0 := ((HK1.out.later HBr.out).later HBI.out).cell 0 _ rfl
            have ff1 := (HRD.out.keep HBI.out).cell1 j (by simpa [gbL_length] using hltj) HEB.out
            have ff2 := ((HBW.out.trans (HBI.out.mono HBW.out.size)).cell (p := ⟨b1, o1 + b, none⟩) hbw).trans R1.out
            go_region_held3 (fun w' => w'.cell? ⟨w.heap.size, 0, none⟩ = some (.slice (some ⟨b1, o1, none⟩) n c) ∧ w'.cell? ⟨g, j, none⟩ = some (.int .i64 b) ∧ w'.cell? ⟨b1, o1 + b, none⟩ = some (.slice (some ⟨bx, ox, none⟩) n cx)) (first | exact ⟨ff0, ff1, ff2⟩ | go_keep) (first | (go_at_call 79; go_must (refine calls_gen fun wc hwc => ?_; (first | have hbx := drew_below hwc | have hbx := eq_below hwc); have HBJ0 := hide (HBI.out.trans (hbx.mono HBI.out.size)); clear hwc hbx; refine (gq_low (index_any _ n _ (f.getD b []) (u : Int) _ HLB.out (by omega) (HRB.out.later (HBW.out.trans (HBJ0.out.mono HBW.out.size))))).mono ?_; rintro e wd ⟨rfl, hbd⟩; rw [HIX.out]; have HBJ := hide (HBJ0.out.trans (hbd.mono HBJ0.out.size)); clear hbd; have ff0 := ((HK1.out.later HBr.out).later HBJ.out).cell 0 _ rfl; have ff1 := (HRD.out.keep HBJ.out).cell1 j (by simpa [gbL_length] using hltj) HEB.out; have ff2 := ((HBW.out.trans (HBJ.out.mono HBW.out.size)).cell (p := ⟨b1, o1 + b, none⟩) hbw).trans R1.out)))
            all_goals
              clear ff0 ff1 ff2
              go_wp2_with fail
              go_roundw
              case rel => exact ⟨j + 1, by omega, by go_num, by rw [HSV.out], HBJ.out⟩
              case measure => simp [intOf]; omega
          · have hjk : j = k := by omega
            subst hjk
            have HOI := hide (ownsRow_below HOr.out HBI.out)
            have hsI : w1.heap.size < wr.heap.size := by have := HBI.out.size; omega
            have HBX := hide (HBr.out.trans (HBI.out.mono HBr.out.size))
            go_wp2_with (at_builtin; refine wpList_append_own _ rfl _ _ 37 rfl w1.heap.size 2 i0 (.int .i64 0) 1 8 Try.underlying37 hi hz0 hz1 hz2 rfl (by decide) _ _ _ rfl (HOI.out.alloc _) ⟨wr.heap.size, 0, none⟩ 1 1 [.int .i64 (gbIn f (gbL f xs j) (elN xs j) j : Nat)] rfl rfl ?c1 ?c2 ?c3 ?c4 ?c5 ?_)
            try (case c1 => exact ne_new)
            try (case c2 => first | rfl | (intro u hu; simp at hu; subst hu; rfl))
            try (case c3 => first | omega | (unfold maxLen; omega))
            try (case c4 => omega)
            try (case c5 => first | omega | (simp; omega))
            intro v' w3 hown' hgrow _
            obtain ⟨gg, cap, hv'⟩ := own_form hown'
            subst hv'
            have HO3 := hide hown'
            have HB3 : Hid (Below w1.heap.size w1 w3) := hide ((HBX.out.alloc HBX.out.size _).grown hgrow (by simp; omega) (fun g hg => ((HOI.out.alloc (.cells #[.int .i64 (gbIn f (gbL f xs j) (elN xs j) j : Nat)] 2)).lt g hg).1))
            have hs3 : w1.heap.size < w3.heap.size := by have := hgrow.size; simp at this; omega
            clear hown' hgrow
            go_wp2_with fail
            go_roundw
            case rel => exact ⟨j + 1, _, _, by omega, by go_num, rfl, HB3.out, hs3, by have h := HO3.out; rw [← ints_snoc] at h; exact h⟩
            case measure => simp [intOf]; omega
      · have hkn : k = kz := by omega
        subst hkn
        have h := HOr.out
        go_wp2_with fail
        go_ret2
        obtain ⟨A2, c2, hv, hres⟩ := own_shape h
        injection hv with e1 e2 e3
        subst e1
        subst e3
        exact ⟨_, _, rfl, HBW.out, by have h2 := hres.mono (B' := w.heap.size) HB1.out.size; unfold gbA; rw [HM.out]; exact h2⟩
  · obtain rfl : kz = 0 := by rw [← hkz]; rfl
    clear hz hm hr hgc hkz
    have hcz : (code != (0 : Int)) = true := by simp [hc0]
    go_enter Try.func35, Try.ntmps35
    have k0 := HK0.out.cell 0 _ rfl
    have k1 := HK0.out.cell 1 _ rfl
    go_wp2_with fail
    clear k0 k1
    refine (guCodeS_any A B C n c k d m e f s xs code _ (HZ.out.later HB0.out) HM.out hb (HR.out.later HB0.out) HGC.out).mono ?_
    rintro e w1 ⟨rfl, hb1⟩
    have HB1 := hide (HB0.out.trans (hb1.mono HB0.out.size))
    clear hb1
    go_wp2_with fail
    go_ret2
    exact ⟨_, _, rfl, HB1.out, .inl ⟨rfl, rfl⟩⟩
end Go.Proofs.Ytpnlmmilnglmkaa
