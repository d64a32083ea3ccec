import Derived.Test.YtaejgmdeiemhcabZbf
import Derived.Test.YtaejgmdeiemhcabZbg
import Derived.Test.YtaejgmdeiemhcabZbe
import Derived.Test.YtaejgmdeiemhcabZas
import Derived.Test.YtaejgmdeiemhcabZak
import Derived.Test.YtaejgmdeiemhcabZbh
namespace Go.Proofs.Ytaejgmdeiemhcab
open Go Go.RowKit
open Classical
set_option maxHeartbeats 1000000
set_option maxRecDepth 100000 in
theorem pmZ_any (A : Option Addr) (n c : Nat) (f : List (List Int)) (B : Option Addr) (d : Nat) (s : List (List Int)) (r : Bool) (w : World) (hz : ZArg 1048576 w A n f B n s) (hg : NdS f s) (hr : r = true ↔ PmF f s) :
    Calls Try.prog 52 #[.agg #[.slice A n c, .slice B n d]] w fun e w' => e = .returned (.bool r) ∧ Below w.heap.size w w' := by
  have hfn := hz.sz.fl
  have h1 : 1 ≤ n := (hz.small hg.map).1
  have h12 : n ≤ 12 := (hz.small hg.map).2
  have HFN := hide hfn
  have HZ := hide hz
  have HG := hide hg
  have HR := hide hr
  have HB0 := hide ((Below.refl _ w).alloc (Nat.le_refl _) (Obj.cells #[Value.slice A n c, Value.slice B n d] 35))
  have HK0 := hide (Blk.new w 35 [.slice A n c, .slice B n d])
  have k0 := HK0.out.cell 0 _ rfl
  have k1 := HK0.out.cell 1 _ rfl
  clear hz hg hr hfn
  by_cases ho : orbN f s = 1
  · have HO := hide ho
    clear ho
    go_enter Try.func52, Try.ntmps52
    go_wp2_with fail
    refine (indZ_any _ _ _ f _ _ s true _ (HZ.out.later HB0.out) HG.out (by simp [HO.out])).mono ?_
    rintro e w1 ⟨rfl, hb1⟩
    have HB1 := hide (HB0.out.trans (hb1.mono HB0.out.size))
    have HK1 := hide (HK0.out.later hb1)
    clear hb1 k0 k1
    go_wp2_with fail
    go_loopw [3] (fun i wr => ∃ y : Nat, 1 ≤ y ∧ y ≤ n ∧ i = .int .i64 (y : Int) ∧ Below w.heap.size w wr ∧ Blk wr w.heap.size 35 [.slice A n c, .slice B n d] ∧ ∀ z, 1 ≤ z → z < y → OneB f s 0 z) (fun i _ => n - (intOf i).toNat)
    case atStart => exact ⟨1, Nat.le_refl _, h1, rfl, HB1.out, HK1.out, fun z h2 h3 => by omega⟩
    case round =>
      clear HB1 HK1
      obtain ⟨y, hy1, hyn, rfl, hbe, hkk, hall⟩ := hrel
      have HB := hide hbe
      have HK := hide hkk
      have HALL := hide hall
      clear hbe hkk hall
      have k0 := HK.out.cell 0 _ rfl
      have k1 := HK.out.cell 1 _ rfl
      by_cases hlt : y < n
      · have hltz : (y : Int) < n := by omega
        go_wp2_with fail
        refine (size_any _ _ _ _ _ _ _ (by omega)).mono ?_
        rintro e w2 ⟨rfl, hb2⟩
        have HB2 := hide (HB.out.trans (hb2.mono HB.out.size))
        have HK2 := hide (HK.out.later hb2)
        clear hb2 k0 k1
        have k0 := HK2.out.cell 0 _ rfl
        have k1 := HK2.out.cell 1 _ rfl
        go_wp2_with fail
        refine (bsI_any _ _ _ f _ _ s 0 y _ (HZ.out.later HB2.out) HG.out (by omega) hlt).mono ?_
        rintro e w3 ⟨g3, c3, rfl, hb3, hg3, ho3⟩
        have HB3 := hide (HB2.out.trans (hb3.mono HB2.out.size))
        have HK3 := hide (HK2.out.later hb3)
        have HO3 := hide ho3
        obtain ⟨m, hm⟩ := IsMax.ex (blL f s 0 y) (by rw [blL_length, HFN.out]; exact h1)
        have hone := oneB_max hm
        have HM := hide hm
        have HONE := hide hone
        clear hb3 hg3 ho3 k0 k1 hm hone
        go_wp2_with fail
        refine (max_any _ n _ (blL f s 0 y) m _ (by rw [blL_length, HFN.out]) h1 (by omega) HO3.out.rd HM.out).mono ?_
        rintro e w4 ⟨rfl, hb4⟩
        have HB4 := hide (HB3.out.trans (hb4.mono HB3.out.size))
        have HK4 := hide (HK3.out.later hb4)
        clear hb4
        by_cases hpos : 0 < m
        · have hno := HONE.out.1 hpos
          have hrf : r = false := by
            cases r
            · rfl
            · exact absurd ((HR.out.1 rfl).2 y hy1 (by rw [HFN.out]; exact hlt)) hno
          subst hrf
          have hgt : decide (0 < m) = true := by simpa using hpos
          have hgt2 : decide (m > 0) = true := hgt
          clear hno
          go_wp2_with fail
          go_ret
          exact ⟨rfl, HB4.out⟩
        · have hyes : OneB f s 0 y := Classical.byContradiction fun h => hpos (HONE.out.2 h)
          have HYES := hide hyes
          have hgt : decide (0 < m) = false := by simpa using hpos
          have hgt2 : decide (m > 0) = false := hgt
          clear hyes
          go_wp2_with fail
          go_roundw
          case rel => exact ⟨y + 1, by omega, by omega, by go_num, HB4.out, HK4.out, fun z h2 h3 => by
            by_cases e : z = y
            · subst e; exact HYES.out
            · exact HALL.out z h2 (by omega)⟩
          case measure => simp [intOf]; omega
      · have hyn2 : y = n := by omega
        have hrt : r = true := HR.out.2 ⟨HO.out, fun z h2 h3 => HALL.out z h2 (by have := HFN.out; omega)⟩
        have hltz : ¬ (y : Int) < n := by omega
        subst hrt
        go_wp2_with fail
        refine (size_any _ _ _ _ _ _ _ (by omega)).mono ?_
        rintro e w2 ⟨rfl, hb2⟩
        have HB2 := hide (HB.out.trans (hb2.mono HB.out.size))
        clear hb2 k0 k1
        go_wp2_with fail
        go_ret
        exact ⟨rfl, HB2.out⟩
  · have hrf : r = false := by
      cases r
      · rfl
      · exact absurd (HR.out.1 rfl).1 ho
    subst hrf
    have HO := hide ho
    clear ho
    go_enter Try.func52, Try.ntmps52
    go_wp2_with fail
    refine (indZ_any _ _ _ f _ _ s false _ (HZ.out.later HB0.out) HG.out (by simp [HO.out])).mono ?_
    rintro e w1 ⟨rfl, hb1⟩
    have HB1 := hide (HB0.out.trans (hb1.mono HB0.out.size))
    clear hb1 k0 k1
    go_wp2_with fail
    go_ret
    exact ⟨rfl, HB1.out⟩
theorem pmwI (A : Option Addr) (n c : Nat) (f : List (List Int)) (B : Option Addr) (m d : Nat) (s : List (List Int)) (v : Bool) (code : Int) (w : World) (hz : ZArg 1048576 w A n f B m s) (hr : PmRes f s v code) :
    Calls Try.prog 25 #[.agg #[.slice A n c, .slice B m d]] w fun e w' => e = .returned (.tuple #[.bool v, .int .i64 code]) ∧ Below w.heap.size w w' := by
  have HZ := hide hz
  have HB0 := hide ((Below.refl _ w).alloc (Nat.le_refl _) (Obj.cells #[Value.slice A n c, Value.slice B m d] 35))
  have HK0 := hide (Blk.new w 35 [.slice A n c, .slice B m d])
  rcases hr with ⟨hg, hv, rfl⟩ | ⟨hg, rfl, rfl⟩
  · obtain rfl := hz.same hg.map
    have h1 := (hg.sizes hz.sz.fl).1
    have h12 := (hg.sizes hz.sz.fl).2.1
    have HG := hide hg
    have HV := hide hv
    clear hv
    clear hg hz
    go_enter Try.func25, Try.ntmps25
    go_wp2_with fail
    refine (nd7I _ _ _ f _ _ _ s true _ (HZ.out.later HB0.out) (by simp [HG.out])).mono ?_
    rintro e w1 ⟨rfl, hb1⟩
    have HB1 := hide (HB0.out.trans (hb1.mono HB0.out.size))
    have HK1 := hide (HK0.out.later hb1)
    have k0 := HK1.out.cell 0 _ rfl
    have k1 := HK1.out.cell 1 _ rfl
    clear hb1
    go_wp2_with fail
    refine (pmZ_any _ _ _ f _ _ s v _ (HZ.out.later HB1.out) HG.out HV.out).mono ?_
    rintro e w2 ⟨rfl, hb2⟩
    have HB2 := hide (HB1.out.trans (hb2.mono HB1.out.size))
    clear hb2 k0 k1
    go_wp2_with fail
    go_ret2
    exact ⟨rfl, HB2.out⟩
  · skip
    have HG := hide hg
    clear hg hz
    go_enter Try.func25, Try.ntmps25
    go_wp2_with fail
    refine (nd7I _ _ _ f _ _ _ s false _ (HZ.out.later HB0.out) (by simp [HG.out])).mono ?_
    rintro e w1 ⟨rfl, hb1⟩
    have HB1 := hide (HB0.out.trans (hb1.mono HB0.out.size))
    clear hb1
    go_wp2_with fail
    go_ret2
    exact ⟨rfl, HB1.out⟩

end Go.Proofs.Ytaejgmdeiemhcab
namespace Go.Proofs.Ytaejgmdeiemhcab
open Go Go.RowKit
open Classical
set_option maxHeartbeats 1000000
theorem pmwS (A : Option Addr) (n c : Nat) (f : List (List Int)) (B : Option Addr) (m d : Nat) (s : List (List Int)) (v : Bool) (code : Int) (w : World) (hz : ZArg 1048576 w A n f B m s) (hr : PmRes f s v code) :
    Calls Try.prog 24 #[.agg #[.slice A n c, .slice B m d]] w fun e w' => e = .returned (.tuple #[.bool v, .int .i64 code]) ∧ Below w.heap.size w w' := by
  have HZ := hide hz
  have HB0 := hide ((Below.refl _ w).alloc (Nat.le_refl _) (Obj.cells #[Value.slice A n c, Value.slice B m d] 35))
  have HK0 := hide (Blk.new w 35 [.slice A n c, .slice B m d])
  rcases hr with ⟨hg, hv, rfl⟩ | ⟨hg, rfl, rfl⟩
  · obtain rfl := hz.same hg.map
    have h1 := (hg.sizes hz.sz.fl).1
    have h12 := (hg.sizes hz.sz.fl).2.1
    have HG := hide hg
    have HV := hide hv
    clear hv
    clear hg hz
    go_enter Try.func24, Try.ntmps24
    go_wp2_with fail
    refine (nd7S _ _ _ f _ _ _ s true _ (HZ.out.later HB0.out) (by simp [HG.out])).mono ?_
    rintro e w1 ⟨rfl, hb1⟩
    have HB1 := hide (HB0.out.trans (hb1.mono HB0.out.size))
    have HK1 := hide (HK0.out.later hb1)
    have k0 := HK1.out.cell 0 _ rfl
    have k1 := HK1.out.cell 1 _ rfl
    clear hb1
    have hfn := HZ.out.sz.fl
    have HFN := hide hfn
    clear hfn
    go_wp2_with fail
    refine (orbS_any _ _ _ f _ _ s _ (HZ.out.later HB1.out) HG.out).mono ?_
    rintro e w2 ⟨A2, c2, rfl, hb2, hobj⟩
    have HB2 := hide (HB1.out.trans (hb2.mono HB1.out.size))
    have HK2 := hide (HK1.out.later hb2)
    have HO2 := hide hobj
    clear hb2 hobj k0 k1
    go_wp2_with fail
    refine (greatest_any _ _ _ (orbS f s) (orbN f s : Int) _ (by rw [orbS_length]; exact HZ.out.sz.fl) (by omega) HO2.out.rd (orb_12 HG.out HZ.out.sz.fl) (orb_great HG.out HZ.out.sz.fl)).mono ?_
    rintro e w3 ⟨rfl, hq3⟩
    have HB3 := hide (HB2.out.trans (hq3.below _))
    have HK3 := hide (HK2.out.later (hq3.below _))
    have hpos := orb_pos HG.out
    obtain ⟨q, hq⟩ : ∃ q, orbN f s = q := ⟨_, rfl⟩
    rw [hq] at hpos ⊢
    have HQ := hide hq
    clear hq3 hq
    by_cases h0 : q = 1
    · have hdec : decide ((q : Int) > 1) = false := by simp; omega
      have hdec2 : decide ((1 : Int) < (q : Int)) = false := hdec
      go_wp2_with fail
      go_loopw [4] (fun i wr => ∃ y : Nat, 1 ≤ y ∧ y ≤ m ∧ i = .int .i64 (y : Int) ∧ Below w.heap.size w wr ∧ Blk wr w.heap.size 35 [.slice A m c, .slice B m d] ∧ ∀ z, 1 ≤ z → z < y → OneB f s 0 z) (fun i _ => m - (intOf i).toNat)
      case atStart => exact ⟨1, Nat.le_refl _, h1, rfl, HB3.out, HK3.out, fun z h2 h3 => by omega⟩
      case round =>
        clear HB3 HK3
        obtain ⟨y, hy1, hyn, rfl, hbe, hkk, hall⟩ := hrel
        have HB := hide hbe
        have HK := hide hkk
        have HALL := hide hall
        clear hbe hkk hall
        have k0 := HK.out.cell 0 _ rfl
        have k1 := HK.out.cell 1 _ rfl
        by_cases hlt : y < m
        · have hltz : (y : Int) < m := by omega
          go_wp2_with fail
          refine (blS_any _ _ _ f _ _ s 0 y _ (HZ.out.later HB.out) HG.out (by omega) hlt).mono ?_
          rintro e w4 ⟨A4, c4, rfl, hb4, hres4⟩
          have HB4 := hide (HB.out.trans (hb4.mono HB.out.size))
          have HK4 := hide (HK.out.later hb4)
          have HO4 := hide hres4
          obtain ⟨G, hG⟩ : ∃ G, gI (blL f s 0 y) m = G := ⟨_, rfl⟩
          have hone := oneB_great (f := f) (s := s) (x := 0) (y := y) HFN.out
          rw [hG] at hone
          have HONE := hide hone
          clear hb4 hres4 k0 k1 hone
          go_wp2_with fail
          refine (greatest_any _ _ _ (blL f s 0 y) G _ (by rw [blL_length]; exact HFN.out) (by omega) HO4.out.rd (fun j _ => blL_12 HFN.out h12 j) hG).mono ?_
          rintro e w5 ⟨rfl, hq5⟩
          have HB5 := hide (HB4.out.trans (hq5.below _))
          have HK5 := hide (HK4.out.later (hq5.below _))
          clear hq5 hG
          by_cases hpos2 : G ≤ 1
          · have hyes := HONE.out.1 hpos2
            have HYES := hide hyes
            have hgt : decide (G > 1) = false := by simp; omega
            have hgt2 : decide (1 < G) = false := hgt
            clear hyes
            go_wp2_with fail
            go_roundw
            case rel => exact ⟨y + 1, by omega, by omega, by go_num, HB5.out, HK5.out, fun z h2 h3 => by
              by_cases e : z = y
              · subst e; exact HYES.out
              · exact HALL.out z h2 (by omega)⟩
            case measure => simp [intOf]; omega
          · have hno : ¬ OneB f s 0 y := fun h => hpos2 (HONE.out.2 h)
            have hrf : v = false := by
              cases v
              · rfl
              · exact absurd ((HV.out.1 rfl).2 y hy1 (by rw [HFN.out]; exact hlt)) hno
            subst hrf
            have hgt : decide (G > 1) = true := by simp; omega
            have hgt2 : decide (1 < G) = true := hgt
            clear hno
            go_wp2_with fail
            go_ret2
            exact ⟨rfl, HB5.out⟩
        · have hrt : v = true := HV.out.2 ⟨HQ.out.trans h0, fun z h2 h3 => HALL.out z h2 (by have := HFN.out; omega)⟩
          have hltz : ¬ (y : Int) < m := by omega
          subst hrt
          go_wp2_with fail
          go_ret2
          exact ⟨rfl, HB.out⟩
    · have hdec : decide ((q : Int) > 1) = true := by simp; omega
      have hdec2 : decide ((1 : Int) < (q : Int)) = true := hdec
      have hrf : v = false := by
        cases v
        · rfl
        · exact absurd (HQ.out.symm.trans (HV.out.1 rfl).1) h0
      subst hrf
      go_wp2_with fail
      go_ret2
      exact ⟨rfl, HB3.out⟩
  · skip
    have HG := hide hg
    clear hg hz
    go_enter Try.func24, Try.ntmps24
    go_wp2_with fail
    refine (nd7S _ _ _ f _ _ _ s false _ (HZ.out.later HB0.out) (by simp [HG.out])).mono ?_
    rintro e w1 ⟨rfl, hb1⟩
    have HB1 := hide (HB0.out.trans (hb1.mono HB0.out.size))
    clear hb1
    go_wp2_with fail
    go_ret2
    exact ⟨rfl, HB1.out⟩

end Go.Proofs.Ytaejgmdeiemhcab
