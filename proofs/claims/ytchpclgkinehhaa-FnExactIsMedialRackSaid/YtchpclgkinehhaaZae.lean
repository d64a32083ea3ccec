import Derived.Test.YtchpclgkinehhaaZw
import Derived.Test.YtchpclgkinehhaaZy
import Derived.Test.YtchpclgkinehhaaZo
namespace Go.Proofs.Ytchpclgkinehhaa
open Go Go.RowKit
set_option maxHeartbeats 4000000

set_option maxRecDepth 100000 in
theorem jwMedialRackS (A : Option Addr) (n c : Nat) (f : List (List Int)) (r : Bool) (code : Int) (w : World) (hn : f.length = n) (hb : n ≤ 1048576) (hbs : ∀ i, i < f.length → (f.getD i []).length ≤ 1048576) (hr : Rd2 w A f) (hres : MdRes f r code) :
    Calls Try.prog 39 #[.agg #[.slice A n c]] w fun e w' => e = .returned (.tuple #[.bool r, .int .i64 code]) ∧ Below w.heap.size w w' := by
  have HN := hide hn
  have HBS := hide hbs
  have HRD := hide hr
  have HB0 := hide ((Below.refl _ w).alloc (Nat.le_refl _) (Obj.cells #[Value.slice A n c] 27))
  have HK0 := hide (Blk.new w 27 [.slice A n c])
  rcases hres with ⟨hp, hrc, rfl⟩ | ⟨hp, rfl, rfl⟩
  · have HTB := hide hp.tbl
    have h1 : 1 ≤ n := by rw [← hn]; exact hp.tbl.1
    have h12 : n ≤ 12 := by rw [← hn]; exact hp.tbl.2.1
    have HRC := hide hrc
    clear hrc
    have HRK : Hid (RkRes f true) := hide (by unfold RkRes; simp [hp])
    have HP := hide hp
    clear hn hbs hr hp
    go_enter Try.func39, Try.ntmps39
    go_wp2_with fail
    refine (isRackS _ _ _ f true _ HN.out hb HBS.out (HRD.out.later HB0.out) HRK.out).mono ?_
    rintro e w1 ⟨rfl, hb1⟩
    have HB1 := hide (HB0.out.trans (hb1.mono HB0.out.size))
    have HK1 := hide (HK0.out.later hb1)
    clear hb1
    obtain ⟨b, o, hA, hbw, hc⟩ := HTB.out.cells HRD.out HN.out
    subst hA
    have HC := hide hc
    clear hc
    have k0 := HK1.out.cell 0 _ rfl
    go_wp2_with fail
    clear k0

    go_loopw [5] (fun i wr => ∃ x : Nat, x ≤ n ∧ i = .int .i64 x ∧ Below w.heap.size w wr ∧ ∀ x', x' < x → ∀ y', y' < n → ∀ z', z' < n → ∀ v', v' < n → Md4 f x' y' z' v') (fun i _ => n - (intOf i).toNat)
    case atStart => exact ⟨0, Nat.zero_le _, rfl, HB1.out, fun i hi => absurd hi (Nat.not_lt_zero _)⟩
    case round =>
      obtain ⟨x, hxn', rfl, hbe, hall⟩ := hrel
      have HX := hide hbe
      have HALLX := hide hall
      clear hbe hall
      by_cases hltx : x < n
      · have hxz : (x : Int) < n := by omega
        go_wp2_with fail
        go_loopw [6] (fun i wr => ∃ y : Nat, y ≤ n ∧ i = .int .i64 y ∧ Below w.heap.size w wr ∧ ∀ y', y' < y → ∀ z', z' < n → ∀ v', v' < n → Md4 f x y' z' v') (fun i _ => n - (intOf i).toNat)
        case atStart => exact ⟨0, Nat.zero_le _, rfl, HX.out, fun i hi => absurd hi (Nat.not_lt_zero _)⟩
        case round =>
          obtain ⟨y, hyn', rfl, hbe, hall⟩ := hrel
          have HY := hide hbe
          have HALLY := hide hall
          clear hbe hall
          by_cases hlty : y < n
          · have hyz : (y : Int) < n := by omega
            go_wp2_with fail
            go_loopw [7] (fun i wr => ∃ z : Nat, z ≤ n ∧ i = .int .i64 z ∧ Below w.heap.size w wr ∧ ∀ z', z' < z → ∀ v', v' < n → Md4 f x y z' v') (fun i _ => n - (intOf i).toNat)
            case atStart => exact ⟨0, Nat.zero_le _, rfl, HY.out, fun i hi => absurd hi (Nat.not_lt_zero _)⟩
            case round =>
              obtain ⟨z, hzn', rfl, hbe, hall⟩ := hrel
              have HZ := hide hbe
              have HALLZ := hide hall
              clear hbe hall
              by_cases hltz : z < n
              · have hzz : (z : Int) < n := by omega
                go_wp2_with fail
                go_loopw [8] (fun i wr => ∃ v : Nat, v ≤ n ∧ i = .int .i64 v ∧ Below w.heap.size w wr ∧ ∀ v', v' < v → Md4 f x y z v') (fun i _ => n - (intOf i).toNat)
                case atStart => exact ⟨0, Nat.zero_le _, rfl, HZ.out, fun i hi => absurd hi (Nat.not_lt_zero _)⟩
                case round =>
                  obtain ⟨v, hvn', rfl, hbe, hall⟩ := hrel
                  have HV := hide hbe
                  have HALLV := hide hall
                  clear hbe hall
                  by_cases hltv : v < n
                  · have hvz : (v : Int) < n := by omega
                    have hs1 := HTB.out.ap_lt HN.out hltx hlty
                    have hs2 := HTB.out.ap_lt HN.out hltz hltv
                    have ht1 := HTB.out.ap_lt HN.out hltx hltz
                    have ht2 := HTB.out.ap_lt HN.out hlty hltv
                    obtain ⟨s1, e0⟩ : ∃ u, ap f x y = u := ⟨_, rfl⟩
                    rw [e0] at hs1
                    obtain ⟨s2, e1⟩ : ∃ u, ap f z v = u := ⟨_, rfl⟩
                    rw [e1] at hs2
                    obtain ⟨t1, e2⟩ : ∃ u, ap f x z = u := ⟨_, rfl⟩
                    rw [e2] at ht1
                    obtain ⟨t2, e3⟩ : ∃ u, ap f y v = u := ⟨_, rfl⟩
                    rw [e3] at ht2
                    obtain ⟨s3, e4⟩ : ∃ u, ap f s1 s2 = u := ⟨_, rfl⟩
                    obtain ⟨t3, e5⟩ : ∃ u, ap f t1 t2 = u := ⟨_, rfl⟩
                    have HAT : Hid (Md4 f x y z v ↔ s3 = t3) := hide (by unfold Md4; rw [e0, e1, e2, e3, e4, e5])
                    obtain ⟨bbx, ox, cx, rx, lx, gx⟩ := HC.out x hltx
                    replace rx := (HV.out.cell (p := ⟨b, o + x, none⟩) hbw).trans rx
                    obtain ⟨bby, oy, cy, ry, ly, gy⟩ := HC.out y hlty
                    replace ry := (HV.out.cell (p := ⟨b, o + y, none⟩) hbw).trans ry
                    obtain ⟨bbz, oz, cz, rz, lz, gz⟩ := HC.out z hltz
                    replace rz := (HV.out.cell (p := ⟨b, o + z, none⟩) hbw).trans rz
                    obtain ⟨bbs1, os1, cs1, rs1, ls1, gs1⟩ := HC.out s1 hs1
                    replace rs1 := (HV.out.cell (p := ⟨b, o + s1, none⟩) hbw).trans rs1
                    obtain ⟨bbt1, ot1, ct1, rt1, lt1, gt1⟩ := HC.out t1 ht1
                    replace rt1 := (HV.out.cell (p := ⟨b, o + t1, none⟩) hbw).trans rt1
                    have d0 := gx y hlty
                    rw [e0] at d0
                    replace d0 := (HV.out.cell (p := ⟨bbx, ox + y, none⟩) lx).trans d0
                    have d1 := gz v hltv
                    rw [e1] at d1
                    replace d1 := (HV.out.cell (p := ⟨bbz, oz + v, none⟩) lz).trans d1
                    have d2 := gx z hltz
                    rw [e2] at d2
                    replace d2 := (HV.out.cell (p := ⟨bbx, ox + z, none⟩) lx).trans d2
                    have d3 := gy v hltv
                    rw [e3] at d3
                    replace d3 := (HV.out.cell (p := ⟨bby, oy + v, none⟩) ly).trans d3
                    have d4 := gs1 s2 hs2
                    rw [e4] at d4
                    replace d4 := (HV.out.cell (p := ⟨bbs1, os1 + s2, none⟩) ls1).trans d4
                    have d5 := gt1 t2 ht2
                    rw [e5] at d5
                    replace d5 := (HV.out.cell (p := ⟨bbt1, ot1 + t2, none⟩) lt1).trans d5
                    have zs1 : (s1 : Int) < n := by omega
                    have zs2 : (s2 : Int) < n := by omega
                    have zt1 : (t1 : Int) < n := by omega
                    have zt2 : (t2 : Int) < n := by omega
                    clear gx gy gz gs1 gt1 e0 e1 e2 e3 e4 e5
                    by_cases hcs : s3 = t3
                    · have HYES := hide (HAT.out.2 hcs)
                      subst hcs
                      go_wp2_with fail
                      go_quiet (fail)
                      go_wp2_with fail
                      go_roundw
                      case rel => exact ⟨v + 1, by omega, by go_num, HV.out.trans ((Quiet.of _ _).below _), fun i hi => by
                        by_cases e : i = v
                        · rw [e]; exact HYES.out
                        · exact HALLV.out i (by omega)⟩
                      case measure => simp [intOf]; omega
                    · have hcz : ¬ (s3 : Int) = t3 := by omega
                      have hrf : r = false := by
                        cases r
                        · rfl
                        · exact absurd (HAT.out.1 (HRC.out.1 rfl x y z v (by have := HN.out; omega) (by have := HN.out; omega) (by have := HN.out; omega) (by have := HN.out; omega))) hcs
                      subst hrf
                      go_wp2_with fail
                      go_quiet (fail)
                      go_wp2_with fail
                      go_ret2
                      exact ⟨rfl, HV.out.trans ((Quiet.of _ _).below _)⟩
                  · have hve : v = n := by omega
                    subst hve
                    go_wp2_with fail
                    go_roundw
                    case rel => exact ⟨z + 1, by omega, by go_num, HV.out, fun i hi => by
                      by_cases e : i = z
                      · rw [e]; exact HALLV.out
                      · exact HALLZ.out i (by omega)⟩
                    case measure => simp [intOf]; omega
              · have hze : z = n := by omega
                subst hze
                go_wp2_with fail
                go_roundw
                case rel => exact ⟨y + 1, by omega, by go_num, HZ.out, fun i hi => by
                  by_cases e : i = y
                  · rw [e]; exact HALLZ.out
                  · exact HALLY.out i (by omega)⟩
                case measure => simp [intOf]; omega
          · have hye : y = n := by omega
            subst hye
            go_wp2_with fail
            go_roundw
            case rel => exact ⟨x + 1, by omega, by go_num, HY.out, fun i hi => by
              by_cases e : i = x
              · rw [e]; exact HALLY.out
              · exact HALLX.out i (by omega)⟩
            case measure => simp [intOf]; omega
      · have hxe : x = n := by omega
        subst hxe
        have hrt : r = true := HRC.out.2 (fun x y z v hx hy hz hv => HALLX.out x (by have := HN.out; omega) y (by have := HN.out; omega) z (by have := HN.out; omega) v (by have := HN.out; omega))
        subst hrt
        go_wp2_with fail
        go_ret2
        exact ⟨rfl, HX.out⟩
  · skip
    have HRK : Hid (RkRes f false) := hide (by unfold RkRes; simp [hp])
    have HP := hide hp
    clear hn hbs hr hp
    go_enter Try.func39, Try.ntmps39
    go_wp2_with fail
    refine (isRackS _ _ _ f false _ HN.out hb HBS.out (HRD.out.later HB0.out) HRK.out).mono ?_
    rintro e w1 ⟨rfl, hb1⟩
    have HB1 := hide (HB0.out.trans (hb1.mono HB0.out.size))
    have HK1 := hide (HK0.out.later hb1)
    clear hb1
    go_wp2_with fail
    go_ret2
    exact ⟨rfl, HB1.out⟩

end Go.Proofs.Ytchpclgkinehhaa
