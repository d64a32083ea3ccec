import Derived.Test.YtgmloaemnbnbgaaZp
import Derived.Test.YtgmloaemnbnbgaaZu
import Derived.Test.YtgmloaemnbnbgaaZl
import Derived.Test.YtgmloaemnbnbgaaZs
import Derived.Test.YtgmloaemnbnbgaaZh
import Derived.Test.YtgmloaemnbnbgaaZd
import Derived.Test.YtgmloaemnbnbgaaZj
import Derived.BigQuiet
import Derived.Deep.RegionWith
import Derived.Test.YtgmloaemnbnbgaaZq
import Derived.Test.YtgmloaemnbnbgaaZm
namespace Go.Proofs.Ytgmloaemnbnbgaa
open Go Go.RowKit
set_option maxHeartbeats 1000000

theorem nd7I (A : Option Addr) (n c : Nat) (f : List (List Int)) (B : Option Addr) (m d : Nat) (s : List (List Int)) (r : Bool) (w : World) (hz : ZArg 1048576 w A n f B m s) (hr : r = true ↔ NdS f s) :
    Calls Try.prog 48 #[.agg #[.slice A n c, .slice B m d]] w fun e w' => e = .returned (.bool r) ∧ Below w.heap.size w w' := by
  have HZ := hide hz
  have HB0 := hide ((Below.refl _ w).alloc (Nat.le_refl _) (Obj.cells #[Value.slice A n c, Value.slice B m d] 29))
  have HK0 := hide (Blk.new w 29 [.slice A n c, .slice B m d])
  by_cases h1 : SolF f s
  · obtain rfl := hz.same h1.1
    have H1 := hide h1
    have hr2 : r = true ↔ NonF f s := by rw [hr]; exact ⟨fun h => h.2, fun h => ⟨h1, h⟩⟩
    have HR2 := hide hr2
    clear h1 hr2 hr hz
    go_enter Try.func48, Try.ntmps48
    go_wp2_with fail
    refine (isI_any _ _ _ f _ _ _ s true _ (HZ.out.later HB0.out) (by unfold IsRes; simp [H1.out])).mono ?_
    rintro e w1 ⟨rfl, hb1⟩
    have HB1 := hide (HB0.out.trans (hb1.mono HB0.out.size))
    have HK1 := hide (HK0.out.later hb1)
    have k0 := HK1.out.cell 0 _ rfl
    have k1 := HK1.out.cell 1 _ rfl
    clear hb1
    go_wp2_with fail
    refine (nonZ_any _ _ _ f _ _ s r _ (HZ.out.later HB1.out) H1.out.1 HR2.out).mono ?_
    rintro e w2 ⟨rfl, hb2⟩
    have HB2 := hide (HB1.out.trans (hb2.mono HB1.out.size))
    clear hb2 k0 k1
    go_wp2_with fail
    go_ret
    exact ⟨rfl, HB2.out⟩
  · have hrf : r = false := by
      cases r
      · rfl
      · exact absurd (hr.1 rfl).1 h1
    subst hrf
    have H1 := hide h1
    clear h1 hr hz
    go_enter Try.func48, Try.ntmps48
    go_wp2_with fail
    refine (isI_any _ _ _ f _ _ _ s false _ (HZ.out.later HB0.out) (by unfold IsRes; simp [H1.out])).mono ?_
    rintro e w1 ⟨rfl, hb1⟩
    have HB1 := hide (HB0.out.trans (hb1.mono HB0.out.size))
    clear hb1
    go_wp2_with fail
    go_ret
    exact ⟨rfl, HB1.out⟩
end Go.Proofs.Ytgmloaemnbnbgaa
namespace Go.Proofs.Ytgmloaemnbnbgaa
open Go Go.RowKit
open Classical
set_option maxHeartbeats 2000000
/-- The least elements of the classes of the first k elements, the others as they are. -/
noncomputable def al8To (f s : List (List Int)) (n k : Nat) : List Int := (List.range n).map fun (i : Nat) => (((if i < k then lst8 f s i else i) : Nat) : Int)
theorem al8To_length (f s : List (List Int)) (n k : Nat) : (al8To f s n k).length = n := by simp [al8To]
theorem al8To_at (f s : List (List Int)) {n k i : Nat} (h : i < n) : (al8To f s n k).getD i 0 = (((if i < k then lst8 f s i else i) : Nat) : Int) := by simp [al8To, h]
theorem al8To_zero (f s : List (List Int)) (n : Nat) : al8To f s n 0 = unitL n := by
  unfold al8To unitL
  refine List.map_congr_left fun i _ => ?_
  rw [if_neg (Nat.not_lt_zero _)]
  rfl
theorem al8To_all (f s : List (List Int)) (n : Nat) : al8To f s n n = lbl8 f s n := by
  unfold al8To lbl8
  refine List.map_congr_left fun i hi => ?_
  rw [if_pos (List.mem_range.1 hi)]
/-- The number that x has behind k elements. -/
noncomputable def v8 (f s : List (List Int)) (x k : Nat) : Nat := if lst8 f s x < k then lst8 f s x else x
theorem v8_zero (f s : List (List Int)) (x : Nat) : v8 f s x 0 = x := by unfold v8; rw [if_neg (Nat.not_lt_zero _)]
theorem v8_all (f s : List (List Int)) (x : Nat) : v8 f s x x = lst8 f s x := by
  unfold v8
  have := lst8_le f s x
  by_cases h : lst8 f s x < x
  · rw [if_pos h]
  · rw [if_neg h]; omega
theorem v8_hit {f s : List (List Int)} {x k : Nat} (h : Alk f s x k) : v8 f s x (k + 1) = lst8 f s k := by
  have h1 : lst8 f s x ≤ k := by
    rcases Nat.lt_or_ge k (lst8 f s x) with h2 | h2
    · exact absurd h (lst8_none h2)
    · exact h2
  unfold v8
  rw [if_pos (by omega), lst8_same h]
theorem v8_miss {f s : List (List Int)} {x k : Nat} (h : ¬ Alk f s x k) : v8 f s x (k + 1) = v8 f s x k := by
  have h1 : lst8 f s x ≠ k := fun e => h (by rw [← e]; exact lst8_alk f s x)
  unfold v8
  by_cases h2 : lst8 f s x < k
  · rw [if_pos h2, if_pos (by omega)]
  · rw [if_neg h2, if_neg (by omega)]
theorem al8_start (f s : List (List Int)) {n x : Nat} (h : x < n) : (al8To f s n x).set x ((v8 f s x 0 : Nat) : Int) = al8To f s n x := by
  refine List.ext_getElem (by simp) fun i h1 h2 => ?_
  rw [List.getElem_set]
  split
  · rename_i e
    subst e
    have h3 := al8To_at f s (k := x) h
    rw [if_neg (Nat.lt_irrefl _)] at h3
    rw [v8_zero]
    simpa [h2] using h3.symm
  · rfl
theorem al8_end (f s : List (List Int)) {n x : Nat} : (al8To f s n x).set x ((v8 f s x x : Nat) : Int) = al8To f s n (x + 1) := by
  refine List.ext_getElem (by simp [al8To_length]) fun i h1 h2 => ?_
  rw [al8To_length] at h2
  rw [List.getElem_set]
  have h3 := al8To_at f s (k := x + 1) h2
  have h4 := al8To_at f s (k := x) h2
  have l3 := al8To_length f s n (x + 1)
  have l4 := al8To_length f s n x
  have e3 : (al8To f s n (x + 1)).getD i 0 = (al8To f s n (x + 1))[i]'(by omega) := by simp [show i < (al8To f s n (x + 1)).length by omega]
  have e4 : (al8To f s n x).getD i 0 = (al8To f s n x)[i]'(by omega) := by simp [show i < (al8To f s n x).length by omega]
  rw [← e3, h3]
  split
  · rename_i e
    subst e
    rw [if_pos (by omega), v8_all]
  · rename_i e
    rw [← e4, h4]
    by_cases h5 : i < x
    · rw [if_pos h5, if_pos (by omega)]
    · rw [if_neg h5, if_neg (by omega)]
theorem al8_get (f s : List (List Int)) {n x y : Nat} (hx : x < n) (hy : y < x) (v : Int) : ((al8To f s n x).set x v).getD y 0 = ((lst8 f s y : Nat) : Int) := by
  rw [List.getD_eq_getElem?_getD, List.getElem?_set_ne (by omega), ← List.getD_eq_getElem?_getD, al8To_at f s (by omega), if_pos hy]
theorem al8_put (f s : List (List Int)) {n x : Nat} (u v : Int) : ((al8To f s n x).set x u).set x v = (al8To f s n x).set x v := by simp
set_option maxRecDepth 100000 in
theorem alikeI_any (A : Option Addr) (n c : Nat) (f : List (List Int)) (B : Option Addr) (d : Nat) (s : List (List Int)) (w : World) (hz : ZArg 1048576 w A n f B n s) (hg : NdS f s) :
    Calls Try.prog 49 #[.agg #[.slice A n c, .slice B n d]] w fun e w' => ∃ g c', e = .returned (.slice (some ⟨g, 0, none⟩) n c') ∧ Below w.heap.size w w' ∧ w.heap.size ≤ g ∧ OwnB 2 w' g (alC f s) := by
  have h1 := (hg.sizes hz.sz.fl).1
  have h12 := (hg.sizes hz.sz.fl).2.1
  have HZ := hide hz
  have HG := hide hg
  have HFL := hide hz.sz.fl
  have HSL := hide hz.sz.sl
  have hgl := hg.lam hz.sz.fl
  have hgr := hg.rho hz.sz.fl
  have HGL : Hid (∀ i, i < n → (f.getD i []).length = n) := hide fun i hi => (hgl i (by have := hz.sz.fl; omega)).1
  have HGR : Hid (∀ i, i < n → ((turnL s).getD i []).length = n) := hide fun i hi => (hgr i (by rw [turnL_length]; have := hz.sz.sl; omega)).1
  obtain ⟨b, o, hA, hbw, hc⟩ := hz.fst (by have := hz.sz.fl; omega)
  subst hA
  have HC : Hid (∀ x, x < n → ∃ Ax cx, w.cell? ⟨b, o + x, none⟩ = some (.slice Ax n cx) ∧ Rd w Ax (f.getD x [])) := hide fun x hx => by
    obtain ⟨Ax, cx, q1, q2⟩ := hc x (by have := hz.sz.fl; omega)
    rw [HGL.out x hx] at q1
    exact ⟨Ax, cx, q1, q2⟩
  have HB0 := hide ((Below.refl _ w).alloc (Nat.le_refl _) (Obj.cells #[Value.slice (some ⟨b, o, none⟩) n c, Value.slice B n d] 29))
  have HK0 := hide (Blk.new w 29 [.slice (some ⟨b, o, none⟩) n c, .slice B n d])
  have k0 := HK0.out.cell 0 _ rfl
  have k1 := HK0.out.cell 1 _ rfl
  clear hz hg hgl hgr hc
  go_enter Try.func49, Try.ntmps49
  go_wp2_with fail
  refine (rhoZ_any _ _ _ f _ _ _ s _ (HZ.out.later HB0.out) HG.out.map).mono ?_
  rintro e w1 ⟨Ar, cr, rfl, hb1, hob⟩
  have HB1 := hide (HB0.out.trans (hb1.mono HB0.out.size))
  have HK1 := hide (HK0.out.later hb1)
  have HRO1 := hide (hob.mono (lo' := w.heap.size) HB0.out.size (Nat.le_refl _))
  clear hb1 hob k0 k1
  have k0 := HK1.out.cell 0 _ rfl
  have k1 := HK1.out.cell 1 _ rfl
  go_wp2_with fail
  refine (size_any _ n _ _ _ _ _ HZ.out.sz.nb).mono ?_
  rintro e w2 ⟨rfl, hb2⟩
  have HB2 := hide (HB1.out.trans (hb2.mono HB1.out.size))
  have HK2 := hide (HK1.out.later hb2)
  have HRO2 := hide ((HRO1.out.later hb2).mono (Nat.le_refl _) hb2.size)
  clear hb2 k0 k1
  go_wp2_with fail
  refine (identityOf_any n _ (by omega)).mono ?_
  rintro e w3 ⟨rfl, hb3, hrow, hs3⟩
  obtain ⟨g, hgg⟩ : ∃ g, w2.heap.size = g := ⟨_, rfl⟩
  rw [hgg] at hrow
  have hgw : w.heap.size < g := by have := HK2.out.lt; omega
  have HRO3 : Hid (Obj2 26 2 w.heap.size g w3 Ar (turnL s)) := hide (by rw [← hgg]; exact HRO2.out.later hb3)
  have HB3 := hide (HB2.out.trans (hb3.mono HB2.out.size))
  have HK3 := hide (HK2.out.later hb3)
  have HO3 : Hid (OwnB 2 w3 g (al8To f s n 0)) := hide (by rw [al8To_zero]; exact hrow.own)
  rw [hgg]
  clear hb3 hrow hs3 hgg HB2 HK2 HRO2
  go_wp2_with fail
  go_loopw [14] (fun i wr => ∃ x : Nat, x ≤ n ∧ i = .int .i64 x ∧ Below w.heap.size w wr ∧ Blk wr w.heap.size 29 [.slice (some ⟨b, o, none⟩) n c, .slice B n d] ∧ Obj2 26 2 w.heap.size g wr Ar (turnL s) ∧ OwnB 2 wr g (al8To f s n x)) (fun i _ => n - (intOf i).toNat)
  case atStart => exact ⟨0, Nat.zero_le _, rfl, HB3.out, HK3.out, HRO3.out, HO3.out⟩
  case round =>
    clear HB3 HK3 HRO3 HO3
    obtain ⟨x, hx, rfl, hbe, hkk, hro, hoo⟩ := hrel
    have HB := hide hbe
    have HK := hide hkk
    have HRO := hide hro
    have HO := hide hoo
    clear hbe hkk hro hoo
    by_cases hlt : x < n
    · have hxz : (x : Int) < n := by omega
      go_wp2_with fail
      obtain ⟨wo, rfl⟩ : ∃ wo : World, wo = wr := ⟨_, rfl⟩
      obtain ⟨Ax, cx, hcx, hrx⟩ := HC.out x hlt
      have HCX := hide hcx
      have HRX := hide hrx
      clear hcx hrx
      go_loopw [18] (fun i wi => ∃ y : Nat, y ≤ x ∧ i = .int .i64 y ∧ Below w.heap.size w wi ∧ Blk wi w.heap.size 29 [.slice (some ⟨b, o, none⟩) n c, .slice B n d] ∧ Obj2 26 2 w.heap.size g wi Ar (turnL s) ∧ OwnB 2 wi g ((al8To f s n x).set x ((v8 f s x y : Nat) : Int))) (fun i _ => x - (intOf i).toNat)
      case atStart => exact ⟨0, Nat.zero_le _, rfl, HB.out, HK.out, HRO.out, by rw [al8_start f s hlt]; exact HO.out⟩
      case round =>
        clear HB HK HRO HO
        obtain ⟨y, hy, rfl, hbi, hki, hri, hoi⟩ := hrel
        have HBc := hide hbi
        have HKc := hide hki
        have HRI := hide hri
        have HOI := hide hoi
        clear hbi hki hri hoi
        by_cases hlty : y < x
        · have hyz : (y : Int) < x := by omega
          have hyn : (y : Int) < n := by omega
          obtain ⟨Ay, cy, hcy, hry⟩ := HC.out y (by omega)
          obtain ⟨b2, o2, hA2, hbw2, hc2⟩ := HRI.out.rd (by rw [turnL_length, HSL.out]; omega)
          subst hA2
          obtain ⟨Rx, dx, hdx, hsx⟩ := hc2 x (by rw [turnL_length, HSL.out]; omega)
          obtain ⟨Ry, dy, hdy, hsy⟩ := hc2 y (by rw [turnL_length, HSL.out]; omega)
          rw [HGR.out x hlt] at hdx
          rw [HGR.out y (by omega)] at hdy
          have HCY := hide hcy
          have HRY := hide hry
          have HDX := hide hdx
          have HDY := hide hdy
          have HSX := hide hsx
          have HSY := hide hsy
          have HQc := hide (Below.refl wr.heap.size wr)
          have HR1 : Hid True := hide trivial
          clear hc2 hcy hry hdx hdy hsx hsy
          have k0 := HKc.out.cell 0 _ rfl
          have ci := (HBc.out.cell (p := ⟨b, o + x, none⟩) hbw).trans HCX.out
          have cj := (HBc.out.cell (p := ⟨b, o + y, none⟩) hbw).trans HCY.out
          have ri := (HQc.out.cell (p := ⟨b2, o2 + x, none⟩) hbw2).trans HDX.out
          have rj := (HQc.out.cell (p := ⟨b2, o2 + y, none⟩) hbw2).trans HDY.out
          have RX := hide (HRX.out.later HBc.out)
          have RY := hide (HRY.out.later HBc.out)
          go_wp2_with fail
          by_cases hr1 : f.getD x [] = f.getD y []
          · replace HR1 := hide hr1
            clear hr1
            by_cases hr2 : (turnL s).getD x [] = (turnL s).getD y []
            · have hal : v8 f s x (y + 1) = lst8 f s y := v8_hit ⟨HR1.out, hr2⟩
              have HAL := hide hal
              have HR2 := hide hr2
              clear hr2 hal
              go_quiet (first | (go_at_call_of 86 (Value.slice Ax n cx); exact quiet_call (eqr_any Ax Ay n cx n cy (f.getD x []) (f.getD y []) true _ (HGL.out x hlt) (HGL.out y (by omega)) (by omega) (by omega) RX.out RY.out ⟨fun _ => HR1.out, fun _ => rfl⟩)) | (go_at_call_of 86 (Value.slice Rx n dx); exact quiet_call (eqr_any Rx Ry n dx n dy ((turnL s).getD x []) ((turnL s).getD y []) true _ (HGR.out x hlt) (HGR.out y (by omega)) (by omega) (by omega) HSX.out HSY.out ⟨fun _ => HR2.out, fun _ => rfl⟩)))
              have hW : Below wr.heap.size wr (wr.drewN nq) := (Quiet.of wr nq).below _
              have HW := hide hW
              clear k0 ci cj ri rj hW
              have HO6 := hide (HOI.out.later HW.out HOI.out.lt)
              have HR6 := hide (HRI.out.later HW.out)
              have hlen : ((al8To f s n x).set x ((v8 f s x y : Nat) : Int)).length = n := by rw [List.length_set, al8To_length]
              have hcy := HO6.out.cell (i := y) (by rw [hlen]; omega)
              rw [al8_get f s hlt hlty] at hcy
              have hcx := HO6.out.cell (i := x) (by rw [hlen]; exact hlt)
              have hfx := HO6.out.frozen x
              have hset := HO6.out.set x ((lst8 f s y : Nat) : Int) (by rw [hlen]; exact hlt)
              rw [al8_put, ← HAL.out] at hset
              rw [← HAL.out] at hcy
              obtain ⟨old, hold⟩ : ∃ old, ((al8To f s n x).set x ((v8 f s x y : Nat) : Int)).getD x 0 = old := ⟨_, rfl⟩
              rw [hold] at hcx
              obtain ⟨nv, hnv⟩ : ∃ nv, ((v8 f s x (y + 1) : Nat) : Int) = nv := ⟨_, rfl⟩
              rw [hnv] at hset hcy
              have HS := hide hset
              have HNV := hide hnv
              clear hset hlen hold hnv
              go_wp2_with fail
              go_roundw
              case rel => exact ⟨y + 1, by omega, by go_num, (HBc.out.trans (HW.out.mono HBc.out.size)).setCell (p := ⟨g, x, none⟩) (by show w.heap.size ≤ g; omega) _, (HKc.out.later HW.out).far (p := ⟨g, x, none⟩) (by show w.heap.size ≠ g; omega) _, HR6.out.set (p := ⟨g, x, none⟩) (.inr (Nat.le_refl _)) _, by rw [HNV.out]; exact HS.out⟩
              case measure => simp [intOf]; omega
            · have HR2 := hide hr2
              clear hr2
              have hal : v8 f s x (y + 1) = v8 f s x y := v8_miss fun h => HR2.out h.2
              have HAL := hide hal
              clear hal
              go_quiet (first | (go_at_call_of 86 (Value.slice Ax n cx); exact quiet_call (eqr_any Ax Ay n cx n cy (f.getD x []) (f.getD y []) true _ (HGL.out x hlt) (HGL.out y (by omega)) (by omega) (by omega) RX.out RY.out ⟨fun _ => HR1.out, fun _ => rfl⟩)) | (go_at_call_of 86 (Value.slice Rx n dx); exact quiet_call (eqr_any Rx Ry n dx n dy ((turnL s).getD x []) ((turnL s).getD y []) false _ (HGR.out x hlt) (HGR.out y (by omega)) (by omega) (by omega) HSX.out HSY.out ⟨fun hq => absurd hq (by decide), fun hq => absurd hq HR2.out⟩)))
              clear k0 ci cj ri rj
              have hW : Below wr.heap.size wr (wr.drewN nq) := (Quiet.of wr nq).below _
              have HW := hide hW
              clear hW
              go_wp2_with fail
              go_roundw
              case rel => exact ⟨y + 1, by omega, by go_num, HBc.out.trans (HW.out.mono HBc.out.size), HKc.out.later HW.out, HRI.out.later HW.out, by rw [HAL.out]; exact HOI.out.later HW.out HOI.out.lt⟩
              case measure => simp [intOf]; omega
          · replace HR1 := hide hr1
            have HR2 : Hid True := hide trivial
            clear hr1
            have hal : v8 f s x (y + 1) = v8 f s x y := v8_miss fun h => HR1.out h.1
            have HAL := hide hal
            clear hal
            go_quiet ((go_at_call_of 86 (Value.slice Ax n cx); exact quiet_call (eqr_any Ax Ay n cx n cy (f.getD x []) (f.getD y []) false _ (HGL.out x hlt) (HGL.out y (by omega)) (by omega) (by omega) RX.out RY.out ⟨fun hq => absurd hq (by decide), fun hq => absurd hq HR1.out⟩)))
            clear k0 ci cj ri rj
            have hW : Below wr.heap.size wr (wr.drewN nq) := (Quiet.of wr nq).below _
            have HW := hide hW
            clear hW
            go_wp2_with fail
            go_roundw
            case rel => exact ⟨y + 1, by omega, by go_num, HBc.out.trans (HW.out.mono HBc.out.size), HKc.out.later HW.out, HRI.out.later HW.out, by rw [HAL.out]; exact HOI.out.later HW.out HOI.out.lt⟩
            case measure => simp [intOf]; omega
        · have hyx : y = x := by omega
          subst hyx
          have hend := al8_end f s (n := n) (x := y)
          have HE := hide hend
          clear hend
          go_wp2_with fail
          go_roundw
          case rel => exact ⟨y + 1, by omega, by go_num, HBc.out, HKc.out, HRI.out, by rw [← HE.out]; exact HOI.out⟩
          case measure => simp [intOf]; omega
    · have hxn : x = n := by omega
      subst hxn
      have hall := al8To_all f s x
      have HALL := hide hall
      clear hall
      go_wp2_with fail
      refine (numberAnew_any g x _ (al8To f s x x) _ (al8To_length f s x x) h12 (by rw [HALL.out]; exact lbl8_rng f s x h12) HO.out).mono ?_
      rintro e w4 ⟨rfl, ht4, ho4⟩
      have HB4 := hide (Touch.below HB.out ht4 HB.out.size (by omega))
      have HO4 := hide ho4
      clear ht4 ho4
      go_wp2_with fail
      go_ret
      refine ⟨_, _, rfl, HB4.out, by omega, ?_⟩
      unfold alC
      rw [HFL.out, ← HALL.out]
      exact HO4.out
end Go.Proofs.Ytgmloaemnbnbgaa
namespace Go.Proofs.Ytgmloaemnbnbgaa
open Go Go.RowKit
open Classical
/-! The retract of a nondegenerate solution. -/
theorem prm_hit {p : List Int} {n c : Nat} (h : Prm p) (hl : p.length = n) (hc : c < n) : ∃ x, x < n ∧ p.getD x 0 = (c : Int) := by
  obtain ⟨i, hi, e⟩ := List.getElem_of_mem (((prm_iff p).1 h).2.2 (c : Int) (by omega) (by omega))
  exact ⟨i, by omega, by simpa [hi] using e⟩
theorem prm_one {p : List Int} {n x y : Nat} (h : Prm p) (hl : p.length = n) (hx : x < n) (hy : y < n) (e : p.getD x 0 = p.getD y 0) : x = y := by
  have hx' : x < p.length := by omega
  have hy' : y < p.length := by omega
  have e2 : p[x] = p[y] := by simpa [hx', hy'] using e
  have hn := List.pairwise_iff_getElem.1 h.2.2.2
  rcases Nat.lt_trichotomy x y with h1 | h1 | h1
  · exact absurd e2 (hn x y hx' hy' h1)
  · exact h1
  · exact absurd e2.symm (hn y x hy' hx' h1)
theorem prm_of {p : List Int} {n : Nat} (hl : p.length = n) (h1 : 1 ≤ n) (h12 : n ≤ 12) (h : ∀ c, c < n → ∃ x, x < n ∧ p.getD x 0 = (c : Int)) : Prm p := by
  refine (prm_iff p).2 ⟨by omega, by omega, fun v h0 hv => ?_⟩
  obtain ⟨x, hx, e⟩ := h v.toNat (by omega)
  have e2 : p.getD x 0 = v := by rw [e]; omega
  rw [← e2]
  have hx' : x < p.length := by omega
  simp [hx']
theorem row_ext {p q : List Int} {n : Nat} (hl : p.length = n) (hm : q.length = n) (h : ∀ x, x < n → p.getD x 0 = q.getD x 0) : p = q := by
  refine List.ext_getElem (by omega) fun i h1 h2 => ?_
  have := h i (by omega)
  simpa [h1, h2] using this
theorem ap_of {n : Nat} (h : Nat → Nat → Nat) {a b : Nat} (ha : a < n) (hb : b < n) : ap (grid n fun a b => ((h a b : Nat) : Int)) a b = h a b := by
  unfold ap
  rw [grid_at n _ a b ha hb]
  omega
theorem tbl_of {n : Nat} (h : Nat → Nat → Nat) (h1 : 1 ≤ n) (h12 : n ≤ 12) (hh : ∀ a b, a < n → b < n → h a b < n) : Tbl (grid n fun a b => ((h a b : Nat) : Int)) := by
  refine ⟨by rw [grid_length]; exact h1, by rw [grid_length]; exact h12, fun i hi => ?_⟩
  rw [grid_length] at hi
  refine ⟨by rw [grid_row_length n _ i hi, grid_length], fun j hj => ?_⟩
  rw [grid_length] at hj
  rw [grid_at n _ i j hi hj, grid_length]
  have := hh i j hi hj
  omega
section
variable {f s : List (List Int)} {n : Nat}
theorem NdS.lt1 (hg : NdS f s) (hn : f.length = n) {x y : Nat} (hx : x < n) (hy : y < n) : ap f x y < n := hg.map.1.ap_lt hn hx hy
theorem NdS.lt2 (hg : NdS f s) (hn : f.length = n) {x y : Nat} (hx : x < n) (hy : y < n) : ap s x y < n := hg.map.2.1.ap_lt (hg.sizes hn).2.2 hx hy
theorem NdS.at1 (hg : NdS f s) (hn : f.length = n) {x y : Nat} (hx : x < n) (hy : y < n) : (f.getD x []).getD y 0 = ((ap f x y : Nat) : Int) := hg.map.1.ap_eq hn hx hy
theorem NdS.at2 (hg : NdS f s) (hn : f.length = n) {x y : Nat} (hx : x < n) (hy : y < n) : ((turnL s).getD y []).getD x 0 = ((ap s x y : Nat) : Int) := by
  have hs := (hg.sizes hn).2.2
  unfold turnL
  rw [grid_at _ _ _ _ (by omega) (by omega)]
  exact hg.map.2.1.ap_eq hs hx hy
theorem NdS.lamOnto (hg : NdS f s) (hn : f.length = n) {a c : Nat} (ha : a < n) (hc : c < n) : ∃ x, x < n ∧ ap f a x = c := by
  have h := hg.lam hn a (by omega)
  obtain ⟨x, hx, e⟩ := prm_hit h.2 h.1 hc
  rw [hg.at1 hn ha hx] at e
  exact ⟨x, hx, by omega⟩
theorem NdS.lamInj (hg : NdS f s) (hn : f.length = n) {a x y : Nat} (ha : a < n) (hx : x < n) (hy : y < n) (e : ap f a x = ap f a y) : x = y := by
  have h := hg.lam hn a (by omega)
  exact prm_one h.2 h.1 hx hy (by rw [hg.at1 hn ha hx, hg.at1 hn ha hy, e])
theorem NdS.rhoOnto (hg : NdS f s) (hn : f.length = n) {b c : Nat} (hb : b < n) (hc : c < n) : ∃ x, x < n ∧ ap s x b = c := by
  have hs := (hg.sizes hn).2.2
  have h := hg.rho hn b (by rw [turnL_length]; omega)
  obtain ⟨x, hx, e⟩ := prm_hit h.2 h.1 hc
  rw [hg.at2 hn hx hb] at e
  exact ⟨x, hx, by omega⟩
theorem NdS.rhoInj (hg : NdS f s) (hn : f.length = n) {b x y : Nat} (hb : b < n) (hx : x < n) (hy : y < n) (e : ap s x b = ap s y b) : x = y := by
  have hs := (hg.sizes hn).2.2
  have h := hg.rho hn b (by rw [turnL_length]; omega)
  exact prm_one h.2 h.1 hx hy (by rw [hg.at2 hn hx hb, hg.at2 hn hy hb, e])
theorem lef_at (f s : List (List Int)) (x y z : Nat) : lef f s (x, y, z) = (ap f (ap f x y) (ap f (ap s x y) z), ap s (ap f x y) (ap f (ap s x y) z), ap s (ap s x y) z) := rfl
theorem rig_at (f s : List (List Int)) (x y z : Nat) : rig f s (x, y, z) = (ap f x (ap f y z), ap f (ap s x (ap f y z)) (ap s y z), ap s (ap s x (ap f y z)) (ap s y z)) := rfl
theorem NdS.eqn (hg : NdS f s) (hn : f.length = n) {x y z : Nat} (hx : x < n) (hy : y < n) (hz : z < n) : lef f s (x, y, z) = rig f s (x, y, z) := by
  subst hn
  have h := hg.1.2.2.1 _ (trip_lt hx hy hz)
  unfold Eq3 at h
  rw [trip_of hy hz] at h
  exact h
theorem NdS.e1 (hg : NdS f s) (hn : f.length = n) {x y z : Nat} (hx : x < n) (hy : y < n) (hz : z < n) : ap f (ap f x y) (ap f (ap s x y) z) = ap f x (ap f y z) := by
  have h := hg.eqn hn hx hy hz
  rw [lef_at, rig_at] at h
  exact congrArg (fun t => t.1) h
theorem NdS.e3 (hg : NdS f s) (hn : f.length = n) {x y z : Nat} (hx : x < n) (hy : y < n) (hz : z < n) : ap s (ap s x y) z = ap s (ap s x (ap f y z)) (ap s y z) := by
  have h := hg.eqn hn hx hy hz
  rw [lef_at, rig_at] at h
  exact congrArg (fun t => t.2.2) h
theorem alk_iff (hg : NdS f s) (hn : f.length = n) {a b : Nat} (ha : a < n) (hb : b < n) : Alk f s a b ↔ ∀ x, x < n → ap f a x = ap f b x ∧ ap s x a = ap s x b := by
  have hs := (hg.sizes hn).2.2
  constructor
  · intro h x hx
    have h1 := hg.at1 hn ha hx
    have h2 := hg.at1 hn hb hx
    have h3 := hg.at2 hn hx ha
    have h4 := hg.at2 hn hx hb
    rw [h.1] at h1
    rw [h.2] at h3
    omega
  · intro h
    refine ⟨row_ext (hg.lam hn a (by omega)).1 (hg.lam hn b (by omega)).1 fun x hx => ?_, row_ext (hg.rho hn a (by rw [turnL_length]; omega)).1 (hg.rho hn b (by rw [turnL_length]; omega)).1 fun x hx => ?_⟩
    · rw [hg.at1 hn ha hx, hg.at1 hn hb hx, (h x hx).1]
    · rw [hg.at2 hn hx ha, hg.at2 hn hx hb, (h x hx).2]
/-- A solution leads elements that act alike to elements that do. -/
theorem alk_right (hg : NdS f s) (hn : f.length = n) {x y y' : Nat} (hx : x < n) (hy : y < n) (hy' : y' < n) (h : Alk f s y y') : Alk f s (ap f x y) (ap f x y') ∧ ap s x y = ap s x y' := by
  have hk := (alk_iff hg hn hy hy').1 h
  have es : ap s x y = ap s x y' := (hk x hx).2
  refine ⟨(alk_iff hg hn (hg.lt1 hn hx hy) (hg.lt1 hn hx hy')).2 fun w hw => ⟨?_, ?_⟩, es⟩
  · obtain ⟨z, hz, rfl⟩ := hg.lamOnto hn (hg.lt2 hn hx hy) hw
    rw [hg.e1 hn hx hy hz, es, hg.e1 hn hx hy' hz, (hk z hz).1]
  · refine hg.rhoInj hn (b := ap s x y) (hg.lt2 hn hx hy) (hg.lt2 hn hw (hg.lt1 hn hx hy)) (hg.lt2 hn hw (hg.lt1 hn hx hy')) ?_
    have h1 := hg.e3 hn hw hx hy
    have h2 := hg.e3 hn hw hx hy'
    have h3 := (hk (ap s w x) (hg.lt2 hn hw hx)).2
    rw [← h1, h3, h2, es]
theorem alk_left (hg : NdS f s) (hn : f.length = n) {x x' y : Nat} (hx : x < n) (hx' : x' < n) (hy : y < n) (h : Alk f s x x') : ap f x y = ap f x' y ∧ Alk f s (ap s x y) (ap s x' y) := by
  have hk := (alk_iff hg hn hx hx').1 h
  have ef : ap f x y = ap f x' y := (hk y hy).1
  refine ⟨ef, (alk_iff hg hn (hg.lt2 hn hx hy) (hg.lt2 hn hx' hy)).2 fun w hw => ⟨?_, ?_⟩⟩
  · refine hg.lamInj hn (a := ap f x y) (hg.lt1 hn hx hy) (hg.lt1 hn (hg.lt2 hn hx hy) hw) (hg.lt1 hn (hg.lt2 hn hx' hy) hw) ?_
    have h1 := hg.e1 hn hx hy hw
    have h2 := hg.e1 hn hx' hy hw
    rw [h1, ef, h2, (hk _ (hg.lt1 hn hy hw)).1]
  · obtain ⟨z, hz, rfl⟩ := hg.rhoOnto hn (hg.lt1 hn hx hy) hw
    have h1 := hg.e3 hn hz hx hy
    have h2 := hg.e3 hn hz hx' hy
    rw [← h1, (hk z hz).2, h2, ef]
theorem cl8_ap (hg : NdS f s) (hn : f.length = n) {x x' y y' : Nat} (hx : x < n) (hx' : x' < n) (hy : y < n) (hy' : y' < n) (h1 : cl8 f s x = cl8 f s x') (h2 : cl8 f s y = cl8 f s y') :
    cl8 f s (ap f x y) = cl8 f s (ap f x' y') ∧ cl8 f s (ap s x y) = cl8 f s (ap s x' y') := by
  have k1 := (cl8_eq hn hx hx').1 h1
  have k2 := (cl8_eq hn hy hy').1 h2
  have a1 := alk_right hg hn hx hy hy' k2
  have a2 := alk_left hg hn hx hx' hy' k1
  refine ⟨(cl8_eq hn (hg.lt1 hn hx hy) (hg.lt1 hn hx' hy')).2 (a1.1.trans ?_), (cl8_eq hn (hg.lt2 hn hx hy) (hg.lt2 hn hx' hy')).2 ?_⟩
  · rw [a2.1]; exact Alk.refl _ _ _
  · rw [a1.2]; exact a2.2
/-- The least element of a class. -/
noncomputable def rep8 (f s : List (List Int)) (c : Nat) : Nat := (ixOf (alC f s) (c : Int)).toNat
theorem rep8_ok (hn : f.length = n) {c : Nat} (hc : c < alN f s) : ixOf (alC f s) (c : Int) = ((rep8 f s c : Nat) : Int) ∧ rep8 f s c < n ∧ cl8 f s (rep8 f s c) = c := by
  obtain ⟨x, hx, e⟩ := cl8_onto hn hc
  have hl := alC_length f s
  have hat := alC_at (s := s) hn hx
  rw [e] at hat
  have hm : (c : Int) ∈ alC f s := by
    rw [← hat]
    have : x < (alC f s).length := by omega
    simp [this]
  have h1 := List.idxOf_lt_length_of_mem hm
  have h2 : rep8 f s c = (alC f s).idxOf (c : Int) := by unfold rep8 ixOf; rw [if_pos hm]; omega
  refine ⟨?_, by omega, ?_⟩
  · rw [h2]; unfold ixOf; rw [if_pos hm]
  · rw [h2]
    have h3 := List.getElem_idxOf h1
    unfold cl8
    rw [List.getD_eq_getElem?_getD, List.getElem?_eq_getElem h1, h3]
    rfl
/-- The tables of the retract. -/
noncomputable def rtA (f s : List (List Int)) (a b : Nat) : Nat := cl8 f s (ap f (rep8 f s a) (rep8 f s b))
noncomputable def rtB (f s : List (List Int)) (a b : Nat) : Nat := cl8 f s (ap s (rep8 f s a) (rep8 f s b))
noncomputable def rt1 (f s : List (List Int)) : List (List Int) := grid (alN f s) fun a b => ((rtA f s a b : Nat) : Int)
noncomputable def rt2 (f s : List (List Int)) : List (List Int) := grid (alN f s) fun a b => ((rtB f s a b : Nat) : Int)
theorem rt1_length (f s : List (List Int)) : (rt1 f s).length = alN f s := grid_length _ _
theorem rt2_length (f s : List (List Int)) : (rt2 f s).length = alN f s := grid_length _ _
theorem rtA_cl (hg : NdS f s) (hn : f.length = n) {x y : Nat} (hx : x < n) (hy : y < n) : rtA f s (cl8 f s x) (cl8 f s y) = cl8 f s (ap f x y) := by
  have r1 := rep8_ok (s := s) hn (cl8_lt hn hx)
  have r2 := rep8_ok (s := s) hn (cl8_lt hn hy)
  exact (cl8_ap hg hn r1.2.1 hx r2.2.1 hy r1.2.2 r2.2.2).1
theorem rtB_cl (hg : NdS f s) (hn : f.length = n) {x y : Nat} (hx : x < n) (hy : y < n) : rtB f s (cl8 f s x) (cl8 f s y) = cl8 f s (ap s x y) := by
  have r1 := rep8_ok (s := s) hn (cl8_lt hn hx)
  have r2 := rep8_ok (s := s) hn (cl8_lt hn hy)
  exact (cl8_ap hg hn r1.2.1 hx r2.2.1 hy r1.2.2 r2.2.2).2
theorem rtA_lt (hg : NdS f s) {a b : Nat} (ha : a < alN f s) (hb : b < alN f s) : rtA f s a b < alN f s :=
  cl8_lt rfl (hg.lt1 rfl (rep8_ok rfl ha).2.1 (rep8_ok rfl hb).2.1)
theorem rtB_lt (hg : NdS f s) {a b : Nat} (ha : a < alN f s) (hb : b < alN f s) : rtB f s a b < alN f s :=
  cl8_lt rfl (hg.lt2 rfl (rep8_ok rfl ha).2.1 (rep8_ok rfl hb).2.1)
theorem rt_map (hg : NdS f s) : PMap (rt1 f s) (rt2 f s) := by
  have h1 := (hg.sizes rfl).1
  have h12 := (hg.sizes rfl).2.1
  have hp := alN_pos (s := s) rfl h1
  have hl := alN_le (s := s) (f := f) rfl
  exact ⟨tbl_of _ hp (by omega) fun a b ha hb => rtA_lt hg ha hb, tbl_of _ hp (by omega) fun a b ha hb => rtB_lt hg ha hb, by rw [rt1_length, rt2_length]⟩
theorem ap_rt1 {a b : Nat} (ha : a < alN f s) (hb : b < alN f s) : ap (rt1 f s) a b = rtA f s a b := ap_of (rtA f s) ha hb
theorem ap_rt2 {a b : Nat} (ha : a < alN f s) (hb : b < alN f s) : ap (rt2 f s) a b = rtB f s a b := ap_of (rtB f s) ha hb
theorem rt1_cl (hg : NdS f s) (hn : f.length = n) {x y : Nat} (hx : x < n) (hy : y < n) : ap (rt1 f s) (cl8 f s x) (cl8 f s y) = cl8 f s (ap f x y) := by
  rw [ap_rt1 (cl8_lt hn hx) (cl8_lt hn hy), rtA_cl hg hn hx hy]
theorem rt2_cl (hg : NdS f s) (hn : f.length = n) {x y : Nat} (hx : x < n) (hy : y < n) : ap (rt2 f s) (cl8 f s x) (cl8 f s y) = cl8 f s (ap s x y) := by
  rw [ap_rt2 (cl8_lt hn hx) (cl8_lt hn hy), rtB_cl hg hn hx hy]
theorem rt_eqn (hg : NdS f s) (hn : f.length = n) {x y z : Nat} (hx : x < n) (hy : y < n) (hz : z < n) :
    lef (rt1 f s) (rt2 f s) (cl8 f s x, cl8 f s y, cl8 f s z) = rig (rt1 f s) (rt2 f s) (cl8 f s x, cl8 f s y, cl8 f s z) := by
  have hxy1 := hg.lt1 hn hx hy
  have hxy2 := hg.lt2 hn hx hy
  have hyz1 := hg.lt1 hn hy hz
  have hyz2 := hg.lt2 hn hy hz
  have h := hg.eqn hn hx hy hz
  rw [lef_at, rig_at] at h
  have g1 := congrArg (fun t => t.1) h
  have g2 := congrArg (fun t => t.2.1) h
  have g3 := congrArg (fun t => t.2.2) h
  dsimp only at g1 g2 g3
  rw [lef_at, rig_at, rt1_cl hg hn hx hy, rt2_cl hg hn hx hy, rt1_cl hg hn hy hz, rt2_cl hg hn hy hz, rt1_cl hg hn hxy2 hz, rt2_cl hg hn hxy2 hz, rt1_cl hg hn hx hyz1, rt2_cl hg hn hx hyz1, rt1_cl hg hn hxy1 (hg.lt1 hn hxy2 hz), rt2_cl hg hn hxy1 (hg.lt1 hn hxy2 hz), rt1_cl hg hn (hg.lt2 hn hx hyz1) hyz2, rt2_cl hg hn (hg.lt2 hn hx hyz1) hyz2, g1, g2, g3]
/-- A map of a square onto itself leads no two pairs to one. -/
theorem nocol_of_onto {f s : List (List Int)} {n : Nat} (hl : ∀ x y, x < n → y < n → ap f x y < n ∧ ap s x y < n) (ho : ∀ u v, u < n → v < n → ∃ x y, x < n ∧ y < n ∧ ap f x y = u ∧ ap s x y = v) : NoCol f s n := by
  let xs : List Int := (List.range (n * n)).map fun k => (((ledK f s n k).1 * n + (ledK f s n k).2 : Nat) : Int)
  have hlen : xs.length = n * n := by simp [xs]
  have hnd : xs.Nodup := ((perm_iff xs).1 (fun v h0 hv => by
    rw [hlen] at hv
    have hnn : v.toNat < n * n := by omega
    have hpos : 0 < n := Nat.pos_of_ne_zero fun e => by subst e; simp at hnn
    have hu : v.toNat / n < n := Nat.div_lt_of_lt_mul hnn
    have hw : v.toNat % n < n := Nat.mod_lt _ hpos
    obtain ⟨x, y, hx, hy, e1, e2⟩ := ho _ _ hu hw
    refine List.mem_map.2 ⟨x * n + y, List.mem_range.2 (pair_lt n x y hx hy), ?_⟩
    unfold ledK
    rw [pair_div n x y hy, pair_mod n x y hy, e1, e2]
    have := Nat.div_add_mod v.toNat n
    rw [Nat.mul_comm] at this
    show ((v.toNat / n * n + v.toNat % n : Nat) : Int) = v
    rw [this]
    omega)).2
  intro i j hi hj hne e
  have hij : ∀ a b, a < n * n → b < n * n → a < b → ledK f s n a = ledK f s n b → False := fun a b ha hb hab e => by
    have h := List.pairwise_iff_getElem.1 hnd a b (by omega) (by omega) hab
    apply h
    simp [xs, e]
  rcases Nat.lt_or_gt_of_ne hne with h | h
  · exact hij i j hi hj h e
  · exact hij j i hj hi h e.symm
/-- The retract is nondegenerate. -/
theorem rt_nds (hg : NdS f s) : NdS (rt1 f s) (rt2 f s) := by
  have h1 := (hg.sizes rfl).1
  have h12 := (hg.sizes rfl).2.1
  have hp := alN_pos (s := s) rfl h1
  have hl := alN_le (s := s) (f := f) rfl
  have hm := rt_map hg
  refine ⟨⟨hm, ?_, ?_⟩, ?_, ?_⟩
  · rw [rt1_length]
    refine nocol_of_onto (fun x y hx hy => ⟨by rw [ap_rt1 hx hy]; exact rtA_lt hg hx hy, by rw [ap_rt2 hx hy]; exact rtB_lt hg hx hy⟩) fun u v hu hv => ?_
    obtain ⟨a, ha, rfl⟩ := cl8_onto rfl hu
    obtain ⟨b, hb, rfl⟩ := cl8_onto rfl hv
    obtain ⟨hlt, hled⟩ := bk_spec hg.map rfl hg.1.2.1 ha hb
    have hx : bk f s f.length a b / f.length < f.length := Nat.div_lt_of_lt_mul hlt
    have hy : bk f s f.length a b % f.length < f.length := Nat.mod_lt _ (by omega)
    refine ⟨cl8 f s (bk f s f.length a b / f.length), cl8 f s (bk f s f.length a b % f.length), cl8_lt rfl hx, cl8_lt rfl hy, ?_, ?_⟩
    · rw [rt1_cl hg rfl hx hy]; exact congrArg (fun q => cl8 f s q.1) hled
    · rw [rt2_cl hg rfl hx hy]; exact congrArg (fun q => cl8 f s q.2) hled
  · rw [rt1_length]
    refine ⟨fun i hi => ?_, Nat.le_refl _, fun h => absurd h (Nat.lt_irrefl _)⟩
    have hd : i / alN f s < alN f s * alN f s := Nat.div_lt_of_lt_mul (by rw [Nat.mul_comm]; exact hi)
    have hx : i / alN f s / alN f s < alN f s := Nat.div_lt_of_lt_mul hd
    have hy : i / alN f s % alN f s < alN f s := Nat.mod_lt _ hp
    have hz : i % alN f s < alN f s := Nat.mod_lt _ hp
    obtain ⟨x, hx', ex⟩ := cl8_onto rfl hx
    obtain ⟨y, hy', ey⟩ := cl8_onto rfl hy
    obtain ⟨z, hz', ez⟩ := cl8_onto rfl hz
    have h := rt_eqn hg rfl hx' hy' hz'
    rw [ex, ey, ez] at h
    exact h
  · intro i hi
    rw [rt1_length] at hi
    have hrow : ((rt1 f s).getD i []).length = alN f s := grid_row_length _ _ _ hi
    refine prm_of hrow hp (by omega) fun c hc => ?_
    obtain ⟨z, hz, rfl⟩ := cl8_onto rfl hc
    obtain ⟨w, hw, e⟩ := hg.lamOnto rfl (rep8_ok rfl hi).2.1 hz
    refine ⟨cl8 f s w, cl8_lt rfl hw, ?_⟩
    have h2 := rt1_cl hg rfl (rep8_ok rfl hi).2.1 hw
    rw [(rep8_ok rfl hi).2.2, e] at h2
    rw [hm.1.ap_eq (rt1_length f s) hi (cl8_lt rfl hw), h2]
  · intro i hi
    rw [turnL_length, rt2_length] at hi
    have hrow : ((turnL (rt2 f s)).getD i []).length = alN f s := turn_len (rt2_length f s) i (by rw [turnL_length, rt2_length]; exact hi)
    refine prm_of hrow hp (by omega) fun c hc => ?_
    obtain ⟨z, hz, rfl⟩ := cl8_onto rfl hc
    obtain ⟨w, hw, e⟩ := hg.rhoOnto rfl (rep8_ok rfl hi).2.1 hz
    refine ⟨cl8 f s w, cl8_lt rfl hw, ?_⟩
    have h2 := rt2_cl hg rfl hw (rep8_ok rfl hi).2.1
    rw [(rep8_ok rfl hi).2.2, e] at h2
    unfold turnL
    rw [grid_at _ _ _ _ (by rw [rt2_length]; exact hi) (by rw [rt2_length]; exact cl8_lt rfl hw), hm.2.1.ap_eq (rt2_length f s) (cl8_lt rfl hw) hi, h2]
end
end Go.Proofs.Ytgmloaemnbnbgaa
namespace Go.Proofs.Ytgmloaemnbnbgaa
open Go Go.RowKit
set_option maxHeartbeats 1000000

theorem nd7S (A : Option Addr) (n c : Nat) (f : List (List Int)) (B : Option Addr) (m d : Nat) (s : List (List Int)) (r : Bool) (w : World) (hz : ZArg 1048576 w A n f B m s) (hr : r = true ↔ NdS f s) :
    Calls Try.prog 45 #[.agg #[.slice A n c, .slice B m d]] w fun e w' => e = .returned (.bool r) ∧ Below w.heap.size w w' := by
  have HZ := hide hz
  have HB0 := hide ((Below.refl _ w).alloc (Nat.le_refl _) (Obj.cells #[Value.slice A n c, Value.slice B m d] 29))
  have HK0 := hide (Blk.new w 29 [.slice A n c, .slice B m d])
  by_cases h1 : SolF f s
  · obtain rfl := hz.same h1.1
    have H1 := hide h1
    have hr2 : r = true ↔ NonF f s := by rw [hr]; exact ⟨fun h => h.2, fun h => ⟨h1, h⟩⟩
    have HR2 := hide hr2
    clear h1 hr2 hr hz
    go_enter Try.func45, Try.ntmps45
    go_wp2_with fail
    refine (isS_any _ _ _ f _ _ _ s true _ (HZ.out.later HB0.out) (by unfold IsRes; simp [H1.out])).mono ?_
    rintro e w1 ⟨rfl, hb1⟩
    have HB1 := hide (HB0.out.trans (hb1.mono HB0.out.size))
    have HK1 := hide (HK0.out.later hb1)
    have k0 := HK1.out.cell 0 _ rfl
    have k1 := HK1.out.cell 1 _ rfl
    clear hb1
    go_wp2_with fail
    refine (goodS_any _ _ _ f _ _ _ s r _ (HZ.out.later HB1.out) H1.out.1 HR2.out).mono ?_
    rintro e w2 ⟨rfl, hb2⟩
    have HB2 := hide (HB1.out.trans (hb2.mono HB1.out.size))
    clear hb2 k0 k1
    go_wp2_with fail
    go_ret
    exact ⟨rfl, HB2.out⟩
  · have hrf : r = false := by
      cases r
      · rfl
      · exact absurd (hr.1 rfl).1 h1
    subst hrf
    have H1 := hide h1
    clear h1 hr hz
    go_enter Try.func45, Try.ntmps45
    go_wp2_with fail
    refine (isS_any _ _ _ f _ _ _ s false _ (HZ.out.later HB0.out) (by unfold IsRes; simp [H1.out])).mono ?_
    rintro e w1 ⟨rfl, hb1⟩
    have HB1 := hide (HB0.out.trans (hb1.mono HB0.out.size))
    clear hb1
    go_wp2_with fail
    go_ret
    exact ⟨rfl, HB1.out⟩
end Go.Proofs.Ytgmloaemnbnbgaa
