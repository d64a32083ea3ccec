import Derived.Test.YtgmloaemnbnbgaaZu
import Derived.Test.YtgmloaemnbnbgaaZi
import Derived.Test.YtgmloaemnbnbgaaZf
import Derived.Test.YtgmloaemnbnbgaaZj
import Derived.BigQuiet
import Derived.Deep.RegionWith
namespace Go.Proofs.Ytgmloaemnbnbgaa
open Go Go.RowKit
open Classical
set_option maxHeartbeats 2000000
/-- What is known of x behind the elements from j on. -/
def Dn8 (f s : List (List Int)) (x j v : Nat) : Prop := (v = x ∧ ∀ a, j ≤ a → a < x → ¬ Alk f s x a) ∨ (v < x ∧ j ≤ v ∧ Alk f s x v ∧ ∀ a, j ≤ a → a < v → ¬ Alk f s x a)
theorem Dn8.start (f s : List (List Int)) (x : Nat) : Dn8 f s x x x := .inl ⟨rfl, fun a h1 h2 => by omega⟩
theorem Dn8.hit {f s : List (List Int)} {x j : Nat} (hj : j < x) (h : Alk f s x j) : Dn8 f s x j j := .inr ⟨hj, Nat.le_refl _, h, fun a h1 h2 => by omega⟩
theorem Dn8.miss {f s : List (List Int)} {x j v : Nat} (hd : Dn8 f s x (j + 1) v) (h : ¬ Alk f s x j) : Dn8 f s x j v := by
  rcases hd with ⟨e, h2⟩ | ⟨h1, h2, h3, h4⟩
  · refine .inl ⟨e, fun a h3 h4 => ?_⟩
    by_cases e2 : a = j
    · subst e2; exact h
    · exact h2 a (by omega) h4
  · refine .inr ⟨h1, by omega, h3, fun a h5 h6 => ?_⟩
    by_cases e2 : a = j
    · subst e2; exact h
    · exact h4 a (by omega) h6
theorem Dn8.done {f s : List (List Int)} {x v : Nat} (hd : Dn8 f s x 0 v) : lst8 f s x = v := by
  rcases hd with ⟨rfl, h2⟩ | ⟨h1, _, h3, h4⟩
  · exact lst8_is (Alk.refl _ _ _) fun a ha => h2 a (Nat.zero_le _) ha
  · exact lst8_is h3 fun a ha => h4 a (Nat.zero_le _) ha
theorem c8Info : (Try.prog.info? 2).map (fun i => (i.zero, i.size, i.bytes)) = some (some (.int .i64 0), 1, 8) := by kernel_rfl
set_option maxRecDepth 100000 in
theorem alikeS_any (A : Option Addr) (n c : Nat) (f : List (List Int)) (B : Option Addr) (d : Nat) (s : List (List Int)) (w : World) (hz : ZArg 1048576 w A n f B n s) (hg : NdS f s) :
    Calls Try.prog 46 #[.agg #[.slice A n c, .slice B n d]] w fun e w' => ∃ A' c', e = .returned (.slice A' n c') ∧ Below w.heap.size w w' ∧ Res 2 w.heap.size w' A' (alC f s) := by
  have h1 := (hg.sizes hz.sz.fl).1
  have h12 := (hg.sizes hz.sz.fl).2.1
  have HZ := hide hz
  have HG := hide hg
  have HFL := hide hz.sz.fl
  have HSL := hide hz.sz.sl
  have hgl := hg.lam hz.sz.fl
  have hgr := hg.rho hz.sz.fl
  have HGL : Hid (∀ i, i < n → (f.getD i []).length = n) := hide fun i hi => (hgl i (by have := hz.sz.fl; omega)).1
  have HGR : Hid (∀ i, i < n → ((turnL s).getD i []).length = n) := hide fun i hi => (hgr i (by rw [turnL_length]; have := hz.sz.sl; omega)).1
  obtain ⟨b, o, hA, hbw, hc⟩ := hz.fst (by have := hz.sz.fl; omega)
  subst hA
  have HC : Hid (∀ x, x < n → ∃ Ax cx, w.cell? ⟨b, o + x, none⟩ = some (.slice Ax n cx) ∧ Rd w Ax (f.getD x [])) := hide fun x hx => by
    obtain ⟨Ax, cx, q1, q2⟩ := hc x (by have := hz.sz.fl; omega)
    rw [HGL.out x hx] at q1
    exact ⟨Ax, cx, q1, q2⟩
  obtain ⟨i0, hi, hz0, hz1, hz2⟩ := info_parts c8Info
  have HB0 := hide ((Below.refl _ w).alloc (Nat.le_refl _) (Obj.cells #[Value.slice (some ⟨b, o, none⟩) n c, Value.slice B n d] 29))
  have HK0 := hide (Blk.new w 29 [.slice (some ⟨b, o, none⟩) n c, .slice B n d])
  have k0 := HK0.out.cell 0 _ rfl
  have k1 := HK0.out.cell 1 _ rfl
  have hsr : ∀ i, i < s.length → (s.getD i []).length = n := fun i hi => by rw [hg.map.2.1.rows i hi]; exact hz.sz.sl
  have HSR := hide hsr
  clear hz hg hgl hgr hc hsr
  go_enter Try.func46, Try.ntmps46
  go_wp2_with fail
  refine (l01Turn_any _ n _ s _ HSL.out (by omega) HSR.out (HZ.out.later HB0.out).snd).mono ?_
  rintro e w1 ⟨Ar, cr, rfl, hb1, hob⟩
  have HB1 := hide (HB0.out.trans (hb1.mono HB0.out.size))
  have HK1 := hide (HK0.out.later hb1)
  obtain ⟨b2, o2, hA2, hbw2, hc2⟩ := hob.rd (by rw [turnL_length, HSL.out]; omega)
  subst hA2
  have HC2 : Hid (∀ x, x < n → ∃ Ax cx, w1.cell? ⟨b2, o2 + x, none⟩ = some (.slice Ax n cx) ∧ Rd w1 Ax ((turnL s).getD x [])) := hide fun x hx => by
    obtain ⟨Ax, cx, q1, q2⟩ := hc2 x (by rw [turnL_length, HSL.out]; omega)
    rw [HGR.out x hx] at q1
    exact ⟨Ax, cx, q1, q2⟩
  clear hb1 hob k0 k1 hc2
  go_wp2_with fail
  go_loopw [4, 5] (fun v i wr => ∃ x : Nat, x ≤ n ∧ i = .int .i64 x ∧ Below w1.heap.size w1 wr ∧ wr.ownsRow w1.heap.size 2 1 v x (ints (lbl8 f s x)) ∧ w1.heap.size ≤ wr.heap.size) (fun _ i _ => n - (intOf i).toNat)
  case atStart => exact ⟨0, Nat.zero_le _, rfl, (Below.refl _ _).alloc (Nat.le_refl _) _, by simpa [lbl8, ints] using ne_empty w1 2, by simp⟩
  case round =>
    obtain ⟨x, hx, rfl, hbe, hown, hsz⟩ := hrel
    have HQ := hide hbe
    have HO := hide hown
    have HKr := hide (HK1.out.later hbe)
    have HBr := hide (HB1.out.trans (hbe.mono HB1.out.size))
    clear hbe hown
    have k0 := HKr.out.cell 0 _ rfl
    by_cases hlt : x < n
    · have hxz : (x : Int) < n := by omega
      go_wp2_with fail
      obtain ⟨wo, rfl⟩ : ∃ wo : World, wo = wr := ⟨_, rfl⟩
      obtain ⟨Ax, cx, hcx, hrx⟩ := HC.out x hlt
      have HCX := hide ((HBr.out.cell (p := ⟨b, o + x, none⟩) hbw).trans hcx)
      have HRX := hide (hrx.later HBr.out)
      obtain ⟨Rx, dx, hdx, hsx⟩ := HC2.out x hlt
      have HDX := hide ((HQ.out.cell (p := ⟨b2, o2 + x, none⟩) hbw2).trans hdx)
      have HSX := hide (hsx.later HQ.out)
      have hxx : (((x : Nat) : Int) - 1 + 1).toNat = x := by omega
      clear hcx hrx hdx hsx k0
      go_loopw [6, 7] (fun a i wi => ∃ (j v : Nat) (u : Int), j ≤ x ∧ v ≤ x ∧ u = (j : Int) - 1 ∧ a = .int .i64 v ∧ i = .int .i64 u ∧ Quiet wo wi ∧ Dn8 f s x j v) (fun _ i _ => (intOf i + 1).toNat)
      case atStart => exact ⟨x, x, _, Nat.le_refl _, Nat.le_refl _, rfl, rfl, by go_num, Quiet.refl _, Dn8.start f s x⟩
      case round =>
        obtain ⟨j, v, u, hj, hv, hu, rfl, rfl, hq, hdn⟩ := hrel
        have HQI := hide (hq.below wo.heap.size)
        have HDN := hide hdn
        have HQQ := hide hq
        clear hq hdn
        rcases j with _ | j
        · have hu1 : ¬ (0 : Int) ≤ u := by omega
          have hlb : lbl8 f s (x + 1) = lbl8 f s x ++ [(v : Int)] := by rw [lbl8_succ, HDN.out.done]
          have HLB := hide hlb
          have HO2 := hide (ownsRow_below HO.out HQI.out)
          have hs2 : w1.heap.size ≤ wr.heap.size := by have := HQI.out.size; omega
          have hlen := ints_length (lbl8 f s x)
          rw [lbl8_length] at hlen
          clear hlb
          go_wp2_with (at_builtin; refine wpList_append_own _ rfl _ _ 26 rfl w1.heap.size 2 i0 (.int .i64 0) 1 8 Try.underlying26 hi hz0 hz1 hz2 rfl (by decide) _ _ _ rfl (HO2.out.alloc _) ⟨wr.heap.size, 0, none⟩ 1 1 [.int .i64 v] rfl rfl ?c1 ?c2 ?c3 ?c4 ?c5 ?_)
          try (case c1 => exact ne_new)
          case c2 => first | rfl | (intro u hu; simp at hu; subst hu; rfl)
          case c3 => unfold maxLen; omega
          case c4 => omega
          case c5 => first | omega | (simp; omega)
          intro v' w4 hown' hgrow _
          have HO' := hide hown'
          have HG4 := hide hgrow
          have HQ3 := hide (HQ.out.trans (HQI.out.mono HQ.out.size))
          clear hown' hgrow
          go_wp2_with fail
          go_roundw
          case rel =>
            have hB4 : Below w1.heap.size w1 w4 := (HQ3.out.alloc hs2 _).grown HG4.out (by simp; omega) (fun g hg => ((HO2.out.alloc (.cells #[.int .i64 v] 2)).lt g hg).1)
            refine ⟨x + 1, by omega, by go_num, hB4, ?_, hB4.size⟩
            have h := HO'.out
            rw [HLB.out]
            simpa [ints] using h
          case measure => simp [intOf]; omega
        · have hu0 : (0 : Int) ≤ u := by omega
          have hjz : u = (j : Int) := by omega
          subst hjz
          clear hu
          have hjx : (j : Int) < x := by omega
          have hjn : (j : Int) < n := by omega
          have hxz2 : (x : Int) < n := by omega
          obtain ⟨Ay, cy, hcy, hry⟩ := HC.out j (by omega)
          obtain ⟨Ry, dy, hdy, hsy⟩ := HC2.out j (by omega)
          have HB3 := hide (HBr.out.trans (HQI.out.mono HBr.out.size))
          have HQ3 := hide (HQ.out.trans (HQI.out.mono HQ.out.size))
          have k0 := (HKr.out.later HQI.out).cell 0 _ rfl
          have ci := (HQI.out.cell (p := ⟨b, o + x, none⟩) (by have := HBr.out.size; show b < _; omega)).trans HCX.out
          have ri := (HQI.out.cell (p := ⟨b2, o2 + x, none⟩) (by show b2 < _; omega)).trans HDX.out
          have cj := (HB3.out.cell (p := ⟨b, o + j, none⟩) hbw).trans hcy
          have rj := (HQ3.out.cell (p := ⟨b2, o2 + j, none⟩) hbw2).trans hdy
          have RX := hide (HRX.out.later HQI.out)
          have SX := hide (HSX.out.later HQI.out)
          have RY := hide (hry.later HB3.out)
          have SY := hide (hsy.later HQ3.out)
          clear hcy hry hdy hsy
          go_wp2_with fail
          by_cases hr1 : f.getD x [] = f.getD j []
          · have HR1 := hide hr1
            clear hr1
            by_cases hr2 : (turnL s).getD x [] = (turnL s).getD j []
            · have hd := Dn8.hit (by omega : j < x) (⟨HR1.out, hr2⟩ : Alk f s x j)
              have HD := hide hd
              have HR2 := hide hr2
              clear hr2 hd
              go_quiet (first | (go_at_call_of 79 (Value.slice Ax n cx); exact quiet_call (same_any Ax Ay n cx n cy (f.getD x []) (f.getD j []) true _ (HGL.out x hlt) (HGL.out j (by omega)) (by omega) (by omega) RX.out RY.out ⟨fun _ => HR1.out, fun _ => rfl⟩)) | (go_at_call_of 79 (Value.slice Rx n dx); exact quiet_call (same_any Rx Ry n dx n dy ((turnL s).getD x []) ((turnL s).getD j []) true _ (HGR.out x hlt) (HGR.out j (by omega)) (by omega) (by omega) SX.out SY.out ⟨fun _ => HR2.out, fun _ => rfl⟩)))
              clear k0 ci cj ri rj
              go_wp2_with fail
              go_roundw
              case rel => exact ⟨j, j, (j : Int) - 1, by omega, by omega, rfl, rfl, by go_num, HQQ.out.drewN _, HD.out⟩
              case measure => simp [intOf]
            · have hd := HDN.out.miss (fun h => hr2 h.2)
              have HD := hide hd
              have HR2 := hide hr2
              clear hr2 hd
              go_quiet (first | (go_at_call_of 79 (Value.slice Ax n cx); exact quiet_call (same_any Ax Ay n cx n cy (f.getD x []) (f.getD j []) true _ (HGL.out x hlt) (HGL.out j (by omega)) (by omega) (by omega) RX.out RY.out ⟨fun _ => HR1.out, fun _ => rfl⟩)) | (go_at_call_of 79 (Value.slice Rx n dx); exact quiet_call (same_any Rx Ry n dx n dy ((turnL s).getD x []) ((turnL s).getD j []) false _ (HGR.out x hlt) (HGR.out j (by omega)) (by omega) (by omega) SX.out SY.out ⟨fun hq => absurd hq (by decide), fun hq => absurd hq HR2.out⟩)))
              clear k0 ci cj ri rj
              go_wp2_with fail
              go_roundw
              case rel => exact ⟨j, v, (j : Int) - 1, by omega, hv, rfl, rfl, by go_num, HQQ.out.drewN _, HD.out⟩
              case measure => simp [intOf]
          · have hd := HDN.out.miss (fun h => hr1 h.1)
            have HD := hide hd
            have HR1 := hide hr1
            clear hr1 hd
            go_quiet ((go_at_call_of 79 (Value.slice Ax n cx); exact quiet_call (same_any Ax Ay n cx n cy (f.getD x []) (f.getD j []) false _ (HGL.out x hlt) (HGL.out j (by omega)) (by omega) (by omega) RX.out RY.out ⟨fun hq => absurd hq (by decide), fun hq => absurd hq HR1.out⟩)))
            clear k0 ci cj ri rj
            go_wp2_with fail
            go_roundw
            case rel => exact ⟨j, v, (j : Int) - 1, by omega, hv, rfl, rfl, by go_num, HQQ.out.drewN _, HD.out⟩
            case measure => simp [intOf]
    · have hxn : x = n := by omega
      subst hxn
      obtain ⟨A', c', hv, hres⟩ := own_shape HO.out
      subst hv
      have HRS := hide hres.rd
      clear hres
      go_wp2_with fail
      refine (renS_any _ x _ (lbl8 f s x) _ (lbl8_length f s x) h12 HRS.out).mono ?_
      rintro e w4 ⟨A4, c4, rfl, hb4, hr4⟩
      have HB4 := hide (HBr.out.trans (hb4.mono HBr.out.size))
      have HR4 := hide (hr4.mono HBr.out.size)
      clear hb4 hr4
      go_wp2_with fail
      go_ret
      refine ⟨_, _, rfl, HB4.out, ?_⟩
      unfold alC
      rw [HFL.out]
      exact HR4.out
end Go.Proofs.Ytgmloaemnbnbgaa
