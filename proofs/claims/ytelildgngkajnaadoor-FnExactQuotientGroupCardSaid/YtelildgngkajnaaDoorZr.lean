import Derived.Test.YtelildgngkajnaaDoorZq
import Derived.Test.YtelildgngkajnaaDoorZl
import Derived.Deep.Cut
import Derived.Test.YtelildgngkajnaaDoorZm
import Derived.Test.YtelildgngkajnaaDoorZp
import Derived.Test.YtelildgngkajnaaDoorZh
import Derived.Test.YtelildgngkajnaaDoorZf
import Derived.Deep.RegionHeld3
namespace Go.Proofs.YtelildgngkajnaaDoor
open Go Go.RowKit
set_option maxHeartbeats 4000000
set_option maxRecDepth 100000 in
theorem coset_any (A : Option Addr) (n c : Nat) (f : List (List Int)) (x S : Nat) (w : World) (hn : f.length = n) (hg : Grp f) (hr : Rd2 w A f) (hx : x < n) (hS : S < 2 ^ n) :
    Calls Tryd.prog 35 #[.agg #[.slice A n c], .int .i64 x, .int .i64 S] w (fun e w' => e = .returned (.int .i64 (csN f S x)) ∧ Below w.heap.size w w') := by
  have HN := hide hn
  have HRD := hide hr
  have HB0 := hide ((Below.refl _ w).alloc (Nat.le_refl _) (Obj.cells #[Value.slice A n c] 26))
  have HK0 := hide (Blk.new w 26 [.slice A n c])
  have HG := hide hg
  have HTB := hide hg.tbl
  have h1 : 1 ≤ n := (hg.pos hn).1
  have h12 : n ≤ 12 := (hg.pos hn).2
  have hS12 : S < 4096 := Nat.lt_of_lt_of_le hS (pow_le n h12)
  have HS := hide hS
  obtain ⟨m, hm⟩ : ∃ m, (mems 12 S).length = m := ⟨_, rfl⟩
  have hm12 : m ≤ 12 := by rw [← hm]; exact mems_length 12 S
  have HM := hide hm
  obtain ⟨V0, hV0⟩ : ∃ V, csN f S x = V := ⟨_, rfl⟩
  have HV0 := hide hV0
  rw [hV0]
  clear hn hg hr hS hm hV0
  go_enter Tryd.func35, Tryd.ntmps35
  go_wp2_with fail
  refine (membersOf_any S _ hS12).mono ?_
  rintro e w1 ⟨B, d, rfl, hb1, hres⟩
  have HB1 := hide (HB0.out.trans (hb1.mono HB0.out.size))
  have HK1 := hide (HK0.out.later hb1)
  have HRS := hide hres.rd
  rw [HM.out]
  clear hb1 hres
  go_wp2_with fail
  go_loopw [7, 13] (fun s i wr => ∃ (k V : Nat), k ≤ m ∧ i = .int .i64 k ∧ s = .int .i64 V ∧ Below w1.heap.size w1 wr ∧ V < 2 ^ n ∧ ∀ t, inb V t ↔ ∃ a, a < k ∧ ap f x (mel S a) = t) (fun _ i _ => m - (intOf i).toNat)
  case atStart => exact ⟨0, 0, Nat.zero_le _, rfl, rfl, Below.refl _ _, Nat.pos_of_ne_zero (by simp), fun t => ⟨fun h => absurd h (inb_zero t), fun ⟨a, h, _⟩ => absurd h (Nat.not_lt_zero _)⟩⟩
  case round =>
    obtain ⟨k, V, hk, rfl, rfl, hbe, hvl, hv⟩ := hrel
    have HB := hide hbe
    have HVL := hide hvl
    have HV := hide hv
    clear hbe hvl hv
    by_cases hlt : k < m
    · have hkz : (k : Int) < m := by omega
      obtain ⟨b, o, hBe, hbw, hc⟩ := HRS.out (by rw [memL_length, HM.out]; omega)
      subst hBe
      have c0 := (HB.out.cell (p := ⟨b, o + k, none⟩) hbw).trans (hc k (by rw [memL_length, HM.out]; exact hlt))
      rw [mel_getD (by rw [HM.out]; exact hlt)] at c0
      have hyn : mel S k < n := inb_lt HS.out (mel_in (by rw [HM.out]; exact hlt))
      obtain ⟨y, hy⟩ : ∃ y, mel S k = y := ⟨_, rfl⟩
      rw [hy] at c0 hyn
      have hun := HG.out.lt HN.out hx hyn
      obtain ⟨u, hu⟩ : ∃ u, ap f x y = u := ⟨_, rfl⟩
      rw [hu] at hun
      have HU := hide hu
      have HST : Hid (∀ t, inb (V ||| 2 ^ u) t ↔ ∃ a, a < k + 1 ∧ ap f x (mel S a) = t) := hide (fun t => by
        rw [inb_or, HV.out t]
        constructor
        · rintro (⟨a, h1, h2⟩ | rfl)
          · exact ⟨a, by omega, h2⟩
          · exact ⟨k, by omega, by rw [hy]; exact hu⟩
        · rintro ⟨a, h1, h2⟩
          by_cases e : a = k
          · subst e
            rw [hy, hu] at h2
            exact .inr h2.symm
          · exact .inl ⟨a, by omega, h2⟩)
      have HL2 : Hid (V ||| 2 ^ u < 2 ^ n) := hide (or_lt HVL.out hun)
      have hV12 : V < 4096 := Nat.lt_of_lt_of_le HVL.out (pow_le n h12)
      obtain ⟨p, hp⟩ : ∃ p, 2 ^ u = p := ⟨_, rfl⟩
      have hp12 : p < 4096 := by rw [← hp]; exact Nat.lt_of_lt_of_le (Nat.pow_lt_pow_right (by decide) (by omega : u < 12)) (Nat.le_refl _)
      have g1 : (2 : Int) ^ u = (p : Int) := by rw [← hp]; simp
      have g2 := bt_or V p (by omega) (by omega)
      have g3 : IntKind.i64.wrap (p : Int) = (p : Int) := IntWalk.i64_in _ (by omega)
      rw [hp] at HST HL2
      obtain ⟨V2, hV2⟩ : ∃ V2, V ||| p = V2 := ⟨_, rfl⟩
      rw [hV2] at HST HL2 g2
      have hV212 : V2 < 4096 := Nat.lt_of_lt_of_le HL2.out (pow_le n h12)
      clear hc hy hu hp hV2
      have k0 := (HK1.out.later HB.out).cell 0 _ rfl
      go_wp2_with fail
      clear k0 c0
      refine (gprod_any _ n _ f x y u _ HN.out HTB.out (HRD.out.later (HB1.out.trans (HB.out.mono HB1.out.size))) hx hyn HU.out).mono ?_
      rintro e w5 ⟨rfl, hb5⟩
      have HB5 := hide (HB.out.trans (hb5.mono HB.out.size))
      clear hb5
      go_wp2_with fail
      go_roundw
      case rel => exact ⟨k + 1, V2, by omega, by go_num, rfl, HB5.out, HL2.out, HST.out⟩
      case measure => simp [intOf]; omega
    · have hkm : k = m := by omega
      subst hkm
      have hVe : V = V0 := by
        rw [← HV0.out]
        apply inb_eq
        intro t
        rw [HV.out t, csN_in HN.out HG.out HS.out hx t]
        constructor
        · rintro ⟨a, h1, h2⟩
          exact ⟨mel S a, mel_in (by rw [HM.out]; exact h1), h2⟩
        · rintro ⟨y, hy, h2⟩
          obtain ⟨a, ha, rfl⟩ := mel_of hS12 hy
          exact ⟨a, by rw [← HM.out]; exact ha, h2⟩
      subst hVe
      go_wp2_with fail
      go_ret
      exact ⟨rfl, HB1.out.trans (HB.out.mono HB1.out.size)⟩
end Go.Proofs.YtelildgngkajnaaDoor
namespace Go.Proofs.YtelildgngkajnaaDoor
open Go Go.RowKit
set_option maxHeartbeats 4000000
set_option maxRecDepth 100000 in
theorem cosS_any (A : Option Addr) (n c : Nat) (f : List (List Int)) (S : Nat) (w : World) (hn : f.length = n) (hg : Grp f) (hr : Rd2 w A f) (hS : S < 2 ^ n) (hsg : SubG f S) :
    Calls Tryd.prog 15 #[.slice A n c, .int .i64 S] w fun e w' => ∃ A' c', e = .returned (.slice A' n c') ∧ Below w.heap.size w w' ∧ Res 2 w.heap.size w' A' (numL (ldL (ceL f S) n)) := by
  have HN := hide hn
  have HG := hide hg
  have HTB := hide hg.tbl
  have HS := hide hS
  have HSG := hide hsg
  have h1 : 1 ≤ n := (hg.pos hn).1
  have h12 : n ≤ 12 := (hg.pos hn).2
  have hS12 : S < 4096 := Nat.lt_of_lt_of_le hS (pow_le n h12)
  obtain ⟨b, o, hA, hbw, hc⟩ := HTB.out.cells hr hn
  subst hA
  have HC := hide hc
  clear hc hn hg hr hS hsg
  obtain ⟨i0, hi, hz0, hz1, hz2⟩ := info_parts neInfo
  go_enter Tryd.func15, Tryd.ntmps15
  go_wp2_with fail
  go_loopw [5, 6] (fun v i wr => ∃ x : Nat, x ≤ n ∧ i = .int .i64 x ∧ Below w.heap.size w wr ∧ wr.ownsRow w.heap.size 2 1 v x (ints (ldL (ceL f S) x)) ∧ w.heap.size ≤ wr.heap.size) (fun _ i _ => n - (intOf i).toNat)
  case atStart => exact ⟨0, Nat.zero_le _, rfl, (Below.refl _ _).alloc (Nat.le_refl _) _, by simpa [ints, ldL] using ne_empty w _, by simp⟩
  case round =>
    obtain ⟨x, hx, rfl, hbe, hown, hsz⟩ := hrel
    have HB := hide hbe
    have HO := hide hown
    clear hbe hown
    by_cases hlt : x < n
    · have hxz : (x : Int) < n := by omega
      obtain ⟨bx, ox, cx, r1, l1, g1⟩ := HC.out x hlt
      have HR1 := hide r1
      have HG1 := hide g1
      clear r1 g1
      go_wp2_with fail
      obtain ⟨wo, rfl⟩ : ∃ wo : World, wo = wr := ⟨_, rfl⟩
      go_loopw [7, 8] (fun v i wi => ∃ y a : Nat, y ≤ n ∧ i = .int .i64 y ∧ v = .int .i64 a ∧ wi = wo ∧ a ≤ x ∧ (a = x ∨ ∃ y', y' < y ∧ inb S y' ∧ ap f x y' = a) ∧ ∀ y', y' < y → inb S y' → a ≤ ap f x y') (fun _ i _ => n - (intOf i).toNat)
      case atStart => exact ⟨0, x, Nat.zero_le _, rfl, rfl, rfl, Nat.le_refl _, .inl rfl, fun i hi => absurd hi (Nat.not_lt_zero _)⟩
      case round =>
        obtain ⟨y, a, hy, rfl, rfl, hwe, hax, hin, hall⟩ := hrel
        subst hwe
        have HIN := hide hin
        have HALL := hide hall
        clear hin hall
        by_cases hlty : y < n
        · have hyz : (y : Int) < n := by omega
          have g4 : IntKind.u64.wrap (y : Int) = (y : Int) := by rw [IntKind.wrap_u64]; omega
          by_cases iy : inb S y
          · have f1 := bt_in (by omega) iy
            have HIY := hide iy
            have r1 := (HB.out.cell (p := ⟨b, o + x, none⟩) hbw).trans HR1.out
            have r2 := (HB.out.cell (p := ⟨bx, ox + y, none⟩) l1).trans (HG1.out y hlty)
            obtain ⟨v, hv⟩ : ∃ v, ap f x y = v := ⟨_, rfl⟩
            rw [hv] at r2
            have hvn : v < n := by rw [← hv]; exact HG.out.lt HN.out hlt hlty
            have HV := hide hv
            clear iy hv
            rcases Nat.lt_trichotomy v a with h | h | h
            · have q1 : (v : Int) < (a : Int) := by omega
              have q2 : ¬ (a : Int) < (v : Int) := by omega
              go_wp2_with fail
              go_roundw
              case rel => exact ⟨y + 1, v, by omega, by go_num, rfl, by first | trivial | rfl, by omega, .inr ⟨y, by omega, HIY.out, HV.out⟩, fun i hi hs => by
                by_cases e : i = y
                · rw [e, HV.out]; exact Nat.le_refl _
                · have := HALL.out i (by omega) hs; omega⟩
              case measure => simp [intOf]; omega
            · subst h
              have q1 : ¬ (v : Int) < (v : Int) := by omega
              go_wp2_with fail
              go_roundw
              case rel => exact ⟨y + 1, v, by omega, by go_num, rfl, by first | trivial | rfl, by omega, .inr ⟨y, by omega, HIY.out, HV.out⟩, fun i hi hs => by
                by_cases e : i = y
                · rw [e, HV.out]; exact Nat.le_refl _
                · exact HALL.out i (by omega) hs⟩
              case measure => simp [intOf]; omega
            · have q1 : (a : Int) < (v : Int) := by omega
              have q2 : ¬ (v : Int) < (a : Int) := by omega
              go_wp2_with fail
              go_roundw
              case rel => exact ⟨y + 1, a, by omega, by go_num, rfl, by first | trivial | rfl, by omega, HIN.out.imp id (fun ⟨y', h1, h2⟩ => ⟨y', by omega, h2⟩), fun i hi hs => by
                by_cases e : i = y
                · rw [e, HV.out]; omega
                · exact HALL.out i (by omega) hs⟩
              case measure => simp [intOf]; omega
          · have f1 := bt_out (by omega) iy
            have HIY := hide iy
            clear iy
            go_wp2_with fail
            go_roundw
            case rel => exact ⟨y + 1, a, by omega, by go_num, rfl, by first | trivial | rfl, by omega, HIN.out.imp id (fun ⟨y', h1, h2⟩ => ⟨y', by omega, h2⟩), fun i hi hs => by
              by_cases e : i = y
              · rw [e] at hs; exact absurd hs HIY.out
              · exact HALL.out i (by omega) hs⟩
            case measure => simp [intOf]; omega
        · have hyn : y = n := by omega
          subst hyn
          have hae : a = ceL f S x := by
            have ok := ceL_ok HN.out HG.out HS.out HSG.out hlt
            have ha : inb (csN f S x) a := by
              rcases HIN.out with e | ⟨y', _, h2, h3⟩
              · rw [e]; exact csN_self HN.out HG.out HS.out HSG.out hlt
              · exact (csN_in HN.out HG.out HS.out hlt a).2 ⟨y', h2, h3⟩
            have k1 := ok.2.2.2.1 a ha
            obtain ⟨y', h2, h3⟩ := (csN_in HN.out HG.out HS.out hlt _).1 ok.1
            have k2 := HALL.out y' (inb_lt HS.out h2) h2
            omega
          have HLS : Hid (ints (ldL (ceL f S) (x + 1)) = ints (ldL (ceL f S) x) ++ [.int .i64 (a : Int)]) := hide (by rw [hae]; unfold ldL; rw [List.range_succ, List.map_append]; simp [ints])
          clear hae HALL HIN
          go_wp2_with (at_builtin; refine wpList_append_own _ rfl _ _ 37 rfl w.heap.size 2 i0 (.int .i64 0) 1 8 Tryd.underlying37 hi hz0 hz1 hz2 rfl (by decide) _ _ _ rfl (HO.out.alloc _) ⟨wr.heap.size, 0, none⟩ 1 1 [.int .i64 (a : Int)] rfl rfl ?a1 ?a2 ?a3 ?a4 ?a5 ?_)
          try (case a1 => exact ne_new)
          try (case a2 => first | rfl | (intro u hu; simp at hu; subst hu; rfl))
          try (case a3 => first | omega | (unfold maxLen; omega))
          try (case a4 => omega)
          try (case a5 => first | omega | (simp; omega))
          intro v' w6 hown' hgrow _
          have HO' := hide hown'
          have hB1 : Below w.heap.size w w6 := (HB.out.alloc hsz _).grown hgrow (by simp; omega) (fun g hg => ((HO.out.alloc (.cells #[.int .i64 (a : Int)] 2)).lt g hg).1)
          have HB6 := hide hB1
          clear hown' hgrow hB1
          go_wp2_with fail
          go_roundw
          case rel => exact ⟨x + 1, by omega, by go_num, HB6.out, by rw [HLS.out]; exact HO'.out, by have := HB6.out.size; omega⟩
          case measure => simp [intOf]; omega
    · have hxn : x = n := by omega
      subst hxn
      obtain ⟨A1, c1, hv, hres⟩ := own_shape HO.out
      subst hv
      have HRD := hide hres.rd
      clear hres
      go_wp2_with fail
      refine (numS_any A1 x c1 (ldL (ceL f S) x) _ (ldL_length _ _) h12 HRD.out).mono ?_
      rintro e w7 ⟨A2, c2, rfl, hb7, hr7⟩
      have HB7 := hide (HB.out.trans (hb7.mono HB.out.size))
      have HR7 := hide (hr7.mono HB.out.size)
      clear hb7 hr7
      go_wp2_with fail
      go_ret
      exact ⟨_, _, rfl, HB7.out, HR7.out⟩
set_option maxRecDepth 100000 in
theorem qgS (A : Option Addr) (n c : Nat) (f : List (List Int)) (x : Int) (zs : List (List Int)) (code : Int) (k : Nat) (w : World) (hn : f.length = n) (hb : n ≤ 1048576) (hbs : ∀ i, i < f.length → (f.getD i []).length ≤ 1048576) (hr : Rd2 w A f) (hlo : -9223372036854775808 ≤ x) (hhi : x ≤ 9223372036854775807) (hres : QgRes f x zs code) (hk : zs.length = k) :
    Calls Tryd.prog 5 #[.agg #[.slice A n c], .int .i64 x] w (fun e w' => ∃ A' c', e = .returned (.tuple #[.agg #[.slice A' k c'], .int .i64 code]) ∧ Below w.heap.size w w' ∧ Obj2 37 2 w.heap.size w'.heap.size w' A' zs) := by
  have HN := hide hn
  have HRD := hide hr
  have HB0 := hide (((Below.refl _ w).alloc (Nat.le_refl _) (Obj.cells #[Value.slice A n c] 26)).alloc (by simp) (Obj.cells #[.slice none 0 0] 26))
  have HK0 := hide ((Blk.new w 26 [.slice A n c]).alloc (Obj.cells #[.slice none 0 0] 26))
  have HR0 : Hid (Blk ((w.alloc (Obj.cells #[Value.slice A n c] 26)).alloc (Obj.cells #[.slice none 0 0] 26)) (w.heap.size + 1) 26 [.slice none 0 0]) := hide (by have h := Blk.new (w.alloc (Obj.cells #[Value.slice A n c] 26)) 26 [.slice none 0 0]; simpa using h)
  have HBS := hide hbs
  rcases hres with ⟨hg, ⟨S, rfl, hS, hsg, hnm, rfl⟩, rfl⟩ | ⟨r, c0, hnr, hor, rfl, hcode⟩
  · have HSC : Hid (SubC f S 0) := hide (.inl ⟨hg, ⟨S, rfl, hS, hsg⟩, rfl⟩)
    rw [hn] at hS hk ⊢
    have hkk : (rpL (ceL f S) n).length = k := by rw [← hk, grid_length]
    have HG := hide hg
    have HTB := hide hg.tbl
    have HS := hide hS
    have HSG := hide hsg
    have HNM := hide hnm
    have h1 : 1 ≤ n := (hg.pos hn).1
    have h12 : n ≤ 12 := (hg.pos hn).2
    have hl := ceL_ldr hn hg hS hsg
    have HPT : Hid (Part f (numL (ldL (ceL f S) n))) := hide ⟨by rw [ld_len, hn], ld_canon hl⟩
    have HNX : Hid (nxt (numL (ldL (ceL f S) n)) n = k) := hide (by rw [ld_nxt hl n (Nat.le_refl _), hkk])
    rw [hkk]
    unfold qgH
    clear hn hbs hr hk hg hS hsg hnm hl hkk
    go_enter Tryd.func5, Tryd.ntmps5
    have k0 := HK0.out.cell 0 _ rfl
    go_wp2_with fail
    clear k0
    refine (subS_any _ _ _ f S 0 _ HN.out hb HBS.out (HRD.out.later HB0.out) hlo hhi HSC.out).mono ?_
    rintro e w1 ⟨rfl, hb1⟩
    have HB1 := hide (HB0.out.trans (hb1.mono HB0.out.size))
    have HK1 := hide (HK0.out.later hb1)
    have HR1 := hide (HR0.out.later hb1)
    clear hb1
    have k0 := HK1.out.cell 0 _ rfl
    go_wp2_with fail
    clear k0
    refine (normS_any _ n _ f S true _ HN.out HG.out (HRD.out.later HB1.out) HS.out ⟨fun _ => HNM.out, fun _ => rfl⟩).mono ?_
    rintro e w2 ⟨rfl, hb1⟩
    have HB2 := hide (HB1.out.trans (hb1.mono HB1.out.size))
    have HK2 := hide (HK1.out.later hb1)
    have HR2 := hide (HR1.out.later hb1)
    clear hb1
    have HBc := HB2
    have HKc := HK2
    have HRc := HR2
    have k0 := HKc.out.cell 0 _ rfl
    have k2 := HRc.out.cell 0 _ rfl
    have k3 := HRc.out.frozen 0
    have ne1 : w.heap.size ≠ w.heap.size + 1 := by omega
    have ne2 := ne1.symm
    go_wp2_with fail
    go_region_held3 (fun w' => w'.cell? ⟨w.heap.size, 0, none⟩ = some (.slice A n c)) (first | exact k0 | go_keep) (first | (go_at_call 15; go_must (refine calls_gen fun wc hwc => ?_; (first | have hbx := drew_below hwc | have hbx := eq_below hwc); replace HBc := hide (HBc.out.trans (hbx.mono HBc.out.size)); replace HKc := hide (HKc.out.later hbx); replace HRc := hide (HRc.out.later hbx); clear hwc hbx; refine (cosS_any _ n _ f S wc HN.out HG.out (HRD.out.later HBc.out) HS.out HSG.out).mono ?_; rintro e wd ⟨A1, c1, rfl, hbd, ho1⟩; have HO := hide ho1.rd; replace HBc := hide (HBc.out.trans (hbd.mono HBc.out.size)); replace HKc := hide (HKc.out.later hbd); replace HRc := hide (HRc.out.later hbd); clear hbd ho1; have k0 := HKc.out.cell 0 _ rfl; have k2 := HRc.out.cell 0 _ rfl; have k3 := HRc.out.frozen 0)) | (go_at_call 14; go_must (refine calls_gen fun wc hwc => ?_; (first | have hbx := drew_below hwc | have hbx := eq_below hwc); replace HBc := hide (HBc.out.trans (hbx.mono HBc.out.size)); replace HKc := hide (HKc.out.later hbx); replace HRc := hide (HRc.out.later hbx); replace HO := hide (HO.out.later hbx); clear hwc hbx; have HRQ := HRc; have HWQ := hide HRQ.out.lt; refine (l04Quot_any _ n _ f _ n _ (numL (ldL (ceL f S) n)) wc HN.out HTB.out (HRD.out.later HBc.out) (ld_len _ _) HO.out HPT.out k HNX.out).mono ?_; rintro e we ⟨A3, c3, rfl, hbd, ho3⟩; have HO3 := hide ho3; have HWB := hide HBc.out.size; replace HBc := hide (HBc.out.trans (hbd.mono HBc.out.size)); replace HKc := hide (HKc.out.later hbd); replace HRc := hide (HRc.out.later hbd); clear hbd ho3; have k0 := HKc.out.cell 0 _ rfl; have k2 := HRc.out.cell 0 _ rfl; have k3 := HRc.out.frozen 0)))
    all_goals
      clear k0 k2 k3
      go_wp2_with fail
      refine bp_gen fun wf hwf => ?_
      obtain ⟨q0, hbf, hof⟩ := kend hwf HRc.out (by omega) HBc.out HO3.out (by have := HWB.out; omega) (by have := HWQ.out; omega) (Nat.le_refl _)
      clear hwf
      exact bodyPost_ret (v := .tuple #[.agg #[.slice A3 k c3], .int .i64 0]) (by simp [results, Tryd.results5, go_sem, q0]) rfl ⟨_, _, rfl, hbf, hof⟩
  · have hk0 : k = 0 := by rw [← hk]; rfl
    subst hk0
    clear hk
    rcases hnr with ⟨hg, ⟨S, rfl, hS, hsg, hrr⟩, rfl⟩ | ⟨hc, _, hsc⟩
    · have HSC : Hid (SubC f S 0) := hide (.inl ⟨hg, ⟨S, rfl, hS, hsg⟩, rfl⟩)
      rw [if_pos rfl] at hcode
      subst hcode
      have hrf : r = false := hor.resolve_left (by simp)
      subst hrf
      have HG := hide hg
      have HS : Hid (S < 2 ^ n) := hide (by rw [← hn]; exact hS)
      have HNM : Hid (¬ NrmF f S) := hide fun h => by have := hrr.2 h; cases this
      clear hn hbs hr hg hS hsg hrr hor
      go_enter Tryd.func5, Tryd.ntmps5
      have k0 := HK0.out.cell 0 _ rfl
      go_wp2_with fail
      clear k0
      refine (subS_any _ _ _ f S 0 _ HN.out hb HBS.out (HRD.out.later HB0.out) hlo hhi HSC.out).mono ?_
      rintro e w1 ⟨rfl, hb1⟩
      have HB1 := hide (HB0.out.trans (hb1.mono HB0.out.size))
      have HK1 := hide (HK0.out.later hb1)
      have HR1 := hide (HR0.out.later hb1)
      clear hb1
      have k0 := HK1.out.cell 0 _ rfl
      go_wp2_with fail
      clear k0
      refine (normS_any _ n _ f S false _ HN.out HG.out (HRD.out.later HB1.out) HS.out ⟨fun h => (by cases h), fun h => absurd h HNM.out⟩).mono ?_
      rintro e w2 ⟨rfl, hb1⟩
      have HB2 := hide (HB1.out.trans (hb1.mono HB1.out.size))
      have HK2 := hide (HK1.out.later hb1)
      have HR2 := hide (HR1.out.later hb1)
      clear hb1
      have k2 := HR2.out.cell 0 _ rfl
      have k3 := HR2.out.frozen 0
      go_wp2_with fail
      refine bp_gen fun wf hwf => ?_
      have HRF : Blk wf (w.heap.size + 1) 26 [.slice none 0 0] := by rw [hwf]; first | exact HR2.out | exact HR2.out.set 0 _
      have hbf : Below w.heap.size w wf := by rw [hwf]; first | exact HB2.out | exact HB2.out.setCell (p := ⟨w.heap.size + 1, 0, none⟩) (Nat.le_succ _) _
      have q0 := HRF.cell 0 _ rfl
      clear hwf k2 k3
      exact bodyPost_ret (v := .tuple #[.agg #[.slice none 0 0], .int .i64 5]) (by simp [results, Tryd.results5, go_sem, q0]) rfl ⟨_, _, rfl, hbf, .inl ⟨rfl, rfl⟩⟩
    · rw [if_neg hc] at hcode
      subst hcode
      have HSC := hide hsc
      have g1 : (code == 0) = false := by simpa using hc
      have g2 : (code != 0) = true := by simpa using hc
      clear hn hbs hr hor hsc hc
      go_enter Tryd.func5, Tryd.ntmps5
      have k0 := HK0.out.cell 0 _ rfl
      go_wp2_with fail
      clear k0
      refine (subS_any _ _ _ f x code _ HN.out hb HBS.out (HRD.out.later HB0.out) hlo hhi HSC.out).mono ?_
      rintro e w1 ⟨rfl, hb1⟩
      have HB1 := hide (HB0.out.trans (hb1.mono HB0.out.size))
      have HK1 := hide (HK0.out.later hb1)
      have HR1 := hide (HR0.out.later hb1)
      clear hb1
      have k2 := HR1.out.cell 0 _ rfl
      have k3 := HR1.out.frozen 0
      go_wp2_with fail
      refine bp_gen fun wf hwf => ?_
      have HRF : Blk wf (w.heap.size + 1) 26 [.slice none 0 0] := by rw [hwf]; first | exact HR1.out | exact HR1.out.set 0 _
      have hbf : Below w.heap.size w wf := by rw [hwf]; first | exact HB1.out | exact HB1.out.setCell (p := ⟨w.heap.size + 1, 0, none⟩) (Nat.le_succ _) _
      have q0 := HRF.cell 0 _ rfl
      clear hwf k2 k3
      exact bodyPost_ret (v := .tuple #[.agg #[.slice none 0 0], .int .i64 code]) (by simp [results, Tryd.results5, go_sem, q0]) rfl ⟨_, _, rfl, hbf, .inl ⟨rfl, rfl⟩⟩
end Go.Proofs.YtelildgngkajnaaDoor
