import Derived.Test.YtpnlmmilnglmkaaZs
import Derived.Test.YtpnlmmilnglmkaaZj
import Derived.Test.YtpnlmmilnglmkaaZo
import Derived.Test.YtpnlmmilnglmkaaZh
import Derived.Test.YtpnlmmilnglmkaaZg
import Derived.Deep.Cut
import Derived.Deep.DeepCutAuto
import Derived.Test.YtpnlmmilnglmkaaZi
import Derived.Test.YtpnlmmilnglmkaaZb
import Derived.Deep.AppendLies
namespace Go.Proofs.Ytpnlmmilnglmkaa
open Go Go.RowKit
set_option maxHeartbeats 2000000

set_option maxRecDepth 100000 in
theorem derivedC_any (A B C : Option Addr) (n c d e : Nat) (f s : List (List Int)) (P Q : Nat) (w : World) (hz : ZArg 1048576 w A n f B n s) (hp : PMap f s) (hpm : AllPrm f) (hi : Rd2 w C (dualL f)) (hk : Blk w P 30 [.slice A n c, .slice B n d]) (hq : Blk w Q 22 [.slice C n e]) :
    CellFn Try.prog 123 #[.pointer (some ⟨P, 0, none⟩), .pointer (some ⟨Q, 0, none⟩)] n (drH f s) w := by
  intro W x y hx hy hb
  have HZ := hide (hz.later hb)
  have HI := hide (hi.later hb)
  have HKc := hide (hk.later hb)
  have HQc := hide (hq.later hb)
  have HP := hide hp
  have HM := hide hpm
  have HN := hide hz.sz.fl
  have HSN := hide hz.sz.sl
  have h12 : n ≤ 12 := (hz.small hp).2
  show Calls Try.prog 123 #[.int .i64 x, .int .i64 y, .pointer (some ⟨P, 0, none⟩), .pointer (some ⟨Q, 0, none⟩)] W _
  clear hz hp hpm hi hk hq hb
  unfold drH drv
  have hu1 := sol_lt HP.out.1 HM.out HN.out hy hx
  obtain ⟨u, hu⟩ : ∃ u, sol f y x = u := ⟨_, rfl⟩
  rw [hu] at hu1 ⊢
  have hv1 := HP.out.2.1.ap_lt HSN.out hy hu1
  obtain ⟨v, hv⟩ : ∃ v, ap s y u = v := ⟨_, rfl⟩
  rw [hv] at hv1 ⊢
  obtain ⟨t, ht⟩ : ∃ t, ap f x v = t := ⟨_, rfl⟩
  obtain ⟨t2, ht2⟩ : ∃ t2, ap f y u = t2 := ⟨_, rfl⟩
  rw [ht]
  have HU := hide hu
  have HV := hide hv
  have HT := hide ht
  have HT2 := hide ht2
  have HDT := hide (dual_tbl HP.out.1 HM.out)
  have HDL : Hid ((dualL f).length = n) := hide (by rw [dualL_len]; exact HN.out)
  have HSA := hide (sol_ap HP.out.1 HM.out HN.out hy hx)
  clear hu hv ht ht2
  have hxz : (x : Int) < n := by omega
  have hyz : (y : Int) < n := by omega
  have huz : (u : Int) < n := by omega
  have hvz : (v : Int) < n := by omega
  obtain ⟨b, o, hA, hbw, hc⟩ := HDT.out.cells HI.out HDL.out
  subst hA
  obtain ⟨bx, ox, cx, h1, h2, h3⟩ := hc y hy
  have h4 := h3 x hx
  rw [HSA.out, HU.out] at h4
  obtain ⟨b', o', hA', hbw', hc'⟩ := HP.out.1.cells HZ.out.fst HN.out
  subst hA'
  obtain ⟨bx', ox', cx', j1, j2, j3⟩ := hc' x hx
  have j4 := j3 v hv1
  rw [HT.out] at j4
  have J1 := hide j1
  have H1 := hide h1
  have H4 := hide h4
  have J4 := hide j4
  have k0 := HKc.out.cell 0 _ rfl
  have k1 := HKc.out.cell 1 _ rfl
  have k2 := HQc.out.cell 0 _ rfl
  clear hc hc' h3 j3 j1 j4 h1 h4
  have HF : Hid (FC W W W.heap.size [(P, 30, [.slice (some ⟨b', o', none⟩) n c, .slice B n d]), (Q, 22, [.slice (some ⟨b, o, none⟩) n e])]) := hide (FC.of (Below.refl _ _) (by
    have a1 := HKc.out
    have a2 := HQc.out
    intro q hq
    simp at hq
    rcases hq with rfl | rfl
    · exact a1
    · exact a2))
  have L1 := HKc.out.lt
  have L2 := HQc.out.lt
  go_enter Try.func123, Try.ntmps123
  go_wp2_with fail
  go_cut [7] (fun vv wx => ∃ L, vv = .pointer (some ⟨L, 0, none⟩) ∧ FC W wx (L + 1) ((L, 97, [.int .i64 t2, .int .i64 v]) :: [(P, 30, [.slice (some ⟨b', o', none⟩) n c, .slice B n d]), (Q, 22, [.slice (some ⟨b, o, none⟩) n e])]))
  case first =>
    have HPB : Hid True := hide trivial
    have k0 := (HF.out.blk (b := P) (t := 30) (cs := [.slice (some ⟨b', o', none⟩) n c, .slice B n d]) (by simp)).cell 0 _ rfl
    have k1 := (HF.out.blk (b := P) (t := 30) (cs := [.slice (some ⟨b', o', none⟩) n c, .slice B n d]) (by simp)).cell 1 _ rfl
    have k2 := (HF.out.blk (b := Q) (t := 22) (cs := [.slice (some ⟨b, o, none⟩) n e]) (by simp)).cell 0 _ rfl
    have e1 := (HF.out.below.cell (p := ⟨b, o + y, none⟩) hbw).trans H1.out
    have e2 := (HF.out.below.cell (p := ⟨bx, ox + x, none⟩) h2).trans H4.out
    have gn0 : W.heap.size ≠ P := (by have h1 := HF.out.sz; have h2 := HF.out.le (b := P) (t := 30) (cs := [.slice (some ⟨b', o', none⟩) n c, .slice B n d]) (by simp); omega)
    have gm0 := gn0.symm
    have gn1 : W.heap.size ≠ Q := (by have h1 := HF.out.sz; have h2 := HF.out.le (b := Q) (t := 22) (cs := [.slice (some ⟨b, o, none⟩) n e]) (by simp); omega)
    have gm1 := gn1.symm
    have fn0 : W.heap.size ≠ b := (by have h1 := HF.out.below.size; have h2 := hbw; omega)
    have fm0 := fn0.symm
    have fn1 : W.heap.size ≠ bx := (by have h1 := HF.out.below.size; have h2 := h2; omega)
    have fm1 := fn1.symm
    go_region_held3 (fun w' => w'.cell? ⟨P, 0, none⟩ = some (.slice (some ⟨b', o', none⟩) n c) ∧ w'.cell? ⟨P, 1, none⟩ = some (.slice B n d) ∧ w'.cell? ⟨Q, 0, none⟩ = some (.slice (some ⟨b, o, none⟩) n e) ∧ w'.cell? ⟨b, o + y, none⟩ = some (.slice (some ⟨bx, ox, none⟩) n cx) ∧ w'.cell? ⟨bx, ox + x, none⟩ = some (.int .i64 u)) (first | exact ⟨k0, k1, k2, e1, e2⟩ | go_keep) (first | (go_at_call 69; go_must (refine calls_gen fun wc hwc => ?_; (first | (have hbx := al_drew_below hwc; have HPB := hide (And.intro (blk_al_drew hwc) HF.out.sz)) | (have hbx := al_below hwc; have HPB := hide (And.intro (blk_al hwc) HF.out.sz)) | (have hbx := drew_below hwc; (first | replace HPB := hide (And.intro (HPB.out.1.later hbx) HPB.out.2) | skip)) | (have hbx := eq_below hwc; (first | replace HPB := hide (And.intro (HPB.out.1.later hbx) HPB.out.2) | skip))); replace HF := hide (HF.out.later hbx); clear hwc hbx; refine (lead_any (some ⟨b', o', none⟩) n _ f B n _ s y u _ (HZ.out.later HF.out.below) HP.out hy hu1).mono ?_; rintro e wd ⟨rfl, hbd⟩; rw [HT2.out, HV.out]; replace HF := hide (HF.out.later hbd); (first | replace HPB := hide (And.intro (HPB.out.1.later hbd) HPB.out.2) | skip); clear hbd; have gn0 : wd.heap.size ≠ P := (by have h1 := HF.out.sz; have h2 := HF.out.le (b := P) (t := 30) (cs := [.slice (some ⟨b', o', none⟩) n c, .slice B n d]) (by simp); omega); have gm0 := gn0.symm; have gn1 : wd.heap.size ≠ Q := (by have h1 := HF.out.sz; have h2 := HF.out.le (b := Q) (t := 22) (cs := [.slice (some ⟨b, o, none⟩) n e]) (by simp); omega); have gm1 := gn1.symm; have fn0 : wd.heap.size ≠ b := (by have h1 := HF.out.below.size; have h2 := hbw; omega); have fm0 := fn0.symm; have fn1 : wd.heap.size ≠ bx := (by have h1 := HF.out.below.size; have h2 := h2; omega); have fm1 := fn1.symm; have k0 := (HF.out.blk (b := P) (t := 30) (cs := [.slice (some ⟨b', o', none⟩) n c, .slice B n d]) (by simp)).cell 0 _ rfl; have k1 := (HF.out.blk (b := P) (t := 30) (cs := [.slice (some ⟨b', o', none⟩) n c, .slice B n d]) (by simp)).cell 1 _ rfl; have k2 := (HF.out.blk (b := Q) (t := 22) (cs := [.slice (some ⟨b, o, none⟩) n e]) (by simp)).cell 0 _ rfl; have e1 := (HF.out.below.cell (p := ⟨b, o + y, none⟩) hbw).trans H1.out; have e2 := (HF.out.below.cell (p := ⟨bx, ox + x, none⟩) h2).trans H4.out; (first | (have b0 := HPB.out.1.cell 0 _ rfl; have b1 := HPB.out.1.cell 1 _ rfl; have bf0 := HPB.out.1.frozen 0; have bf1 := HPB.out.1.frozen 1) | skip); skip)))
    all_goals go_wp2_with fail
    all_goals go_meet
    all_goals refine ⟨_, rfl, ?_⟩
    all_goals first | exact HF.out.new _ _ | exact ((HF.out.set (p := ⟨_, 0, none⟩) HPB.out.2 _).set (p := ⟨_, 1, none⟩) HPB.out.2 _).push ((HPB.out.1.set 0 _).set 1 _) HPB.out.2
  case rest =>
    obtain ⟨L1p, rfl, hfk⟩ := hcut
    replace HF := hide hfk
    clear hfk
    clear k0 k1 k2
    have k0 := (HF.out.blk (b := P) (t := 30) (cs := [.slice (some ⟨b', o', none⟩) n c, .slice B n d]) (by simp)).cell 0 _ rfl
    have kp := (HF.out.blk (b := L1p) (t := 97) (cs := [.int .i64 t2, .int .i64 v]) (by simp)).cell 1 _ rfl
    have j1 := (HF.out.below.cell (p := ⟨b', o' + x, none⟩) hbw').trans J1.out
    have j4 := (HF.out.below.cell (p := ⟨bx', ox' + v, none⟩) j2).trans J4.out
    go_wp2_with fail
    go_quiet (fail)
    clear k0 kp j1 j4
    go_wp2_with fail
    go_ret
    exact ⟨rfl, by first | exact HF.out.below | exact HF.out.below.drew | exact bdrewN HF.out.below _⟩

set_option maxRecDepth 100000 in
theorem derived_any (A B : Option Addr) (n c d : Nat) (f s : List (List Int)) (w : World) (hz : ZArg 1048576 w A n f B n s) (hp : PMap f s) (hpm : AllPrm f) :
    Calls Try.prog 63 #[.agg #[.slice A n c, .slice B n d]] w fun e w' => ∃ A' c', e = .returned (.agg #[.slice A' n c']) ∧ Below w.heap.size w w' ∧ Obj2 37 2 w.heap.size w'.heap.size w' A' (grid n (drH f s)) := by
  have HZ := hide hz
  have HP := hide hp
  have HM := hide hpm
  have HN := hide hz.sz.fl
  have h12 : n ≤ 12 := (hz.small hp).2
  have h1 : 1 ≤ n := (hz.small hp).1
  have HB0 := hide (((Below.refl _ w).alloc (Nat.le_refl _) (Obj.cells #[Value.slice A n c, Value.slice B n d] 30)).alloc (by simp) (Obj.cells #[.slice none 0 0] 27))
  have HK0 := hide ((Blk.new w 30 [.slice A n c, .slice B n d]).alloc (Obj.cells #[.slice none 0 0] 27))
  have HR0 : Hid (Blk ((w.alloc (Obj.cells #[Value.slice A n c, Value.slice B n d] 30)).alloc (Obj.cells #[.slice none 0 0] 27)) (w.heap.size + 1) 27 [.slice none 0 0]) := hide (by have h := Blk.new (w.alloc (Obj.cells #[Value.slice A n c, Value.slice B n d] 30)) 27 [.slice none 0 0]; simpa using h)
  clear hz hp hpm
  go_enter Try.func63, Try.ntmps63
  have k0 := HK0.out.cell 0 _ rfl
  go_wp2_with fail
  refine (inverses_any A n c f _ HN.out HP.out.1 HM.out (HZ.out.later HB0.out).fst).mono ?_
  rintro e w1 ⟨C, e1, rfl, hb1, ho1⟩
  have HB1 := hide (HB0.out.trans (hb1.mono HB0.out.size))
  have HK1 := hide (HK0.out.later hb1)
  have HR1 := hide (HR0.out.later hb1)
  have HI1 := hide ho1.rd
  clear hb1 ho1 k0
  go_upto_region 2 with fail
  refine wp_gen fun w2 hw2 => ?_
  obtain ⟨Q, hQ⟩ : ∃ Q, w1.heap.size = Q := ⟨_, rfl⟩
  have hq : Below w1.heap.size w1 w2 := by rw [hw2]; exact (Below.refl _ _).alloc (Nat.le_refl _) _
  have HB2 := hide (HB1.out.trans (hq.mono HB1.out.size))
  have HK2 := hide (HK1.out.later hq)
  have HR2 := hide (HR1.out.later hq)
  have HI2 := hide (HI1.out.later hq)
  have HQ2 : Hid (Blk w2 Q 22 [.slice C n e1]) := hide (by rw [hw2, ← hQ]; exact Blk.new _ _ _)
  rw [hQ]
  clear hw2 hq hQ
  have k0 := HK2.out.cell 0 _ rfl
  have k1 := HK2.out.cell 1 _ rfl
  go_wp2_with fail
  refine (size_any _ _ _ _ _ _ _ (by omega)).mono ?_
  rintro e w3 ⟨rfl, hb3⟩
  have HB3 := hide (HB2.out.trans (hb3.mono HB2.out.size))
  have HK3 := hide (HK2.out.later hb3)
  have HR3 := hide (HR2.out.later hb3)
  have HI3 := hide (HI2.out.later hb3)
  have HQ3 := hide (HQ2.out.later hb3)
  clear hb3 k0 k1
  go_wp2_with fail
  refine (rackOf_any 123 _ n (drH f s) _ (fun _ _ => rfl) h1 h12 (derivedC_any A B C n c d e1 f s w.heap.size Q _ (HZ.out.later HB3.out) HP.out HM.out HI3.out HK3.out HQ3.out)).mono ?_
  rintro e w4 ⟨A4, c4, rfl, hb4, ho4⟩
  have HB4 := hide (HB3.out.trans (hb4.mono HB3.out.size))
  have HR4 := hide (HR3.out.later hb4)
  have HO4 := hide ho4
  have HLO := hide HB3.out.size
  have HLT := hide HR3.out.lt
  clear hb4 ho4
  have k2 := HR4.out.cell 0 _ rfl
  have k3 := HR4.out.frozen 0
  go_wp2_with fail
  refine bp_gen fun wf hwf => ?_
  obtain ⟨q0, hbf, hof⟩ := kend hwf HR4.out (by omega) HB4.out HO4.out HLO.out HLT.out (Nat.le_refl _)
  clear hwf k2 k3
  exact bodyPost_ret (v := .agg #[.slice A4 n c4]) (by simp [results, Try.results63, go_sem, q0]) rfl ⟨_, _, rfl, hbf, hof⟩
end Go.Proofs.Ytpnlmmilnglmkaa
namespace Go.Proofs.Ytpnlmmilnglmkaa
open Go Go.RowKit
set_option maxHeartbeats 4000000

set_option maxRecDepth 100000 in
theorem rack6_any (A B : Option Addr) (n c d : Nat) (f s : List (List Int)) (w : World) (hz : ZArg 1048576 w A n f B n s) (hp : PMap f s) (hpm : AllPrm f) :
    Calls Try.prog 59 #[.agg #[.slice A n c, .slice B n d]] w fun e w' => ∃ A' c', e = .returned (.agg #[.slice A' n c']) ∧ Below w.heap.size w w' ∧ Obj2 37 2 w.heap.size w'.heap.size w' A' (grid n (drH f s)) := by
  have HN := hide hz.sz.fl
  have HSN := hide hz.sz.sl
  have HTB := hide hp.1
  have HTS := hide hp.2.1
  have HPM := hide hpm
  have HRF := hide hz.fst
  have h12 : n ≤ 12 := (hz.small hp).2
  have h1 : 1 ≤ n := (hz.small hp).1
  obtain ⟨b1, o1, hA, hb1w, hc1⟩ := HTB.out.cells hz.fst HN.out
  obtain ⟨b2, o2, hB, hb2w, hc2⟩ := HTS.out.cells hz.snd HSN.out
  subst hA
  subst hB
  have HC1 := hide hc1
  have HC2 := hide hc2
  obtain ⟨H, hH⟩ : ∃ H, drH f s = H := ⟨_, rfl⟩
  rw [hH]
  have HH := hide hH
  obtain ⟨i0, hi, hz0, hz1, hz2⟩ := info_parts neInfo
  obtain ⟨i2, hj, hy0, hy1, hy2⟩ := info_parts neInfo2
  clear hc1 hc2 hz hp hpm hH
  go_enter Try.func59, Try.ntmps59
  go_upto_region 1 with fail
  refine wp_gen fun wd hw0 => ?_
  have HB : Hid (Below w.heap.size w wd) := hide (by rw [hw0]; exact ((Below.refl _ _).alloc (Nat.le_refl _) _).alloc (by simp) _)
  have HK : Hid (Blk wd w.heap.size 30 [.slice (some ⟨b1, o1, none⟩) n c, .slice (some ⟨b2, o2, none⟩) n d]) := hide (by rw [hw0]; exact (Blk.new _ _ _).alloc _)
  have HR : Hid (Blk wd (w.heap.size + 1) 27 [.slice none 0 0]) := hide (by rw [hw0]; have h := Blk.new (w.alloc (Obj.cells #[.slice (some ⟨b1, o1, none⟩) n c, .slice (some ⟨b2, o2, none⟩) n d] 30)) 27 [.slice none 0 0]; simpa using h)
  clear hw0
  have k0 := HK.out.cell 0 _ rfl
  go_upto_region 3 with fail
  refine wp_gen fun w2 hw2 => ?_
  obtain ⟨ob, hob⟩ : ∃ ob, wd.heap.size = ob := ⟨_, rfl⟩
  have hob1 : w.heap.size + 1 < ob := by rw [← hob]; exact HR.out.lt
  replace HB : Hid (Below w.heap.size w w2) := hide (by rw [hw2]; exact HB.out.alloc HB.out.size _)
  replace HK : Hid (Blk w2 w.heap.size 30 [.slice (some ⟨b1, o1, none⟩) n c, .slice (some ⟨b2, o2, none⟩) n d]) := hide (by rw [hw2]; exact HK.out.alloc _)
  replace HR : Hid (Blk w2 (w.heap.size + 1) 27 [.slice none 0 0]) := hide (by rw [hw2]; exact HR.out.alloc _)
  have HO2 : Hid (Blk w2 ob 27 [.slice none 0 0]) := hide (by rw [hw2, ← hob]; exact Blk.new _ _ _)
  have HT : Hid (One 37 2 27 (ob + 1) w2 ob 0 [.slice none 0 0] (.slice none 0 0) [] []) := hide (One.start w2 _ _ _ HO2.out (Nat.lt_succ_self _) HO2.out.lt)
  rw [hob]
  clear hw2 hob HO2 k0
  go_wp2_with fail
  go_loopw [5] (fun i wr => ∃ (x : Nat) (v : Value) (vals : List Value), x ≤ n ∧ i = .int .i64 x ∧ Below w.heap.size w wr ∧ One 37 2 27 (ob + 1) wr ob 0 [.slice none 0 0] v ((grid n H).take x) vals ∧ Blk wr (w.heap.size) 30 [.slice (some ⟨b1, o1, none⟩) n c, .slice (some ⟨b2, o2, none⟩) n d] ∧ Blk wr (w.heap.size + 1) 27 [.slice none 0 0]) (fun i _ => n - (intOf i).toNat)
  case atStart => exact ⟨0, _, _, Nat.zero_le _, rfl, HB.out, by simpa using HT.out, HK.out, HR.out⟩
  case round =>
    obtain ⟨x, v, vals, hx, rfl, hbe, htw, qHK, qHR⟩ := hrel
    clear HB HT HK HR
    have HB := hide hbe
    have HT := hide htw
    have HK := hide qHK
    have HR := hide qHR
    clear hbe htw qHK qHR
    by_cases hlt : x < n
    · have hxz : (x : Int) < n := by omega
      go_wp2_with fail
      obtain ⟨wo, rfl⟩ : ∃ wo : World, wo = wr := ⟨_, rfl⟩
      go_loopw [6, 7] (fun v i wi => ∃ y : Nat, y ≤ n ∧ i = .int .i64 y ∧ Below wo.heap.size wo wi ∧ wo.heap.size < wi.heap.size ∧ wi.ownsRow wo.heap.size 2 1 v y (ints ((frow n H x).take y))) (fun _ i _ => n - (intOf i).toNat)
      case atStart => exact ⟨0, Nat.zero_le _, rfl, (Below.refl _ _).alloc (Nat.le_refl _) _, by simp, by simpa [ints] using ne_empty wo _⟩
      case round =>
        obtain ⟨y, hy, rfl, hbi, hsi2, hoi⟩ := hrel
        have HBI := hide hbi
        have HOI := hide hoi
        clear hbi hoi
        by_cases hlty : y < n
        · have hyz : (y : Int) < n := by omega
          have HBW := hide (HB.out.trans (HBI.out.mono HB.out.size))
          have hun := sol_lt HTB.out HPM.out HN.out (x := y) (z := x) (by omega) (by omega)
          have hix := sol_ix HTB.out HPM.out HN.out (x := y) (z := x) (by omega) (by omega)
          obtain ⟨u, hu⟩ : ∃ u, sol f y x = u := ⟨_, rfl⟩
          rw [hu] at hun hix
          have hvn := HTS.out.ap_lt HSN.out (a := y) (b := u) (by omega) hun
          obtain ⟨v, hv⟩ : ∃ v, ap s y u = v := ⟨_, rfl⟩
          rw [hv] at hvn
          obtain ⟨t, ht0⟩ : ∃ t, ap f x v = t := ⟨_, rfl⟩
          have hpr : H x y = (t : Int) := by rw [← HH.out]; unfold drH drv; rw [hu, hv, ht0]
          obtain ⟨bx, ox, cx, r1, lx, g1⟩ := HC1.out x (by omega)
          obtain ⟨by_, oy, cy, r2, ly, g2⟩ := HC2.out y (by omega)
          obtain ⟨bz, oz, cz, r5, lz, _⟩ := HC1.out y (by omega)
          have r3 := g2 u hun
          have r4 := g1 v hvn
          rw [hv] at r3
          rw [ht0] at r4
          have huz : (u : Int) < n := by omega
          have hvz : (v : Int) < n := by omega
          obtain ⟨b1', o1', hA', _, hcr⟩ := rd_rows HTB.out HRF.out HN.out
          injection hA' with hA'
          injection hA' with e1 e2
          subst e1
          subst e2
          obtain ⟨Bz, cz2, r6, hrd⟩ := hcr y (by omega)
          have r7 := r6
          rw [r5] at r7
          have HRY := hide (hrd.later HBW.out)
          have HLY : Hid ((f.getD y []).length = n) := hide (HTB.out.row_len HN.out (by omega))
          have HIX := hide hix
          have R1 := hide r1
          have R2 := hide r2
          have R3 := hide r3
          have R4 := hide r4
          have HV := hide hv
          have HCELL := hide hpr
          have l0 := (HBW.out.cell (p := ⟨b1, o1 + y, none⟩) hb1w).trans r6
          have l1 := (HK.out.later HBI.out).cell 0 _ rfl
          clear hu ht0 hpr g1 g2 hv r1 r2 r3 r4 r5 r6 r7 hcr hrd hix
          go_wp2_with fail
          clear l0 l1
          refine (gq_low (index_any _ n _ (f.getD y []) (x : Int) _ HLY.out (by omega) HRY.out)).mono ?_
          rintro e wd ⟨rfl, hbd⟩
          rw [HIX.out]
          have HBJ := hide (HBI.out.trans (hbd.mono HBI.out.size))
          have HOJ := hide (ownsRow_below HOI.out hbd)
          have hsj : wo.heap.size < wd.heap.size := (by have := hbd.size; omega)
          have HBV := hide (HB.out.trans (HBJ.out.mono HB.out.size))
          clear hbd
          have ff0 : wd.cell? ⟨b1, o1 + x, none⟩ = some (.slice (some ⟨bx, ox, none⟩) n cx) := (HBV.out.cell (p := ⟨b1, o1 + x, none⟩) hb1w).trans R1.out
          have ff1 : wd.cell? ⟨b2, o2 + y, none⟩ = some (.slice (some ⟨by_, oy, none⟩) n cy) := (HBV.out.cell (p := ⟨b2, o2 + y, none⟩) hb2w).trans R2.out
          have ff2 : wd.cell? ⟨by_, oy + u, none⟩ = some (.int .i64 v) := (HBV.out.cell (p := ⟨by_, oy + u, none⟩) ly).trans R3.out
          have ff3 : wd.cell? ⟨bx, ox + v, none⟩ = some (.int .i64 t) := (HBV.out.cell (p := ⟨bx, ox + v, none⟩) lx).trans R4.out
          have ff4 : wd.cell? ⟨w.heap.size, 0, none⟩ = some (.slice (some ⟨b1, o1, none⟩) n c) := (HK.out.later HBJ.out).cell 0 _ rfl
          have ff5 : wd.cell? ⟨w.heap.size, 1, none⟩ = some (.slice (some ⟨b2, o2, none⟩) n d) := (HK.out.later HBJ.out).cell 1 _ rfl
          go_wp2_with fail
          go_region_held3 (fun w' => w'.cell? ⟨b1, o1 + x, none⟩ = some (.slice (some ⟨bx, ox, none⟩) n cx) ∧ w'.cell? ⟨b2, o2 + y, none⟩ = some (.slice (some ⟨by_, oy, none⟩) n cy) ∧ w'.cell? ⟨by_, oy + u, none⟩ = some (.int .i64 v) ∧ w'.cell? ⟨bx, ox + v, none⟩ = some (.int .i64 t) ∧ w'.cell? ⟨w.heap.size, 0, none⟩ = some (.slice (some ⟨b1, o1, none⟩) n c) ∧ w'.cell? ⟨w.heap.size, 1, none⟩ = some (.slice (some ⟨b2, o2, none⟩) n d)) (first | exact ⟨ff0, ff1, ff2, ff3, ff4, ff5⟩ | go_keep) (first | (refine step_append_lies _ (by rfl) _ _ _ (by rfl) wo.heap.size 2 i0 _ 1 8 Try.underlying37 hi hz0 hz1 hz2 rfl (by omega) u6 y (ints ((frow n H x).take y)) (by rfl) (HOJ.out.alloc _) ⟨wd.heap.size, 0, none⟩ 1 1 [.int .i64 t] (by rfl) (by rfl) ne_new (by simp [Value.oneCell']) (by omega) (by unfold maxLen; omega) (by omega) (by simp; omega) (wd.heap.size + 1) (by simp) ?_; go_must (intro gg cap w3 hown' hgrow _ _; have HO3 := hide hown'; have HB3 : Hid (Below wo.heap.size wo w3) := (by first | exact hide ((HBJ.out.alloc HBJ.out.size _).drew.grown hgrow (by have := HBJ.out.size; simp; omega) (fun g hg => ((HOJ.out.alloc (.cells #[.int .i64 t] 2)).lt g hg).1)) | exact hide ((HBJ.out.alloc HBJ.out.size _).grown hgrow (by have := HBJ.out.size; simp; omega) (fun g hg => ((HOJ.out.alloc (.cells #[.int .i64 t] 2)).lt g hg).1))); have hs3 : wo.heap.size < w3.heap.size := (by have := hgrow.size; simp at this; omega); have HBV3 := hide (HB.out.trans (HB3.out.mono HB.out.size)); clear hown' hgrow; have ff0 : w3.cell? ⟨b1, o1 + x, none⟩ = some (.slice (some ⟨bx, ox, none⟩) n cx) := (HBV3.out.cell (p := ⟨b1, o1 + x, none⟩) hb1w).trans R1.out; have ff1 : w3.cell? ⟨b2, o2 + y, none⟩ = some (.slice (some ⟨by_, oy, none⟩) n cy) := (HBV3.out.cell (p := ⟨b2, o2 + y, none⟩) hb2w).trans R2.out; have ff2 : w3.cell? ⟨by_, oy + u, none⟩ = some (.int .i64 v) := (HBV3.out.cell (p := ⟨by_, oy + u, none⟩) ly).trans R3.out; have ff3 : w3.cell? ⟨bx, ox + v, none⟩ = some (.int .i64 t) := (HBV3.out.cell (p := ⟨bx, ox + v, none⟩) lx).trans R4.out; have ff4 : w3.cell? ⟨w.heap.size, 0, none⟩ = some (.slice (some ⟨b1, o1, none⟩) n c) := (HK.out.later HB3.out).cell 0 _ rfl; have ff5 : w3.cell? ⟨w.heap.size, 1, none⟩ = some (.slice (some ⟨b2, o2, none⟩) n d) := (HK.out.later HB3.out).cell 1 _ rfl)))
          all_goals
            clear ff0 ff1 ff2 ff3 ff4 ff5
            go_wp2_with fail
            go_roundw
            case rel => exact ⟨y + 1, by omega, by go_num, HB3.out, hs3, by have h := HO3.out; rw [← HCELL.out, frow_take _ _ _ _ hlty] at h; exact h⟩
            case measure => simp [intOf]; omega
        · have hyn : y = n := by omega
          subst hyn
          have HTM : Hid (((grid y H).take x).length = x) := hide (by rw [List.length_take, grid_length]; omega)
          obtain ⟨A2, c2', hv2, hres2⟩ := own_shape HOI.out
          subst hv2
          have HRL : Hid ((frow y H x).length = y) := hide (frow_length _ _ _)
          have HTK : Hid ((frow y H x).take y = frow y H x) := hide (List.take_of_length_le (by rw [HRL.out]; exact Nat.le_refl _))
          have HRO := hide hres2.obj
          have HT3 := hide (HT.out.later HBI.out)
          have HK3 := hide (HK.out.later HBI.out)
          have HR3 := hide (HR.out.later HBI.out)
          have HB3 := hide (HB.out.trans (HBI.out.mono HB.out.size))
          clear hres2
          have j0 := HT3.out.box.cell 0 _ rfl
          have j2 := HT3.out.box.frozen 0
          have j4 := fun o => (HT3.out.box.alloc o).cell 0 _ rfl
          have HOW2 : Hid (wr.ownsRow (ob + 1) 37 1 v x vals) := hide (by have h := HT3.out.l.own; rw [HTM.out] at h; exact h)
          have hobl := HT3.out.box.lt
          have hbsz := HT3.out.bsz
          go_wp2_with (at_builtin; refine wpList_append_own_at _ rfl _ _ 22 rfl (ob + 1) 37 i2 (.slice none 0 0) 1 24 Try.underlying22 hj hy0 hy1 hy2 rfl (by decide) _ _ _ rfl (HOW2.out.alloc _) ⟨wr.heap.size, 0, none⟩ 1 1 [.slice A2 y c2'] rfl rfl ?p1 ?p2 ?p3 ?p4 ?p5 ?_)
          try (case p1 => exact ne_new)
          try (case p2 => first | rfl | (intro u hu; simp at hu; subst hu; rfl))
          try (case p3 => first | omega | (unfold maxLen; omega))
          try (case p4 => omega)
          try (case p5 => first | omega | (simp; omega))
          intro v' w7 hown7 hgrow7 _ hat7
          obtain ⟨gg2, cap2, hv7⟩ := own_form hown7
          subst hv7
          have hbk := HT3.out.kept hgrow7
          have HT4 := hide (One.add (by decide) HT.out HT3.out (Nat.le_refl _) (by have h := HRO.out; rw [HTK.out] at h; exact h) HTM.out HRL.out hown7 hgrow7)
          have HB4 := hide (HT3.out.below hgrow7 (.slice (some ⟨gg2, 0, none⟩) (x + 1) cap2) HB3.out (by omega))
          have HK4 := hide ((HT3.out.frame hgrow7 (.slice (some ⟨gg2, 0, none⟩) (x + 1) cap2) (by omega) (by omega) HK3.out.lt).trans HK3.out)
          have HR4 := hide ((HT3.out.frame hgrow7 (.slice (some ⟨gg2, 0, none⟩) (x + 1) cap2) (by omega) (by omega) HR3.out.lt).trans HR3.out)
          clear j0 j2 j4 hown7 hgrow7 hat7
          have j0 := hbk.cell 0 _ rfl
          have j2 := hbk.frozen 0
          clear hbk
          go_wp2_with fail
          go_roundw
          case rel =>
            refine ⟨x + 1, .slice (some ⟨gg2, 0, none⟩) (x + 1) cap2, vals ++ [.slice A2 y c2'], by omega, by go_num, HB4.out, ?_, HK4.out, HR4.out⟩
            rw [grid_take _ _ _ hlt]
            exact HT4.out
          case measure => simp [intOf]; omega
    · have hxn : x = n := by omega
      subst hxn
      obtain ⟨A1, c1, hv1, ho1⟩ := HT.out.l.shape
      rw [List.take_of_length_le (by rw [grid_length]; exact Nat.le_refl _)] at hv1 ho1
      rw [grid_length] at hv1
      subst hv1
      have HA1 := hide ho1
      clear ho1
      have k0 := HT.out.box.cell 0 _ rfl
      have k2 := HR.out.cell 0 _ rfl
      have k3 := HR.out.frozen 0
      have hobl := HT.out.box.lt
      go_wp2_with fail
      refine bp_gen fun wf hwf => ?_
      obtain ⟨q0, hbf, hof⟩ := kend hwf HR.out (by omega) HB.out HA1.out (by omega) (by omega) (Nat.le_refl _)
      clear hwf k0 k2 k3
      exact bodyPost_ret (v := .agg #[.slice A1 x c1]) (by simp [results, Try.results59, go_sem, q0]) rfl ⟨_, _, rfl, hbf, hof⟩
end Go.Proofs.Ytpnlmmilnglmkaa
