import Derived.Test.YtiaebilcgmahlaaXi
import Derived.Test.YtiaebilcgmahlaaXc
import Derived.Test.YtiaebilcgmahlaaXg
import Derived.Test.YtiaebilcgmahlaaXa
import Derived.Test.YtiaebilcgmahlaaXe
import Derived.Test.YtiaebilcgmahlaaXb
import Derived.Maps.AppendAt
import Derived.Deep.Cut
import Derived.Deep.RegionHeld3
import Derived.Deep.DeepCutAuto
import Derived.Test.YtiaebilcgmahlaaXj
import Derived.Test.YtiaebilcgmahlaaXf
namespace Go.Proofs.Ytiaebilcgmahlaa
open Go Go.RowKit
set_option maxHeartbeats 2000000

theorem L3.of_blk {w : World} {b : Nat} {t : TypeId} {x y z : Nat} (h : Blk w b t [.int .i64 x, .int .i64 y, .int .i64 z]) : L3 w b x y z := ⟨h.lt, h.cell 0 _ rfl, h.cell 1 _ rfl, h.cell 2 _ rfl⟩

theorem lst3_inj {a b : Nat × Nat × Nat} (h : lst3 a = lst3 b) : a = b := by
  obtain ⟨a1, a2, a3⟩ := a
  obtain ⟨b1, b2, b3⟩ := b
  simp [lst3] at h
  obtain ⟨h1, h2, h3⟩ := h
  have e1 : a1 = b1 := by omega
  have e2 : a2 = b2 := by omega
  have e3 : a3 = b3 := by omega
  rw [e1, e2, e3]

set_option maxRecDepth 100000 in
theorem faultS_any (A : Option Addr) (n c : Nat) (f : List (List Int)) (B : Option Addr) (m d : Nat) (s : List (List Int)) (T : Nat) (w : World) (hz : ZArg 1048576 w A n f B m s) (hp : PMap f s) (hT : First f s n T) :
    Calls Try.prog 90 #[.agg #[.slice A n c, .slice B m d]] w fun e w' => ∃ g k zs, e = .returned (.slice (some ⟨g, 0, none⟩) k k) ∧ Below w.heap.size w w' ∧ w.heap.size ≤ g ∧ OwnB 2 w' g zs ∧ ((T < n * n * n ∧ zs = lst3 (trip n T) ∧ k = 3) ∨ (T = n * n * n ∧ zs = [] ∧ k = 0)) := by
  have hnb := hz.sz.nb
  have HZ := hide hz
  have HP := hide hp
  have HT := hide hT
  have HFL := hide hz.sz.fl
  have h12 := hz.small hp
  obtain rfl := hz.same hp
  have HB0 := hide ((Below.refl _ w).alloc (Nat.le_refl _) (Obj.cells #[Value.slice A m c, Value.slice B m d] 29))
  have HK0 := hide (Blk.new w 29 [.slice A m c, .slice B m d])
  clear hp hz hT
  go_enter Try.func90, Try.ntmps90
  go_wp2_with fail
  go_loopw [4] (fun i wr => ∃ x : Nat, x ≤ m ∧ i = .int .i64 x ∧ Below w.heap.size w wr ∧ Blk wr w.heap.size 29 [.slice A m c, .slice B m d] ∧ ∀ i, i < x * m * m → Eq3 f s m i) (fun i _ => m - (intOf i).toNat)
  case atStart => exact ⟨0, Nat.zero_le _, rfl, HB0.out, HK0.out, fun i hi => absurd hi (by omega)⟩
  case round =>
    obtain ⟨x, hx, rfl, hbe, hkk, hall⟩ := hrel
    have HB := hide hbe
    have HK := hide hkk
    have HALL := hide hall
    clear hbe hkk hall
    have k0 := HK.out.cell 0 _ rfl
    have k1 := HK.out.cell 1 _ rfl
    by_cases hlt : x < m
    · have hxz : (x : Int) < m := by omega
      go_wp2_with fail
      clear k0 k1
      obtain ⟨wo, rfl⟩ : ∃ wo : World, wo = wr := ⟨_, rfl⟩
      go_loopw [5] (fun i wi => ∃ y : Nat, y ≤ m ∧ i = .int .i64 y ∧ Below w.heap.size w wi ∧ Blk wi w.heap.size 29 [.slice A m c, .slice B m d] ∧ ∀ i, i < (x * m + y) * m → Eq3 f s m i) (fun i _ => m - (intOf i).toNat)
      case atStart => exact ⟨0, Nat.zero_le _, rfl, HB.out, HK.out, HALL.out⟩
      case round =>
        obtain ⟨y, hy, rfl, hbi, hki, halli⟩ := hrel
        have HBI := hide hbi
        have HKI := hide hki
        have HALLI := hide halli
        clear hbi hki halli
        by_cases hlty : y < m
        · have hyz : (y : Int) < m := by omega
          go_wp2_with fail
          obtain ⟨wo2, rfl⟩ : ∃ wo : World, wo = wr := ⟨_, rfl⟩
          go_loopw [6] (fun i wi => ∃ z : Nat, z ≤ m ∧ i = .int .i64 z ∧ Below w.heap.size w wi ∧ Blk wi w.heap.size 29 [.slice A m c, .slice B m d] ∧ ∀ i, i < (x * m + y) * m + z → Eq3 f s m i) (fun i _ => m - (intOf i).toNat)
          case atStart => exact ⟨0, Nat.zero_le _, rfl, HBI.out, HKI.out, HALLI.out⟩
          case round =>
            obtain ⟨z, hzn, rfl, hbj, hkj, hallj⟩ := hrel
            have HBJ := hide hbj
            have HKJ := hide hkj
            have HALLJ := hide hallj
            clear hbj hkj hallj
            by_cases hltz : z < m
            · have hzz : (z : Int) < m := by omega
              go_wp2_with fail
              refine wp_gen fun W0 hW0 => ?_
              obtain ⟨Lb, hLb⟩ : ∃ Lb, wr.heap.size = Lb := ⟨_, rfl⟩
              have HBc : Hid (Below w.heap.size w W0) := hide (by rw [hW0]; exact HBJ.out.alloc HBJ.out.size _)
              have HKc : Hid (Blk W0 w.heap.size 29 [.slice A m c, .slice B m d]) := hide (by rw [hW0]; exact HKJ.out.alloc _)
              have HLc : Hid (Blk W0 Lb 2 [.int .i64 x, .int .i64 y, .int .i64 z]) := hide (by rw [hW0, ← hLb]; exact Blk.new _ _ _)
              have hlo : w.heap.size ≤ Lb := by rw [← hLb]; exact HBJ.out.size
              rw [hLb]
              clear hW0 hLb
              have I0 : Hid (In3 m (x, y, z)) := hide ⟨hlt, hlty, hltz⟩
              obtain ⟨⟨x1, y1, z1⟩, hE1⟩ : ∃ t, doAt f s 0 (x, y, z) = t := ⟨_, rfl⟩
              have E1 := hide hE1
              have I1 : Hid (In3 m (x1, y1, z1)) := hide (by rw [← hE1]; exact I0.out.do HP.out HFL.out 0)
              clear hE1
              obtain ⟨⟨x2, y2, z2⟩, hE2⟩ : ∃ t, doAt f s 1 (x1, y1, z1) = t := ⟨_, rfl⟩
              have E2 := hide hE2
              have I2 : Hid (In3 m (x2, y2, z2)) := hide (by rw [← hE2]; exact I1.out.do HP.out HFL.out 1)
              clear hE2
              obtain ⟨⟨x3, y3, z3⟩, hE3⟩ : ∃ t, doAt f s 0 (x2, y2, z2) = t := ⟨_, rfl⟩
              have E3 := hide hE3
              clear hE3
              obtain ⟨⟨s1, t1, r1⟩, hF1⟩ : ∃ t, doAt f s 1 (x, y, z) = t := ⟨_, rfl⟩
              have F1 := hide hF1
              have J1 : Hid (In3 m (s1, t1, r1)) := hide (by rw [← hF1]; exact I0.out.do HP.out HFL.out 1)
              clear hF1
              obtain ⟨⟨s2, t2, r2⟩, hF2⟩ : ∃ t, doAt f s 0 (s1, t1, r1) = t := ⟨_, rfl⟩
              have F2 := hide hF2
              have J2 : Hid (In3 m (s2, t2, r2)) := hide (by rw [← hF2]; exact J1.out.do HP.out HFL.out 0)
              clear hF2
              obtain ⟨⟨s3, t3, r3⟩, hF3⟩ : ∃ t, doAt f s 1 (s2, t2, r2) = t := ⟨_, rfl⟩
              have F3 := hide hF3
              clear hF3
              have hlef : lef f s (x, y, z) = (x3, y3, z3) := by unfold lef; rw [E1.out, E2.out, E3.out]
              have hrig : rig f s (x, y, z) = (s3, t3, r3) := by unfold rig; rw [F1.out, F2.out, F3.out]
              have htr : trip m ((x * m + y) * m + z) = (x, y, z) := trip_of hlty hltz
              have heq : Eq3 f s m ((x * m + y) * m + z) ↔ (x3, y3, z3) = (s3, t3, r3) := by unfold Eq3; rw [htr, hlef, hrig]
              have hklt : (x * m + y) * m + z < m * m * m := trip_lt hlt hlty hltz
              have HEQ := hide heq
              have HTR := hide htr
              have HKL := hide hklt
              clear hlef hrig htr heq hklt
              by_cases hcs : (x3, y3, z3) = (s3, t3, r3)
              · have HGOOD := hide (HEQ.out.2 hcs)
                have HCS := hide hcs
                clear hcs
                have tok0 : True := trivial
                have tok1 : True := trivial
                have tok2 : True := trivial
                have tok3 : True := trivial
                have tok4 : True := trivial
                have k0 := HKc.out.cell 0 _ rfl
                have k1 := HKc.out.cell 1 _ rfl
                go_region_held3 (fun w' => w'.cell? ⟨w.heap.size, 0, none⟩ = some (.slice A m c) ∧ w'.cell? ⟨w.heap.size, 1, none⟩ = some (.slice B m d)) (first | exact ⟨k0, k1⟩ | go_keep) (first | (go_at_call 106; have _t := tok0; clear _t tok0; go_must (refine calls_gen fun wc hwc => ?_; (first | have hbx := drew_below hwc | have hbx := eq_below hwc); replace HBc := hide (HBc.out.trans (hbx.mono HBc.out.size)); replace HKc := hide (HKc.out.later hbx); replace HLc := hide (HLc.out.later hbx); clear hwc hbx; refine (do0_any _ _ _ f _ _ _ s _ _ x y z x1 y1 z1 _ (HZ.out.later HBc.out) HP.out I0.out E1.out (L3.of_blk HLc.out)).mono ?_; rintro e wd ⟨gG1, cG1, rfl, hbd, hgG1, hlG1⟩; replace HBc := hide (HBc.out.trans (hbd.mono HBc.out.size)); replace HKc := hide (HKc.out.later hbd); replace HLc := hide (HLc.out.later hbd); clear hbd; have k0 := HKc.out.cell 0 _ rfl; have k1 := HKc.out.cell 1 _ rfl; have G1 := hide hlG1; clear hlG1 hgG1)) | (go_at_call 106; have _t := tok1; clear _t tok1; go_must (refine calls_gen fun wc hwc => ?_; (first | have hbx := drew_below hwc | have hbx := eq_below hwc); replace HBc := hide (HBc.out.trans (hbx.mono HBc.out.size)); replace HKc := hide (HKc.out.later hbx); replace HLc := hide (HLc.out.later hbx); replace G1 := hide (G1.out.later hbx); clear hwc hbx; refine (do1_any _ _ _ f _ _ _ s _ _ x1 y1 z1 x2 y2 z2 _ (HZ.out.later HBc.out) HP.out I1.out E2.out G1.out).mono ?_; rintro e wd ⟨gG2, cG2, rfl, hbd, hgG2, hlG2⟩; replace HBc := hide (HBc.out.trans (hbd.mono HBc.out.size)); replace HKc := hide (HKc.out.later hbd); replace HLc := hide (HLc.out.later hbd); replace G1 := hide (G1.out.later hbd); clear hbd; have k0 := HKc.out.cell 0 _ rfl; have k1 := HKc.out.cell 1 _ rfl; have G2 := hide hlG2; clear hlG2 hgG2)) | (go_at_call 106; have _t := tok2; clear _t tok2; go_must (refine calls_gen fun wc hwc => ?_; (first | have hbx := drew_below hwc | have hbx := eq_below hwc); replace HBc := hide (HBc.out.trans (hbx.mono HBc.out.size)); replace HKc := hide (HKc.out.later hbx); replace HLc := hide (HLc.out.later hbx); replace G1 := hide (G1.out.later hbx); replace G2 := hide (G2.out.later hbx); clear hwc hbx; refine (do0_any _ _ _ f _ _ _ s _ _ x2 y2 z2 x3 y3 z3 _ (HZ.out.later HBc.out) HP.out I2.out E3.out G2.out).mono ?_; rintro e wd ⟨gG3, cG3, rfl, hbd, hgG3, hlG3⟩; replace HBc := hide (HBc.out.trans (hbd.mono HBc.out.size)); replace HKc := hide (HKc.out.later hbd); replace HLc := hide (HLc.out.later hbd); replace G1 := hide (G1.out.later hbd); replace G2 := hide (G2.out.later hbd); clear hbd; have k0 := HKc.out.cell 0 _ rfl; have k1 := HKc.out.cell 1 _ rfl; have G3 := hide hlG3; clear hlG3 hgG3)) | (go_at_call 106; have _t := tok3; clear _t tok3; go_must (refine calls_gen fun wc hwc => ?_; (first | have hbx := drew_below hwc | have hbx := eq_below hwc); replace HBc := hide (HBc.out.trans (hbx.mono HBc.out.size)); replace HKc := hide (HKc.out.later hbx); replace HLc := hide (HLc.out.later hbx); replace G1 := hide (G1.out.later hbx); replace G2 := hide (G2.out.later hbx); replace G3 := hide (G3.out.later hbx); clear hwc hbx; refine (do1_any _ _ _ f _ _ _ s _ _ x y z s1 t1 r1 _ (HZ.out.later HBc.out) HP.out I0.out F1.out (L3.of_blk HLc.out)).mono ?_; rintro e wd ⟨gG4, cG4, rfl, hbd, hgG4, hlG4⟩; replace HBc := hide (HBc.out.trans (hbd.mono HBc.out.size)); replace HKc := hide (HKc.out.later hbd); replace HLc := hide (HLc.out.later hbd); replace G1 := hide (G1.out.later hbd); replace G2 := hide (G2.out.later hbd); replace G3 := hide (G3.out.later hbd); clear hbd; have k0 := HKc.out.cell 0 _ rfl; have k1 := HKc.out.cell 1 _ rfl; have G4 := hide hlG4; clear hlG4 hgG4)) | (go_at_call 106; have _t := tok4; clear _t tok4; go_must (refine calls_gen fun wc hwc => ?_; (first | have hbx := drew_below hwc | have hbx := eq_below hwc); replace HBc := hide (HBc.out.trans (hbx.mono HBc.out.size)); replace HKc := hide (HKc.out.later hbx); replace HLc := hide (HLc.out.later hbx); replace G1 := hide (G1.out.later hbx); replace G2 := hide (G2.out.later hbx); replace G3 := hide (G3.out.later hbx); replace G4 := hide (G4.out.later hbx); clear hwc hbx; refine (do0_any _ _ _ f _ _ _ s _ _ s1 t1 r1 s2 t2 r2 _ (HZ.out.later HBc.out) HP.out J1.out F2.out G4.out).mono ?_; rintro e wd ⟨gG5, cG5, rfl, hbd, hgG5, hlG5⟩; replace HBc := hide (HBc.out.trans (hbd.mono HBc.out.size)); replace HKc := hide (HKc.out.later hbd); replace HLc := hide (HLc.out.later hbd); replace G1 := hide (G1.out.later hbd); replace G2 := hide (G2.out.later hbd); replace G3 := hide (G3.out.later hbd); replace G4 := hide (G4.out.later hbd); clear hbd; have k0 := HKc.out.cell 0 _ rfl; have k1 := HKc.out.cell 1 _ rfl; have G5 := hide hlG5; clear hlG5 hgG5)) | (go_at_call 106; go_must (refine calls_gen fun wc hwc => ?_; (first | have hbx := drew_below hwc | have hbx := eq_below hwc); replace HBc := hide (HBc.out.trans (hbx.mono HBc.out.size)); replace HKc := hide (HKc.out.later hbx); replace HLc := hide (HLc.out.later hbx); replace G1 := hide (G1.out.later hbx); replace G2 := hide (G2.out.later hbx); replace G3 := hide (G3.out.later hbx); replace G4 := hide (G4.out.later hbx); replace G5 := hide (G5.out.later hbx); clear hwc hbx; refine (do1_any _ _ _ f _ _ _ s _ _ s2 t2 r2 s3 t3 r3 _ (HZ.out.later HBc.out) HP.out J2.out F3.out G5.out).mono ?_; rintro e wd ⟨gG6, cG6, rfl, hbd, hgG6, hlG6⟩; replace HBc := hide (HBc.out.trans (hbd.mono HBc.out.size)); replace HKc := hide (HKc.out.later hbd); replace HLc := hide (HLc.out.later hbd); replace G1 := hide (G1.out.later hbd); replace G2 := hide (G2.out.later hbd); replace G3 := hide (G3.out.later hbd); replace G4 := hide (G4.out.later hbd); replace G5 := hide (G5.out.later hbd); clear hbd; have k0 := HKc.out.cell 0 _ rfl; have k1 := HKc.out.cell 1 _ rfl; have G6 := hide hlG6; clear hlG6 hgG6)) | (go_at_call 94; go_must (refine calls_gen fun wc hwc => ?_; (first | have hbx := drew_below hwc | have hbx := eq_below hwc); replace HBc := hide (HBc.out.trans (hbx.mono HBc.out.size)); replace HKc := hide (HKc.out.later hbx); replace HLc := hide (HLc.out.later hbx); replace G3 := hide (G3.out.later hbx); replace G6 := hide (G6.out.later hbx); clear hwc hbx; refine (same_any _ _ _ _ _ _ (lst3 (x3, y3, z3)) (lst3 (s3, t3, r3)) true _ (show (lst3 (x3, y3, z3)).length = 3 from rfl) (show (lst3 (s3, t3, r3)).length = 3 from rfl) (by omega) (by omega) G3.out.rd G6.out.rd (by rw [HCS.out]; simp)).mono ?_; rintro e wd ⟨rfl, hqd⟩; have hbd := hqd.below wc.heap.size; replace HBc := hide (HBc.out.trans (hbd.mono HBc.out.size)); replace HKc := hide (HKc.out.later hbd); replace HLc := hide (HLc.out.later hbd); clear hqd hbd; have k0 := HKc.out.cell 0 _ rfl; have k1 := HKc.out.cell 1 _ rfl)))
                clear k0 k1
                go_wp2_with fail
                go_roundw
                case rel => exact ⟨z + 1, by omega, by go_num, HBc.out, HKc.out, fun i hi => by
                  by_cases e : i = (x * m + y) * m + z
                  · rw [e]; exact HGOOD.out
                  · exact HALLJ.out i (by omega)⟩
                case measure => simp [intOf]; omega
              · have hbad : ¬ Eq3 f s m ((x * m + y) * m + z) := fun h => hcs (HEQ.out.1 h)
                have HTB := hide (HT.out.bad HALLJ.out HKL.out hbad)
                have HCS := hide hcs
                clear hcs hbad
                have tok0 : True := trivial
                have tok1 : True := trivial
                have tok2 : True := trivial
                have tok3 : True := trivial
                have tok4 : True := trivial
                have k0 := HKc.out.cell 0 _ rfl
                have k1 := HKc.out.cell 1 _ rfl
                go_region_held3 (fun w' => w'.cell? ⟨w.heap.size, 0, none⟩ = some (.slice A m c) ∧ w'.cell? ⟨w.heap.size, 1, none⟩ = some (.slice B m d)) (first | exact ⟨k0, k1⟩ | go_keep) (first | (go_at_call 106; have _t := tok0; clear _t tok0; go_must (refine calls_gen fun wc hwc => ?_; (first | have hbx := drew_below hwc | have hbx := eq_below hwc); replace HBc := hide (HBc.out.trans (hbx.mono HBc.out.size)); replace HKc := hide (HKc.out.later hbx); replace HLc := hide (HLc.out.later hbx); clear hwc hbx; refine (do0_any _ _ _ f _ _ _ s _ _ x y z x1 y1 z1 _ (HZ.out.later HBc.out) HP.out I0.out E1.out (L3.of_blk HLc.out)).mono ?_; rintro e wd ⟨gG1, cG1, rfl, hbd, hgG1, hlG1⟩; replace HBc := hide (HBc.out.trans (hbd.mono HBc.out.size)); replace HKc := hide (HKc.out.later hbd); replace HLc := hide (HLc.out.later hbd); clear hbd; have k0 := HKc.out.cell 0 _ rfl; have k1 := HKc.out.cell 1 _ rfl; have G1 := hide hlG1; clear hlG1 hgG1)) | (go_at_call 106; have _t := tok1; clear _t tok1; go_must (refine calls_gen fun wc hwc => ?_; (first | have hbx := drew_below hwc | have hbx := eq_below hwc); replace HBc := hide (HBc.out.trans (hbx.mono HBc.out.size)); replace HKc := hide (HKc.out.later hbx); replace HLc := hide (HLc.out.later hbx); replace G1 := hide (G1.out.later hbx); clear hwc hbx; refine (do1_any _ _ _ f _ _ _ s _ _ x1 y1 z1 x2 y2 z2 _ (HZ.out.later HBc.out) HP.out I1.out E2.out G1.out).mono ?_; rintro e wd ⟨gG2, cG2, rfl, hbd, hgG2, hlG2⟩; replace HBc := hide (HBc.out.trans (hbd.mono HBc.out.size)); replace HKc := hide (HKc.out.later hbd); replace HLc := hide (HLc.out.later hbd); replace G1 := hide (G1.out.later hbd); clear hbd; have k0 := HKc.out.cell 0 _ rfl; have k1 := HKc.out.cell 1 _ rfl; have G2 := hide hlG2; clear hlG2 hgG2)) | (go_at_call 106; have _t := tok2; clear _t tok2; go_must (refine calls_gen fun wc hwc => ?_; (first | have hbx := drew_below hwc | have hbx := eq_below hwc); replace HBc := hide (HBc.out.trans (hbx.mono HBc.out.size)); replace HKc := hide (HKc.out.later hbx); replace HLc := hide (HLc.out.later hbx); replace G1 := hide (G1.out.later hbx); replace G2 := hide (G2.out.later hbx); clear hwc hbx; refine (do0_any _ _ _ f _ _ _ s _ _ x2 y2 z2 x3 y3 z3 _ (HZ.out.later HBc.out) HP.out I2.out E3.out G2.out).mono ?_; rintro e wd ⟨gG3, cG3, rfl, hbd, hgG3, hlG3⟩; replace HBc := hide (HBc.out.trans (hbd.mono HBc.out.size)); replace HKc := hide (HKc.out.later hbd); replace HLc := hide (HLc.out.later hbd); replace G1 := hide (G1.out.later hbd); replace G2 := hide (G2.out.later hbd); clear hbd; have k0 := HKc.out.cell 0 _ rfl; have k1 := HKc.out.cell 1 _ rfl; have G3 := hide hlG3; clear hlG3 hgG3)) | (go_at_call 106; have _t := tok3; clear _t tok3; go_must (refine calls_gen fun wc hwc => ?_; (first | have hbx := drew_below hwc | have hbx := eq_below hwc); replace HBc := hide (HBc.out.trans (hbx.mono HBc.out.size)); replace HKc := hide (HKc.out.later hbx); replace HLc := hide (HLc.out.later hbx); replace G1 := hide (G1.out.later hbx); replace G2 := hide (G2.out.later hbx); replace G3 := hide (G3.out.later hbx); clear hwc hbx; refine (do1_any _ _ _ f _ _ _ s _ _ x y z s1 t1 r1 _ (HZ.out.later HBc.out) HP.out I0.out F1.out (L3.of_blk HLc.out)).mono ?_; rintro e wd ⟨gG4, cG4, rfl, hbd, hgG4, hlG4⟩; replace HBc := hide (HBc.out.trans (hbd.mono HBc.out.size)); replace HKc := hide (HKc.out.later hbd); replace HLc := hide (HLc.out.later hbd); replace G1 := hide (G1.out.later hbd); replace G2 := hide (G2.out.later hbd); replace G3 := hide (G3.out.later hbd); clear hbd; have k0 := HKc.out.cell 0 _ rfl; have k1 := HKc.out.cell 1 _ rfl; have G4 := hide hlG4; clear hlG4 hgG4)) | (go_at_call 106; have _t := tok4; clear _t tok4; go_must (refine calls_gen fun wc hwc => ?_; (first | have hbx := drew_below hwc | have hbx := eq_below hwc); replace HBc := hide (HBc.out.trans (hbx.mono HBc.out.size)); replace HKc := hide (HKc.out.later hbx); replace HLc := hide (HLc.out.later hbx); replace G1 := hide (G1.out.later hbx); replace G2 := hide (G2.out.later hbx); replace G3 := hide (G3.out.later hbx); replace G4 := hide (G4.out.later hbx); clear hwc hbx; refine (do0_any _ _ _ f _ _ _ s _ _ s1 t1 r1 s2 t2 r2 _ (HZ.out.later HBc.out) HP.out J1.out F2.out G4.out).mono ?_; rintro e wd ⟨gG5, cG5, rfl, hbd, hgG5, hlG5⟩; replace HBc := hide (HBc.out.trans (hbd.mono HBc.out.size)); replace HKc := hide (HKc.out.later hbd); replace HLc := hide (HLc.out.later hbd); replace G1 := hide (G1.out.later hbd); replace G2 := hide (G2.out.later hbd); replace G3 := hide (G3.out.later hbd); replace G4 := hide (G4.out.later hbd); clear hbd; have k0 := HKc.out.cell 0 _ rfl; have k1 := HKc.out.cell 1 _ rfl; have G5 := hide hlG5; clear hlG5 hgG5)) | (go_at_call 106; go_must (refine calls_gen fun wc hwc => ?_; (first | have hbx := drew_below hwc | have hbx := eq_below hwc); replace HBc := hide (HBc.out.trans (hbx.mono HBc.out.size)); replace HKc := hide (HKc.out.later hbx); replace HLc := hide (HLc.out.later hbx); replace G1 := hide (G1.out.later hbx); replace G2 := hide (G2.out.later hbx); replace G3 := hide (G3.out.later hbx); replace G4 := hide (G4.out.later hbx); replace G5 := hide (G5.out.later hbx); clear hwc hbx; refine (do1_any _ _ _ f _ _ _ s _ _ s2 t2 r2 s3 t3 r3 _ (HZ.out.later HBc.out) HP.out J2.out F3.out G5.out).mono ?_; rintro e wd ⟨gG6, cG6, rfl, hbd, hgG6, hlG6⟩; replace HBc := hide (HBc.out.trans (hbd.mono HBc.out.size)); replace HKc := hide (HKc.out.later hbd); replace HLc := hide (HLc.out.later hbd); replace G1 := hide (G1.out.later hbd); replace G2 := hide (G2.out.later hbd); replace G3 := hide (G3.out.later hbd); replace G4 := hide (G4.out.later hbd); replace G5 := hide (G5.out.later hbd); clear hbd; have k0 := HKc.out.cell 0 _ rfl; have k1 := HKc.out.cell 1 _ rfl; have G6 := hide hlG6; clear hlG6 hgG6)) | (go_at_call 94; go_must (refine calls_gen fun wc hwc => ?_; (first | have hbx := drew_below hwc | have hbx := eq_below hwc); replace HBc := hide (HBc.out.trans (hbx.mono HBc.out.size)); replace HKc := hide (HKc.out.later hbx); replace HLc := hide (HLc.out.later hbx); replace G3 := hide (G3.out.later hbx); replace G6 := hide (G6.out.later hbx); clear hwc hbx; refine (same_any _ _ _ _ _ _ (lst3 (x3, y3, z3)) (lst3 (s3, t3, r3)) false _ (show (lst3 (x3, y3, z3)).length = 3 from rfl) (show (lst3 (s3, t3, r3)).length = 3 from rfl) (by omega) (by omega) G3.out.rd G6.out.rd (by constructor <;> intro h; cases h; exact absurd h (fun h => HCS.out (lst3_inj h)))).mono ?_; rintro e wd ⟨rfl, hqd⟩; have hbd := hqd.below wc.heap.size; replace HBc := hide (HBc.out.trans (hbd.mono HBc.out.size)); replace HKc := hide (HKc.out.later hbd); replace HLc := hide (HLc.out.later hbd); clear hqd hbd; have k0 := HKc.out.cell 0 _ rfl; have k1 := HKc.out.cell 1 _ rfl)))
                clear k0 k1
                go_wp2_with fail
                go_ret
                exact ⟨Lb, 3, lst3 (x, y, z), rfl, HBc.out, hlo, ⟨_, HLc.out, fun i hi => by
                  simp [lst3] at hi
                  rcases i with _ | _ | _ | i
                  · rfl
                  · rfl
                  · rfl
                  · omega⟩, .inl ⟨by rw [HTB.out]; exact HKL.out, by rw [HTB.out, HTR.out], rfl⟩⟩
            · have hzn' : z = m := by omega
              subst hzn'
              go_wp2_with fail
              go_roundw
              case rel => exact ⟨y + 1, by omega, by go_num, HBJ.out, HKJ.out, fun i hi => HALLJ.out i (by rw [← Nat.add_assoc, Nat.add_mul _ 1, Nat.one_mul] at hi; exact hi)⟩
              case measure => simp [intOf]; omega
        · have hyn' : y = m := by omega
          subst hyn'
          go_wp2_with fail
          go_roundw
          case rel => exact ⟨x + 1, by omega, by go_num, HBI.out, HKI.out, fun i hi => HALLI.out i (by rw [Nat.add_mul x 1, Nat.one_mul] at hi; exact hi)⟩
          case measure => simp [intOf]; omega
    · have hxn : x = m := by omega
      subst hxn
      clear k0 k1
      go_wp2_with fail
      refine bp_gen fun wf hwf => ?_
      have HBF : Below w.heap.size w wf := by rw [hwf]; exact HB.out.alloc HB.out.size _
      have HOF : OwnB 2 wf wr.heap.size [] := by rw [hwf]; exact ⟨_, heap_alloc_new _ _, fun i hi => absurd hi (Nat.not_lt_zero _)⟩
      have hlo : w.heap.size ≤ wr.heap.size := HB.out.size
      clear hwf
      go_ret
      exact ⟨wr.heap.size, 0, _, rfl, HBF, hlo, HOF, .inr ⟨HT.out.all HALL.out, rfl, rfl⟩⟩
end Go.Proofs.Ytiaebilcgmahlaa
namespace Go.Proofs.Ytiaebilcgmahlaa
open Go Go.RowKit
/-- Element number a of a set. -/
def mel (S a : Nat) : Nat := (mems 12 S).getD a 0
theorem mel_in {S a : Nat} (h : a < (mems 12 S).length) : inb S (mel S a) := by
  have : mel S a ∈ mems 12 S := by
    unfold mel
    rw [List.getD_eq_getElem?_getD, List.getElem?_eq_getElem h]
    exact List.getElem_mem h
  exact ((mems_mem _ _ _).1 this).2
theorem mel_of {S x : Nat} (hS : S < 4096) (h : inb S x) : ∃ a, a < (mems 12 S).length ∧ mel S a = x := by
  have hm : x ∈ mems 12 S := (mems_mem _ _ _).2 ⟨inb_lt (k := 12) (by simpa using hS) h, h⟩
  obtain ⟨a, ha, e⟩ := List.getElem_of_mem hm
  exact ⟨a, ha, by unfold mel; rw [List.getD_eq_getElem?_getD, List.getElem?_eq_getElem ha]; exact e⟩
theorem mel_getD {S a : Nat} (h : a < (mems 12 S).length) : (memL 12 S).getD a 0 = (mel S a : Int) := memL_getD _ _ _ h
/-- The set behind the pairs before (i, j). -/
def GrQ (f : List (List Int)) (S i j V : Nat) : Prop := ∀ t, inb V t ↔ inb S t ∨ ∃ a b, (a < i ∨ (a = i ∧ b < j)) ∧ a < (mems 12 S).length ∧ b < (mems 12 S).length ∧ ap f (mel S a) (mel S b) = t
theorem GrQ.start (f : List (List Int)) (S : Nat) : GrQ f S 0 0 S := fun t => ⟨.inl, fun h => by
  rcases h with h | ⟨a, b, h, _⟩
  · exact h
  · omega⟩
theorem GrQ.step {f : List (List Int)} {S i j V v : Nat} (h : GrQ f S i j V) (hi : i < (mems 12 S).length) (hj : j < (mems 12 S).length) (hv : ap f (mel S i) (mel S j) = v) : GrQ f S i (j + 1) (V ||| 2 ^ v) := by
  intro t
  rw [inb_or, h t]
  constructor
  · rintro ((h1 | ⟨a, b, h1, h2, h3, h4⟩) | rfl)
    · exact .inl h1
    · exact .inr ⟨a, b, by omega, h2, h3, h4⟩
    · exact .inr ⟨i, j, by omega, hi, hj, hv⟩
  · rintro (h1 | ⟨a, b, h1, h2, h3, h4⟩)
    · exact .inl (.inl h1)
    · by_cases e : a = i ∧ b = j
      · obtain ⟨rfl, rfl⟩ := e
        exact .inr (h4.symm.trans hv)
      · exact .inl (.inr ⟨a, b, by omega, h2, h3, h4⟩)
theorem GrQ.next {f : List (List Int)} {S i V : Nat} (h : GrQ f S i (mems 12 S).length V) : GrQ f S (i + 1) 0 V := by
  intro t
  rw [h t]
  constructor
  · rintro (h1 | ⟨a, b, h1, h2, h3, h4⟩)
    · exact .inl h1
    · exact .inr ⟨a, b, by omega, h2, h3, h4⟩
  · rintro (h1 | ⟨a, b, h1, h2, h3, h4⟩)
    · exact .inl h1
    · exact .inr ⟨a, b, by omega, h2, h3, h4⟩
theorem GrQ.done {f : List (List Int)} {S V : Nat} (hS : S < 4096) (h : GrQ f S (mems 12 S).length 0 V) : GrF f S V := by
  intro t
  rw [h t]
  constructor
  · rintro (h1 | ⟨a, b, h1, h2, h3, h4⟩)
    · exact .inl h1
    · exact .inr ⟨_, _, mel_in h2, mel_in h3, h4⟩
  · rintro (h1 | ⟨x, y, hx, hy, h4⟩)
    · exact .inl h1
    · obtain ⟨a, ha, rfl⟩ := mel_of hS hx
      obtain ⟨b, hb, rfl⟩ := mel_of hS hy
      exact .inr ⟨a, b, .inl ha, ha, hb, h4⟩
/-- A subrack, as a set. -/
def SubF (f : List (List Int)) (S : Nat) : Prop := S ≠ 0 ∧ ClosedF f S
theorem pow_le (n : Nat) (h : n ≤ 12) : 2 ^ n ≤ 4096 := Nat.pow_le_pow_right (n := 2) (by decide) h
end Go.Proofs.Ytiaebilcgmahlaa
namespace Go.Proofs.Ytiaebilcgmahlaa
open Go Go.RowKit
/-- The place at which row x has z. -/
def sol (f : List (List Int)) (x z : Nat) : Nat := (ixOf (f.getD x []) (z : Int)).toNat
theorem sol_spec {f : List (List Int)} (ht : Tbl f) (hp : AllPrm f) {n x z : Nat} (hn : f.length = n) (hx : x < n) (hz : z < n) :
    sol f x z < n ∧ ixOf (f.getD x []) (z : Int) = ((sol f x z : Nat) : Int) ∧ (f.getD x []).getD (sol f x z) 0 = (z : Int) ∧ ap f x (sol f x z) = z := by
  have hl : (f.getD x []).length = n := ht.row_len hn hx
  have hpx : Prm (f.getD x []) := hp x (by omega)
  have hm : (z : Int) ∈ f.getD x [] := (prm_iff _).1 hpx |>.2.2 z (by omega) (by omega)
  have hi := List.idxOf_lt_length_iff.2 hm
  have e1 : ixOf (f.getD x []) (z : Int) = (((f.getD x []).idxOf (z : Int) : Nat) : Int) := by unfold ixOf; rw [if_pos hm]
  have e2 : sol f x z = (f.getD x []).idxOf (z : Int) := by unfold sol; rw [e1]; simp
  have e3 : (f.getD x []).getD ((f.getD x []).idxOf (z : Int)) 0 = (z : Int) := by
    generalize f.getD x [] = p at hi
    rw [List.getD_eq_getElem?_getD, List.getElem?_eq_getElem hi]
    simp
  rw [e2]
  refine ⟨by omega, e1, e3, ?_⟩
  unfold ap
  rw [e3]
  simp
theorem sol_lt {f : List (List Int)} (ht : Tbl f) (hp : AllPrm f) {n x z : Nat} (hn : f.length = n) (hx : x < n) (hz : z < n) : sol f x z < n := (sol_spec ht hp hn hx hz).1
theorem sol_ix {f : List (List Int)} (ht : Tbl f) (hp : AllPrm f) {n x z : Nat} (hn : f.length = n) (hx : x < n) (hz : z < n) : ixOf (f.getD x []) (z : Int) = ((sol f x z : Nat) : Int) := (sol_spec ht hp hn hx hz).2.1
theorem dual_row {f : List (List Int)} {n x : Nat} (hn : f.length = n) (hx : x < n) : (dualL f).getD x [] = backTo (f.getD x []) n := by
  unfold dualL
  rw [rowsL_at f _ x (by omega), hn]
theorem sol_dual {f : List (List Int)} (ht : Tbl f) (hp : AllPrm f) {n x z : Nat} (hn : f.length = n) (hx : x < n) (hz : z < n) : ((dualL f).getD x []).getD z 0 = ((sol f x z : Nat) : Int) := by
  have hl : (f.getD x []).length = n := ht.row_len hn hx
  have hpx : Prm (f.getD x []) := hp x (by omega)
  obtain ⟨h1, _, h3, _⟩ := sol_spec ht hp hn hx hz
  have h := backTo_hit hpx n (by omega) (sol f x z) h1
  rw [h3] at h
  rw [dual_row hn hx]
  simpa using h
theorem dualL_len (f : List (List Int)) : (dualL f).length = f.length := by unfold dualL; rw [rowsL_length]
theorem dual_len {f : List (List Int)} (ht : Tbl f) {n x : Nat} (hn : f.length = n) (hx : x < n) : ((dualL f).getD x []).length = n := by rw [dual_row hn hx, backTo_length]; exact ht.row_len hn hx
theorem dual_tbl {f : List (List Int)} (ht : Tbl f) (hp : AllPrm f) : Tbl (dualL f) := by
  refine ⟨by rw [dualL_len]; exact ht.1, by rw [dualL_len]; exact ht.2.1, ?_⟩
  intro i hi
  rw [dualL_len] at hi
  refine ⟨by rw [dual_len ht rfl hi, dualL_len], fun j hj => ?_⟩
  rw [dualL_len] at hj
  have h := sol_lt ht hp rfl hi hj
  rw [sol_dual ht hp rfl hi hj, dualL_len]
  omega
theorem sol_ap {f : List (List Int)} (ht : Tbl f) (hp : AllPrm f) {n x z : Nat} (hn : f.length = n) (hx : x < n) (hz : z < n) : ap (dualL f) x z = sol f x z := by
  have h := sol_dual ht hp hn hx hz
  unfold ap
  rw [h]
  simp
def DsRes (f : List (List Int)) (x z v code : Int) : Prop :=
  (Cyc f ∧ (0 ≤ x ∧ x < (f.length : Int)) ∧ (0 ≤ z ∧ z < (f.length : Int)) ∧ v = ((sol f x.toNat z.toNat : Nat) : Int) ∧ code = 0) ∨ (Cyc f ∧ ¬ ((0 ≤ x ∧ x < (f.length : Int)) ∧ (0 ≤ z ∧ z < (f.length : Int))) ∧ v = 0 ∧ code = 2) ∨ (¬ Cyc f ∧ v = 0 ∧ code = 1)
theorem DsRes.ex (f : List (List Int)) (x z : Int) : ∃ v code, DsRes f x z v code := by
  by_cases h : Cyc f
  · by_cases h2 : (0 ≤ x ∧ x < (f.length : Int)) ∧ (0 ≤ z ∧ z < (f.length : Int))
    · exact ⟨_, _, .inl ⟨h, h2.1, h2.2, rfl, rfl⟩⟩
    · exact ⟨_, _, .inr (.inl ⟨h, h2, rfl, rfl⟩)⟩
  · exact ⟨_, _, .inr (.inr ⟨h, rfl, rfl⟩)⟩
end Go.Proofs.Ytiaebilcgmahlaa
namespace Go.Proofs.Ytiaebilcgmahlaa
open Go Go.RowKit
open Classical
set_option maxHeartbeats 4000000
theorem Qs.start {ts t : TypeId} {B : Nat} {w : World} {A : Option Addr} {c : Nat} {r : List Int} (hA : Obj1 t B w.heap.size w A r) (hB : B ≤ w.heap.size) :
    Qs ts t B ((w.alloc (.cells #[.slice A r.length c] ts)).alloc (.cells #[.slice A r.length c] ts)) (.slice (some ⟨w.heap.size, 0, none⟩) 1 1) (.slice (some ⟨w.heap.size + 1, 0, none⟩) 1 1) [r] [r] [.slice A r.length c] [.slice A r.length c] := by
  have h1 : Below w.heap.size w (w.alloc (.cells #[.slice A r.length c] ts)) := (Below.refl _ _).alloc (Nat.le_refl _) _
  have h2 : Below (w.alloc (.cells #[.slice A r.length c] ts)).heap.size (w.alloc (.cells #[.slice A r.length c] ts)) ((w.alloc (.cells #[.slice A r.length c] ts)).alloc (.cells #[.slice A r.length c] ts)) := (Below.refl _ _).alloc (Nat.le_refl _) _
  refine ⟨(LstV.single hA hB).later h2, ⟨rfl, .inr ⟨w.heap.size + 1, 1, #[.slice A r.length c], rfl, by omega, ?_, Nat.le_refl _, by unfold maxLen; omega, by simp, by simp⟩⟩, ⟨rfl, fun i hi => ?_⟩, fun g hg e => ?_⟩
  · have h := heap_alloc_new (w.alloc (.cells #[.slice A r.length c] ts)) (.cells #[.slice A r.length c] ts)
    simpa using h
  · simp at hi
    subst hi
    exact ⟨A, c, rfl, ((hA.later h1).later h2).mono (Nat.le_refl _) (by simp; omega)⟩
  · simp [Value.ownBlock] at hg e
    omega
theorem addr_add (g o j : Nat) : (⟨g, o, none⟩ : Addr).add j = ⟨g, o + j, none⟩ := by simp [Addr.add]
theorem own_low {ts : TypeId} {B B' n : Nat} {w : World} {v : Value} {xs : List Value} (h : w.ownsRow B ts 1 v n xs) (hB : B' ≤ B) : w.ownsRow B' ts 1 v n xs := by
  refine ⟨h.1, ?_⟩
  rcases h.2 with h3 | ⟨g, cap, cur, hv, hg, rest⟩
  · exact .inl h3
  · exact .inr ⟨g, cap, cur, hv, Nat.le_trans hB hg, rest⟩
theorem own_look {ts : TypeId} {B n : Nat} {w : World} {v : Value} {xs : List Value} (h : w.ownsRow B ts 1 v n xs) (h0 : 0 < n) : ∃ g c, v = .slice (some ⟨g, 0, none⟩) n c ∧ g < w.heap.size ∧ ∀ i u, xs[i]? = some u → w.cell? ⟨g, i, none⟩ = some u := by
  rcases h.2 with ⟨_, h2⟩ | ⟨g, cap, cur, hv, hg, hh, h1, h2, h3, h4⟩
  · omega
  · refine ⟨g, cap, hv, (Array.getElem?_eq_some_iff.1 hh).1, fun i u hu => ?_⟩
    rw [cell_of_row w g i cur ts (0, 0) hh]
    rw [← h4, List.getElem?_take] at hu
    by_cases e : i < n * 1
    · rw [if_pos e] at hu; simpa using hu
    · rw [if_neg e] at hu; cases hu
theorem own_self {ts : TypeId} {B n : Nat} {w : World} {v : Value} {xs : List Value} (h : w.ownsRow B ts 1 v n xs) : w.ownsRow B ts 1 v xs.length xs := by
  have e : xs.length = n := by have := h.1; omega
  rw [e]; exact h
theorem RowsV.one {t : TypeId} {B : Nat} {w : World} {rows : List (List Int)} {vals : List Value} (h : RowsV t B w rows vals) : ∀ u ∈ vals, u.oneCell' = true := by
  intro u hu
  obtain ⟨i, hi, e⟩ := List.getElem_of_mem hu
  obtain ⟨A, c, h1, _⟩ := h.2 i (by rw [← h.1]; exact hi)
  rw [List.getElem?_eq_getElem hi, e] at h1
  injection h1 with h1
  rw [h1]; rfl
/-- How the search stands, or that it has found too many. -/
def Wlk (n : Nat) (gs : List (List Int)) (M : Nat) (q : List (List Int)) (j k : Nat) : Prop := Srch n gs q j k ∨ (M < q.length ∧ q.Nodup ∧ ∀ y, y ∈ q → Gen n gs y)
theorem Wlk.nd {n M j k : Nat} {gs q : List (List Int)} (h : Wlk n gs M q j k) : q.Nodup := by
  rcases h with h | h
  · exact h.nd
  · exact h.2.1
theorem Wlk.gen {n M j k : Nat} {gs q : List (List Int)} (h : Wlk n gs M q j k) : ∀ y, y ∈ q → Gen n gs y := by
  rcases h with h | h
  · exact h.gen
  · exact h.2.2
theorem Wlk.srch {n M j k : Nat} {gs q : List (List Int)} (h : Wlk n gs M q j k) (hM : q.length ≤ M) : Srch n gs q j k := by
  rcases h with h | h
  · exact h
  · have := h.1; omega
theorem Wlk.over {n M j k : Nat} {gs q : List (List Int)} (h : Wlk n gs M q j k) (hM : M < q.length) (j' k' : Nat) : Wlk n gs M q j' k' := .inr ⟨hM, h.nd, h.gen⟩
theorem Wlk.many {n M j k : Nat} {gs q : List (List Int)} (h : Wlk n gs M q j k) (hM : M < q.length) : ¬ AtMost n gs M := by
  rintro ⟨L, hL, hl⟩
  have := nodup_sub h.nd (fun a ha => (hL.2 a).2 (h.gen a ha))
  omega
end Go.Proofs.Ytiaebilcgmahlaa
namespace Go.Proofs.Ytiaebilcgmahlaa
open Go Go.RowKit
set_option maxHeartbeats 1000000
theorem isI_any (A : Option Addr) (n c : Nat) (f : List (List Int)) (B : Option Addr) (m d : Nat) (s : List (List Int)) (r : Bool) (w : World) (hz : ZArg 1048576 w A n f B m s) (hr : IsRes f s r) :
    Calls Try.prog 56 #[.agg #[.slice A n c, .slice B m d]] w fun e w' => e = .returned (.bool r) ∧ Below w.heap.size w w' := by
  have HZ := hide hz
  have HB0 := hide ((Below.refl _ w).alloc (Nat.le_refl _) (Obj.cells #[Value.slice A n c, Value.slice B m d] 29))
  have HK0 := hide (Blk.new w 29 [.slice A n c, .slice B m d])
  have hcs := hr.cases hz.sz.fl
  clear hr hz
  rcases hcs with ⟨hp, rfl⟩ | ⟨hp, T, hT, hq⟩
  · have HP := hide hp
    clear hp
    go_enter Try.func56, Try.ntmps56
    go_wp2_with fail
    refine (mapI_any _ _ _ f _ _ _ s false _ (HZ.out.later HB0.out) (by simp [HP.out])).mono ?_
    rintro e w1 ⟨rfl, hb1⟩
    have HB1 := hide (HB0.out.trans (hb1.mono HB0.out.size))
    have HK1 := hide (HK0.out.later hb1)
    have k0 := HK1.out.cell 0 _ rfl
    have k1 := HK1.out.cell 1 _ rfl
    clear hb1
    go_wp2_with fail
    go_ret
    exact ⟨rfl, HB1.out⟩
  · have HP := hide hp
    have HT := hide hT
    clear hp hT
    have hq2 : (T < n * n * n ∧ r = false) ∨ (T = n * n * n ∧ (Hid (∃ a b, FstCol f s n a b) ∧ r = false ∨ Hid (NoCol f s n) ∧ r = true)) := by
      rcases hq with ⟨h1, ⟨_, h⟩ | ⟨_, h⟩⟩ | ⟨h1, ⟨h2, h⟩ | ⟨h2, h⟩⟩
      · exact .inl ⟨h1, h⟩
      · exact .inl ⟨h1, h⟩
      · exact .inr ⟨h1, .inl ⟨hide h2, h⟩⟩
      · exact .inr ⟨h1, .inr ⟨hide h2, h⟩⟩
    clear hq
    rcases hq2 with ⟨hlt, rfl⟩ | ⟨hte, ⟨HC, rfl⟩ | ⟨HC, rfl⟩⟩
    · go_enter Try.func56, Try.ntmps56
      go_wp2_with fail
      refine (mapI_any _ _ _ f _ _ _ s true _ (HZ.out.later HB0.out) (by simp [HP.out])).mono ?_
      rintro e w1 ⟨rfl, hb1⟩
      have HB1 := hide (HB0.out.trans (hb1.mono HB0.out.size))
      have HK1 := hide (HK0.out.later hb1)
      have k0 := HK1.out.cell 0 _ rfl
      have k1 := HK1.out.cell 1 _ rfl
      clear hb1
      go_wp2_with fail
      refine (fault_any _ _ _ f _ _ _ s T _ (HZ.out.later HB1.out) HP.out HT.out).mono ?_
      rintro e w2 ⟨t, ok, rfl, hb2, hres⟩
      have HB2 := hide (HB1.out.trans (hb2.mono HB1.out.size))
      have HK2 := hide (HK1.out.later hb2)
      have hok : ok = true := by rcases hres with ⟨h1, h2, _⟩ | ⟨h1, h2⟩ <;> first | exact h1 | omega
      subst hok
      clear hb2 hres k0 k1
      unfold tv
      obtain ⟨x, y, z⟩ := t
      have k0 := fun o => (HK2.out.alloc o).cell 0 _ rfl
      have k1 := fun o => (HK2.out.alloc o).cell 1 _ rfl
      go_wp2_with fail
      clear k0 k1
      refine bp_gen fun wf hwf => ?_
      have HBF : Below w.heap.size w wf := by rw [hwf]; exact HB2.out.alloc HB2.out.size _
      clear hwf
      go_ret
      exact ⟨rfl, HBF⟩
    · go_enter Try.func56, Try.ntmps56
      go_wp2_with fail
      refine (mapI_any _ _ _ f _ _ _ s true _ (HZ.out.later HB0.out) (by simp [HP.out])).mono ?_
      rintro e w1 ⟨rfl, hb1⟩
      have HB1 := hide (HB0.out.trans (hb1.mono HB0.out.size))
      have HK1 := hide (HK0.out.later hb1)
      have k0 := HK1.out.cell 0 _ rfl
      have k1 := HK1.out.cell 1 _ rfl
      clear hb1
      go_wp2_with fail
      refine (fault_any _ _ _ f _ _ _ s T _ (HZ.out.later HB1.out) HP.out HT.out).mono ?_
      rintro e w2 ⟨t, ok, rfl, hb2, hres⟩
      have HB2 := hide (HB1.out.trans (hb2.mono HB1.out.size))
      have HK2 := hide (HK1.out.later hb2)
      have hok : ok = false := by rcases hres with ⟨h1, h2, _⟩ | ⟨h1, h2⟩ <;> first | exact h1 | omega
      subst hok
      clear hb2 hres k0 k1
      unfold tv
      obtain ⟨x, y, z⟩ := t
      have k0 := fun o => (HK2.out.alloc o).cell 0 _ rfl
      have k1 := fun o => (HK2.out.alloc o).cell 1 _ rfl
      go_wp2_with fail
      clear k0 k1
      refine calls_gen fun w4 hw4 => ?_
      replace HB2 : Hid (Below w.heap.size w w4) := hide (by rw [hw4]; exact HB2.out.alloc HB2.out.size _)
      clear hw4 HK2
      refine (coll_any _ _ _ f _ _ _ s _ (HZ.out.later HB2.out) HP.out).mono ?_
      rintro e w3 ⟨hb3, hres⟩
      have HB3 := hide (HB2.out.trans (hb3.mono HB2.out.size))
      clear hb3
      obtain ⟨a, b, hf⟩ := HC.out
      rcases hres with ⟨hno, _⟩ | ⟨a', b', _, rfl⟩
      · exact absurd hno hf.not
      · go_wp2_with fail
        refine bp_gen fun wf hwf => ?_
        have HBF : Below w.heap.size w wf := by rw [hwf]; exact (HB3.out.alloc HB3.out.size _).alloc (by have := HB3.out.size; simp; omega) _
        clear hwf
        go_ret
        exact ⟨rfl, HBF⟩
    · go_enter Try.func56, Try.ntmps56
      go_wp2_with fail
      refine (mapI_any _ _ _ f _ _ _ s true _ (HZ.out.later HB0.out) (by simp [HP.out])).mono ?_
      rintro e w1 ⟨rfl, hb1⟩
      have HB1 := hide (HB0.out.trans (hb1.mono HB0.out.size))
      have HK1 := hide (HK0.out.later hb1)
      have k0 := HK1.out.cell 0 _ rfl
      have k1 := HK1.out.cell 1 _ rfl
      clear hb1
      go_wp2_with fail
      refine (fault_any _ _ _ f _ _ _ s T _ (HZ.out.later HB1.out) HP.out HT.out).mono ?_
      rintro e w2 ⟨t, ok, rfl, hb2, hres⟩
      have HB2 := hide (HB1.out.trans (hb2.mono HB1.out.size))
      have HK2 := hide (HK1.out.later hb2)
      have hok : ok = false := by rcases hres with ⟨h1, h2, _⟩ | ⟨h1, h2⟩ <;> first | exact h1 | omega
      subst hok
      clear hb2 hres k0 k1
      unfold tv
      obtain ⟨x, y, z⟩ := t
      have k0 := fun o => (HK2.out.alloc o).cell 0 _ rfl
      have k1 := fun o => (HK2.out.alloc o).cell 1 _ rfl
      go_wp2_with fail
      clear k0 k1
      refine calls_gen fun w4 hw4 => ?_
      replace HB2 : Hid (Below w.heap.size w w4) := hide (by rw [hw4]; exact HB2.out.alloc HB2.out.size _)
      clear hw4 HK2
      refine (coll_any _ _ _ f _ _ _ s _ (HZ.out.later HB2.out) HP.out).mono ?_
      rintro e w3 ⟨hb3, hres⟩
      have HB3 := hide (HB2.out.trans (hb3.mono HB2.out.size))
      clear hb3
      rcases hres with ⟨_, rfl⟩ | ⟨a', b', hf2, _⟩
      · go_wp2_with fail
        refine bp_gen fun wf hwf => ?_
        have HBF : Below w.heap.size w wf := by rw [hwf]; exact (HB3.out.alloc HB3.out.size _).alloc (by have := HB3.out.size; simp; omega) _
        clear hwf
        go_ret
        exact ⟨rfl, HBF⟩
      · exact absurd HC.out hf2.not
end Go.Proofs.Ytiaebilcgmahlaa
namespace Go.Proofs.Ytiaebilcgmahlaa
open Go Go.RowKit
set_option maxHeartbeats 1000000
theorem isS_any (A : Option Addr) (n c : Nat) (f : List (List Int)) (B : Option Addr) (m d : Nat) (s : List (List Int)) (r : Bool) (w : World) (hz : ZArg 1048576 w A n f B m s) (hr : IsRes f s r) :
    Calls Try.prog 51 #[.agg #[.slice A n c, .slice B m d]] w fun e w' => e = .returned (.bool r) ∧ Below w.heap.size w w' := by
  have HZ := hide hz
  have HB0 := hide ((Below.refl _ w).alloc (Nat.le_refl _) (Obj.cells #[Value.slice A n c, Value.slice B m d] 29))
  have HK0 := hide (Blk.new w 29 [.slice A n c, .slice B m d])
  have hcs := hr.cases hz.sz.fl
  clear hr hz
  rcases hcs with ⟨hp, rfl⟩ | ⟨hp, T, hT, hq⟩
  · have HP := hide hp
    clear hp
    go_enter Try.func51, Try.ntmps51
    go_wp2_with fail
    refine (mapS_any _ _ _ f _ _ _ s false _ (HZ.out.later HB0.out) (by simp [HP.out])).mono ?_
    rintro e w1 ⟨rfl, hb1⟩
    have HB1 := hide (HB0.out.trans (hb1.mono HB0.out.size))
    have HK1 := hide (HK0.out.later hb1)
    have k0 := HK1.out.cell 0 _ rfl
    have k1 := HK1.out.cell 1 _ rfl
    clear hb1
    go_wp2_with fail
    go_ret
    exact ⟨rfl, HB1.out⟩
  · have HP := hide hp
    have HT := hide hT
    clear hp hT
    have hq2 : (Hid (∃ a b, FstCol f s n a b) ∧ r = false) ∨ (Hid (NoCol f s n) ∧ ((T < n * n * n ∧ r = false) ∨ (T = n * n * n ∧ r = true))) := by
      rcases hq with ⟨h1, ⟨h2, h⟩ | ⟨h2, h⟩⟩ | ⟨h1, ⟨h2, h⟩ | ⟨h2, h⟩⟩
      · exact .inr ⟨hide h2, .inl ⟨h1, h⟩⟩
      · exact .inl ⟨hide h2, h⟩
      · exact .inl ⟨hide h2, h⟩
      · exact .inr ⟨hide h2, .inr ⟨h1, h⟩⟩
    clear hq
    rcases hq2 with ⟨HC, rfl⟩ | ⟨HC, ⟨hlt, rfl⟩ | ⟨hte, rfl⟩⟩
    · go_enter Try.func51, Try.ntmps51
      go_wp2_with fail
      refine (mapS_any _ _ _ f _ _ _ s true _ (HZ.out.later HB0.out) (by simp [HP.out])).mono ?_
      rintro e w1 ⟨rfl, hb1⟩
      have HB1 := hide (HB0.out.trans (hb1.mono HB0.out.size))
      have HK1 := hide (HK0.out.later hb1)
      have k0 := HK1.out.cell 0 _ rfl
      have k1 := HK1.out.cell 1 _ rfl
      clear hb1
      go_wp2_with fail
      refine (collS_any _ _ _ f _ _ _ s _ (HZ.out.later HB1.out) HP.out).mono ?_
      rintro e w2 ⟨g, q, ys, rfl, hb2, _, _, hres⟩
      have HB2 := hide (HB1.out.trans (hb2.mono HB1.out.size))
      have HK2 := hide (HK1.out.later hb2)
      have hq9 : q = 4 := by obtain ⟨a, b, hf⟩ := HC.out; rcases hres with ⟨hno, _⟩ | ⟨a', b', _, _, h⟩; exact absurd hno hf.not; exact h
      subst hq9
      clear hb2 hres k0 k1
      have k0 := HK2.out.cell 0 _ rfl
      have k1 := HK2.out.cell 1 _ rfl
      go_wp2_with fail
      go_ret
      exact ⟨rfl, HB2.out⟩
    · go_enter Try.func51, Try.ntmps51
      go_wp2_with fail
      refine (mapS_any _ _ _ f _ _ _ s true _ (HZ.out.later HB0.out) (by simp [HP.out])).mono ?_
      rintro e w1 ⟨rfl, hb1⟩
      have HB1 := hide (HB0.out.trans (hb1.mono HB0.out.size))
      have HK1 := hide (HK0.out.later hb1)
      have k0 := HK1.out.cell 0 _ rfl
      have k1 := HK1.out.cell 1 _ rfl
      clear hb1
      go_wp2_with fail
      refine (collS_any _ _ _ f _ _ _ s _ (HZ.out.later HB1.out) HP.out).mono ?_
      rintro e w2 ⟨g, q, ys, rfl, hb2, _, _, hres⟩
      have HB2 := hide (HB1.out.trans (hb2.mono HB1.out.size))
      have HK2 := hide (HK1.out.later hb2)
      have hq9 : q = 0 := by rcases hres with ⟨_, _, h⟩ | ⟨a', b', hf2, _⟩; exact h; exact absurd HC.out hf2.not
      subst hq9
      clear hb2 hres k0 k1
      have k0 := HK2.out.cell 0 _ rfl
      have k1 := HK2.out.cell 1 _ rfl
      go_wp2_with fail
      refine (faultS_any _ _ _ f _ _ _ s T _ (HZ.out.later HB2.out) HP.out HT.out).mono ?_
      rintro e w3 ⟨g3, q3, ys3, rfl, hb3, _, _, hres⟩
      have HB3 := hide (HB2.out.trans (hb3.mono HB2.out.size))
      have hq9 : q3 = 3 := by rcases hres with ⟨h1, _, h2⟩ | ⟨h1, _, h2⟩ <;> omega
      subst hq9
      clear hb3 hres k0 k1
      go_wp2_with fail
      go_ret
      exact ⟨rfl, HB3.out⟩
    · go_enter Try.func51, Try.ntmps51
      go_wp2_with fail
      refine (mapS_any _ _ _ f _ _ _ s true _ (HZ.out.later HB0.out) (by simp [HP.out])).mono ?_
      rintro e w1 ⟨rfl, hb1⟩
      have HB1 := hide (HB0.out.trans (hb1.mono HB0.out.size))
      have HK1 := hide (HK0.out.later hb1)
      have k0 := HK1.out.cell 0 _ rfl
      have k1 := HK1.out.cell 1 _ rfl
      clear hb1
      go_wp2_with fail
      refine (collS_any _ _ _ f _ _ _ s _ (HZ.out.later HB1.out) HP.out).mono ?_
      rintro e w2 ⟨g, q, ys, rfl, hb2, _, _, hres⟩
      have HB2 := hide (HB1.out.trans (hb2.mono HB1.out.size))
      have HK2 := hide (HK1.out.later hb2)
      have hq9 : q = 0 := by rcases hres with ⟨_, _, h⟩ | ⟨a', b', hf2, _⟩; exact h; exact absurd HC.out hf2.not
      subst hq9
      clear hb2 hres k0 k1
      have k0 := HK2.out.cell 0 _ rfl
      have k1 := HK2.out.cell 1 _ rfl
      go_wp2_with fail
      refine (faultS_any _ _ _ f _ _ _ s T _ (HZ.out.later HB2.out) HP.out HT.out).mono ?_
      rintro e w3 ⟨g3, q3, ys3, rfl, hb3, _, _, hres⟩
      have HB3 := hide (HB2.out.trans (hb3.mono HB2.out.size))
      have hq9 : q3 = 0 := by rcases hres with ⟨h1, _, h2⟩ | ⟨h1, _, h2⟩ <;> omega
      subst hq9
      clear hb3 hres k0 k1
      go_wp2_with fail
      go_ret
      exact ⟨rfl, HB3.out⟩
end Go.Proofs.Ytiaebilcgmahlaa
namespace Go.Proofs.Ytiaebilcgmahlaa
open Go Go.RowKit
/-- All are elements. -/
def Els (n : Nat) (xs : List Int) : Prop := ∀ i, i < xs.length → 0 ≤ xs.getD i 0 ∧ xs.getD i 0 < (n : Int)
/-- An element of a list, as a natural number. -/
def el (xs : List Int) (i : Nat) : Nat := (xs.getD i 0).toNat
theorem Els.val {n : Nat} {xs : List Int} (h : Els n xs) {i : Nat} (hi : i < xs.length) : xs.getD i 0 = (el xs i : Int) ∧ el xs i < n := by
  have h1 := h i hi
  unfold el
  omega
/-- The set of the first k elements of a list. -/
def sN (xs : List Int) : Nat → Nat
  | 0 => 0
  | k + 1 => sN xs k ||| 2 ^ el xs k
theorem sN_in (xs : List Int) (k x : Nat) : inb (sN xs k) x ↔ ∃ i, i < k ∧ el xs i = x := by
  induction k with
  | zero => exact ⟨fun h => absurd h (inb_zero x), fun ⟨i, hi, _⟩ => by omega⟩
  | succ k ih =>
    show inb (sN xs k ||| 2 ^ el xs k) x ↔ _
    rw [inb_or, ih]
    constructor
    · rintro (⟨i, hi, e⟩ | rfl)
      · exact ⟨i, by omega, e⟩
      · exact ⟨k, by omega, rfl⟩
    · rintro ⟨i, hi, e⟩
      by_cases h : i = k
      · subst h; exact .inr e.symm
      · exact .inl ⟨i, by omega, e⟩
theorem sN_lt {n : Nat} {xs : List Int} (h : Els n xs) {k : Nat} (hk : k ≤ xs.length) : sN xs k < 2 ^ n :=
  set_lt (fun x hx => by
    obtain ⟨i, hi, rfl⟩ := (sN_in xs k x).1 hx
    exact (h.val (by omega)).2)
theorem sN_ne {xs : List Int} {k : Nat} (h : 0 < k) : sN xs k ≠ 0 := by
  intro e
  have h2 : inb (sN xs k) (el xs 0) := (sN_in xs k _).2 ⟨0, h, rfl⟩
  rw [e] at h2
  exact inb_zero _ h2

/-- A set of what holds, below n. -/
theorem set_of (P : Nat → Prop) (n : Nat) : ∃ V, V < 2 ^ n ∧ ∀ x, x < n → (inb V x ↔ P x) := by
  induction n with
  | zero => exact ⟨0, by simp, fun x hx => absurd hx (Nat.not_lt_zero _)⟩
  | succ n ih =>
    obtain ⟨V, hV, h⟩ := ih
    have hn : ¬ inb V n := fun h2 => by have := inb_lt hV h2; omega
    by_cases hp : P n
    · refine ⟨V ||| 2 ^ n, or_lt (Nat.lt_of_lt_of_le hV (Nat.pow_le_pow_right (by decide) (by omega))) (by omega), fun x hx => ?_⟩
      rw [inb_or]
      by_cases e : x = n
      · subst e; simp [hp]
      · rw [← h x (by omega)]; simp [e]
    · refine ⟨V, Nat.lt_of_lt_of_le hV (Nat.pow_le_pow_right (by decide) (by omega)), fun x hx => ?_⟩
      by_cases e : x = n
      · subst e; simp [hp, hn]
      · exact h x (by omega)
/-- V is in each set with S that is closed. -/
def Under (f : List (List Int)) (S V : Nat) : Prop := ∀ T, ClosedF f T → (∀ x, inb S x → inb T x) → ∀ x, inb V x → inb T x
/-- The least closed set with S. -/
structure LeastS (f : List (List Int)) (n S V : Nat) : Prop where
  lt : V < 2 ^ n
  closed : ClosedF f V
  up : ∀ x, inb S x → inb V x
  low : Under f S V
theorem LeastS.uniq {f : List (List Int)} {n S V V' : Nat} (h : LeastS f n S V) (h' : LeastS f n S V') : V = V' :=
  inb_eq (fun x => ⟨h.low V' h'.closed h'.up x, h'.low V h.closed h.up x⟩)
theorem LeastS.ex (f : List (List Int)) (n S : Nat) (hf : ∀ x y, x < n → y < n → ap f x y < n) (hS : S < 2 ^ n) : ∃ V, LeastS f n S V := by
  obtain ⟨V, hV, h⟩ := set_of (fun x => ∀ T, ClosedF f T → (∀ x, inb S x → inb T x) → inb T x) n
  refine ⟨V, hV, ?_, ?_, ?_⟩
  · intro x y hx hy
    have lx := inb_lt hV hx
    have ly := inb_lt hV hy
    refine (h _ (hf x y lx ly)).2 fun T hT hs => hT x y ((h x lx).1 hx T hT hs) ((h y ly).1 hy T hT hs)
  · intro x hx
    exact (h x (inb_lt hS hx)).2 fun T _ hs => hs x hx
  · intro T hT hs x hx
    exact (h x (inb_lt hV hx)).1 hx T hT hs
theorem Under.grow {f : List (List Int)} {S V W : Nat} (h : Under f S V) (hg : GrF f V W) : Under f S W := by
  intro T hT hs x hx
  rcases (hg x).1 hx with h1 | ⟨a, b, ha, hb, rfl⟩
  · exact h T hT hs x h1
  · exact hT a b (h T hT hs a ha) (h T hT hs b hb)
theorem Under.add {f : List (List Int)} {S V a b v : Nat} (h : Under f S V) (ha : inb V a) (hb : inb V b) (hv : ap f a b = v) : Under f S (V ||| 2 ^ v) := by
  intro T hT hs x hx
  rcases (inb_or V v x).1 hx with h1 | rfl
  · exact h T hT hs x h1
  · rw [← hv]; exact hT a b (h T hT hs a ha) (h T hT hs b hb)
def SfRes (f : List (List Int)) (xs : List Int) (zs : List Int) (code : Int) : Prop :=
  (∃ V, (Rck f ∧ Els f.length xs ∧ xs ≠ []) ∧ LeastS f f.length (sN xs xs.length) V ∧ zs = memL f.length V ∧ code = 0) ∨ (¬ Rck f ∧ zs = [] ∧ code = 1) ∨ (Rck f ∧ ¬ Els f.length xs ∧ zs = [] ∧ code = 2) ∨ (Rck f ∧ Els f.length xs ∧ xs = [] ∧ zs = [] ∧ code = 5)
theorem SfRes.ex (f : List (List Int)) (xs : List Int) : ∃ zs code, SfRes f xs zs code ∧ zs.length ≤ 1048576 := by
  by_cases h : Rck f
  · by_cases h2 : Els f.length xs
    · by_cases h3 : xs = []
      · exact ⟨_, _, .inr (.inr (.inr ⟨h, h2, h3, rfl, rfl⟩)), by simp⟩
      · obtain ⟨V, hV⟩ := LeastS.ex f f.length (sN xs xs.length) (fun x y hx hy => h.tbl.ap_lt rfl hx hy) (sN_lt h2 (Nat.le_refl _))
        refine ⟨_, _, .inl ⟨V, ⟨h, h2, h3⟩, hV, rfl, rfl⟩, ?_⟩
        have h4 := mems_length f.length V
        have h5 := h.tbl.2.1
        rw [memL_length]
        omega
    · exact ⟨_, _, .inr (.inr (.inl ⟨h, h2, rfl, rfl⟩)), by simp⟩
  · exact ⟨_, _, .inr (.inl ⟨h, rfl, rfl⟩), by simp⟩
end Go.Proofs.Ytiaebilcgmahlaa
namespace Go.Proofs.Ytiaebilcgmahlaa
open Go Go.RowKit
/-- The number at a place of a list. -/
def elN (xs : List Int) (i : Nat) : Nat := (xs.getD i 0).toNat
/-- A tuple of elements of a set of n. -/
def Tup (n : Nat) (xs : List Int) : Prop := xs.length ≤ 12 ∧ ∀ j, j < xs.length → 0 ≤ xs.getD j 0 ∧ xs.getD j 0 < (n : Int)
theorem Tup.el {n : Nat} {xs : List Int} (h : Tup n xs) {j : Nat} (hj : j < xs.length) : xs.getD j 0 = (elN xs j : Int) ∧ elN xs j < n := by
  have := h.2 j hj
  unfold elN
  omega
/-- What forbids the guitar map. -/
def GuC (f s : List (List Int)) (xs : List Int) (code : Int) : Prop :=
  (SolF f s ∧ Tup f.length xs ∧ NonF f s ∧ code = 0) ∨ (SolF f s ∧ Tup f.length xs ∧ ¬ NonF f s ∧ code = 5) ∨ (SolF f s ∧ ¬ Tup f.length xs ∧ code = 2) ∨ (¬ SolF f s ∧ code = 1)
theorem GuC.ex (f s : List (List Int)) (xs : List Int) : ∃ code, GuC f s xs code := by
  by_cases h : SolF f s
  · by_cases h2 : Tup f.length xs
    · by_cases h3 : NonF f s
      · exact ⟨_, .inl ⟨h, h2, h3, rfl⟩⟩
      · exact ⟨_, .inr (.inl ⟨h, h2, h3, rfl⟩)⟩
    · exact ⟨_, .inr (.inr (.inl ⟨h, h2, rfl⟩))⟩
  · exact ⟨_, .inr (.inr (.inr ⟨h, rfl⟩))⟩
/-- What a function answers that the guitar map's faults forbid; L: the list where none is. -/
def GuL (L : List (List Int) → List Int → List Int) (f s : List (List Int)) (xs zs : List Int) (code : Int) : Prop :=
  GuC f s xs code ∧ ((code = 0 ∧ zs = L f xs) ∨ (code ≠ 0 ∧ zs = []))
/-- An element behind the undoing of the first j of bs. -/
def gbIn (f : List (List Int)) (bs : List Int) (x : Nat) : Nat → Nat
  | 0 => x
  | j + 1 => sol f (elN bs j) (gbIn f bs x j)
/-- The first k elements that the guitar map leads to xs. -/
def gbL (f : List (List Int)) (xs : List Int) : Nat → List Int
  | 0 => []
  | k + 1 => gbL f xs k ++ [((gbIn f (gbL f xs k) (elN xs k) k : Nat) : Int)]
theorem gbL_length (f : List (List Int)) (xs : List Int) (k : Nat) : (gbL f xs k).length = k := by
  induction k with
  | zero => rfl
  | succ k ih => simp [gbL, ih]
def gbA (f : List (List Int)) (xs : List Int) : List Int := gbL f xs xs.length
/-- An element behind the first t lambda, from that before it on. -/
def gmIn (f : List (List Int)) (xs : List Int) (i x : Nat) : Nat → Nat
  | 0 => x
  | t + 1 => ap f (elN xs (i - 1 - t)) (gmIn f xs i x t)
def gmL (f : List (List Int)) (xs : List Int) (k : Nat) : List Int := (List.range k).map fun i => ((gmIn f xs i (elN xs i) i : Nat) : Int)
theorem gmL_length (f : List (List Int)) (xs : List Int) (k : Nat) : (gmL f xs k).length = k := by simp [gmL]
theorem gmL_succ (f : List (List Int)) (xs : List Int) (k : Nat) : gmL f xs (k + 1) = gmL f xs k ++ [((gmIn f xs k (elN xs k) k : Nat) : Int)] := by simp [gmL, List.range_succ]
def gmA (f : List (List Int)) (xs : List Int) : List Int := gmL f xs xs.length
theorem gmA_length (f : List (List Int)) (xs : List Int) : (gmA f xs).length = xs.length := gmL_length _ _ _
theorem gbL_ok {f : List (List Int)} (ht : Tbl f) (hp : AllPrm f) {n : Nat} (hn : f.length = n) {xs : List Int} (hx : Tup n xs) : ∀ k, k ≤ xs.length → ∀ j, j < k → (gbL f xs k).getD j 0 = ((elN (gbL f xs k) j : Nat) : Int) ∧ elN (gbL f xs k) j < n := by
  intro k
  induction k with
  | zero => intro _ j hj; omega
  | succ k ih =>
    intro hk j hj
    have hin : ∀ t, t ≤ k → gbIn f (gbL f xs k) (elN xs k) t < n := by
      intro t
      induction t with
      | zero => intro _; exact (hx.el (by omega)).2
      | succ t iht => intro ht'; exact sol_lt ht hp hn (ih (by omega) t (by omega)).2 (iht (by omega))
    by_cases e : j = k
    · subst e
      have h1 : (gbL f xs (j + 1)).getD j 0 = ((gbIn f (gbL f xs j) (elN xs j) j : Nat) : Int) := by
        simp [gbL, gbL_length]
      have h2 : elN (gbL f xs (j + 1)) j = gbIn f (gbL f xs j) (elN xs j) j := by unfold elN; rw [h1]; simp [elN]
      rw [h1, h2]
      exact ⟨rfl, hin j (Nat.le_refl _)⟩
    · have h1 : (gbL f xs (k + 1)).getD j 0 = (gbL f xs k).getD j 0 := by
        have hl : j < (gbL f xs k).length := by rw [gbL_length]; omega
        simp only [gbL, List.getD_eq_getElem?_getD]
        rw [List.getElem?_append_left hl]
      have h2 : elN (gbL f xs (k + 1)) j = elN (gbL f xs k) j := by unfold elN; rw [h1]
      rw [h1, h2]
      exact ih (by omega) j (by omega)
theorem gbIn_lt {f : List (List Int)} (ht : Tbl f) (hp : AllPrm f) {n : Nat} (hn : f.length = n) {xs : List Int} (hx : Tup n xs) {k : Nat} (hk : k < xs.length) : ∀ t, t ≤ k → gbIn f (gbL f xs k) (elN xs k) t < n := by
  intro t
  induction t with
  | zero => intro _; exact (hx.el hk).2
  | succ t iht => intro ht'; exact sol_lt ht hp hn (gbL_ok ht hp hn hx k (by omega) t (by omega)).2 (iht (by omega))
theorem gmIn_lt {f : List (List Int)} (ht : Tbl f) {n : Nat} (hn : f.length = n) {xs : List Int} (hx : Tup n xs) {i : Nat} (hi : i < xs.length) : ∀ t, t ≤ i → gmIn f xs i (elN xs i) t < n := by
  intro t
  induction t with
  | zero => intro _; exact (hx.el hi).2
  | succ t iht => intro ht'; exact ht.ap_lt hn (hx.el (by omega)).2 (iht (by omega))
theorem GuL.ex (L : List (List Int) → List Int → List Int) (hL : ∀ f xs, (L f xs).length = xs.length) (f s : List (List Int)) (xs : List Int) : ∃ zs code, GuL L f s xs zs code ∧ zs.length ≤ 1048576 := by
  obtain ⟨code, h⟩ := GuC.ex f s xs
  by_cases hc : code = 0
  · refine ⟨_, _, ⟨h, .inl ⟨hc, rfl⟩⟩, ?_⟩
    rw [hL]
    rcases h with ⟨_, h, _⟩ | ⟨_, _, _, h⟩ | ⟨_, _, h⟩ | ⟨_, h⟩
    · have := h.1; omega
    · omega
    · omega
    · omega
  · exact ⟨_, _, ⟨h, .inr ⟨hc, rfl⟩⟩, by simp⟩
def GbRes := GuL gbA
def GmRes := GuL gmA
theorem GbRes.ex (f s : List (List Int)) (xs : List Int) : ∃ zs code, GbRes f s xs zs code ∧ zs.length ≤ 1048576 := GuL.ex gbA (fun f xs => gbL_length f xs _) f s xs
theorem GmRes.ex (f s : List (List Int)) (xs : List Int) : ∃ zs code, GmRes f s xs zs code ∧ zs.length ≤ 1048576 := GuL.ex gmA gmA_length f s xs
end Go.Proofs.Ytiaebilcgmahlaa
