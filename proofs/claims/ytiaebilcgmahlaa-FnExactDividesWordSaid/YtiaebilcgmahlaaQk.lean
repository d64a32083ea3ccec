import Derived.Test.YtiaebilcgmahlaaQi
import Derived.Test.YtiaebilcgmahlaaQc
import Derived.Test.YtiaebilcgmahlaaQh
import Derived.Test.YtiaebilcgmahlaaQa
import Derived.Test.YtiaebilcgmahlaaQg
import Derived.Test.YtiaebilcgmahlaaQj
import Derived.Test.YtiaebilcgmahlaaQe
import Derived.Test.YtiaebilcgmahlaaQf
import Derived.Test.YtiaebilcgmahlaaQb
import Derived.Maps.AppendAt
import Derived.Deep.Cut
import Derived.Deep.RegionHeld3
import Derived.Deep.DeepCutAuto
import Derived.Test.YtiaebilcgmahlaaQd
import Derived.StillTailTactics
namespace Go.Proofs.Ytiaebilcgmahlaa
open Go Go.RowKit
set_option maxHeartbeats 2000000

theorem L3.of_blk {w : World} {b : Nat} {t : TypeId} {x y z : Nat} (h : Blk w b t [.int .i64 x, .int .i64 y, .int .i64 z]) : L3 w b x y z := ⟨h.lt, h.cell 0 _ rfl, h.cell 1 _ rfl, h.cell 2 _ rfl⟩

theorem lst3_inj {a b : Nat × Nat × Nat} (h : lst3 a = lst3 b) : a = b := by
  obtain ⟨a1, a2, a3⟩ := a
  obtain ⟨b1, b2, b3⟩ := b
  simp [lst3] at h
  obtain ⟨h1, h2, h3⟩ := h
  have e1 : a1 = b1 := by omega
  have e2 : a2 = b2 := by omega
  have e3 : a3 = b3 := by omega
  rw [e1, e2, e3]

set_option maxRecDepth 100000 in
theorem faultS_any (A : Option Addr) (n c : Nat) (f : List (List Int)) (B : Option Addr) (m d : Nat) (s : List (List Int)) (T : Nat) (w : World) (hz : ZArg 1048576 w A n f B m s) (hp : PMap f s) (hT : First f s n T) :
    Calls Try.prog 90 #[.agg #[.slice A n c, .slice B m d]] w fun e w' => ∃ g k zs, e = .returned (.slice (some ⟨g, 0, none⟩) k k) ∧ Below w.heap.size w w' ∧ w.heap.size ≤ g ∧ OwnB 2 w' g zs ∧ ((T < n * n * n ∧ zs = lst3 (trip n T) ∧ k = 3) ∨ (T = n * n * n ∧ zs = [] ∧ k = 0)) := by
  have hnb := hz.sz.nb
  have HZ := hide hz
  have HP := hide hp
  have HT := hide hT
  have HFL := hide hz.sz.fl
  have h12 := hz.small hp
  obtain rfl := hz.same hp
  have HB0 := hide ((Below.refl _ w).alloc (Nat.le_refl _) (Obj.cells #[Value.slice A m c, Value.slice B m d] 29))
  have HK0 := hide (Blk.new w 29 [.slice A m c, .slice B m d])
  clear hp hz hT
  go_enter Try.func90, Try.ntmps90
  go_wp2_with fail
  go_loopw [4] (fun i wr => ∃ x : Nat, x ≤ m ∧ i = .int .i64 x ∧ Below w.heap.size w wr ∧ Blk wr w.heap.size 29 [.slice A m c, .slice B m d] ∧ ∀ i, i < x * m * m → Eq3 f s m i) (fun i _ => m - (intOf i).toNat)
  case atStart => exact ⟨0, Nat.zero_le _, rfl, HB0.out, HK0.out, fun i hi => absurd hi (by omega)⟩
  case round =>
    obtain ⟨x, hx, rfl, hbe, hkk, hall⟩ := hrel
    have HB := hide hbe
    have HK := hide hkk
    have HALL := hide hall
    clear hbe hkk hall
    have k0 := HK.out.cell 0 _ rfl
    have k1 := HK.out.cell 1 _ rfl
    by_cases hlt : x < m
    · have hxz : (x : Int) < m := by omega
      go_wp2_with fail
      clear k0 k1
      obtain ⟨wo, rfl⟩ : ∃ wo : World, wo = wr := ⟨_, rfl⟩
      go_loopw [5] (fun i wi => ∃ y : Nat, y ≤ m ∧ i = .int .i64 y ∧ Below w.heap.size w wi ∧ Blk wi w.heap.size 29 [.slice A m c, .slice B m d] ∧ ∀ i, i < (x * m + y) * m → Eq3 f s m i) (fun i _ => m - (intOf i).toNat)
      case atStart => exact ⟨0, Nat.zero_le _, rfl, HB.out, HK.out, HALL.out⟩
      case round =>
        obtain ⟨y, hy, rfl, hbi, hki, halli⟩ := hrel
        have HBI := hide hbi
        have HKI := hide hki
        have HALLI := hide halli
        clear hbi hki halli
        by_cases hlty : y < m
        · have hyz : (y : Int) < m := by omega
          go_wp2_with fail
          obtain ⟨wo2, rfl⟩ : ∃ wo : World, wo = wr := ⟨_, rfl⟩
          go_loopw [6] (fun i wi => ∃ z : Nat, z ≤ m ∧ i = .int .i64 z ∧ Below w.heap.size w wi ∧ Blk wi w.heap.size 29 [.slice A m c, .slice B m d] ∧ ∀ i, i < (x * m + y) * m + z → Eq3 f s m i) (fun i _ => m - (intOf i).toNat)
          case atStart => exact ⟨0, Nat.zero_le _, rfl, HBI.out, HKI.out, HALLI.out⟩
          case round =>
            obtain ⟨z, hzn, rfl, hbj, hkj, hallj⟩ := hrel
            have HBJ := hide hbj
            have HKJ := hide hkj
            have HALLJ := hide hallj
            clear hbj hkj hallj
            by_cases hltz : z < m
            · have hzz : (z : Int) < m := by omega
              go_wp2_with fail
              refine wp_gen fun W0 hW0 => ?_
              obtain ⟨Lb, hLb⟩ : ∃ Lb, wr.heap.size = Lb := ⟨_, rfl⟩
              have HBc : Hid (Below w.heap.size w W0) := hide (by rw [hW0]; exact HBJ.out.alloc HBJ.out.size _)
              have HKc : Hid (Blk W0 w.heap.size 29 [.slice A m c, .slice B m d]) := hide (by rw [hW0]; exact HKJ.out.alloc _)
              have HLc : Hid (Blk W0 Lb 2 [.int .i64 x, .int .i64 y, .int .i64 z]) := hide (by rw [hW0, ← hLb]; exact Blk.new _ _ _)
              have hlo : w.heap.size ≤ Lb := by rw [← hLb]; exact HBJ.out.size
              rw [hLb]
              clear hW0 hLb
              have I0 : Hid (In3 m (x, y, z)) := hide ⟨hlt, hlty, hltz⟩
              obtain ⟨⟨x1, y1, z1⟩, hE1⟩ : ∃ t, doAt f s 0 (x, y, z) = t := ⟨_, rfl⟩
              have E1 := hide hE1
              have I1 : Hid (In3 m (x1, y1, z1)) := hide (by rw [← hE1]; exact I0.out.do HP.out HFL.out 0)
              clear hE1
              obtain ⟨⟨x2, y2, z2⟩, hE2⟩ : ∃ t, doAt f s 1 (x1, y1, z1) = t := ⟨_, rfl⟩
              have E2 := hide hE2
              have I2 : Hid (In3 m (x2, y2, z2)) := hide (by rw [← hE2]; exact I1.out.do HP.out HFL.out 1)
              clear hE2
              obtain ⟨⟨x3, y3, z3⟩, hE3⟩ : ∃ t, doAt f s 0 (x2, y2, z2) = t := ⟨_, rfl⟩
              have E3 := hide hE3
              clear hE3
              obtain ⟨⟨s1, t1, r1⟩, hF1⟩ : ∃ t, doAt f s 1 (x, y, z) = t := ⟨_, rfl⟩
              have F1 := hide hF1
              have J1 : Hid (In3 m (s1, t1, r1)) := hide (by rw [← hF1]; exact I0.out.do HP.out HFL.out 1)
              clear hF1
              obtain ⟨⟨s2, t2, r2⟩, hF2⟩ : ∃ t, doAt f s 0 (s1, t1, r1) = t := ⟨_, rfl⟩
              have F2 := hide hF2
              have J2 : Hid (In3 m (s2, t2, r2)) := hide (by rw [← hF2]; exact J1.out.do HP.out HFL.out 0)
              clear hF2
              obtain ⟨⟨s3, t3, r3⟩, hF3⟩ : ∃ t, doAt f s 1 (s2, t2, r2) = t := ⟨_, rfl⟩
              have F3 := hide hF3
              clear hF3
              have hlef : lef f s (x, y, z) = (x3, y3, z3) := by unfold lef; rw [E1.out, E2.out, E3.out]
              have hrig : rig f s (x, y, z) = (s3, t3, r3) := by unfold rig; rw [F1.out, F2.out, F3.out]
              have htr : trip m ((x * m + y) * m + z) = (x, y, z) := trip_of hlty hltz
              have heq : Eq3 f s m ((x * m + y) * m + z) ↔ (x3, y3, z3) = (s3, t3, r3) := by unfold Eq3; rw [htr, hlef, hrig]
              have hklt : (x * m + y) * m + z < m * m * m := trip_lt hlt hlty hltz
              have HEQ := hide heq
              have HTR := hide htr
              have HKL := hide hklt
              clear hlef hrig htr heq hklt
              by_cases hcs : (x3, y3, z3) = (s3, t3, r3)
              · have HGOOD := hide (HEQ.out.2 hcs)
                have HCS := hide hcs
                clear hcs
                have tok0 : True := trivial
                have tok1 : True := trivial
                have tok2 : True := trivial
                have tok3 : True := trivial
                have tok4 : True := trivial
                have k0 := HKc.out.cell 0 _ rfl
                have k1 := HKc.out.cell 1 _ rfl
                go_region_held3 (fun w' => w'.cell? ⟨w.heap.size, 0, none⟩ = some (.slice A m c) ∧ w'.cell? ⟨w.heap.size, 1, none⟩ = some (.slice B m d)) (first | exact ⟨k0, k1⟩ | go_keep) (first | (go_at_call 106; have _t := tok0; clear _t tok0; go_must (refine calls_gen fun wc hwc => ?_; (first | have hbx := drew_below hwc | have hbx := eq_below hwc); replace HBc := hide (HBc.out.trans (hbx.mono HBc.out.size)); replace HKc := hide (HKc.out.later hbx); replace HLc := hide (HLc.out.later hbx); clear hwc hbx; refine (do0_any _ _ _ f _ _ _ s _ _ x y z x1 y1 z1 _ (HZ.out.later HBc.out) HP.out I0.out E1.out (L3.of_blk HLc.out)).mono ?_; rintro e wd ⟨gG1, cG1, rfl, hbd, hgG1, hlG1⟩; replace HBc := hide (HBc.out.trans (hbd.mono HBc.out.size)); replace HKc := hide (HKc.out.later hbd); replace HLc := hide (HLc.out.later hbd); clear hbd; have k0 := HKc.out.cell 0 _ rfl; have k1 := HKc.out.cell 1 _ rfl; have G1 := hide hlG1; clear hlG1 hgG1)) | (go_at_call 106; have _t := tok1; clear _t tok1; go_must (refine calls_gen fun wc hwc => ?_; (first | have hbx := drew_below hwc | have hbx := eq_below hwc); replace HBc := hide (HBc.out.trans (hbx.mono HBc.out.size)); replace HKc := hide (HKc.out.later hbx); replace HLc := hide (HLc.out.later hbx); replace G1 := hide (G1.out.later hbx); clear hwc hbx; refine (do1_any _ _ _ f _ _ _ s _ _ x1 y1 z1 x2 y2 z2 _ (HZ.out.later HBc.out) HP.out I1.out E2.out G1.out).mono ?_; rintro e wd ⟨gG2, cG2, rfl, hbd, hgG2, hlG2⟩; replace HBc := hide (HBc.out.trans (hbd.mono HBc.out.size)); replace HKc := hide (HKc.out.later hbd); replace HLc := hide (HLc.out.later hbd); replace G1 := hide (G1.out.later hbd); clear hbd; have k0 := HKc.out.cell 0 _ rfl; have k1 := HKc.out.cell 1 _ rfl; have G2 := hide hlG2; clear hlG2 hgG2)) | (go_at_call 106; have _t := tok2; clear _t tok2; go_must (refine calls_gen fun wc hwc => ?_; (first | have hbx := drew_below hwc | have hbx := eq_below hwc); replace HBc := hide (HBc.out.trans (hbx.mono HBc.out.size)); replace HKc := hide (HKc.out.later hbx); replace HLc := hide (HLc.out.later hbx); replace G1 := hide (G1.out.later hbx); replace G2 := hide (G2.out.later hbx); clear hwc hbx; refine (do0_any _ _ _ f _ _ _ s _ _ x2 y2 z2 x3 y3 z3 _ (HZ.out.later HBc.out) HP.out I2.out E3.out G2.out).mono ?_; rintro e wd ⟨gG3, cG3, rfl, hbd, hgG3, hlG3⟩; replace HBc := hide (HBc.out.trans (hbd.mono HBc.out.size)); replace HKc := hide (HKc.out.later hbd); replace HLc := hide (HLc.out.later hbd); replace G1 := hide (G1.out.later hbd); replace G2 := hide (G2.out.later hbd); clear hbd; have k0 := HKc.out.cell 0 _ rfl; have k1 := HKc.out.cell 1 _ rfl; have G3 := hide hlG3; clear hlG3 hgG3)) | (go_at_call 106; have _t := tok3; clear _t tok3; go_must (refine calls_gen fun wc hwc => ?_; (first | have hbx := drew_below hwc | have hbx := eq_below hwc); replace HBc := hide (HBc.out.trans (hbx.mono HBc.out.size)); replace HKc := hide (HKc.out.later hbx); replace HLc := hide (HLc.out.later hbx); replace G1 := hide (G1.out.later hbx); replace G2 := hide (G2.out.later hbx); replace G3 := hide (G3.out.later hbx); clear hwc hbx; refine (do1_any _ _ _ f _ _ _ s _ _ x y z s1 t1 r1 _ (HZ.out.later HBc.out) HP.out I0.out F1.out (L3.of_blk HLc.out)).mono ?_; rintro e wd ⟨gG4, cG4, rfl, hbd, hgG4, hlG4⟩; replace HBc := hide (HBc.out.trans (hbd.mono HBc.out.size)); replace HKc := hide (HKc.out.later hbd); replace HLc := hide (HLc.out.later hbd); replace G1 := hide (G1.out.later hbd); replace G2 := hide (G2.out.later hbd); replace G3 := hide (G3.out.later hbd); clear hbd; have k0 := HKc.out.cell 0 _ rfl; have k1 := HKc.out.cell 1 _ rfl; have G4 := hide hlG4; clear hlG4 hgG4)) | (go_at_call 106; have _t := tok4; clear _t tok4; go_must (refine calls_gen fun wc hwc => ?_; (first | have hbx := drew_below hwc | have hbx := eq_below hwc); replace HBc := hide (HBc.out.trans (hbx.mono HBc.out.size)); replace HKc := hide (HKc.out.later hbx); replace HLc := hide (HLc.out.later hbx); replace G1 := hide (G1.out.later hbx); replace G2 := hide (G2.out.later hbx); replace G3 := hide (G3.out.later hbx); replace G4 := hide (G4.out.later hbx); clear hwc hbx; refine (do0_any _ _ _ f _ _ _ s _ _ s1 t1 r1 s2 t2 r2 _ (HZ.out.later HBc.out) HP.out J1.out F2.out G4.out).mono ?_; rintro e wd ⟨gG5, cG5, rfl, hbd, hgG5, hlG5⟩; replace HBc := hide (HBc.out.trans (hbd.mono HBc.out.size)); replace HKc := hide (HKc.out.later hbd); replace HLc := hide (HLc.out.later hbd); replace G1 := hide (G1.out.later hbd); replace G2 := hide (G2.out.later hbd); replace G3 := hide (G3.out.later hbd); replace G4 := hide (G4.out.later hbd); clear hbd; have k0 := HKc.out.cell 0 _ rfl; have k1 := HKc.out.cell 1 _ rfl; have G5 := hide hlG5; clear hlG5 hgG5)) | (go_at_call 106; go_must (refine calls_gen fun wc hwc => ?_; (first | have hbx := drew_below hwc | have hbx := eq_below hwc); replace HBc := hide (HBc.out.trans (hbx.mono HBc.out.size)); replace HKc := hide (HKc.out.later hbx); replace HLc := hide (HLc.out.later hbx); replace G1 := hide (G1.out.later hbx); replace G2 := hide (G2.out.later hbx); replace G3 := hide (G3.out.later hbx); replace G4 := hide (G4.out.later hbx); replace G5 := hide (G5.out.later hbx); clear hwc hbx; refine (do1_any _ _ _ f _ _ _ s _ _ s2 t2 r2 s3 t3 r3 _ (HZ.out.later HBc.out) HP.out J2.out F3.out G5.out).mono ?_; rintro e wd ⟨gG6, cG6, rfl, hbd, hgG6, hlG6⟩; replace HBc := hide (HBc.out.trans (hbd.mono HBc.out.size)); replace HKc := hide (HKc.out.later hbd); replace HLc := hide (HLc.out.later hbd); replace G1 := hide (G1.out.later hbd); replace G2 := hide (G2.out.later hbd); replace G3 := hide (G3.out.later hbd); replace G4 := hide (G4.out.later hbd); replace G5 := hide (G5.out.later hbd); clear hbd; have k0 := HKc.out.cell 0 _ rfl; have k1 := HKc.out.cell 1 _ rfl; have G6 := hide hlG6; clear hlG6 hgG6)) | (go_at_call 94; go_must (refine calls_gen fun wc hwc => ?_; (first | have hbx := drew_below hwc | have hbx := eq_below hwc); replace HBc := hide (HBc.out.trans (hbx.mono HBc.out.size)); replace HKc := hide (HKc.out.later hbx); replace HLc := hide (HLc.out.later hbx); replace G3 := hide (G3.out.later hbx); replace G6 := hide (G6.out.later hbx); clear hwc hbx; refine (same_any _ _ _ _ _ _ (lst3 (x3, y3, z3)) (lst3 (s3, t3, r3)) true _ (show (lst3 (x3, y3, z3)).length = 3 from rfl) (show (lst3 (s3, t3, r3)).length = 3 from rfl) (by omega) (by omega) G3.out.rd G6.out.rd (by rw [HCS.out]; simp)).mono ?_; rintro e wd ⟨rfl, hqd⟩; have hbd := hqd.below wc.heap.size; replace HBc := hide (HBc.out.trans (hbd.mono HBc.out.size)); replace HKc := hide (HKc.out.later hbd); replace HLc := hide (HLc.out.later hbd); clear hqd hbd; have k0 := HKc.out.cell 0 _ rfl; have k1 := HKc.out.cell 1 _ rfl)))
                clear k0 k1
                go_wp2_with fail
                go_roundw
                case rel => exact ⟨z + 1, by omega, by go_num, HBc.out, HKc.out, fun i hi => by
                  by_cases e : i = (x * m + y) * m + z
                  · rw [e]; exact HGOOD.out
                  · exact HALLJ.out i (by omega)⟩
                case measure => simp [intOf]; omega
              · have hbad : ¬ Eq3 f s m ((x * m + y) * m + z) := fun h => hcs (HEQ.out.1 h)
                have HTB := hide (HT.out.bad HALLJ.out HKL.out hbad)
                have HCS := hide hcs
                clear hcs hbad
                have tok0 : True := trivial
                have tok1 : True := trivial
                have tok2 : True := trivial
                have tok3 : True := trivial
                have tok4 : True := trivial
                have k0 := HKc.out.cell 0 _ rfl
                have k1 := HKc.out.cell 1 _ rfl
                go_region_held3 (fun w' => w'.cell? ⟨w.heap.size, 0, none⟩ = some (.slice A m c) ∧ w'.cell? ⟨w.heap.size, 1, none⟩ = some (.slice B m d)) (first | exact ⟨k0, k1⟩ | go_keep) (first | (go_at_call 106; have _t := tok0; clear _t tok0; go_must (refine calls_gen fun wc hwc => ?_; (first | have hbx := drew_below hwc | have hbx := eq_below hwc); replace HBc := hide (HBc.out.trans (hbx.mono HBc.out.size)); replace HKc := hide (HKc.out.later hbx); replace HLc := hide (HLc.out.later hbx); clear hwc hbx; refine (do0_any _ _ _ f _ _ _ s _ _ x y z x1 y1 z1 _ (HZ.out.later HBc.out) HP.out I0.out E1.out (L3.of_blk HLc.out)).mono ?_; rintro e wd ⟨gG1, cG1, rfl, hbd, hgG1, hlG1⟩; replace HBc := hide (HBc.out.trans (hbd.mono HBc.out.size)); replace HKc := hide (HKc.out.later hbd); replace HLc := hide (HLc.out.later hbd); clear hbd; have k0 := HKc.out.cell 0 _ rfl; have k1 := HKc.out.cell 1 _ rfl; have G1 := hide hlG1; clear hlG1 hgG1)) | (go_at_call 106; have _t := tok1; clear _t tok1; go_must (refine calls_gen fun wc hwc => ?_; (first | have hbx := drew_below hwc | have hbx := eq_below hwc); replace HBc := hide (HBc.out.trans (hbx.mono HBc.out.size)); replace HKc := hide (HKc.out.later hbx); replace HLc := hide (HLc.out.later hbx); replace G1 := hide (G1.out.later hbx); clear hwc hbx; refine (do1_any _ _ _ f _ _ _ s _ _ x1 y1 z1 x2 y2 z2 _ (HZ.out.later HBc.out) HP.out I1.out E2.out G1.out).mono ?_; rintro e wd ⟨gG2, cG2, rfl, hbd, hgG2, hlG2⟩; replace HBc := hide (HBc.out.trans (hbd.mono HBc.out.size)); replace HKc := hide (HKc.out.later hbd); replace HLc := hide (HLc.out.later hbd); replace G1 := hide (G1.out.later hbd); clear hbd; have k0 := HKc.out.cell 0 _ rfl; have k1 := HKc.out.cell 1 _ rfl; have G2 := hide hlG2; clear hlG2 hgG2)) | (go_at_call 106; have _t := tok2; clear _t tok2; go_must (refine calls_gen fun wc hwc => ?_; (first | have hbx := drew_below hwc | have hbx := eq_below hwc); replace HBc := hide (HBc.out.trans (hbx.mono HBc.out.size)); replace HKc := hide (HKc.out.later hbx); replace HLc := hide (HLc.out.later hbx); replace G1 := hide (G1.out.later hbx); replace G2 := hide (G2.out.later hbx); clear hwc hbx; refine (do0_any _ _ _ f _ _ _ s _ _ x2 y2 z2 x3 y3 z3 _ (HZ.out.later HBc.out) HP.out I2.out E3.out G2.out).mono ?_; rintro e wd ⟨gG3, cG3, rfl, hbd, hgG3, hlG3⟩; replace HBc := hide (HBc.out.trans (hbd.mono HBc.out.size)); replace HKc := hide (HKc.out.later hbd); replace HLc := hide (HLc.out.later hbd); replace G1 := hide (G1.out.later hbd); replace G2 := hide (G2.out.later hbd); clear hbd; have k0 := HKc.out.cell 0 _ rfl; have k1 := HKc.out.cell 1 _ rfl; have G3 := hide hlG3; clear hlG3 hgG3)) | (go_at_call 106; have _t := tok3; clear _t tok3; go_must (refine calls_gen fun wc hwc => ?_; (first | have hbx := drew_below hwc | have hbx := eq_below hwc); replace HBc := hide (HBc.out.trans (hbx.mono HBc.out.size)); replace HKc := hide (HKc.out.later hbx); replace HLc := hide (HLc.out.later hbx); replace G1 := hide (G1.out.later hbx); replace G2 := hide (G2.out.later hbx); replace G3 := hide (G3.out.later hbx); clear hwc hbx; refine (do1_any _ _ _ f _ _ _ s _ _ x y z s1 t1 r1 _ (HZ.out.later HBc.out) HP.out I0.out F1.out (L3.of_blk HLc.out)).mono ?_; rintro e wd ⟨gG4, cG4, rfl, hbd, hgG4, hlG4⟩; replace HBc := hide (HBc.out.trans (hbd.mono HBc.out.size)); replace HKc := hide (HKc.out.later hbd); replace HLc := hide (HLc.out.later hbd); replace G1 := hide (G1.out.later hbd); replace G2 := hide (G2.out.later hbd); replace G3 := hide (G3.out.later hbd); clear hbd; have k0 := HKc.out.cell 0 _ rfl; have k1 := HKc.out.cell 1 _ rfl; have G4 := hide hlG4; clear hlG4 hgG4)) | (go_at_call 106; have _t := tok4; clear _t tok4; go_must (refine calls_gen fun wc hwc => ?_; (first | have hbx := drew_below hwc | have hbx := eq_below hwc); replace HBc := hide (HBc.out.trans (hbx.mono HBc.out.size)); replace HKc := hide (HKc.out.later hbx); replace HLc := hide (HLc.out.later hbx); replace G1 := hide (G1.out.later hbx); replace G2 := hide (G2.out.later hbx); replace G3 := hide (G3.out.later hbx); replace G4 := hide (G4.out.later hbx); clear hwc hbx; refine (do0_any _ _ _ f _ _ _ s _ _ s1 t1 r1 s2 t2 r2 _ (HZ.out.later HBc.out) HP.out J1.out F2.out G4.out).mono ?_; rintro e wd ⟨gG5, cG5, rfl, hbd, hgG5, hlG5⟩; replace HBc := hide (HBc.out.trans (hbd.mono HBc.out.size)); replace HKc := hide (HKc.out.later hbd); replace HLc := hide (HLc.out.later hbd); replace G1 := hide (G1.out.later hbd); replace G2 := hide (G2.out.later hbd); replace G3 := hide (G3.out.later hbd); replace G4 := hide (G4.out.later hbd); clear hbd; have k0 := HKc.out.cell 0 _ rfl; have k1 := HKc.out.cell 1 _ rfl; have G5 := hide hlG5; clear hlG5 hgG5)) | (go_at_call 106; go_must (refine calls_gen fun wc hwc => ?_; (first | have hbx := drew_below hwc | have hbx := eq_below hwc); replace HBc := hide (HBc.out.trans (hbx.mono HBc.out.size)); replace HKc := hide (HKc.out.later hbx); replace HLc := hide (HLc.out.later hbx); replace G1 := hide (G1.out.later hbx); replace G2 := hide (G2.out.later hbx); replace G3 := hide (G3.out.later hbx); replace G4 := hide (G4.out.later hbx); replace G5 := hide (G5.out.later hbx); clear hwc hbx; refine (do1_any _ _ _ f _ _ _ s _ _ s2 t2 r2 s3 t3 r3 _ (HZ.out.later HBc.out) HP.out J2.out F3.out G5.out).mono ?_; rintro e wd ⟨gG6, cG6, rfl, hbd, hgG6, hlG6⟩; replace HBc := hide (HBc.out.trans (hbd.mono HBc.out.size)); replace HKc := hide (HKc.out.later hbd); replace HLc := hide (HLc.out.later hbd); replace G1 := hide (G1.out.later hbd); replace G2 := hide (G2.out.later hbd); replace G3 := hide (G3.out.later hbd); replace G4 := hide (G4.out.later hbd); replace G5 := hide (G5.out.later hbd); clear hbd; have k0 := HKc.out.cell 0 _ rfl; have k1 := HKc.out.cell 1 _ rfl; have G6 := hide hlG6; clear hlG6 hgG6)) | (go_at_call 94; go_must (refine calls_gen fun wc hwc => ?_; (first | have hbx := drew_below hwc | have hbx := eq_below hwc); replace HBc := hide (HBc.out.trans (hbx.mono HBc.out.size)); replace HKc := hide (HKc.out.later hbx); replace HLc := hide (HLc.out.later hbx); replace G3 := hide (G3.out.later hbx); replace G6 := hide (G6.out.later hbx); clear hwc hbx; refine (same_any _ _ _ _ _ _ (lst3 (x3, y3, z3)) (lst3 (s3, t3, r3)) false _ (show (lst3 (x3, y3, z3)).length = 3 from rfl) (show (lst3 (s3, t3, r3)).length = 3 from rfl) (by omega) (by omega) G3.out.rd G6.out.rd (by constructor <;> intro h; cases h; exact absurd h (fun h => HCS.out (lst3_inj h)))).mono ?_; rintro e wd ⟨rfl, hqd⟩; have hbd := hqd.below wc.heap.size; replace HBc := hide (HBc.out.trans (hbd.mono HBc.out.size)); replace HKc := hide (HKc.out.later hbd); replace HLc := hide (HLc.out.later hbd); clear hqd hbd; have k0 := HKc.out.cell 0 _ rfl; have k1 := HKc.out.cell 1 _ rfl)))
                clear k0 k1
                go_wp2_with fail
                go_ret
                exact ⟨Lb, 3, lst3 (x, y, z), rfl, HBc.out, hlo, ⟨_, HLc.out, fun i hi => by
                  simp [lst3] at hi
                  rcases i with _ | _ | _ | i
                  · rfl
                  · rfl
                  · rfl
                  · omega⟩, .inl ⟨by rw [HTB.out]; exact HKL.out, by rw [HTB.out, HTR.out], rfl⟩⟩
            · have hzn' : z = m := by omega
              subst hzn'
              go_wp2_with fail
              go_roundw
              case rel => exact ⟨y + 1, by omega, by go_num, HBJ.out, HKJ.out, fun i hi => HALLJ.out i (by rw [← Nat.add_assoc, Nat.add_mul _ 1, Nat.one_mul] at hi; exact hi)⟩
              case measure => simp [intOf]; omega
        · have hyn' : y = m := by omega
          subst hyn'
          go_wp2_with fail
          go_roundw
          case rel => exact ⟨x + 1, by omega, by go_num, HBI.out, HKI.out, fun i hi => HALLI.out i (by rw [Nat.add_mul x 1, Nat.one_mul] at hi; exact hi)⟩
          case measure => simp [intOf]; omega
    · have hxn : x = m := by omega
      subst hxn
      clear k0 k1
      go_wp2_with fail
      refine bp_gen fun wf hwf => ?_
      have HBF : Below w.heap.size w wf := by rw [hwf]; exact HB.out.alloc HB.out.size _
      have HOF : OwnB 2 wf wr.heap.size [] := by rw [hwf]; exact ⟨_, heap_alloc_new _ _, fun i hi => absurd hi (Nat.not_lt_zero _)⟩
      have hlo : w.heap.size ≤ wr.heap.size := HB.out.size
      clear hwf
      go_ret
      exact ⟨wr.heap.size, 0, _, rfl, HBF, hlo, HOF, .inr ⟨HT.out.all HALL.out, rfl, rfl⟩⟩
end Go.Proofs.Ytiaebilcgmahlaa
namespace Go.Proofs.Ytiaebilcgmahlaa
open Go Go.RowKit
/-- The place at which row x has z. -/
def sol (f : List (List Int)) (x z : Nat) : Nat := (ixOf (f.getD x []) (z : Int)).toNat
theorem sol_spec {f : List (List Int)} (ht : Tbl f) (hp : AllPrm f) {n x z : Nat} (hn : f.length = n) (hx : x < n) (hz : z < n) :
    sol f x z < n ∧ ixOf (f.getD x []) (z : Int) = ((sol f x z : Nat) : Int) ∧ (f.getD x []).getD (sol f x z) 0 = (z : Int) ∧ ap f x (sol f x z) = z := by
  have hl : (f.getD x []).length = n := ht.row_len hn hx
  have hpx : Prm (f.getD x []) := hp x (by omega)
  have hm : (z : Int) ∈ f.getD x [] := (prm_iff _).1 hpx |>.2.2 z (by omega) (by omega)
  have hi := List.idxOf_lt_length_iff.2 hm
  have e1 : ixOf (f.getD x []) (z : Int) = (((f.getD x []).idxOf (z : Int) : Nat) : Int) := by unfold ixOf; rw [if_pos hm]
  have e2 : sol f x z = (f.getD x []).idxOf (z : Int) := by unfold sol; rw [e1]; simp
  have e3 : (f.getD x []).getD ((f.getD x []).idxOf (z : Int)) 0 = (z : Int) := by
    generalize f.getD x [] = p at hi
    rw [List.getD_eq_getElem?_getD, List.getElem?_eq_getElem hi]
    simp
  rw [e2]
  refine ⟨by omega, e1, e3, ?_⟩
  unfold ap
  rw [e3]
  simp
theorem sol_lt {f : List (List Int)} (ht : Tbl f) (hp : AllPrm f) {n x z : Nat} (hn : f.length = n) (hx : x < n) (hz : z < n) : sol f x z < n := (sol_spec ht hp hn hx hz).1
theorem sol_ix {f : List (List Int)} (ht : Tbl f) (hp : AllPrm f) {n x z : Nat} (hn : f.length = n) (hx : x < n) (hz : z < n) : ixOf (f.getD x []) (z : Int) = ((sol f x z : Nat) : Int) := (sol_spec ht hp hn hx hz).2.1
theorem dual_row {f : List (List Int)} {n x : Nat} (hn : f.length = n) (hx : x < n) : (dualL f).getD x [] = backTo (f.getD x []) n := by
  unfold dualL
  rw [rowsL_at f _ x (by omega), hn]
theorem sol_dual {f : List (List Int)} (ht : Tbl f) (hp : AllPrm f) {n x z : Nat} (hn : f.length = n) (hx : x < n) (hz : z < n) : ((dualL f).getD x []).getD z 0 = ((sol f x z : Nat) : Int) := by
  have hl : (f.getD x []).length = n := ht.row_len hn hx
  have hpx : Prm (f.getD x []) := hp x (by omega)
  obtain ⟨h1, _, h3, _⟩ := sol_spec ht hp hn hx hz
  have h := backTo_hit hpx n (by omega) (sol f x z) h1
  rw [h3] at h
  rw [dual_row hn hx]
  simpa using h
theorem dualL_len (f : List (List Int)) : (dualL f).length = f.length := by unfold dualL; rw [rowsL_length]
theorem dual_len {f : List (List Int)} (ht : Tbl f) {n x : Nat} (hn : f.length = n) (hx : x < n) : ((dualL f).getD x []).length = n := by rw [dual_row hn hx, backTo_length]; exact ht.row_len hn hx
theorem dual_tbl {f : List (List Int)} (ht : Tbl f) (hp : AllPrm f) : Tbl (dualL f) := by
  refine ⟨by rw [dualL_len]; exact ht.1, by rw [dualL_len]; exact ht.2.1, ?_⟩
  intro i hi
  rw [dualL_len] at hi
  refine ⟨by rw [dual_len ht rfl hi, dualL_len], fun j hj => ?_⟩
  rw [dualL_len] at hj
  have h := sol_lt ht hp rfl hi hj
  rw [sol_dual ht hp rfl hi hj, dualL_len]
  omega
theorem sol_ap {f : List (List Int)} (ht : Tbl f) (hp : AllPrm f) {n x z : Nat} (hn : f.length = n) (hx : x < n) (hz : z < n) : ap (dualL f) x z = sol f x z := by
  have h := sol_dual ht hp hn hx hz
  unfold ap
  rw [h]
  simp
def DsRes (f : List (List Int)) (x z v code : Int) : Prop :=
  (Cyc f ∧ (0 ≤ x ∧ x < (f.length : Int)) ∧ (0 ≤ z ∧ z < (f.length : Int)) ∧ v = ((sol f x.toNat z.toNat : Nat) : Int) ∧ code = 0) ∨ (Cyc f ∧ ¬ ((0 ≤ x ∧ x < (f.length : Int)) ∧ (0 ≤ z ∧ z < (f.length : Int))) ∧ v = 0 ∧ code = 2) ∨ (¬ Cyc f ∧ v = 0 ∧ code = 1)
theorem DsRes.ex (f : List (List Int)) (x z : Int) : ∃ v code, DsRes f x z v code := by
  by_cases h : Cyc f
  · by_cases h2 : (0 ≤ x ∧ x < (f.length : Int)) ∧ (0 ≤ z ∧ z < (f.length : Int))
    · exact ⟨_, _, .inl ⟨h, h2.1, h2.2, rfl, rfl⟩⟩
    · exact ⟨_, _, .inr (.inl ⟨h, h2, rfl, rfl⟩)⟩
  · exact ⟨_, _, .inr (.inr ⟨h, rfl, rfl⟩)⟩
end Go.Proofs.Ytiaebilcgmahlaa
namespace Go.Proofs.Ytiaebilcgmahlaa
open Go Go.RowKit
set_option maxHeartbeats 1000000
theorem isI_any (A : Option Addr) (n c : Nat) (f : List (List Int)) (B : Option Addr) (m d : Nat) (s : List (List Int)) (r : Bool) (w : World) (hz : ZArg 1048576 w A n f B m s) (hr : IsRes f s r) :
    Calls Try.prog 56 #[.agg #[.slice A n c, .slice B m d]] w fun e w' => e = .returned (.bool r) ∧ Below w.heap.size w w' := by
  have HZ := hide hz
  have HB0 := hide ((Below.refl _ w).alloc (Nat.le_refl _) (Obj.cells #[Value.slice A n c, Value.slice B m d] 29))
  have HK0 := hide (Blk.new w 29 [.slice A n c, .slice B m d])
  have hcs := hr.cases hz.sz.fl
  clear hr hz
  rcases hcs with ⟨hp, rfl⟩ | ⟨hp, T, hT, hq⟩
  · have HP := hide hp
    clear hp
    go_enter Try.func56, Try.ntmps56
    go_wp2_with fail
    refine (mapI_any _ _ _ f _ _ _ s false _ (HZ.out.later HB0.out) (by simp [HP.out])).mono ?_
    rintro e w1 ⟨rfl, hb1⟩
    have HB1 := hide (HB0.out.trans (hb1.mono HB0.out.size))
    have HK1 := hide (HK0.out.later hb1)
    have k0 := HK1.out.cell 0 _ rfl
    have k1 := HK1.out.cell 1 _ rfl
    clear hb1
    go_wp2_with fail
    go_ret
    exact ⟨rfl, HB1.out⟩
  · have HP := hide hp
    have HT := hide hT
    clear hp hT
    have hq2 : (T < n * n * n ∧ r = false) ∨ (T = n * n * n ∧ (Hid (∃ a b, FstCol f s n a b) ∧ r = false ∨ Hid (NoCol f s n) ∧ r = true)) := by
      rcases hq with ⟨h1, ⟨_, h⟩ | ⟨_, h⟩⟩ | ⟨h1, ⟨h2, h⟩ | ⟨h2, h⟩⟩
      · exact .inl ⟨h1, h⟩
      · exact .inl ⟨h1, h⟩
      · exact .inr ⟨h1, .inl ⟨hide h2, h⟩⟩
      · exact .inr ⟨h1, .inr ⟨hide h2, h⟩⟩
    clear hq
    rcases hq2 with ⟨hlt, rfl⟩ | ⟨hte, ⟨HC, rfl⟩ | ⟨HC, rfl⟩⟩
    · go_enter Try.func56, Try.ntmps56
      go_wp2_with fail
      refine (mapI_any _ _ _ f _ _ _ s true _ (HZ.out.later HB0.out) (by simp [HP.out])).mono ?_
      rintro e w1 ⟨rfl, hb1⟩
      have HB1 := hide (HB0.out.trans (hb1.mono HB0.out.size))
      have HK1 := hide (HK0.out.later hb1)
      have k0 := HK1.out.cell 0 _ rfl
      have k1 := HK1.out.cell 1 _ rfl
      clear hb1
      go_wp2_with fail
      refine (fault_any _ _ _ f _ _ _ s T _ (HZ.out.later HB1.out) HP.out HT.out).mono ?_
      rintro e w2 ⟨t, ok, rfl, hb2, hres⟩
      have HB2 := hide (HB1.out.trans (hb2.mono HB1.out.size))
      have HK2 := hide (HK1.out.later hb2)
      have hok : ok = true := by rcases hres with ⟨h1, h2, _⟩ | ⟨h1, h2⟩ <;> first | exact h1 | omega
      subst hok
      clear hb2 hres k0 k1
      unfold tv
      obtain ⟨x, y, z⟩ := t
      have k0 := fun o => (HK2.out.alloc o).cell 0 _ rfl
      have k1 := fun o => (HK2.out.alloc o).cell 1 _ rfl
      go_wp2_with fail
      clear k0 k1
      refine bp_gen fun wf hwf => ?_
      have HBF : Below w.heap.size w wf := by rw [hwf]; exact HB2.out.alloc HB2.out.size _
      clear hwf
      go_ret
      exact ⟨rfl, HBF⟩
    · go_enter Try.func56, Try.ntmps56
      go_wp2_with fail
      refine (mapI_any _ _ _ f _ _ _ s true _ (HZ.out.later HB0.out) (by simp [HP.out])).mono ?_
      rintro e w1 ⟨rfl, hb1⟩
      have HB1 := hide (HB0.out.trans (hb1.mono HB0.out.size))
      have HK1 := hide (HK0.out.later hb1)
      have k0 := HK1.out.cell 0 _ rfl
      have k1 := HK1.out.cell 1 _ rfl
      clear hb1
      go_wp2_with fail
      refine (fault_any _ _ _ f _ _ _ s T _ (HZ.out.later HB1.out) HP.out HT.out).mono ?_
      rintro e w2 ⟨t, ok, rfl, hb2, hres⟩
      have HB2 := hide (HB1.out.trans (hb2.mono HB1.out.size))
      have HK2 := hide (HK1.out.later hb2)
      have hok : ok = false := by rcases hres with ⟨h1, h2, _⟩ | ⟨h1, h2⟩ <;> first | exact h1 | omega
      subst hok
      clear hb2 hres k0 k1
      unfold tv
      obtain ⟨x, y, z⟩ := t
      have k0 := fun o => (HK2.out.alloc o).cell 0 _ rfl
      have k1 := fun o => (HK2.out.alloc o).cell 1 _ rfl
      go_wp2_with fail
      clear k0 k1
      refine calls_gen fun w4 hw4 => ?_
      replace HB2 : Hid (Below w.heap.size w w4) := hide (by rw [hw4]; exact HB2.out.alloc HB2.out.size _)
      clear hw4 HK2
      refine (coll_any _ _ _ f _ _ _ s _ (HZ.out.later HB2.out) HP.out).mono ?_
      rintro e w3 ⟨hb3, hres⟩
      have HB3 := hide (HB2.out.trans (hb3.mono HB2.out.size))
      clear hb3
      obtain ⟨a, b, hf⟩ := HC.out
      rcases hres with ⟨hno, _⟩ | ⟨a', b', _, rfl⟩
      · exact absurd hno hf.not
      · go_wp2_with fail
        refine bp_gen fun wf hwf => ?_
        have HBF : Below w.heap.size w wf := by rw [hwf]; exact (HB3.out.alloc HB3.out.size _).alloc (by have := HB3.out.size; simp; omega) _
        clear hwf
        go_ret
        exact ⟨rfl, HBF⟩
    · go_enter Try.func56, Try.ntmps56
      go_wp2_with fail
      refine (mapI_any _ _ _ f _ _ _ s true _ (HZ.out.later HB0.out) (by simp [HP.out])).mono ?_
      rintro e w1 ⟨rfl, hb1⟩
      have HB1 := hide (HB0.out.trans (hb1.mono HB0.out.size))
      have HK1 := hide (HK0.out.later hb1)
      have k0 := HK1.out.cell 0 _ rfl
      have k1 := HK1.out.cell 1 _ rfl
      clear hb1
      go_wp2_with fail
      refine (fault_any _ _ _ f _ _ _ s T _ (HZ.out.later HB1.out) HP.out HT.out).mono ?_
      rintro e w2 ⟨t, ok, rfl, hb2, hres⟩
      have HB2 := hide (HB1.out.trans (hb2.mono HB1.out.size))
      have HK2 := hide (HK1.out.later hb2)
      have hok : ok = false := by rcases hres with ⟨h1, h2, _⟩ | ⟨h1, h2⟩ <;> first | exact h1 | omega
      subst hok
      clear hb2 hres k0 k1
      unfold tv
      obtain ⟨x, y, z⟩ := t
      have k0 := fun o => (HK2.out.alloc o).cell 0 _ rfl
      have k1 := fun o => (HK2.out.alloc o).cell 1 _ rfl
      go_wp2_with fail
      clear k0 k1
      refine calls_gen fun w4 hw4 => ?_
      replace HB2 : Hid (Below w.heap.size w w4) := hide (by rw [hw4]; exact HB2.out.alloc HB2.out.size _)
      clear hw4 HK2
      refine (coll_any _ _ _ f _ _ _ s _ (HZ.out.later HB2.out) HP.out).mono ?_
      rintro e w3 ⟨hb3, hres⟩
      have HB3 := hide (HB2.out.trans (hb3.mono HB2.out.size))
      clear hb3
      rcases hres with ⟨_, rfl⟩ | ⟨a', b', hf2, _⟩
      · go_wp2_with fail
        refine bp_gen fun wf hwf => ?_
        have HBF : Below w.heap.size w wf := by rw [hwf]; exact (HB3.out.alloc HB3.out.size _).alloc (by have := HB3.out.size; simp; omega) _
        clear hwf
        go_ret
        exact ⟨rfl, HBF⟩
      · exact absurd HC.out hf2.not
end Go.Proofs.Ytiaebilcgmahlaa
namespace Go.Proofs.Ytiaebilcgmahlaa
open Go Go.RowKit
open Classical
set_option maxHeartbeats 4000000
theorem Qs.start {ts t : TypeId} {B : Nat} {w : World} {A : Option Addr} {c : Nat} {r : List Int} (hA : Obj1 t B w.heap.size w A r) (hB : B ≤ w.heap.size) :
    Qs ts t B ((w.alloc (.cells #[.slice A r.length c] ts)).alloc (.cells #[.slice A r.length c] ts)) (.slice (some ⟨w.heap.size, 0, none⟩) 1 1) (.slice (some ⟨w.heap.size + 1, 0, none⟩) 1 1) [r] [r] [.slice A r.length c] [.slice A r.length c] := by
  have h1 : Below w.heap.size w (w.alloc (.cells #[.slice A r.length c] ts)) := (Below.refl _ _).alloc (Nat.le_refl _) _
  have h2 : Below (w.alloc (.cells #[.slice A r.length c] ts)).heap.size (w.alloc (.cells #[.slice A r.length c] ts)) ((w.alloc (.cells #[.slice A r.length c] ts)).alloc (.cells #[.slice A r.length c] ts)) := (Below.refl _ _).alloc (Nat.le_refl _) _
  refine ⟨(LstV.single hA hB).later h2, ⟨rfl, .inr ⟨w.heap.size + 1, 1, #[.slice A r.length c], rfl, by omega, ?_, Nat.le_refl _, by unfold maxLen; omega, by simp, by simp⟩⟩, ⟨rfl, fun i hi => ?_⟩, fun g hg e => ?_⟩
  · have h := heap_alloc_new (w.alloc (.cells #[.slice A r.length c] ts)) (.cells #[.slice A r.length c] ts)
    simpa using h
  · simp at hi
    subst hi
    exact ⟨A, c, rfl, ((hA.later h1).later h2).mono (Nat.le_refl _) (by simp; omega)⟩
  · simp [Value.ownBlock] at hg e
    omega
theorem addr_add (g o j : Nat) : (⟨g, o, none⟩ : Addr).add j = ⟨g, o + j, none⟩ := by simp [Addr.add]
theorem own_low {ts : TypeId} {B B' n : Nat} {w : World} {v : Value} {xs : List Value} (h : w.ownsRow B ts 1 v n xs) (hB : B' ≤ B) : w.ownsRow B' ts 1 v n xs := by
  refine ⟨h.1, ?_⟩
  rcases h.2 with h3 | ⟨g, cap, cur, hv, hg, rest⟩
  · exact .inl h3
  · exact .inr ⟨g, cap, cur, hv, Nat.le_trans hB hg, rest⟩
theorem own_look {ts : TypeId} {B n : Nat} {w : World} {v : Value} {xs : List Value} (h : w.ownsRow B ts 1 v n xs) (h0 : 0 < n) : ∃ g c, v = .slice (some ⟨g, 0, none⟩) n c ∧ g < w.heap.size ∧ ∀ i u, xs[i]? = some u → w.cell? ⟨g, i, none⟩ = some u := by
  rcases h.2 with ⟨_, h2⟩ | ⟨g, cap, cur, hv, hg, hh, h1, h2, h3, h4⟩
  · omega
  · refine ⟨g, cap, hv, (Array.getElem?_eq_some_iff.1 hh).1, fun i u hu => ?_⟩
    rw [cell_of_row w g i cur ts (0, 0) hh]
    rw [← h4, List.getElem?_take] at hu
    by_cases e : i < n * 1
    · rw [if_pos e] at hu; simpa using hu
    · rw [if_neg e] at hu; cases hu
theorem own_self {ts : TypeId} {B n : Nat} {w : World} {v : Value} {xs : List Value} (h : w.ownsRow B ts 1 v n xs) : w.ownsRow B ts 1 v xs.length xs := by
  have e : xs.length = n := by have := h.1; omega
  rw [e]; exact h
theorem RowsV.one {t : TypeId} {B : Nat} {w : World} {rows : List (List Int)} {vals : List Value} (h : RowsV t B w rows vals) : ∀ u ∈ vals, u.oneCell' = true := by
  intro u hu
  obtain ⟨i, hi, e⟩ := List.getElem_of_mem hu
  obtain ⟨A, c, h1, _⟩ := h.2 i (by rw [← h.1]; exact hi)
  rw [List.getElem?_eq_getElem hi, e] at h1
  injection h1 with h1
  rw [h1]; rfl
/-- How the search stands, or that it has found too many. -/
def Wlk (n : Nat) (gs : List (List Int)) (M : Nat) (q : List (List Int)) (j k : Nat) : Prop := Srch n gs q j k ∨ (M < q.length ∧ q.Nodup ∧ ∀ y, y ∈ q → Gen n gs y)
theorem Wlk.nd {n M j k : Nat} {gs q : List (List Int)} (h : Wlk n gs M q j k) : q.Nodup := by
  rcases h with h | h
  · exact h.nd
  · exact h.2.1
theorem Wlk.gen {n M j k : Nat} {gs q : List (List Int)} (h : Wlk n gs M q j k) : ∀ y, y ∈ q → Gen n gs y := by
  rcases h with h | h
  · exact h.gen
  · exact h.2.2
theorem Wlk.srch {n M j k : Nat} {gs q : List (List Int)} (h : Wlk n gs M q j k) (hM : q.length ≤ M) : Srch n gs q j k := by
  rcases h with h | h
  · exact h
  · have := h.1; omega
theorem Wlk.over {n M j k : Nat} {gs q : List (List Int)} (h : Wlk n gs M q j k) (hM : M < q.length) (j' k' : Nat) : Wlk n gs M q j' k' := .inr ⟨hM, h.nd, h.gen⟩
theorem Wlk.many {n M j k : Nat} {gs q : List (List Int)} (h : Wlk n gs M q j k) (hM : M < q.length) : ¬ AtMost n gs M := by
  rintro ⟨L, hL, hl⟩
  have := nodup_sub h.nd (fun a ha => (hL.2 a).2 (h.gen a ha))
  omega
end Go.Proofs.Ytiaebilcgmahlaa
namespace Go.Proofs.Ytiaebilcgmahlaa
open Go Go.RowKit
set_option maxHeartbeats 1000000
theorem isS_any (A : Option Addr) (n c : Nat) (f : List (List Int)) (B : Option Addr) (m d : Nat) (s : List (List Int)) (r : Bool) (w : World) (hz : ZArg 1048576 w A n f B m s) (hr : IsRes f s r) :
    Calls Try.prog 51 #[.agg #[.slice A n c, .slice B m d]] w fun e w' => e = .returned (.bool r) ∧ Below w.heap.size w w' := by
  have HZ := hide hz
  have HB0 := hide ((Below.refl _ w).alloc (Nat.le_refl _) (Obj.cells #[Value.slice A n c, Value.slice B m d] 29))
  have HK0 := hide (Blk.new w 29 [.slice A n c, .slice B m d])
  have hcs := hr.cases hz.sz.fl
  clear hr hz
  rcases hcs with ⟨hp, rfl⟩ | ⟨hp, T, hT, hq⟩
  · have HP := hide hp
    clear hp
    go_enter Try.func51, Try.ntmps51
    go_wp2_with fail
    refine (mapS_any _ _ _ f _ _ _ s false _ (HZ.out.later HB0.out) (by simp [HP.out])).mono ?_
    rintro e w1 ⟨rfl, hb1⟩
    have HB1 := hide (HB0.out.trans (hb1.mono HB0.out.size))
    have HK1 := hide (HK0.out.later hb1)
    have k0 := HK1.out.cell 0 _ rfl
    have k1 := HK1.out.cell 1 _ rfl
    clear hb1
    go_wp2_with fail
    go_ret
    exact ⟨rfl, HB1.out⟩
  · have HP := hide hp
    have HT := hide hT
    clear hp hT
    have hq2 : (Hid (∃ a b, FstCol f s n a b) ∧ r = false) ∨ (Hid (NoCol f s n) ∧ ((T < n * n * n ∧ r = false) ∨ (T = n * n * n ∧ r = true))) := by
      rcases hq with ⟨h1, ⟨h2, h⟩ | ⟨h2, h⟩⟩ | ⟨h1, ⟨h2, h⟩ | ⟨h2, h⟩⟩
      · exact .inr ⟨hide h2, .inl ⟨h1, h⟩⟩
      · exact .inl ⟨hide h2, h⟩
      · exact .inl ⟨hide h2, h⟩
      · exact .inr ⟨hide h2, .inr ⟨h1, h⟩⟩
    clear hq
    rcases hq2 with ⟨HC, rfl⟩ | ⟨HC, ⟨hlt, rfl⟩ | ⟨hte, rfl⟩⟩
    · go_enter Try.func51, Try.ntmps51
      go_wp2_with fail
      refine (mapS_any _ _ _ f _ _ _ s true _ (HZ.out.later HB0.out) (by simp [HP.out])).mono ?_
      rintro e w1 ⟨rfl, hb1⟩
      have HB1 := hide (HB0.out.trans (hb1.mono HB0.out.size))
      have HK1 := hide (HK0.out.later hb1)
      have k0 := HK1.out.cell 0 _ rfl
      have k1 := HK1.out.cell 1 _ rfl
      clear hb1
      go_wp2_with fail
      refine (collS_any _ _ _ f _ _ _ s _ (HZ.out.later HB1.out) HP.out).mono ?_
      rintro e w2 ⟨g, q, ys, rfl, hb2, _, _, hres⟩
      have HB2 := hide (HB1.out.trans (hb2.mono HB1.out.size))
      have HK2 := hide (HK1.out.later hb2)
      have hq9 : q = 4 := by obtain ⟨a, b, hf⟩ := HC.out; rcases hres with ⟨hno, _⟩ | ⟨a', b', _, _, h⟩; exact absurd hno hf.not; exact h
      subst hq9
      clear hb2 hres k0 k1
      have k0 := HK2.out.cell 0 _ rfl
      have k1 := HK2.out.cell 1 _ rfl
      go_wp2_with fail
      go_ret
      exact ⟨rfl, HB2.out⟩
    · go_enter Try.func51, Try.ntmps51
      go_wp2_with fail
      refine (mapS_any _ _ _ f _ _ _ s true _ (HZ.out.later HB0.out) (by simp [HP.out])).mono ?_
      rintro e w1 ⟨rfl, hb1⟩
      have HB1 := hide (HB0.out.trans (hb1.mono HB0.out.size))
      have HK1 := hide (HK0.out.later hb1)
      have k0 := HK1.out.cell 0 _ rfl
      have k1 := HK1.out.cell 1 _ rfl
      clear hb1
      go_wp2_with fail
      refine (collS_any _ _ _ f _ _ _ s _ (HZ.out.later HB1.out) HP.out).mono ?_
      rintro e w2 ⟨g, q, ys, rfl, hb2, _, _, hres⟩
      have HB2 := hide (HB1.out.trans (hb2.mono HB1.out.size))
      have HK2 := hide (HK1.out.later hb2)
      have hq9 : q = 0 := by rcases hres with ⟨_, _, h⟩ | ⟨a', b', hf2, _⟩; exact h; exact absurd HC.out hf2.not
      subst hq9
      clear hb2 hres k0 k1
      have k0 := HK2.out.cell 0 _ rfl
      have k1 := HK2.out.cell 1 _ rfl
      go_wp2_with fail
      refine (faultS_any _ _ _ f _ _ _ s T _ (HZ.out.later HB2.out) HP.out HT.out).mono ?_
      rintro e w3 ⟨g3, q3, ys3, rfl, hb3, _, _, hres⟩
      have HB3 := hide (HB2.out.trans (hb3.mono HB2.out.size))
      have hq9 : q3 = 3 := by rcases hres with ⟨h1, _, h2⟩ | ⟨h1, _, h2⟩ <;> omega
      subst hq9
      clear hb3 hres k0 k1
      go_wp2_with fail
      go_ret
      exact ⟨rfl, HB3.out⟩
    · go_enter Try.func51, Try.ntmps51
      go_wp2_with fail
      refine (mapS_any _ _ _ f _ _ _ s true _ (HZ.out.later HB0.out) (by simp [HP.out])).mono ?_
      rintro e w1 ⟨rfl, hb1⟩
      have HB1 := hide (HB0.out.trans (hb1.mono HB0.out.size))
      have HK1 := hide (HK0.out.later hb1)
      have k0 := HK1.out.cell 0 _ rfl
      have k1 := HK1.out.cell 1 _ rfl
      clear hb1
      go_wp2_with fail
      refine (collS_any _ _ _ f _ _ _ s _ (HZ.out.later HB1.out) HP.out).mono ?_
      rintro e w2 ⟨g, q, ys, rfl, hb2, _, _, hres⟩
      have HB2 := hide (HB1.out.trans (hb2.mono HB1.out.size))
      have HK2 := hide (HK1.out.later hb2)
      have hq9 : q = 0 := by rcases hres with ⟨_, _, h⟩ | ⟨a', b', hf2, _⟩; exact h; exact absurd HC.out hf2.not
      subst hq9
      clear hb2 hres k0 k1
      have k0 := HK2.out.cell 0 _ rfl
      have k1 := HK2.out.cell 1 _ rfl
      go_wp2_with fail
      refine (faultS_any _ _ _ f _ _ _ s T _ (HZ.out.later HB2.out) HP.out HT.out).mono ?_
      rintro e w3 ⟨g3, q3, ys3, rfl, hb3, _, _, hres⟩
      have HB3 := hide (HB2.out.trans (hb3.mono HB2.out.size))
      have hq9 : q3 = 0 := by rcases hres with ⟨h1, _, h2⟩ | ⟨h1, _, h2⟩ <;> omega
      subst hq9
      clear hb3 hres k0 k1
      go_wp2_with fail
      go_ret
      exact ⟨rfl, HB3.out⟩
end Go.Proofs.Ytiaebilcgmahlaa
namespace Go.Proofs.Ytiaebilcgmahlaa
open Go Go.RowKit
/-- The number at a place of a list. -/
def elN (xs : List Int) (i : Nat) : Nat := (xs.getD i 0).toNat
/-- A tuple of elements of a set of n. -/
def Tup (n : Nat) (xs : List Int) : Prop := xs.length ≤ 12 ∧ ∀ j, j < xs.length → 0 ≤ xs.getD j 0 ∧ xs.getD j 0 < (n : Int)
theorem Tup.el {n : Nat} {xs : List Int} (h : Tup n xs) {j : Nat} (hj : j < xs.length) : xs.getD j 0 = (elN xs j : Int) ∧ elN xs j < n := by
  have := h.2 j hj
  unfold elN
  omega
/-- What forbids the guitar map. -/
def GuC (f s : List (List Int)) (xs : List Int) (code : Int) : Prop :=
  (SolF f s ∧ Tup f.length xs ∧ NonF f s ∧ code = 0) ∨ (SolF f s ∧ Tup f.length xs ∧ ¬ NonF f s ∧ code = 5) ∨ (SolF f s ∧ ¬ Tup f.length xs ∧ code = 2) ∨ (¬ SolF f s ∧ code = 1)
theorem GuC.ex (f s : List (List Int)) (xs : List Int) : ∃ code, GuC f s xs code := by
  by_cases h : SolF f s
  · by_cases h2 : Tup f.length xs
    · by_cases h3 : NonF f s
      · exact ⟨_, .inl ⟨h, h2, h3, rfl⟩⟩
      · exact ⟨_, .inr (.inl ⟨h, h2, h3, rfl⟩)⟩
    · exact ⟨_, .inr (.inr (.inl ⟨h, h2, rfl⟩))⟩
  · exact ⟨_, .inr (.inr (.inr ⟨h, rfl⟩))⟩
/-- What a function answers that the guitar map's faults forbid; L: the list where none is. -/
def GuL (L : List (List Int) → List Int → List Int) (f s : List (List Int)) (xs zs : List Int) (code : Int) : Prop :=
  GuC f s xs code ∧ ((code = 0 ∧ zs = L f xs) ∨ (code ≠ 0 ∧ zs = []))
/-- An element behind the undoing of the first j of bs. -/
def gbIn (f : List (List Int)) (bs : List Int) (x : Nat) : Nat → Nat
  | 0 => x
  | j + 1 => sol f (elN bs j) (gbIn f bs x j)
/-- The first k elements that the guitar map leads to xs. -/
def gbL (f : List (List Int)) (xs : List Int) : Nat → List Int
  | 0 => []
  | k + 1 => gbL f xs k ++ [((gbIn f (gbL f xs k) (elN xs k) k : Nat) : Int)]
theorem gbL_length (f : List (List Int)) (xs : List Int) (k : Nat) : (gbL f xs k).length = k := by
  induction k with
  | zero => rfl
  | succ k ih => simp [gbL, ih]
def gbA (f : List (List Int)) (xs : List Int) : List Int := gbL f xs xs.length
/-- An element behind the first t lambda, from that before it on. -/
def gmIn (f : List (List Int)) (xs : List Int) (i x : Nat) : Nat → Nat
  | 0 => x
  | t + 1 => ap f (elN xs (i - 1 - t)) (gmIn f xs i x t)
def gmL (f : List (List Int)) (xs : List Int) (k : Nat) : List Int := (List.range k).map fun i => ((gmIn f xs i (elN xs i) i : Nat) : Int)
theorem gmL_length (f : List (List Int)) (xs : List Int) (k : Nat) : (gmL f xs k).length = k := by simp [gmL]
theorem gmL_succ (f : List (List Int)) (xs : List Int) (k : Nat) : gmL f xs (k + 1) = gmL f xs k ++ [((gmIn f xs k (elN xs k) k : Nat) : Int)] := by simp [gmL, List.range_succ]
def gmA (f : List (List Int)) (xs : List Int) : List Int := gmL f xs xs.length
theorem gmA_length (f : List (List Int)) (xs : List Int) : (gmA f xs).length = xs.length := gmL_length _ _ _
theorem gbL_ok {f : List (List Int)} (ht : Tbl f) (hp : AllPrm f) {n : Nat} (hn : f.length = n) {xs : List Int} (hx : Tup n xs) : ∀ k, k ≤ xs.length → ∀ j, j < k → (gbL f xs k).getD j 0 = ((elN (gbL f xs k) j : Nat) : Int) ∧ elN (gbL f xs k) j < n := by
  intro k
  induction k with
  | zero => intro _ j hj; omega
  | succ k ih =>
    intro hk j hj
    have hin : ∀ t, t ≤ k → gbIn f (gbL f xs k) (elN xs k) t < n := by
      intro t
      induction t with
      | zero => intro _; exact (hx.el (by omega)).2
      | succ t iht => intro ht'; exact sol_lt ht hp hn (ih (by omega) t (by omega)).2 (iht (by omega))
    by_cases e : j = k
    · subst e
      have h1 : (gbL f xs (j + 1)).getD j 0 = ((gbIn f (gbL f xs j) (elN xs j) j : Nat) : Int) := by
        simp [gbL, gbL_length]
      have h2 : elN (gbL f xs (j + 1)) j = gbIn f (gbL f xs j) (elN xs j) j := by unfold elN; rw [h1]; simp [elN]
      rw [h1, h2]
      exact ⟨rfl, hin j (Nat.le_refl _)⟩
    · have h1 : (gbL f xs (k + 1)).getD j 0 = (gbL f xs k).getD j 0 := by
        have hl : j < (gbL f xs k).length := by rw [gbL_length]; omega
        simp only [gbL, List.getD_eq_getElem?_getD]
        rw [List.getElem?_append_left hl]
      have h2 : elN (gbL f xs (k + 1)) j = elN (gbL f xs k) j := by unfold elN; rw [h1]
      rw [h1, h2]
      exact ih (by omega) j (by omega)
theorem gbIn_lt {f : List (List Int)} (ht : Tbl f) (hp : AllPrm f) {n : Nat} (hn : f.length = n) {xs : List Int} (hx : Tup n xs) {k : Nat} (hk : k < xs.length) : ∀ t, t ≤ k → gbIn f (gbL f xs k) (elN xs k) t < n := by
  intro t
  induction t with
  | zero => intro _; exact (hx.el hk).2
  | succ t iht => intro ht'; exact sol_lt ht hp hn (gbL_ok ht hp hn hx k (by omega) t (by omega)).2 (iht (by omega))
theorem gmIn_lt {f : List (List Int)} (ht : Tbl f) {n : Nat} (hn : f.length = n) {xs : List Int} (hx : Tup n xs) {i : Nat} (hi : i < xs.length) : ∀ t, t ≤ i → gmIn f xs i (elN xs i) t < n := by
  intro t
  induction t with
  | zero => intro _; exact (hx.el hi).2
  | succ t iht => intro ht'; exact ht.ap_lt hn (hx.el (by omega)).2 (iht (by omega))
theorem GuL.ex (L : List (List Int) → List Int → List Int) (hL : ∀ f xs, (L f xs).length = xs.length) (f s : List (List Int)) (xs : List Int) : ∃ zs code, GuL L f s xs zs code ∧ zs.length ≤ 1048576 := by
  obtain ⟨code, h⟩ := GuC.ex f s xs
  by_cases hc : code = 0
  · refine ⟨_, _, ⟨h, .inl ⟨hc, rfl⟩⟩, ?_⟩
    rw [hL]
    rcases h with ⟨_, h, _⟩ | ⟨_, _, _, h⟩ | ⟨_, _, h⟩ | ⟨_, h⟩
    · have := h.1; omega
    · omega
    · omega
    · omega
  · exact ⟨_, _, ⟨h, .inr ⟨hc, rfl⟩⟩, by simp⟩
def GbRes := GuL gbA
def GmRes := GuL gmA
theorem GbRes.ex (f s : List (List Int)) (xs : List Int) : ∃ zs code, GbRes f s xs zs code ∧ zs.length ≤ 1048576 := GuL.ex gbA (fun f xs => gbL_length f xs _) f s xs
theorem GmRes.ex (f s : List (List Int)) (xs : List Int) : ∃ zs code, GmRes f s xs zs code ∧ zs.length ≤ 1048576 := GuL.ex gmA gmA_length f s xs
end Go.Proofs.Ytiaebilcgmahlaa
namespace Go.Proofs.Ytiaebilcgmahlaa
open Go Go.RowKit
set_option maxHeartbeats 2000000
theorem ivsInfo2 : (Try.prog.info? 25).map (fun i => (i.zero, i.size, i.bytes)) = some (some (.slice none 0 0), 1, 24) := by kernel_rfl

end Go.Proofs.Ytiaebilcgmahlaa
namespace Go.Proofs.Ytiaebilcgmahlaa
open Go Go.RowKit
/-! A list of rows that is shifted up in place. -/
/-- Of the older blocks only that of o is changed. -/
structure Chg (o : Nat) (w w' : World) : Prop where
  size : w.heap.size ≤ w'.heap.size
  block : ∀ k, k < w.heap.size → k ≠ o → w'.heap[k]? = w.heap[k]?
theorem Chg.refl (o : Nat) (w : World) : Chg o w w := ⟨Nat.le_refl _, fun _ _ _ => rfl⟩
theorem Chg.of_below {o : Nat} {w w' : World} (h : Below w.heap.size w w') : Chg o w w' := ⟨h.size, fun k hk _ => h.block k hk⟩
theorem Chg.trans {o : Nat} {a b c : World} (h : Chg o a b) (h2 : Chg o b c) : Chg o a c := ⟨Nat.le_trans h.size h2.size, fun k hk hne => (h2.block k (Nat.lt_of_lt_of_le hk h.size) hne).trans (h.block k hk hne)⟩
theorem Chg.store {o g i : Nat} {w w' : World} (h : Chg o w w') (hg : g = o ∨ w.heap.size ≤ g) (u : Value) : Chg o w (w'.setCell ⟨g, i, none⟩ u) :=
  ⟨by simpa [World.setCell] using h.size, fun k hk hne => (Below.heap_setCell w' ⟨g, i, none⟩ u k (by show k ≠ g; rcases hg with e | e <;> omega)).trans (h.block k hk hne)⟩
theorem Chg.grown {o : Nat} {w w1 w2 : World} {b : Option Nat} (h : Chg o w w1) (hg : w1.grownBy w2 b) (hb : b = some o ∨ b = none ∨ ∃ g, b = some g ∧ w.heap.size ≤ g) : Chg o w w2 :=
  ⟨Nat.le_trans h.size hg.size, fun k hk hne => (hg.block k (Nat.lt_of_lt_of_le hk h.size) (fun e => by
    rcases hb with e2 | e2 | ⟨g, e2, h2⟩
    · rw [e2] at e; injection e with e; exact hne e
    · rw [e2] at e; cases e
    · rw [e2] at e; injection e with e; omega)).trans (h.block k hk hne)⟩
theorem Chg.keepT {ts t : TypeId} {B o n : Nat} {w w' : World} {v : Value} {xs : List Value} (hne : ts ≠ t) (h : Chg o w w') (hv : v.ownBlock = some o) (hown : w.ownsRow B ts 1 v n xs) : KeepT t w w' := by
  intro k cur e
  refine (h.block k (Array.getElem?_eq_some_iff.1 e).1 (fun e2 => ?_)).trans e
  rcases hown.2 with ⟨h1, _⟩ | ⟨g, cap, cur2, h1, _, hh, _⟩
  · rw [h1] at hv; simp [Value.ownBlock] at hv
  · rw [h1] at hv
    simp [Value.ownBlock] at hv
    subst hv
    subst e2
    rw [hh] at e
    injection e with e
    injection e with _ e
    exact hne e
/-- A place of the row is written. -/
theorem own_set {ts : TypeId} {B n g cap i : Nat} {w : World} {xs : List Value} (h : w.ownsRow B ts 1 (.slice (some ⟨g, 0, none⟩) n cap) n xs) (u : Value) : (w.setCell ⟨g, i, none⟩ u).ownsRow B ts 1 (.slice (some ⟨g, 0, none⟩) n cap) n (xs.set i u) := by
  refine ⟨by simpa using h.1, ?_⟩
  rcases h.2 with ⟨h1, _⟩ | ⟨g', cap', cur, hv, hb, hh, h1, h2, h3, h4⟩
  · cases h1
  · injection hv with hv _ hc
    injection hv with hv
    injection hv with hv
    subst hv
    subst hc
    refine .inr ⟨g, cap, cur.set! i u, rfl, hb, ?_, h1, h2, by simpa using h3, ?_⟩
    · simp [World.setCell, Array.getElem?_modify, hh]
    · rw [← h4]
      simp [List.take_set]
theorem own_frozen {ts : TypeId} {B n g cap : Nat} {w : World} {xs : List Value} (h : w.ownsRow B ts 1 (.slice (some ⟨g, 0, none⟩) n cap) n xs) (i : Nat) : w.frozen? ⟨g, i, none⟩ = false := by
  rcases h.2 with ⟨h1, _⟩ | ⟨g', cap', cur, hv, hb, hh, _⟩
  · cases h1
  · injection hv with hv _ hc
    injection hv with hv
    injection hv with hv
    subst hv
    simp [World.frozen?, hh]
theorem own_cell {ts : TypeId} {B n g cap : Nat} {w : World} {xs : List Value} (h : w.ownsRow B ts 1 (.slice (some ⟨g, 0, none⟩) n cap) n xs) (i : Nat) (hi : i < n) : ∃ u, xs[i]? = some u ∧ w.cell? ⟨g, i, none⟩ = some u := by
  have hl : xs.length = n := by have := h.1; omega
  obtain ⟨g', c', hv, _, hc⟩ := own_look h (by omega)
  injection hv with hv _ _
  injection hv with hv
  injection hv with hv
  subst hv
  exact ⟨xs[i], List.getElem?_eq_getElem (by omega), hc i _ (List.getElem?_eq_getElem (by omega))⟩
/-- The places behind k hold what stood one place before. -/
structure Shf (vals : List Value) (m k : Nat) (xs : List Value) : Prop where
  len : xs.length = m + 1
  lo : ∀ i, i < k → xs[i]? = vals[i]?
  hi : ∀ i, k < i → i ≤ m → xs[i]? = vals[i - 1]?
theorem Shf.start {vals : List Value} {m : Nat} (h : vals.length = m) (u : Value) : Shf vals m m (vals ++ [u]) :=
  ⟨by simp [h], fun i hi => by rw [List.getElem?_append_left (by omega)], fun i h1 h2 => by omega⟩
theorem Shf.step {vals xs : List Value} {m k : Nat} (h : Shf vals m (k + 1) xs) (hk : k + 1 ≤ m) {u : Value} (hu : vals[k]? = some u) : Shf vals m k (xs.set (k + 1) u) :=
  ⟨by simpa using h.len, fun i hi => by rw [List.getElem?_set_ne (by omega)]; exact h.lo i (by omega), fun i h1 h2 => by
    by_cases e : i = k + 1
    · subst e
      rw [List.getElem?_set_self (by have := h.len; omega), show k + 1 - 1 = k by omega, hu]
    · rw [List.getElem?_set_ne (by omega)]; exact h.hi i (by omega) h2⟩
theorem Shf.fin {vals xs : List Value} {m k : Nat} (h : Shf vals m k xs) (hv : vals.length = m) (hk : k ≤ m) (u : Value) : xs.set k u = vals.take k ++ u :: vals.drop k := by
  apply List.ext_getElem?
  intro i
  rw [ins_at vals k u (by omega) i]
  by_cases h1 : i < k
  · rw [if_pos h1, List.getElem?_set_ne (by omega)]; exact h.lo i h1
  · rw [if_neg h1]
    by_cases e : i = k
    · subst e
      rw [if_pos rfl, List.getElem?_set_self (by have := h.len; omega)]
    · rw [if_neg e, List.getElem?_set_ne (by omega)]
      by_cases h2 : i ≤ m
      · exact h.hi i (by omega) h2
      · rw [List.getElem?_eq_none (by have := h.len; omega), List.getElem?_eq_none (by omega)]
end Go.Proofs.Ytiaebilcgmahlaa
namespace Go.Proofs.Ytiaebilcgmahlaa
open Go Go.RowKit
set_option maxHeartbeats 2000000

set_option maxRecDepth 100000 in
theorem isTup_any (n : Nat) (A : Option Addr) (m c : Nat) (xs : List Int) (r : Bool) (w : World) (hm : xs.length = m) (hb : m ≤ 1048576) (hr : Rd w A xs) (hrr : r = true ↔ Tup n xs) :
    Calls Try.prog 57 #[.int .i64 n, .slice A m c] w fun e w' => e = .returned (.bool r) ∧ Quiet w w' := by
  have HM := hide hm
  have HR := hide hr
  have HRR := hide hrr
  clear hr hrr
  by_cases h12 : m ≤ 12
  · have hrr : r = true ↔ ∀ j, j < m → 0 ≤ xs.getD j 0 ∧ xs.getD j 0 < (n : Int) := by
      rw [HRR.out]; unfold Tup; rw [HM.out]; exact ⟨fun h => h.2, fun h => ⟨h12, h⟩⟩
    have HE := hide hrr
    clear hrr hm
    go_enter Try.func57, Try.ntmps57
    go_wp2_with fail
    refine (els_any n _ m _ xs r _ HM.out (by omega) (by first | exact HR.out | exact HR.out.later (Below.refl _ _).drew) HE.out).mono ?_
    rintro e w2 ⟨rfl, hq⟩
    have HQ : Hid (Quiet w w2) := hide hq
    clear hq
    go_wp2_with fail
    go_ret
    exact ⟨rfl, HQ.out⟩
  · have hrf : r = false := by
      cases r
      · rfl
      · exact absurd (by have h := (HRR.out.1 rfl).1; omega) h12
    subst hrf
    have d1 : decide (m ≤ 12) = false := by simp; omega
    have d2 : decide ((m : Int) ≤ 12) = false := by simp; omega
    go_enter Try.func57, Try.ntmps57
    go_wp2_with fail
    go_ret
    exact ⟨rfl, Quiet.refl _⟩

end Go.Proofs.Ytiaebilcgmahlaa
