import Derived.Test.YtljdfanebjhhmaaZbw
import Derived.Test.YtljdfanebjhhmaaZi
namespace Go.Proofs.Ytljdfanebjhhmaa
open Go Go.RowKit
set_option maxHeartbeats 2000000

theorem L3.of_blk {w : World} {b : Nat} {t : TypeId} {x y z : Nat} (h : Blk w b t [.int .i64 x, .int .i64 y, .int .i64 z]) : L3 w b x y z := ⟨h.lt, h.cell 0 _ rfl, h.cell 1 _ rfl, h.cell 2 _ rfl⟩

theorem lst3_inj {a b : Nat × Nat × Nat} (h : lst3 a = lst3 b) : a = b := by
  obtain ⟨a1, a2, a3⟩ := a
  obtain ⟨b1, b2, b3⟩ := b
  simp [lst3] at h
  obtain ⟨h1, h2, h3⟩ := h
  have e1 : a1 = b1 := by omega
  have e2 : a2 = b2 := by omega
  have e3 : a3 = b3 := by omega
  rw [e1, e2, e3]

set_option maxRecDepth 100000 in
theorem faultS_any (A : Option Addr) (n c : Nat) (f : List (List Int)) (B : Option Addr) (m d : Nat) (s : List (List Int)) (T : Nat) (w : World) (hz : ZArg 1048576 w A n f B m s) (hp : PMap f s) (hT : First f s n T) :
    Calls Try.prog 97 #[.agg #[.slice A n c, .slice B m d]] w fun e w' => ∃ g k zs, e = .returned (.slice (some ⟨g, 0, none⟩) k k) ∧ Below w.heap.size w w' ∧ w.heap.size ≤ g ∧ OwnB 2 w' g zs ∧ ((T < n * n * n ∧ zs = lst3 (trip n T) ∧ k = 3) ∨ (T = n * n * n ∧ zs = [] ∧ k = 0)) := by
  have hnb := hz.sz.nb
  have HZ := hide hz
  have HP := hide hp
  have HT := hide hT
  have HFL := hide hz.sz.fl
  have h12 := hz.small hp
  obtain rfl := hz.same hp
  have HB0 := hide ((Below.refl _ w).alloc (Nat.le_refl _) (Obj.cells #[Value.slice A m c, Value.slice B m d] 46))
  have HK0 := hide (Blk.new w 46 [.slice A m c, .slice B m d])
  clear hp hz hT
  go_enter Try.func97, Try.ntmps97
  go_wp2_with fail
  go_loopw [4] (fun i wr => ∃ x : Nat, x ≤ m ∧ i = .int .i64 x ∧ Below w.heap.size w wr ∧ Blk wr w.heap.size 46 [.slice A m c, .slice B m d] ∧ ∀ i, i < x * m * m → Eq3 f s m i) (fun i _ => m - (intOf i).toNat)
  case atStart => exact ⟨0, Nat.zero_le _, rfl, HB0.out, HK0.out, fun i hi => absurd hi (by omega)⟩
  case round =>
    obtain ⟨x, hx, rfl, hbe, hkk, hall⟩ := hrel
    have HB := hide hbe
    have HK := hide hkk
    have HALL := hide hall
    clear hbe hkk hall
    have k0 := HK.out.cell 0 _ rfl
    have k1 := HK.out.cell 1 _ rfl
    by_cases hlt : x < m
    · have hxz : (x : Int) < m := by omega
      go_wp2_with fail
      clear k0 k1
      obtain ⟨wo, rfl⟩ : ∃ wo : World, wo = wr := ⟨_, rfl⟩
      go_loopw [5] (fun i wi => ∃ y : Nat, y ≤ m ∧ i = .int .i64 y ∧ Below w.heap.size w wi ∧ Blk wi w.heap.size 46 [.slice A m c, .slice B m d] ∧ ∀ i, i < (x * m + y) * m → Eq3 f s m i) (fun i _ => m - (intOf i).toNat)
      case atStart => exact ⟨0, Nat.zero_le _, rfl, HB.out, HK.out, HALL.out⟩
      case round =>
        obtain ⟨y, hy, rfl, hbi, hki, halli⟩ := hrel
        have HBI := hide hbi
        have HKI := hide hki
        have HALLI := hide halli
        clear hbi hki halli
        by_cases hlty : y < m
        · have hyz : (y : Int) < m := by omega
          go_wp2_with fail
          obtain ⟨wo2, rfl⟩ : ∃ wo : World, wo = wr := ⟨_, rfl⟩
          go_loopw [6] (fun i wi => ∃ z : Nat, z ≤ m ∧ i = .int .i64 z ∧ Below w.heap.size w wi ∧ Blk wi w.heap.size 46 [.slice A m c, .slice B m d] ∧ ∀ i, i < (x * m + y) * m + z → Eq3 f s m i) (fun i _ => m - (intOf i).toNat)
          case atStart => exact ⟨0, Nat.zero_le _, rfl, HBI.out, HKI.out, HALLI.out⟩
          case round =>
            obtain ⟨z, hzn, rfl, hbj, hkj, hallj⟩ := hrel
            have HBJ := hide hbj
            have HKJ := hide hkj
            have HALLJ := hide hallj
            clear hbj hkj hallj
            by_cases hltz : z < m
            · have hzz : (z : Int) < m := by omega
              go_wp2_with fail
              refine wp_gen fun W0 hW0 => ?_
              obtain ⟨Lb, hLb⟩ : ∃ Lb, wr.heap.size = Lb := ⟨_, rfl⟩
              have HBc : Hid (Below w.heap.size w W0) := hide (by rw [hW0]; exact HBJ.out.alloc HBJ.out.size _)
              have HKc : Hid (Blk W0 w.heap.size 46 [.slice A m c, .slice B m d]) := hide (by rw [hW0]; exact HKJ.out.alloc _)
              have HLc : Hid (Blk W0 Lb 2 [.int .i64 x, .int .i64 y, .int .i64 z]) := hide (by rw [hW0, ← hLb]; exact Blk.new _ _ _)
              have hlo : w.heap.size ≤ Lb := by rw [← hLb]; exact HBJ.out.size
              rw [hLb]
              clear hW0 hLb
              have I0 : Hid (In3 m (x, y, z)) := hide ⟨hlt, hlty, hltz⟩
              obtain ⟨⟨x1, y1, z1⟩, hE1⟩ : ∃ t, doAt f s 0 (x, y, z) = t := ⟨_, rfl⟩
              have E1 := hide hE1
              have I1 : Hid (In3 m (x1, y1, z1)) := hide (by rw [← hE1]; exact I0.out.do HP.out HFL.out 0)
              clear hE1
              obtain ⟨⟨x2, y2, z2⟩, hE2⟩ : ∃ t, doAt f s 1 (x1, y1, z1) = t := ⟨_, rfl⟩
              have E2 := hide hE2
              have I2 : Hid (In3 m (x2, y2, z2)) := hide (by rw [← hE2]; exact I1.out.do HP.out HFL.out 1)
              clear hE2
              obtain ⟨⟨x3, y3, z3⟩, hE3⟩ : ∃ t, doAt f s 0 (x2, y2, z2) = t := ⟨_, rfl⟩
              have E3 := hide hE3
              clear hE3
              obtain ⟨⟨s1, t1, r1⟩, hF1⟩ : ∃ t, doAt f s 1 (x, y, z) = t := ⟨_, rfl⟩
              have F1 := hide hF1
              have J1 : Hid (In3 m (s1, t1, r1)) := hide (by rw [← hF1]; exact I0.out.do HP.out HFL.out 1)
              clear hF1
              obtain ⟨⟨s2, t2, r2⟩, hF2⟩ : ∃ t, doAt f s 0 (s1, t1, r1) = t := ⟨_, rfl⟩
              have F2 := hide hF2
              have J2 : Hid (In3 m (s2, t2, r2)) := hide (by rw [← hF2]; exact J1.out.do HP.out HFL.out 0)
              clear hF2
              obtain ⟨⟨s3, t3, r3⟩, hF3⟩ : ∃ t, doAt f s 1 (s2, t2, r2) = t := ⟨_, rfl⟩
              have F3 := hide hF3
              clear hF3
              have hlef : lef f s (x, y, z) = (x3, y3, z3) := by unfold lef; rw [E1.out, E2.out, E3.out]
              have hrig : rig f s (x, y, z) = (s3, t3, r3) := by unfold rig; rw [F1.out, F2.out, F3.out]
              have htr : trip m ((x * m + y) * m + z) = (x, y, z) := trip_of hlty hltz
              have heq : Eq3 f s m ((x * m + y) * m + z) ↔ (x3, y3, z3) = (s3, t3, r3) := by unfold Eq3; rw [htr, hlef, hrig]
              have hklt : (x * m + y) * m + z < m * m * m := trip_lt hlt hlty hltz
              have HEQ := hide heq
              have HTR := hide htr
              have HKL := hide hklt
              clear hlef hrig htr heq hklt
              by_cases hcs : (x3, y3, z3) = (s3, t3, r3)
              · have HGOOD := hide (HEQ.out.2 hcs)
                have HCS := hide hcs
                clear hcs
                have tok0 : True := trivial
                have tok1 : True := trivial
                have tok2 : True := trivial
                have tok3 : True := trivial
                have tok4 : True := trivial
                have k0 := HKc.out.cell 0 _ rfl
                have k1 := HKc.out.cell 1 _ rfl
                go_region_held3 (fun w' => w'.cell? ⟨w.heap.size, 0, none⟩ = some (.slice A m c) ∧ w'.cell? ⟨w.heap.size, 1, none⟩ = some (.slice B m d)) (first | exact ⟨k0, k1⟩ | go_keep) (first | (go_at_call 116; have _t := tok0; clear _t tok0; go_must (refine calls_gen fun wc hwc => ?_; (first | have hbx := drew_below hwc | have hbx := eq_below hwc); replace HBc := hide (HBc.out.trans (hbx.mono HBc.out.size)); replace HKc := hide (HKc.out.later hbx); replace HLc := hide (HLc.out.later hbx); clear hwc hbx; refine (do0_any _ _ _ f _ _ _ s _ _ x y z x1 y1 z1 _ (HZ.out.later HBc.out) HP.out I0.out E1.out (L3.of_blk HLc.out)).mono ?_; rintro e wd ⟨gG1, cG1, rfl, hbd, hgG1, hlG1⟩; replace HBc := hide (HBc.out.trans (hbd.mono HBc.out.size)); replace HKc := hide (HKc.out.later hbd); replace HLc := hide (HLc.out.later hbd); clear hbd; have k0 := HKc.out.cell 0 _ rfl; have k1 := HKc.out.cell 1 _ rfl; have G1 := hide hlG1; clear hlG1 hgG1)) | (go_at_call 116; have _t := tok1; clear _t tok1; go_must (refine calls_gen fun wc hwc => ?_; (first | have hbx := drew_below hwc | have hbx := eq_below hwc); replace HBc := hide (HBc.out.trans (hbx.mono HBc.out.size)); replace HKc := hide (HKc.out.later hbx); replace HLc := hide (HLc.out.later hbx); replace G1 := hide (G1.out.later hbx); clear hwc hbx; refine (do1_any _ _ _ f _ _ _ s _ _ x1 y1 z1 x2 y2 z2 _ (HZ.out.later HBc.out) HP.out I1.out E2.out G1.out).mono ?_; rintro e wd ⟨gG2, cG2, rfl, hbd, hgG2, hlG2⟩; replace HBc := hide (HBc.out.trans (hbd.mono HBc.out.size)); replace HKc := hide (HKc.out.later hbd); replace HLc := hide (HLc.out.later hbd); replace G1 := hide (G1.out.later hbd); clear hbd; have k0 := HKc.out.cell 0 _ rfl; have k1 := HKc.out.cell 1 _ rfl; have G2 := hide hlG2; clear hlG2 hgG2)) | (go_at_call 116; have _t := tok2; clear _t tok2; go_must (refine calls_gen fun wc hwc => ?_; (first | have hbx := drew_below hwc | have hbx := eq_below hwc); replace HBc := hide (HBc.out.trans (hbx.mono HBc.out.size)); replace HKc := hide (HKc.out.later hbx); replace HLc := hide (HLc.out.later hbx); replace G1 := hide (G1.out.later hbx); replace G2 := hide (G2.out.later hbx); clear hwc hbx; refine (do0_any _ _ _ f _ _ _ s _ _ x2 y2 z2 x3 y3 z3 _ (HZ.out.later HBc.out) HP.out I2.out E3.out G2.out).mono ?_; rintro e wd ⟨gG3, cG3, rfl, hbd, hgG3, hlG3⟩; replace HBc := hide (HBc.out.trans (hbd.mono HBc.out.size)); replace HKc := hide (HKc.out.later hbd); replace HLc := hide (HLc.out.later hbd); replace G1 := hide (G1.out.later hbd); replace G2 := hide (G2.out.later hbd); clear hbd; have k0 := HKc.out.cell 0 _ rfl; have k1 := HKc.out.cell 1 _ rfl; have G3 := hide hlG3; clear hlG3 hgG3)) | (go_at_call 116; have _t := tok3; clear _t tok3; go_must (refine calls_gen fun wc hwc => ?_; (first | have hbx := drew_below hwc | have hbx := eq_below hwc); replace HBc := hide (HBc.out.trans (hbx.mono HBc.out.size)); replace HKc := hide (HKc.out.later hbx); replace HLc := hide (HLc.out.later hbx); replace G1 := hide (G1.out.later hbx); replace G2 := hide (G2.out.later hbx); replace G3 := hide (G3.out.later hbx); clear hwc hbx; refine (do1_any _ _ _ f _ _ _ s _ _ x y z s1 t1 r1 _ (HZ.out.later HBc.out) HP.out I0.out F1.out (L3.of_blk HLc.out)).mono ?_; rintro e wd ⟨gG4, cG4, rfl, hbd, hgG4, hlG4⟩; replace HBc := hide (HBc.out.trans (hbd.mono HBc.out.size)); replace HKc := hide (HKc.out.later hbd); replace HLc := hide (HLc.out.later hbd); replace G1 := hide (G1.out.later hbd); replace G2 := hide (G2.out.later hbd); replace G3 := hide (G3.out.later hbd); clear hbd; have k0 := HKc.out.cell 0 _ rfl; have k1 := HKc.out.cell 1 _ rfl; have G4 := hide hlG4; clear hlG4 hgG4)) | (go_at_call 116; have _t := tok4; clear _t tok4; go_must (refine calls_gen fun wc hwc => ?_; (first | have hbx := drew_below hwc | have hbx := eq_below hwc); replace HBc := hide (HBc.out.trans (hbx.mono HBc.out.size)); replace HKc := hide (HKc.out.later hbx); replace HLc := hide (HLc.out.later hbx); replace G1 := hide (G1.out.later hbx); replace G2 := hide (G2.out.later hbx); replace G3 := hide (G3.out.later hbx); replace G4 := hide (G4.out.later hbx); clear hwc hbx; refine (do0_any _ _ _ f _ _ _ s _ _ s1 t1 r1 s2 t2 r2 _ (HZ.out.later HBc.out) HP.out J1.out F2.out G4.out).mono ?_; rintro e wd ⟨gG5, cG5, rfl, hbd, hgG5, hlG5⟩; replace HBc := hide (HBc.out.trans (hbd.mono HBc.out.size)); replace HKc := hide (HKc.out.later hbd); replace HLc := hide (HLc.out.later hbd); replace G1 := hide (G1.out.later hbd); replace G2 := hide (G2.out.later hbd); replace G3 := hide (G3.out.later hbd); replace G4 := hide (G4.out.later hbd); clear hbd; have k0 := HKc.out.cell 0 _ rfl; have k1 := HKc.out.cell 1 _ rfl; have G5 := hide hlG5; clear hlG5 hgG5)) | (go_at_call 116; go_must (refine calls_gen fun wc hwc => ?_; (first | have hbx := drew_below hwc | have hbx := eq_below hwc); replace HBc := hide (HBc.out.trans (hbx.mono HBc.out.size)); replace HKc := hide (HKc.out.later hbx); replace HLc := hide (HLc.out.later hbx); replace G1 := hide (G1.out.later hbx); replace G2 := hide (G2.out.later hbx); replace G3 := hide (G3.out.later hbx); replace G4 := hide (G4.out.later hbx); replace G5 := hide (G5.out.later hbx); clear hwc hbx; refine (do1_any _ _ _ f _ _ _ s _ _ s2 t2 r2 s3 t3 r3 _ (HZ.out.later HBc.out) HP.out J2.out F3.out G5.out).mono ?_; rintro e wd ⟨gG6, cG6, rfl, hbd, hgG6, hlG6⟩; replace HBc := hide (HBc.out.trans (hbd.mono HBc.out.size)); replace HKc := hide (HKc.out.later hbd); replace HLc := hide (HLc.out.later hbd); replace G1 := hide (G1.out.later hbd); replace G2 := hide (G2.out.later hbd); replace G3 := hide (G3.out.later hbd); replace G4 := hide (G4.out.later hbd); replace G5 := hide (G5.out.later hbd); clear hbd; have k0 := HKc.out.cell 0 _ rfl; have k1 := HKc.out.cell 1 _ rfl; have G6 := hide hlG6; clear hlG6 hgG6)) | (go_at_call 108; go_must (refine calls_gen fun wc hwc => ?_; (first | have hbx := drew_below hwc | have hbx := eq_below hwc); replace HBc := hide (HBc.out.trans (hbx.mono HBc.out.size)); replace HKc := hide (HKc.out.later hbx); replace HLc := hide (HLc.out.later hbx); replace G3 := hide (G3.out.later hbx); replace G6 := hide (G6.out.later hbx); clear hwc hbx; refine (same_any _ _ _ _ _ _ (lst3 (x3, y3, z3)) (lst3 (s3, t3, r3)) true _ (show (lst3 (x3, y3, z3)).length = 3 from rfl) (show (lst3 (s3, t3, r3)).length = 3 from rfl) (by omega) (by omega) G3.out.rd G6.out.rd (by rw [HCS.out]; simp)).mono ?_; rintro e wd ⟨rfl, hqd⟩; have hbd := hqd.below wc.heap.size; replace HBc := hide (HBc.out.trans (hbd.mono HBc.out.size)); replace HKc := hide (HKc.out.later hbd); replace HLc := hide (HLc.out.later hbd); clear hqd hbd; have k0 := HKc.out.cell 0 _ rfl; have k1 := HKc.out.cell 1 _ rfl)))
                clear k0 k1
                go_wp2_with fail
                go_roundw
                case rel => exact ⟨z + 1, by omega, by go_num, HBc.out, HKc.out, fun i hi => by
                  by_cases e : i = (x * m + y) * m + z
                  · rw [e]; exact HGOOD.out
                  · exact HALLJ.out i (by omega)⟩
                case measure => simp [intOf]; omega
              · have hbad : ¬ Eq3 f s m ((x * m + y) * m + z) := fun h => hcs (HEQ.out.1 h)
                have HTB := hide (HT.out.bad HALLJ.out HKL.out hbad)
                have HCS := hide hcs
                clear hcs hbad
                have tok0 : True := trivial
                have tok1 : True := trivial
                have tok2 : True := trivial
                have tok3 : True := trivial
                have tok4 : True := trivial
                have k0 := HKc.out.cell 0 _ rfl
                have k1 := HKc.out.cell 1 _ rfl
                go_region_held3 (fun w' => w'.cell? ⟨w.heap.size, 0, none⟩ = some (.slice A m c) ∧ w'.cell? ⟨w.heap.size, 1, none⟩ = some (.slice B m d)) (first | exact ⟨k0, k1⟩ | go_keep) (first | (go_at_call 116; have _t := tok0; clear _t tok0; go_must (refine calls_gen fun wc hwc => ?_; (first | have hbx := drew_below hwc | have hbx := eq_below hwc); replace HBc := hide (HBc.out.trans (hbx.mono HBc.out.size)); replace HKc := hide (HKc.out.later hbx); replace HLc := hide (HLc.out.later hbx); clear hwc hbx; refine (do0_any _ _ _ f _ _ _ s _ _ x y z x1 y1 z1 _ (HZ.out.later HBc.out) HP.out I0.out E1.out (L3.of_blk HLc.out)).mono ?_; rintro e wd ⟨gG1, cG1, rfl, hbd, hgG1, hlG1⟩; replace HBc := hide (HBc.out.trans (hbd.mono HBc.out.size)); replace HKc := hide (HKc.out.later hbd); replace HLc := hide (HLc.out.later hbd); clear hbd; have k0 := HKc.out.cell 0 _ rfl; have k1 := HKc.out.cell 1 _ rfl; have G1 := hide hlG1; clear hlG1 hgG1)) | (go_at_call 116; have _t := tok1; clear _t tok1; go_must (refine calls_gen fun wc hwc => ?_; (first | have hbx := drew_below hwc | have hbx := eq_below hwc); replace HBc := hide (HBc.out.trans (hbx.mono HBc.out.size)); replace HKc := hide (HKc.out.later hbx); replace HLc := hide (HLc.out.later hbx); replace G1 := hide (G1.out.later hbx); clear hwc hbx; refine (do1_any _ _ _ f _ _ _ s _ _ x1 y1 z1 x2 y2 z2 _ (HZ.out.later HBc.out) HP.out I1.out E2.out G1.out).mono ?_; rintro e wd ⟨gG2, cG2, rfl, hbd, hgG2, hlG2⟩; replace HBc := hide (HBc.out.trans (hbd.mono HBc.out.size)); replace HKc := hide (HKc.out.later hbd); replace HLc := hide (HLc.out.later hbd); replace G1 := hide (G1.out.later hbd); clear hbd; have k0 := HKc.out.cell 0 _ rfl; have k1 := HKc.out.cell 1 _ rfl; have G2 := hide hlG2; clear hlG2 hgG2)) | (go_at_call 116; have _t := tok2; clear _t tok2; go_must (refine calls_gen fun wc hwc => ?_; (first | have hbx := drew_below hwc | have hbx := eq_below hwc); replace HBc := hide (HBc.out.trans (hbx.mono HBc.out.size)); replace HKc := hide (HKc.out.later hbx); replace HLc := hide (HLc.out.later hbx); replace G1 := hide (G1.out.later hbx); replace G2 := hide (G2.out.later hbx); clear hwc hbx; refine (do0_any _ _ _ f _ _ _ s _ _ x2 y2 z2 x3 y3 z3 _ (HZ.out.later HBc.out) HP.out I2.out E3.out G2.out).mono ?_; rintro e wd ⟨gG3, cG3, rfl, hbd, hgG3, hlG3⟩; replace HBc := hide (HBc.out.trans (hbd.mono HBc.out.size)); replace HKc := hide (HKc.out.later hbd); replace HLc := hide (HLc.out.later hbd); replace G1 := hide (G1.out.later hbd); replace G2 := hide (G2.out.later hbd); clear hbd; have k0 := HKc.out.cell 0 _ rfl; have k1 := HKc.out.cell 1 _ rfl; have G3 := hide hlG3; clear hlG3 hgG3)) | (go_at_call 116; have _t := tok3; clear _t tok3; go_must (refine calls_gen fun wc hwc => ?_; (first | have hbx := drew_below hwc | have hbx := eq_below hwc); replace HBc := hide (HBc.out.trans (hbx.mono HBc.out.size)); replace HKc := hide (HKc.out.later hbx); replace HLc := hide (HLc.out.later hbx); replace G1 := hide (G1.out.later hbx); replace G2 := hide (G2.out.later hbx); replace G3 := hide (G3.out.later hbx); clear hwc hbx; refine (do1_any _ _ _ f _ _ _ s _ _ x y z s1 t1 r1 _ (HZ.out.later HBc.out) HP.out I0.out F1.out (L3.of_blk HLc.out)).mono ?_; rintro e wd ⟨gG4, cG4, rfl, hbd, hgG4, hlG4⟩; replace HBc := hide (HBc.out.trans (hbd.mono HBc.out.size)); replace HKc := hide (HKc.out.later hbd); replace HLc := hide (HLc.out.later hbd); replace G1 := hide (G1.out.later hbd); replace G2 := hide (G2.out.later hbd); replace G3 := hide (G3.out.later hbd); clear hbd; have k0 := HKc.out.cell 0 _ rfl; have k1 := HKc.out.cell 1 _ rfl; have G4 := hide hlG4; clear hlG4 hgG4)) | (go_at_call 116; have _t := tok4; clear _t tok4; go_must (refine calls_gen fun wc hwc => ?_; (first | have hbx := drew_below hwc | have hbx := eq_below hwc); replace HBc := hide (HBc.out.trans (hbx.mono HBc.out.size)); replace HKc := hide (HKc.out.later hbx); replace HLc := hide (HLc.out.later hbx); replace G1 := hide (G1.out.later hbx); replace G2 := hide (G2.out.later hbx); replace G3 := hide (G3.out.later hbx); replace G4 := hide (G4.out.later hbx); clear hwc hbx; refine (do0_any _ _ _ f _ _ _ s _ _ s1 t1 r1 s2 t2 r2 _ (HZ.out.later HBc.out) HP.out J1.out F2.out G4.out).mono ?_; rintro e wd ⟨gG5, cG5, rfl, hbd, hgG5, hlG5⟩; replace HBc := hide (HBc.out.trans (hbd.mono HBc.out.size)); replace HKc := hide (HKc.out.later hbd); replace HLc := hide (HLc.out.later hbd); replace G1 := hide (G1.out.later hbd); replace G2 := hide (G2.out.later hbd); replace G3 := hide (G3.out.later hbd); replace G4 := hide (G4.out.later hbd); clear hbd; have k0 := HKc.out.cell 0 _ rfl; have k1 := HKc.out.cell 1 _ rfl; have G5 := hide hlG5; clear hlG5 hgG5)) | (go_at_call 116; go_must (refine calls_gen fun wc hwc => ?_; (first | have hbx := drew_below hwc | have hbx := eq_below hwc); replace HBc := hide (HBc.out.trans (hbx.mono HBc.out.size)); replace HKc := hide (HKc.out.later hbx); replace HLc := hide (HLc.out.later hbx); replace G1 := hide (G1.out.later hbx); replace G2 := hide (G2.out.later hbx); replace G3 := hide (G3.out.later hbx); replace G4 := hide (G4.out.later hbx); replace G5 := hide (G5.out.later hbx); clear hwc hbx; refine (do1_any _ _ _ f _ _ _ s _ _ s2 t2 r2 s3 t3 r3 _ (HZ.out.later HBc.out) HP.out J2.out F3.out G5.out).mono ?_; rintro e wd ⟨gG6, cG6, rfl, hbd, hgG6, hlG6⟩; replace HBc := hide (HBc.out.trans (hbd.mono HBc.out.size)); replace HKc := hide (HKc.out.later hbd); replace HLc := hide (HLc.out.later hbd); replace G1 := hide (G1.out.later hbd); replace G2 := hide (G2.out.later hbd); replace G3 := hide (G3.out.later hbd); replace G4 := hide (G4.out.later hbd); replace G5 := hide (G5.out.later hbd); clear hbd; have k0 := HKc.out.cell 0 _ rfl; have k1 := HKc.out.cell 1 _ rfl; have G6 := hide hlG6; clear hlG6 hgG6)) | (go_at_call 108; go_must (refine calls_gen fun wc hwc => ?_; (first | have hbx := drew_below hwc | have hbx := eq_below hwc); replace HBc := hide (HBc.out.trans (hbx.mono HBc.out.size)); replace HKc := hide (HKc.out.later hbx); replace HLc := hide (HLc.out.later hbx); replace G3 := hide (G3.out.later hbx); replace G6 := hide (G6.out.later hbx); clear hwc hbx; refine (same_any _ _ _ _ _ _ (lst3 (x3, y3, z3)) (lst3 (s3, t3, r3)) false _ (show (lst3 (x3, y3, z3)).length = 3 from rfl) (show (lst3 (s3, t3, r3)).length = 3 from rfl) (by omega) (by omega) G3.out.rd G6.out.rd (by constructor <;> intro h; cases h; exact absurd h (fun h => HCS.out (lst3_inj h)))).mono ?_; rintro e wd ⟨rfl, hqd⟩; have hbd := hqd.below wc.heap.size; replace HBc := hide (HBc.out.trans (hbd.mono HBc.out.size)); replace HKc := hide (HKc.out.later hbd); replace HLc := hide (HLc.out.later hbd); clear hqd hbd; have k0 := HKc.out.cell 0 _ rfl; have k1 := HKc.out.cell 1 _ rfl)))
                clear k0 k1
                go_wp2_with fail
                go_ret
                exact ⟨Lb, 3, lst3 (x, y, z), rfl, HBc.out, hlo, ⟨_, HLc.out, fun i hi => by
                  simp [lst3] at hi
                  rcases i with _ | _ | _ | i
                  · rfl
                  · rfl
                  · rfl
                  · omega⟩, .inl ⟨by rw [HTB.out]; exact HKL.out, by rw [HTB.out, HTR.out], rfl⟩⟩
            · have hzn' : z = m := by omega
              subst hzn'
              go_wp2_with fail
              go_roundw
              case rel => exact ⟨y + 1, by omega, by go_num, HBJ.out, HKJ.out, fun i hi => HALLJ.out i (by rw [← Nat.add_assoc, Nat.add_mul _ 1, Nat.one_mul] at hi; exact hi)⟩
              case measure => simp [intOf]; omega
        · have hyn' : y = m := by omega
          subst hyn'
          go_wp2_with fail
          go_roundw
          case rel => exact ⟨x + 1, by omega, by go_num, HBI.out, HKI.out, fun i hi => HALLI.out i (by rw [Nat.add_mul x 1, Nat.one_mul] at hi; exact hi)⟩
          case measure => simp [intOf]; omega
    · have hxn : x = m := by omega
      subst hxn
      clear k0 k1
      go_wp2_with fail
      refine bp_gen fun wf hwf => ?_
      have HBF : Below w.heap.size w wf := by rw [hwf]; exact HB.out.alloc HB.out.size _
      have HOF : OwnB 2 wf wr.heap.size [] := by rw [hwf]; exact ⟨_, heap_alloc_new _ _, fun i hi => absurd hi (Nat.not_lt_zero _)⟩
      have hlo : w.heap.size ≤ wr.heap.size := HB.out.size
      clear hwf
      go_ret
      exact ⟨wr.heap.size, 0, _, rfl, HBF, hlo, HOF, .inr ⟨HT.out.all HALL.out, rfl, rfl⟩⟩
end Go.Proofs.Ytljdfanebjhhmaa
