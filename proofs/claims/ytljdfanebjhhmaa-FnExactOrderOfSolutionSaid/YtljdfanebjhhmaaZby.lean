import Derived.Test.YtljdfanebjhhmaaZl
import Derived.Test.YtljdfanebjhhmaaZbv
import Derived.Test.YtljdfanebjhhmaaZbt
import Derived.Test.YtljdfanebjhhmaaZbg
import Derived.Deep.DeepCutAuto
namespace Go.Proofs.Ytljdfanebjhhmaa
open Go Go.RowKit
set_option maxHeartbeats 2000000

theorem leadA0_any (A : Option Addr) (n c : Nat) (f : List (List Int)) (B : Option Addr) (m d : Nat) (s : List (List Int)) (x y z x' y' z' : Nat) (w : World) (hz : ZArg 1048576 w A n f B m s) (hp : PMap f s) (hi : In3 n (x, y, z)) (he : doAt f s 0 (x, y, z) = (x', y', z')) :
    Calls Try.prog 117 #[.agg #[.slice A n c, .slice B m d], .int .i64 0, .agg #[.int .i64 x, .int .i64 y, .int .i64 z]] w fun e w' => e = .returned (.agg #[.int .i64 x', .int .i64 y', .int .i64 z']) ∧ Below w.heap.size w w' := by
  have h := leadAt0_any A n c f B m d s x y z w hz hp hi.1 hi.2.1 hi.2.2
  have e : at0 f s (x, y, z) = (x', y', z') := he
  rw [e] at h
  exact h
theorem leadA1_any (A : Option Addr) (n c : Nat) (f : List (List Int)) (B : Option Addr) (m d : Nat) (s : List (List Int)) (x y z x' y' z' : Nat) (w : World) (hz : ZArg 1048576 w A n f B m s) (hp : PMap f s) (hi : In3 n (x, y, z)) (he : doAt f s 1 (x, y, z) = (x', y', z')) :
    Calls Try.prog 117 #[.agg #[.slice A n c, .slice B m d], .int .i64 1, .agg #[.int .i64 x, .int .i64 y, .int .i64 z]] w fun e w' => e = .returned (.agg #[.int .i64 x', .int .i64 y', .int .i64 z']) ∧ Below w.heap.size w w' := by
  have h := leadAt1_any A n c f B m d s x y z w hz hp hi.1 hi.2.1 hi.2.2
  have e : at1 f s (x, y, z) = (x', y', z') := he
  rw [e] at h
  exact h

set_option maxRecDepth 100000 in
theorem fault_any (A : Option Addr) (n c : Nat) (f : List (List Int)) (B : Option Addr) (m d : Nat) (s : List (List Int)) (T : Nat) (w : World) (hz : ZArg 1048576 w A n f B m s) (hp : PMap f s) (hT : First f s n T) :
    Calls Try.prog 98 #[.agg #[.slice A n c, .slice B m d]] w fun e w' => ∃ t ok, e = .returned (.tuple #[tv t, .bool ok]) ∧ Below w.heap.size w w' ∧ ((ok = true ∧ T < n * n * n ∧ t = trip n T) ∨ (ok = false ∧ T = n * n * n)) := by
  have hnb := hz.sz.nb
  have HZ := hide hz
  have HP := hide hp
  have HT := hide hT
  have HFL := hide hz.sz.fl
  have h12 := hz.small hp
  obtain ⟨N, hN⟩ : ∃ N, n * n = N := ⟨_, rfl⟩
  have hN144 : N ≤ 144 := by rw [← hN]; exact sq_le n h12.2
  have HN := hide hN
  clear hp hz hN hT
  go_enter Try.func98, Try.ntmps98
  go_wp2_with fail
  refine calls_gen fun w0 hw0 => ?_
  have HB0 : Hid (Below w.heap.size w w0) := hide (by rw [hw0]; exact ((Below.refl _ _).alloc (Nat.le_refl _) _).alloc (by simp) _)
  have HK0 : Hid (Blk w0 w.heap.size 46 [.slice A n c, .slice B m d]) := hide (by rw [hw0]; exact (Blk.new _ _ _).alloc _)
  have HO0 : Hid (Blk w0 (w.heap.size + 1) 99 [.int .i64 0, .int .i64 0, .int .i64 0]) := hide (by rw [hw0]; have h := Blk.new (w.alloc (Obj.cells #[Value.slice A n c, Value.slice B m d] 46)) 99 [.int .i64 0, .int .i64 0, .int .i64 0]; simpa using h)
  clear hw0
  refine (size_any _ _ _ _ _ _ _ hnb).mono ?_
  rintro e w2 ⟨rfl, hb2⟩
  have HB2 := hide (HB0.out.trans (hb2.mono HB0.out.size))
  have HK2 := hide (HK0.out.later hb2)
  have HO2 := hide (HO0.out.later hb2)
  clear hb2
  go_wp2_with fail
  refine (pairsOf_any n N _ h12.1 h12.2 HN.out).mono ?_
  rintro e w3 ⟨g, rfl, hb3, hg3, hpa⟩
  have HB3 := hide (HB2.out.trans (hb3.mono HB2.out.size))
  have HK3 := hide (HK2.out.later hb3)
  have HO3 := hide (HO2.out.later hb3)
  have HPA3 := hide hpa
  clear hb3 hpa
  go_wp2_with fail
  go_loopw [14] (fun i wr => ∃ k : Nat, k ≤ N ∧ i = .int .i64 k ∧ Below w.heap.size w wr ∧ Blk wr w.heap.size 46 [.slice A n c, .slice B m d] ∧ Blk wr (w.heap.size + 1) 99 [.int .i64 0, .int .i64 0, .int .i64 0] ∧ PairsAt wr g n ∧ ∀ i, i < k * n → Eq3 f s n i) (fun i _ => N - (intOf i).toNat)
  case atStart => exact ⟨0, Nat.zero_le _, rfl, HB3.out, HK3.out, HO3.out, HPA3.out, fun i hi => absurd hi (by omega)⟩
  case round =>
    obtain ⟨k, hk, rfl, hbe, hkk, hoo, hpa, hall⟩ := hrel
    have HB := hide hbe
    have HK := hide hkk
    have HO := hide hoo
    have HPA := hide hpa
    have HALL := hide hall
    clear hbe hkk hoo hpa hall
    have k0 := HK.out.cell 0 _ rfl
    have k1 := HK.out.cell 1 _ rfl
    have k2 := fun o => (HK.out.alloc o).cell 0 _ rfl
    have k3 := fun o => (HK.out.alloc o).cell 1 _ rfl
    by_cases hlt : k < N
    · have hkz : (k : Int) < N := by omega
      obtain ⟨p0, p1⟩ := HPA.out.2 k (by rw [HN.out]; exact hlt)
      have hxn : k / n < n := div_lt_sq (by rw [HN.out]; exact hlt)
      have hyn : k % n < n := mod_lt_sq (by rw [HN.out]; exact hlt)
      obtain ⟨x, hx⟩ : ∃ x, k / n = x := ⟨_, rfl⟩
      obtain ⟨y, hy⟩ : ∃ y, k % n = y := ⟨_, rfl⟩
      rw [hx] at p0 hxn
      rw [hy] at p1 hyn
      have HX := hide hx
      have HY := hide hy
      clear hx hy
      go_wp2_with fail
      refine calls_gen fun w4 hw4 => ?_
      obtain ⟨P, hPe⟩ : ∃ P, wr.heap.size = P := ⟨_, rfl⟩
      have HB4 : Hid (Below w.heap.size w w4) := hide (by rw [hw4]; exact HB.out.alloc HB.out.size _)
      have HK4 : Hid (Blk w4 w.heap.size 46 [.slice A n c, .slice B m d]) := hide (by rw [hw4]; exact HK.out.alloc _)
      have HO4 : Hid (Blk w4 (w.heap.size + 1) 99 [.int .i64 0, .int .i64 0, .int .i64 0]) := hide (by rw [hw4]; exact HO.out.alloc _)
      have HP4 : Hid (Blk w4 P 84 [.int .i64 x, .int .i64 y]) := hide (by rw [hw4, ← hPe]; exact Blk.new _ _ _)
      have HA4 : Hid (PairsAt w4 g n) := hide (by rw [hw4]; exact HPA.out.later ((Below.refl _ _).alloc (Nat.le_refl _) _))
      rw [hPe]
      clear hw4 k0 k1 k2 k3 p0 p1 hPe
      refine (size_any _ _ _ _ _ _ _ hnb).mono ?_
      rintro e w5 ⟨rfl, hb5⟩
      have HB5 := hide (HB4.out.trans (hb5.mono HB4.out.size))
      have HK5 := hide (HK4.out.later hb5)
      have HO5 := hide (HO4.out.later hb5)
      have HP5 := hide (HP4.out.later hb5)
      have HA5 := hide (HA4.out.later hb5)
      clear hb5
      go_wp2_with fail
      go_loopw [20] (fun i wi => ∃ z : Nat, z ≤ n ∧ i = .int .i64 z ∧ Below w.heap.size w wi ∧ Blk wi w.heap.size 46 [.slice A n c, .slice B m d] ∧ Blk wi (w.heap.size + 1) 99 [.int .i64 0, .int .i64 0, .int .i64 0] ∧ Blk wi P 84 [.int .i64 x, .int .i64 y] ∧ PairsAt wi g n ∧ ∀ i, i < k * n + z → Eq3 f s n i) (fun i _ => n - (intOf i).toNat)
      case atStart => exact ⟨0, Nat.zero_le _, rfl, HB5.out, HK5.out, HO5.out, HP5.out, HA5.out, HALL.out⟩
      case round =>
        obtain ⟨z, hzn, rfl, hbe, hkk, hoo, hpp, hpa, hall⟩ := hrel
        have HBc := hide hbe
        have HKc := hide hkk
        have HOc := hide hoo
        have HPc := hide hpp
        have HAc := hide hpa
        have HALLI := hide hall
        clear hbe hkk hoo hpp hpa hall
        by_cases hltz : z < n
        · have hzz : (z : Int) < n := by omega
          have p0 := HPc.out.cell 0 _ rfl
          have p1 := HPc.out.cell 1 _ rfl
          go_wp2_with fail
          refine wp_gen fun W0 hW0 => ?_
          have hwsz : w.heap.size < wr.heap.size := HKc.out.lt
          obtain ⟨Lb, hLb⟩ : ∃ Lb, wr.heap.size = Lb := ⟨_, rfl⟩
          have HF : Hid (FK w W0 g n Lb [(Lb, 99, [.int .i64 x, .int .i64 y, .int .i64 z]), (P, 84, [.int .i64 x, .int .i64 y]), (w.heap.size + 1, 99, [.int .i64 0, .int .i64 0, .int .i64 0]), (w.heap.size, 46, [.slice A n c, .slice B m d])]) := hide (by rw [hW0, ← hLb]; exact FK.new (top := wr.heap.size - 1) (FK.start HBc.out HAc.out HKc.out HOc.out HPc.out) _ _)
          rw [hLb]
          clear hW0 hLb p0 p1 hwsz
          have I0 : Hid (In3 n (x, y, z)) := hide ⟨hxn, hyn, hltz⟩
          obtain ⟨⟨x1, y1, z1⟩, hE1⟩ : ∃ t, doAt f s 0 (x, y, z) = t := ⟨_, rfl⟩
          have E1 := hide hE1
          have I1 : Hid (In3 n (x1, y1, z1)) := hide (by rw [← hE1]; exact I0.out.do HP.out HFL.out 0)
          clear hE1
          obtain ⟨⟨x2, y2, z2⟩, hE2⟩ : ∃ t, doAt f s 1 (x1, y1, z1) = t := ⟨_, rfl⟩
          have E2 := hide hE2
          have I2 : Hid (In3 n (x2, y2, z2)) := hide (by rw [← hE2]; exact I1.out.do HP.out HFL.out 1)
          clear hE2
          obtain ⟨⟨x3, y3, z3⟩, hE3⟩ : ∃ t, doAt f s 0 (x2, y2, z2) = t := ⟨_, rfl⟩
          have E3 := hide hE3
          clear hE3
          obtain ⟨⟨s1, t1, r1⟩, hG1⟩ : ∃ t, doAt f s 1 (x, y, z) = t := ⟨_, rfl⟩
          have G1 := hide hG1
          have J1 : Hid (In3 n (s1, t1, r1)) := hide (by rw [← hG1]; exact I0.out.do HP.out HFL.out 1)
          clear hG1
          obtain ⟨⟨s2, t2, r2⟩, hG2⟩ : ∃ t, doAt f s 0 (s1, t1, r1) = t := ⟨_, rfl⟩
          have G2 := hide hG2
          have J2 : Hid (In3 n (s2, t2, r2)) := hide (by rw [← hG2]; exact J1.out.do HP.out HFL.out 0)
          clear hG2
          obtain ⟨⟨s3, t3, r3⟩, hG3⟩ : ∃ t, doAt f s 1 (s2, t2, r2) = t := ⟨_, rfl⟩
          have G3 := hide hG3
          clear hG3
          go_cut [8] (fun v wx => ∃ L, v = .pointer (some ⟨L, 0, none⟩) ∧ FK w wx g n L ((L, 99, [.int .i64 x3, .int .i64 y3, .int .i64 z3]) :: [(Lb, 99, [.int .i64 x, .int .i64 y, .int .i64 z]), (P, 84, [.int .i64 x, .int .i64 y]), (w.heap.size + 1, 99, [.int .i64 0, .int .i64 0, .int .i64 0]), (w.heap.size, 46, [.slice A n c, .slice B m d])]))
          case first =>
            have HPB : Hid True := hide trivial
            have tok0 : True := trivial
            have tok1 : True := trivial
            have k0 := (HF.out.blk (b := w.heap.size) (t := 46) (cs := [.slice A n c, .slice B m d]) (by simp)).cell 0 _ rfl
            have k1 := (HF.out.blk (b := w.heap.size) (t := 46) (cs := [.slice A n c, .slice B m d]) (by simp)).cell 1 _ rfl
            have l0 := (HF.out.blk (b := Lb) (t := 99) (cs := [.int .i64 x, .int .i64 y, .int .i64 z]) (by simp)).cell 0 _ rfl
            have l1 := (HF.out.blk (b := Lb) (t := 99) (cs := [.int .i64 x, .int .i64 y, .int .i64 z]) (by simp)).cell 1 _ rfl
            have l2 := (HF.out.blk (b := Lb) (t := 99) (cs := [.int .i64 x, .int .i64 y, .int .i64 z]) (by simp)).cell 2 _ rfl
            have g1 : W0.heap.size ≠ w.heap.size := (by have h1 := HF.out.sz; have h2 := HF.out.low; omega)
            have g2 : W0.heap.size ≠ Lb := (by have h1 := HF.out.sz; have h2 := HF.out.top' (b := Lb) (t := 99) (cs := [.int .i64 x, .int .i64 y, .int .i64 z]) (by simp); omega)
            have g3 := g1.symm
            have g4 := g2.symm
            go_region_held3 (fun w' => w'.cell? ⟨w.heap.size, 0, none⟩ = some (.slice A n c) ∧ w'.cell? ⟨w.heap.size, 1, none⟩ = some (.slice B m d) ∧ w'.cell? ⟨Lb, 0, none⟩ = some (.int .i64 x) ∧ w'.cell? ⟨Lb, 1, none⟩ = some (.int .i64 y) ∧ w'.cell? ⟨Lb, 2, none⟩ = some (.int .i64 z)) (first | exact ⟨k0, k1, l0, l1, l2⟩ | go_keep) (first | (go_at_call 117; have _t := tok0; clear _t tok0; go_must (refine calls_gen fun wc hwc => ?_; have HF0 := HF; (first | (have hbx := al_drew_below hwc; have HPB := hide (And.intro (blk_al_drew hwc) HF0.out.sz)) | (have hbx := al_below hwc; have HPB := hide (And.intro (blk_al hwc) HF0.out.sz)) | (have hbx := drew_below hwc; (first | replace HPB := hide (And.intro (HPB.out.1.later hbx) HPB.out.2) | skip)) | (have hbx := eq_below hwc; (first | replace HPB := hide (And.intro (HPB.out.1.later hbx) HPB.out.2) | skip))); clear HF0; replace HF := hide (HF.out.later hbx); clear hwc hbx; refine (leadA0_any _ _ _ f _ _ _ s x y z x1 y1 z1 _ (HZ.out.later HF.out.below) HP.out I0.out E1.out).mono ?_; rintro e wd ⟨rfl, hbd⟩; replace HF := hide (HF.out.later hbd); (first | replace HPB := hide (And.intro (HPB.out.1.later hbd) HPB.out.2) | skip); clear hbd; have g1 : wd.heap.size ≠ w.heap.size := (by have h1 := HF.out.sz; have h2 := HF.out.low; omega); have g2 : wd.heap.size ≠ Lb := (by have h1 := HF.out.sz; have h2 := HF.out.top' (b := Lb) (t := 99) (cs := [.int .i64 x, .int .i64 y, .int .i64 z]) (by simp); omega); have g3 := g1.symm; have g4 := g2.symm; have k0 := (HF.out.blk (b := w.heap.size) (t := 46) (cs := [.slice A n c, .slice B m d]) (by simp)).cell 0 _ rfl; have k1 := (HF.out.blk (b := w.heap.size) (t := 46) (cs := [.slice A n c, .slice B m d]) (by simp)).cell 1 _ rfl; have l0 := (HF.out.blk (b := Lb) (t := 99) (cs := [.int .i64 x, .int .i64 y, .int .i64 z]) (by simp)).cell 0 _ rfl; have l1 := (HF.out.blk (b := Lb) (t := 99) (cs := [.int .i64 x, .int .i64 y, .int .i64 z]) (by simp)).cell 1 _ rfl; have l2 := (HF.out.blk (b := Lb) (t := 99) (cs := [.int .i64 x, .int .i64 y, .int .i64 z]) (by simp)).cell 2 _ rfl; (first | (have b0 := HPB.out.1.cell 0 _ rfl; have b1 := HPB.out.1.cell 1 _ rfl; have b2 := HPB.out.1.cell 2 _ rfl; have b3 := HPB.out.1.frozen 0; have b4 := HPB.out.1.frozen 1; have b5 := HPB.out.1.frozen 2) | skip))) | (go_at_call 117; have _t := tok1; clear _t tok1; go_must (refine calls_gen fun wc hwc => ?_; have HF0 := HF; (first | (have hbx := al_drew_below hwc; have HPB := hide (And.intro (blk_al_drew hwc) HF0.out.sz)) | (have hbx := al_below hwc; have HPB := hide (And.intro (blk_al hwc) HF0.out.sz)) | (have hbx := drew_below hwc; (first | replace HPB := hide (And.intro (HPB.out.1.later hbx) HPB.out.2) | skip)) | (have hbx := eq_below hwc; (first | replace HPB := hide (And.intro (HPB.out.1.later hbx) HPB.out.2) | skip))); clear HF0; replace HF := hide (HF.out.later hbx); clear hwc hbx; refine (leadA1_any _ _ _ f _ _ _ s x1 y1 z1 x2 y2 z2 _ (HZ.out.later HF.out.below) HP.out I1.out E2.out).mono ?_; rintro e wd ⟨rfl, hbd⟩; replace HF := hide (HF.out.later hbd); (first | replace HPB := hide (And.intro (HPB.out.1.later hbd) HPB.out.2) | skip); clear hbd; have g1 : wd.heap.size ≠ w.heap.size := (by have h1 := HF.out.sz; have h2 := HF.out.low; omega); have g2 : wd.heap.size ≠ Lb := (by have h1 := HF.out.sz; have h2 := HF.out.top' (b := Lb) (t := 99) (cs := [.int .i64 x, .int .i64 y, .int .i64 z]) (by simp); omega); have g3 := g1.symm; have g4 := g2.symm; have k0 := (HF.out.blk (b := w.heap.size) (t := 46) (cs := [.slice A n c, .slice B m d]) (by simp)).cell 0 _ rfl; have k1 := (HF.out.blk (b := w.heap.size) (t := 46) (cs := [.slice A n c, .slice B m d]) (by simp)).cell 1 _ rfl; have l0 := (HF.out.blk (b := Lb) (t := 99) (cs := [.int .i64 x, .int .i64 y, .int .i64 z]) (by simp)).cell 0 _ rfl; have l1 := (HF.out.blk (b := Lb) (t := 99) (cs := [.int .i64 x, .int .i64 y, .int .i64 z]) (by simp)).cell 1 _ rfl; have l2 := (HF.out.blk (b := Lb) (t := 99) (cs := [.int .i64 x, .int .i64 y, .int .i64 z]) (by simp)).cell 2 _ rfl; (first | (have b0 := HPB.out.1.cell 0 _ rfl; have b1 := HPB.out.1.cell 1 _ rfl; have b2 := HPB.out.1.cell 2 _ rfl; have b3 := HPB.out.1.frozen 0; have b4 := HPB.out.1.frozen 1; have b5 := HPB.out.1.frozen 2) | skip))) | (go_at_call 117; go_must (refine calls_gen fun wc hwc => ?_; have HF0 := HF; (first | (have hbx := al_drew_below hwc; have HPB := hide (And.intro (blk_al_drew hwc) HF0.out.sz)) | (have hbx := al_below hwc; have HPB := hide (And.intro (blk_al hwc) HF0.out.sz)) | (have hbx := drew_below hwc; (first | replace HPB := hide (And.intro (HPB.out.1.later hbx) HPB.out.2) | skip)) | (have hbx := eq_below hwc; (first | replace HPB := hide (And.intro (HPB.out.1.later hbx) HPB.out.2) | skip))); clear HF0; replace HF := hide (HF.out.later hbx); clear hwc hbx; refine (leadA0_any _ _ _ f _ _ _ s x2 y2 z2 x3 y3 z3 _ (HZ.out.later HF.out.below) HP.out I2.out E3.out).mono ?_; rintro e wd ⟨rfl, hbd⟩; replace HF := hide (HF.out.later hbd); (first | replace HPB := hide (And.intro (HPB.out.1.later hbd) HPB.out.2) | skip); clear hbd; have g1 : wd.heap.size ≠ w.heap.size := (by have h1 := HF.out.sz; have h2 := HF.out.low; omega); have g2 : wd.heap.size ≠ Lb := (by have h1 := HF.out.sz; have h2 := HF.out.top' (b := Lb) (t := 99) (cs := [.int .i64 x, .int .i64 y, .int .i64 z]) (by simp); omega); have g3 := g1.symm; have g4 := g2.symm; have k0 := (HF.out.blk (b := w.heap.size) (t := 46) (cs := [.slice A n c, .slice B m d]) (by simp)).cell 0 _ rfl; have k1 := (HF.out.blk (b := w.heap.size) (t := 46) (cs := [.slice A n c, .slice B m d]) (by simp)).cell 1 _ rfl; have l0 := (HF.out.blk (b := Lb) (t := 99) (cs := [.int .i64 x, .int .i64 y, .int .i64 z]) (by simp)).cell 0 _ rfl; have l1 := (HF.out.blk (b := Lb) (t := 99) (cs := [.int .i64 x, .int .i64 y, .int .i64 z]) (by simp)).cell 1 _ rfl; have l2 := (HF.out.blk (b := Lb) (t := 99) (cs := [.int .i64 x, .int .i64 y, .int .i64 z]) (by simp)).cell 2 _ rfl; (first | (have b0 := HPB.out.1.cell 0 _ rfl; have b1 := HPB.out.1.cell 1 _ rfl; have b2 := HPB.out.1.cell 2 _ rfl; have b3 := HPB.out.1.frozen 0; have b4 := HPB.out.1.frozen 1; have b5 := HPB.out.1.frozen 2) | skip))))
            all_goals go_wp2_with fail
            all_goals go_meet
            all_goals refine ⟨_, rfl, ?_⟩
            all_goals first | exact HF.out.new _ _ | exact (((HF.out.set (p := ⟨_, 0, none⟩) HPB.out.2 _).set (p := ⟨_, 1, none⟩) HPB.out.2 _).set (p := ⟨_, 2, none⟩) HPB.out.2 _).push (((HPB.out.1.set 0 _).set 1 _).set 2 _) HPB.out.2
          case rest =>
            obtain ⟨L1, rfl, hfk⟩ := hcut
            replace HF := hide hfk
            clear hfk
            go_wp2_with fail
            go_cut [9] (fun v wx => ∃ L, v = .pointer (some ⟨L, 0, none⟩) ∧ FK w wx g n L ((L, 99, [.int .i64 s3, .int .i64 t3, .int .i64 r3]) :: (L1, 99, [.int .i64 x3, .int .i64 y3, .int .i64 z3]) :: [(Lb, 99, [.int .i64 x, .int .i64 y, .int .i64 z]), (P, 84, [.int .i64 x, .int .i64 y]), (w.heap.size + 1, 99, [.int .i64 0, .int .i64 0, .int .i64 0]), (w.heap.size, 46, [.slice A n c, .slice B m d])]))
            case first =>
              have HPB : Hid True := hide trivial
              have tok0 : True := trivial
              have tok1 : True := trivial
              have k0 := (HF.out.blk (b := w.heap.size) (t := 46) (cs := [.slice A n c, .slice B m d]) (by simp)).cell 0 _ rfl
              have k1 := (HF.out.blk (b := w.heap.size) (t := 46) (cs := [.slice A n c, .slice B m d]) (by simp)).cell 1 _ rfl
              have l0 := (HF.out.blk (b := Lb) (t := 99) (cs := [.int .i64 x, .int .i64 y, .int .i64 z]) (by simp)).cell 0 _ rfl
              have l1 := (HF.out.blk (b := Lb) (t := 99) (cs := [.int .i64 x, .int .i64 y, .int .i64 z]) (by simp)).cell 1 _ rfl
              have l2 := (HF.out.blk (b := Lb) (t := 99) (cs := [.int .i64 x, .int .i64 y, .int .i64 z]) (by simp)).cell 2 _ rfl
              have g1 : wc.heap.size ≠ w.heap.size := (by have h1 := HF.out.sz; have h2 := HF.out.low; omega)
              have g2 : wc.heap.size ≠ Lb := (by have h1 := HF.out.sz; have h2 := HF.out.top' (b := Lb) (t := 99) (cs := [.int .i64 x, .int .i64 y, .int .i64 z]) (by simp); omega)
              have g3 := g1.symm
              have g4 := g2.symm
              go_region_held3 (fun w' => w'.cell? ⟨w.heap.size, 0, none⟩ = some (.slice A n c) ∧ w'.cell? ⟨w.heap.size, 1, none⟩ = some (.slice B m d) ∧ w'.cell? ⟨Lb, 0, none⟩ = some (.int .i64 x) ∧ w'.cell? ⟨Lb, 1, none⟩ = some (.int .i64 y) ∧ w'.cell? ⟨Lb, 2, none⟩ = some (.int .i64 z)) (first | exact ⟨k0, k1, l0, l1, l2⟩ | go_keep) (first | (go_at_call 117; have _t := tok0; clear _t tok0; go_must (refine calls_gen fun wc hwc => ?_; have HF0 := HF; (first | (have hbx := al_drew_below hwc; have HPB := hide (And.intro (blk_al_drew hwc) HF0.out.sz)) | (have hbx := al_below hwc; have HPB := hide (And.intro (blk_al hwc) HF0.out.sz)) | (have hbx := drew_below hwc; (first | replace HPB := hide (And.intro (HPB.out.1.later hbx) HPB.out.2) | skip)) | (have hbx := eq_below hwc; (first | replace HPB := hide (And.intro (HPB.out.1.later hbx) HPB.out.2) | skip))); clear HF0; replace HF := hide (HF.out.later hbx); clear hwc hbx; refine (leadA1_any _ _ _ f _ _ _ s x y z s1 t1 r1 _ (HZ.out.later HF.out.below) HP.out I0.out G1.out).mono ?_; rintro e wd ⟨rfl, hbd⟩; replace HF := hide (HF.out.later hbd); (first | replace HPB := hide (And.intro (HPB.out.1.later hbd) HPB.out.2) | skip); clear hbd; have g1 : wd.heap.size ≠ w.heap.size := (by have h1 := HF.out.sz; have h2 := HF.out.low; omega); have g2 : wd.heap.size ≠ Lb := (by have h1 := HF.out.sz; have h2 := HF.out.top' (b := Lb) (t := 99) (cs := [.int .i64 x, .int .i64 y, .int .i64 z]) (by simp); omega); have g3 := g1.symm; have g4 := g2.symm; have k0 := (HF.out.blk (b := w.heap.size) (t := 46) (cs := [.slice A n c, .slice B m d]) (by simp)).cell 0 _ rfl; have k1 := (HF.out.blk (b := w.heap.size) (t := 46) (cs := [.slice A n c, .slice B m d]) (by simp)).cell 1 _ rfl; have l0 := (HF.out.blk (b := Lb) (t := 99) (cs := [.int .i64 x, .int .i64 y, .int .i64 z]) (by simp)).cell 0 _ rfl; have l1 := (HF.out.blk (b := Lb) (t := 99) (cs := [.int .i64 x, .int .i64 y, .int .i64 z]) (by simp)).cell 1 _ rfl; have l2 := (HF.out.blk (b := Lb) (t := 99) (cs := [.int .i64 x, .int .i64 y, .int .i64 z]) (by simp)).cell 2 _ rfl; (first | (have b0 := HPB.out.1.cell 0 _ rfl; have b1 := HPB.out.1.cell 1 _ rfl; have b2 := HPB.out.1.cell 2 _ rfl; have b3 := HPB.out.1.frozen 0; have b4 := HPB.out.1.frozen 1; have b5 := HPB.out.1.frozen 2) | skip))) | (go_at_call 117; have _t := tok1; clear _t tok1; go_must (refine calls_gen fun wc hwc => ?_; have HF0 := HF; (first | (have hbx := al_drew_below hwc; have HPB := hide (And.intro (blk_al_drew hwc) HF0.out.sz)) | (have hbx := al_below hwc; have HPB := hide (And.intro (blk_al hwc) HF0.out.sz)) | (have hbx := drew_below hwc; (first | replace HPB := hide (And.intro (HPB.out.1.later hbx) HPB.out.2) | skip)) | (have hbx := eq_below hwc; (first | replace HPB := hide (And.intro (HPB.out.1.later hbx) HPB.out.2) | skip))); clear HF0; replace HF := hide (HF.out.later hbx); clear hwc hbx; refine (leadA0_any _ _ _ f _ _ _ s s1 t1 r1 s2 t2 r2 _ (HZ.out.later HF.out.below) HP.out J1.out G2.out).mono ?_; rintro e wd ⟨rfl, hbd⟩; replace HF := hide (HF.out.later hbd); (first | replace HPB := hide (And.intro (HPB.out.1.later hbd) HPB.out.2) | skip); clear hbd; have g1 : wd.heap.size ≠ w.heap.size := (by have h1 := HF.out.sz; have h2 := HF.out.low; omega); have g2 : wd.heap.size ≠ Lb := (by have h1 := HF.out.sz; have h2 := HF.out.top' (b := Lb) (t := 99) (cs := [.int .i64 x, .int .i64 y, .int .i64 z]) (by simp); omega); have g3 := g1.symm; have g4 := g2.symm; have k0 := (HF.out.blk (b := w.heap.size) (t := 46) (cs := [.slice A n c, .slice B m d]) (by simp)).cell 0 _ rfl; have k1 := (HF.out.blk (b := w.heap.size) (t := 46) (cs := [.slice A n c, .slice B m d]) (by simp)).cell 1 _ rfl; have l0 := (HF.out.blk (b := Lb) (t := 99) (cs := [.int .i64 x, .int .i64 y, .int .i64 z]) (by simp)).cell 0 _ rfl; have l1 := (HF.out.blk (b := Lb) (t := 99) (cs := [.int .i64 x, .int .i64 y, .int .i64 z]) (by simp)).cell 1 _ rfl; have l2 := (HF.out.blk (b := Lb) (t := 99) (cs := [.int .i64 x, .int .i64 y, .int .i64 z]) (by simp)).cell 2 _ rfl; (first | (have b0 := HPB.out.1.cell 0 _ rfl; have b1 := HPB.out.1.cell 1 _ rfl; have b2 := HPB.out.1.cell 2 _ rfl; have b3 := HPB.out.1.frozen 0; have b4 := HPB.out.1.frozen 1; have b5 := HPB.out.1.frozen 2) | skip))) | (go_at_call 117; go_must (refine calls_gen fun wc hwc => ?_; have HF0 := HF; (first | (have hbx := al_drew_below hwc; have HPB := hide (And.intro (blk_al_drew hwc) HF0.out.sz)) | (have hbx := al_below hwc; have HPB := hide (And.intro (blk_al hwc) HF0.out.sz)) | (have hbx := drew_below hwc; (first | replace HPB := hide (And.intro (HPB.out.1.later hbx) HPB.out.2) | skip)) | (have hbx := eq_below hwc; (first | replace HPB := hide (And.intro (HPB.out.1.later hbx) HPB.out.2) | skip))); clear HF0; replace HF := hide (HF.out.later hbx); clear hwc hbx; refine (leadA1_any _ _ _ f _ _ _ s s2 t2 r2 s3 t3 r3 _ (HZ.out.later HF.out.below) HP.out J2.out G3.out).mono ?_; rintro e wd ⟨rfl, hbd⟩; replace HF := hide (HF.out.later hbd); (first | replace HPB := hide (And.intro (HPB.out.1.later hbd) HPB.out.2) | skip); clear hbd; have g1 : wd.heap.size ≠ w.heap.size := (by have h1 := HF.out.sz; have h2 := HF.out.low; omega); have g2 : wd.heap.size ≠ Lb := (by have h1 := HF.out.sz; have h2 := HF.out.top' (b := Lb) (t := 99) (cs := [.int .i64 x, .int .i64 y, .int .i64 z]) (by simp); omega); have g3 := g1.symm; have g4 := g2.symm; have k0 := (HF.out.blk (b := w.heap.size) (t := 46) (cs := [.slice A n c, .slice B m d]) (by simp)).cell 0 _ rfl; have k1 := (HF.out.blk (b := w.heap.size) (t := 46) (cs := [.slice A n c, .slice B m d]) (by simp)).cell 1 _ rfl; have l0 := (HF.out.blk (b := Lb) (t := 99) (cs := [.int .i64 x, .int .i64 y, .int .i64 z]) (by simp)).cell 0 _ rfl; have l1 := (HF.out.blk (b := Lb) (t := 99) (cs := [.int .i64 x, .int .i64 y, .int .i64 z]) (by simp)).cell 1 _ rfl; have l2 := (HF.out.blk (b := Lb) (t := 99) (cs := [.int .i64 x, .int .i64 y, .int .i64 z]) (by simp)).cell 2 _ rfl; (first | (have b0 := HPB.out.1.cell 0 _ rfl; have b1 := HPB.out.1.cell 1 _ rfl; have b2 := HPB.out.1.cell 2 _ rfl; have b3 := HPB.out.1.frozen 0; have b4 := HPB.out.1.frozen 1; have b5 := HPB.out.1.frozen 2) | skip))))
              all_goals go_wp2_with fail
              all_goals go_meet
              all_goals refine ⟨_, rfl, ?_⟩
              all_goals first | exact HF.out.new _ _ | exact (((HF.out.set (p := ⟨_, 0, none⟩) HPB.out.2 _).set (p := ⟨_, 1, none⟩) HPB.out.2 _).set (p := ⟨_, 2, none⟩) HPB.out.2 _).push (((HPB.out.1.set 0 _).set 1 _).set 2 _) HPB.out.2
            case rest =>
              obtain ⟨L2, rfl, hfk⟩ := hcut
              replace HF := hide hfk
              clear hfk
              have kb0 := (HF.out.blk (b := L1) (t := 99) (cs := [.int .i64 x3, .int .i64 y3, .int .i64 z3]) (by simp)).cell 0 _ rfl
              have kb1 := (HF.out.blk (b := L1) (t := 99) (cs := [.int .i64 x3, .int .i64 y3, .int .i64 z3]) (by simp)).cell 1 _ rfl
              have kb2 := (HF.out.blk (b := L1) (t := 99) (cs := [.int .i64 x3, .int .i64 y3, .int .i64 z3]) (by simp)).cell 2 _ rfl
              have kc0 := (HF.out.blk (b := L2) (t := 99) (cs := [.int .i64 s3, .int .i64 t3, .int .i64 r3]) (by simp)).cell 0 _ rfl
              have kc1 := (HF.out.blk (b := L2) (t := 99) (cs := [.int .i64 s3, .int .i64 t3, .int .i64 r3]) (by simp)).cell 1 _ rfl
              have kc2 := (HF.out.blk (b := L2) (t := 99) (cs := [.int .i64 s3, .int .i64 t3, .int .i64 r3]) (by simp)).cell 2 _ rfl
              have hlef : lef f s (x, y, z) = (x3, y3, z3) := by unfold lef; rw [E1.out, E2.out, E3.out]
              have hrig : rig f s (x, y, z) = (s3, t3, r3) := by unfold rig; rw [G1.out, G2.out, G3.out]
              have htr : trip n (k * n + z) = (x, y, z) := by
                have h := trip_of (n := n) (x := x) hyn hltz
                rw [← HX.out, ← HY.out, pair_eta, HX.out, HY.out] at h
                exact h
              have heq : Eq3 f s n (k * n + z) ↔ (x3, y3, z3) = (s3, t3, r3) := by unfold Eq3; rw [htr, hlef, hrig]
              have hklt : k * n + z < n * n * n := by
                have h := trip_lt (n := n) hxn hyn hltz
                rw [← HX.out, ← HY.out, pair_eta] at h
                exact h
              have HEQ := hide heq
              have HTR := hide htr
              have HKL := hide hklt
              clear hlef hrig htr heq hklt
              have heqv := eq3_run x3 y3 z3 s3 t3 r3 wc
              by_cases hcs : ((x3 : Int) = s3) ∧ ((y3 : Int) = t3) ∧ ((z3 : Int) = r3)
              · rw [decide_eq_true hcs] at heqv
                have hgood : Eq3 f s n (k * n + z) := HEQ.out.2 (by
                  obtain ⟨e1, e2, e3⟩ := hcs
                  have a1 : x3 = s3 := by omega
                  have a2 : y3 = t3 := by omega
                  have a3 : z3 = r3 := by omega
                  rw [a1, a2, a3])
                have HGOOD := hide hgood
                clear hgood hcs
                go_wp2_with fail
                go_roundw
                case rel => exact ⟨z + 1, by omega, by go_num, HF.out.below, HF.out.blk (by simp), HF.out.blk (by simp), HF.out.blk (by simp), HF.out.pairs, fun i hi => by
                  by_cases e : i = k * n + z
                  · rw [e]; exact HGOOD.out
                  · exact HALLI.out i (by omega)⟩
                case measure => simp [intOf]; omega
              · rw [decide_eq_false hcs] at heqv
                have hbad : ¬ Eq3 f s n (k * n + z) := fun h => by
                  have h := HEQ.out.1 h
                  injection h with a1 a2
                  injection a2 with a2 a3
                  exact hcs ⟨by omega, by omega, by omega⟩
                have HTB := hide (HT.out.bad HALLI.out HKL.out hbad)
                clear hbad hcs
                have kd0 := (HF.out.blk (b := Lb) (t := 99) (cs := [.int .i64 x, .int .i64 y, .int .i64 z]) (by simp)).cell 0 _ rfl
                have kd1 := (HF.out.blk (b := Lb) (t := 99) (cs := [.int .i64 x, .int .i64 y, .int .i64 z]) (by simp)).cell 1 _ rfl
                have kd2 := (HF.out.blk (b := Lb) (t := 99) (cs := [.int .i64 x, .int .i64 y, .int .i64 z]) (by simp)).cell 2 _ rfl
                have HO9 := hide (HF.out.blk (b := w.heap.size + 1) (t := 99) (cs := [.int .i64 0, .int .i64 0, .int .i64 0]) (by simp))
                have o0 := HO9.out.cell 0 _ rfl
                have o1 := HO9.out.cell 1 _ rfl
                have o2 := HO9.out.cell 2 _ rfl
                have o3 := HO9.out.frozen 0
                have o4 := HO9.out.frozen 1
                have o5 := HO9.out.frozen 2
                go_wp2_with fail
                refine bp_gen fun wf hwf => ?_
                have hlo : w.heap.size ≤ w.heap.size + 1 := by omega
                have HRF : Blk wf (w.heap.size + 1) 99 [.int .i64 x, .int .i64 y, .int .i64 z] := by rw [hwf]; exact ((HO9.out.set 0 _).set 1 _).set 2 _
                have HBF : Below w.heap.size w wf := by rw [hwf]; exact ((HF.out.below.setCell (p := ⟨w.heap.size + 1, 0, none⟩) hlo _).setCell (p := ⟨w.heap.size + 1, 1, none⟩) hlo _).setCell (p := ⟨w.heap.size + 1, 2, none⟩) hlo _
                clear hwf o0 o1 o2 o3 o4 o5 kd0 kd1 kd2 kb0 kb1 kb2 kc0 kc1 kc2
                have q0 := HRF.cell 0 _ rfl
                have q1 := HRF.cell 1 _ rfl
                have q2 := HRF.cell 2 _ rfl
                exact bodyPost_ret (v := .tuple #[.agg #[.int .i64 x, .int .i64 y, .int .i64 z], .bool true]) (by simp [results, Try.results98, go_sem, q0, q1, q2]) rfl ⟨(x, y, z), true, rfl, HBF, .inl ⟨rfl, by rw [HTB.out]; exact HKL.out, by rw [HTB.out, HTR.out]⟩⟩
        · have hzn' : z = n := by omega
          subst hzn'
          go_wp2_with fail
          go_roundw
          case rel => exact ⟨k + 1, by omega, by go_num, HBc.out, HKc.out, HOc.out, HAc.out, fun i hi => HALLI.out i (by rw [Nat.add_mul, Nat.one_mul] at hi; exact hi)⟩
          case measure => simp [intOf]; omega
    · have hkn : k = N := by omega
      subst hkn
      clear k0 k1 k2 k3
      have o0 := HO.out.cell 0 _ rfl
      have o1 := HO.out.cell 1 _ rfl
      have o2 := HO.out.cell 2 _ rfl
      have o3 := HO.out.frozen 0
      have o4 := HO.out.frozen 1
      have o5 := HO.out.frozen 2
      go_wp2_with fail
      refine bp_gen fun wf hwf => ?_
      have hlo : w.heap.size ≤ w.heap.size + 1 := by omega
      have HRF : Blk wf (w.heap.size + 1) 99 [.int .i64 0, .int .i64 0, .int .i64 0] := by rw [hwf]; exact ((HO.out.set 0 _).set 1 _).set 2 _
      have HBF : Below w.heap.size w wf := by rw [hwf]; exact ((HB.out.setCell (p := ⟨w.heap.size + 1, 0, none⟩) hlo _).setCell (p := ⟨w.heap.size + 1, 1, none⟩) hlo _).setCell (p := ⟨w.heap.size + 1, 2, none⟩) hlo _
      clear hwf o0 o1 o2 o3 o4 o5
      have q0 := HRF.cell 0 _ rfl
      have q1 := HRF.cell 1 _ rfl
      have q2 := HRF.cell 2 _ rfl
      have HTN : T = n * n * n := HT.out.all (fun i hi => HALL.out i (by rw [HN.out] at hi; exact hi))
      exact bodyPost_ret (v := .tuple #[.agg #[.int .i64 (0 : Nat), .int .i64 (0 : Nat), .int .i64 (0 : Nat)], .bool false]) (by simp [results, Try.results98, go_sem, q0, q1, q2]) rfl ⟨(0, 0, 0), false, rfl, HBF, .inr ⟨rfl, HTN⟩⟩
end Go.Proofs.Ytljdfanebjhhmaa
