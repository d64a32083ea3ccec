import Derived.Test.YtelildgngkajnaaDoorZl
import Derived.Test.YtelildgngkajnaaDoorZi
import Derived.Test.YtelildgngkajnaaDoorZk
import Derived.WalkSpells
import Derived.Test.YtelildgngkajnaaDoorZd
import Derived.Test.YtelildgngkajnaaDoorZe
import Derived.Shelf.Abstract
import Derived.Shelf.Lay
import Derived.Deep.Cut
import Derived.Deep.RegionHeld3
import Derived.Test.YtelildgngkajnaaDoorZm
import Derived.Test.YtelildgngkajnaaDoorZb
import Derived.Test.YtelildgngkajnaaDoorProg
import Derived.Test.YtelildgngkajnaaDoorZj
namespace Go.Proofs.YtelildgngkajnaaDoor
open Go Go.RowKit
set_option maxHeartbeats 4000000

set_option maxRecDepth 100000 in
theorem hasId_any (A : Option Addr) (n c : Nat) (f : List (List Int)) (r : Bool) (w : World) (hn : f.length = n) (ht : Tbl f) (hr : Rd2 w A f) (hres : r = true ↔ IdF f) :
    Calls Tryd.prog 52 #[.agg #[.slice A n c]] w fun e w' => e = .returned (.bool r) ∧ Below w.heap.size w w' := by
  have h1 : 1 ≤ n := by rw [← hn]; exact ht.1
  have h12 : n ≤ 12 := by rw [← hn]; exact ht.2.1
  have HN := hide hn
  have HTB := hide ht
  have HR := hide hr
  have HRES := hide hres
  have HB0 := hide ((Below.refl _ w).alloc (Nat.le_refl _) (Obj.cells #[Value.slice A n c] 26))
  have HK0 := hide (Blk.new w 26 [.slice A n c])
  clear hn ht hr hres
  go_enter Tryd.func52, Tryd.ntmps52
  have k0 := HK0.out.cell 0 _ rfl
  go_wp2_with fail
  clear k0
  refine (gsize_any _ n _ _ (by omega)).mono ?_
  rintro e w1 ⟨rfl, hb1⟩
  have HB1 := hide (HB0.out.trans (hb1.mono HB0.out.size))
  have HK1 := hide (HK0.out.later hb1)
  clear hb1
  go_wp2_with fail
  go_loopw [6] (fun i wr => ∃ x : Nat, x ≤ n ∧ i = .int .i64 x ∧ Below w.heap.size w wr ∧ Blk wr w.heap.size 26 [.slice A n c] ∧ ∀ x', x' < x → ap f 0 x' = x' ∧ ap f x' 0 = x') (fun i _ => n - (intOf i).toNat)
  case atStart => exact ⟨0, Nat.zero_le _, rfl, HB1.out, HK1.out, fun i hi => absurd hi (Nat.not_lt_zero _)⟩
  case round =>
    obtain ⟨x, hx, rfl, hbe, hkk, hall⟩ := hrel
    have HB := hide hbe
    have HK := hide hkk
    have HALL := hide hall
    clear hbe hkk hall
    by_cases hlt : x < n
    · have hxz : (x : Int) < n := by omega
      obtain ⟨a, ha⟩ : ∃ a, ap f 0 x = a := ⟨_, rfl⟩
      obtain ⟨a', ha'⟩ : ∃ a, ap f x 0 = a := ⟨_, rfl⟩
      have HA := hide ha
      have HA' := hide ha'
      have HEQ : Hid (ap f 0 x = a ∧ ap f x 0 = a') := hide ⟨ha, ha'⟩
      have k0 := HK.out.cell 0 _ rfl
      clear ha ha'
      go_wp2_with fail
      clear k0
      refine (gprod_any _ n _ f 0 x _ _ HN.out HTB.out (HR.out.later HB.out) (by omega) (by omega) HA.out).mono ?_
      rintro e wp ⟨rfl, hbd⟩
      have HBwp := hide (HB.out.trans (hbd.mono HB.out.size))
      have HKwp := hide (HK.out.later hbd)
      clear hbd
      by_cases h1e : a = x
      · subst h1e
        have k0 := HKwp.out.cell 0 _ rfl
        go_wp2_with fail
        clear k0
        refine (gprod_any _ n _ f a 0 _ _ HN.out HTB.out (HR.out.later HBwp.out) (by omega) (by omega) HA'.out).mono ?_
        rintro e wq ⟨rfl, hbd⟩
        have HBwq := hide (HBwp.out.trans (hbd.mono HBwp.out.size))
        have HKwq := hide (HKwp.out.later hbd)
        clear hbd
        by_cases h2e : a' = a
        · subst h2e
          go_wp2_with fail
          go_roundw
          case rel => exact ⟨a' + 1, by omega, by go_num, HBwq.out, HKwq.out, fun i hi => by
            by_cases e : i = a'
            · rw [e]; exact HEQ.out
            · exact HALL.out i (by omega)⟩
          case measure => simp [intOf]; omega
        · have hrf : r = false := by
            cases r
            · rfl
            · exact absurd (HEQ.out.2.symm.trans (HRES.out.1 rfl a (by have := HN.out; omega)).2) h2e
          subst hrf
          have g2 : ((a' : Int) == (a : Int)) = false := by simpa using fun h => h2e (by omega)
          have g3 : ((a' : Int) != (a : Int)) = true := by simpa using fun h => h2e (by omega)
          go_wp2_with fail
          go_ret
          exact ⟨rfl, HBwq.out⟩
      · have hrf : r = false := by
          cases r
          · rfl
          · exact absurd (HEQ.out.1.symm.trans (HRES.out.1 rfl x (by have := HN.out; omega)).1) h1e
        subst hrf
        have g2 : ((a : Int) == (x : Int)) = false := by simpa using fun h => h1e (by omega)
        have g3 : ((a : Int) != (x : Int)) = true := by simpa using fun h => h1e (by omega)
        go_wp2_with fail
        go_ret
        exact ⟨rfl, HBwp.out⟩
    · have hxn : x = n := by omega
      subst hxn
      have hrt : r = true := HRES.out.2 fun i hi => HALL.out i (by have := HN.out; omega)
      subst hrt
      go_wp2_with fail
      go_ret
      exact ⟨rfl, HB.out⟩

/-- Whether three elements show that a table is not associative. -/
def asq (f : List (List Int)) : Nat → Nat → Nat → Bool := fun x y z => !decide (ap f (ap f x y) z = ap f x (ap f y z))
theorem asq_all (f : List (List Int)) : (∀ i, i < f.length * f.length * f.length → qAt (asq f) f.length i = false) ↔ AsF f := by
  constructor
  · intro h x y z hx hy hz
    have h1 := h _ (trip_lt hx hy hz)
    rw [qAt_at hy hz] at h1
    unfold asq at h1
    unfold As3
    simpa using h1
  · intro h i hi
    have hpos : 0 < f.length := Nat.pos_of_ne_zero fun e => by rw [e] at hi; simp at hi
    unfold qAt asq trip
    have hd : i / f.length / f.length < f.length := by
      rw [Nat.div_div_eq_div_mul]
      exact Nat.div_lt_of_lt_mul hi
    have h9 := h _ _ _ hd (Nat.mod_lt (i / f.length) hpos) (Nat.mod_lt i hpos)
    unfold As3 at h9
    simpa using h9
set_option maxRecDepth 100000 in
theorem asC_any (A : Option Addr) (n c : Nat) (f : List (List Int)) (b : Nat) (w : World) (hn : f.length = n) (ht : Tbl f) (hr : Rd2 w A f) (hk : Blk w b 26 [.slice A n c]) :
    BoolFn3 Tryd.prog 63 #[.pointer (some ⟨b, 0, none⟩)] n (asq f) w := by
  intro wr x y z hx hy hltz hb
  have h12 : n ≤ 12 := by rw [← hn]; exact ht.2.1
  have HR := hide (hr.later hb)
  have HKc := hide (hk.later hb)
  have HBc := hide (Below.refl wr.heap.size wr)
  have HN := hide hn
  have HTB := hide ht
  show Calls Tryd.prog 63 #[.int .i64 x, .int .i64 y, .int .i64 z, .pointer (some ⟨b, 0, none⟩)] wr _
  clear hn ht hr hk hb
  have hs1 := HTB.out.ap_lt HN.out hy hltz
  obtain ⟨v1, e1⟩ : ∃ u, tm f x [y, z] = u := ⟨_, rfl⟩
  obtain ⟨v2, e2⟩ : ∃ u, tm f y [z] = u := ⟨_, rfl⟩
  have e2' : ap f y z = v2 := e2
  rw [e2'] at hs1
  obtain ⟨v3, e3⟩ : ∃ u, tm f x [v2] = u := ⟨_, rfl⟩
  have hat : As3 f x y z ↔ v1 = v3 := by unfold As3; rw [e2']; rw [show ap f (ap f x y) z = v1 from e1, show ap f x v2 = v3 from e3]
  obtain ⟨bq, hbq⟩ : ∃ bq, asq f x y z = bq := ⟨_, rfl⟩
  rw [hbq]
  have HAT : Hid ((!decide (v1 = v3)) = bq) := hide (by rw [← hbq]; unfold asq; simp only [show (ap f (ap f x y) z = ap f x (ap f y z)) ↔ v1 = v3 from hat])
  have hxn := hx
  have hyn := hy
  have HV1 := hide e1
  have HV2 := hide e2
  have HV3 := hide e3
  clear e1 e2 e3 e2' hat hbq
  go_enter Tryd.func63, Tryd.ntmps63
  by_cases hcs : v1 = v3
  · have hbf : bq = false := by rw [← HAT.out, hcs]; simp
    subst hbf
    replace HV1 : Hid (tm f x [y, z] = v3) := hide (HV1.out.trans hcs)
    clear hcs
    go_wp2_with fail
    refine wp_gen fun w8 hw8 => ?_
    have hb8 : Below wr.heap.size wr w8 := by rw [hw8]; exact Below.refl _ _
    replace HBc := hide (HBc.out.trans (hb8.mono HBc.out.size))
    replace HKc := hide (HKc.out.later hb8)
    clear hw8 hb8
    have k0 := HKc.out.cell 0 _ rfl
    have k9 := fun o => (HKc.out.alloc o).cell 0 _ rfl
    have tok0 : True := trivial
    have tok1 : True := trivial
    go_region_held3 (fun w' => w'.cell? ⟨b, 0, none⟩ = some (.slice A n c)) (first | exact k0 | go_keep) (first | (go_at_call 64; have _t := tok0; clear _t tok0; go_must (refine calls_gen fun wc hwc => ?_; have hbx : Below w8.heap.size w8 wc := (by rw [hwc]; first | exact Below.refl _ _ | exact (Below.refl _ _).drew | exact (Below.refl _ _).alloc (Nat.le_refl _) _ | exact ((Below.refl _ _).alloc (Nat.le_refl _) _).drew | exact ((Below.refl _ _).alloc (Nat.le_refl _) _).alloc (by simp) _ | exact (((Below.refl _ _).alloc (Nat.le_refl _) _).alloc (by simp) _).drew); (first | have HQ := hide (show Blk wc (w8.heap.size + 1) 2 [.int .i64 z] from (by rw [hwc]; have h := Blk.new (w8.alloc (.cells #[.int .i64 y, .int .i64 z] 2)) 2 [.int .i64 z]; first | simpa using h | simpa using h.drew)) | have HQ := hide (show Blk wc w8.heap.size 2 [.int .i64 z] from (by rw [hwc]; first | exact (Blk.new _ _ _).alloc _ | exact ((Blk.new _ _ _).alloc _).drew)) | have HQ : Hid True := hide trivial); replace HBc := hide (HBc.out.trans (hbx.mono HBc.out.size)); replace HKc := hide (HKc.out.later hbx); refine (times_any _ n _ f x _ 2 [y, z] _ HN.out HTB.out (HR.out.later HBc.out) (by omega) rfl (by intro q hq; simp at hq; omega) (by rw [hwc]; first | exact Blk.new _ _ _ | exact (Blk.new _ _ _).drew | exact ((Blk.new _ _ _).alloc _).drew | exact (Blk.new _ _ _ : Blk (w8.alloc (.cells [.int .i64 y, .int .i64 z].toArray 2)) _ _ _) | exact (Blk.new _ _ _).alloc _ | exact ((Blk.new _ _ _).alloc _ : Blk ((w8.alloc (.cells [.int .i64 y, .int .i64 z].toArray 2)).alloc _) _ _ _) | (have h := Blk.new (w8.alloc (.cells #[.int .i64 z] 2)) 2 [.int .i64 y, .int .i64 z]; first | simpa using h | simpa [ints, natL] using h.drew) | (have h := Blk.new (w8.alloc (.cells #[.int .i64 y, .int .i64 z] 2)) 2 [.int .i64 y, .int .i64 z]; first | simpa using h | simpa [ints, natL] using h.drew)) (by decide)).mono ?_; rintro e wd1 ⟨rfl, hbd⟩; clear hwc hbx; rw [HV1.out]; replace HBc := hide (HBc.out.trans (hbd.mono HBc.out.size)); replace HKc := hide (HKc.out.later hbd); (first | replace HQ := hide (HQ.out.later hbd) | skip); clear hbd; have k0 := HKc.out.cell 0 _ rfl)) | (go_at_call 64; have _t := tok1; clear _t tok1; go_must (refine calls_gen fun wc hwc => ?_; have hbx : Below wd1.heap.size wd1 wc := (by rw [hwc]; first | exact Below.refl _ _ | exact (Below.refl _ _).drew | exact (Below.refl _ _).alloc (Nat.le_refl _) _ | exact ((Below.refl _ _).alloc (Nat.le_refl _) _).drew | exact ((Below.refl _ _).alloc (Nat.le_refl _) _).alloc (by simp) _ | exact (((Below.refl _ _).alloc (Nat.le_refl _) _).alloc (by simp) _).drew); replace HBc := hide (HBc.out.trans (hbx.mono HBc.out.size)); replace HKc := hide (HKc.out.later hbx); refine (times_any _ n _ f y _ 1 [z] _ HN.out HTB.out (HR.out.later HBc.out) (by omega) rfl (by intro q hq; simp at hq; omega) (by first | exact HQ.out | exact HQ.out.later hbx | (rw [hwc]; exact Blk.new _ _ _)) (by decide)).mono ?_; rintro e wd2 ⟨rfl, hbd⟩; clear hwc hbx; rw [HV2.out]; replace HBc := hide (HBc.out.trans (hbd.mono HBc.out.size)); replace HKc := hide (HKc.out.later hbd); clear hbd; have k0 := HKc.out.cell 0 _ rfl)) | (go_at_call 64; go_must (refine calls_gen fun wc hwc => ?_; have hbx : Below wd2.heap.size wd2 wc := (by rw [hwc]; first | exact Below.refl _ _ | exact (Below.refl _ _).drew | exact (Below.refl _ _).alloc (Nat.le_refl _) _ | exact ((Below.refl _ _).alloc (Nat.le_refl _) _).drew | exact ((Below.refl _ _).alloc (Nat.le_refl _) _).alloc (by simp) _ | exact (((Below.refl _ _).alloc (Nat.le_refl _) _).alloc (by simp) _).drew); replace HBc := hide (HBc.out.trans (hbx.mono HBc.out.size)); replace HKc := hide (HKc.out.later hbx); refine (times_any _ n _ f x _ 1 [v2] _ HN.out HTB.out (HR.out.later HBc.out) (by omega) rfl (by intro q hq; simp at hq; omega) (by rw [hwc]; first | exact Blk.new _ _ _ | exact (Blk.new _ _ _ : Blk (wd2.alloc _) _ _ _)) (by decide)).mono ?_; rintro e wd3 ⟨rfl, hbd⟩; clear hwc hbx; rw [HV3.out]; replace HBc := hide (HBc.out.trans (hbd.mono HBc.out.size)); replace HKc := hide (HKc.out.later hbd); clear hbd; have k0 := HKc.out.cell 0 _ rfl)))
    all_goals
      clear k0
      go_wp2_with fail
      go_ret
      exact ⟨rfl, HBc.out⟩
  · have hcz : ((v1 : Int) == (v3 : Int)) = false := by simpa using fun h => hcs (by omega)
    have hcz2 : ((v1 : Int) != (v3 : Int)) = true := by simpa using fun h => hcs (by omega)
    have hbt : bq = true := by rw [← HAT.out]; simp [hcs]
    subst hbt
    clear hcs
    go_wp2_with fail
    refine wp_gen fun w8 hw8 => ?_
    have hb8 : Below wr.heap.size wr w8 := by rw [hw8]; exact Below.refl _ _
    replace HBc := hide (HBc.out.trans (hb8.mono HBc.out.size))
    replace HKc := hide (HKc.out.later hb8)
    clear hw8 hb8
    have k0 := HKc.out.cell 0 _ rfl
    have k9 := fun o => (HKc.out.alloc o).cell 0 _ rfl
    have tok0 : True := trivial
    have tok1 : True := trivial
    go_region_held3 (fun w' => w'.cell? ⟨b, 0, none⟩ = some (.slice A n c)) (first | exact k0 | go_keep) (first | (go_at_call 64; have _t := tok0; clear _t tok0; go_must (refine calls_gen fun wc hwc => ?_; have hbx : Below w8.heap.size w8 wc := (by rw [hwc]; first | exact Below.refl _ _ | exact (Below.refl _ _).drew | exact (Below.refl _ _).alloc (Nat.le_refl _) _ | exact ((Below.refl _ _).alloc (Nat.le_refl _) _).drew | exact ((Below.refl _ _).alloc (Nat.le_refl _) _).alloc (by simp) _ | exact (((Below.refl _ _).alloc (Nat.le_refl _) _).alloc (by simp) _).drew); (first | have HQ := hide (show Blk wc (w8.heap.size + 1) 2 [.int .i64 z] from (by rw [hwc]; have h := Blk.new (w8.alloc (.cells #[.int .i64 y, .int .i64 z] 2)) 2 [.int .i64 z]; first | simpa using h | simpa using h.drew)) | have HQ := hide (show Blk wc w8.heap.size 2 [.int .i64 z] from (by rw [hwc]; first | exact (Blk.new _ _ _).alloc _ | exact ((Blk.new _ _ _).alloc _).drew)) | have HQ : Hid True := hide trivial); replace HBc := hide (HBc.out.trans (hbx.mono HBc.out.size)); replace HKc := hide (HKc.out.later hbx); refine (times_any _ n _ f x _ 2 [y, z] _ HN.out HTB.out (HR.out.later HBc.out) (by omega) rfl (by intro q hq; simp at hq; omega) (by rw [hwc]; first | exact Blk.new _ _ _ | exact (Blk.new _ _ _).drew | exact ((Blk.new _ _ _).alloc _).drew | exact (Blk.new _ _ _ : Blk (w8.alloc (.cells [.int .i64 y, .int .i64 z].toArray 2)) _ _ _) | exact (Blk.new _ _ _).alloc _ | exact ((Blk.new _ _ _).alloc _ : Blk ((w8.alloc (.cells [.int .i64 y, .int .i64 z].toArray 2)).alloc _) _ _ _) | (have h := Blk.new (w8.alloc (.cells #[.int .i64 z] 2)) 2 [.int .i64 y, .int .i64 z]; first | simpa using h | simpa [ints, natL] using h.drew) | (have h := Blk.new (w8.alloc (.cells #[.int .i64 y, .int .i64 z] 2)) 2 [.int .i64 y, .int .i64 z]; first | simpa using h | simpa [ints, natL] using h.drew)) (by decide)).mono ?_; rintro e wd1 ⟨rfl, hbd⟩; clear hwc hbx; rw [HV1.out]; replace HBc := hide (HBc.out.trans (hbd.mono HBc.out.size)); replace HKc := hide (HKc.out.later hbd); (first | replace HQ := hide (HQ.out.later hbd) | skip); clear hbd; have k0 := HKc.out.cell 0 _ rfl)) | (go_at_call 64; have _t := tok1; clear _t tok1; go_must (refine calls_gen fun wc hwc => ?_; have hbx : Below wd1.heap.size wd1 wc := (by rw [hwc]; first | exact Below.refl _ _ | exact (Below.refl _ _).drew | exact (Below.refl _ _).alloc (Nat.le_refl _) _ | exact ((Below.refl _ _).alloc (Nat.le_refl _) _).drew | exact ((Below.refl _ _).alloc (Nat.le_refl _) _).alloc (by simp) _ | exact (((Below.refl _ _).alloc (Nat.le_refl _) _).alloc (by simp) _).drew); replace HBc := hide (HBc.out.trans (hbx.mono HBc.out.size)); replace HKc := hide (HKc.out.later hbx); refine (times_any _ n _ f y _ 1 [z] _ HN.out HTB.out (HR.out.later HBc.out) (by omega) rfl (by intro q hq; simp at hq; omega) (by first | exact HQ.out | exact HQ.out.later hbx | (rw [hwc]; exact Blk.new _ _ _)) (by decide)).mono ?_; rintro e wd2 ⟨rfl, hbd⟩; clear hwc hbx; rw [HV2.out]; replace HBc := hide (HBc.out.trans (hbd.mono HBc.out.size)); replace HKc := hide (HKc.out.later hbd); clear hbd; have k0 := HKc.out.cell 0 _ rfl)) | (go_at_call 64; go_must (refine calls_gen fun wc hwc => ?_; have hbx : Below wd2.heap.size wd2 wc := (by rw [hwc]; first | exact Below.refl _ _ | exact (Below.refl _ _).drew | exact (Below.refl _ _).alloc (Nat.le_refl _) _ | exact ((Below.refl _ _).alloc (Nat.le_refl _) _).drew | exact ((Below.refl _ _).alloc (Nat.le_refl _) _).alloc (by simp) _ | exact (((Below.refl _ _).alloc (Nat.le_refl _) _).alloc (by simp) _).drew); replace HBc := hide (HBc.out.trans (hbx.mono HBc.out.size)); replace HKc := hide (HKc.out.later hbx); refine (times_any _ n _ f x _ 1 [v2] _ HN.out HTB.out (HR.out.later HBc.out) (by omega) rfl (by intro q hq; simp at hq; omega) (by rw [hwc]; first | exact Blk.new _ _ _ | exact (Blk.new _ _ _ : Blk (wd2.alloc _) _ _ _)) (by decide)).mono ?_; rintro e wd3 ⟨rfl, hbd⟩; clear hwc hbx; rw [HV3.out]; replace HBc := hide (HBc.out.trans (hbd.mono HBc.out.size)); replace HKc := hide (HKc.out.later hbd); clear hbd; have k0 := HKc.out.cell 0 _ rfl)))
    all_goals
      clear k0
      go_wp2_with fail
      go_ret
      exact ⟨rfl, HBc.out⟩

set_option maxRecDepth 100000 in
theorem isAs_any (A : Option Addr) (n c : Nat) (f : List (List Int)) (r : Bool) (w : World) (hn : f.length = n) (ht : Tbl f) (hr : Rd2 w A f) (hrc : r = true ↔ AsF f) :
    Calls Tryd.prog 53 #[.agg #[.slice A n c]] w fun e w' => e = .returned (.bool r) ∧ Below w.heap.size w w' := by
  have h1 : 1 ≤ n := by rw [← hn]; exact ht.1
  have h12 : n ≤ 12 := by rw [← hn]; exact ht.2.1
  obtain ⟨T, hT⟩ := FirstQ.ex (asq f) n
  have hiff : r = true ↔ T = n * n * n := by
    rw [hrc, hT.iff, ← asq_all, hn]
  have HI := hide hiff
  have HT := hide hT
  have HN := hide hn
  have HTB := hide ht
  have HR := hide hr
  have hnil : ∀ (u : World) (a : Option Addr) (n c : Nat), (binOp .eql 37 (.slice a n c) (.slice none 0 0)).run Tryd.prog u = .ok (.bool a.isNone) u := fun u a n c => Lib.run_eql_slice_nil u 37 _ a n c 0 0 Tryd.underlying37
  have HB0 := hide ((Below.refl _ w).alloc (Nat.le_refl _) (Obj.cells #[Value.slice A n c] 26))
  have HK0 := hide (Blk.new w 26 [.slice A n c])
  clear hn ht hr hrc hT hiff
  go_enter Tryd.func53, Tryd.ntmps53
  have k0 := HK0.out.cell 0 _ rfl
  go_wp2_with fail
  clear k0
  refine (gsize_any _ n _ _ (by omega)).mono ?_
  rintro e w2 ⟨rfl, hb2⟩
  have HB2 := hide (HB0.out.trans (hb2.mono HB0.out.size))
  have HK2 := hide (HK0.out.later hb2)
  clear hb2
  go_wp2_with fail
  refine (firstTriple_any 63 _ n (asq f) T _ (fun _ _ => rfl) h1 h12 (asC_any A n c f w.heap.size _ HN.out HTB.out (HR.out.later HB2.out) HK2.out) HT.out).mono ?_
  rintro e w3 (⟨hTe, rfl, hb3⟩ | ⟨hTl, g, rfl, hb3, hg, hob⟩)
  · have hrt : r = true := HI.out.2 hTe
    subst hrt
    have HB3 := hide (HB2.out.trans (hb3.mono HB2.out.size))
    clear hb3 hTe
    go_wp2_with fail
    go_ret
    exact ⟨rfl, HB3.out⟩
  · have hrf : r = false := by
      cases r
      · rfl
      · have := HI.out.1 rfl; omega
    subst hrf
    have HB3 := hide (HB2.out.trans (hb3.mono HB2.out.size))
    clear hb3 hTl hob
    go_wp2_with fail
    go_ret
    exact ⟨rfl, HB3.out⟩

set_option maxRecDepth 100000 in
theorem isGrp_any (A : Option Addr) (n c : Nat) (f : List (List Int)) (r : Bool) (w : World) (hn : f.length = n) (hb : n ≤ 1048576) (hbs : ∀ i, i < f.length → (f.getD i []).length ≤ 1048576) (hr : Rd2 w A f) (hrc : r = true ↔ Grp f) :
    Calls Tryd.prog 30 #[.agg #[.slice A n c]] w fun e w' => e = .returned (.bool r) ∧ Below w.heap.size w w' := by
  have HN := hide hn
  have HBS := hide hbs
  have HRD := hide hr
  have HR := hide hrc
  have HB0 := hide ((Below.refl _ w).alloc (Nat.le_refl _) (Obj.cells #[Value.slice A n c] 26))
  have HK0 := hide (Blk.new w 26 [.slice A n c])
  clear hn hbs hr hrc
  by_cases hc0 : Tbl f
  · have HT := hide hc0
    clear hc0
    by_cases hc1 : AllPrm f
    · have HP := hide hc1
      clear hc1
      by_cases hc2 : IdF f
      · have HI := hide hc2
        clear hc2
        by_cases hc3 : AsF f
        · have HS := hide hc3
          clear hc3
          have hrt : r = true := HR.out.2 ⟨⟨HT.out, HP.out⟩, HI.out, HS.out⟩
          subst hrt
          go_enter Tryd.func30, Tryd.ntmps30
          have k0 := HK0.out.cell 0 _ rfl
          go_wp2_with fail
          clear k0
          refine (isTable_any _ _ _ f true _ HN.out (by omega) (fun i hi => by have := HBS.out i hi; omega) (HRD.out.later HB0.out) ⟨fun _ => HT.out, fun _ => rfl⟩).mono ?_
          rintro e w1 ⟨rfl, hq⟩
          have HB1 := hide (HB0.out.trans (hq.below _))
          have HK1 := hide (HK0.out.later (hq.below _))
          clear hq
          have k0 := HK1.out.cell 0 _ rfl
          go_wp2_with fail
          clear k0
          refine (rowsI_any _ _ _ f true _ HN.out hb HBS.out (HRD.out.later HB1.out) ⟨fun _ => HP.out, fun _ => rfl⟩).mono ?_
          rintro e w2 ⟨rfl, hq⟩
          have HB2 := hide (HB1.out.trans (hq.mono HB1.out.size))
          have HK2 := hide (HK1.out.later hq)
          clear hq
          have k0 := HK2.out.cell 0 _ rfl
          go_wp2_with fail
          clear k0
          refine (hasId_any _ n _ f true _ HN.out HT.out (HRD.out.later HB2.out) ⟨fun _ => HI.out, fun _ => rfl⟩).mono ?_
          rintro e w3 ⟨rfl, hq⟩
          have HB3 := hide (HB2.out.trans (hq.mono HB2.out.size))
          have HK3 := hide (HK2.out.later hq)
          clear hq
          have k0 := HK3.out.cell 0 _ rfl
          go_wp2_with fail
          clear k0
          refine (isAs_any _ n _ f true _ HN.out HT.out (HRD.out.later HB3.out) ⟨fun _ => HS.out, fun _ => rfl⟩).mono ?_
          rintro e w4 ⟨rfl, hq⟩
          have HB4 := hide (HB3.out.trans (hq.mono HB3.out.size))
          have HK4 := hide (HK3.out.later hq)
          clear hq
          go_wp2_with fail
          go_ret
          exact ⟨rfl, HB4.out⟩
        · have HS := hide hc3
          clear hc3
          have hrf : r = false := by
            cases r
            · rfl
            · have h := HR.out.1 rfl
              exact absurd h.2.2 HS.out
          subst hrf
          go_enter Tryd.func30, Tryd.ntmps30
          have k0 := HK0.out.cell 0 _ rfl
          go_wp2_with fail
          clear k0
          refine (isTable_any _ _ _ f true _ HN.out (by omega) (fun i hi => by have := HBS.out i hi; omega) (HRD.out.later HB0.out) ⟨fun _ => HT.out, fun _ => rfl⟩).mono ?_
          rintro e w1 ⟨rfl, hq⟩
          have HB1 := hide (HB0.out.trans (hq.below _))
          have HK1 := hide (HK0.out.later (hq.below _))
          clear hq
          have k0 := HK1.out.cell 0 _ rfl
          go_wp2_with fail
          clear k0
          refine (rowsI_any _ _ _ f true _ HN.out hb HBS.out (HRD.out.later HB1.out) ⟨fun _ => HP.out, fun _ => rfl⟩).mono ?_
          rintro e w2 ⟨rfl, hq⟩
          have HB2 := hide (HB1.out.trans (hq.mono HB1.out.size))
          have HK2 := hide (HK1.out.later hq)
          clear hq
          have k0 := HK2.out.cell 0 _ rfl
          go_wp2_with fail
          clear k0
          refine (hasId_any _ n _ f true _ HN.out HT.out (HRD.out.later HB2.out) ⟨fun _ => HI.out, fun _ => rfl⟩).mono ?_
          rintro e w3 ⟨rfl, hq⟩
          have HB3 := hide (HB2.out.trans (hq.mono HB2.out.size))
          have HK3 := hide (HK2.out.later hq)
          clear hq
          have k0 := HK3.out.cell 0 _ rfl
          go_wp2_with fail
          clear k0
          refine (isAs_any _ n _ f false _ HN.out HT.out (HRD.out.later HB3.out) ⟨fun h => (by cases h), fun h => absurd h HS.out⟩).mono ?_
          rintro e w4 ⟨rfl, hq⟩
          have HB4 := hide (HB3.out.trans (hq.mono HB3.out.size))
          have HK4 := hide (HK3.out.later hq)
          clear hq
          go_wp2_with fail
          go_ret
          exact ⟨rfl, HB4.out⟩
      · have HI := hide hc2
        clear hc2
        have hrf : r = false := by
          cases r
          · rfl
          · have h := HR.out.1 rfl
            exact absurd h.2.1 HI.out
        subst hrf
        go_enter Tryd.func30, Tryd.ntmps30
        have k0 := HK0.out.cell 0 _ rfl
        go_wp2_with fail
        clear k0
        refine (isTable_any _ _ _ f true _ HN.out (by omega) (fun i hi => by have := HBS.out i hi; omega) (HRD.out.later HB0.out) ⟨fun _ => HT.out, fun _ => rfl⟩).mono ?_
        rintro e w1 ⟨rfl, hq⟩
        have HB1 := hide (HB0.out.trans (hq.below _))
        have HK1 := hide (HK0.out.later (hq.below _))
        clear hq
        have k0 := HK1.out.cell 0 _ rfl
        go_wp2_with fail
        clear k0
        refine (rowsI_any _ _ _ f true _ HN.out hb HBS.out (HRD.out.later HB1.out) ⟨fun _ => HP.out, fun _ => rfl⟩).mono ?_
        rintro e w2 ⟨rfl, hq⟩
        have HB2 := hide (HB1.out.trans (hq.mono HB1.out.size))
        have HK2 := hide (HK1.out.later hq)
        clear hq
        have k0 := HK2.out.cell 0 _ rfl
        go_wp2_with fail
        clear k0
        refine (hasId_any _ n _ f false _ HN.out HT.out (HRD.out.later HB2.out) ⟨fun h => (by cases h), fun h => absurd h HI.out⟩).mono ?_
        rintro e w3 ⟨rfl, hq⟩
        have HB3 := hide (HB2.out.trans (hq.mono HB2.out.size))
        have HK3 := hide (HK2.out.later hq)
        clear hq
        go_wp2_with fail
        go_ret
        exact ⟨rfl, HB3.out⟩
    · have HP := hide hc1
      clear hc1
      have hrf : r = false := by
        cases r
        · rfl
        · have h := HR.out.1 rfl
          exact absurd h.1.2 HP.out
      subst hrf
      go_enter Tryd.func30, Tryd.ntmps30
      have k0 := HK0.out.cell 0 _ rfl
      go_wp2_with fail
      clear k0
      refine (isTable_any _ _ _ f true _ HN.out (by omega) (fun i hi => by have := HBS.out i hi; omega) (HRD.out.later HB0.out) ⟨fun _ => HT.out, fun _ => rfl⟩).mono ?_
      rintro e w1 ⟨rfl, hq⟩
      have HB1 := hide (HB0.out.trans (hq.below _))
      have HK1 := hide (HK0.out.later (hq.below _))
      clear hq
      have k0 := HK1.out.cell 0 _ rfl
      go_wp2_with fail
      clear k0
      refine (rowsI_any _ _ _ f false _ HN.out hb HBS.out (HRD.out.later HB1.out) ⟨fun h => (by cases h), fun h => absurd h HP.out⟩).mono ?_
      rintro e w2 ⟨rfl, hq⟩
      have HB2 := hide (HB1.out.trans (hq.mono HB1.out.size))
      have HK2 := hide (HK1.out.later hq)
      clear hq
      go_wp2_with fail
      go_ret
      exact ⟨rfl, HB2.out⟩
  · have HT := hide hc0
    clear hc0
    have hrf : r = false := by
      cases r
      · rfl
      · have h := HR.out.1 rfl
        exact absurd h.1.1 HT.out
    subst hrf
    go_enter Tryd.func30, Tryd.ntmps30
    have k0 := HK0.out.cell 0 _ rfl
    go_wp2_with fail
    clear k0
    refine (isTable_any _ _ _ f false _ HN.out (by omega) (fun i hi => by have := HBS.out i hi; omega) (HRD.out.later HB0.out) ⟨fun h => (by cases h), fun h => absurd h HT.out⟩).mono ?_
    rintro e w1 ⟨rfl, hq⟩
    have HB1 := hide (HB0.out.trans (hq.below _))
    have HK1 := hide (HK0.out.later (hq.below _))
    clear hq
    go_wp2_with fail
    go_ret
    exact ⟨rfl, HB1.out⟩

end Go.Proofs.YtelildgngkajnaaDoor
namespace Go.Proofs.YtelildgngkajnaaDoor
open Go Go.RowKit
set_option maxHeartbeats 2000000
/-- A function value that makes products of a table. -/
def MadeFn (P : Program) (F : FuncId) (bnd lb : Array Value) (n : Nat) (f : List (List Int)) (w : World) : Prop :=
  ∀ (W : World) (x y : Nat), x < n → y < n → Below w.heap.size w W → Calls P F (bnd ++ (#[.int .i64 x, .int .i64 y] ++ lb)) W fun e w' => e = .returned (.int .i64 (ap f x y)) ∧ Below W.heap.size W w'

set_option maxRecDepth 100000 in
theorem grownF_any (F : FuncId) (bnd lb : Array Value) (n : Nat) (f : List (List Int)) (S : Nat) (w : World) (eg : ∀ args w, (callFunc F args).run Tryd.prog w = .ok (.enter F args) w) (h12 : n ≤ 12) (hap : ∀ x y, x < n → y < n → ap f x y < n) (hS : S < 2 ^ n) (hm : MadeFn Tryd.prog F bnd lb n f w) :
    Calls Tryd.prog 54 #[.int .i64 S, .func (.func F) bnd lb] w fun e w' => ∃ V : Nat, e = .returned (.int .i64 V) ∧ Below w.heap.size w w' ∧ GrF f S V ∧ V < 2 ^ n := by
  have hS12 : S < 4096 := Nat.lt_of_lt_of_le hS (pow_le n h12)
  have HAP := hide hap
  have HMF := hide hm
  have HS := hide hS
  have heg := hide eg
  clear hap hm hS eg
  obtain ⟨m, hm⟩ : ∃ m, (mems 12 S).length = m := ⟨_, rfl⟩
  have hm12 : m ≤ 12 := by rw [← hm]; exact mems_length 12 S
  have HM := hide hm
  clear hm
  go_enter Tryd.func54, Tryd.ntmps54
  go_wp2_with fail
  refine (membersOf_any S _ hS12).mono ?_
  rintro e w1 ⟨B, d, rfl, hb1, hres⟩
  have HB1 := hide hb1
  have HRS := hide hres.rd
  rw [HM.out]
  clear hb1 hres
  go_wp2_with fail
  go_loopw [0, 14] (fun s i wr => ∃ (k V : Nat), k ≤ m ∧ i = .int .i64 k ∧ s = .int .i64 V ∧ Below w1.heap.size w1 wr ∧ V < 2 ^ n ∧ GrQ f S k 0 V) (fun _ i _ => m - (intOf i).toNat)
  case atStart => exact ⟨0, S, Nat.zero_le _, rfl, rfl, Below.refl _ _, HS.out, GrQ.start f S⟩
  case round =>
    obtain ⟨k, V, hk, rfl, rfl, hbe, hV, hq⟩ := hrel
    have HB := hide hbe
    have HV := hide hV
    have HQ := hide hq
    clear hbe hV hq
    by_cases hlt : k < m
    · have hkz : (k : Int) < m := by omega
      obtain ⟨b, o, hBe, hbw, hc⟩ := HRS.out (by rw [memL_length, HM.out]; omega)
      subst hBe
      have HC : Hid (∀ i, i < m → w1.cell? ⟨b, o + i, none⟩ = some (.int .i64 (mel S i))) := hide (fun i hi => by rw [← mel_getD (by rw [HM.out]; exact hi)]; exact hc i (by rw [memL_length, HM.out]; exact hi))
      clear hc
      obtain ⟨x, hx⟩ : ∃ x, mel S k = x := ⟨_, rfl⟩
      have hxn : x < n := by rw [← hx]; exact inb_lt HS.out (mel_in (by rw [HM.out]; exact hlt))
      have c0 := (HB.out.cell (p := ⟨b, o + k, none⟩) hbw).trans (HC.out k hlt)
      rw [hx] at c0
      have HX := hide hx
      clear hx
      go_wp2_with fail
      clear c0
      go_loopw [0, 20] (fun s i wr => ∃ (j V : Nat), j ≤ m ∧ i = .int .i64 j ∧ s = .int .i64 V ∧ Below w1.heap.size w1 wr ∧ V < 2 ^ n ∧ GrQ f S k j V) (fun _ i _ => m - (intOf i).toNat)
      case atStart => exact ⟨0, V, Nat.zero_le _, rfl, rfl, HB.out, HV.out, HQ.out⟩
      case round =>
        clear HB HV HQ
        obtain ⟨j, V, hj, rfl, rfl, hbe, hV, hq⟩ := hrel
        have HB := hide hbe
        have HV := hide hV
        have HQ := hide hq
        clear hbe hV hq
        by_cases hltj : j < m
        · have hjz : (j : Int) < m := by omega
          obtain ⟨y, hy⟩ : ∃ y, mel S j = y := ⟨_, rfl⟩
          have hyn : y < n := by rw [← hy]; exact inb_lt HS.out (mel_in (by rw [HM.out]; exact hltj))
          have c1 := (HB.out.cell (p := ⟨b, o + j, none⟩) hbw).trans (HC.out j hltj)
          rw [hy] at c1
          have hv := HAP.out x y hxn hyn
          obtain ⟨v, hve⟩ : ∃ v, ap f x y = v := ⟨_, rfl⟩
          rw [hve] at hv
          have HU := hide hve
          have HSTEP : Hid (GrQ f S k (j + 1) (V ||| 2 ^ v)) := hide (HQ.out.step (by rw [HM.out]; exact hlt) (by rw [HM.out]; exact hltj) (by rw [HX.out, hy]; exact hve))
          have HV2 : Hid (V ||| 2 ^ v < 2 ^ n) := hide (or_lt HV.out hv)
          have hV12 : V < 4096 := Nat.lt_of_lt_of_le HV.out (pow_le n h12)
          obtain ⟨p, hp⟩ : ∃ p, 2 ^ v = p := ⟨_, rfl⟩
          have hp12 : p < 4096 := by rw [← hp]; exact Nat.lt_of_lt_of_le (Nat.pow_lt_pow_right (by decide) (by omega : v < 12)) (Nat.le_refl _)
          have g1 : (2 : Int) ^ v = (p : Int) := by rw [← hp]; simp
          have g2 := bt_or V p (by omega) (by omega)
          rw [hp] at HSTEP HV2
          obtain ⟨V2, hV2⟩ : ∃ V2, V ||| p = V2 := ⟨_, rfl⟩
          rw [hV2] at HSTEP HV2 g2
          have hV212 : V2 < 4096 := Nat.lt_of_lt_of_le HV2.out (pow_le n h12)
          clear hy hve hp hV2
          have g3 : IntKind.i64.wrap (p : Int) = (p : Int) := IntWalk.i64_in _ (by omega)
          have hegF := fun args => heg.out args
          go_wp2_with (go_at_fn F; go_must (refine calls_gen fun wc hwc => ?_; (first | have hbx := drew_below hwc | have hbx := eq_below hwc); have HBc := hide (HB.out.trans (hbx.mono HB.out.size)); clear hwc hbx; refine (HMF.out _ x y hxn hyn (HB1.out.trans (HBc.out.mono HB1.out.size))).mono ?_; rintro e w5 ⟨rfl, hb5⟩; rw [HU.out]; have HB5 := hide (HBc.out.trans (hb5.mono HBc.out.size)); clear hb5))
          clear c1 hegF
          go_wp2_with fail
          go_roundw
          case rel => exact ⟨j + 1, V2, by omega, by go_num, rfl, HB5.out, HV2.out, HSTEP.out⟩
          case measure => simp [intOf]; omega
        · have hjm : j = m := by omega
          subst hjm
          go_wp2_with fail
          go_roundw
          case rel => exact ⟨k + 1, V, by omega, by go_num, rfl, HB.out, HV.out, GrQ.next (by rw [HM.out]; exact HQ.out)⟩
          case measure => simp [intOf]; omega
    · have hkm : k = m := by omega
      subst hkm
      go_wp2_with fail
      go_ret
      exact ⟨V, rfl, HB1.out.trans (HB.out.mono HB1.out.size), GrQ.done hS12 (by rw [HM.out]; exact HQ.out), HV.out⟩
end Go.Proofs.YtelildgngkajnaaDoor
namespace Go.Proofs.YtelildgngkajnaaDoor
open Go Go.RowKit
set_option maxHeartbeats 4000000
set_option maxRecDepth 100000 in
theorem backS_any (A : Option Addr) (n c : Nat) (f : List (List Int)) (x : Nat) (w : World) (hn : f.length = n) (ht : Tbl f) (hp : AllPrm f) (hr : Rd2 w A f) (hx : x < n) :
    Calls Tryd.prog 47 #[.slice A n c, .int .i64 x] w fun e w' => e = .returned (.int .i64 (bk f x)) ∧ Quiet w w' := by
  have h1 : 1 ≤ n := by rw [← hn]; exact ht.1
  have h12 : n ≤ 12 := by rw [← hn]; exact ht.2.1
  have hok := bk_ok hn ht hp hx
  obtain ⟨b, o, hA, hbw, hc⟩ := rd_rows ht hr hn
  subst hA
  obtain ⟨Bx, cx, r1, hrd⟩ := hc x hx
  have HRL : Hid ((f.getD x []).length = n) := hide (ht.row_len hn hx)
  obtain ⟨row, hrow⟩ : ∃ row, f.getD x [] = row := ⟨_, rfl⟩
  rw [hrow] at hok HRL hrd
  have HRD := hide hrd
  have HOK := hide hok.2
  obtain ⟨u, hu⟩ : ∃ u, bk f x = u := ⟨_, rfl⟩
  rw [hu] at HOK ⊢
  have hxz : (x : Int) < n := by omega
  clear hn ht hp hr hc hrow hok hu hrd
  go_enter Tryd.func47, Tryd.ntmps47
  go_wp2_with fail
  clear r1
  refine (index_any _ n _ row 0 _ HRL.out (by omega) HRD.out).mono ?_
  rintro e w1 ⟨rfl, hq⟩
  rw [HOK.out]
  have HQ1 := hide hq
  clear hq
  go_wp2_with fail
  go_ret
  exact ⟨rfl, HQ1.out⟩
end Go.Proofs.YtelildgngkajnaaDoor
namespace Go.Proofs.YtelildgngkajnaaDoor
open Go Go.RowKit
set_option maxHeartbeats 2000000

set_option maxRecDepth 100000 in
theorem l04Closed_any (A : Option Addr) (n c : Nat) (f : List (List Int)) (S : Nat) (r : Bool) (w : World) (hn : f.length = n) (ht : Tbl f) (hr : Rd2 w A f) (hS : S < 2 ^ n) (hres : r = true ↔ ClosedF f S) :
    Calls Tryd.prog 26 #[.slice A n c, .int .i64 S] w fun e w' => e = .returned (.bool r) ∧ Below w.heap.size w w' := by
  have h1 : 1 ≤ n := by rw [← hn]; exact ht.1
  have h12 : n ≤ 12 := by rw [← hn]; exact ht.2.1
  have hS12 : S < 4096 := Nat.lt_of_lt_of_le hS (pow_le n h12)
  obtain ⟨bt, ot, hA, hbt, hct⟩ := ht.cells hr hn
  subst hA
  have HT := hide hct
  have HN := hide hn
  have HTB := hide ht
  have HRES := hide hres
  have HS := hide hS
  clear hn ht hr hct hres hS
  go_enter Tryd.func26, Tryd.ntmps26
  go_wp2_with fail
  go_loopw [5] (fun i wr => ∃ x : Nat, x ≤ n ∧ i = .int .i64 x ∧ Below w.heap.size w wr ∧ ∀ x', x' < x → ∀ y', y' < n → inb S x' → inb S y' → inb S (ap f x' y')) (fun i _ => n - (intOf i).toNat)
  case atStart => exact ⟨0, Nat.zero_le _, rfl, Below.refl _ _, fun i hi => absurd hi (Nat.not_lt_zero _)⟩
  case round =>
    obtain ⟨x, hxn', rfl, hbe, hall⟩ := hrel
    have HX := hide hbe
    have HALLX := hide hall
    clear hbe hall
    by_cases hltx : x < n
    · have hxz : (x : Int) < n := by omega
      go_wp2_with fail
      go_loopw [6] (fun i wr => ∃ y : Nat, y ≤ n ∧ i = .int .i64 y ∧ Below w.heap.size w wr ∧ ∀ y', y' < y → inb S x → inb S y' → inb S (ap f x y')) (fun i _ => n - (intOf i).toNat)
      case atStart => exact ⟨0, Nat.zero_le _, rfl, HX.out, fun i hi => absurd hi (Nat.not_lt_zero _)⟩
      case round =>
        obtain ⟨y, hyn', rfl, hbe, hall⟩ := hrel
        have HY := hide hbe
        have HALLY := hide hall
        clear hbe hall
        by_cases hlty : y < n
        · have hyz : (y : Int) < n := by omega
          by_cases ix : inb S x
          · have b1 := bt_in (by omega) ix
            by_cases iy : inb S y
            · have b2 := bt_in (by omega) iy
              have hv := HTB.out.ap_lt HN.out hltx hlty
              obtain ⟨bx, ox, cx, rx, lx, gx⟩ := HT.out x hltx
              have t1 := gx y hlty
              obtain ⟨v, hve⟩ : ∃ v, ap f x y = v := ⟨_, rfl⟩
              rw [hve] at t1 hv
              replace rx := (HY.out.cell (p := ⟨bt, ot + x, none⟩) hbt).trans rx
              replace t1 := (HY.out.cell (p := ⟨bx, ox + y, none⟩) lx).trans t1
              have HU := hide hve
              have HIX := hide ix
              have HIY := hide iy
              clear gx hve ix iy
              by_cases iv : inb S v
              · have b3 := bt_in (by omega) iv
                have HIV := hide iv
                clear iv
                go_wp2_with fail
                go_roundw
                case rel => exact ⟨y + 1, by omega, by go_num, HY.out, fun i hi => by
                  by_cases e : i = y
                  · rw [e]; exact fun _ _ => by rw [HU.out]; exact HIV.out
                  · exact HALLY.out i (by omega)⟩
                case measure => simp [intOf]; omega
              · have b3 := bt_out (by omega) iv
                have hrf : r = false := by
                  cases r
                  · rfl
                  · exact absurd (by have h := HRES.out.1 rfl x y HIX.out HIY.out; rw [HU.out] at h; exact h) iv
                subst hrf
                clear iv
                go_wp2_with fail
                go_ret
                exact ⟨rfl, HY.out⟩
            · have b2 := bt_out (by omega) iy
              have HIY := hide iy
              clear iy ix
              go_wp2_with fail
              go_roundw
              case rel => exact ⟨y + 1, by omega, by go_num, HY.out, fun i hi => by
                by_cases e : i = y
                · rw [e]; exact fun _ h => absurd h HIY.out
                · exact HALLY.out i (by omega)⟩
              case measure => simp [intOf]; omega
          · have b1 := bt_out (by omega) ix
            have HIX := hide ix
            clear ix
            go_wp2_with fail
            go_roundw
            case rel => exact ⟨y + 1, by omega, by go_num, HY.out, fun i hi => fun h => absurd h HIX.out⟩
            case measure => simp [intOf]; omega
        · have hye : y = n := by omega
          subst hye
          go_wp2_with fail
          go_roundw
          case rel => exact ⟨x + 1, by omega, by go_num, HY.out, fun i hi => by
            by_cases e : i = x
            · rw [e]; exact HALLY.out
            · exact HALLX.out i (by omega)⟩
          case measure => simp [intOf]; omega
    · have hxe : x = n := by omega
      subst hxe
      have hrt : r = true := HRES.out.2 (fun a b ha hb => HALLX.out a (inb_lt HS.out ha) b (inb_lt HS.out hb) ha hb)
      subst hrt
      go_wp2_with fail
      go_ret
      exact ⟨rfl, HX.out⟩
end Go.Proofs.YtelildgngkajnaaDoor
