import Derived.Test.YtocdcibfbecdgabPmoI
import Derived.Test.YtocdcibfbecdgabTwF
import Derived.Test.YtocdcibfbecdgabZEnd
import Derived.Test.YtocdcibfbecdgabPrm
import Derived.Test.YtocdcibfbecdgabThenI
import Derived.Test.YtocdcibfbecdgabEqlI
import Derived.Test.YtocdcibfbecdgabHeld
namespace Go.Proofs.Ytocdcibfbecdgab
open Go Go.RowKit
set_option maxHeartbeats 4000000
set_option maxRecDepth 100000

/-- The closure: its variables p and q lie in blocks of their own. -/
theorem twC_any (A : Option Addr) (n c : Nat) (p : List Int) (B : Option Addr) (d : Nat) (q : List Int) (b1 b2 : Nat) (t1 t2 : TypeId) (w : World) (hn : p.length = n) (hm : q.length = n) (hp : Rd w A p) (hq : Rd w B q) (hk1 : Blk w b1 t1 [.slice A n c]) (hk2 : Blk w b2 t2 [.slice B n d]) (h12 : n ≤ 12) :
    PairFn Try.prog 67 #[.pointer (some ⟨b1, 0, none⟩), .pointer (some ⟨b2, 0, none⟩)] n (tw1 p) (tw2 q) w := by
  intro W x y hx hy hb
  have HN := hide hn
  have HM := hide hm
  have HP := hide (hp.later hb)
  have HQ := hide (hq.later hb)
  have HK1 := hide (hk1.later hb)
  have HK2 := hide (hk2.later hb)
  clear hn hm hp hq hk1 hk2 hb
  show Calls Try.prog 67 #[.agg #[.int .i64 x, .int .i64 y], .pointer (some ⟨b1, 0, none⟩), .pointer (some ⟨b2, 0, none⟩)] W _
  unfold tw1 tw2
  obtain ⟨u, hu⟩ : ∃ u, p.getD y 0 = u := ⟨_, rfl⟩
  obtain ⟨v, hv⟩ : ∃ v, q.getD x 0 = v := ⟨_, rfl⟩
  rw [hu, hv]
  have HU := hide hu
  have HV := hide hv
  clear hu hv
  go_enter Try.func67, Try.ntmps67
  go_wp2_with fail
  refine wp_gen fun w1 hw1 => ?_
  have hb1 : Below W.heap.size W w1 := by rw [hw1]; exact ((Below.refl _ _).alloc (Nat.le_refl _) _).alloc (by simp) _
  have HQ1 : Hid (Blk w1 W.heap.size 59 [.int .i64 x, .int .i64 y]) := hide (by rw [hw1]; exact (Blk.new _ _ _).alloc _)
  have HR : Hid (Blk w1 (W.heap.size + 1) 59 [.int .i64 0, .int .i64 0]) := hide (by rw [hw1]; have h := Blk.new (W.alloc (Obj.cells #[Value.int IntKind.i64 x, Value.int IntKind.i64 y] 59)) 59 [.int .i64 0, .int .i64 0]; simpa using h)
  obtain ⟨ba, oa, rfl, hba, hca⟩ := HP.out (by have := HN.out; omega)
  obtain ⟨bq, oq, rfl, hbq, hcq⟩ := HQ.out (by have := HM.out; omega)
  have p0 := hca y (by have := HN.out; omega)
  have p1 := hcq x (by have := HM.out; omega)
  rw [HU.out] at p0
  rw [HV.out] at p1
  have p2 : w1.cell? ⟨ba, oa + y, none⟩ = some (.int .i64 u) := (hb1.cell (p := ⟨ba, oa + y, none⟩) hba).trans p0
  have p3 : w1.cell? ⟨bq, oq + x, none⟩ = some (.int .i64 v) := (hb1.cell (p := ⟨bq, oq + x, none⟩) hbq).trans p1
  have k0 := (HK1.out.later hb1).cell 0 _ rfl
  have k1 := (HK2.out.later hb1).cell 0 _ rfl
  have l1 : b1 < W.heap.size := HK1.out.lt
  have l2 : b2 < W.heap.size := HK2.out.lt
  have k2 := HQ1.out.cell 0 _ rfl
  have k3 := HQ1.out.cell 1 _ rfl
  have k4 := HR.out.cell 0 _ rfl
  have k5 := HR.out.cell 1 _ rfl
  have k6 := HR.out.frozen 0
  have k7 := HR.out.frozen 1
  have j1 : W.heap.size + 1 ≠ b1 := by omega
  have j2 : W.heap.size + 1 ≠ b2 := by omega
  have j3 : W.heap.size + 1 ≠ ba := by omega
  have j4 : W.heap.size + 1 ≠ bq := by omega
  have m1 := j1.symm
  have m2 := j2.symm
  have m3 := j3.symm
  have m4 := j4.symm
  have hxz : (x : Int) < n := by omega
  have hyz : (y : Int) < n := by omega
  have hxz0 : (0 : Int) ≤ x := by omega
  have hyz0 : (0 : Int) ≤ y := by omega
  have HBc := hide hb1
  clear hw1 hb1 hca hcq p0 p1
  go_region_held3 (fun w' => w'.cell? ⟨b1, 0, none⟩ = some (.slice (some ⟨ba, oa, none⟩) n c) ∧ w'.cell? ⟨b2, 0, none⟩ = some (.slice (some ⟨bq, oq, none⟩) n d) ∧ w'.cell? ⟨W.heap.size, 0, none⟩ = some (.int .i64 x) ∧ w'.cell? ⟨W.heap.size, 1, none⟩ = some (.int .i64 y) ∧ w'.cell? ⟨ba, oa + y, none⟩ = some (.int .i64 u) ∧ w'.cell? ⟨bq, oq + x, none⟩ = some (.int .i64 v)) (first | exact ⟨k0, k1, k2, k3, p2, p3⟩ | go_keep) (first | fail)
  clear j1 j2 j3 j4 m1 m2 m3 m4 k0 k1 k2 k3 k4 k5 k6 k7 p2 p3
  go_wp2_with fail
  refine bp_gen fun wf hwf => ?_
  have HRF : Blk wf (W.heap.size + 1) 59 [.int .i64 u, .int .i64 v] := by rw [hwf]; first | exact ((HR.out.set 0 _).set 1 _) | exact ((HR.out.set 0 _).set 1 _).drew
  have HBF : Below W.heap.size W wf := by rw [hwf]; first | exact (HBc.out.setCell (p := ⟨W.heap.size + 1, 0, none⟩) (by show W.heap.size ≤ W.heap.size + 1; omega) _).setCell (p := ⟨W.heap.size + 1, 1, none⟩) (by show W.heap.size ≤ W.heap.size + 1; omega) _ | exact ((HBc.out.setCell (p := ⟨W.heap.size + 1, 0, none⟩) (by show W.heap.size ≤ W.heap.size + 1; omega) _).setCell (p := ⟨W.heap.size + 1, 1, none⟩) (by show W.heap.size ≤ W.heap.size + 1; omega) _).drew
  have q0 := HRF.cell 0 _ rfl
  have q1 := HRF.cell 1 _ rfl
  clear hwf
  exact bodyPost_ret (v := .agg #[.int .i64 u, .int .i64 v]) (by simp [results, Try.results67, go_sem, q0, q1]) rfl ⟨rfl, HBF⟩

theorem twWI_any (A : Option Addr) (n c : Nat) (p : List Int) (B : Option Addr) (m d : Nat) (q : List Int) (zf zg : List (List Int)) (code : Int) (kz kw : Nat) (w : World) (hn : p.length = n) (hb : n ≤ 1048576) (hp : Rd w A p) (hm : q.length = m) (hb2 : m ≤ 1048576) (hq : Rd w B q) (hr : TwRes p q zf zg code) (hk : ZSz 1048576 zf kz zg kw) :
    Calls Try.prog 25 #[.slice A n c, .slice B m d] w (ZPost 35 2 kz kw zf zg code w) := by
  have HN := hide hn
  have HM := hide hm
  by_cases h1 : Prm p
  · have HPP := hide h1
    by_cases h2 : Prm q
    · have HPQ := hide h2
      by_cases h3 : n = m
      · subst h3
        have h12 : n ≤ 12 := by have := h1.2.1; omega
        have h1n : 1 ≤ n := by have := h1.1; omega
        have HPI : Hid (∀ x ∈ p, 0 ≤ x ∧ x < (n : Int)) := hide (by have := h1.2.2.1; rw [hn] at this; exact this)
        have HQI : Hid (∀ x ∈ q, 0 ≤ x ∧ x < (n : Int)) := hide (by have := h2.2.2.1; rw [hm] at this; exact this)
        have hgood : Perms2 p q := ⟨h1, h2, by omega⟩
        have hne : ((n : Int) != (n : Int)) = false := by simp
        by_cases h4 : thenL p q = thenL q p
        · rcases hr with ⟨_, _, rfl, rfl, rfl⟩ | ⟨_, h, _⟩ | ⟨h, _⟩
          · obtain rfl : kz = n := by rw [← hk.fl, grid_length, hn]
            obtain rfl : kw = kz := by rw [← hk.sl, grid_length, hn]
            have H4 := hide h4
            clear hk hn hm h1 h2 h4 hgood
            go_enter Try.func25, Try.ntmps25
            go_wp2_with fail
            refine calls_gen fun w0 hw0 => ?_
            have hb0 : Below w.heap.size w w0 := by rw [hw0]; exact (((Below.refl _ _).alloc (Nat.le_refl _) _).alloc (by simp) _).alloc (by simp; omega) _
            have HB := hide hb0
            have HKA : Hid (Blk w0 w.heap.size 35 [.slice A kw c]) := hide (by rw [hw0]; exact ((Blk.new _ _ _).alloc _).alloc _)
            have HKB : Hid (Blk w0 (w.heap.size + 1) 35 [.slice B kw d]) := hide (by rw [hw0]; have h := (Blk.new (w.alloc (Obj.cells #[Value.slice A kw c] 35)) 35 [.slice B kw d]).alloc (Obj.cells #[Value.slice none 0 0, Value.slice none 0 0] 26); simpa using h)
            have HR : Hid (Blk w0 (w.heap.size + 1 + 1) 26 [.slice none 0 0, .slice none 0 0]) := hide (by rw [hw0]; have h := Blk.new ((w.alloc (Obj.cells #[Value.slice A kw c] 35)).alloc (Obj.cells #[Value.slice B kw d] 35)) 26 [.slice none 0 0, .slice none 0 0]; simpa using h)
            clear hw0 hb0
            have ka := HKA.out.cell 0 _ rfl
            have kb := HKB.out.cell 0 _ rfl
            refine (isPerm_any _ _ _ p true _ HN.out (by omega) (hp.later HB.out) (by simp [HPP.out])).mono ?_
            rintro e wd ⟨rfl, hbd⟩
            replace HKA := hide (HKA.out.later hbd)
            replace HKB := hide (HKB.out.later hbd)
            replace HR := hide (HR.out.later hbd)
            have HB' := hide (HB.out.trans (hbd.mono HB.out.size))
            replace HB := HB'
            clear HB' hbd
            have ka := HKA.out.cell 0 _ rfl
            have kb := HKB.out.cell 0 _ rfl
            go_wp2_with fail
            clear ka kb
            refine (isPerm_any _ _ _ q true _ HM.out (by omega) (hq.later HB.out) (by simp [HPQ.out])).mono ?_
            rintro e wd ⟨rfl, hbd⟩
            replace HKA := hide (HKA.out.later hbd)
            replace HKB := hide (HKB.out.later hbd)
            replace HR := hide (HR.out.later hbd)
            have HB' := hide (HB.out.trans (hbd.mono HB.out.size))
            replace HB := HB'
            clear HB' hbd
            have ka := HKA.out.cell 0 _ rfl
            have kb := HKB.out.cell 0 _ rfl
            go_wp2_with fail
            clear ka kb
            have tok1 : True := trivial
            have ka := HKA.out.cell 0 _ rfl
            have kb := HKB.out.cell 0 _ rfl
            go_region_held3 (fun w' => w'.cell? ⟨w.heap.size, 0, none⟩ = some (.slice A kw c) ∧ w'.cell? ⟨w.heap.size + 1, 0, none⟩ = some (.slice B kw d)) (first | exact ⟨ka, kb⟩ | go_keep) (first | (go_at_call 66; have _t := tok1; clear _t tok1; go_must (refine calls_gen fun wc hwc => ?_; (first | have hbx := drew_below hwc | have hbx := eq_below hwc); replace HB := hide (HB.out.trans (hbx.mono HB.out.size)); replace HKA := hide (HKA.out.later hbx); replace HKB := hide (HKB.out.later hbx); replace HR := hide (HR.out.later hbx); clear hwc hbx; refine (then_any' _ _ _ _ _ _ p q _ HN.out HM.out hb hb2 (hp.later HB.out) (hq.later HB.out) HPI.out).mono ?_; rintro e wd ⟨A1, c1, rfl, hbd, hres⟩; replace HB := hide (HB.out.trans (hbd.mono HB.out.size)); replace HKA := hide (HKA.out.later hbd); replace HKB := hide (HKB.out.later hbd); replace HR := hide (HR.out.later hbd); clear hbd; have ka := HKA.out.cell 0 _ rfl; have kb := HKB.out.cell 0 _ rfl; have HR1 := hide hres; clear hres)) | (go_at_call 66; go_must (refine calls_gen fun wc hwc => ?_; (first | have hbx := drew_below hwc | have hbx := eq_below hwc); replace HB := hide (HB.out.trans (hbx.mono HB.out.size)); replace HKA := hide (HKA.out.later hbx); replace HKB := hide (HKB.out.later hbx); replace HR := hide (HR.out.later hbx); replace HR1 := hide (HR1.out.later hbx); clear hwc hbx; refine (then_any' _ _ _ _ _ _ q p _ HM.out HN.out hb2 hb (hq.later HB.out) (hp.later HB.out) HQI.out).mono ?_; rintro e wd ⟨A2, c2, rfl, hbd, hres⟩; replace HB := hide (HB.out.trans (hbd.mono HB.out.size)); replace HKA := hide (HKA.out.later hbd); replace HKB := hide (HKB.out.later hbd); replace HR := hide (HR.out.later hbd); replace HR1 := hide (HR1.out.later hbd); clear hbd; have ka := HKA.out.cell 0 _ rfl; have kb := HKB.out.cell 0 _ rfl; have HR2 := hide hres; clear hres)) | (go_at_call 65; go_must (refine (eql_any _ _ _ _ _ _ (thenL p q) (thenL q p) true _ (by rw [thenL_length]; exact HN.out) (by rw [thenL_length]; exact HM.out) (by omega) (by omega) HR1.out.rd HR2.out.rd (by simp [H4.out])).mono ?_; rintro e we ⟨rfl, hqd⟩; have hbd := hqd.below wd.heap.size; replace HB := hide (HB.out.trans (hbd.mono HB.out.size)); replace HKA := hide (HKA.out.later hbd); replace HKB := hide (HKB.out.later hbd); replace HR := hide (HR.out.later hbd); clear hqd hbd; have ka := HKA.out.cell 0 _ rfl; have kb := HKB.out.cell 0 _ rfl)))
            go_wp2_with fail
            clear ka kb
            have ka := HKA.out.cell 0 _ rfl
            have kb := HKB.out.cell 0 _ rfl
            refine (pmo_any 67 _ _ (tw1 p) (tw2 q) _ (enters_of Try.func67 (by kernel_rfl) rfl) h1n h12 (twC_any _ _ _ p _ _ q w.heap.size (w.heap.size + 1) _ _ _ HN.out HM.out (hp.later HB.out) (hq.later HB.out) HKA.out HKB.out h12)).mono ?_
            rintro e w3 ⟨A3, c3, B3, d3, rfl, hb3, ho3⟩
            have HB3 := hide (HB.out.trans (hb3.mono HB.out.size))
            have HR3 := hide (HR.out.later hb3)
            have HO3 := hide ho3
            have k2 := HR3.out.cell 0 _ rfl
            have k3 := HR3.out.cell 1 _ rfl
            have k4 := HR3.out.frozen 0
            have k5 := HR3.out.frozen 1
            clear hb3 ho3
            go_wp2_with fail
            refine bp_gen fun wf hwf => ?_
            obtain ⟨q0, q1, hbf, hof⟩ := zend hwf HR3.out (by omega) HR.out.lt HB3.out HB.out.size HO3.out
            clear hwf k2 k3 k4 k5
            rw [HN.out]
            exact bodyPost_ret (v := .tuple #[.agg #[.slice A3 kw c3, .slice B3 kw d3], .int .i64 0]) (by simp [results, Try.results25, go_sem, q0, q1]) rfl ⟨_, _, _, _, rfl, hbf, hof⟩
          · exact absurd h4 h
          · exact absurd hgood h
        · rcases hr with ⟨_, h, _⟩ | ⟨_, _, rfl, rfl, rfl⟩ | ⟨h, _⟩
          · exact absurd h h4
          · have H4 := hide h4
            clear hn hm h1 h2 h4 hgood
            obtain rfl : kz = 0 := by simpa using hk.fl.symm
            obtain rfl : kw = 0 := by simpa using hk.sl.symm
            clear hk
            go_enter Try.func25, Try.ntmps25
            go_wp2_with fail
            refine calls_gen fun w0 hw0 => ?_
            have hb0 : Below w.heap.size w w0 := by rw [hw0]; exact (((Below.refl _ _).alloc (Nat.le_refl _) _).alloc (by simp) _).alloc (by simp; omega) _
            have HB := hide hb0
            have HKA : Hid (Blk w0 w.heap.size 35 [.slice A n c]) := hide (by rw [hw0]; exact ((Blk.new _ _ _).alloc _).alloc _)
            have HKB : Hid (Blk w0 (w.heap.size + 1) 35 [.slice B n d]) := hide (by rw [hw0]; have h := (Blk.new (w.alloc (Obj.cells #[Value.slice A n c] 35)) 35 [.slice B n d]).alloc (Obj.cells #[Value.slice none 0 0, Value.slice none 0 0] 26); simpa using h)
            have HR : Hid (Blk w0 (w.heap.size + 1 + 1) 26 [.slice none 0 0, .slice none 0 0]) := hide (by rw [hw0]; have h := Blk.new ((w.alloc (Obj.cells #[Value.slice A n c] 35)).alloc (Obj.cells #[Value.slice B n d] 35)) 26 [.slice none 0 0, .slice none 0 0]; simpa using h)
            clear hw0 hb0
            have ka := HKA.out.cell 0 _ rfl
            have kb := HKB.out.cell 0 _ rfl
            refine (isPerm_any _ _ _ p true _ HN.out (by omega) (hp.later HB.out) (by simp [HPP.out])).mono ?_
            rintro e wd ⟨rfl, hbd⟩
            replace HKA := hide (HKA.out.later hbd)
            replace HKB := hide (HKB.out.later hbd)
            replace HR := hide (HR.out.later hbd)
            have HB' := hide (HB.out.trans (hbd.mono HB.out.size))
            replace HB := HB'
            clear HB' hbd
            have ka := HKA.out.cell 0 _ rfl
            have kb := HKB.out.cell 0 _ rfl
            go_wp2_with fail
            clear ka kb
            refine (isPerm_any _ _ _ q true _ HM.out (by omega) (hq.later HB.out) (by simp [HPQ.out])).mono ?_
            rintro e wd ⟨rfl, hbd⟩
            replace HKA := hide (HKA.out.later hbd)
            replace HKB := hide (HKB.out.later hbd)
            replace HR := hide (HR.out.later hbd)
            have HB' := hide (HB.out.trans (hbd.mono HB.out.size))
            replace HB := HB'
            clear HB' hbd
            have ka := HKA.out.cell 0 _ rfl
            have kb := HKB.out.cell 0 _ rfl
            go_wp2_with fail
            clear ka kb
            have tok1 : True := trivial
            have ka := HKA.out.cell 0 _ rfl
            have kb := HKB.out.cell 0 _ rfl
            go_region_held3 (fun w' => w'.cell? ⟨w.heap.size, 0, none⟩ = some (.slice A n c) ∧ w'.cell? ⟨w.heap.size + 1, 0, none⟩ = some (.slice B n d)) (first | exact ⟨ka, kb⟩ | go_keep) (first | (go_at_call 66; have _t := tok1; clear _t tok1; go_must (refine calls_gen fun wc hwc => ?_; (first | have hbx := drew_below hwc | have hbx := eq_below hwc); replace HB := hide (HB.out.trans (hbx.mono HB.out.size)); replace HKA := hide (HKA.out.later hbx); replace HKB := hide (HKB.out.later hbx); replace HR := hide (HR.out.later hbx); clear hwc hbx; refine (then_any' _ _ _ _ _ _ p q _ HN.out HM.out hb hb2 (hp.later HB.out) (hq.later HB.out) HPI.out).mono ?_; rintro e wd ⟨A1, c1, rfl, hbd, hres⟩; replace HB := hide (HB.out.trans (hbd.mono HB.out.size)); replace HKA := hide (HKA.out.later hbd); replace HKB := hide (HKB.out.later hbd); replace HR := hide (HR.out.later hbd); clear hbd; have ka := HKA.out.cell 0 _ rfl; have kb := HKB.out.cell 0 _ rfl; have HR1 := hide hres; clear hres)) | (go_at_call 66; go_must (refine calls_gen fun wc hwc => ?_; (first | have hbx := drew_below hwc | have hbx := eq_below hwc); replace HB := hide (HB.out.trans (hbx.mono HB.out.size)); replace HKA := hide (HKA.out.later hbx); replace HKB := hide (HKB.out.later hbx); replace HR := hide (HR.out.later hbx); replace HR1 := hide (HR1.out.later hbx); clear hwc hbx; refine (then_any' _ _ _ _ _ _ q p _ HM.out HN.out hb2 hb (hq.later HB.out) (hp.later HB.out) HQI.out).mono ?_; rintro e wd ⟨A2, c2, rfl, hbd, hres⟩; replace HB := hide (HB.out.trans (hbd.mono HB.out.size)); replace HKA := hide (HKA.out.later hbd); replace HKB := hide (HKB.out.later hbd); replace HR := hide (HR.out.later hbd); replace HR1 := hide (HR1.out.later hbd); clear hbd; have ka := HKA.out.cell 0 _ rfl; have kb := HKB.out.cell 0 _ rfl; have HR2 := hide hres; clear hres)) | (go_at_call 65; go_must (refine (eql_any _ _ _ _ _ _ (thenL p q) (thenL q p) false _ (by rw [thenL_length]; exact HN.out) (by rw [thenL_length]; exact HM.out) (by omega) (by omega) HR1.out.rd HR2.out.rd (by simp [H4.out])).mono ?_; rintro e we ⟨rfl, hqd⟩; have hbd := hqd.below wd.heap.size; replace HB := hide (HB.out.trans (hbd.mono HB.out.size)); replace HKA := hide (HKA.out.later hbd); replace HKB := hide (HKB.out.later hbd); replace HR := hide (HR.out.later hbd); clear hqd hbd; have ka := HKA.out.cell 0 _ rfl; have kb := HKB.out.cell 0 _ rfl)))
            have k2 := HR.out.cell 0 _ rfl
            have k3 := HR.out.cell 1 _ rfl
            have k4 := HR.out.frozen 0
            have k5 := HR.out.frozen 1
            go_wp2_with fail
            clear ka kb
            refine bp_gen fun wf hwf => ?_
            obtain ⟨q0, q1, hbf, hof⟩ := zend (ts := 35) (t := 2) (w2 := we) hwf HR.out (by omega) HR.out.lt HB.out HB.out.size (ObjZ.empty (Nat.le_refl _))
            clear hwf k2 k3 k4 k5
            exact bodyPost_ret (v := .tuple #[.agg #[.slice none 0 0, .slice none 0 0], .int .i64 5]) (by simp [results, Try.results25, go_sem, q0, q1]) rfl ⟨_, _, _, _, rfl, hbf, hof⟩
          · exact absurd hgood h
      · rcases hr with ⟨h, _⟩ | ⟨h, _⟩ | ⟨_, rfl, rfl, rfl⟩
        · exact absurd (by have := h.2.2; omega) h3
        · exact absurd (by have := h.2.2; omega) h3
        · have hne : ((n : Int) != (m : Int)) = true := by simp; omega
          clear hn hm h1 h2 h3
          obtain rfl : kz = 0 := by simpa using hk.fl.symm
          obtain rfl : kw = 0 := by simpa using hk.sl.symm
          clear hk
          go_enter Try.func25, Try.ntmps25
          go_wp2_with fail
          refine calls_gen fun w0 hw0 => ?_
          have hb0 : Below w.heap.size w w0 := by rw [hw0]; exact (((Below.refl _ _).alloc (Nat.le_refl _) _).alloc (by simp) _).alloc (by simp; omega) _
          have HB := hide hb0
          have HKA : Hid (Blk w0 w.heap.size 35 [.slice A n c]) := hide (by rw [hw0]; exact ((Blk.new _ _ _).alloc _).alloc _)
          have HKB : Hid (Blk w0 (w.heap.size + 1) 35 [.slice B m d]) := hide (by rw [hw0]; have h := (Blk.new (w.alloc (Obj.cells #[Value.slice A n c] 35)) 35 [.slice B m d]).alloc (Obj.cells #[Value.slice none 0 0, Value.slice none 0 0] 26); simpa using h)
          have HR : Hid (Blk w0 (w.heap.size + 1 + 1) 26 [.slice none 0 0, .slice none 0 0]) := hide (by rw [hw0]; have h := Blk.new ((w.alloc (Obj.cells #[Value.slice A n c] 35)).alloc (Obj.cells #[Value.slice B m d] 35)) 26 [.slice none 0 0, .slice none 0 0]; simpa using h)
          clear hw0 hb0
          have ka := HKA.out.cell 0 _ rfl
          have kb := HKB.out.cell 0 _ rfl
          refine (isPerm_any _ _ _ p true _ HN.out (by omega) (hp.later HB.out) (by simp [HPP.out])).mono ?_
          rintro e wd ⟨rfl, hbd⟩
          replace HKA := hide (HKA.out.later hbd)
          replace HKB := hide (HKB.out.later hbd)
          replace HR := hide (HR.out.later hbd)
          have HB' := hide (HB.out.trans (hbd.mono HB.out.size))
          replace HB := HB'
          clear HB' hbd
          have ka := HKA.out.cell 0 _ rfl
          have kb := HKB.out.cell 0 _ rfl
          go_wp2_with fail
          clear ka kb
          refine (isPerm_any _ _ _ q true _ HM.out (by omega) (hq.later HB.out) (by simp [HPQ.out])).mono ?_
          rintro e wd ⟨rfl, hbd⟩
          replace HKA := hide (HKA.out.later hbd)
          replace HKB := hide (HKB.out.later hbd)
          replace HR := hide (HR.out.later hbd)
          have HB' := hide (HB.out.trans (hbd.mono HB.out.size))
          replace HB := HB'
          clear HB' hbd
          have ka := HKA.out.cell 0 _ rfl
          have kb := HKB.out.cell 0 _ rfl
          have k2 := HR.out.cell 0 _ rfl
          have k3 := HR.out.cell 1 _ rfl
          have k4 := HR.out.frozen 0
          have k5 := HR.out.frozen 1
          go_wp2_with fail
          clear ka kb
          refine bp_gen fun wf hwf => ?_
          obtain ⟨q0, q1, hbf, hof⟩ := zend (ts := 35) (t := 2) (w2 := wd) hwf HR.out (by omega) HR.out.lt HB.out HB.out.size (ObjZ.empty (Nat.le_refl _))
          clear hwf k2 k3 k4 k5
          exact bodyPost_ret (v := .tuple #[.agg #[.slice none 0 0, .slice none 0 0], .int .i64 2]) (by simp [results, Try.results25, go_sem, q0, q1]) rfl ⟨_, _, _, _, rfl, hbf, hof⟩
    · rcases hr with ⟨h, _⟩ | ⟨h, _⟩ | ⟨_, rfl, rfl, rfl⟩
      · exact absurd h.2.1 h2
      · exact absurd h.2.1 h2
      · have HPQ := hide h2
        clear hn hm h1 h2
        obtain rfl : kz = 0 := by simpa using hk.fl.symm
        obtain rfl : kw = 0 := by simpa using hk.sl.symm
        clear hk
        go_enter Try.func25, Try.ntmps25
        go_wp2_with fail
        refine calls_gen fun w0 hw0 => ?_
        have hb0 : Below w.heap.size w w0 := by rw [hw0]; exact (((Below.refl _ _).alloc (Nat.le_refl _) _).alloc (by simp) _).alloc (by simp; omega) _
        have HB := hide hb0
        have HKA : Hid (Blk w0 w.heap.size 35 [.slice A n c]) := hide (by rw [hw0]; exact ((Blk.new _ _ _).alloc _).alloc _)
        have HKB : Hid (Blk w0 (w.heap.size + 1) 35 [.slice B m d]) := hide (by rw [hw0]; have h := (Blk.new (w.alloc (Obj.cells #[Value.slice A n c] 35)) 35 [.slice B m d]).alloc (Obj.cells #[Value.slice none 0 0, Value.slice none 0 0] 26); simpa using h)
        have HR : Hid (Blk w0 (w.heap.size + 1 + 1) 26 [.slice none 0 0, .slice none 0 0]) := hide (by rw [hw0]; have h := Blk.new ((w.alloc (Obj.cells #[Value.slice A n c] 35)).alloc (Obj.cells #[Value.slice B m d] 35)) 26 [.slice none 0 0, .slice none 0 0]; simpa using h)
        clear hw0 hb0
        have ka := HKA.out.cell 0 _ rfl
        have kb := HKB.out.cell 0 _ rfl
        refine (isPerm_any _ _ _ p true _ HN.out (by omega) (hp.later HB.out) (by simp [HPP.out])).mono ?_
        rintro e wd ⟨rfl, hbd⟩
        replace HKA := hide (HKA.out.later hbd)
        replace HKB := hide (HKB.out.later hbd)
        replace HR := hide (HR.out.later hbd)
        have HB' := hide (HB.out.trans (hbd.mono HB.out.size))
        replace HB := HB'
        clear HB' hbd
        have ka := HKA.out.cell 0 _ rfl
        have kb := HKB.out.cell 0 _ rfl
        go_wp2_with fail
        clear ka kb
        refine (isPerm_any _ _ _ q false _ HM.out (by omega) (hq.later HB.out) (by simp [HPQ.out])).mono ?_
        rintro e wd ⟨rfl, hbd⟩
        replace HKA := hide (HKA.out.later hbd)
        replace HKB := hide (HKB.out.later hbd)
        replace HR := hide (HR.out.later hbd)
        have HB' := hide (HB.out.trans (hbd.mono HB.out.size))
        replace HB := HB'
        clear HB' hbd
        have ka := HKA.out.cell 0 _ rfl
        have kb := HKB.out.cell 0 _ rfl
        have k2 := HR.out.cell 0 _ rfl
        have k3 := HR.out.cell 1 _ rfl
        have k4 := HR.out.frozen 0
        have k5 := HR.out.frozen 1
        go_wp2_with fail
        clear ka kb
        refine bp_gen fun wf hwf => ?_
        obtain ⟨q0, q1, hbf, hof⟩ := zend (ts := 35) (t := 2) (w2 := wd) hwf HR.out (by omega) HR.out.lt HB.out HB.out.size (ObjZ.empty (Nat.le_refl _))
        clear hwf k2 k3 k4 k5
        exact bodyPost_ret (v := .tuple #[.agg #[.slice none 0 0, .slice none 0 0], .int .i64 2]) (by simp [results, Try.results25, go_sem, q0, q1]) rfl ⟨_, _, _, _, rfl, hbf, hof⟩
  · rcases hr with ⟨h, _⟩ | ⟨h, _⟩ | ⟨_, rfl, rfl, rfl⟩
    · exact absurd h.1 h1
    · exact absurd h.1 h1
    · have HPP := hide h1
      clear hn hm h1
      obtain rfl : kz = 0 := by simpa using hk.fl.symm
      obtain rfl : kw = 0 := by simpa using hk.sl.symm
      clear hk
      go_enter Try.func25, Try.ntmps25
      go_wp2_with fail
      refine calls_gen fun w0 hw0 => ?_
      have hb0 : Below w.heap.size w w0 := by rw [hw0]; exact (((Below.refl _ _).alloc (Nat.le_refl _) _).alloc (by simp) _).alloc (by simp; omega) _
      have HB := hide hb0
      have HKA : Hid (Blk w0 w.heap.size 35 [.slice A n c]) := hide (by rw [hw0]; exact ((Blk.new _ _ _).alloc _).alloc _)
      have HKB : Hid (Blk w0 (w.heap.size + 1) 35 [.slice B m d]) := hide (by rw [hw0]; have h := (Blk.new (w.alloc (Obj.cells #[Value.slice A n c] 35)) 35 [.slice B m d]).alloc (Obj.cells #[Value.slice none 0 0, Value.slice none 0 0] 26); simpa using h)
      have HR : Hid (Blk w0 (w.heap.size + 1 + 1) 26 [.slice none 0 0, .slice none 0 0]) := hide (by rw [hw0]; have h := Blk.new ((w.alloc (Obj.cells #[Value.slice A n c] 35)).alloc (Obj.cells #[Value.slice B m d] 35)) 26 [.slice none 0 0, .slice none 0 0]; simpa using h)
      clear hw0 hb0
      have ka := HKA.out.cell 0 _ rfl
      have kb := HKB.out.cell 0 _ rfl
      refine (isPerm_any _ _ _ p false _ HN.out (by omega) (hp.later HB.out) (by simp [HPP.out])).mono ?_
      rintro e wd ⟨rfl, hbd⟩
      replace HKA := hide (HKA.out.later hbd)
      replace HKB := hide (HKB.out.later hbd)
      replace HR := hide (HR.out.later hbd)
      have HB' := hide (HB.out.trans (hbd.mono HB.out.size))
      replace HB := HB'
      clear HB' hbd
      have ka := HKA.out.cell 0 _ rfl
      have kb := HKB.out.cell 0 _ rfl
      have k2 := HR.out.cell 0 _ rfl
      have k3 := HR.out.cell 1 _ rfl
      have k4 := HR.out.frozen 0
      have k5 := HR.out.frozen 1
      go_wp2_with fail
      clear ka kb
      refine bp_gen fun wf hwf => ?_
      obtain ⟨q0, q1, hbf, hof⟩ := zend (ts := 35) (t := 2) (w2 := wd) hwf HR.out (by omega) HR.out.lt HB.out HB.out.size (ObjZ.empty (Nat.le_refl _))
      clear hwf k2 k3 k4 k5
      exact bodyPost_ret (v := .tuple #[.agg #[.slice none 0 0, .slice none 0 0], .int .i64 2]) (by simp [results, Try.results25, go_sem, q0, q1]) rfl ⟨_, _, _, _, rfl, hbf, hof⟩
end Go.Proofs.Ytocdcibfbecdgab
