import Derived.Test.YthkhkehpmolfaaaZbv
import Derived.Test.YthkhkehpmolfaaaZu
import Derived.Test.YthkhkehpmolfaaaZac
import Derived.Test.YthkhkehpmolfaaaZaf
import Derived.Test.YthkhkehpmolfaaaZaj
import Derived.Test.YthkhkehpmolfaaaZai
import Derived.Deep.Cut
namespace Go.Proofs.Ythkhkehpmolfaaa
open Go Go.RowKit
set_option maxHeartbeats 2000000
def QfRes (f : List (List Int)) : Bool → Int → Prop := BRes (Cyc f) (kinkL f = unitL f.length)
theorem QfRes.ex (f : List (List Int)) : ∃ r code, QfRes f r code := BRes.ex _ _
theorem unit_NL (n : Nat) : unitN n = unitL n := by simp [unitN, unitL]

set_option maxRecDepth 100000 in
theorem qfI_any (A : Option Addr) (n c : Nat) (f : List (List Int)) (r : Bool) (code : Int) (w : World) (hn : f.length = n) (hb : n ≤ 1048576) (hbs : ∀ i, i < f.length → (f.getD i []).length ≤ 1048576) (hr : Rd2 w A f) (hres : QfRes f r code) :
    Calls Try.prog 38 #[.agg #[.slice A n c]] w fun e w' => e = .returned (.tuple #[.bool r, .int .i64 code]) ∧ Below w.heap.size w w' := by
  have HN := hide hn
  have HBS := hide hbs
  have HRD := hide hr
  have HB0 := hide ((Below.refl _ w).alloc (Nat.le_refl _) (Obj.cells #[Value.slice A n c] 27))
  have HK0 := hide (Blk.new w 27 [.slice A n c])
  rcases hres with ⟨hcy, hrc, rfl⟩ | ⟨hcy, rfl, rfl⟩
  · have HRC : Hid (r = true ↔ kinkL f = unitL n) := hide (by rw [hrc, hn])
    have HKL : Hid ((kinkL f).length = n) := hide ((kinkL_length f).trans hn)
    clear hn hbs hr hrc
    have HCY := hide hcy
    have HTB := hide hcy.tbl
    have h1 : 1 ≤ n := by rw [← HN.out]; exact HTB.out.1
    have h12 : n ≤ 12 := by rw [← HN.out]; exact HTB.out.2.1
    have HCR : Hid (CyRes f true) := hide ⟨fun _ => HCY.out, fun _ => rfl⟩
    clear hcy
    go_enter Try.func38, Try.ntmps38
    have k0 := HK0.out.cell 0 _ rfl
    go_upto_region 1 with fail
    go_wp2_with fail
    refine (tested_any _ _ _ f true _ HN.out hb HBS.out (HRD.out.later HB0.out) HCR.out).mono ?_
    rintro e w1 (⟨_, B, d, rfl, hb1, hiv⟩ | ⟨h, _⟩)
    rotate_left
    · exact absurd h (by simp)
    have HB1 := hide (HB0.out.trans (hb1.mono HB0.out.size))
    have HIV1 : Hid (Rd2 w1 B (dualL f)) := hide (Obj2.rd hiv)
    clear hb1 hiv k0
    go_upto_region 4 with fail
    refine wp_gen fun w2 hw2 => ?_
    obtain ⟨P, hP⟩ : ∃ P, w1.heap.size = P := ⟨_, rfl⟩
    have hq : Below w1.heap.size w1 w2 := by rw [hw2]; exact (Below.refl _ _).alloc (Nat.le_refl _) _
    have HBc := hide (HB1.out.trans (hq.mono HB1.out.size))
    have HKc : Hid (Blk w2 P 65 [.slice A n c, .slice B n d]) := hide (by rw [hw2, ← hP]; exact Blk.new _ _ _)
    have HIV := hide (HIV1.out.later hq)
    rw [hP]
    clear hw2 hq HB1 HIV1 hP
    have k0 := HKc.out.cell 0 _ rfl
    have k1 := HKc.out.cell 1 _ rfl
    clear k1
    go_wp2_with fail
    go_region_held3 (fun w' => w'.cell? ⟨P, 0, none⟩ = some (.slice A n c)) (first | exact k0 | go_keep) (first | (go_at_call 58; go_must (refine calls_gen fun wc hwc => ?_; (first | have hbx := drew_below hwc | have hbx := eq_below hwc); replace HBc := hide (HBc.out.trans (hbx.mono HBc.out.size)); replace HKc := hide (HKc.out.later hbx); clear hwc hbx; refine (squares_any _ _ _ f _ HN.out HTB.out (HRD.out.later HBc.out)).mono ?_; rintro e wd ⟨g, rfl, hbd, hg, hobj⟩; have HO := hide (hobj); clear hobj; replace HBc := hide (HBc.out.trans (hbd.mono HBc.out.size)); replace HKc := hide (HKc.out.later hbd); clear hbd; have k0 := HKc.out.cell 0 _ rfl)) | (go_at_call 62; go_must (refine calls_gen fun wc hwc => ?_; (first | have hbx := drew_below hwc | have hbx := eq_below hwc); replace HBc := hide (HBc.out.trans (hbx.mono HBc.out.size)); replace HKc := hide (HKc.out.later hbx); (first | replace HO := hide (HO.out.later hbx HO.out.lt) | skip); clear hwc hbx; refine (dsize_any _ _ _ _ (by omega)).mono ?_; rintro e wd ⟨rfl, hbd⟩; replace HBc := hide (HBc.out.trans (hbd.mono HBc.out.size)); replace HKc := hide (HKc.out.later hbd); (first | replace HO := hide (HO.out.later hbd HO.out.lt) | skip); clear hbd; have k0 := HKc.out.cell 0 _ rfl)) | (go_at_call 74; go_must (refine calls_gen fun wc hwc => ?_; (first | have hbx := drew_below hwc | have hbx := eq_below hwc); replace HBc := hide (HBc.out.trans (hbx.mono HBc.out.size)); replace HKc := hide (HKc.out.later hbx); (first | replace HO := hide (HO.out.later hbx HO.out.lt) | skip); clear hwc hbx; refine (identityOf_any n _ (by omega)).mono ?_; rintro e wd ⟨rfl, hbd, hobj, hsz⟩; have HU := hide (hobj.own); clear hobj; replace HBc := hide (HBc.out.trans (hbd.mono HBc.out.size)); replace HKc := hide (HKc.out.later hbd); (first | replace HO := hide (HO.out.later hbd HO.out.lt) | skip); clear hbd; have k0 := HKc.out.cell 0 _ rfl)) | (go_at_call 73; go_must (refine calls_gen fun wc hwc => ?_; (first | have hbx := drew_below hwc | have hbx := eq_below hwc); replace HBc := hide (HBc.out.trans (hbx.mono HBc.out.size)); replace HKc := hide (HKc.out.later hbx); (first | replace HO := hide (HO.out.later hbx HO.out.lt) | skip); (first | replace HU := hide (HU.out.later hbx HU.out.lt) | skip); clear hwc hbx; refine (eql_any _ _ _ _ _ _ (kinkL f) (unitL n) r _ HKL.out (unitL_length n) (by omega) (by omega) HO.out.rd HU.out.rd HRC.out).mono ?_; rintro e wd ⟨rfl, hqd⟩; have hbd := hqd.below wc.heap.size; replace HBc := hide (HBc.out.trans (hbd.mono HBc.out.size)); replace HKc := hide (HKc.out.later hbd); (first | replace HO := hide (HO.out.later hbd HO.out.lt) | skip); (first | replace HU := hide (HU.out.later hbd HU.out.lt) | skip); clear hbd; have k0 := HKc.out.cell 0 _ rfl)))
    go_wp2_with fail
    go_ret2
    exact ⟨rfl, HBc.out⟩
  · clear hn hbs hr
    have HCR : Hid (CyRes f false) := hide ⟨fun h => (by cases h), fun h => absurd h hcy⟩
    clear hcy
    go_enter Try.func38, Try.ntmps38
    have k0 := HK0.out.cell 0 _ rfl
    go_upto_region 1 with fail
    go_wp2_with fail
    refine (tested_any _ _ _ f false _ HN.out hb HBS.out (HRD.out.later HB0.out) HCR.out).mono ?_
    rintro e w1 (⟨h, _⟩ | ⟨_, rfl, hb1⟩)
    · exact absurd h (by simp)
    have HB1 := hide (HB0.out.trans (hb1.mono HB0.out.size))
    clear k0
    go_wp2_with fail
    refine bp_gen fun wf hwf => ?_
    have HBF : Below w.heap.size w wf := by rw [hwf]; exact HB1.out.alloc HB1.out.size _
    clear hwf hb1
    go_ret2
    exact ⟨rfl, HBF⟩
set_option maxRecDepth 100000 in
theorem qfS_any (A : Option Addr) (n c : Nat) (f : List (List Int)) (r : Bool) (code : Int) (w : World) (hn : f.length = n) (hb : n ≤ 1048576) (hbs : ∀ i, i < f.length → (f.getD i []).length ≤ 1048576) (hr : Rd2 w A f) (hres : QfRes f r code) :
    Calls Try.prog 37 #[.agg #[.slice A n c]] w fun e w' => e = .returned (.tuple #[.bool r, .int .i64 code]) ∧ Below w.heap.size w w' := by
  have HN := hide hn
  have HBS := hide hbs
  have HRD := hide hr
  have HB0 := hide ((Below.refl _ w).alloc (Nat.le_refl _) (Obj.cells #[Value.slice A n c] 27))
  have HK0 := hide (Blk.new w 27 [.slice A n c])
  rcases hres with ⟨hcy, hrc, rfl⟩ | ⟨hcy, rfl, rfl⟩
  · have HRC : Hid (r = true ↔ kinkL f = unitL n) := hide (by rw [hrc, hn])
    have HKL : Hid ((kinkL f).length = n) := hide ((kinkL_length f).trans hn)
    clear hn hbs hr hrc
    have HCY := hide hcy
    have HTB := hide hcy.tbl
    have h1 : 1 ≤ n := by rw [← HN.out]; exact HTB.out.1
    have h12 : n ≤ 12 := by rw [← HN.out]; exact HTB.out.2.1
    have HCR : Hid (CyRes f true) := hide ⟨fun _ => HCY.out, fun _ => rfl⟩
    clear hcy
    go_enter Try.func37, Try.ntmps37
    have k0 := HK0.out.cell 0 _ rfl
    go_wp2_with fail
    refine (isCycS _ _ _ f true _ HN.out hb HBS.out (HRD.out.later HB0.out) HCR.out).mono ?_
    rintro e w1 ⟨rfl, hb1⟩
    have HB1 := hide (HB0.out.trans (hb1.mono HB0.out.size))
    have HK1 := hide (HK0.out.later hb1)
    clear hb1 k0
    have HBc := HB1
    have HKc := HK1
    have k0 := HKc.out.cell 0 _ rfl
    go_wp2_with fail
    go_region_held3 (fun w' => w'.cell? ⟨w.heap.size, 0, none⟩ = some (.slice A n c)) (first | exact k0 | go_keep) (first | (go_at_call 57; go_must (refine calls_gen fun wc hwc => ?_; (first | have hbx := drew_below hwc | have hbx := eq_below hwc); replace HBc := hide (HBc.out.trans (hbx.mono HBc.out.size)); replace HKc := hide (HKc.out.later hbx); clear hwc hbx; refine (squaresS_any _ _ _ f _ HN.out HTB.out (HRD.out.later HBc.out)).mono ?_; rintro e wd ⟨A3, c3, rfl, hbd, hobj⟩; have HO := hide (hobj); clear hobj; replace HBc := hide (HBc.out.trans (hbd.mono HBc.out.size)); replace HKc := hide (HKc.out.later hbd); clear hbd; have k0 := HKc.out.cell 0 _ rfl)) | (go_at_call 72; go_must (refine calls_gen fun wc hwc => ?_; (first | have hbx := drew_below hwc | have hbx := eq_below hwc); replace HBc := hide (HBc.out.trans (hbx.mono HBc.out.size)); replace HKc := hide (HKc.out.later hbx); replace HO := hide (HO.out.later hbx); clear hwc hbx; refine (l01Unit_any n _ (by omega)).mono ?_; rintro e wd ⟨A4, c4, rfl, hbd, hobj⟩; have HU := hide (hobj); clear hobj; replace HBc := hide (HBc.out.trans (hbd.mono HBc.out.size)); replace HKc := hide (HKc.out.later hbd); replace HO := hide (HO.out.later hbd); clear hbd; have k0 := HKc.out.cell 0 _ rfl)) | (go_at_call 71; go_must (refine calls_gen fun wc hwc => ?_; (first | have hbx := drew_below hwc | have hbx := eq_below hwc); replace HBc := hide (HBc.out.trans (hbx.mono HBc.out.size)); replace HKc := hide (HKc.out.later hbx); replace HO := hide (HO.out.later hbx); replace HU := hide (HU.out.later hbx); clear hwc hbx; refine (same_any _ _ _ _ _ _ (kinkL f) (unitN n) r _ HKL.out (unitN_length n) (by omega) (by omega) HO.out.rd HU.out.rd (by rw [unit_NL]; exact HRC.out)).mono ?_; rintro e wd ⟨rfl, hqd⟩; have hbd := hqd.below wc.heap.size; replace HBc := hide (HBc.out.trans (hbd.mono HBc.out.size)); replace HKc := hide (HKc.out.later hbd); replace HO := hide (HO.out.later hbd); replace HU := hide (HU.out.later hbd); clear hbd; have k0 := HKc.out.cell 0 _ rfl)))
    go_wp2_with fail
    go_ret2
    exact ⟨rfl, HBc.out⟩
  · clear hn hbs hr
    have HCR : Hid (CyRes f false) := hide ⟨fun h => (by cases h), fun h => absurd h hcy⟩
    clear hcy
    go_enter Try.func37, Try.ntmps37
    have k0 := HK0.out.cell 0 _ rfl
    go_wp2_with fail
    refine (isCycS _ _ _ f false _ HN.out hb HBS.out (HRD.out.later HB0.out) HCR.out).mono ?_
    rintro e w1 ⟨rfl, hb1⟩
    have HB1 := hide (HB0.out.trans (hb1.mono HB0.out.size))
    have HK1 := hide (HK0.out.later hb1)
    clear hb1 k0
    go_wp2_with fail
    go_ret2
    exact ⟨rfl, HB1.out⟩

end Go.Proofs.Ythkhkehpmolfaaa
