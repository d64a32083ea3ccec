import Derived.Test.YtkflmhmbkilmpaaProg
import Derived.Test.YtkflmhmbkilmpaaRkF
import Derived.Test.YtkflmhmbkilmpaaHeld
import Derived.Test.YtkflmhmbkilmpaaBlk
import Derived.Test.YtkflmhmbkilmpaaTblI
import Derived.Test.YtkflmhmbkilmpaaRowsI
import Derived.Test.YtkflmhmbkilmpaaPairsI
import Derived.Test.YtkflmhmbkilmpaaReads
import Derived.Test.YtkflmhmbkilmpaaKLe
import Derived.Test.YtkflmhmbkilmpaaFtI
import Derived.WalkSpells
import Derived.Test.YtkflmhmbkilmpaaObj
import Derived.Test.YtkflmhmbkilmpaaTblS
import Derived.Test.YtkflmhmbkilmpaaPrmS
import Derived.Test.YtkflmhmbkilmpaaGrid
import Derived.Test.YtkflmhmbkilmpaaZArg
import Derived.Test.YtkflmhmbkilmpaaPmpI
import Derived.Test.YtkflmhmbkilmpaaZEnd
import Derived.Test.YtkflmhmbkilmpaaKiF
import Derived.Test.YtkflmhmbkilmpaaWr
import Derived.Test.YtkflmhmbkilmpaaLst1
import Derived.Test.YtkflmhmbkilmpaaOwK
import Derived.Deep.AppendLies
namespace Go.Proofs.Ytkflmhmbkilmpaa
open Go Go.RowKit
set_option maxHeartbeats 1000000

theorem ksize_any (A : Option Addr) (n c : Nat) (w : World) (_hn : n ≤ 1048576) :
    Calls Try.prog 62 #[.agg #[.slice A n c]] w fun e w' => e = .returned (.int .i64 n) ∧ Below w.heap.size w w' := by
  have HB0 := hide ((Below.refl _ w).alloc (Nat.le_refl _) (Obj.cells #[Value.slice A n c] 27))
  go_enter Try.func62, Try.ntmps62
  go_wp2_with fail
  go_ret
  exact ⟨rfl, HB0.out⟩

theorem act_any (A : Option Addr) (n c : Nat) (f : List (List Int)) (x y u : Nat) (w : World) (hn : f.length = n) (ht : Tbl f) (hr : Rd2 w A f) (hx : x < n) (hy : y < n) (hu : ap f x y = u) :
    Calls Try.prog 76 #[.agg #[.slice A n c], .int .i64 x, .int .i64 y] w fun e w' => e = .returned (.int .i64 u) ∧ Below w.heap.size w w' := by
  have h12 : n ≤ 12 := by rw [← hn]; exact ht.2.1
  obtain ⟨b, o, rfl, hb, hc⟩ := ht.cells hr hn
  obtain ⟨bx, ox, cx, h1, h2, h3⟩ := hc x hx
  have h4 := h3 y hy
  rw [hu] at h4
  have hbb := ((Below.refl _ w).alloc (Nat.le_refl _) (Obj.cells #[Value.slice (some ⟨b, o, none⟩) n c] 27))
  have HB0 := hide hbb
  have a4 := (hbb.cell (p := ⟨b, o + x, none⟩) hb).trans h1
  have a6 := (hbb.cell (p := ⟨bx, ox + y, none⟩) h2).trans h4
  have hxz : (x : Int) < n := by omega
  have hyz : (y : Int) < n := by omega
  have hxz0 : (0 : Int) ≤ x := by omega
  have hyz0 : (0 : Int) ≤ y := by omega
  clear hbb h1 h3 h4 hc hu hr ht hn
  go_enter Try.func76, Try.ntmps76
  go_wp2_with fail
  go_ret
  exact ⟨rfl, HB0.out⟩
end Go.Proofs.Ytkflmhmbkilmpaa
namespace Go.Proofs.Ytkflmhmbkilmpaa
open Go Go.RowKit
set_option maxHeartbeats 2000000
/-- Whether three elements show that a table is no rack's. -/
def rkq (f : List (List Int)) : Nat → Nat → Nat → Bool := fun x y z => !decide (ap f x (ap f y z) = ap f (ap f x y) (ap f x z))
theorem rkq_not (f : List (List Int)) (n i : Nat) : qAt (rkq f) n i = false ↔ Rk3 f n i := by
  unfold qAt rkq Rk3
  simp
theorem rkq_is (f : List (List Int)) (n i : Nat) : qAt (rkq f) n i = true ↔ ¬ Rk3 f n i := by
  rw [← rkq_not]
  simp
theorem FirstK.q {f : List (List Int)} {n T : Nat} (h : FirstK f n T) : FirstQ (rkq f) n T :=
  ⟨fun i hi => (rkq_not f n i).2 (h.1 i hi), h.2.1, fun ht => (rkq_is f n T).2 (h.2.2 ht)⟩

set_option maxRecDepth 100000 in
theorem kfC_any (A : Option Addr) (n c : Nat) (f : List (List Int)) (b : Nat) (w : World) (hn : f.length = n) (ht : Tbl f) (hr : Rd2 w A f) (hk : Blk w b 27 [.slice A n c]) :
    BoolFn3 Try.prog 75 #[.pointer (some ⟨b, 0, none⟩)] n (rkq f) w := by
  intro W x y z hx hy hz hb
  have HR := hide (hr.later hb)
  have HKc := hide (hk.later hb)
  have HBc := hide (Below.refl W.heap.size W)
  have HN := hide hn
  have HTB := hide ht
  show Calls Try.prog 75 #[.int .i64 x, .int .i64 y, .int .i64 z, .pointer (some ⟨b, 0, none⟩)] W _
  clear hn ht hr hk hb
  have hq1 := HTB.out.ap_lt HN.out hy hz
  have hq2 := HTB.out.ap_lt HN.out hx hy
  have hq3 := HTB.out.ap_lt HN.out hx hz
  obtain ⟨bq, hat⟩ : ∃ bq, rkq f x y z = bq := ⟨_, rfl⟩
  rw [hat]
  unfold rkq at hat
  obtain ⟨q1, h_1⟩ : ∃ u, ap f y z = u := ⟨_, rfl⟩
  obtain ⟨q2, h_2⟩ : ∃ u, ap f x y = u := ⟨_, rfl⟩
  obtain ⟨q3, h_3⟩ : ∃ u, ap f x z = u := ⟨_, rfl⟩
  rw [h_1, h_2, h_3] at hat
  rw [h_1] at hq1
  rw [h_2] at hq2
  rw [h_3] at hq3
  obtain ⟨q4, h_4⟩ : ∃ u, ap f x q1 = u := ⟨_, rfl⟩
  obtain ⟨q5, h_5⟩ : ∃ u, ap f q2 q3 = u := ⟨_, rfl⟩
  rw [h_4, h_5] at hat
  have HAT : Hid ((!decide (q4 = q5)) = bq) := hide hat
  have U1 := hide h_1
  have U2 := hide h_2
  have U3 := hide h_3
  have U4 := hide h_4
  have U5 := hide h_5
  clear h_1 h_2 h_3 h_4 h_5 hat
  have k0 := HKc.out.cell 0 _ rfl
  have tok0 : True := trivial
  have tok1 : True := trivial
  have tok2 : True := trivial
  have tok3 : True := trivial
  go_enter Try.func75, Try.ntmps75
  by_cases hcs : q4 = q5
  · have hbq : bq = false := by rw [← HAT.out, hcs]; simp
    subst hcs
    subst hbq
    go_wp2_with fail
    go_region_held3 (fun w' => w'.cell? ⟨b, 0, none⟩ = some (.slice A n c)) (first | exact k0 | go_keep) (first | (go_at_call 76; have _t := tok0; clear _t tok0; go_must (refine calls_gen fun wc hwc => ?_; (first | have hbx := drew_below hwc | have hbx := eq_below hwc); replace HBc := hide (HBc.out.trans (hbx.mono HBc.out.size)); replace HKc := hide (HKc.out.later hbx); clear hwc hbx; refine (act_any _ _ _ f y z q1 _ HN.out HTB.out (HR.out.later HBc.out) hy hz U1.out).mono ?_; rintro e wd ⟨rfl, hbd⟩; replace HBc := hide (HBc.out.trans (hbd.mono HBc.out.size)); replace HKc := hide (HKc.out.later hbd); clear hbd; have k0 := HKc.out.cell 0 _ rfl)) | (go_at_call 76; have _t := tok1; clear _t tok1; go_must (refine calls_gen fun wc hwc => ?_; (first | have hbx := drew_below hwc | have hbx := eq_below hwc); replace HBc := hide (HBc.out.trans (hbx.mono HBc.out.size)); replace HKc := hide (HKc.out.later hbx); clear hwc hbx; refine (act_any _ _ _ f x q1 q4 _ HN.out HTB.out (HR.out.later HBc.out) hx hq1 U4.out).mono ?_; rintro e wd ⟨rfl, hbd⟩; replace HBc := hide (HBc.out.trans (hbd.mono HBc.out.size)); replace HKc := hide (HKc.out.later hbd); clear hbd; have k0 := HKc.out.cell 0 _ rfl)) | (go_at_call 76; have _t := tok2; clear _t tok2; go_must (refine calls_gen fun wc hwc => ?_; (first | have hbx := drew_below hwc | have hbx := eq_below hwc); replace HBc := hide (HBc.out.trans (hbx.mono HBc.out.size)); replace HKc := hide (HKc.out.later hbx); clear hwc hbx; refine (act_any _ _ _ f x y q2 _ HN.out HTB.out (HR.out.later HBc.out) hx hy U2.out).mono ?_; rintro e wd ⟨rfl, hbd⟩; replace HBc := hide (HBc.out.trans (hbd.mono HBc.out.size)); replace HKc := hide (HKc.out.later hbd); clear hbd; have k0 := HKc.out.cell 0 _ rfl)) | (go_at_call 76; have _t := tok3; clear _t tok3; go_must (refine calls_gen fun wc hwc => ?_; (first | have hbx := drew_below hwc | have hbx := eq_below hwc); replace HBc := hide (HBc.out.trans (hbx.mono HBc.out.size)); replace HKc := hide (HKc.out.later hbx); clear hwc hbx; refine (act_any _ _ _ f x z q3 _ HN.out HTB.out (HR.out.later HBc.out) hx hz U3.out).mono ?_; rintro e wd ⟨rfl, hbd⟩; replace HBc := hide (HBc.out.trans (hbd.mono HBc.out.size)); replace HKc := hide (HKc.out.later hbd); clear hbd; have k0 := HKc.out.cell 0 _ rfl)) | (go_at_call 76; go_must (refine calls_gen fun wc hwc => ?_; (first | have hbx := drew_below hwc | have hbx := eq_below hwc); replace HBc := hide (HBc.out.trans (hbx.mono HBc.out.size)); replace HKc := hide (HKc.out.later hbx); clear hwc hbx; refine (act_any _ _ _ f q2 q3 q4 _ HN.out HTB.out (HR.out.later HBc.out) hq2 hq3 U5.out).mono ?_; rintro e wd ⟨rfl, hbd⟩; replace HBc := hide (HBc.out.trans (hbd.mono HBc.out.size)); replace HKc := hide (HKc.out.later hbd); clear hbd; have k0 := HKc.out.cell 0 _ rfl)))
    go_wp2_with fail
    go_ret
    exact ⟨rfl, HBc.out⟩
  · have hbq : bq = true := by rw [← HAT.out]; simp [hcs]
    have hcz : ((q4 : Int) != (q5 : Int)) = true := by rw [bne_iff_ne]; omega
    subst hbq
    go_wp2_with fail
    go_region_held3 (fun w' => w'.cell? ⟨b, 0, none⟩ = some (.slice A n c)) (first | exact k0 | go_keep) (first | (go_at_call 76; have _t := tok0; clear _t tok0; go_must (refine calls_gen fun wc hwc => ?_; (first | have hbx := drew_below hwc | have hbx := eq_below hwc); replace HBc := hide (HBc.out.trans (hbx.mono HBc.out.size)); replace HKc := hide (HKc.out.later hbx); clear hwc hbx; refine (act_any _ _ _ f y z q1 _ HN.out HTB.out (HR.out.later HBc.out) hy hz U1.out).mono ?_; rintro e wd ⟨rfl, hbd⟩; replace HBc := hide (HBc.out.trans (hbd.mono HBc.out.size)); replace HKc := hide (HKc.out.later hbd); clear hbd; have k0 := HKc.out.cell 0 _ rfl)) | (go_at_call 76; have _t := tok1; clear _t tok1; go_must (refine calls_gen fun wc hwc => ?_; (first | have hbx := drew_below hwc | have hbx := eq_below hwc); replace HBc := hide (HBc.out.trans (hbx.mono HBc.out.size)); replace HKc := hide (HKc.out.later hbx); clear hwc hbx; refine (act_any _ _ _ f x q1 q4 _ HN.out HTB.out (HR.out.later HBc.out) hx hq1 U4.out).mono ?_; rintro e wd ⟨rfl, hbd⟩; replace HBc := hide (HBc.out.trans (hbd.mono HBc.out.size)); replace HKc := hide (HKc.out.later hbd); clear hbd; have k0 := HKc.out.cell 0 _ rfl)) | (go_at_call 76; have _t := tok2; clear _t tok2; go_must (refine calls_gen fun wc hwc => ?_; (first | have hbx := drew_below hwc | have hbx := eq_below hwc); replace HBc := hide (HBc.out.trans (hbx.mono HBc.out.size)); replace HKc := hide (HKc.out.later hbx); clear hwc hbx; refine (act_any _ _ _ f x y q2 _ HN.out HTB.out (HR.out.later HBc.out) hx hy U2.out).mono ?_; rintro e wd ⟨rfl, hbd⟩; replace HBc := hide (HBc.out.trans (hbd.mono HBc.out.size)); replace HKc := hide (HKc.out.later hbd); clear hbd; have k0 := HKc.out.cell 0 _ rfl)) | (go_at_call 76; have _t := tok3; clear _t tok3; go_must (refine calls_gen fun wc hwc => ?_; (first | have hbx := drew_below hwc | have hbx := eq_below hwc); replace HBc := hide (HBc.out.trans (hbx.mono HBc.out.size)); replace HKc := hide (HKc.out.later hbx); clear hwc hbx; refine (act_any _ _ _ f x z q3 _ HN.out HTB.out (HR.out.later HBc.out) hx hz U3.out).mono ?_; rintro e wd ⟨rfl, hbd⟩; replace HBc := hide (HBc.out.trans (hbd.mono HBc.out.size)); replace HKc := hide (HKc.out.later hbd); clear hbd; have k0 := HKc.out.cell 0 _ rfl)) | (go_at_call 76; go_must (refine calls_gen fun wc hwc => ?_; (first | have hbx := drew_below hwc | have hbx := eq_below hwc); replace HBc := hide (HBc.out.trans (hbx.mono HBc.out.size)); replace HKc := hide (HKc.out.later hbx); clear hwc hbx; refine (act_any _ _ _ f q2 q3 q5 _ HN.out HTB.out (HR.out.later HBc.out) hq2 hq3 U5.out).mono ?_; rintro e wd ⟨rfl, hbd⟩; replace HBc := hide (HBc.out.trans (hbd.mono HBc.out.size)); replace HKc := hide (HKc.out.later hbd); clear hbd; have k0 := HKc.out.cell 0 _ rfl)))
    go_wp2_with fail
    go_ret
    exact ⟨rfl, HBc.out⟩

set_option maxRecDepth 100000 in
theorem kfaultQ_any (A : Option Addr) (n c : Nat) (f : List (List Int)) (T : Nat) (w : World) (hn : f.length = n) (ht : Tbl f) (hr : Rd2 w A f) (hT : FirstQ (rkq f) n T) :
    Calls Try.prog 48 #[.agg #[.slice A n c]] w fun e w' => (T = n * n * n ∧ e = .returned (.slice none 0 0) ∧ Below w.heap.size w w') ∨ (T < n * n * n ∧ ∃ g, e = .returned (.slice (some ⟨g, 0, none⟩) 3 3) ∧ Below w.heap.size w w' ∧ w.heap.size ≤ g ∧ OwnB 2 w' g (lst3 (trip n T))) := by
  have h1 : 1 ≤ n := by rw [← hn]; exact ht.1
  have h12 : n ≤ 12 := by rw [← hn]; exact ht.2.1
  have HN := hide hn
  have HTB := hide ht
  have HR := hide hr
  have HT := hide hT
  have HB0 := hide ((Below.refl _ w).alloc (Nat.le_refl _) (Obj.cells #[Value.slice A n c] 27))
  have HK0 := hide (Blk.new w 27 [.slice A n c])
  clear hn ht hr hT
  go_enter Try.func48, Try.ntmps48
  go_wp2_with fail
  refine (ksize_any _ _ _ _ (by omega)).mono ?_
  rintro e w2 ⟨rfl, hb2⟩
  have HB2 := hide (HB0.out.trans (hb2.mono HB0.out.size))
  have HK2 := hide (HK0.out.later hb2)
  clear hb2
  go_wp2_with fail
  refine (firstTriple_any 75 _ n (rkq f) T _ (fun _ _ => rfl) h1 h12 (kfC_any A n c f w.heap.size _ HN.out HTB.out (HR.out.later HB2.out) HK2.out) HT.out).mono ?_
  rintro e w3 (⟨hTe, rfl, hb3⟩ | ⟨hTl, g, rfl, hb3, hg, hob⟩)
  · have HB3 := hide (HB2.out.trans (hb3.mono HB2.out.size))
    clear hb3
    go_wp2_with fail
    go_ret
    exact .inl ⟨hTe, rfl, HB3.out⟩
  · have HB3 := hide (HB2.out.trans (hb3.mono HB2.out.size))
    have HO3 := hide hob
    have hlo : w.heap.size ≤ g := by have := HB2.out.size; omega
    clear hb3 hob
    go_wp2_with fail
    go_ret
    exact .inr ⟨hTl, _, rfl, HB3.out, hlo, HO3.out⟩

theorem kfault_any (A : Option Addr) (n c : Nat) (f : List (List Int)) (T : Nat) (w : World) (hn : f.length = n) (ht : Tbl f) (hr : Rd2 w A f) (hT : FirstK f n T) :
    Calls Try.prog 48 #[.agg #[.slice A n c]] w fun e w' => (T = n * n * n ∧ e = .returned (.slice none 0 0) ∧ Below w.heap.size w w') ∨ (T < n * n * n ∧ ∃ g, e = .returned (.slice (some ⟨g, 0, none⟩) 3 3) ∧ Below w.heap.size w w' ∧ w.heap.size ≤ g ∧ OwnB 2 w' g (lst3 (trip n T))) :=
  kfaultQ_any A n c f T w hn ht hr hT.q
end Go.Proofs.Ytkflmhmbkilmpaa
namespace Go.Proofs.Ytkflmhmbkilmpaa
open Go Go.RowKit
set_option maxHeartbeats 2000000

set_option maxRecDepth 100000 in
theorem isRackI (A : Option Addr) (n c : Nat) (f : List (List Int)) (r : Bool) (w : World) (hn : f.length = n) (hb : n ≤ 1048576) (hbs : ∀ i, i < f.length → (f.getD i []).length ≤ 1048576) (hr : Rd2 w A f) (hres : RkRes f r) :
    Calls Try.prog 16 #[.agg #[.slice A n c]] w fun e w' => e = .returned (.bool r) ∧ Below w.heap.size w w' := by
  have HN := hide hn
  have HBS := hide hbs
  have HRD := hide hr
  have HR := hide hres
  have hnil : ∀ (u : World) (a : Option Addr) (n c : Nat), (binOp .eql 31 (.slice a n c) (.slice none 0 0)).run Try.prog u = .ok (.bool a.isNone) u := fun u a n c => Lib.run_eql_slice_nil u 31 _ a n c 0 0 Try.underlying31
  have HB0 := hide ((Below.refl _ w).alloc (Nat.le_refl _) (Obj.cells #[Value.slice A n c] 27))
  have HK0 := hide (Blk.new w 27 [.slice A n c])
  by_cases ht : Tbl f
  · have HTB := hide ht
    have hTm : ∃ T, FirstK f n T := FirstK.ex f n
    by_cases hp : AllPrm f
    · have HP := hide hp
      obtain ⟨T, hT⟩ := hTm
      have HT := hide hT
      have hiff : r = true ↔ T = n * n * n := by
        have hrr : r = true ↔ Rck f := HR.out
        rw [hrr, hT.iff, ← hn]
        exact ⟨fun h => h.2, fun h => ⟨⟨ht, hp⟩, h⟩⟩
      have HI := hide hiff
      clear hn hbs hr hres ht hp hT hiff
      go_enter Try.func16, Try.ntmps16
      go_wp2_with fail
      refine (isTable_any _ _ _ f true _ HN.out (by omega) (fun i hi => by have := HBS.out i hi; omega) (HRD.out.later HB0.out) (by simp [HTB.out])).mono ?_
      rintro e w1 ⟨rfl, hq1⟩
      have HB1 := hide (HB0.out.trans (hq1.below _))
      have HK1 := hide (HK0.out.later (hq1.below _))
      clear hq1
      have k0 := HK1.out.cell 0 _ rfl
      go_wp2_with fail
      clear k0
      refine (rowsI_any _ _ _ f true _ HN.out hb HBS.out (HRD.out.later HB1.out) ⟨fun _ => HP.out, fun _ => rfl⟩).mono ?_
      rintro e w2 ⟨rfl, hb2⟩
      have HB2 := hide (HB1.out.trans (hb2.mono HB1.out.size))
      have HK2 := hide (HK1.out.later hb2)
      clear hb2
      have k0 := HK2.out.cell 0 _ rfl
      go_wp2_with fail
      clear k0
      refine (kfault_any _ _ _ f T _ HN.out HTB.out (HRD.out.later HB2.out) HT.out).mono ?_
      rintro e w3 (⟨hTe, rfl, hb3⟩ | ⟨hTl, g, rfl, hb3, hg, hob⟩)
      · have hrt : r = true := HI.out.2 hTe
        subst hrt
        have HB3 := hide (HB2.out.trans (hb3.mono HB2.out.size))
        clear hb3 hTe
        go_wp2_with fail
        go_ret
        exact ⟨rfl, HB3.out⟩
      · have hrf : r = false := by
          cases r
          · rfl
          · have := HI.out.1 rfl; omega
        subst hrf
        have HB3 := hide (HB2.out.trans (hb3.mono HB2.out.size))
        clear hb3 hTl hob
        go_wp2_with fail
        go_ret
        exact ⟨rfl, HB3.out⟩
    · have hrf : r = false := by
        cases r
        · rfl
        · exact absurd (HR.out.1 rfl).prm hp
      subst hrf
      have HP := hide hp
      clear hn hbs hr hres ht hp
      go_enter Try.func16, Try.ntmps16
      go_wp2_with fail
      refine (isTable_any _ _ _ f true _ HN.out (by omega) (fun i hi => by have := HBS.out i hi; omega) (HRD.out.later HB0.out) (by simp [HTB.out])).mono ?_
      rintro e w1 ⟨rfl, hq1⟩
      have HB1 := hide (HB0.out.trans (hq1.below _))
      have HK1 := hide (HK0.out.later (hq1.below _))
      clear hq1
      have k0 := HK1.out.cell 0 _ rfl
      go_wp2_with fail
      clear k0
      refine (rowsI_any _ _ _ f false _ HN.out hb HBS.out (HRD.out.later HB1.out) ⟨fun h => (by cases h), fun h => absurd h HP.out⟩).mono ?_
      rintro e w2 ⟨rfl, hb2⟩
      have HB2 := hide (HB1.out.trans (hb2.mono HB1.out.size))
      clear hb2
      go_wp2_with fail
      go_ret
      exact ⟨rfl, HB2.out⟩
  · have hrf : r = false := by
      cases r
      · rfl
      · exact absurd (HR.out.1 rfl).tbl ht
    subst hrf
    have HTB := hide ht
    clear hn hbs hr hres ht
    go_enter Try.func16, Try.ntmps16
    go_wp2_with fail
    refine (isTable_any _ _ _ f false _ HN.out (by omega) (fun i hi => by have := HBS.out i hi; omega) (HRD.out.later HB0.out) (by simp [HTB.out])).mono ?_
    rintro e w1 ⟨rfl, hq1⟩
    have HB1 := hide (HB0.out.trans (hq1.below _))
    clear hq1
    go_wp2_with fail
    go_ret
    exact ⟨rfl, HB1.out⟩

set_option maxRecDepth 100000 in
theorem rkfI_any (A : Option Addr) (n c : Nat) (f : List (List Int)) (zs : List Int) (code : Int) (k : Nat) (w : World) (hn : f.length = n) (hb : n ≤ 1048576) (hbs : ∀ i, i < f.length → (f.getD i []).length ≤ 1048576) (hr : Rd2 w A f) (hres : RkFRes f zs code) (hk : zs.length = k) :
    Calls Try.prog 19 #[.agg #[.slice A n c]] w (RPost 2 k zs code w) := by
  have HN := hide hn
  have HBS := hide hbs
  have HRD := hide hr
  have hnil : ∀ (u : World) (a : Option Addr) (n c : Nat), (binOp .eql 31 (.slice a n c) (.slice none 0 0)).run Try.prog u = .ok (.bool a.isNone) u := fun u a n c => Lib.run_eql_slice_nil u 31 _ a n c 0 0 Try.underlying31
  have HB0 := hide ((Below.refl _ w).alloc (Nat.le_refl _) (Obj.cells #[Value.slice A n c] 27))
  have HK0 := hide (Blk.new w 27 [.slice A n c])
  rcases hres with ⟨T, ⟨ht, hp⟩, hT, hcase⟩ | ⟨ht, hp, rfl, rfl⟩ | ⟨ht, rfl, rfl⟩
  · have HTB := hide ht
    have HP := hide hp
    rw [hn] at hT hcase
    have HT := hide hT
    have HC := hide hcase
    have HKZ := hide hk
    clear hn hbs hr ht hp hT hcase hk
    go_enter Try.func19, Try.ntmps19
    go_wp2_with fail
    refine (isTable_any _ _ _ f true _ HN.out (by omega) (fun i hi => by have := HBS.out i hi; omega) (HRD.out.later HB0.out) (by simp [HTB.out])).mono ?_
    rintro e w1 ⟨rfl, hq1⟩
    have HB1 := hide (HB0.out.trans (hq1.below _))
    have HK1 := hide (HK0.out.later (hq1.below _))
    clear hq1
    have k0 := HK1.out.cell 0 _ rfl
    go_wp2_with fail
    clear k0
    refine (rowsI_any _ _ _ f true _ HN.out hb HBS.out (HRD.out.later HB1.out) ⟨fun _ => HP.out, fun _ => rfl⟩).mono ?_
    rintro e w2 ⟨rfl, hb2⟩
    have HB2 := hide (HB1.out.trans (hb2.mono HB1.out.size))
    have HK2 := hide (HK1.out.later hb2)
    clear hb2
    have k0 := HK2.out.cell 0 _ rfl
    go_wp2_with fail
    clear k0
    refine (kfault_any _ _ _ f T _ HN.out HTB.out (HRD.out.later HB2.out) HT.out).mono ?_
    rintro e w3 (⟨hTe, rfl, hb3⟩ | ⟨hTl, g, rfl, hb3, hg, hob⟩)
    · have HB3 := hide (HB2.out.trans (hb3.mono HB2.out.size))
      obtain ⟨rfl, rfl⟩ : zs = [] ∧ code = 4 := by rcases HC.out with ⟨h, _, _⟩ | ⟨_, h1, h2⟩ <;> first | exact ⟨h1, h2⟩ | omega
      have hk0 : k = 0 := by rw [← HKZ.out]; rfl
      subst hk0
      clear hb3 hTe
      go_wp2_with fail
      go_ret2
      exact ⟨_, _, rfl, HB3.out, .inl ⟨rfl, rfl⟩⟩
    · have HB3 := hide (HB2.out.trans (hb3.mono HB2.out.size))
      obtain ⟨rfl, rfl⟩ : zs = lst3 (trip n T) ∧ code = 0 := by rcases HC.out with ⟨_, h1, h2⟩ | ⟨h, _, _⟩ <;> first | exact ⟨h1, h2⟩ | omega
      have hk0 : k = 3 := by rw [← HKZ.out]; rfl
      subst hk0
      have HO := hide hob
      have hlo : w.heap.size ≤ g := Nat.le_trans HB2.out.size hg
      clear hb3 hTl hob
      go_wp2_with fail
      go_ret2
      exact ⟨_, _, rfl, HB3.out, .inr ⟨g, rfl, hlo, HO.out⟩⟩
  · have HTB := hide ht
    have HP := hide hp
    have hk0 : k = 0 := by rw [← hk]; rfl
    subst hk0
    clear hn hbs hr ht hp hk
    go_enter Try.func19, Try.ntmps19
    go_wp2_with fail
    refine (isTable_any _ _ _ f true _ HN.out (by omega) (fun i hi => by have := HBS.out i hi; omega) (HRD.out.later HB0.out) (by simp [HTB.out])).mono ?_
    rintro e w1 ⟨rfl, hq1⟩
    have HB1 := hide (HB0.out.trans (hq1.below _))
    have HK1 := hide (HK0.out.later (hq1.below _))
    clear hq1
    have k0 := HK1.out.cell 0 _ rfl
    go_wp2_with fail
    clear k0
    refine (rowsI_any _ _ _ f false _ HN.out hb HBS.out (HRD.out.later HB1.out) ⟨fun h => (by cases h), fun h => absurd h HP.out⟩).mono ?_
    rintro e w2 ⟨rfl, hb2⟩
    have HB2 := hide (HB1.out.trans (hb2.mono HB1.out.size))
    clear hb2
    go_wp2_with fail
    go_ret2
    exact ⟨_, _, rfl, HB2.out, .inl ⟨rfl, rfl⟩⟩
  · have HTB := hide ht
    have hk0 : k = 0 := by rw [← hk]; rfl
    subst hk0
    clear hn hbs hr ht hk
    go_enter Try.func19, Try.ntmps19
    go_wp2_with fail
    refine (isTable_any _ _ _ f false _ HN.out (by omega) (fun i hi => by have := HBS.out i hi; omega) (HRD.out.later HB0.out) (by simp [HTB.out])).mono ?_
    rintro e w1 ⟨rfl, hq1⟩
    have HB1 := hide (HB0.out.trans (hq1.below _))
    clear hq1
    go_wp2_with fail
    go_ret2
    exact ⟨_, _, rfl, HB1.out, .inl ⟨rfl, rfl⟩⟩
end Go.Proofs.Ytkflmhmbkilmpaa
namespace Go.Proofs.Ytkflmhmbkilmpaa
open Go Go.RowKit
set_option maxHeartbeats 2000000

set_option maxRecDepth 100000 in
theorem faultK_any (A : Option Addr) (n c : Nat) (f : List (List Int)) (T : Nat) (w : World) (hn : f.length = n) (ht : Tbl f) (hr : Rd2 w A f) (hT : FirstK f n T) :
    Calls Try.prog 52 #[.slice A n c] w fun e w' => (T = n * n * n ∧ e = .returned (.slice none 0 0) ∧ Below w.heap.size w w') ∨ (T < n * n * n ∧ ∃ g, e = .returned (.slice (some ⟨g, 0, none⟩) 3 3) ∧ Below w.heap.size w w' ∧ w.heap.size ≤ g ∧ OwnB 2 w' g (lst3 (trip n T))) := by
  have h1 : 1 ≤ n := by rw [← hn]; exact ht.1
  have h12 : n ≤ 12 := by rw [← hn]; exact ht.2.1
  obtain ⟨b, o, rfl, hb, hc⟩ := ht.cells hr hn
  have HC := hide hc
  have HN := hide hn
  have HTB := hide ht
  have HT := hide hT
  clear hn ht hr hT hc
  go_enter Try.func52, Try.ntmps52
  go_wp2_with fail
  go_loopw [4] (fun i wr => ∃ x : Nat, x ≤ n ∧ i = .int .i64 x ∧ Quiet w wr ∧ ∀ i, i < x * n * n → Rk3 f n i) (fun i _ => n - (intOf i).toNat)
  case atStart => exact ⟨0, Nat.zero_le _, rfl, Quiet.refl _, fun i hi => absurd hi (by omega)⟩
  case round =>
    obtain ⟨x, hx, rfl, hq, hall⟩ := hrel
    have HQ := hide hq
    clear hq
    have HALL := hide hall
    clear hall
    by_cases hlt : x < n
    · have hxz : (x : Int) < n := by omega
      go_wp2_with fail
      go_loopw [5] (fun i wi => ∃ y : Nat, y ≤ n ∧ i = .int .i64 y ∧ Quiet w wi ∧ ∀ i, i < (x * n + y) * n → Rk3 f n i) (fun i _ => n - (intOf i).toNat)
      case atStart => exact ⟨0, Nat.zero_le _, rfl, HQ.out, fun i hi => HALL.out i (by rw [Nat.add_zero] at hi; exact hi)⟩
      case round =>
        obtain ⟨y, hy, rfl, hq, halli⟩ := hrel
        have HQI := hide hq
        clear hq
        have HALLI := hide halli
        clear halli
        by_cases hlty : y < n
        · have hyz : (y : Int) < n := by omega
          go_wp2_with fail
          go_loopw [6] (fun i wi => ∃ z : Nat, z ≤ n ∧ i = .int .i64 z ∧ Quiet w wi ∧ ∀ i, i < (x * n + y) * n + z → Rk3 f n i) (fun i _ => n - (intOf i).toNat)
          case atStart => exact ⟨0, Nat.zero_le _, rfl, HQI.out, HALLI.out⟩
          case round =>
            obtain ⟨z, hzn, rfl, hq, hallj⟩ := hrel
            have HQJ := hide hq
            clear hq
            have HALLJ := hide hallj
            clear hallj
            by_cases hltz : z < n
            · have hzz : (z : Int) < n := by omega
              have hq1 := HTB.out.ap_lt HN.out hlty hltz
              have hq2 := HTB.out.ap_lt HN.out hlt hlty
              have hq3 := HTB.out.ap_lt HN.out hlt hltz
              have hat := Rk3.at (f := f) (n := n) (x := x) hlty hltz
              have HTR := hide (trip_of (n := n) (x := x) hlty hltz)
              have HKL := hide (trip_lt (n := n) hlt hlty hltz)
              obtain ⟨q1, h_1⟩ : ∃ u, ap f y z = u := ⟨_, rfl⟩
              obtain ⟨q2, h_2⟩ : ∃ u, ap f x y = u := ⟨_, rfl⟩
              obtain ⟨q3, h_3⟩ : ∃ u, ap f x z = u := ⟨_, rfl⟩
              rw [h_1, h_2, h_3] at hat
              rw [h_1] at hq1
              rw [h_2] at hq2
              rw [h_3] at hq3
              obtain ⟨q4, h_4⟩ : ∃ u, ap f x q1 = u := ⟨_, rfl⟩
              obtain ⟨q5, h_5⟩ : ∃ u, ap f q2 q3 = u := ⟨_, rfl⟩
              rw [h_4, h_5] at hat
              have HAT := hide hat
              obtain ⟨bx, ox, cx, r1, r2, r3⟩ := HC.out x hlt
              obtain ⟨by', oy, cy, s1, s2, s3⟩ := HC.out y hlty
              obtain ⟨bq, oq, cq, t1, t2, t3⟩ := HC.out q2 hq2
              have e1 := s3 z hltz
              rw [h_1] at e1
              have e2 := r3 y hlty
              rw [h_2] at e2
              have e3 := r3 z hltz
              rw [h_3] at e3
              have e4 := r3 q1 hq1
              rw [h_4] at e4
              have e5 := t3 q3 hq3
              rw [h_5] at e5
              have z1 : (q1 : Int) < n := by omega
              have z2 : (q2 : Int) < n := by omega
              have z3 : (q3 : Int) < n := by omega
              have hbl := HQJ.out.below w.heap.size
              replace r1 := (hbl.cell (p := ⟨b, o + x, none⟩) hb).trans r1
              replace s1 := (hbl.cell (p := ⟨b, o + y, none⟩) hb).trans s1
              replace t1 := (hbl.cell (p := ⟨b, o + q2, none⟩) hb).trans t1
              replace e1 := (hbl.cell (p := ⟨by', oy + z, none⟩) s2).trans e1
              replace e2 := (hbl.cell (p := ⟨bx, ox + y, none⟩) r2).trans e2
              replace e3 := (hbl.cell (p := ⟨bx, ox + z, none⟩) r2).trans e3
              replace e4 := (hbl.cell (p := ⟨bx, ox + q1, none⟩) r2).trans e4
              replace e5 := (hbl.cell (p := ⟨bq, oq + q3, none⟩) t2).trans e5
              clear hbl h_1 h_2 h_3 h_4 h_5 hat r3 s3 t3
              by_cases hcs : q4 = q5
              · have HGOOD := hide (HAT.out.2 hcs)
                subst hcs
                go_wp2_with fail
                go_quiet (fail)
                go_wp2_with fail
                go_roundw
                case rel => exact ⟨z + 1, by omega, by go_num, HQJ.out.drewN _, fun i hi => by
                  by_cases e : i = (x * n + y) * n + z
                  · rw [e]; exact HGOOD.out
                  · exact HALLJ.out i (by omega)⟩
                case measure => simp [intOf]; omega
              · have hbad : ¬ Rk3 f n ((x * n + y) * n + z) := fun h => hcs (HAT.out.1 h)
                have HTB2 := hide (HT.out.bad HALLJ.out HKL.out hbad)
                have hcz : ¬ (q4 : Int) = q5 := by omega
                clear hbad
                go_wp2_with fail
                go_quiet (fail)
                go_wp2_with fail
                refine bp_gen fun wf hwf => ?_
                have HBF : Below w.heap.size w wf := by rw [hwf]; exact ((HQJ.out.drewN nq).below _).alloc ((HQJ.out.drewN nq).below 0).size _
                have HLF : Hid (Blk wf (wr.drewN nq).heap.size 2 [.int .i64 x, .int .i64 y, .int .i64 z]) := hide (by rw [hwf]; exact Blk.new _ _ _)
                have hlo : w.heap.size ≤ (wr.drewN nq).heap.size := ((HQJ.out.drewN nq).below 0).size
                clear hwf
                go_ret
                exact .inr ⟨by rw [HTB2.out]; exact HKL.out, _, rfl, HBF, hlo, _, HLF.out, fun i hi => by
                  rw [HTB2.out, HTR.out] at hi ⊢
                  simp [lst3] at hi
                  rcases i with _ | _ | _ | i
                  · rfl
                  · rfl
                  · rfl
                  · omega⟩
            · have hzn' : z = n := by omega
              subst hzn'
              go_wp2_with fail
              go_roundw
              case rel => exact ⟨y + 1, by omega, by go_num, HQJ.out, fun i hi => HALLJ.out i (by rw [← Nat.add_assoc, Nat.add_mul _ 1, Nat.one_mul] at hi; exact hi)⟩
              case measure => simp [intOf]; omega
        · have hyn' : y = n := by omega
          subst hyn'
          go_wp2_with fail
          go_roundw
          case rel => exact ⟨x + 1, by omega, by go_num, HQI.out, fun i hi => HALLI.out i (by rw [Nat.add_mul x 1, Nat.one_mul] at hi; exact hi)⟩
          case measure => simp [intOf]; omega
    · have hxn : x = n := by omega
      subst hxn
      go_wp2_with fail
      go_ret
      exact .inl ⟨HT.out.all HALL.out, rfl, HQ.out.below _⟩
end Go.Proofs.Ytkflmhmbkilmpaa
namespace Go.Proofs.Ytkflmhmbkilmpaa
open Go Go.RowKit
set_option maxHeartbeats 2000000

set_option maxRecDepth 100000 in
theorem isRackS (A : Option Addr) (n c : Nat) (f : List (List Int)) (r : Bool) (w : World) (hn : f.length = n) (hb : n ≤ 1048576) (hbs : ∀ i, i < f.length → (f.getD i []).length ≤ 1048576) (hr : Rd2 w A f) (hres : RkRes f r) :
    Calls Try.prog 44 #[.agg #[.slice A n c]] w fun e w' => e = .returned (.bool r) ∧ Below w.heap.size w w' := by
  have HN := hide hn
  have HBS := hide hbs
  have HRD := hide hr
  have HR := hide hres
  have HB0 := hide ((Below.refl _ w).alloc (Nat.le_refl _) (Obj.cells #[Value.slice A n c] 27))
  have HK0 := hide (Blk.new w 27 [.slice A n c])
  by_cases ht : Tbl f
  · have HTB := hide ht
    obtain ⟨T, hT⟩ := FirstK.ex f n
    have HT := hide hT
    clear hn hbs hr hres ht hT
    go_enter Try.func44, Try.ntmps44
    go_wp2_with fail
    refine (l01Table_any _ _ _ f true _ HN.out (by omega) (fun i hi => by have := HBS.out i hi; omega) (HRD.out.later HB0.out) (by simp [HTB.out])).mono ?_
    rintro e w1 ⟨rfl, hq1⟩
    have HB1 := hide (HB0.out.trans (hq1.below _))
    have HK1 := hide (HK0.out.later (hq1.below _))
    clear hq1
    go_wp2_with fail
    go_loopw [3] (fun i wr => ∃ k : Nat, k ≤ n ∧ i = .int .i64 k ∧ Below w.heap.size w wr ∧ Blk wr w.heap.size 27 [.slice A n c] ∧ ∀ i, i < k → Prm (f.getD i [])) (fun i _ => n - (intOf i).toNat)
    case atStart => exact ⟨0, Nat.zero_le _, rfl, HB1.out, HK1.out, fun i hi => absurd hi (Nat.not_lt_zero _)⟩
    case round =>
      obtain ⟨k, hk, rfl, hbe, hkk, hall⟩ := hrel
      have HB := hide hbe
      have HK := hide hkk
      have HALL := hide hall
      clear hbe hkk hall
      have k0 := HK.out.cell 0 _ rfl
      by_cases hlt : k < n
      · obtain ⟨b, o, hA, _, hc⟩ := (HRD.out.later HB.out) (by have := HN.out; omega)
        obtain ⟨Ak, ck, hcell, hrd⟩ := hc k (by have := HN.out; omega)
        have hbk := HBS.out k (by have := HN.out; omega)
        obtain ⟨x, hx⟩ : ∃ x, x = f.getD k [] := ⟨_, rfl⟩
        obtain ⟨m, hm⟩ : ∃ m, x.length = m := ⟨_, rfl⟩
        rw [← hx] at hcell hrd hbk
        rw [hm] at hcell hbk
        have HX := hide hx
        have HM := hide hm
        have hltz : (k : Int) < n := by omega
        clear hx hm hc
        subst hA
        by_cases hp : Prm x
        · have HP := hide hp
          clear hp
          go_wp2_with fail
          clear k0
          refine (prmS_below _ _ _ x true _ HM.out (by omega) hrd (by simp [HP.out])).mono ?_
          rintro e w2 ⟨rfl, hq1⟩
          have HQ1 := hide hq1
          clear hq1
          go_wp2_with fail
          go_roundw
          case rel =>
            refine ⟨k + 1, by omega, by go_num, HB.out.trans (HQ1.out.mono HB.out.size), HK.out.later HQ1.out, fun i hi => ?_⟩
            by_cases e : i = k
            · subst e; rw [← HX.out]; exact HP.out
            · exact HALL.out i (by omega)
          case measure => simp [intOf]; omega
        · have HP := hide hp
          clear hp
          go_wp2_with fail
          clear k0
          refine (prmS_below _ _ _ x false _ HM.out (by omega) hrd (by simp [HP.out])).mono ?_
          rintro e w2 ⟨rfl, hq1⟩
          have HQ1 := hide hq1
          clear hq1
          have hnp : ¬ AllPrm f := fun h => by
            have h := h k (by have := HN.out; omega)
            rw [← HX.out] at h
            exact HP.out h
          have hrf : r = false := by
            cases r
            · rfl
            · have hrr : true = true ↔ Rck f := HR.out
              exact absurd (hrr.1 rfl).prm hnp
          subst hrf
          clear hnp
          go_wp2_with fail
          go_ret
          exact ⟨rfl, HB.out.trans (HQ1.out.mono HB.out.size)⟩
      · have hkn : k = n := by omega
        subst hkn
        have HAP : Hid (AllPrm f) := hide (fun i hi => HALL.out i (by have := HN.out; omega))
        go_wp2_with fail
        clear k0
        refine (faultK_any _ _ _ f T _ HN.out HTB.out (HRD.out.later HB.out) HT.out).mono ?_
        rintro e w3 (⟨hTe, rfl, hb3⟩ | ⟨hTl, g, rfl, hb3, hg, hob⟩)
        · have hrt : r = true := by
            have hrr : r = true ↔ Rck f := HR.out
            rw [hrr]
            refine ⟨⟨HTB.out, HAP.out⟩, ?_⟩
            rw [HN.out]
            exact HT.out.iff.1 hTe
          subst hrt
          have HB3 := hide (HB.out.trans (hb3.mono HB.out.size))
          clear hb3 hTe
          go_wp2_with fail
          go_ret
          exact ⟨rfl, HB3.out⟩
        · have hrf : r = false := by
            cases r
            · rfl
            · have hrr : true = true ↔ Rck f := HR.out
              have h := (hrr.1 rfl).2
              rw [HN.out] at h
              have := HT.out.iff.2 h
              omega
          subst hrf
          have HB3 := hide (HB.out.trans (hb3.mono HB.out.size))
          clear hb3 hTl hob
          go_wp2_with fail
          go_ret
          exact ⟨rfl, HB3.out⟩
  · have HTB := hide ht
    have hrf : r = false := by
      cases r
      · rfl
      · have hrr : true = true ↔ Rck f := HR.out
        exact absurd (hrr.1 rfl).tbl ht
    subst hrf
    clear hn hbs hr hres ht
    go_enter Try.func44, Try.ntmps44
    go_wp2_with fail
    refine (l01Table_any _ _ _ f false _ HN.out (by omega) (fun i hi => by have := HBS.out i hi; omega) (HRD.out.later HB0.out) (by simp [HTB.out])).mono ?_
    rintro e w1 ⟨rfl, hq1⟩
    have HB1 := hide (HB0.out.trans (hq1.below _))
    clear hq1
    go_wp2_with fail
    go_ret
    exact ⟨rfl, HB1.out⟩

set_option maxRecDepth 100000 in
theorem rkfS_any (A : Option Addr) (n c : Nat) (f : List (List Int)) (zs : List Int) (code : Int) (kk : Nat) (w : World) (hn : f.length = n) (hb : n ≤ 1048576) (hbs : ∀ i, i < f.length → (f.getD i []).length ≤ 1048576) (hr : Rd2 w A f) (hres : RkFRes f zs code) (hk : zs.length = kk) :
    Calls Try.prog 18 #[.agg #[.slice A n c]] w (RPost 2 kk zs code w) := by
  have HN := hide hn
  have HBS := hide hbs
  have HRD := hide hr
  have HR := hide hres
  have HB0 := hide ((Below.refl _ w).alloc (Nat.le_refl _) (Obj.cells #[Value.slice A n c] 27))
  have HK0 := hide (Blk.new w 27 [.slice A n c])
  have HKZ := hide hk
  by_cases ht : Tbl f
  · have HTB := hide ht
    obtain ⟨T, hT⟩ := FirstK.ex f n
    have HT := hide hT
    clear hn hbs hr hres ht hT hk
    go_enter Try.func18, Try.ntmps18
    go_wp2_with fail
    refine (l01Table_any _ _ _ f true _ HN.out (by omega) (fun i hi => by have := HBS.out i hi; omega) (HRD.out.later HB0.out) (by simp [HTB.out])).mono ?_
    rintro e w1 ⟨rfl, hq1⟩
    have HB1 := hide (HB0.out.trans (hq1.below _))
    have HK1 := hide (HK0.out.later (hq1.below _))
    clear hq1
    go_wp2_with fail
    go_loopw [4] (fun i wr => ∃ k : Nat, k ≤ n ∧ i = .int .i64 k ∧ Below w.heap.size w wr ∧ Blk wr w.heap.size 27 [.slice A n c] ∧ ∀ i, i < k → Prm (f.getD i [])) (fun i _ => n - (intOf i).toNat)
    case atStart => exact ⟨0, Nat.zero_le _, rfl, HB1.out, HK1.out, fun i hi => absurd hi (Nat.not_lt_zero _)⟩
    case round =>
      obtain ⟨k, hk, rfl, hbe, hkk, hall⟩ := hrel
      have HB := hide hbe
      have HK := hide hkk
      have HALL := hide hall
      clear hbe hkk hall
      have k0 := HK.out.cell 0 _ rfl
      by_cases hlt : k < n
      · obtain ⟨b, o, hA, _, hc⟩ := (HRD.out.later HB.out) (by have := HN.out; omega)
        obtain ⟨Ak, ck, hcell, hrd⟩ := hc k (by have := HN.out; omega)
        have hbk := HBS.out k (by have := HN.out; omega)
        obtain ⟨x, hx⟩ : ∃ x, x = f.getD k [] := ⟨_, rfl⟩
        obtain ⟨m, hm⟩ : ∃ m, x.length = m := ⟨_, rfl⟩
        rw [← hx] at hcell hrd hbk
        rw [hm] at hcell hbk
        have HX := hide hx
        have HM := hide hm
        have hltz : (k : Int) < n := by omega
        clear hx hm hc
        subst hA
        by_cases hp : Prm x
        · have HP := hide hp
          clear hp
          go_wp2_with fail
          clear k0
          refine (prmS_below _ _ _ x true _ HM.out (by omega) hrd (by simp [HP.out])).mono ?_
          rintro e w2 ⟨rfl, hq1⟩
          have HQ1 := hide hq1
          clear hq1
          go_wp2_with fail
          go_roundw
          case rel =>
            refine ⟨k + 1, by omega, by go_num, HB.out.trans (HQ1.out.mono HB.out.size), HK.out.later HQ1.out, fun i hi => ?_⟩
            by_cases e : i = k
            · subst e; rw [← HX.out]; exact HP.out
            · exact HALL.out i (by omega)
          case measure => simp [intOf]; omega
        · have HP := hide hp
          clear hp
          go_wp2_with fail
          clear k0
          refine (prmS_below _ _ _ x false _ HM.out (by omega) hrd (by simp [HP.out])).mono ?_
          rintro e w2 ⟨rfl, hq1⟩
          have HQ1 := hide hq1
          clear hq1
          have hnp : ¬ AllPrm f := fun h => by
            have h := h k (by have := HN.out; omega)
            rw [← HX.out] at h
            exact HP.out h
          obtain ⟨rfl, rfl⟩ : zs = [] ∧ code = 5 := by
            rcases HR.out with ⟨_, h, _⟩ | ⟨_, _, h⟩ | ⟨h, _⟩
            · exact absurd h.2 hnp
            · exact h
            · exact absurd HTB.out h
          have hk0 : kk = 0 := by rw [← HKZ.out]; rfl
          subst hk0
          clear hnp
          go_wp2_with fail
          go_ret2
          exact ⟨_, _, rfl, HB.out.trans (HQ1.out.mono HB.out.size), .inl ⟨rfl, rfl⟩⟩
      · have hkn : k = n := by omega
        subst hkn
        have HAP : Hid (AllPrm f) := hide (fun i hi => HALL.out i (by have := HN.out; omega))
        go_wp2_with fail
        clear k0
        refine (faultK_any _ _ _ f T _ HN.out HTB.out (HRD.out.later HB.out) HT.out).mono ?_
        rintro e w3 (⟨hTe, rfl, hb3⟩ | ⟨hTl, g, rfl, hb3, hg, hob⟩)
        · have HB3 := hide (HB.out.trans (hb3.mono HB.out.size))
          obtain ⟨rfl, rfl⟩ : zs = [] ∧ code = 4 := by
            rcases HR.out with ⟨T2, _, hT2, h⟩ | ⟨_, h, _⟩ | ⟨h, _⟩
            · rw [HN.out] at hT2 h
              have hT3 : T2 = k * k * k := hT2.all (HT.out.iff.1 hTe)
              rcases h with ⟨h, _⟩ | ⟨_, h⟩
              · omega
              · exact h
            · exact absurd HAP.out h
            · exact absurd HTB.out h
          have hk0 : kk = 0 := by rw [← HKZ.out]; rfl
          subst hk0
          clear hb3 hTe
          go_wp2_with fail
          go_ret2
          exact ⟨_, _, rfl, HB3.out, .inl ⟨rfl, rfl⟩⟩
        · have HB3 := hide (HB.out.trans (hb3.mono HB.out.size))
          obtain ⟨rfl, rfl⟩ : zs = lst3 (trip k T) ∧ code = 0 := by
            rcases HR.out with ⟨T2, _, hT2, h⟩ | ⟨_, h, _⟩ | ⟨h, _⟩
            · rw [HN.out] at hT2 h
              have hT3 : T2 = T := hT2.bad HT.out.1 hTl (HT.out.2.2 hTl)
              rw [hT3] at h
              rcases h with ⟨_, h⟩ | ⟨h, _⟩
              · exact h
              · omega
            · exact absurd HAP.out h
            · exact absurd HTB.out h
          have hk0 : kk = 3 := by rw [← HKZ.out]; rfl
          subst hk0
          have HO := hide hob
          have hlo : w.heap.size ≤ g := Nat.le_trans HB.out.size hg
          clear hb3 hTl hob
          go_wp2_with fail
          go_ret2
          exact ⟨_, _, rfl, HB3.out, .inr ⟨g, rfl, hlo, HO.out⟩⟩
  · have HTB := hide ht
    obtain ⟨rfl, rfl⟩ : zs = [] ∧ code = 1 := by
      rcases HR.out with ⟨_, h, _⟩ | ⟨h, _⟩ | ⟨_, h⟩
      · exact absurd h.1 ht
      · exact absurd h ht
      · exact h
    have hk0 : kk = 0 := by rw [← hk]; rfl
    subst hk0
    clear hn hbs hr hres ht hk
    go_enter Try.func18, Try.ntmps18
    go_wp2_with fail
    refine (l01Table_any _ _ _ f false _ HN.out (by omega) (fun i hi => by have := HBS.out i hi; omega) (HRD.out.later HB0.out) (by simp [HTB.out])).mono ?_
    rintro e w1 ⟨rfl, hq1⟩
    have HB1 := hide (HB0.out.trans (hq1.below _))
    clear hq1
    go_wp2_with fail
    go_ret2
    exact ⟨_, _, rfl, HB1.out, .inl ⟨rfl, rfl⟩⟩
theorem isRackSW (A : Option Addr) (n c : Nat) (f : List (List Int)) (r : Bool) (w : World) (hn : f.length = n) (hb : n ≤ 1048576) (hbs : ∀ i, i < f.length → (f.getD i []).length ≤ 1048576) (hr : Rd2 w A f) (hres : RkRes f r) :
    Calls Try.prog 14 #[.agg #[.slice A n c]] w fun e w' => e = .returned (.bool r) ∧ Below w.heap.size w w' := by
  have HN := hide hn
  have HBS := hide hbs
  have HR := hide hres
  clear hn hbs hres
  have HB0 := hide ((Below.refl _ w).alloc (Nat.le_refl _) (Obj.cells #[Value.slice A n c] 27))
  go_enter Try.func14, Try.ntmps14
  go_wp2_with fail
  refine (isRackS _ _ _ f r _ HN.out hb HBS.out (hr.later HB0.out) HR.out).mono ?_
  rintro e w1 ⟨rfl, hb1⟩
  have HB1 := hide (HB0.out.trans (hb1.mono HB0.out.size))
  clear hb1
  go_wp2_with fail
  go_ret
  exact ⟨rfl, HB1.out⟩

end Go.Proofs.Ytkflmhmbkilmpaa
namespace Go.Proofs.Ytkflmhmbkilmpaa
open Go Go.RowKit
def fstG (f : List (List Int)) : List (List Int) := grid f.length (fun x y => ((ap f x y : Nat) : Int))
def sndG (f : List (List Int)) : List (List Int) := grid f.length (fun x _ => (x : Int))
theorem fstG_self {f : List (List Int)} (h : Tbl f) : fstG f = f := by
  unfold fstG
  apply List.ext_getElem
  · rw [grid_length]
  · intro i h1 h2
    have hl := h.rows i h2
    have e : f.getD i [] = f[i] := by simp [h2]
    simp only [grid, List.getElem_map, List.getElem_range]
    apply List.ext_getElem
    · rw [List.length_map, List.length_range, ← e, hl]
    · intro j h3 h4
      simp only [List.getElem_map, List.getElem_range]
      rw [← h.ap_eq rfl h2 (by rw [← hl, e]; exact h4), e]
      simp [h4]
def RsoRes (f zf zg : List (List Int)) (code : Int) : Prop := (Rck f ∧ f = zf ∧ zg = sndG f ∧ code = 0) ∨ (¬ Rck f ∧ zf = [] ∧ zg = [] ∧ code = 1)
theorem RsoRes.ex (f : List (List Int)) : ∃ zf zg code, RsoRes f zf zg code ∧ ZSz 1048576 zf zf.length zg zg.length := by
  by_cases h : Rck f
  · have h12 := h.tbl.2.1
    refine ⟨_, _, _, .inl ⟨h, rfl, rfl, rfl⟩, rfl, by omega, fun i hi => ?_, rfl, ?_, fun i hi => ?_⟩
    · rw [h.tbl.rows i hi]; omega
    · rw [sndG, grid_length]; omega
    · rw [sndG, grid_length] at hi
      rw [sndG, grid_row_length _ _ _ hi]; omega
  · exact ⟨_, _, _, .inr ⟨h, rfl, rfl, rfl⟩, rfl, by simp, by simp, rfl, by simp, by simp⟩
end Go.Proofs.Ytkflmhmbkilmpaa
namespace Go.Proofs.Ytkflmhmbkilmpaa
open Go Go.RowKit
set_option maxHeartbeats 2000000

set_option maxRecDepth 100000 in
theorem klead_any (A : Option Addr) (n c : Nat) (f : List (List Int)) (x y u : Nat) (w : World) (hn : f.length = n) (ht : Tbl f) (hr : Rd2 w A f) (hx : x < n) (hy : y < n) (hu : ap f x y = u) :
    Calls Try.prog 84 #[.agg #[.slice A n c], .agg #[.int .i64 x, .int .i64 y]] w fun e w' => e = .returned (.agg #[.int .i64 u, .int .i64 x]) ∧ Below w.heap.size w w' := by
  have HN := hide hn
  have HTB := hide ht
  have HR := hide hr
  have HU := hide hu
  clear hn ht hr hu
  go_enter Try.func84, Try.ntmps84
  go_wp2_with fail
  refine wp_gen fun w1 hw1 => ?_
  have HBc : Hid (Below w.heap.size w w1) := hide (by rw [hw1]; exact (((Below.refl _ _).alloc (Nat.le_refl _) _).alloc (by simp) _).alloc (by simp; omega) _)
  have HKc : Hid (Blk w1 w.heap.size 27 [.slice A n c]) := hide (by rw [hw1]; exact ((Blk.new _ _ _).alloc _).alloc _)
  have HPc : Hid (Blk w1 (w.heap.size + 1) 77 [.int .i64 x, .int .i64 y]) := hide (by rw [hw1]; have h := (Blk.new (w.alloc (Obj.cells #[.slice A n c] 27)) 77 [.int .i64 x, .int .i64 y]).alloc (Obj.cells #[Value.int IntKind.i64 0, Value.int IntKind.i64 0] 77); simpa using h)
  have HRc : Hid (Blk w1 (w.heap.size + 1 + 1) 77 [.int .i64 0, .int .i64 0]) := hide (by rw [hw1]; have h := (Blk.new ((w.alloc (Obj.cells #[.slice A n c] 27)).alloc (Obj.cells #[Value.int IntKind.i64 x, Value.int IntKind.i64 y] 77)) 77 [.int .i64 0, .int .i64 0]); simpa using h)
  clear hw1
  have k0 := HKc.out.cell 0 _ rfl
  have p0 := HPc.out.cell 0 _ rfl
  have p1 := HPc.out.cell 1 _ rfl
  have r0 := HRc.out.cell 0 _ rfl
  have r1 := HRc.out.cell 1 _ rfl
  have f0 := HRc.out.frozen 0
  have f1 := HRc.out.frozen 1
  have k1 : w.heap.size + 1 + 1 ≠ w.heap.size := by omega
  have k2 : w.heap.size + 1 + 1 ≠ w.heap.size + 1 := by omega
  have j1 := k1.symm
  have j2 := k2.symm
  go_region_held3 (fun w' => w'.cell? ⟨w.heap.size, 0, none⟩ = some (.slice A n c) ∧ w'.cell? ⟨w.heap.size + 1, 0, none⟩ = some (.int .i64 x) ∧ w'.cell? ⟨w.heap.size + 1, 1, none⟩ = some (.int .i64 y)) (first | exact ⟨k0, p0, p1⟩ | go_keep) (first | (go_at_call 76; go_must (refine calls_gen fun wc hwc => ?_; (first | have hbx := drew_below hwc | have hbx := eq_below hwc); replace HBc := hide (HBc.out.trans (hbx.mono HBc.out.size)); replace HKc := hide (HKc.out.later hbx); replace HPc := hide (HPc.out.later hbx); replace HRc := hide (HRc.out.later hbx); clear hwc hbx; refine (act_any _ _ _ f x y u _ HN.out HTB.out (HR.out.later HBc.out) hx hy HU.out).mono ?_; rintro e wd ⟨rfl, hbd⟩; replace HBc := hide (HBc.out.trans (hbd.mono HBc.out.size)); replace HKc := hide (HKc.out.later hbd); replace HPc := hide (HPc.out.later hbd); replace HRc := hide (HRc.out.later hbd); clear hbd; have k0 := HKc.out.cell 0 _ rfl; have p0 := HPc.out.cell 0 _ rfl; have p1 := HPc.out.cell 1 _ rfl; have r0 := HRc.out.cell 0 _ rfl; have r1 := HRc.out.cell 1 _ rfl; have f0 := HRc.out.frozen 0; have f1 := HRc.out.frozen 1)))
  clear k1 k2 j1 j2 k0 p0 p1 r0 r1 f0 f1
  go_wp2_with fail
  refine bp_gen fun wf hwf => ?_
  have HRF : Blk wf (w.heap.size + 1 + 1) 77 [.int .i64 u, .int .i64 x] := by rw [hwf]; first | exact ((HRc.out.set 0 _).set 1 _) | exact ((HRc.out.set 0 _).set 1 _).drew
  have HBF : Below w.heap.size w wf := by rw [hwf]; first | exact ((HBc.out.setCell (by show w.heap.size ≤ w.heap.size + 1 + 1; omega) _).setCell (by show w.heap.size ≤ w.heap.size + 1 + 1; omega) _) | exact ((HBc.out.setCell (by show w.heap.size ≤ w.heap.size + 1 + 1; omega) _).setCell (by show w.heap.size ≤ w.heap.size + 1 + 1; omega) _).drew
  have q0 := HRF.cell 0 _ rfl
  have q1 := HRF.cell 1 _ rfl
  clear hwf
  exact bodyPost_ret (v := .agg #[.int .i64 u, .int .i64 x]) (by simp [results, Try.results84, go_sem, q0, q1]) rfl ⟨rfl, HBF⟩

set_option maxRecDepth 100000 in
theorem ksolution_any (A : Option Addr) (n c : Nat) (f : List (List Int)) (w : World) (hn : f.length = n) (ht : Tbl f) (hr : Rd2 w A f) :
    Calls Try.prog 58 #[.agg #[.slice A n c]] w fun e w' => ∃ A' c' B' d', e = .returned (.agg #[.slice A' n c', .slice B' n d']) ∧ Below w.heap.size w w' ∧ ObjZ 31 2 w.heap.size w'.heap.size w' A' f B' (sndG f) := by
  have h1 : 1 ≤ n := by rw [← hn]; exact ht.1
  have h12 : n ≤ 12 := by rw [← hn]; exact ht.2.1
  have HN := hide hn
  have HTB := hide ht
  have HR := hide hr
  have HG1 : Hid (grid n (fun x y => ((ap f x y : Nat) : Int)) = f) := hide (by have h := fstG_self ht; unfold fstG at h; rw [hn] at h; exact h)
  have HG2 : Hid (grid n (fun x _ => (x : Int)) = sndG f) := hide (by unfold sndG; rw [hn])
  have HB0 := hide (((Below.refl _ w).alloc (Nat.le_refl _) (Obj.cells #[Value.slice A n c] 27)).alloc (by simp) (Obj.cells #[.slice none 0 0, .slice none 0 0] 40))
  have HK0 := hide ((Blk.new w 27 [.slice A n c]).alloc (Obj.cells #[.slice none 0 0, .slice none 0 0] 40))
  have HR0 : Hid (Blk ((w.alloc (Obj.cells #[Value.slice A n c] 27)).alloc (Obj.cells #[.slice none 0 0, .slice none 0 0] 40)) (w.heap.size + 1) 40 [.slice none 0 0, .slice none 0 0]) := hide (by have h := Blk.new (w.alloc (Obj.cells #[Value.slice A n c] 27)) 40 [.slice none 0 0, .slice none 0 0]; simpa using h)
  clear hn ht hr
  go_enter Try.func58, Try.ntmps58
  go_wp2_with fail
  refine wp_gen fun w0 hw0 => ?_
  have HBc : Hid (Below w.heap.size w w0) := hide (by rw [hw0]; exact HB0.out)
  have HKc : Hid (Blk w0 w.heap.size 27 [.slice A n c]) := hide (by rw [hw0]; exact HK0.out)
  have HRc : Hid (Blk w0 (w.heap.size + 1) 40 [.slice none 0 0, .slice none 0 0]) := hide (by rw [hw0]; exact HR0.out)
  clear hw0
  have k0 := HKc.out.cell 0 _ rfl
  have r0 := HRc.out.cell 0 _ rfl
  have r1 := HRc.out.cell 1 _ rfl
  have f0 := HRc.out.frozen 0
  have f1 := HRc.out.frozen 1
  have n0 : w.heap.size + 1 ≠ w.heap.size := by omega
  have n1 := n0.symm
  go_region_held3 (fun w' => w'.cell? ⟨w.heap.size, 0, none⟩ = some (.slice A n c)) (first | exact k0 | go_keep) (first | (go_at_call 62; go_must (refine calls_gen fun wc hwc => ?_; (first | have hbx := drew_below hwc | have hbx := eq_below hwc); replace HBc := hide (HBc.out.trans (hbx.mono HBc.out.size)); replace HKc := hide (HKc.out.later hbx); replace HRc := hide (HRc.out.later hbx); clear hwc hbx; refine (ksize_any _ _ _ _ (by omega)).mono ?_; rintro e wd ⟨rfl, hbd⟩; replace HBc := hide (HBc.out.trans (hbd.mono HBc.out.size)); replace HKc := hide (HKc.out.later hbd); replace HRc := hide (HRc.out.later hbd); clear hbd; have k0 := HKc.out.cell 0 _ rfl; have r0 := HRc.out.cell 0 _ rfl; have r1 := HRc.out.cell 1 _ rfl; have f0 := HRc.out.frozen 0; have f1 := HRc.out.frozen 1)) | (go_at_call 83; go_must (refine calls_gen fun wc hwc => ?_; (first | have hbx := drew_below hwc | have hbx := eq_below hwc); replace HBc := hide (HBc.out.trans (hbx.mono HBc.out.size)); replace HKc := hide (HKc.out.later hbx); replace HRc := hide (HRc.out.later hbx); clear hwc hbx; refine (pmp_any 84 (.agg #[.slice A n c]) n (fun x y => ((ap f x y : Nat) : Int)) (fun x _ => (x : Int)) _ (enters_of Try.func84 (by kernel_rfl) rfl) h1 h12 (fun W x y hx hy hbe => klead_any _ _ _ f x y _ W HN.out HTB.out (HR.out.later (HBc.out.trans (hbe.mono HBc.out.size))) hx hy rfl)).mono ?_; rintro e wd ⟨A3, c3, B3, d3, rfl, hbd, hobj⟩; have HSZ := hide HRc.out.lt; have HLO := hide HBc.out.size; have HO := hide (by have h := hobj; rw [HG1.out, HG2.out] at h; exact h); clear hobj; replace HBc := hide (HBc.out.trans (hbd.mono HBc.out.size)); replace HKc := hide (HKc.out.later hbd); replace HRc := hide (HRc.out.later hbd); clear hbd; have k0 := HKc.out.cell 0 _ rfl; have r0 := HRc.out.cell 0 _ rfl; have r1 := HRc.out.cell 1 _ rfl; have f0 := HRc.out.frozen 0; have f1 := HRc.out.frozen 1)))
  all_goals
    clear k0 r0 r1 f0 f1
    go_wp2_with fail
    refine bp_gen fun wf hwf => ?_
    obtain ⟨q0, q1, hbf, hof⟩ := zend hwf HRc.out (by omega) HSZ.out HBc.out HLO.out HO.out
    clear hwf
    exact bodyPost_ret (v := .agg #[.slice A3 n c3, .slice B3 n d3]) (by simp [results, Try.results58, go_sem, q0, q1]) rfl ⟨_, _, _, _, rfl, hbf, hof⟩

set_option maxRecDepth 100000 in
theorem rsoI_any (A : Option Addr) (n c : Nat) (f : List (List Int)) (zf zg : List (List Int)) (code : Int) (k kw : Nat) (w : World) (hn : f.length = n) (hb : n ≤ 1048576) (hbs : ∀ i, i < f.length → (f.getD i []).length ≤ 1048576) (hr : Rd2 w A f) (hres : RsoRes f zf zg code) (hk : ZSz 1048576 zf k zg kw) :
    Calls Try.prog 27 #[.agg #[.slice A n c]] w (fun e w' => ∃ A' c' B' d', e = .returned (.tuple #[.agg #[.slice A' k c', .slice B' kw d'], .int .i64 code]) ∧ Below w.heap.size w w' ∧ ObjZ 31 2 w.heap.size w'.heap.size w' A' zf B' zg) := by
  have HN := hide hn
  have HBS := hide hbs
  have HRD := hide hr
  have HB0 := hide (((Below.refl _ w).alloc (Nat.le_refl _) (Obj.cells #[Value.slice A n c] 27)).alloc (by simp) (Obj.cells #[.slice none 0 0, .slice none 0 0] 40))
  have HK0 := hide ((Blk.new w 27 [.slice A n c]).alloc (Obj.cells #[.slice none 0 0, .slice none 0 0] 40))
  have HR0 : Hid (Blk ((w.alloc (Obj.cells #[Value.slice A n c] 27)).alloc (Obj.cells #[.slice none 0 0, .slice none 0 0] 40)) (w.heap.size + 1) 40 [.slice none 0 0, .slice none 0 0]) := hide (by have h := Blk.new (w.alloc (Obj.cells #[Value.slice A n c] 27)) 40 [.slice none 0 0, .slice none 0 0]; simpa using h)
  rcases hres with ⟨hp, rfl, rfl, rfl⟩ | ⟨hp, rfl, rfl, rfl⟩
  · have hk1 : k = n := by rw [← hk.fl, hn]
    have hk2 : kw = n := by rw [← hk.sl, sndG, grid_length, hn]
    subst hk1
    subst hk2
    have HTB := hide hp.tbl
    clear hk
    have HRK : Hid (RkRes f true) := hide (by unfold RkRes; simp [hp])
    have HP := hide hp
    clear hn hbs hr hp
    go_enter Try.func27, Try.ntmps27
    go_wp2_with fail
    refine (isRackI _ _ _ f true _ HN.out hb HBS.out (HRD.out.later HB0.out) HRK.out).mono ?_
    rintro e w1 ⟨rfl, hb1⟩
    have HB1 := hide (HB0.out.trans (hb1.mono HB0.out.size))
    have HK1 := hide (HK0.out.later hb1)
    have HR1 := hide (HR0.out.later hb1)
    clear hb1
    have k0 := HK1.out.cell 0 _ rfl
    go_wp2_with fail
    clear k0
    refine (ksolution_any _ _ _ _ _ HN.out HTB.out (HRD.out.later HB1.out)).mono ?_
    rintro e w2 ⟨A3, c3, B3, d3, rfl, hb2, hobj⟩
    have HB2 := hide (HB1.out.trans (hb2.mono HB1.out.size))
    have HR2 := hide (HR1.out.later hb2)
    have HO := hide hobj
    have hlt1 := HR1.out.lt
    clear hb2 hobj
    have k2 := HR2.out.cell 0 _ rfl
    have k3 := HR2.out.cell 1 _ rfl
    have k4 := HR2.out.frozen 0
    have k5 := HR2.out.frozen 1
    go_wp2_with fail
    refine bp_gen fun wf hwf => ?_
    obtain ⟨q0, q1, hbf, hof⟩ := zend hwf HR2.out (by omega) hlt1 HB2.out HB1.out.size HO.out
    clear hwf k2 k3 k4 k5
    exact bodyPost_ret (v := .tuple #[.agg #[.slice A3 kw c3, .slice B3 kw d3], .int .i64 0]) (by simp [results, Try.results27, go_sem, q0, q1]) rfl ⟨_, _, _, _, rfl, hbf, hof⟩
  · have hk1 : k = 0 := by rw [← hk.fl]; rfl
    have hk2 : kw = 0 := by rw [← hk.sl]; rfl
    subst hk1
    subst hk2
    clear hk
    have HRK : Hid (RkRes f false) := hide (by unfold RkRes; simp [hp])
    have HP := hide hp
    clear hn hbs hr hp
    go_enter Try.func27, Try.ntmps27
    go_wp2_with fail
    refine (isRackI _ _ _ f false _ HN.out hb HBS.out (HRD.out.later HB0.out) HRK.out).mono ?_
    rintro e w1 ⟨rfl, hb1⟩
    have HB1 := hide (HB0.out.trans (hb1.mono HB0.out.size))
    have HK1 := hide (HK0.out.later hb1)
    have HR1 := hide (HR0.out.later hb1)
    clear hb1
    have k2 := HR1.out.cell 0 _ rfl
    have k3 := HR1.out.frozen 0
    have k4 := HR1.out.cell 1 _ rfl
    have k5 := HR1.out.frozen 1
    go_wp2_with fail
    refine bp_gen fun wf hwf => ?_
    have HRF : Blk wf (w.heap.size + 1) 40 [.slice none 0 0, .slice none 0 0] := by rw [hwf]; first | exact HR1.out | exact HR1.out.set 0 _ | exact (HR1.out.set 0 _).set 1 _
    have hbf : Below w.heap.size w wf := by rw [hwf]; first | exact HB1.out | exact HB1.out.setCell (p := ⟨w.heap.size + 1, 0, none⟩) (by show w.heap.size ≤ w.heap.size + 1; omega) _ | exact (HB1.out.setCell (p := ⟨w.heap.size + 1, 0, none⟩) (by show w.heap.size ≤ w.heap.size + 1; omega) _).setCell (p := ⟨w.heap.size + 1, 1, none⟩) (by show w.heap.size ≤ w.heap.size + 1; omega) _
    have q0 := HRF.cell 0 _ rfl
    have q1 := HRF.cell 1 _ rfl
    clear hwf k2 k3
    exact bodyPost_ret (v := .tuple #[.agg #[.slice none 0 0, .slice none 0 0], .int .i64 1]) (by simp [results, Try.results27, go_sem, q0, q1]) rfl ⟨_, _, _, _, rfl, hbf, ObjZ.empty hbf.size⟩

end Go.Proofs.Ytkflmhmbkilmpaa
namespace Go.Proofs.Ytkflmhmbkilmpaa
open Go Go.RowKit
set_option maxHeartbeats 4000000
theorem rsoInfo2 : (Try.prog.info? 31).map (fun i => (i.zero, i.size, i.bytes)) = some (some (.slice none 0 0), 1, 24) := by kernel_rfl
theorem sndG_take (f : List (List Int)) (x : Nat) (hx : x < f.length) : (sndG f).take (x + 1) = (sndG f).take x ++ [List.replicate f.length (x : Int)] := by
  have hl : x < (sndG f).length := by rw [sndG, grid_length]; exact hx
  rw [List.take_succ_eq_append_getElem hl]
  congr 1
  simp only [sndG, grid, List.getElem_map, List.getElem_range]
  congr 1
  apply List.ext_getElem (by simp)
  intro i h1 h2
  simp
/-- A table keeps where its blocks keep. -/
theorem Obj2.same {ts t : TypeId} {lo hi : Nat} {w w' : World} {A : Option Addr} {rows : List (List Int)} (h : Obj2 ts t lo hi w A rows) (hs : ∀ k, lo ≤ k → k < hi → w'.heap[k]? = w.heap[k]?) : Obj2 ts t lo hi w' A rows := by
  rcases h with h | ⟨g, R, C, e, a, b, ⟨cur, c1, c2⟩, d, f⟩
  · exact .inl h
  · refine .inr ⟨g, R, C, e, a, b, ⟨cur, (hs g a b).trans c1, c2⟩, fun i hi' => ?_, f⟩
    rcases d i hi' with h | ⟨g2, h1, h2, h3, h4⟩
    · exact .inl h
    · exact .inr ⟨g2, h1, h2, h3, h4.of_block (hs g2 h2 h3)⟩

set_option maxRecDepth 100000 in
theorem solS_any (A : Option Addr) (n c : Nat) (f : List (List Int)) (w : World) (hn : f.length = n) (ht : Tbl f) (hr : Rd2 w A f) :
    Calls Try.prog 57 #[.agg #[.slice A n c]] w fun e w' => ∃ A' c' B' d', e = .returned (.agg #[.slice A' n c', .slice B' n d']) ∧ Below w.heap.size w w' ∧ ObjW 31 2 w.heap.size w'.heap.size w' A' f B' (sndG f) := by
  have h1 : 1 ≤ n := by rw [← hn]; exact ht.1
  have h12 : n ≤ 12 := by rw [← hn]; exact ht.2.1
  have HN := hide hn
  have HTB := hide ht
  have HR := hide hr
  have HSL : Hid ((sndG f).length = n) := hide (by rw [sndG, grid_length]; exact hn)
  have HB0 := hide (((Below.refl _ w).alloc (Nat.le_refl _) (Obj.cells #[Value.slice A n c] 27)).alloc (by simp) (Obj.cells #[.slice none 0 0, .slice none 0 0] 40))
  have HK0 := hide ((Blk.new w 27 [.slice A n c]).alloc (Obj.cells #[.slice none 0 0, .slice none 0 0] 40))
  have HR0 : Hid (Blk ((w.alloc (Obj.cells #[Value.slice A n c] 27)).alloc (Obj.cells #[.slice none 0 0, .slice none 0 0] 40)) (w.heap.size + 1) 40 [.slice none 0 0, .slice none 0 0]) := hide (by have h := Blk.new (w.alloc (Obj.cells #[Value.slice A n c] 27)) 40 [.slice none 0 0, .slice none 0 0]; simpa using h)
  obtain ⟨i0, hi, hz0, hz1, hz2⟩ := info_parts kqInfo
  obtain ⟨i2, hj, hy0, hy1, hy2⟩ := info_parts rsoInfo2
  clear hn ht hr
  go_enter Try.func57, Try.ntmps57
  have k0 := HK0.out.cell 0 _ rfl
  go_wp2_with fail
  clear k0
  refine (ownk_any A n c f _ HN.out h1 (by omega) (fun i hi => HTB.out.row_len HN.out (by have := HN.out; omega)) (HR.out.later HB0.out)).mono ?_
  rintro e w1 ⟨A1, c1, rfl, hb1, ho1⟩
  have HB1 := hide (HB0.out.trans (hb1.mono HB0.out.size))
  have HK1 := hide (HK0.out.later hb1)
  have HR1 := hide (HR0.out.later hb1)
  have HF1 : Hid (Obj2 31 2 (w.heap.size + 1 + 1) w1.heap.size w1 A1 f) := hide (by simpa using ho1)
  have hlow1 : w.heap.size + 1 < w1.heap.size := HR1.out.lt
  clear hb1 ho1
  go_wp2_with fail
  refine wp_gen fun w2 hw2 => ?_
  obtain ⟨ob, hob⟩ : ∃ ob, w1.heap.size = ob := ⟨_, rfl⟩
  have hal : Below w1.heap.size w1 w2 := by rw [hw2]; exact (Below.refl _ _).alloc (Nat.le_refl _) _
  have HB2 := hide (HB1.out.trans (hal.mono HB1.out.size))
  have HK2 := hide (HK1.out.later hal)
  have HR2 := hide (HR1.out.later hal)
  have HF2 : Hid (Obj2 31 2 (w.heap.size + 1 + 1) ob w2 A1 f) := hide (by rw [← hob]; exact HF1.out.later hal)
  have HO2 : Hid (Blk w2 ob 40 [.slice A1 n c1, .slice none 0 0]) := hide (by rw [hw2, ← hob]; exact Blk.new w1 40 [.slice A1 n c1, .slice none 0 0])
  have HT2 : Hid (One 31 2 40 (ob + 1) w2 ob 1 [.slice A1 n c1, .slice none 0 0] (.slice none 0 0) [] []) := hide (One.start w2 _ _ _ HO2.out (Nat.lt_succ_self _) HO2.out.lt)
  have hob1 : w.heap.size + 1 < ob := by rw [← hob]; exact hlow1
  rw [hob]
  clear hw2 hob hal hlow1
  go_loopw [4] (fun i wr => ∃ (x : Nat) (v : Value) (vals : List Value), x ≤ n ∧ i = .int .i64 x ∧ Below w.heap.size w wr ∧ Blk wr w.heap.size 27 [.slice A n c] ∧ Blk wr (w.heap.size + 1) 40 [.slice none 0 0, .slice none 0 0] ∧ Obj2 31 2 (w.heap.size + 1 + 1) ob wr A1 f ∧ One 31 2 40 (ob + 1) wr ob 1 [.slice A1 n c1, .slice none 0 0] v ((sndG f).take x) vals) (fun i _ => n - (intOf i).toNat)
  case atStart => exact ⟨0, _, _, Nat.zero_le _, rfl, HB2.out, HK2.out, HR2.out, HF2.out, by simpa using HT2.out⟩
  case round =>
    obtain ⟨x, v, vals, hx, rfl, hbe, hkk, hrr, hff, htw⟩ := hrel
    clear HB2 HK2 HR2 HT2 HO2 HF2
    have HB := hide hbe
    have HK := hide hkk
    have HRR := hide hrr
    have HF := hide hff
    have HT := hide htw
    clear hbe hkk hrr hff htw
    have k0 := HK.out.cell 0 _ rfl
    by_cases hlt : x < n
    · have hxz : (x : Int) < n := by omega
      go_wp2_with fail
      clear k0
      obtain ⟨wo, rfl⟩ : ∃ wo : World, wo = wr := ⟨_, rfl⟩
      go_loopw [5, 6] (fun v i wi => ∃ y : Nat, y ≤ n ∧ i = .int .i64 y ∧ Below wo.heap.size wo wi ∧ wo.heap.size < wi.heap.size ∧ wi.ownsRow wo.heap.size 2 1 v y (ints (List.replicate y (x : Int)))) (fun _ i _ => n - (intOf i).toNat)
      case atStart => exact ⟨0, Nat.zero_le _, rfl, (Below.refl _ _).alloc (Nat.le_refl _) _, by simp, kq_empty wo _⟩
      case round =>
        obtain ⟨y, hy, rfl, hbi, hsi, hoi⟩ := hrel
        have HBI := hide hbi
        have HOI := hide hoi
        clear hbi hoi
        have k0 := (HK.out.later HBI.out).cell 0 _ rfl
        by_cases hlty : y < n
        · have hyz : (y : Int) < n := by omega
          go_wp2_with (at_builtin; refine wpList_append_own _ rfl _ _ 31 rfl wo.heap.size 2 i0 (.int .i64 0) 1 8 Try.underlying31 hi hz0 hz1 hz2 rfl (by decide) _ _ _ rfl (HOI.out.alloc _) ⟨wr.heap.size, 0, none⟩ 1 1 [.int .i64 (x : Int)] rfl rfl ?c1 ?c2 ?c3 ?c4 ?c5 ?_)
          case c1 => exact kq_new
          case c2 => intro u hu; simp at hu; subst hu; rfl
          case c3 => unfold maxLen; omega
          case c4 => omega
          case c5 => simp; omega
          intro v' w3 hown' hgrow _
          have HO3 := hide hown'
          have HB3 : Hid (Below wo.heap.size wo w3) := hide ((HBI.out.alloc HBI.out.size _).grown hgrow (by have := HBI.out.size; simp; omega) (fun g hg => ((HOI.out.alloc (.cells #[.int .i64 (x : Int)] 2)).lt g hg).1))
          have hs3 : wo.heap.size < w3.heap.size := by have := hgrow.size; simp at this; omega
          clear hown' hgrow k0
          go_wp2_with fail
          go_roundw
          case rel => exact ⟨y + 1, by omega, by go_num, HB3.out, hs3, by have h := HO3.out; rw [List.replicate_succ']; unfold ints at h ⊢; rw [List.map_append]; exact h⟩
          case measure => simp [intOf]; omega
        · have hyn : y = n := by omega
          subst hyn
          have HTM : Hid (((sndG f).take x).length = x) := hide (by rw [List.length_take]; have := HSL.out; omega)
          obtain ⟨A2, c2, hv2, hres2⟩ := own_shape HOI.out
          subst hv2
          have HRO := hide hres2.obj
          have HT3 := hide (HT.out.later HBI.out)
          have HR3 := hide (HRR.out.later HBI.out)
          have HK3 := hide (HK.out.later HBI.out)
          have HF3 := hide (HF.out.later HBI.out)
          have HB3 := hide (HB.out.trans (HBI.out.mono HB.out.size))
          clear hres2
          have j0 := HT3.out.box.cell 0 _ rfl
          have j1 := HT3.out.box.cell 1 _ rfl
          have j2 := HT3.out.box.frozen 0
          have j3 := HT3.out.box.frozen 1
          have j4 := fun o => (HT3.out.box.alloc o).cell 1 _ rfl
          have HOW2 : Hid (wr.ownsRow (ob + 1) 31 1 v x vals) := hide (by have h := HT3.out.l.own; rw [HTM.out] at h; exact h)
          have hobl := HT3.out.box.lt
          have hbsz := HT3.out.bsz
          go_wp2_with (at_builtin; refine wpList_append_own_at _ rfl _ _ 22 rfl (ob + 1) 31 i2 (.slice none 0 0) 1 24 Try.underlying22 hj hy0 hy1 hy2 rfl (by decide) _ _ _ rfl (HOW2.out.alloc _) ⟨wr.heap.size, 0, none⟩ 1 1 [.slice A2 y c2] rfl rfl ?c1 ?c2 ?c3 ?c4 ?c5 ?_)
          case c1 => exact kq_new
          case c2 => intro u hu; simp at hu; subst hu; rfl
          case c3 => unfold maxLen; omega
          case c4 => omega
          case c5 => simp; omega
          intro v' w7 hown7 hgrow7 _ hat7
          obtain ⟨gg2, cap2, hv7⟩ := own_form hown7
          subst hv7
          have hbk := HT3.out.kept hgrow7
          have HT4 := hide (One.add (by decide) HT.out HT3.out (Nat.le_refl _) HRO.out HTM.out (by simp) hown7 hgrow7)
          have HB4 := hide (HT3.out.below hgrow7 (.slice (some ⟨gg2, 0, none⟩) (x + 1) cap2) HB3.out (by omega))
          have HK4 := hide ((HT3.out.frame hgrow7 (.slice (some ⟨gg2, 0, none⟩) (x + 1) cap2) (by omega) (by omega) HK3.out.lt).trans HK3.out)
          have HR4 := hide ((HT3.out.frame hgrow7 (.slice (some ⟨gg2, 0, none⟩) (x + 1) cap2) (by omega) (by omega) HR3.out.lt).trans HR3.out)
          have HF4 := hide (HF3.out.same (fun k h1 h2 => HT3.out.frame hgrow7 (.slice (some ⟨gg2, 0, none⟩) (x + 1) cap2) (by omega) (by omega) (by omega)))
          clear j0 j1 j2 j3 j4 k0 hown7 hgrow7 hat7
          have j0 := hbk.cell 0 _ rfl
          have j1 := hbk.cell 1 _ rfl
          have j2 := hbk.frozen 0
          have j3 := hbk.frozen 1
          clear hbk
          go_wp2_with fail
          go_roundw
          case rel =>
            refine ⟨x + 1, .slice (some ⟨gg2, 0, none⟩) (x + 1) cap2, vals ++ [.slice A2 y c2], by omega, by go_num, HB4.out, HK4.out, HR4.out, HF4.out, ?_⟩
            rw [sndG_take f x (by have := HN.out; omega), HN.out]
            exact HT4.out
          case measure => simp [intOf]; omega
    · have hxn : x = n := by omega
      subst hxn
      obtain ⟨A2, c2, hv2, ho2⟩ := HT.out.l.shape
      rw [List.take_of_length_le (by have := HSL.out; omega)] at hv2 ho2
      rw [HSL.out] at hv2
      subst hv2
      have HA2 := hide ho2
      clear ho2
      have hobl := HT.out.box.lt
      have j0 := HT.out.box.cell 0 _ rfl
      have j1 := HT.out.box.cell 1 _ rfl
      have k2 := HRR.out.cell 0 _ rfl
      have k3 := HRR.out.cell 1 _ rfl
      have k4 := HRR.out.frozen 0
      have k5 := HRR.out.frozen 1
      go_wp2_with fail
      refine bp_gen fun wf hwf => ?_
      obtain ⟨q0, q1, hbf, hof⟩ := wend2 (ts := 31) (t := 2) (f := f) (s := sndG f) hwf HRR.out (by omega) HB.out (ObjT.of HF.out (Nat.le_refl _) (by omega)) (ObjT.of HA2.out (by omega) (Nat.le_refl _))
      clear hwf j0 j1 k0 k2 k3 k4 k5
      exact bodyPost_ret (v := .agg #[.slice A1 x c1, .slice A2 x c2]) (by simp [results, Try.results57, go_sem, q0, q1]) rfl ⟨_, _, _, _, rfl, hbf, hof⟩

set_option maxRecDepth 100000 in
theorem rsoS_any (A : Option Addr) (n c : Nat) (f : List (List Int)) (zf zg : List (List Int)) (code : Int) (k kw : Nat) (w : World) (hn : f.length = n) (hb : n ≤ 1048576) (hbs : ∀ i, i < f.length → (f.getD i []).length ≤ 1048576) (hr : Rd2 w A f) (hres : RsoRes f zf zg code) (hk : ZSz 1048576 zf k zg kw) :
    Calls Try.prog 26 #[.agg #[.slice A n c]] w (fun e w' => ∃ A' c' B' d', e = .returned (.tuple #[.agg #[.slice A' k c', .slice B' kw d'], .int .i64 code]) ∧ Below w.heap.size w w' ∧ ObjW 31 2 w.heap.size w'.heap.size w' A' zf B' zg) := by
  have HN := hide hn
  have HBS := hide hbs
  have HRD := hide hr
  have HB0 := hide (((Below.refl _ w).alloc (Nat.le_refl _) (Obj.cells #[Value.slice A n c] 27)).alloc (by simp) (Obj.cells #[.slice none 0 0, .slice none 0 0] 40))
  have HK0 := hide ((Blk.new w 27 [.slice A n c]).alloc (Obj.cells #[.slice none 0 0, .slice none 0 0] 40))
  have HR0 : Hid (Blk ((w.alloc (Obj.cells #[Value.slice A n c] 27)).alloc (Obj.cells #[.slice none 0 0, .slice none 0 0] 40)) (w.heap.size + 1) 40 [.slice none 0 0, .slice none 0 0]) := hide (by have h := Blk.new (w.alloc (Obj.cells #[Value.slice A n c] 27)) 40 [.slice none 0 0, .slice none 0 0]; simpa using h)
  rcases hres with ⟨hp, rfl, rfl, rfl⟩ | ⟨hp, rfl, rfl, rfl⟩
  · have hk1 : k = n := by rw [← hk.fl, hn]
    have hk2 : kw = n := by rw [← hk.sl, sndG, grid_length, hn]
    subst hk1
    subst hk2
    have HTB := hide hp.tbl
    clear hk
    have HRK : Hid (RkRes f true) := hide (by unfold RkRes; simp [hp])
    have HP := hide hp
    clear hn hbs hr hp
    go_enter Try.func26, Try.ntmps26
    go_wp2_with fail
    refine (isRackS _ _ _ f true _ HN.out hb HBS.out (HRD.out.later HB0.out) HRK.out).mono ?_
    rintro e w1 ⟨rfl, hb1⟩
    have HB1 := hide (HB0.out.trans (hb1.mono HB0.out.size))
    have HK1 := hide (HK0.out.later hb1)
    have HR1 := hide (HR0.out.later hb1)
    clear hb1
    have k0 := HK1.out.cell 0 _ rfl
    go_wp2_with fail
    clear k0
    refine (solS_any _ _ _ _ _ HN.out HTB.out (HRD.out.later HB1.out)).mono ?_
    rintro e w2 ⟨A3, c3, B3, d3, rfl, hb2, hobj⟩
    have HB2 := hide (HB1.out.trans (hb2.mono HB1.out.size))
    have HR2 := hide (HR1.out.later hb2)
    have HO := hide hobj
    have hlt1 := HR1.out.lt
    clear hb2 hobj
    have k2 := HR2.out.cell 0 _ rfl
    have k3 := HR2.out.cell 1 _ rfl
    have k4 := HR2.out.frozen 0
    have k5 := HR2.out.frozen 1
    go_wp2_with fail
    refine bp_gen fun wf hwf => ?_
    obtain ⟨q0, q1, hbf, hof⟩ := wend hwf HR2.out (by omega) hlt1 HB2.out HB1.out.size HO.out
    clear hwf k2 k3 k4 k5
    exact bodyPost_ret (v := .tuple #[.agg #[.slice A3 kw c3, .slice B3 kw d3], .int .i64 0]) (by simp [results, Try.results26, go_sem, q0, q1]) rfl ⟨_, _, _, _, rfl, hbf, hof⟩
  · have hk1 : k = 0 := by rw [← hk.fl]; rfl
    have hk2 : kw = 0 := by rw [← hk.sl]; rfl
    subst hk1
    subst hk2
    clear hk
    have HRK : Hid (RkRes f false) := hide (by unfold RkRes; simp [hp])
    have HP := hide hp
    clear hn hbs hr hp
    go_enter Try.func26, Try.ntmps26
    go_wp2_with fail
    refine (isRackS _ _ _ f false _ HN.out hb HBS.out (HRD.out.later HB0.out) HRK.out).mono ?_
    rintro e w1 ⟨rfl, hb1⟩
    have HB1 := hide (HB0.out.trans (hb1.mono HB0.out.size))
    have HK1 := hide (HK0.out.later hb1)
    have HR1 := hide (HR0.out.later hb1)
    clear hb1
    have k2 := HR1.out.cell 0 _ rfl
    have k3 := HR1.out.frozen 0
    have k4 := HR1.out.cell 1 _ rfl
    have k5 := HR1.out.frozen 1
    go_wp2_with fail
    refine bp_gen fun wf hwf => ?_
    have HRF : Blk wf (w.heap.size + 1) 40 [.slice none 0 0, .slice none 0 0] := by rw [hwf]; first | exact HR1.out | exact HR1.out.set 0 _ | exact (HR1.out.set 0 _).set 1 _
    have hbf : Below w.heap.size w wf := by rw [hwf]; first | exact HB1.out | exact HB1.out.setCell (p := ⟨w.heap.size + 1, 0, none⟩) (by show w.heap.size ≤ w.heap.size + 1; omega) _ | exact (HB1.out.setCell (p := ⟨w.heap.size + 1, 0, none⟩) (by show w.heap.size ≤ w.heap.size + 1; omega) _).setCell (p := ⟨w.heap.size + 1, 1, none⟩) (by show w.heap.size ≤ w.heap.size + 1; omega) _
    have q0 := HRF.cell 0 _ rfl
    have q1 := HRF.cell 1 _ rfl
    clear hwf k2 k3
    exact bodyPost_ret (v := .tuple #[.agg #[.slice none 0 0, .slice none 0 0], .int .i64 1]) (by simp [results, Try.results26, go_sem, q0, q1]) rfl ⟨_, _, _, _, rfl, hbf, ObjW.empty⟩

end Go.Proofs.Ytkflmhmbkilmpaa
