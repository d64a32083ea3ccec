import Derived.Test.YtaejgmdeiemhcabZab
import Derived.Test.YtaejgmdeiemhcabZv
import Derived.Test.YtaejgmdeiemhcabZf
import Derived.Test.YtaejgmdeiemhcabZz
import Derived.Test.YtaejgmdeiemhcabZy
import Derived.Test.YtaejgmdeiemhcabZw
import Derived.Test.YtaejgmdeiemhcabZd
import Derived.Test.YtaejgmdeiemhcabZaa
import Derived.Test.YtaejgmdeiemhcabZac
import Derived.Deep.Cut
import Derived.Test.YtaejgmdeiemhcabZh
import Derived.Test.YtaejgmdeiemhcabZb
import Derived.Test.YtaejgmdeiemhcabZa
namespace Go.Proofs.Ytaejgmdeiemhcab
open Go Go.RowKit
set_option maxHeartbeats 2000000
/-- Whether three elements show that a table is no rack's. -/
def rkq (f : List (List Int)) : Nat → Nat → Nat → Bool := fun x y z => !decide (ap f x (ap f y z) = ap f (ap f x y) (ap f x z))
theorem rkq_not (f : List (List Int)) (n i : Nat) : qAt (rkq f) n i = false ↔ Rk3 f n i := by
  unfold qAt rkq Rk3
  simp
theorem rkq_is (f : List (List Int)) (n i : Nat) : qAt (rkq f) n i = true ↔ ¬ Rk3 f n i := by
  rw [← rkq_not]
  simp
theorem FirstK.q {f : List (List Int)} {n T : Nat} (h : FirstK f n T) : FirstQ (rkq f) n T :=
  ⟨fun i hi => (rkq_not f n i).2 (h.1 i hi), h.2.1, fun ht => (rkq_is f n T).2 (h.2.2 ht)⟩

set_option maxRecDepth 100000 in
theorem kfC_any (A : Option Addr) (n c : Nat) (f : List (List Int)) (b : Nat) (w : World) (hn : f.length = n) (ht : Tbl f) (hr : Rd2 w A f) (hk : Blk w b 49 [.slice A n c]) :
    BoolFn3 Try.prog 130 #[.pointer (some ⟨b, 0, none⟩)] n (rkq f) w := by
  intro W x y z hx hy hz hb
  have HR := hide (hr.later hb)
  have HKc := hide (hk.later hb)
  have HBc := hide (Below.refl W.heap.size W)
  have HN := hide hn
  have HTB := hide ht
  show Calls Try.prog 130 #[.int .i64 x, .int .i64 y, .int .i64 z, .pointer (some ⟨b, 0, none⟩)] W _
  clear hn ht hr hk hb
  have hq1 := HTB.out.ap_lt HN.out hy hz
  have hq2 := HTB.out.ap_lt HN.out hx hy
  have hq3 := HTB.out.ap_lt HN.out hx hz
  obtain ⟨bq, hat⟩ : ∃ bq, rkq f x y z = bq := ⟨_, rfl⟩
  rw [hat]
  unfold rkq at hat
  obtain ⟨q1, h_1⟩ : ∃ u, ap f y z = u := ⟨_, rfl⟩
  obtain ⟨q2, h_2⟩ : ∃ u, ap f x y = u := ⟨_, rfl⟩
  obtain ⟨q3, h_3⟩ : ∃ u, ap f x z = u := ⟨_, rfl⟩
  rw [h_1, h_2, h_3] at hat
  rw [h_1] at hq1
  rw [h_2] at hq2
  rw [h_3] at hq3
  obtain ⟨q4, h_4⟩ : ∃ u, ap f x q1 = u := ⟨_, rfl⟩
  obtain ⟨q5, h_5⟩ : ∃ u, ap f q2 q3 = u := ⟨_, rfl⟩
  rw [h_4, h_5] at hat
  have HAT : Hid ((!decide (q4 = q5)) = bq) := hide hat
  have U1 := hide h_1
  have U2 := hide h_2
  have U3 := hide h_3
  have U4 := hide h_4
  have U5 := hide h_5
  clear h_1 h_2 h_3 h_4 h_5 hat
  have k0 := HKc.out.cell 0 _ rfl
  have tok0 : True := trivial
  have tok1 : True := trivial
  have tok2 : True := trivial
  have tok3 : True := trivial
  go_enter Try.func130, Try.ntmps130
  by_cases hcs : q4 = q5
  · have hbq : bq = false := by rw [← HAT.out, hcs]; simp
    subst hcs
    subst hbq
    go_wp2_with fail
    go_region_held3 (fun w' => w'.cell? ⟨b, 0, none⟩ = some (.slice A n c)) (first | exact k0 | go_keep) (first | (go_at_call 131; have _t := tok0; clear _t tok0; go_must (refine calls_gen fun wc hwc => ?_; (first | have hbx := drew_below hwc | have hbx := eq_below hwc); replace HBc := hide (HBc.out.trans (hbx.mono HBc.out.size)); replace HKc := hide (HKc.out.later hbx); clear hwc hbx; refine (act_any _ _ _ f y z q1 _ HN.out HTB.out (HR.out.later HBc.out) hy hz U1.out).mono ?_; rintro e wd ⟨rfl, hbd⟩; replace HBc := hide (HBc.out.trans (hbd.mono HBc.out.size)); replace HKc := hide (HKc.out.later hbd); clear hbd; have k0 := HKc.out.cell 0 _ rfl)) | (go_at_call 131; have _t := tok1; clear _t tok1; go_must (refine calls_gen fun wc hwc => ?_; (first | have hbx := drew_below hwc | have hbx := eq_below hwc); replace HBc := hide (HBc.out.trans (hbx.mono HBc.out.size)); replace HKc := hide (HKc.out.later hbx); clear hwc hbx; refine (act_any _ _ _ f x q1 q4 _ HN.out HTB.out (HR.out.later HBc.out) hx hq1 U4.out).mono ?_; rintro e wd ⟨rfl, hbd⟩; replace HBc := hide (HBc.out.trans (hbd.mono HBc.out.size)); replace HKc := hide (HKc.out.later hbd); clear hbd; have k0 := HKc.out.cell 0 _ rfl)) | (go_at_call 131; have _t := tok2; clear _t tok2; go_must (refine calls_gen fun wc hwc => ?_; (first | have hbx := drew_below hwc | have hbx := eq_below hwc); replace HBc := hide (HBc.out.trans (hbx.mono HBc.out.size)); replace HKc := hide (HKc.out.later hbx); clear hwc hbx; refine (act_any _ _ _ f x y q2 _ HN.out HTB.out (HR.out.later HBc.out) hx hy U2.out).mono ?_; rintro e wd ⟨rfl, hbd⟩; replace HBc := hide (HBc.out.trans (hbd.mono HBc.out.size)); replace HKc := hide (HKc.out.later hbd); clear hbd; have k0 := HKc.out.cell 0 _ rfl)) | (go_at_call 131; have _t := tok3; clear _t tok3; go_must (refine calls_gen fun wc hwc => ?_; (first | have hbx := drew_below hwc | have hbx := eq_below hwc); replace HBc := hide (HBc.out.trans (hbx.mono HBc.out.size)); replace HKc := hide (HKc.out.later hbx); clear hwc hbx; refine (act_any _ _ _ f x z q3 _ HN.out HTB.out (HR.out.later HBc.out) hx hz U3.out).mono ?_; rintro e wd ⟨rfl, hbd⟩; replace HBc := hide (HBc.out.trans (hbd.mono HBc.out.size)); replace HKc := hide (HKc.out.later hbd); clear hbd; have k0 := HKc.out.cell 0 _ rfl)) | (go_at_call 131; go_must (refine calls_gen fun wc hwc => ?_; (first | have hbx := drew_below hwc | have hbx := eq_below hwc); replace HBc := hide (HBc.out.trans (hbx.mono HBc.out.size)); replace HKc := hide (HKc.out.later hbx); clear hwc hbx; refine (act_any _ _ _ f q2 q3 q4 _ HN.out HTB.out (HR.out.later HBc.out) hq2 hq3 U5.out).mono ?_; rintro e wd ⟨rfl, hbd⟩; replace HBc := hide (HBc.out.trans (hbd.mono HBc.out.size)); replace HKc := hide (HKc.out.later hbd); clear hbd; have k0 := HKc.out.cell 0 _ rfl)))
    go_wp2_with fail
    go_ret
    exact ⟨rfl, HBc.out⟩
  · have hbq : bq = true := by rw [← HAT.out]; simp [hcs]
    have hcz : ((q4 : Int) != (q5 : Int)) = true := by rw [bne_iff_ne]; omega
    subst hbq
    go_wp2_with fail
    go_region_held3 (fun w' => w'.cell? ⟨b, 0, none⟩ = some (.slice A n c)) (first | exact k0 | go_keep) (first | (go_at_call 131; have _t := tok0; clear _t tok0; go_must (refine calls_gen fun wc hwc => ?_; (first | have hbx := drew_below hwc | have hbx := eq_below hwc); replace HBc := hide (HBc.out.trans (hbx.mono HBc.out.size)); replace HKc := hide (HKc.out.later hbx); clear hwc hbx; refine (act_any _ _ _ f y z q1 _ HN.out HTB.out (HR.out.later HBc.out) hy hz U1.out).mono ?_; rintro e wd ⟨rfl, hbd⟩; replace HBc := hide (HBc.out.trans (hbd.mono HBc.out.size)); replace HKc := hide (HKc.out.later hbd); clear hbd; have k0 := HKc.out.cell 0 _ rfl)) | (go_at_call 131; have _t := tok1; clear _t tok1; go_must (refine calls_gen fun wc hwc => ?_; (first | have hbx := drew_below hwc | have hbx := eq_below hwc); replace HBc := hide (HBc.out.trans (hbx.mono HBc.out.size)); replace HKc := hide (HKc.out.later hbx); clear hwc hbx; refine (act_any _ _ _ f x q1 q4 _ HN.out HTB.out (HR.out.later HBc.out) hx hq1 U4.out).mono ?_; rintro e wd ⟨rfl, hbd⟩; replace HBc := hide (HBc.out.trans (hbd.mono HBc.out.size)); replace HKc := hide (HKc.out.later hbd); clear hbd; have k0 := HKc.out.cell 0 _ rfl)) | (go_at_call 131; have _t := tok2; clear _t tok2; go_must (refine calls_gen fun wc hwc => ?_; (first | have hbx := drew_below hwc | have hbx := eq_below hwc); replace HBc := hide (HBc.out.trans (hbx.mono HBc.out.size)); replace HKc := hide (HKc.out.later hbx); clear hwc hbx; refine (act_any _ _ _ f x y q2 _ HN.out HTB.out (HR.out.later HBc.out) hx hy U2.out).mono ?_; rintro e wd ⟨rfl, hbd⟩; replace HBc := hide (HBc.out.trans (hbd.mono HBc.out.size)); replace HKc := hide (HKc.out.later hbd); clear hbd; have k0 := HKc.out.cell 0 _ rfl)) | (go_at_call 131; have _t := tok3; clear _t tok3; go_must (refine calls_gen fun wc hwc => ?_; (first | have hbx := drew_below hwc | have hbx := eq_below hwc); replace HBc := hide (HBc.out.trans (hbx.mono HBc.out.size)); replace HKc := hide (HKc.out.later hbx); clear hwc hbx; refine (act_any _ _ _ f x z q3 _ HN.out HTB.out (HR.out.later HBc.out) hx hz U3.out).mono ?_; rintro e wd ⟨rfl, hbd⟩; replace HBc := hide (HBc.out.trans (hbd.mono HBc.out.size)); replace HKc := hide (HKc.out.later hbd); clear hbd; have k0 := HKc.out.cell 0 _ rfl)) | (go_at_call 131; go_must (refine calls_gen fun wc hwc => ?_; (first | have hbx := drew_below hwc | have hbx := eq_below hwc); replace HBc := hide (HBc.out.trans (hbx.mono HBc.out.size)); replace HKc := hide (HKc.out.later hbx); clear hwc hbx; refine (act_any _ _ _ f q2 q3 q5 _ HN.out HTB.out (HR.out.later HBc.out) hq2 hq3 U5.out).mono ?_; rintro e wd ⟨rfl, hbd⟩; replace HBc := hide (HBc.out.trans (hbd.mono HBc.out.size)); replace HKc := hide (HKc.out.later hbd); clear hbd; have k0 := HKc.out.cell 0 _ rfl)))
    go_wp2_with fail
    go_ret
    exact ⟨rfl, HBc.out⟩

set_option maxRecDepth 100000 in
theorem kfaultQ_any (A : Option Addr) (n c : Nat) (f : List (List Int)) (T : Nat) (w : World) (hn : f.length = n) (ht : Tbl f) (hr : Rd2 w A f) (hT : FirstQ (rkq f) n T) :
    Calls Try.prog 92 #[.agg #[.slice A n c]] w fun e w' => (T = n * n * n ∧ e = .returned (.slice none 0 0) ∧ Below w.heap.size w w') ∨ (T < n * n * n ∧ ∃ g, e = .returned (.slice (some ⟨g, 0, none⟩) 3 3) ∧ Below w.heap.size w w' ∧ w.heap.size ≤ g ∧ OwnB 2 w' g (lst3 (trip n T))) := by
  have h1 : 1 ≤ n := by rw [← hn]; exact ht.1
  have h12 : n ≤ 12 := by rw [← hn]; exact ht.2.1
  have HN := hide hn
  have HTB := hide ht
  have HR := hide hr
  have HT := hide hT
  have HB0 := hide ((Below.refl _ w).alloc (Nat.le_refl _) (Obj.cells #[Value.slice A n c] 49))
  have HK0 := hide (Blk.new w 49 [.slice A n c])
  clear hn ht hr hT
  go_enter Try.func92, Try.ntmps92
  go_wp2_with fail
  refine (ksize_any _ _ _ _ (by omega)).mono ?_
  rintro e w2 ⟨rfl, hb2⟩
  have HB2 := hide (HB0.out.trans (hb2.mono HB0.out.size))
  have HK2 := hide (HK0.out.later hb2)
  clear hb2
  go_wp2_with fail
  refine (firstTriple_any 130 _ n (rkq f) T _ (fun _ _ => rfl) h1 h12 (kfC_any A n c f w.heap.size _ HN.out HTB.out (HR.out.later HB2.out) HK2.out) HT.out).mono ?_
  rintro e w3 (⟨hTe, rfl, hb3⟩ | ⟨hTl, g, rfl, hb3, hg, hob⟩)
  · have HB3 := hide (HB2.out.trans (hb3.mono HB2.out.size))
    clear hb3
    go_wp2_with fail
    go_ret
    exact .inl ⟨hTe, rfl, HB3.out⟩
  · have HB3 := hide (HB2.out.trans (hb3.mono HB2.out.size))
    have HO3 := hide hob
    have hlo : w.heap.size ≤ g := by have := HB2.out.size; omega
    clear hb3 hob
    go_wp2_with fail
    go_ret
    exact .inr ⟨hTl, _, rfl, HB3.out, hlo, HO3.out⟩

theorem kfault_any (A : Option Addr) (n c : Nat) (f : List (List Int)) (T : Nat) (w : World) (hn : f.length = n) (ht : Tbl f) (hr : Rd2 w A f) (hT : FirstK f n T) :
    Calls Try.prog 92 #[.agg #[.slice A n c]] w fun e w' => (T = n * n * n ∧ e = .returned (.slice none 0 0) ∧ Below w.heap.size w w') ∨ (T < n * n * n ∧ ∃ g, e = .returned (.slice (some ⟨g, 0, none⟩) 3 3) ∧ Below w.heap.size w w' ∧ w.heap.size ≤ g ∧ OwnB 2 w' g (lst3 (trip n T))) :=
  kfaultQ_any A n c f T w hn ht hr hT.q
end Go.Proofs.Ytaejgmdeiemhcab
namespace Go.Proofs.Ytaejgmdeiemhcab
open Go Go.RowKit
set_option maxHeartbeats 2000000

set_option maxRecDepth 100000 in
theorem isRackS (A : Option Addr) (n c : Nat) (f : List (List Int)) (r : Bool) (w : World) (hn : f.length = n) (hb : n ≤ 1048576) (hbs : ∀ i, i < f.length → (f.getD i []).length ≤ 1048576) (hr : Rd2 w A f) (hres : RkRes f r) :
    Calls Try.prog 53 #[.agg #[.slice A n c]] w fun e w' => e = .returned (.bool r) ∧ Below w.heap.size w w' := by
  have HN := hide hn
  have HBS := hide hbs
  have HRD := hide hr
  have HR := hide hres
  have HB0 := hide ((Below.refl _ w).alloc (Nat.le_refl _) (Obj.cells #[Value.slice A n c] 49))
  have HK0 := hide (Blk.new w 49 [.slice A n c])
  by_cases ht : Tbl f
  · have HTB := hide ht
    obtain ⟨T, hT⟩ := FirstK.ex f n
    have HT := hide hT
    clear hn hbs hr hres ht hT
    go_enter Try.func53, Try.ntmps53
    go_wp2_with fail
    refine (l01Table_any _ _ _ f true _ HN.out (by omega) (fun i hi => by have := HBS.out i hi; omega) (HRD.out.later HB0.out) (by simp [HTB.out])).mono ?_
    rintro e w1 ⟨rfl, hq1⟩
    have HB1 := hide (HB0.out.trans (hq1.below _))
    have HK1 := hide (HK0.out.later (hq1.below _))
    clear hq1
    go_wp2_with fail
    go_loopw [3] (fun i wr => ∃ k : Nat, k ≤ n ∧ i = .int .i64 k ∧ Below w.heap.size w wr ∧ Blk wr w.heap.size 49 [.slice A n c] ∧ ∀ i, i < k → Prm (f.getD i [])) (fun i _ => n - (intOf i).toNat)
    case atStart => exact ⟨0, Nat.zero_le _, rfl, HB1.out, HK1.out, fun i hi => absurd hi (Nat.not_lt_zero _)⟩
    case round =>
      obtain ⟨k, hk, rfl, hbe, hkk, hall⟩ := hrel
      have HB := hide hbe
      have HK := hide hkk
      have HALL := hide hall
      clear hbe hkk hall
      have k0 := HK.out.cell 0 _ rfl
      by_cases hlt : k < n
      · obtain ⟨b, o, hA, _, hc⟩ := (HRD.out.later HB.out) (by have := HN.out; omega)
        obtain ⟨Ak, ck, hcell, hrd⟩ := hc k (by have := HN.out; omega)
        have hbk := HBS.out k (by have := HN.out; omega)
        obtain ⟨x, hx⟩ : ∃ x, x = f.getD k [] := ⟨_, rfl⟩
        obtain ⟨m, hm⟩ : ∃ m, x.length = m := ⟨_, rfl⟩
        rw [← hx] at hcell hrd hbk
        rw [hm] at hcell hbk
        have HX := hide hx
        have HM := hide hm
        have hltz : (k : Int) < n := by omega
        clear hx hm hc
        subst hA
        by_cases hp : Prm x
        · have HP := hide hp
          clear hp
          go_wp2_with fail
          clear k0
          refine (prmS_below _ _ _ x true _ HM.out (by omega) hrd (by simp [HP.out])).mono ?_
          rintro e w2 ⟨rfl, hq1⟩
          have HQ1 := hide hq1
          clear hq1
          go_wp2_with fail
          go_roundw
          case rel =>
            refine ⟨k + 1, by omega, by go_num, HB.out.trans (HQ1.out.mono HB.out.size), HK.out.later HQ1.out, fun i hi => ?_⟩
            by_cases e : i = k
            · subst e; rw [← HX.out]; exact HP.out
            · exact HALL.out i (by omega)
          case measure => simp [intOf]; omega
        · have HP := hide hp
          clear hp
          go_wp2_with fail
          clear k0
          refine (prmS_below _ _ _ x false _ HM.out (by omega) hrd (by simp [HP.out])).mono ?_
          rintro e w2 ⟨rfl, hq1⟩
          have HQ1 := hide hq1
          clear hq1
          have hnp : ¬ AllPrm f := fun h => by
            have h := h k (by have := HN.out; omega)
            rw [← HX.out] at h
            exact HP.out h
          have hrf : r = false := by
            cases r
            · rfl
            · have hrr : true = true ↔ Rck f := HR.out
              exact absurd (hrr.1 rfl).prm hnp
          subst hrf
          clear hnp
          go_wp2_with fail
          go_ret
          exact ⟨rfl, HB.out.trans (HQ1.out.mono HB.out.size)⟩
      · have hkn : k = n := by omega
        subst hkn
        have HAP : Hid (AllPrm f) := hide (fun i hi => HALL.out i (by have := HN.out; omega))
        go_wp2_with fail
        clear k0
        refine (faultK_any _ _ _ f T _ HN.out HTB.out (HRD.out.later HB.out) HT.out).mono ?_
        rintro e w3 (⟨hTe, rfl, hb3⟩ | ⟨hTl, g, rfl, hb3, hg, hob⟩)
        · have hrt : r = true := by
            have hrr : r = true ↔ Rck f := HR.out
            rw [hrr]
            refine ⟨⟨HTB.out, HAP.out⟩, ?_⟩
            rw [HN.out]
            exact HT.out.iff.1 hTe
          subst hrt
          have HB3 := hide (HB.out.trans (hb3.mono HB.out.size))
          clear hb3 hTe
          go_wp2_with fail
          go_ret
          exact ⟨rfl, HB3.out⟩
        · have hrf : r = false := by
            cases r
            · rfl
            · have hrr : true = true ↔ Rck f := HR.out
              have h := (hrr.1 rfl).2
              rw [HN.out] at h
              have := HT.out.iff.2 h
              omega
          subst hrf
          have HB3 := hide (HB.out.trans (hb3.mono HB.out.size))
          clear hb3 hTl hob
          go_wp2_with fail
          go_ret
          exact ⟨rfl, HB3.out⟩
  · have HTB := hide ht
    have hrf : r = false := by
      cases r
      · rfl
      · have hrr : true = true ↔ Rck f := HR.out
        exact absurd (hrr.1 rfl).tbl ht
    subst hrf
    clear hn hbs hr hres ht
    go_enter Try.func53, Try.ntmps53
    go_wp2_with fail
    refine (l01Table_any _ _ _ f false _ HN.out (by omega) (fun i hi => by have := HBS.out i hi; omega) (HRD.out.later HB0.out) (by simp [HTB.out])).mono ?_
    rintro e w1 ⟨rfl, hq1⟩
    have HB1 := hide (HB0.out.trans (hq1.below _))
    clear hq1
    go_wp2_with fail
    go_ret
    exact ⟨rfl, HB1.out⟩

end Go.Proofs.Ytaejgmdeiemhcab
namespace Go.Proofs.Ytaejgmdeiemhcab
open Go Go.RowKit
open Classical
/-- The shifts of a table: from the right and from the left by each element. -/
def shM (f : List (List Int)) (i a : Nat) : Nat := if i % 2 = 0 then ap f a (i / 2) else ap f (i / 2) a
theorem shM_even (f : List (List Int)) (z a : Nat) : shM f (2 * z) a = ap f a z := by unfold shM; rw [if_pos (by omega), show 2 * z / 2 = z by omega]
theorem shM_odd (f : List (List Int)) (z a : Nat) : shM f (2 * z + 1) a = ap f z a := by unfold shM; rw [if_neg (by omega), show (2 * z + 1) / 2 = z by omega]
theorem shM_lt {f : List (List Int)} {n : Nat} (hn : f.length = n) (ht : Tbl f) : ∀ i a, i < 2 * n → a < n → shM f i a < n := by
  intro i a hi ha
  unfold shM
  split
  · exact ht.ap_lt hn ha (by omega)
  · exact ht.ap_lt hn (by omega) ha
theorem mg_cg {f : List (List Int)} {n x y a b : Nat} : MgE (shM f) (2 * n) x y a b ↔ CgE f n x y a b := by
  constructor
  · intro h
    induction h with
    | base => exact .base
    | refl a => exact .refl a
    | symm _ ih => exact ih.symm
    | trans _ _ i1 i2 => exact i1.trans i2
    | step i hi _ ih =>
      unfold shM
      split
      · exact ih.right _ (by omega)
      · exact ih.left _ (by omega)
  · intro h
    induction h with
    | base => exact .base
    | refl a => exact .refl a
    | symm _ ih => exact ih.symm
    | trans _ _ i1 i2 => exact i1.trans i2
    | left z hz _ ih =>
      have h := ih.step (2 * z + 1) (by omega) (mp := shM f) (K := 2 * n)
      rw [shM_odd, shM_odd] at h
      exact h
    | right z hz _ ih =>
      have h := ih.step (2 * z) (by omega) (mp := shM f) (K := 2 * n)
      rw [shM_even, shM_even] at h
      exact h
theorem MgS.cfL {f : List (List Int)} {n x y : Nat} {L : List Int} (hn : f.length = n) (ht : Tbl f) (h : MgS (shM f) (2 * n) n x y L []) (hx : x < n) (hy : y < n) : numL L = cfL f x y := by
  subst hn
  exact numL_same h.len (cgC_length _ _ _ _) fun a b ha hb => (h.done hx hy (shM_lt rfl ht) a b ha hb).trans (mg_cg.trans (cgC_eq ha hb).symm)
end Go.Proofs.Ytaejgmdeiemhcab
namespace Go.Proofs.Ytaejgmdeiemhcab
open Go Go.RowKit
open Classical
set_option maxHeartbeats 4000000
theorem naKeyed : Maps.Keyed Try.prog 2 := Maps.int_keyed Try.underlying2
theorem naKey (v : Int) (h : -9223372036854775808 ≤ v ∧ v ≤ 9223372036854775807) : keyOf Try.prog 2 (.int .i64 v) = some (.int .i64 v) := Maps.keyOf_int_mk Try.underlying2 (by
  show (decide (IntKind.i64.min ≤ v) && decide (v ≤ IntKind.i64.max)) = true
  rw [show IntKind.i64.min = -9223372036854775808 from by decide, show IntKind.i64.max = 9223372036854775807 from by decide]
  simp [h.1, h.2])
/-- The numbers of the classes that are known. -/
noncomputable def numV (F : List Int) : Value → Option Value
  | .int .i64 v => if v ∈ F then some (.int .i64 (ixOf F v)) else none
  | _ => none
theorem numV_at {F : List Int} {v : Int} (h : v ∈ F) : numV F (.int .i64 v) = some (.int .i64 (ixOf F v)) := by simp [numV, h]
theorem numV_no {F : List Int} {v : Int} (h : v ∉ F) : numV F (.int .i64 v) = none := by simp [numV, h]
theorem ixOf_app_old {F : List Int} {u v : Int} (h : u ∈ F) : ixOf (F ++ [v]) u = ixOf F u := by
  unfold ixOf
  rw [if_pos h, if_pos (List.mem_append_left _ h), List.idxOf_append, if_pos h]
theorem ixOf_app_new {F : List Int} {v : Int} (h : v ∉ F) : ixOf (F ++ [v]) v = (F.length : Int) := by
  unfold ixOf
  rw [if_pos (by simp), List.idxOf_append, if_neg h]
  simp
theorem numV_add {F : List Int} {v : Int} (h : v ∉ F) (k : Value) : (if k = .int .i64 v then some (.int .i64 (F.length : Int)) else numV F k) = numV (F ++ [v]) k := by
  by_cases e : k = .int .i64 v
  · subst e
    rw [if_pos rfl, numV_at (by simp), ixOf_app_new h]
  · rw [if_neg e]
    unfold numV
    split
    · rename_i u
      have hne : u ≠ v := fun e2 => e (by rw [e2])
      by_cases hu : u ∈ F
      · rw [if_pos hu, if_pos (List.mem_append_left _ hu), ixOf_app_old hu]
      · rw [if_neg hu, if_neg (by simp [hu, hne])]
    · rfl
/-- After k elements. -/
noncomputable def naTo (L : List Int) (k : Nat) : List Int := numTo L k ++ L.drop k
theorem naTo_length (L : List Int) (k : Nat) (h : k ≤ L.length) : (naTo L k).length = L.length := by simp [naTo, numTo_length]; omega
theorem naTo_at (L : List Int) (k : Nat) (_h : k < L.length) : (naTo L k).getD k 0 = L.getD k 0 := by
  unfold naTo
  have h1 := numTo_length L k
  simp [List.getElem?_append_right, h1]
theorem naTo_set (L : List Int) (k : Nat) (h : k < L.length) : (naTo L k).set k (ixOf (firstsL L (k + 1)) (lb L k)) = naTo L (k + 1) := by
  unfold naTo
  have h1 := numTo_length L k
  rw [List.set_append_right _ _ (by omega), h1, Nat.sub_self, List.drop_eq_getElem_cons h, List.set_cons_zero, numTo_succ, List.append_assoc]
  rfl
theorem firstsL_le (L : List Int) (k : Nat) : (firstsL L k).length ≤ k := by
  induction k with
  | zero => simp [firstsL]
  | succ k ih =>
    unfold firstsL
    split
    · omega
    · simp; omega
set_option maxRecDepth 100000 in
theorem numberAnew_any (g n c : Nat) (L : List Int) (w : World) (hl : L.length = n) (hn : n ≤ 12) (hr : ∀ v ∈ L, -9223372036854775808 ≤ v ∧ v ≤ 9223372036854775807) (ho : OwnB 2 w g L) :
    Calls Try.prog 95 #[.slice (some ⟨g, 0, none⟩) n c] w fun e w' => e = .returned (.tuple #[]) ∧ Touch g (g + 1) w w' ∧ OwnB 2 w' g (numL L) := by
  have HL := hide hl
  have HR := hide hr
  have HO := hide ho
  have hgl := ho.lt
  have hmm := @run_makeMap Try.prog
  clear hl hr ho
  go_enter Try.func95, Try.ntmps95
  go_upto_region 1 with fail
  refine wp_gen fun w1 hw1 => ?_
  obtain ⟨bm, hbm⟩ : ∃ bm, w.heap.size = bm := ⟨_, rfl⟩
  have hb1 : Below w.heap.size w w1 := by rw [hw1]; exact (Below.refl _ _).alloc (Nat.le_refl _) _
  have HM1 : Hid (MapN 2 w1 bm 0 (numV [])) := hide (by
    have h : MapN 2 w1 bm 0 (fun _ => none) := by rw [hw1, ← hbm]; exact MapN.made _ _
    have e : (fun _ : Value => (none : Option Value)) = numV [] := by
      funext k
      unfold numV
      split <;> simp
    rw [← e]; exact h)
  have HT1 := hide (touch_of_below (lo := g) (hi := g + 1) hb1)
  have HO1 : Hid (OwnB 2 w1 g (naTo L 0)) := hide (by have h := HO.out.later hb1 hgl; simpa [naTo, numTo] using h)
  have hgb : g < bm := by omega
  have hwbm : w.heap.size ≤ bm := by omega
  rw [hbm]
  clear hw1 hb1 hbm hmm HO
  go_wp2_with fail
  go_loopw [10] (fun i wr => ∃ k : Nat, k ≤ n ∧ i = .int .i64 k ∧ Touch g (g + 1) w wr ∧ OwnB 2 wr g (naTo L k) ∧ MapN 2 wr bm (firstsL L k).length (numV (firstsL L k))) (fun i _ => n - (intOf i).toNat)
  case atStart => exact ⟨0, Nat.zero_le _, rfl, HT1.out, HO1.out, by simpa [firstsL] using HM1.out⟩
  case round =>
    clear HT1 HO1 HM1
    obtain ⟨k, hk, rfl, ht, ho, hm⟩ := hrel
    have HT := hide ht
    have HO := hide ho
    have HM := hide hm
    clear ht ho hm
    by_cases hlt : k < n
    · have hkz : (k : Int) < n := by omega
      have hkl : k < L.length := by rw [HL.out]; exact hlt
      have hc := HO.out.cell (i := k) (by rw [naTo_length L k (by omega)]; exact hkl)
      rw [naTo_at L k hkl] at hc
      obtain ⟨v, hv⟩ : ∃ v, L.getD k 0 = v := ⟨_, rfl⟩
      rw [hv] at hc
      have hvm : v ∈ L := by rw [← hv]; simp [hkl]
      have hkey := naKey v (HR.out v hvm)
      have HV : Hid (lb L k = v) := hide hv
      obtain ⟨F, hF⟩ : ∃ F, firstsL L k = F := ⟨_, rfl⟩
      have hFl := firstsL_le L k
      rw [hF] at HM hFl
      have HF := hide hF
      have hf := HO.out.frozen k
      have hlook := MapN.look2 naKeyed HM.out Try.underlying134 (z := .int .i64 0) (by kernel_rfl) hkey
      have hset := HO.out.set k (ixOf (firstsL L (k + 1)) (lb L k)) (by rw [naTo_length L k (by omega)]; exact hkl)
      rw [naTo_set L k hkl] at hset
      have HS := hide hset
      clear hv hF hvm hset
      by_cases hin : v ∈ F
      · rw [numV_at hin] at hlook
        have hfs : firstsL L (k + 1) = F := by rw [firstsL, HF.out, HV.out, if_pos hin]
        rw [hfs, HV.out] at HS
        have HFS := hide hfs
        clear hfs hkey
        go_wp2_with fail
        go_roundw
        case rel => exact ⟨k + 1, by omega, by go_num, touch_set HT.out (by simp) _, HS.out, by rw [HFS.out]; exact HM.out.of_block (Below.heap_setCell _ _ _ _ (by show bm ≠ g; omega))⟩
        case measure => simp [intOf]; omega
      · rw [numV_no hin] at hlook
        have hfs : firstsL L (k + 1) = F ++ [v] := by rw [firstsL, HF.out, HV.out, if_neg hin]
        rw [hfs, HV.out, ixOf_app_new hin] at HS
        have HFS := hide hfs
        have HIN := hide hin
        obtain ⟨es, clock, hraw, hes⟩ := HM.out.raw
        obtain ⟨w5, hup, hm5, hg5⟩ := MapN.add naKeyed HM.out Try.underlying134 (z := .int .i64 0) (by kernel_rfl) (by unfold maxLen; omega) hkey (numV_no hin) (.int .i64 (es.size : Int))
        have HT5 := hide (touch_grown HT.out hg5 (fun j hj => by injection hj with hj; omega))
        have HO5 := hide (HO.out.of_block (hg5.block g HO.out.lt (fun e => by injection e with e; omega)))
        have HM5 : Hid (MapN 2 w5 bm (F ++ [v]).length (numV (F ++ [v]))) := hide (by
          have h : (fun k => if k = Value.int .i64 v then some (Value.int .i64 (es.size : Int)) else numV F k) = numV (F ++ [v]) := by
            funext k
            rw [hes]
            exact numV_add hin k
          rw [h] at hm5
          rw [List.length_append]
          exact hm5)
        have hc5 := HO5.out.cell (i := k) (by rw [naTo_length L k (by omega)]; exact hkl)
        have hf5 := HO5.out.frozen k
        have hset5 := HO5.out.set k (F.length : Int) (by rw [naTo_length L k (by omega)]; exact hkl)
        have hst5 : (naTo L k).set k (F.length : Int) = naTo L (k + 1) := by
          have h := naTo_set L k hkl
          rw [HFS.out, HV.out, ixOf_app_new hin] at h
          exact h
        rw [hst5] at hset5
        have HS5 := hide hset5
        have hes64 : es.size ≤ 12 := by omega
        have HES := hide hes
        rw [← hes] at HS5
        obtain ⟨old, hold⟩ : ∃ old, (naTo L k).getD k 0 = old := ⟨_, rfl⟩
        rw [hold] at hc5
        clear hm5 hg5 hfs hin hkey hset5 hst5 hes HS hold
        have hlen := run_len_map (P := Try.prog) (w := wr) 134 3 bm es clock (by kernel_rfl) hraw
        go_wp2_with fail
        go_roundw
        case rel => exact ⟨k + 1, by omega, by go_num, touch_set HT5.out (by simp) _, HS5.out, by rw [HFS.out]; exact HM5.out.of_block (Below.heap_setCell _ _ _ _ (by show bm ≠ g; omega))⟩
        case measure => simp [intOf]; omega
    · have hkn : k = n := by omega
      subst hkn
      have hend : naTo L k = numL L := by unfold naTo numL; rw [← HL.out, List.drop_length, List.append_nil]
      have HE : Hid (OwnB 2 wr g (numL L)) := hide (by rw [← hend]; exact HO.out)
      clear hend
      go_wp2_with fail
      go_end0
      exact ⟨rfl, HT.out, HE.out⟩
end Go.Proofs.Ytaejgmdeiemhcab
namespace Go.Proofs.Ytaejgmdeiemhcab
open Go Go.RowKit
open Classical
set_option maxHeartbeats 2000000
theorem row2_begin (w : World) (t : TypeId) : Row2 t w.heap.size ((w.alloc (.cells #[] t)).alloc (.cells #[] t)) (.slice (some ⟨w.heap.size, 0, none⟩) 0 0) (.slice (some ⟨w.heap.size + 1, 0, none⟩) 0 0) 0 0 [] [] := by
  have h1 := ne_empty w t
  have h2 := ne_empty (w.alloc (.cells #[] t)) t
  refine ⟨?_, ?_, fun g hg e => ?_⟩
  · exact ownsRow_below h1 ((Below.refl _ _).alloc (Nat.le_refl _) _)
  · have h3 : ((w.alloc (.cells #[] t)).alloc (.cells #[] t)).ownsRow (w.alloc (.cells #[] t)).heap.size t 1 (.slice (some ⟨(w.alloc (.cells #[] t)).heap.size, 0, none⟩) 0 0) 0 [] := h2
    have hs : (w.alloc (.cells #[] t)).heap.size = w.heap.size + 1 := by simp
    rw [hs] at h3
    rcases h3 with ⟨hl, hh⟩
    refine ⟨hl, ?_⟩
    rcases hh with h | ⟨g, cap, cur, hv, hg, rest⟩
    · exact .inl h
    · exact .inr ⟨g, cap, cur, hv, by omega, rest⟩
  · simp [Value.ownBlock] at hg e
    omega
set_option maxRecDepth 100000 in
theorem numS_any (A : Option Addr) (n c : Nat) (L : List Int) (w : World) (hn : L.length = n) (h12 : n ≤ 12) (hr : Rd w A L) :
    Calls Try.prog 90 #[.slice A n c] w fun e w' => ∃ A' c', e = .returned (.slice A' n c') ∧ Below w.heap.size w w' ∧ Res 2 w.heap.size w' A' (numL L) := by
  have HN := hide hn
  have HR := hide hr
  obtain ⟨i0, hi, hz0, hz1, hz2⟩ := info_parts neInfo
  clear hn hr
  go_enter Try.func90, Try.ntmps90
  go_wp2_with fail
  refine wp_gen fun w0 hw0 => ?_
  have HB0 : Hid (Below w.heap.size w w0) := hide (by rw [hw0]; exact ((Below.refl _ _).alloc (Nat.le_refl _) _).alloc (by simp) _)
  have HRW0 : Hid (Row2 2 w.heap.size w0 (.slice (some ⟨w.heap.size, 0, none⟩) 0 0) (.slice (some ⟨w.heap.size + 1, 0, none⟩) 0 0) 0 0 (numTo L 0) (firstsL L 0)) := hide (by rw [hw0]; exact row2_begin w _)
  clear hw0
  go_loopw [3, 4, 5] (fun v1 v2 i wr => ∃ k m : Nat, k ≤ n ∧ i = .int .i64 k ∧ Below w.heap.size w wr ∧ Row2 2 w.heap.size wr v1 v2 k m (numTo L k) (firstsL L k)) (fun _ _ i _ => n - (intOf i).toNat)
  case atStart => exact ⟨0, 0, Nat.zero_le _, rfl, HB0.out, HRW0.out⟩
  case round =>
    obtain ⟨k, m, hk, rfl, hbe, hrw⟩ := hrel
    have HB := hide hbe
    have HRW := hide hrw
    clear hbe hrw HB0 HRW0
    by_cases hlt : k < n
    · have hltz : (k : Int) < n := by omega
      obtain ⟨b, o, hA, hbw, hc⟩ := HR.out (by rw [HN.out]; omega)
      subst hA
      obtain ⟨lk, hlk⟩ : ∃ lk, lb L k = lk := ⟨_, rfl⟩
      have HCELL : Hid (∀ wx : World, Below w.heap.size w wx → wx.cell? ⟨b, o + k, none⟩ = some (.int .i64 lk)) := hide (fun wx hb => (hb.cell (p := ⟨b, o + k, none⟩) hbw).trans (by rw [← hlk]; exact hc k (by rw [HN.out]; exact hlt)))
      have HLK := hide hlk
      clear hc
      have hm : (firstsL L k).length = m := by have h := HRW.out.o2.1; simpa [ints] using h
      have hm12 := firstsL_le L k
      obtain ⟨A2, c2, hv2, hres2⟩ := own_shape HRW.out.o2
      subst hv2
      have HRS := hide hres2.rd
      have HM := hide hm
      have hat1 := HCELL.out _ HB.out
      have hmk : m ≤ k := by omega
      clear hres2 hm
      go_wp2_with fail
      by_cases hin : lk ∈ firstsL L k
      · refine (has_any A2 m c2 (firstsL L k) lk true _ HM.out (by omega) HRS.out (by simp [hin])).mono ?_
        rintro e w5 ⟨rfl, hq5⟩
        replace HRS := hide (HRS.out.later (hq5.below _))
        replace HB := hide (HB.out.trans ((hq5.below _).mono HB.out.size))
        replace HRW := hide (HRW.out.later (hq5.below _))
        clear hq5

        have HFS : Hid (firstsL L (k + 1) = firstsL L k) := hide (by show (if lb L k ∈ firstsL L k then firstsL L k else firstsL L k ++ [lb L k]) = _; rw [hlk, if_pos hin])
        have HFL := HM
        clear hin hlk hat1
        have hat2 := HCELL.out _ HB.out
        have HRS2 := HRS
        go_wp2_with fail
        refine (index_any A2 _ c2 (firstsL L k) lk _ HFL.out (by omega) HRS2.out).mono ?_
        rintro e w7 ⟨rfl, hq7⟩
        replace HB := hide (HB.out.trans ((hq7.below _).mono HB.out.size))
        replace HRW := hide (HRW.out.later (hq7.below _))
        clear hq7
        obtain ⟨ix, hix⟩ : ∃ ix, ixOf (firstsL L k) lk = ix := ⟨_, rfl⟩
        rw [hix]
        have HIX := hide hix
        clear hix hat2
        go_wp2_with (at_builtin; refine wpList_append_own_at _ rfl _ _ 32 rfl w.heap.size 2 i0 (.int .i64 0) 1 8 Try.underlying32 hi hz0 hz1 hz2 rfl (by decide) _ _ _ rfl (HRW.out.o1.alloc _) ⟨w7.heap.size, 0, none⟩ 1 1 [.int .i64 ix] rfl rfl ?a1 ?a2 ?a3 ?a4 ?a5 ?_)
        try (case a1 => exact ne_new)
        try (case a2 => first | rfl | (intro u hu; simp at hu; subst hu; rfl))
        try (case a3 => first | omega | (unfold maxLen; omega))
        try (case a4 => omega)
        try (case a5 => first | omega | (simp; omega) | (have hs := HB.out.size; simp; omega))
        intro v' w9a hown hgrow _ hat
        replace HB := hide (grown_low HRW.out.o1 hgrow HB.out (Nat.le_refl _) HB.out.size)
        replace HRW := hide (HRW.out.add1 (tmp := .cells #[.int .i64 ix] 2) hown hgrow (by simpa using hat))
        clear hown hgrow hat
        go_wp2_with fail
        go_roundw
        case rel =>
          refine ⟨k + 1, m, by omega, by go_num, HB.out, ?_⟩
          have h := HRW.out
          rw [← HIX.out, ← HFS.out, ← HLK.out, ← numTo_succ] at h
          exact h
        case measure => simp [intOf]; omega
      · refine (has_any A2 m c2 (firstsL L k) lk false _ HM.out (by omega) HRS.out (by simp [hin])).mono ?_
        rintro e w5 ⟨rfl, hq5⟩
        replace HB := hide (HB.out.trans ((hq5.below _).mono HB.out.size))
        replace HRW := hide (HRW.out.later (hq5.below _))
        clear hq5

        have HFS : Hid (firstsL L (k + 1) = firstsL L k ++ [lk]) := hide (by show (if lb L k ∈ firstsL L k then firstsL L k else firstsL L k ++ [lb L k]) = _; rw [hlk, if_neg hin])
        have HFL : Hid ((firstsL L k ++ [lk]).length = m + 1) := hide (by rw [List.length_append, HM.out]; rfl)
        clear hin hlk hat1 HRS
        have hat3 := HCELL.out _ HB.out
        go_wp2_with (at_builtin; refine wpList_append_own_at _ rfl _ _ 32 rfl w.heap.size 2 i0 (.int .i64 0) 1 8 Try.underlying32 hi hz0 hz1 hz2 rfl (by decide) _ _ _ rfl (HRW.out.o2.alloc _) ⟨w5.heap.size, 0, none⟩ 1 1 [.int .i64 lk] rfl rfl ?b1 ?b2 ?b3 ?b4 ?b5 ?_)
        try (case b1 => exact ne_new)
        try (case b2 => first | rfl | (intro u hu; simp at hu; subst hu; rfl))
        try (case b3 => first | omega | (unfold maxLen; omega))
        try (case b4 => omega)
        try (case b5 => first | omega | (simp; omega) | (have hs := HB.out.size; simp; omega))
        intro v' w9b hown hgrow _ hat
        replace HB := hide (grown_low HRW.out.o2 hgrow HB.out (Nat.le_refl _) HB.out.size)
        replace HRW := hide (HRW.out.add2 (tmp := .cells #[.int .i64 lk] 2) hown hgrow (by simpa using hat))
        clear hown hgrow hat

        clear hat3
        have hat2 := HCELL.out _ HB.out
        obtain ⟨A2, c2, hv2, hres2⟩ := own_shape HRW.out.o2
        subst hv2
        have HRS2 := hide hres2.rd
        clear hres2
        go_wp2_with fail
        refine (index_any A2 _ c2 (firstsL L k ++ [lk]) lk _ HFL.out (by omega) HRS2.out).mono ?_
        rintro e w7 ⟨rfl, hq7⟩
        replace HB := hide (HB.out.trans ((hq7.below _).mono HB.out.size))
        replace HRW := hide (HRW.out.later (hq7.below _))
        clear hq7
        obtain ⟨ix, hix⟩ : ∃ ix, ixOf (firstsL L k ++ [lk]) lk = ix := ⟨_, rfl⟩
        rw [hix]
        have HIX := hide hix
        clear hix hat2
        go_wp2_with (at_builtin; refine wpList_append_own_at _ rfl _ _ 32 rfl w.heap.size 2 i0 (.int .i64 0) 1 8 Try.underlying32 hi hz0 hz1 hz2 rfl (by decide) _ _ _ rfl (HRW.out.o1.alloc _) ⟨w7.heap.size, 0, none⟩ 1 1 [.int .i64 ix] rfl rfl ?a1 ?a2 ?a3 ?a4 ?a5 ?_)
        try (case a1 => exact ne_new)
        try (case a2 => first | rfl | (intro u hu; simp at hu; subst hu; rfl))
        try (case a3 => first | omega | (unfold maxLen; omega))
        try (case a4 => omega)
        try (case a5 => first | omega | (simp; omega) | (have hs := HB.out.size; simp; omega))
        intro v' w9a hown hgrow _ hat
        replace HB := hide (grown_low HRW.out.o1 hgrow HB.out (Nat.le_refl _) HB.out.size)
        replace HRW := hide (HRW.out.add1 (tmp := .cells #[.int .i64 ix] 2) hown hgrow (by simpa using hat))
        clear hown hgrow hat
        go_wp2_with fail
        go_roundw
        case rel =>
          refine ⟨k + 1, m + 1, by omega, by go_num, HB.out, ?_⟩
          have h := HRW.out
          rw [← HIX.out, ← HFS.out, ← HLK.out, ← numTo_succ] at h
          exact h
        case measure => simp [intOf]; omega
    · have hkn : k = n := by omega
      subst hkn
      obtain ⟨A1, c1, hv1, hres1⟩ := own_shape HRW.out.o1
      subst hv1
      have HRS1 := hide hres1
      clear hres1
      go_wp2_with fail
      go_ret
      exact ⟨_, _, rfl, HB.out, by unfold numL; rw [HN.out]; exact HRS1.out⟩
end Go.Proofs.Ytaejgmdeiemhcab
