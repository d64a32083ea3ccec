import Derived.Test.YtpkfcjpppncbiaaZy
import Derived.Test.YtpkfcjpppncbiaaZd
import Derived.Test.YtpkfcjpppncbiaaZg
import Derived.Test.YtpkfcjpppncbiaaZu
import Derived.Test.YtpkfcjpppncbiaaZq
import Derived.Test.YtpkfcjpppncbiaaZj
import Derived.Test.YtpkfcjpppncbiaaZe
namespace Go.Proofs.Ytpkfcjpppncbiaa
open Go Go.RowKit
set_option maxHeartbeats 2000000
/-- Whether three elements show that a table is no rack's. -/
def rkq (f : List (List Int)) : Nat → Nat → Nat → Bool := fun x y z => !decide (ap f x (ap f y z) = ap f (ap f x y) (ap f x z))
theorem rkq_not (f : List (List Int)) (n i : Nat) : qAt (rkq f) n i = false ↔ Rk3 f n i := by
  unfold qAt rkq Rk3
  simp
theorem rkq_is (f : List (List Int)) (n i : Nat) : qAt (rkq f) n i = true ↔ ¬ Rk3 f n i := by
  rw [← rkq_not]
  simp
theorem FirstK.q {f : List (List Int)} {n T : Nat} (h : FirstK f n T) : FirstQ (rkq f) n T :=
  ⟨fun i hi => (rkq_not f n i).2 (h.1 i hi), h.2.1, fun ht => (rkq_is f n T).2 (h.2.2 ht)⟩

set_option maxRecDepth 100000 in
theorem kfC_any (A : Option Addr) (n c : Nat) (f : List (List Int)) (b : Nat) (w : World) (hn : f.length = n) (ht : Tbl f) (hr : Rd2 w A f) (hk : Blk w b 28 [.slice A n c]) :
    BoolFn3 Try.prog 51 #[.pointer (some ⟨b, 0, none⟩)] n (rkq f) w := by
  intro W x y z hx hy hz hb
  have HR := hide (hr.later hb)
  have HKc := hide (hk.later hb)
  have HBc := hide (Below.refl W.heap.size W)
  have HN := hide hn
  have HTB := hide ht
  show Calls Try.prog 51 #[.int .i64 x, .int .i64 y, .int .i64 z, .pointer (some ⟨b, 0, none⟩)] W _
  clear hn ht hr hk hb
  have hq1 := HTB.out.ap_lt HN.out hy hz
  have hq2 := HTB.out.ap_lt HN.out hx hy
  have hq3 := HTB.out.ap_lt HN.out hx hz
  obtain ⟨bq, hat⟩ : ∃ bq, rkq f x y z = bq := ⟨_, rfl⟩
  rw [hat]
  unfold rkq at hat
  obtain ⟨q1, h_1⟩ : ∃ u, ap f y z = u := ⟨_, rfl⟩
  obtain ⟨q2, h_2⟩ : ∃ u, ap f x y = u := ⟨_, rfl⟩
  obtain ⟨q3, h_3⟩ : ∃ u, ap f x z = u := ⟨_, rfl⟩
  rw [h_1, h_2, h_3] at hat
  rw [h_1] at hq1
  rw [h_2] at hq2
  rw [h_3] at hq3
  obtain ⟨q4, h_4⟩ : ∃ u, ap f x q1 = u := ⟨_, rfl⟩
  obtain ⟨q5, h_5⟩ : ∃ u, ap f q2 q3 = u := ⟨_, rfl⟩
  rw [h_4, h_5] at hat
  have HAT : Hid ((!decide (q4 = q5)) = bq) := hide hat
  have U1 := hide h_1
  have U2 := hide h_2
  have U3 := hide h_3
  have U4 := hide h_4
  have U5 := hide h_5
  clear h_1 h_2 h_3 h_4 h_5 hat
  have k0 := HKc.out.cell 0 _ rfl
  have tok0 : True := trivial
  have tok1 : True := trivial
  have tok2 : True := trivial
  have tok3 : True := trivial
  go_enter Try.func51, Try.ntmps51
  by_cases hcs : q4 = q5
  · have hbq : bq = false := by rw [← HAT.out, hcs]; simp
    subst hcs
    subst hbq
    go_wp2_with fail
    go_region_held3 (fun w' => w'.cell? ⟨b, 0, none⟩ = some (.slice A n c)) (first | exact k0 | go_keep) (first | (go_at_call 52; have _t := tok0; clear _t tok0; go_must (refine calls_gen fun wc hwc => ?_; (first | have hbx := drew_below hwc | have hbx := eq_below hwc); replace HBc := hide (HBc.out.trans (hbx.mono HBc.out.size)); replace HKc := hide (HKc.out.later hbx); clear hwc hbx; refine (act_any _ _ _ f y z q1 _ HN.out HTB.out (HR.out.later HBc.out) hy hz U1.out).mono ?_; rintro e wd ⟨rfl, hbd⟩; replace HBc := hide (HBc.out.trans (hbd.mono HBc.out.size)); replace HKc := hide (HKc.out.later hbd); clear hbd; have k0 := HKc.out.cell 0 _ rfl)) | (go_at_call 52; have _t := tok1; clear _t tok1; go_must (refine calls_gen fun wc hwc => ?_; (first | have hbx := drew_below hwc | have hbx := eq_below hwc); replace HBc := hide (HBc.out.trans (hbx.mono HBc.out.size)); replace HKc := hide (HKc.out.later hbx); clear hwc hbx; refine (act_any _ _ _ f x q1 q4 _ HN.out HTB.out (HR.out.later HBc.out) hx hq1 U4.out).mono ?_; rintro e wd ⟨rfl, hbd⟩; replace HBc := hide (HBc.out.trans (hbd.mono HBc.out.size)); replace HKc := hide (HKc.out.later hbd); clear hbd; have k0 := HKc.out.cell 0 _ rfl)) | (go_at_call 52; have _t := tok2; clear _t tok2; go_must (refine calls_gen fun wc hwc => ?_; (first | have hbx := drew_below hwc | have hbx := eq_below hwc); replace HBc := hide (HBc.out.trans (hbx.mono HBc.out.size)); replace HKc := hide (HKc.out.later hbx); clear hwc hbx; refine (act_any _ _ _ f x y q2 _ HN.out HTB.out (HR.out.later HBc.out) hx hy U2.out).mono ?_; rintro e wd ⟨rfl, hbd⟩; replace HBc := hide (HBc.out.trans (hbd.mono HBc.out.size)); replace HKc := hide (HKc.out.later hbd); clear hbd; have k0 := HKc.out.cell 0 _ rfl)) | (go_at_call 52; have _t := tok3; clear _t tok3; go_must (refine calls_gen fun wc hwc => ?_; (first | have hbx := drew_below hwc | have hbx := eq_below hwc); replace HBc := hide (HBc.out.trans (hbx.mono HBc.out.size)); replace HKc := hide (HKc.out.later hbx); clear hwc hbx; refine (act_any _ _ _ f x z q3 _ HN.out HTB.out (HR.out.later HBc.out) hx hz U3.out).mono ?_; rintro e wd ⟨rfl, hbd⟩; replace HBc := hide (HBc.out.trans (hbd.mono HBc.out.size)); replace HKc := hide (HKc.out.later hbd); clear hbd; have k0 := HKc.out.cell 0 _ rfl)) | (go_at_call 52; go_must (refine calls_gen fun wc hwc => ?_; (first | have hbx := drew_below hwc | have hbx := eq_below hwc); replace HBc := hide (HBc.out.trans (hbx.mono HBc.out.size)); replace HKc := hide (HKc.out.later hbx); clear hwc hbx; refine (act_any _ _ _ f q2 q3 q4 _ HN.out HTB.out (HR.out.later HBc.out) hq2 hq3 U5.out).mono ?_; rintro e wd ⟨rfl, hbd⟩; replace HBc := hide (HBc.out.trans (hbd.mono HBc.out.size)); replace HKc := hide (HKc.out.later hbd); clear hbd; have k0 := HKc.out.cell 0 _ rfl)))
    go_wp2_with fail
    go_ret
    exact ⟨rfl, HBc.out⟩
  · have hbq : bq = true := by rw [← HAT.out]; simp [hcs]
    have hcz : ((q4 : Int) != (q5 : Int)) = true := by rw [bne_iff_ne]; omega
    subst hbq
    go_wp2_with fail
    go_region_held3 (fun w' => w'.cell? ⟨b, 0, none⟩ = some (.slice A n c)) (first | exact k0 | go_keep) (first | (go_at_call 52; have _t := tok0; clear _t tok0; go_must (refine calls_gen fun wc hwc => ?_; (first | have hbx := drew_below hwc | have hbx := eq_below hwc); replace HBc := hide (HBc.out.trans (hbx.mono HBc.out.size)); replace HKc := hide (HKc.out.later hbx); clear hwc hbx; refine (act_any _ _ _ f y z q1 _ HN.out HTB.out (HR.out.later HBc.out) hy hz U1.out).mono ?_; rintro e wd ⟨rfl, hbd⟩; replace HBc := hide (HBc.out.trans (hbd.mono HBc.out.size)); replace HKc := hide (HKc.out.later hbd); clear hbd; have k0 := HKc.out.cell 0 _ rfl)) | (go_at_call 52; have _t := tok1; clear _t tok1; go_must (refine calls_gen fun wc hwc => ?_; (first | have hbx := drew_below hwc | have hbx := eq_below hwc); replace HBc := hide (HBc.out.trans (hbx.mono HBc.out.size)); replace HKc := hide (HKc.out.later hbx); clear hwc hbx; refine (act_any _ _ _ f x q1 q4 _ HN.out HTB.out (HR.out.later HBc.out) hx hq1 U4.out).mono ?_; rintro e wd ⟨rfl, hbd⟩; replace HBc := hide (HBc.out.trans (hbd.mono HBc.out.size)); replace HKc := hide (HKc.out.later hbd); clear hbd; have k0 := HKc.out.cell 0 _ rfl)) | (go_at_call 52; have _t := tok2; clear _t tok2; go_must (refine calls_gen fun wc hwc => ?_; (first | have hbx := drew_below hwc | have hbx := eq_below hwc); replace HBc := hide (HBc.out.trans (hbx.mono HBc.out.size)); replace HKc := hide (HKc.out.later hbx); clear hwc hbx; refine (act_any _ _ _ f x y q2 _ HN.out HTB.out (HR.out.later HBc.out) hx hy U2.out).mono ?_; rintro e wd ⟨rfl, hbd⟩; replace HBc := hide (HBc.out.trans (hbd.mono HBc.out.size)); replace HKc := hide (HKc.out.later hbd); clear hbd; have k0 := HKc.out.cell 0 _ rfl)) | (go_at_call 52; have _t := tok3; clear _t tok3; go_must (refine calls_gen fun wc hwc => ?_; (first | have hbx := drew_below hwc | have hbx := eq_below hwc); replace HBc := hide (HBc.out.trans (hbx.mono HBc.out.size)); replace HKc := hide (HKc.out.later hbx); clear hwc hbx; refine (act_any _ _ _ f x z q3 _ HN.out HTB.out (HR.out.later HBc.out) hx hz U3.out).mono ?_; rintro e wd ⟨rfl, hbd⟩; replace HBc := hide (HBc.out.trans (hbd.mono HBc.out.size)); replace HKc := hide (HKc.out.later hbd); clear hbd; have k0 := HKc.out.cell 0 _ rfl)) | (go_at_call 52; go_must (refine calls_gen fun wc hwc => ?_; (first | have hbx := drew_below hwc | have hbx := eq_below hwc); replace HBc := hide (HBc.out.trans (hbx.mono HBc.out.size)); replace HKc := hide (HKc.out.later hbx); clear hwc hbx; refine (act_any _ _ _ f q2 q3 q5 _ HN.out HTB.out (HR.out.later HBc.out) hq2 hq3 U5.out).mono ?_; rintro e wd ⟨rfl, hbd⟩; replace HBc := hide (HBc.out.trans (hbd.mono HBc.out.size)); replace HKc := hide (HKc.out.later hbd); clear hbd; have k0 := HKc.out.cell 0 _ rfl)))
    go_wp2_with fail
    go_ret
    exact ⟨rfl, HBc.out⟩

set_option maxRecDepth 100000 in
theorem kfaultQ_any (A : Option Addr) (n c : Nat) (f : List (List Int)) (T : Nat) (w : World) (hn : f.length = n) (ht : Tbl f) (hr : Rd2 w A f) (hT : FirstQ (rkq f) n T) :
    Calls Try.prog 40 #[.agg #[.slice A n c]] w fun e w' => (T = n * n * n ∧ e = .returned (.slice none 0 0) ∧ Below w.heap.size w w') ∨ (T < n * n * n ∧ ∃ g, e = .returned (.slice (some ⟨g, 0, none⟩) 3 3) ∧ Below w.heap.size w w' ∧ w.heap.size ≤ g ∧ OwnB 2 w' g (lst3 (trip n T))) := by
  have h1 : 1 ≤ n := by rw [← hn]; exact ht.1
  have h12 : n ≤ 12 := by rw [← hn]; exact ht.2.1
  have HN := hide hn
  have HTB := hide ht
  have HR := hide hr
  have HT := hide hT
  have HB0 := hide ((Below.refl _ w).alloc (Nat.le_refl _) (Obj.cells #[Value.slice A n c] 28))
  have HK0 := hide (Blk.new w 28 [.slice A n c])
  clear hn ht hr hT
  go_enter Try.func40, Try.ntmps40
  go_wp2_with fail
  refine (ksize_any _ _ _ _ (by omega)).mono ?_
  rintro e w2 ⟨rfl, hb2⟩
  have HB2 := hide (HB0.out.trans (hb2.mono HB0.out.size))
  have HK2 := hide (HK0.out.later hb2)
  clear hb2
  go_wp2_with fail
  refine (firstTriple_any 51 _ n (rkq f) T _ (fun _ _ => rfl) h1 h12 (kfC_any A n c f w.heap.size _ HN.out HTB.out (HR.out.later HB2.out) HK2.out) HT.out).mono ?_
  rintro e w3 (⟨hTe, rfl, hb3⟩ | ⟨hTl, g, rfl, hb3, hg, hob⟩)
  · have HB3 := hide (HB2.out.trans (hb3.mono HB2.out.size))
    clear hb3
    go_wp2_with fail
    go_ret
    exact .inl ⟨hTe, rfl, HB3.out⟩
  · have HB3 := hide (HB2.out.trans (hb3.mono HB2.out.size))
    have HO3 := hide hob
    have hlo : w.heap.size ≤ g := by have := HB2.out.size; omega
    clear hb3 hob
    go_wp2_with fail
    go_ret
    exact .inr ⟨hTl, _, rfl, HB3.out, hlo, HO3.out⟩

theorem kfault_any (A : Option Addr) (n c : Nat) (f : List (List Int)) (T : Nat) (w : World) (hn : f.length = n) (ht : Tbl f) (hr : Rd2 w A f) (hT : FirstK f n T) :
    Calls Try.prog 40 #[.agg #[.slice A n c]] w fun e w' => (T = n * n * n ∧ e = .returned (.slice none 0 0) ∧ Below w.heap.size w w') ∨ (T < n * n * n ∧ ∃ g, e = .returned (.slice (some ⟨g, 0, none⟩) 3 3) ∧ Below w.heap.size w w' ∧ w.heap.size ≤ g ∧ OwnB 2 w' g (lst3 (trip n T))) :=
  kfaultQ_any A n c f T w hn ht hr hT.q
end Go.Proofs.Ytpkfcjpppncbiaa
namespace Go.Proofs.Ytpkfcjpppncbiaa
open Go Go.RowKit
set_option maxHeartbeats 2000000

set_option maxRecDepth 100000 in
theorem isRackS (A : Option Addr) (n c : Nat) (f : List (List Int)) (r : Bool) (w : World) (hn : f.length = n) (hb : n ≤ 1048576) (hbs : ∀ i, i < f.length → (f.getD i []).length ≤ 1048576) (hr : Rd2 w A f) (hres : RkRes f r) :
    Calls Try.prog 22 #[.agg #[.slice A n c]] w fun e w' => e = .returned (.bool r) ∧ Below w.heap.size w w' := by
  have HN := hide hn
  have HBS := hide hbs
  have HRD := hide hr
  have HR := hide hres
  have HB0 := hide ((Below.refl _ w).alloc (Nat.le_refl _) (Obj.cells #[Value.slice A n c] 28))
  have HK0 := hide (Blk.new w 28 [.slice A n c])
  by_cases ht : Tbl f
  · have HTB := hide ht
    obtain ⟨T, hT⟩ := FirstK.ex f n
    have HT := hide hT
    clear hn hbs hr hres ht hT
    go_enter Try.func22, Try.ntmps22
    go_wp2_with fail
    refine (l01Table_any _ _ _ f true _ HN.out (by omega) (fun i hi => by have := HBS.out i hi; omega) (HRD.out.later HB0.out) (by simp [HTB.out])).mono ?_
    rintro e w1 ⟨rfl, hq1⟩
    have HB1 := hide (HB0.out.trans (hq1.below _))
    have HK1 := hide (HK0.out.later (hq1.below _))
    clear hq1
    go_wp2_with fail
    go_loopw [3] (fun i wr => ∃ k : Nat, k ≤ n ∧ i = .int .i64 k ∧ Below w.heap.size w wr ∧ Blk wr w.heap.size 28 [.slice A n c] ∧ ∀ i, i < k → Prm (f.getD i [])) (fun i _ => n - (intOf i).toNat)
    case atStart => exact ⟨0, Nat.zero_le _, rfl, HB1.out, HK1.out, fun i hi => absurd hi (Nat.not_lt_zero _)⟩
    case round =>
      obtain ⟨k, hk, rfl, hbe, hkk, hall⟩ := hrel
      have HB := hide hbe
      have HK := hide hkk
      have HALL := hide hall
      clear hbe hkk hall
      have k0 := HK.out.cell 0 _ rfl
      by_cases hlt : k < n
      · obtain ⟨b, o, hA, _, hc⟩ := (HRD.out.later HB.out) (by have := HN.out; omega)
        obtain ⟨Ak, ck, hcell, hrd⟩ := hc k (by have := HN.out; omega)
        have hbk := HBS.out k (by have := HN.out; omega)
        obtain ⟨x, hx⟩ : ∃ x, x = f.getD k [] := ⟨_, rfl⟩
        obtain ⟨m, hm⟩ : ∃ m, x.length = m := ⟨_, rfl⟩
        rw [← hx] at hcell hrd hbk
        rw [hm] at hcell hbk
        have HX := hide hx
        have HM := hide hm
        have hltz : (k : Int) < n := by omega
        clear hx hm hc
        subst hA
        by_cases hp : Prm x
        · have HP := hide hp
          clear hp
          go_wp2_with fail
          clear k0
          refine (prmS_below _ _ _ x true _ HM.out (by omega) hrd (by simp [HP.out])).mono ?_
          rintro e w2 ⟨rfl, hq1⟩
          have HQ1 := hide hq1
          clear hq1
          go_wp2_with fail
          go_roundw
          case rel =>
            refine ⟨k + 1, by omega, by go_num, HB.out.trans (HQ1.out.mono HB.out.size), HK.out.later HQ1.out, fun i hi => ?_⟩
            by_cases e : i = k
            · subst e; rw [← HX.out]; exact HP.out
            · exact HALL.out i (by omega)
          case measure => simp [intOf]; omega
        · have HP := hide hp
          clear hp
          go_wp2_with fail
          clear k0
          refine (prmS_below _ _ _ x false _ HM.out (by omega) hrd (by simp [HP.out])).mono ?_
          rintro e w2 ⟨rfl, hq1⟩
          have HQ1 := hide hq1
          clear hq1
          have hnp : ¬ AllPrm f := fun h => by
            have h := h k (by have := HN.out; omega)
            rw [← HX.out] at h
            exact HP.out h
          have hrf : r = false := by
            cases r
            · rfl
            · have hrr : true = true ↔ Rck f := HR.out
              exact absurd (hrr.1 rfl).prm hnp
          subst hrf
          clear hnp
          go_wp2_with fail
          go_ret
          exact ⟨rfl, HB.out.trans (HQ1.out.mono HB.out.size)⟩
      · have hkn : k = n := by omega
        subst hkn
        have HAP : Hid (AllPrm f) := hide (fun i hi => HALL.out i (by have := HN.out; omega))
        go_wp2_with fail
        clear k0
        refine (faultK_any _ _ _ f T _ HN.out HTB.out (HRD.out.later HB.out) HT.out).mono ?_
        rintro e w3 (⟨hTe, rfl, hb3⟩ | ⟨hTl, g, rfl, hb3, hg, hob⟩)
        · have hrt : r = true := by
            have hrr : r = true ↔ Rck f := HR.out
            rw [hrr]
            refine ⟨⟨HTB.out, HAP.out⟩, ?_⟩
            rw [HN.out]
            exact HT.out.iff.1 hTe
          subst hrt
          have HB3 := hide (HB.out.trans (hb3.mono HB.out.size))
          clear hb3 hTe
          go_wp2_with fail
          go_ret
          exact ⟨rfl, HB3.out⟩
        · have hrf : r = false := by
            cases r
            · rfl
            · have hrr : true = true ↔ Rck f := HR.out
              have h := (hrr.1 rfl).2
              rw [HN.out] at h
              have := HT.out.iff.2 h
              omega
          subst hrf
          have HB3 := hide (HB.out.trans (hb3.mono HB.out.size))
          clear hb3 hTl hob
          go_wp2_with fail
          go_ret
          exact ⟨rfl, HB3.out⟩
  · have HTB := hide ht
    have hrf : r = false := by
      cases r
      · rfl
      · have hrr : true = true ↔ Rck f := HR.out
        exact absurd (hrr.1 rfl).tbl ht
    subst hrf
    clear hn hbs hr hres ht
    go_enter Try.func22, Try.ntmps22
    go_wp2_with fail
    refine (l01Table_any _ _ _ f false _ HN.out (by omega) (fun i hi => by have := HBS.out i hi; omega) (HRD.out.later HB0.out) (by simp [HTB.out])).mono ?_
    rintro e w1 ⟨rfl, hq1⟩
    have HB1 := hide (HB0.out.trans (hq1.below _))
    clear hq1
    go_wp2_with fail
    go_ret
    exact ⟨rfl, HB1.out⟩

end Go.Proofs.Ytpkfcjpppncbiaa
