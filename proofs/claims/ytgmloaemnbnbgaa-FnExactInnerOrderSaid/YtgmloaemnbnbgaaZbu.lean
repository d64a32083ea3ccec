import Derived.Test.YtgmloaemnbnbgaaZbt
import Derived.Test.YtgmloaemnbnbgaaZd
import Derived.Test.YtgmloaemnbnbgaaZe
import Derived.Test.YtgmloaemnbnbgaaZl
import Derived.Test.YtgmloaemnbnbgaaZj
import Derived.Test.YtgmloaemnbnbgaaZbp
import Derived.Test.YtgmloaemnbnbgaaZbo
import Derived.Test.YtgmloaemnbnbgaaZbq
import Derived.Test.YtgmloaemnbnbgaaZi
import Derived.Test.YtgmloaemnbnbgaaZc
import Derived.StringKeys
import Derived.Deep.Cut
namespace Go.Proofs.Ytgmloaemnbnbgaa
open Go Go.RowKit
set_option maxHeartbeats 2000000
/-- Whether three elements show that a table is no rack's. -/
def rkq (f : List (List Int)) : Nat → Nat → Nat → Bool := fun x y z => !decide (ap f x (ap f y z) = ap f (ap f x y) (ap f x z))
theorem rkq_not (f : List (List Int)) (n i : Nat) : qAt (rkq f) n i = false ↔ Rk3 f n i := by
  unfold qAt rkq Rk3
  simp
theorem rkq_is (f : List (List Int)) (n i : Nat) : qAt (rkq f) n i = true ↔ ¬ Rk3 f n i := by
  rw [← rkq_not]
  simp
theorem FirstK.q {f : List (List Int)} {n T : Nat} (h : FirstK f n T) : FirstQ (rkq f) n T :=
  ⟨fun i hi => (rkq_not f n i).2 (h.1 i hi), h.2.1, fun ht => (rkq_is f n T).2 (h.2.2 ht)⟩

set_option maxRecDepth 100000 in
theorem kfC_any (A : Option Addr) (n c : Nat) (f : List (List Int)) (b : Nat) (w : World) (hn : f.length = n) (ht : Tbl f) (hr : Rd2 w A f) (hk : Blk w b 49 [.slice A n c]) :
    BoolFn3 Try.prog 127 #[.pointer (some ⟨b, 0, none⟩)] n (rkq f) w := by
  intro W x y z hx hy hz hb
  have HR := hide (hr.later hb)
  have HKc := hide (hk.later hb)
  have HBc := hide (Below.refl W.heap.size W)
  have HN := hide hn
  have HTB := hide ht
  show Calls Try.prog 127 #[.int .i64 x, .int .i64 y, .int .i64 z, .pointer (some ⟨b, 0, none⟩)] W _
  clear hn ht hr hk hb
  have hq1 := HTB.out.ap_lt HN.out hy hz
  have hq2 := HTB.out.ap_lt HN.out hx hy
  have hq3 := HTB.out.ap_lt HN.out hx hz
  obtain ⟨bq, hat⟩ : ∃ bq, rkq f x y z = bq := ⟨_, rfl⟩
  rw [hat]
  unfold rkq at hat
  obtain ⟨q1, h_1⟩ : ∃ u, ap f y z = u := ⟨_, rfl⟩
  obtain ⟨q2, h_2⟩ : ∃ u, ap f x y = u := ⟨_, rfl⟩
  obtain ⟨q3, h_3⟩ : ∃ u, ap f x z = u := ⟨_, rfl⟩
  rw [h_1, h_2, h_3] at hat
  rw [h_1] at hq1
  rw [h_2] at hq2
  rw [h_3] at hq3
  obtain ⟨q4, h_4⟩ : ∃ u, ap f x q1 = u := ⟨_, rfl⟩
  obtain ⟨q5, h_5⟩ : ∃ u, ap f q2 q3 = u := ⟨_, rfl⟩
  rw [h_4, h_5] at hat
  have HAT : Hid ((!decide (q4 = q5)) = bq) := hide hat
  have U1 := hide h_1
  have U2 := hide h_2
  have U3 := hide h_3
  have U4 := hide h_4
  have U5 := hide h_5
  clear h_1 h_2 h_3 h_4 h_5 hat
  have k0 := HKc.out.cell 0 _ rfl
  have tok0 : True := trivial
  have tok1 : True := trivial
  have tok2 : True := trivial
  have tok3 : True := trivial
  go_enter Try.func127, Try.ntmps127
  by_cases hcs : q4 = q5
  · have hbq : bq = false := by rw [← HAT.out, hcs]; simp
    subst hcs
    subst hbq
    go_wp2_with fail
    go_region_held3 (fun w' => w'.cell? ⟨b, 0, none⟩ = some (.slice A n c)) (first | exact k0 | go_keep) (first | (go_at_call 128; have _t := tok0; clear _t tok0; go_must (refine calls_gen fun wc hwc => ?_; (first | have hbx := drew_below hwc | have hbx := eq_below hwc); replace HBc := hide (HBc.out.trans (hbx.mono HBc.out.size)); replace HKc := hide (HKc.out.later hbx); clear hwc hbx; refine (act_any _ _ _ f y z q1 _ HN.out HTB.out (HR.out.later HBc.out) hy hz U1.out).mono ?_; rintro e wd ⟨rfl, hbd⟩; replace HBc := hide (HBc.out.trans (hbd.mono HBc.out.size)); replace HKc := hide (HKc.out.later hbd); clear hbd; have k0 := HKc.out.cell 0 _ rfl)) | (go_at_call 128; have _t := tok1; clear _t tok1; go_must (refine calls_gen fun wc hwc => ?_; (first | have hbx := drew_below hwc | have hbx := eq_below hwc); replace HBc := hide (HBc.out.trans (hbx.mono HBc.out.size)); replace HKc := hide (HKc.out.later hbx); clear hwc hbx; refine (act_any _ _ _ f x q1 q4 _ HN.out HTB.out (HR.out.later HBc.out) hx hq1 U4.out).mono ?_; rintro e wd ⟨rfl, hbd⟩; replace HBc := hide (HBc.out.trans (hbd.mono HBc.out.size)); replace HKc := hide (HKc.out.later hbd); clear hbd; have k0 := HKc.out.cell 0 _ rfl)) | (go_at_call 128; have _t := tok2; clear _t tok2; go_must (refine calls_gen fun wc hwc => ?_; (first | have hbx := drew_below hwc | have hbx := eq_below hwc); replace HBc := hide (HBc.out.trans (hbx.mono HBc.out.size)); replace HKc := hide (HKc.out.later hbx); clear hwc hbx; refine (act_any _ _ _ f x y q2 _ HN.out HTB.out (HR.out.later HBc.out) hx hy U2.out).mono ?_; rintro e wd ⟨rfl, hbd⟩; replace HBc := hide (HBc.out.trans (hbd.mono HBc.out.size)); replace HKc := hide (HKc.out.later hbd); clear hbd; have k0 := HKc.out.cell 0 _ rfl)) | (go_at_call 128; have _t := tok3; clear _t tok3; go_must (refine calls_gen fun wc hwc => ?_; (first | have hbx := drew_below hwc | have hbx := eq_below hwc); replace HBc := hide (HBc.out.trans (hbx.mono HBc.out.size)); replace HKc := hide (HKc.out.later hbx); clear hwc hbx; refine (act_any _ _ _ f x z q3 _ HN.out HTB.out (HR.out.later HBc.out) hx hz U3.out).mono ?_; rintro e wd ⟨rfl, hbd⟩; replace HBc := hide (HBc.out.trans (hbd.mono HBc.out.size)); replace HKc := hide (HKc.out.later hbd); clear hbd; have k0 := HKc.out.cell 0 _ rfl)) | (go_at_call 128; go_must (refine calls_gen fun wc hwc => ?_; (first | have hbx := drew_below hwc | have hbx := eq_below hwc); replace HBc := hide (HBc.out.trans (hbx.mono HBc.out.size)); replace HKc := hide (HKc.out.later hbx); clear hwc hbx; refine (act_any _ _ _ f q2 q3 q4 _ HN.out HTB.out (HR.out.later HBc.out) hq2 hq3 U5.out).mono ?_; rintro e wd ⟨rfl, hbd⟩; replace HBc := hide (HBc.out.trans (hbd.mono HBc.out.size)); replace HKc := hide (HKc.out.later hbd); clear hbd; have k0 := HKc.out.cell 0 _ rfl)))
    go_wp2_with fail
    go_ret
    exact ⟨rfl, HBc.out⟩
  · have hbq : bq = true := by rw [← HAT.out]; simp [hcs]
    have hcz : ((q4 : Int) != (q5 : Int)) = true := by rw [bne_iff_ne]; omega
    subst hbq
    go_wp2_with fail
    go_region_held3 (fun w' => w'.cell? ⟨b, 0, none⟩ = some (.slice A n c)) (first | exact k0 | go_keep) (first | (go_at_call 128; have _t := tok0; clear _t tok0; go_must (refine calls_gen fun wc hwc => ?_; (first | have hbx := drew_below hwc | have hbx := eq_below hwc); replace HBc := hide (HBc.out.trans (hbx.mono HBc.out.size)); replace HKc := hide (HKc.out.later hbx); clear hwc hbx; refine (act_any _ _ _ f y z q1 _ HN.out HTB.out (HR.out.later HBc.out) hy hz U1.out).mono ?_; rintro e wd ⟨rfl, hbd⟩; replace HBc := hide (HBc.out.trans (hbd.mono HBc.out.size)); replace HKc := hide (HKc.out.later hbd); clear hbd; have k0 := HKc.out.cell 0 _ rfl)) | (go_at_call 128; have _t := tok1; clear _t tok1; go_must (refine calls_gen fun wc hwc => ?_; (first | have hbx := drew_below hwc | have hbx := eq_below hwc); replace HBc := hide (HBc.out.trans (hbx.mono HBc.out.size)); replace HKc := hide (HKc.out.later hbx); clear hwc hbx; refine (act_any _ _ _ f x q1 q4 _ HN.out HTB.out (HR.out.later HBc.out) hx hq1 U4.out).mono ?_; rintro e wd ⟨rfl, hbd⟩; replace HBc := hide (HBc.out.trans (hbd.mono HBc.out.size)); replace HKc := hide (HKc.out.later hbd); clear hbd; have k0 := HKc.out.cell 0 _ rfl)) | (go_at_call 128; have _t := tok2; clear _t tok2; go_must (refine calls_gen fun wc hwc => ?_; (first | have hbx := drew_below hwc | have hbx := eq_below hwc); replace HBc := hide (HBc.out.trans (hbx.mono HBc.out.size)); replace HKc := hide (HKc.out.later hbx); clear hwc hbx; refine (act_any _ _ _ f x y q2 _ HN.out HTB.out (HR.out.later HBc.out) hx hy U2.out).mono ?_; rintro e wd ⟨rfl, hbd⟩; replace HBc := hide (HBc.out.trans (hbd.mono HBc.out.size)); replace HKc := hide (HKc.out.later hbd); clear hbd; have k0 := HKc.out.cell 0 _ rfl)) | (go_at_call 128; have _t := tok3; clear _t tok3; go_must (refine calls_gen fun wc hwc => ?_; (first | have hbx := drew_below hwc | have hbx := eq_below hwc); replace HBc := hide (HBc.out.trans (hbx.mono HBc.out.size)); replace HKc := hide (HKc.out.later hbx); clear hwc hbx; refine (act_any _ _ _ f x z q3 _ HN.out HTB.out (HR.out.later HBc.out) hx hz U3.out).mono ?_; rintro e wd ⟨rfl, hbd⟩; replace HBc := hide (HBc.out.trans (hbd.mono HBc.out.size)); replace HKc := hide (HKc.out.later hbd); clear hbd; have k0 := HKc.out.cell 0 _ rfl)) | (go_at_call 128; go_must (refine calls_gen fun wc hwc => ?_; (first | have hbx := drew_below hwc | have hbx := eq_below hwc); replace HBc := hide (HBc.out.trans (hbx.mono HBc.out.size)); replace HKc := hide (HKc.out.later hbx); clear hwc hbx; refine (act_any _ _ _ f q2 q3 q5 _ HN.out HTB.out (HR.out.later HBc.out) hq2 hq3 U5.out).mono ?_; rintro e wd ⟨rfl, hbd⟩; replace HBc := hide (HBc.out.trans (hbd.mono HBc.out.size)); replace HKc := hide (HKc.out.later hbd); clear hbd; have k0 := HKc.out.cell 0 _ rfl)))
    go_wp2_with fail
    go_ret
    exact ⟨rfl, HBc.out⟩

set_option maxRecDepth 100000 in
theorem kfaultQ_any (A : Option Addr) (n c : Nat) (f : List (List Int)) (T : Nat) (w : World) (hn : f.length = n) (ht : Tbl f) (hr : Rd2 w A f) (hT : FirstQ (rkq f) n T) :
    Calls Try.prog 109 #[.agg #[.slice A n c]] w fun e w' => (T = n * n * n ∧ e = .returned (.slice none 0 0) ∧ Below w.heap.size w w') ∨ (T < n * n * n ∧ ∃ g, e = .returned (.slice (some ⟨g, 0, none⟩) 3 3) ∧ Below w.heap.size w w' ∧ w.heap.size ≤ g ∧ OwnB 2 w' g (lst3 (trip n T))) := by
  have h1 : 1 ≤ n := by rw [← hn]; exact ht.1
  have h12 : n ≤ 12 := by rw [← hn]; exact ht.2.1
  have HN := hide hn
  have HTB := hide ht
  have HR := hide hr
  have HT := hide hT
  have HB0 := hide ((Below.refl _ w).alloc (Nat.le_refl _) (Obj.cells #[Value.slice A n c] 49))
  have HK0 := hide (Blk.new w 49 [.slice A n c])
  clear hn ht hr hT
  go_enter Try.func109, Try.ntmps109
  go_wp2_with fail
  refine (ksize_any _ _ _ _ (by omega)).mono ?_
  rintro e w2 ⟨rfl, hb2⟩
  have HB2 := hide (HB0.out.trans (hb2.mono HB0.out.size))
  have HK2 := hide (HK0.out.later hb2)
  clear hb2
  go_wp2_with fail
  refine (firstTriple_any 127 _ n (rkq f) T _ (fun _ _ => rfl) h1 h12 (kfC_any A n c f w.heap.size _ HN.out HTB.out (HR.out.later HB2.out) HK2.out) HT.out).mono ?_
  rintro e w3 (⟨hTe, rfl, hb3⟩ | ⟨hTl, g, rfl, hb3, hg, hob⟩)
  · have HB3 := hide (HB2.out.trans (hb3.mono HB2.out.size))
    clear hb3
    go_wp2_with fail
    go_ret
    exact .inl ⟨hTe, rfl, HB3.out⟩
  · have HB3 := hide (HB2.out.trans (hb3.mono HB2.out.size))
    have HO3 := hide hob
    have hlo : w.heap.size ≤ g := by have := HB2.out.size; omega
    clear hb3 hob
    go_wp2_with fail
    go_ret
    exact .inr ⟨hTl, _, rfl, HB3.out, hlo, HO3.out⟩

theorem kfault_any (A : Option Addr) (n c : Nat) (f : List (List Int)) (T : Nat) (w : World) (hn : f.length = n) (ht : Tbl f) (hr : Rd2 w A f) (hT : FirstK f n T) :
    Calls Try.prog 109 #[.agg #[.slice A n c]] w fun e w' => (T = n * n * n ∧ e = .returned (.slice none 0 0) ∧ Below w.heap.size w w') ∨ (T < n * n * n ∧ ∃ g, e = .returned (.slice (some ⟨g, 0, none⟩) 3 3) ∧ Below w.heap.size w w' ∧ w.heap.size ≤ g ∧ OwnB 2 w' g (lst3 (trip n T))) :=
  kfaultQ_any A n c f T w hn ht hr hT.q
end Go.Proofs.Ytgmloaemnbnbgaa
namespace Go.Proofs.Ytgmloaemnbnbgaa
open Go Go.RowKit
set_option maxHeartbeats 2000000

set_option maxRecDepth 100000 in
theorem isRackS (A : Option Addr) (n c : Nat) (f : List (List Int)) (r : Bool) (w : World) (hn : f.length = n) (hb : n ≤ 1048576) (hbs : ∀ i, i < f.length → (f.getD i []).length ≤ 1048576) (hr : Rd2 w A f) (hres : RkRes f r) :
    Calls Try.prog 70 #[.agg #[.slice A n c]] w fun e w' => e = .returned (.bool r) ∧ Below w.heap.size w w' := by
  have HN := hide hn
  have HBS := hide hbs
  have HRD := hide hr
  have HR := hide hres
  have HB0 := hide ((Below.refl _ w).alloc (Nat.le_refl _) (Obj.cells #[Value.slice A n c] 49))
  have HK0 := hide (Blk.new w 49 [.slice A n c])
  by_cases ht : Tbl f
  · have HTB := hide ht
    obtain ⟨T, hT⟩ := FirstK.ex f n
    have HT := hide hT
    clear hn hbs hr hres ht hT
    go_enter Try.func70, Try.ntmps70
    go_wp2_with fail
    refine (l01Table_any _ _ _ f true _ HN.out (by omega) (fun i hi => by have := HBS.out i hi; omega) (HRD.out.later HB0.out) (by simp [HTB.out])).mono ?_
    rintro e w1 ⟨rfl, hq1⟩
    have HB1 := hide (HB0.out.trans (hq1.below _))
    have HK1 := hide (HK0.out.later (hq1.below _))
    clear hq1
    go_wp2_with fail
    go_loopw [3] (fun i wr => ∃ k : Nat, k ≤ n ∧ i = .int .i64 k ∧ Below w.heap.size w wr ∧ Blk wr w.heap.size 49 [.slice A n c] ∧ ∀ i, i < k → Prm (f.getD i [])) (fun i _ => n - (intOf i).toNat)
    case atStart => exact ⟨0, Nat.zero_le _, rfl, HB1.out, HK1.out, fun i hi => absurd hi (Nat.not_lt_zero _)⟩
    case round =>
      obtain ⟨k, hk, rfl, hbe, hkk, hall⟩ := hrel
      have HB := hide hbe
      have HK := hide hkk
      have HALL := hide hall
      clear hbe hkk hall
      have k0 := HK.out.cell 0 _ rfl
      by_cases hlt : k < n
      · obtain ⟨b, o, hA, _, hc⟩ := (HRD.out.later HB.out) (by have := HN.out; omega)
        obtain ⟨Ak, ck, hcell, hrd⟩ := hc k (by have := HN.out; omega)
        have hbk := HBS.out k (by have := HN.out; omega)
        obtain ⟨x, hx⟩ : ∃ x, x = f.getD k [] := ⟨_, rfl⟩
        obtain ⟨m, hm⟩ : ∃ m, x.length = m := ⟨_, rfl⟩
        rw [← hx] at hcell hrd hbk
        rw [hm] at hcell hbk
        have HX := hide hx
        have HM := hide hm
        have hltz : (k : Int) < n := by omega
        clear hx hm hc
        subst hA
        by_cases hp : Prm x
        · have HP := hide hp
          clear hp
          go_wp2_with fail
          clear k0
          refine (prmS_below _ _ _ x true _ HM.out (by omega) hrd (by simp [HP.out])).mono ?_
          rintro e w2 ⟨rfl, hq1⟩
          have HQ1 := hide hq1
          clear hq1
          go_wp2_with fail
          go_roundw
          case rel =>
            refine ⟨k + 1, by omega, by go_num, HB.out.trans (HQ1.out.mono HB.out.size), HK.out.later HQ1.out, fun i hi => ?_⟩
            by_cases e : i = k
            · subst e; rw [← HX.out]; exact HP.out
            · exact HALL.out i (by omega)
          case measure => simp [intOf]; omega
        · have HP := hide hp
          clear hp
          go_wp2_with fail
          clear k0
          refine (prmS_below _ _ _ x false _ HM.out (by omega) hrd (by simp [HP.out])).mono ?_
          rintro e w2 ⟨rfl, hq1⟩
          have HQ1 := hide hq1
          clear hq1
          have hnp : ¬ AllPrm f := fun h => by
            have h := h k (by have := HN.out; omega)
            rw [← HX.out] at h
            exact HP.out h
          have hrf : r = false := by
            cases r
            · rfl
            · have hrr : true = true ↔ Rck f := HR.out
              exact absurd (hrr.1 rfl).prm hnp
          subst hrf
          clear hnp
          go_wp2_with fail
          go_ret
          exact ⟨rfl, HB.out.trans (HQ1.out.mono HB.out.size)⟩
      · have hkn : k = n := by omega
        subst hkn
        have HAP : Hid (AllPrm f) := hide (fun i hi => HALL.out i (by have := HN.out; omega))
        go_wp2_with fail
        clear k0
        refine (faultK_any _ _ _ f T _ HN.out HTB.out (HRD.out.later HB.out) HT.out).mono ?_
        rintro e w3 (⟨hTe, rfl, hb3⟩ | ⟨hTl, g, rfl, hb3, hg, hob⟩)
        · have hrt : r = true := by
            have hrr : r = true ↔ Rck f := HR.out
            rw [hrr]
            refine ⟨⟨HTB.out, HAP.out⟩, ?_⟩
            rw [HN.out]
            exact HT.out.iff.1 hTe
          subst hrt
          have HB3 := hide (HB.out.trans (hb3.mono HB.out.size))
          clear hb3 hTe
          go_wp2_with fail
          go_ret
          exact ⟨rfl, HB3.out⟩
        · have hrf : r = false := by
            cases r
            · rfl
            · have hrr : true = true ↔ Rck f := HR.out
              have h := (hrr.1 rfl).2
              rw [HN.out] at h
              have := HT.out.iff.2 h
              omega
          subst hrf
          have HB3 := hide (HB.out.trans (hb3.mono HB.out.size))
          clear hb3 hTl hob
          go_wp2_with fail
          go_ret
          exact ⟨rfl, HB3.out⟩
  · have HTB := hide ht
    have hrf : r = false := by
      cases r
      · rfl
      · have hrr : true = true ↔ Rck f := HR.out
        exact absurd (hrr.1 rfl).tbl ht
    subst hrf
    clear hn hbs hr hres ht
    go_enter Try.func70, Try.ntmps70
    go_wp2_with fail
    refine (l01Table_any _ _ _ f false _ HN.out (by omega) (fun i hi => by have := HBS.out i hi; omega) (HRD.out.later HB0.out) (by simp [HTB.out])).mono ?_
    rintro e w1 ⟨rfl, hq1⟩
    have HB1 := hide (HB0.out.trans (hq1.below _))
    clear hq1
    go_wp2_with fail
    go_ret
    exact ⟨rfl, HB1.out⟩

end Go.Proofs.Ytgmloaemnbnbgaa
namespace Go.Proofs.Ytgmloaemnbnbgaa
open Go Go.RowKit
open Classical
set_option maxHeartbeats 4000000
theorem upKeyed : Maps.Keyed Try.prog 9 := Maps.string_keyed Try.underlying9
theorem upKey (s : ByteArray) (h : s.size ≤ maxLen) : keyOf Try.prog 9 (.string s) = some (.string s.data.toList) := WideMaps.keyOf_string_mk Try.underlying9 h
theorem Obj1.off {t : TypeId} {lo hi b : Nat} {w w' : World} {A : Option Addr} {xs : List Int} (h : Obj1 t lo hi w A xs) (hm : IsMapB w b) (hg : w.grownBy w' (some b)) : Obj1 t lo hi w' A xs := by
  rcases h with h | ⟨g, e, a, b', cur, hc, r⟩
  · exact .inl h
  · exact .inr ⟨g, e, a, b', cur, off_cells hm hg hc, r⟩

set_option maxRecDepth 100000 in
theorem groupUpTo_any (n limit : Nat) (A : Option Addr) (m c : Nat) (rows : List (List Int)) (w : World) (h1 : 1 ≤ n) (h12 : n ≤ 12) (hl1 : 1 ≤ limit) (hl : limit ≤ 5000) (hm : rows.length = m) (hmb : m ≤ 4096) (hg : Gens rows n) (hr : Rd2 w A rows) :
    Calls Try.prog 110 #[.int .i64 n, .slice A m c, .int .i64 limit] w fun e w' => (∃ L vals v, Enu n rows L ∧ L.length ≤ limit ∧ e = .returned (.tuple #[v, .bool true]) ∧ Below w.heap.size w w' ∧ LstV 26 2 w.heap.size w' v L vals) ∨ (¬ AtMost n rows limit ∧ e = .returned (.tuple #[.slice none 0 0, .bool false]) ∧ Below w.heap.size w w') := by
  have HM := hide hm
  have HG := hide hg
  have HR := hide hr
  obtain ⟨i2, hj, hy0, hy1, hy2⟩ := info_parts neInfo2
  have hmm := @run_makeMap Try.prog
  clear hm hg hr
  go_enter Try.func110, Try.ntmps110
  go_wp2_with fail
  refine (identityOf_any n _ (by omega)).mono ?_
  rintro e w1 ⟨rfl, hb1, hrow1, hs1⟩
  have HB1 := hide hb1
  have HO1 : Hid (Obj1 2 w.heap.size w1.heap.size w1 (some ⟨w.heap.size, 0, none⟩) (unitN n)) := hide (.inr ⟨w.heap.size, rfl, Nat.le_refl _, hrow1.lt, by have h := hrow1.own; rw [show unitL n = unitN n by simp [unitN, unitL]] at h; exact h⟩)
  have hs1' := hs1
  clear hb1 hrow1 hs1
  go_upto_region 3 with fail
  refine wp_gen fun w2 hw2 => ?_
  have HB2 : Hid (Below w.heap.size w w2) := hide (by rw [hw2]; exact HB1.out.alloc HB1.out.size _)
  have HL2 : Hid (LstV 26 2 w.heap.size w2 (.slice (some ⟨w.heap.size + 1, 0, none⟩) 1 1) [unitN n] [.slice (some ⟨w.heap.size, 0, none⟩) n n]) := hide (by
    rw [hw2]
    have h := LstV.single (c := n) (ts := 26) HO1.out HB1.out.size
    rw [unitN_length, hs1'] at h
    exact h)
  have HU2 : Hid (Rd w2 (some ⟨w.heap.size, 0, none⟩) (unitN n)) := hide (by rw [hw2]; exact HO1.out.rd.later ((Below.refl _ _).alloc (Nat.le_refl _) _))
  clear hw2 HO1 HB1 hs1'
  go_wp2_with fail
  clear hmm
  refine calls_gen fun w3 hw3 => ?_
  obtain ⟨bm, hbm⟩ : ∃ bm, w2.heap.size = bm := ⟨_, rfl⟩
  have hq3 : Below w2.heap.size w2 w3 := by rw [hw3]; exact (Below.refl _ _).alloc (Nat.le_refl _) _
  have HB3 := hide (HB2.out.trans (hq3.mono HB2.out.size))
  have HL3 := hide (HL2.out.later hq3)
  have HU3 := hide (HU2.out.later hq3)
  have HM3 : Hid (MapK 9 w3 bm 0 (fun _ => none)) := hide (by rw [hw3, ← hbm]; exact MapK.made _ _)
  have hbw : w.heap.size ≤ bm := by rw [← hbm]; exact HB2.out.size
  rw [hbm]
  clear hw3 hbm hq3 HB2 HL2 HU2
  refine (text_any _ n n (unitN n) _ (unitN_length n) (by omega) HU3.out (fun x hx => by have h := (unit_prm h1 h12).2.2.1 x hx; rw [unitN_length] at h; omega)).mono ?_
  rintro e w4 ⟨rfl, hb4⟩
  have HB4 := hide (HB3.out.trans (hb4.mono HB3.out.size))
  have HL4 := hide (HL3.out.later hb4)
  have HM4 := hide (HM3.out.later hb4)
  clear hb4 HB3 HL3 HU3 HM3
  obtain ⟨w5, hup, hm5, hg5⟩ := MapK.update upKeyed HM4.out Try.underlying116 (by unfold maxLen; omega) (upKey (lineS (unitN n)) (by rw [lineS_size, unitN_length]; unfold maxLen; omega)) (.bool true)
  have HB5 : Hid (Below w.heap.size w w5) := hide (HB4.out.grown hg5 HB4.out.size (fun g hg => by injection hg with hg; omega))
  have HL5 := hide (HL4.out.off HM4.out.isMap hg5)
  have HM5 : Hid (MapK 9 w5 bm 1 (seenV [unitN n])) := hide (hm5.congr (fun k => by
    have h := seenV_add [] (unitN n) k
    rw [List.nil_append] at h
    rw [← h]
    by_cases e : k = .string (lineS (unitN n))
    · rw [if_pos e, if_pos e]
    · rw [if_neg e, if_neg e]; simp [seenV]))
  clear hm5 hg5 HB4 HL4 HM4
  go_wp2_with fail
  clear hup
  go_loopw [9, 11] (fun v i wr => ∃ (j : Nat) (found : List (List Int)) (vals : List Value), j ≤ found.length ∧ i = .int .i64 j ∧ Srch n rows found j 0 ∧ found.length ≤ limit ∧ Below w.heap.size w wr ∧ LstV 26 2 w.heap.size wr v found vals ∧ MapK 9 wr bm found.length (seenV found)) (fun _ i _ => limit + 1 - (intOf i).toNat)
  case atStart => exact ⟨0, [unitN n], _, by simp, rfl, Srch.start n rows, by simpa using hl1, HB5.out, HL5.out, HM5.out⟩
  case round =>
    obtain ⟨j, found, vals, hjf, rfl, hsr, hfl, hbe, hll, hmk⟩ := hrel
    clear HB5 HL5 HM5
    obtain ⟨Ag, cg, hv, _⟩ := hll.shape
    subst hv
    have HS := hide hsr
    have HB := hide hbe
    have HL := hide hll
    have HMK := hide hmk
    clear hsr hbe hll hmk
    obtain ⟨fl, hfe⟩ : ∃ fl, found.length = fl := ⟨_, rfl⟩
    have HFE := hide hfe
    rw [hfe] at hjf hfl
    by_cases hlt : j < fl
    · have hjz : (j : Int) < fl := by omega
      rw [hfe]
      clear hfe
      go_wp2_with fail
      obtain ⟨wo, rfl⟩ : ∃ wo : World, wo = wr := ⟨_, rfl⟩
      go_loopw [9, 32] (fun v i wi => ∃ (k : Nat) (found : List (List Int)) (vals : List Value), k ≤ m ∧ i = .int .i64 k ∧ j < found.length ∧ Srch n rows found j k ∧ found.length ≤ limit ∧ Below w.heap.size w wi ∧ LstV 26 2 w.heap.size wi v found vals ∧ MapK 9 wi bm found.length (seenV found)) (fun _ i _ => m - (intOf i).toNat)
      case atStart => exact ⟨0, found, vals, Nat.zero_le _, rfl, by have := HFE.out; omega, HS.out, by have := HFE.out; omega, HB.out, by have h := HL.out; rw [HFE.out] at h; exact h, HMK.out⟩
      case round =>
        obtain ⟨k, found2, vals2, hk, rfl, hjf2, hsr2, hfl2, hbe2, hll2, hmk2⟩ := hrel
        clear HS HB HL HMK HFE hfl
        obtain ⟨Ag2, cg2, hv2, ho2⟩ := hll2.shape
        subst hv2
        have HS := hide hsr2
        have HB := hide hbe2
        have HL := hide hll2
        have HMK := hide hmk2
        clear hsr2 hbe2 hll2 hmk2
        obtain ⟨fl2, hfe2⟩ : ∃ fl2, found2.length = fl2 := ⟨_, rfl⟩
        have HFE := hide hfe2
        rw [hfe2] at hjf2 hfl2
        have HL0 := HL.out
        rw [hfe2] at HL0
        have HL := hide HL0
        clear HL0
        rw [hfe2]
        by_cases hkm : k < m
        · have hkz : (k : Int) < m := by omega
          have hjz2 : (j : Int) < fl2 := by omega
          obtain ⟨p, hp⟩ : ∃ p, rows.getD k [] = p := ⟨_, rfl⟩
          obtain ⟨x, hx⟩ : ∃ x, found2.getD j [] = x := ⟨_, rfl⟩
          have hxf : Gen n rows x := by rw [← hx]; exact HS.out.gen _ (getD_mem _ _ _ (by rw [hfe2]; exact hjf2))
          have hpl : p.length = n := by rw [← hp]; exact (HG.out k (by rw [HM.out]; exact hkm)).1
          have hpp : Prm p := by rw [← hp]; exact (HG.out k (by rw [HM.out]; exact hkm)).2
          have hxl : x.length = n := (gen_prm h1 h12 HG.out hxf).1
          have hxp : Prm x := (gen_prm h1 h12 HG.out hxf).2
          have HRP : Hid (∃ b o Ak ck, A = some ⟨b, o, none⟩ ∧ b < wr.heap.size ∧ wr.cell? ⟨b, o + k, none⟩ = some (.slice Ak n ck) ∧ Rd wr Ak p) := hide (by
            obtain ⟨b, o, e1, e2, e3⟩ := (HR.out.later HB.out) (by rw [HM.out]; omega)
            obtain ⟨Ak, ck, e4, e5⟩ := e3 k (by rw [HM.out]; exact hkm)
            rw [hp] at e4 e5
            rw [hpl] at e4
            exact ⟨b, o, Ak, ck, e1, e2, e4, e5⟩)
          have HRX : Hid (∃ b o Ak ck, Ag2 = some ⟨b, o, none⟩ ∧ b < wr.heap.size ∧ wr.cell? ⟨b, o + j, none⟩ = some (.slice Ak n ck) ∧ Rd wr Ak x) := hide (by
            obtain ⟨b, o, e1, e2, e3⟩ := ho2.rd (by rw [hfe2]; omega)
            obtain ⟨Ak, ck, e4, e5⟩ := e3 j (by rw [hfe2]; exact hjf2)
            rw [hx] at e4 e5
            rw [hxl] at e4
            exact ⟨b, o, Ak, ck, e1, e2, e4, e5⟩)
          clear ho2 hfe2
          have HX := hide hx
          have HP := hide hp
          have HXF := hide hxf
          have HPP := hide hpp
          have HXP := hide hxp
          have HPL := hide hpl
          have HXL := hide hxl
          clear hx hp hxf hpp hxp hpl hxl
          obtain ⟨bP, oP, AP, cP, eP1, eP2, eP3, eP4⟩ := HRP.out
          obtain ⟨bX, oX, AX, cX, eX1, eX2, eX3, eX4⟩ := HRX.out
          have HRP4 := hide eP4
          have HRX4 := hide eX4
          clear eP4 eX4 HRP HRX
          subst eP1
          subst eX1
          have HRNG : Hid (∀ y : List Int, y.length = n → Prm y → ∀ z ∈ y, 0 ≤ z ∧ z < (n : Int)) := hide (fun y hy hq z hz => by have h := hq.2.2.1 z hz; rw [hy] at h; exact h)
          go_wp2_with fail
          refine (then_any' AX AP n cX n cP x p _ HXL.out HPL.out (by omega) (by omega) HRX4.out HRP4.out (HRNG.out _ HXL.out HXP.out)).mono ?_
          rintro e w6 ⟨A6, c6, rfl, hb6, hres6⟩
          have HR6 := hide hres6
          have HB6 := hide hb6
          clear hb6 hres6
          obtain ⟨q, hq⟩ : ∃ q, thenL x p = q := ⟨_, rfl⟩
          have hql : q.length = n := by rw [← hq, thenL_length]; exact HXL.out
          have hqp : Prm q := by rw [← hq]; exact then_prm HXL.out HXP.out HPL.out HPP.out
          rw [hq] at HR6
          have HQ := hide hq
          have HQL := hide hql
          have HQP := hide hqp
          clear hq hql hqp
          go_wp2_with fail
          refine (text_any A6 n c6 q _ HQL.out (by omega) HR6.out.rd (fun z hz => by have h := HRNG.out _ HQL.out HQP.out z hz; omega)).mono ?_
          rintro e w7 ⟨rfl, hb7⟩
          have HB7 := hide hb7
          clear hb7
          have HMK7 := hide ((HMK.out.later HB6.out).later HB7.out)
          have HL7 := hide ((HL.out.later HB6.out).later HB7.out)
          have HB7w := hide ((HB.out.trans (HB6.out.mono HB.out.size)).trans (HB7.out.mono (HB.out.trans (HB6.out.mono HB.out.size)).size))
          have HR7 := hide (HR6.out.later HB7.out).obj
          have HLOW := hide HL.out.low
          have hwr0 := HB.out.size
          clear HL HMK HR6 HB
          have hlook := MapK.look upKeyed HMK7.out Try.underlying116 (z := .bool false) (by kernel_rfl) (upKey (lineS q) (by rw [lineS_size, HQL.out]; unfold maxLen; omega))
          rw [seenV_at (fun p hp => fun x hx => by have h := gen_prm h1 h12 HG.out (HS.out.gen p hp); have h2 := HRNG.out _ h.1 h.2 x hx; omega) (fun z hz => by have h := HRNG.out _ HQL.out HQP.out z hz; omega)] at hlook
          have HQT : Hid (thenL (found2.getD j []) (rows.getD k []) = q) := hide (by rw [HX.out, HP.out]; exact HQ.out)
          by_cases hin : q ∈ found2
          · have HIN := hide hin
            rw [decide_eq_true hin] at hlook
            clear hin
            go_wp2_with fail
            go_roundw
            case rel =>
              exact ⟨k + 1, found2, vals2, by omega, by go_num, by rw [HFE.out]; exact hjf2, HS.out.keep (by rw [HQT.out]; exact HIN.out), by rw [HFE.out]; exact hfl2, HB7w.out, by have h := HL7.out; first | exact h | (rw [HFE.out]; exact h) | (rw [← HFE.out] at h; exact h), HMK7.out⟩
            case measure => simp [intOf]; omega
          · have HIN := hide hin
            rw [decide_eq_false hin] at hlook
            clear hin
            by_cases hfull : fl2 = limit
            · subst hfull
              go_wp2_with fail
              go_ret2
              refine .inr ⟨not_atMost HS.out.nd HS.out.gen (by rw [← HQT.out]; exact HS.out.made (by rw [HFE.out]; exact hjf2) (by rw [HM.out]; exact hkm)) HIN.out (by rw [HFE.out]; exact Nat.le_refl _), rfl, HB7w.out⟩
            · have hfz : ((fl2 : Int) == (limit : Int)) = false := by simp; omega
              obtain ⟨w8, hup, hm8, hg8⟩ := MapK.update upKeyed HMK7.out Try.underlying116 (by rw [HFE.out]; unfold maxLen; omega) (upKey (lineS q) (by rw [lineS_size, HQL.out]; unfold maxLen; omega)) (.bool true)
              have hlt7 := HMK7.out.lt
              have HB8 : Hid (Below w.heap.size w w8) := hide (HB7w.out.grown hg8 HB7w.out.size (fun g hg => by injection hg with hg; omega))
              have HL8 := hide (HL7.out.off HMK7.out.isMap hg8)
              have HQ8 : Hid (Obj1 2 wr.heap.size w8.heap.size w8 A6 q) := hide ((HR7.out.off HMK7.out.isMap hg8).mono (Nat.le_refl _) hg8.size)
              have HM8 : Hid (MapK 9 w8 bm (found2.length + 1) (seenV (found2 ++ [q]))) := hide (hm8.congr (fun k => seenV_add found2 q k))
              clear hm8 hg8 HB7w HL7 HMK7 HR7
              have HOW : Hid (w8.ownsRow w.heap.size 26 1 (.slice (some ⟨bX, oX, none⟩) fl2 cg2) fl2 vals2) := hide (by have h := HL8.out.own; rw [HFE.out] at h; exact h)
              have hs8 := HB8.out.size
              go_wp2_with (at_builtin; refine wpList_append_own _ rfl _ _ 22 rfl w.heap.size 26 i2 (.slice none 0 0) 1 24 Try.underlying22 hj hy0 hy1 hy2 rfl (by decide) _ _ _ rfl (HOW.out.alloc _) ⟨w8.heap.size, 0, none⟩ 1 1 [.slice A6 n c6] rfl rfl ?c1 ?c2 ?c3 ?c4 ?c5 ?_)
              case c1 => exact ne_new
              case c2 => intro u hu; simp at hu; subst hu; rfl
              case c3 => unfold maxLen; omega
              case c4 => omega
              case c5 => simp; omega
              intro v' w9 hown9 hgrow9 _
              have HO9 := hide hown9
              have HG9 := hide hgrow9
              clear hown9 hgrow9 hup hlook
              go_wp2_with fail
              go_roundw
              case rel =>
                have hB9 : Below w.heap.size w w9 := (HB8.out.alloc hs8 _).grown HG9.out (by simp; omega) (fun g hg => (HOW.out.alloc (.cells #[.slice A6 n c6] 26)).lt g hg |>.1)
                have hwr : w.heap.size ≤ wr.heap.size := hwr0
                have hpush := LstV.push2 (tmp := .cells #[.slice A6 n c6] 26) (A := A6) (c := c6) (r := q) (w1 := w9) (v' := v') (by decide) HL8.out (HQ8.out.mono hwr (Nat.le_refl _)) (fun i u g hu hg a ha => by have h1 := HLOW.out i u g hu hg; have h2 := (HQ8.out.bounds a ha).1; omega) (by rw [HQL.out, HFE.out]; exact HO9.out) (HG9.out)
                have hmk9 := HM8.out.off HL8.out (HG9.out)
                refine ⟨k + 1, found2 ++ [q], _, by omega, by go_num, by have h := HFE.out; simp; omega, by have h := HS.out.push (by rw [HFE.out]; exact hjf2) (by rw [HM.out]; exact hkm) (by rw [HQT.out]; exact HIN.out); rw [HQT.out] at h; exact h, by have h := HFE.out; simp; omega, hB9, hpush, by rw [List.length_append]; exact hmk9⟩
              case measure => simp [intOf]; omega
        · have hkm2 : k = m := by omega
          subst hkm2
          go_wp2_with fail
          go_roundw
          case rel =>
            exact ⟨j + 1, found2, vals2, by rw [HFE.out]; omega, by go_num, by have h := HS.out; rw [← HM.out] at h; exact h.next, by rw [HFE.out]; exact hfl2, HB.out, by have h := HL.out; first | exact h | (rw [HFE.out]; exact h) | (rw [← HFE.out] at h; exact h), HMK.out⟩
          case measure => simp [intOf]; omega
    · have hje : j = fl := by omega
      subst hje
      rw [hfe]
      have HSF := (show Enu n rows found from by have h := HS.out; rw [← HFE.out] at h; exact h.fin)
      clear hfe
      go_wp2_with fail
      go_ret2
      exact .inl ⟨found, vals, _, HSF, by rw [HFE.out]; exact hfl, rfl, HB.out, by have h := HL.out; first | exact h | (rw [HFE.out] at h; exact h)⟩
end Go.Proofs.Ytgmloaemnbnbgaa
namespace Go.Proofs.Ytgmloaemnbnbgaa
open Go Go.RowKit
/-! A queue of rows that grows, and beside it a list of the same rows in order. -/
theorem ins_at {α : Type} (l : List α) (k : Nat) (x : α) (hk : k ≤ l.length) (i : Nat) : (l.take k ++ x :: l.drop k)[i]? = if i < k then l[i]? else if i = k then some x else l[i - 1]? := by
  rw [List.getElem?_append, List.length_take, Nat.min_eq_left hk]
  by_cases h : i < k
  · rw [if_pos h, if_pos h, List.getElem?_take, if_pos h]
  · rw [if_neg h, if_neg h]
    by_cases e : i = k
    · subst e; simp
    · rw [if_neg e, show i - k = (i - 1 - k) + 1 by omega, List.getElem?_cons_succ, List.getElem?_drop, show k + (i - 1 - k) = i - 1 by omega]
theorem insL_at (l : List (List Int)) (k : Nat) (p : List Int) (hk : k ≤ l.length) (i : Nat) : (insL l k p).getD i [] = if i < k then l.getD i [] else if i = k then p else l.getD (i - 1) [] := by
  rw [List.getD_eq_getElem?_getD, insL, ins_at l k p hk i]
  by_cases h : i < k
  · rw [if_pos h, if_pos h, List.getD_eq_getElem?_getD]
  · rw [if_neg h, if_neg h]
    by_cases e : i = k
    · rw [if_pos e, if_pos e]; rfl
    · rw [if_neg e, if_neg e, List.getD_eq_getElem?_getD]
section
variable {ts t : TypeId} {B : Nat} {w w' w1 : World} {v v' vq vs : Value} {rows queue srt : List (List Int)} {vals qvals svals : List Value}
/-- The values are slices that read as the rows. -/
def RowsV (t : TypeId) (B : Nat) (w : World) (rows : List (List Int)) (vals : List Value) : Prop :=
  vals.length = rows.length ∧ ∀ i, i < rows.length → ∃ A c, vals[i]? = some (.slice A (rows.getD i []).length c) ∧ Obj1 t B w.heap.size w A (rows.getD i [])
theorem RowsV.kept (h : RowsV t B w rows vals) (hk : KeepT t w w') (hs : w.heap.size ≤ w'.heap.size) : RowsV t B w' rows vals :=
  ⟨h.1, fun i hi => by
    obtain ⟨A, c, h1, h2⟩ := h.2 i hi
    exact ⟨A, c, h1, (hk.obj h2).mono (Nat.le_refl _) hs⟩⟩
theorem RowsV.ins {A : Option Addr} {c k : Nat} {r : List Int} (h : RowsV t B w rows vals) (hk : k ≤ rows.length) (hA : Obj1 t B w.heap.size w A r) : RowsV t B w (insL rows k r) (vals.take k ++ .slice A r.length c :: vals.drop k) := by
  refine ⟨by simp [insL, h.1], fun i hi => ?_⟩
  rw [insL_length] at hi
  rw [insL_at _ _ _ hk, ins_at _ _ _ (by rw [h.1]; exact hk)]
  by_cases h1 : i < k
  · rw [if_pos h1, if_pos h1]
    exact h.2 i (by omega)
  · rw [if_neg h1, if_neg h1]
    by_cases h2 : i = k
    · rw [if_pos h2, if_pos h2]
      exact ⟨A, c, rfl, hA⟩
    · rw [if_neg h2, if_neg h2]
      exact h.2 (i - 1) (by omega)
/-- The queue and the sorted list. -/
structure Qs (ts t : TypeId) (B : Nat) (w : World) (vq vs : Value) (queue srt : List (List Int)) (qvals svals : List Value) : Prop where
  q : LstV ts t B w vq queue qvals
  s : w.ownsRow B ts 1 vs srt.length svals
  r : RowsV t B w srt svals
  d : ∀ g, vq.ownBlock = some g → vs.ownBlock ≠ some g
theorem Qs.later (h : Qs ts t B w vq vs queue srt qvals svals) (hb : Below w.heap.size w w') : Qs ts t B w' vq vs queue srt qvals svals :=
  ⟨h.q.later hb, ownsRow_below h.s hb, h.r.kept (KeepT.of_below hb) hb.size, h.d⟩
theorem Qs.slen (h : Qs ts t B w vq vs queue srt qvals svals) : svals.length = srt.length := h.r.1
/-- How the sorted list looks. -/
theorem Qs.look (h : Qs ts t B w vq vs queue srt qvals svals) (h0 : 0 < srt.length) : ∃ g c, vs = .slice (some ⟨g, 0, none⟩) srt.length c ∧ srt.length ≤ c ∧ c ≤ maxLen ∧ g < w.heap.size ∧ (∀ i u, svals[i]? = some u → w.cell? ⟨g, i, none⟩ = some u) ∧ Rd2 w (some ⟨g, 0, none⟩) srt := by
  rcases h.s.2 with ⟨_, h2⟩ | ⟨g, cap, cur, hv, hg, hh, h1, h2, h3, h4⟩
  · omega
  · have hc : ∀ i u, svals[i]? = some u → w.cell? ⟨g, i, none⟩ = some u := by
      intro i u hu
      rw [cell_of_row w g i cur ts (0, 0) hh]
      rw [← h4, List.getElem?_take] at hu
      by_cases e : i < srt.length * 1
      · rw [if_pos e] at hu; simpa using hu
      · rw [if_neg e] at hu; cases hu
    refine ⟨g, cap, hv, h1, h2, (Array.getElem?_eq_some_iff.1 hh).1, hc, fun _ => ⟨g, 0, rfl, (Array.getElem?_eq_some_iff.1 hh).1, fun i hi => ?_⟩⟩
    obtain ⟨A, c, e1, e2⟩ := h.r.2 i hi
    exact ⟨A, c, by rw [Nat.zero_add]; exact hc i _ e1, e2.rd⟩
theorem own_lt {n : Nat} {xs : List Value} (h : w.ownsRow B ts 1 v n xs) {g : Nat} (hg : v.ownBlock = some g) : B ≤ g ∧ g < w.heap.size := by
  rcases h.2 with ⟨hv, _⟩ | ⟨g', cap, cur, hv, hb, hh, _⟩
  · subst hv; simp [Value.ownBlock] at hg
  · subst hv
    simp [Value.ownBlock] at hg
    subst hg
    exact ⟨hb, (Array.getElem?_eq_some_iff.1 hh).1⟩
/-- A new sorted list in memory of its own, with one row more. -/
theorem Qs.sorted {A : Option Addr} {c k n : Nat} {p : List Int} (h : Qs ts t B w vq vs queue srt qvals svals) (hb : Below w.heap.size w w') (hB : B ≤ w.heap.size) (hk : k ≤ srt.length) (hA : Obj1 t B w'.heap.size w' A p) (hn : n = (insL srt k p).length)
    (hown : w'.ownsRow w.heap.size ts 1 v' n (svals.take k ++ .slice A p.length c :: svals.drop k)) : Qs ts t B w' vq v' queue (insL srt k p) qvals (svals.take k ++ .slice A p.length c :: svals.drop k) := by
  have h2 := h.later hb
  refine ⟨h2.q, ?_, h2.r.ins hk hA, fun g hg e => ?_⟩
  · subst hn
    refine ⟨hown.1, ?_⟩
    rcases hown.2 with h3 | ⟨g, cap, cur, hv, hg, rest⟩
    · exact .inl h3
    · exact .inr ⟨g, cap, cur, hv, Nat.le_trans hB hg, rest⟩
  · have h3 := (own_lt h.q.own hg).2
    have h4 := (own_lt hown e).1
    omega
/-- The row is put at the end of the queue. -/
theorem Qs.queued {A : Option Addr} {c : Nat} {p : List Int} {tmp : Obj} (hne : ts ≠ t) (h : Qs ts t B w vq vs queue srt qvals svals) (hA : Obj1 t B w.heap.size w A p)
    (hdis : ∀ (i : Nat) (u : Value) (g : Nat), qvals[i]? = some u → u.ownBlock = some g → ∀ a, A = some a → a.block ≠ g)
    (hown : w1.ownsRow B ts 1 v' (queue.length + 1) (qvals ++ [.slice A p.length c])) (hg : (w.alloc tmp).grownBy w1 vq.ownBlock) (hat : v'.ownBlock = vq.ownBlock ∨ v'.ownBlock = some (w.alloc tmp).heap.size) :
    Qs ts t B w1 v' vs (queue ++ [p]) srt (qvals ++ [.slice A p.length c]) svals := by
  have hal : Below w.heap.size w (w.alloc tmp) := (Below.refl _ _).alloc (Nat.le_refl _) _
  have hk : KeepT t w w1 := (KeepT.of_below hal).trans (KeepT.of_grown hne (ownsRow_below h.q.own hal) hg)
  have hsz1 : w.heap.size ≤ w1.heap.size := Nat.le_trans hal.size hg.size
  have hvs : vs.ownBlock = none ∨ vs.ownBlock ≠ vq.ownBlock := by
    cases e : vs.ownBlock with
    | none => exact .inl rfl
    | some g => exact .inr (fun e2 => h.d g e2.symm e)
  refine ⟨h.q.push2 hne hA hdis hown hg, (ownsRow_below h.s hal).kept hg hvs, h.r.kept hk hsz1, fun g hg1 e => ?_⟩
  rcases hat with e2 | e2
  · exact h.d g (e2 ▸ hg1) e
  · rw [hg1] at e2
    injection e2 with e2
    have := (own_lt h.s e).2
    simp at e2
    omega
end
end Go.Proofs.Ytgmloaemnbnbgaa
