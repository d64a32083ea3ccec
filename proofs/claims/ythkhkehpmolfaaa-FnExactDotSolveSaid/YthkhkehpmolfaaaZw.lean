import Derived.Test.YthkhkehpmolfaaaZu
import Derived.Test.YthkhkehpmolfaaaZd
import Derived.Test.YthkhkehpmolfaaaZf
import Derived.WalkSpells
namespace Go.Proofs.Ythkhkehpmolfaaa
open Go Go.RowKit
set_option maxHeartbeats 2000000

set_option maxRecDepth 100000 in
theorem dfC_any (A : Option Addr) (n c : Nat) (f : List (List Int)) (b : Nat) (w : World) (hn : f.length = n) (ht : Tbl f) (hr : Rd2 w A f) (hk : Blk w b 54 [.slice A n c]) :
    BoolFn3 Try.prog 93 #[.pointer (some ⟨b, 0, none⟩)] n (cyq f) w := by
  intro W x y z hx hy hz hb
  have HR := hide (hr.later hb)
  have HKc := hide (hk.later hb)
  have HBc := hide (Below.refl W.heap.size W)
  have HN := hide hn
  have HTB := hide ht
  show Calls Try.prog 93 #[.int .i64 x, .int .i64 y, .int .i64 z, .pointer (some ⟨b, 0, none⟩)] W _
  clear hn ht hr hk hb
  have hq1 := HTB.out.ap_lt HN.out hx hy
  have hq3 := HTB.out.ap_lt HN.out hy hx
  have hq2 := HTB.out.ap_lt HN.out hx hz
  have hq4 := HTB.out.ap_lt HN.out hy hz
  obtain ⟨bq, hat⟩ : ∃ bq, cyq f x y z = bq := ⟨_, rfl⟩
  rw [hat]
  unfold cyq at hat
  obtain ⟨q1, h_1⟩ : ∃ u, ap f x y = u := ⟨_, rfl⟩
  obtain ⟨q2, h_2⟩ : ∃ u, ap f x z = u := ⟨_, rfl⟩
  obtain ⟨q3, h_3⟩ : ∃ u, ap f y x = u := ⟨_, rfl⟩
  obtain ⟨q4, h_4⟩ : ∃ u, ap f y z = u := ⟨_, rfl⟩
  rw [h_1, h_2, h_3, h_4] at hat
  rw [h_1] at hq1
  rw [h_2] at hq2
  rw [h_3] at hq3
  rw [h_4] at hq4
  obtain ⟨q5, h_5⟩ : ∃ u, ap f q1 q2 = u := ⟨_, rfl⟩
  obtain ⟨q6, h_6⟩ : ∃ u, ap f q3 q4 = u := ⟨_, rfl⟩
  rw [h_5, h_6] at hat
  have HAT : Hid ((!decide (q5 = q6)) = bq) := hide hat
  have U1 := hide h_1
  have U2 := hide h_2
  have U3 := hide h_3
  have U4 := hide h_4
  have U5 := hide h_5
  have U6 := hide h_6
  clear h_1 h_2 h_3 h_4 h_5 h_6 hat
  have k0 := HKc.out.cell 0 _ rfl
  have tok0 : True := trivial
  have tok1 : True := trivial
  have tok2 : True := trivial
  have tok3 : True := trivial
  have tok4 : True := trivial
  go_enter Try.func93, Try.ntmps93
  by_cases hcs : q5 = q6
  · have hbq : bq = false := by rw [← HAT.out, hcs]; simp
    subst hcs
    subst hbq
    go_wp2_with fail
    go_region_held3 (fun w' => w'.cell? ⟨b, 0, none⟩ = some (.slice A n c)) (first | exact k0 | go_keep) (first | (go_at_call 82; have _t := tok0; clear _t tok0; go_must (refine calls_gen fun wc hwc => ?_; (first | have hbx := drew_below hwc | have hbx := eq_below hwc); replace HBc := hide (HBc.out.trans (hbx.mono HBc.out.size)); replace HKc := hide (HKc.out.later hbx); clear hwc hbx; refine (dot_any _ _ _ f x y q1 _ HN.out HTB.out (HR.out.later HBc.out) hx hy U1.out).mono ?_; rintro e wd ⟨rfl, hbd⟩; replace HBc := hide (HBc.out.trans (hbd.mono HBc.out.size)); replace HKc := hide (HKc.out.later hbd); clear hbd; have k0 := HKc.out.cell 0 _ rfl)) | (go_at_call 82; have _t := tok1; clear _t tok1; go_must (refine calls_gen fun wc hwc => ?_; (first | have hbx := drew_below hwc | have hbx := eq_below hwc); replace HBc := hide (HBc.out.trans (hbx.mono HBc.out.size)); replace HKc := hide (HKc.out.later hbx); clear hwc hbx; refine (dot_any _ _ _ f x z q2 _ HN.out HTB.out (HR.out.later HBc.out) hx hz U2.out).mono ?_; rintro e wd ⟨rfl, hbd⟩; replace HBc := hide (HBc.out.trans (hbd.mono HBc.out.size)); replace HKc := hide (HKc.out.later hbd); clear hbd; have k0 := HKc.out.cell 0 _ rfl)) | (go_at_call 82; have _t := tok2; clear _t tok2; go_must (refine calls_gen fun wc hwc => ?_; (first | have hbx := drew_below hwc | have hbx := eq_below hwc); replace HBc := hide (HBc.out.trans (hbx.mono HBc.out.size)); replace HKc := hide (HKc.out.later hbx); clear hwc hbx; refine (dot_any _ _ _ f q1 q2 q5 _ HN.out HTB.out (HR.out.later HBc.out) hq1 hq2 U5.out).mono ?_; rintro e wd ⟨rfl, hbd⟩; replace HBc := hide (HBc.out.trans (hbd.mono HBc.out.size)); replace HKc := hide (HKc.out.later hbd); clear hbd; have k0 := HKc.out.cell 0 _ rfl)) | (go_at_call 82; have _t := tok3; clear _t tok3; go_must (refine calls_gen fun wc hwc => ?_; (first | have hbx := drew_below hwc | have hbx := eq_below hwc); replace HBc := hide (HBc.out.trans (hbx.mono HBc.out.size)); replace HKc := hide (HKc.out.later hbx); clear hwc hbx; refine (dot_any _ _ _ f y x q3 _ HN.out HTB.out (HR.out.later HBc.out) hy hx U3.out).mono ?_; rintro e wd ⟨rfl, hbd⟩; replace HBc := hide (HBc.out.trans (hbd.mono HBc.out.size)); replace HKc := hide (HKc.out.later hbd); clear hbd; have k0 := HKc.out.cell 0 _ rfl)) | (go_at_call 82; have _t := tok4; clear _t tok4; go_must (refine calls_gen fun wc hwc => ?_; (first | have hbx := drew_below hwc | have hbx := eq_below hwc); replace HBc := hide (HBc.out.trans (hbx.mono HBc.out.size)); replace HKc := hide (HKc.out.later hbx); clear hwc hbx; refine (dot_any _ _ _ f y z q4 _ HN.out HTB.out (HR.out.later HBc.out) hy hz U4.out).mono ?_; rintro e wd ⟨rfl, hbd⟩; replace HBc := hide (HBc.out.trans (hbd.mono HBc.out.size)); replace HKc := hide (HKc.out.later hbd); clear hbd; have k0 := HKc.out.cell 0 _ rfl)) | (go_at_call 82; go_must (refine calls_gen fun wc hwc => ?_; (first | have hbx := drew_below hwc | have hbx := eq_below hwc); replace HBc := hide (HBc.out.trans (hbx.mono HBc.out.size)); replace HKc := hide (HKc.out.later hbx); clear hwc hbx; refine (dot_any _ _ _ f q3 q4 q5 _ HN.out HTB.out (HR.out.later HBc.out) hq3 hq4 U6.out).mono ?_; rintro e wd ⟨rfl, hbd⟩; replace HBc := hide (HBc.out.trans (hbd.mono HBc.out.size)); replace HKc := hide (HKc.out.later hbd); clear hbd; have k0 := HKc.out.cell 0 _ rfl)))
    go_wp2_with fail
    go_ret
    exact ⟨rfl, HBc.out⟩
  · have hbq : bq = true := by rw [← HAT.out]; simp [hcs]
    have hcz : ((q5 : Int) != (q6 : Int)) = true := by rw [bne_iff_ne]; omega
    subst hbq
    go_wp2_with fail
    go_region_held3 (fun w' => w'.cell? ⟨b, 0, none⟩ = some (.slice A n c)) (first | exact k0 | go_keep) (first | (go_at_call 82; have _t := tok0; clear _t tok0; go_must (refine calls_gen fun wc hwc => ?_; (first | have hbx := drew_below hwc | have hbx := eq_below hwc); replace HBc := hide (HBc.out.trans (hbx.mono HBc.out.size)); replace HKc := hide (HKc.out.later hbx); clear hwc hbx; refine (dot_any _ _ _ f x y q1 _ HN.out HTB.out (HR.out.later HBc.out) hx hy U1.out).mono ?_; rintro e wd ⟨rfl, hbd⟩; replace HBc := hide (HBc.out.trans (hbd.mono HBc.out.size)); replace HKc := hide (HKc.out.later hbd); clear hbd; have k0 := HKc.out.cell 0 _ rfl)) | (go_at_call 82; have _t := tok1; clear _t tok1; go_must (refine calls_gen fun wc hwc => ?_; (first | have hbx := drew_below hwc | have hbx := eq_below hwc); replace HBc := hide (HBc.out.trans (hbx.mono HBc.out.size)); replace HKc := hide (HKc.out.later hbx); clear hwc hbx; refine (dot_any _ _ _ f x z q2 _ HN.out HTB.out (HR.out.later HBc.out) hx hz U2.out).mono ?_; rintro e wd ⟨rfl, hbd⟩; replace HBc := hide (HBc.out.trans (hbd.mono HBc.out.size)); replace HKc := hide (HKc.out.later hbd); clear hbd; have k0 := HKc.out.cell 0 _ rfl)) | (go_at_call 82; have _t := tok2; clear _t tok2; go_must (refine calls_gen fun wc hwc => ?_; (first | have hbx := drew_below hwc | have hbx := eq_below hwc); replace HBc := hide (HBc.out.trans (hbx.mono HBc.out.size)); replace HKc := hide (HKc.out.later hbx); clear hwc hbx; refine (dot_any _ _ _ f q1 q2 q5 _ HN.out HTB.out (HR.out.later HBc.out) hq1 hq2 U5.out).mono ?_; rintro e wd ⟨rfl, hbd⟩; replace HBc := hide (HBc.out.trans (hbd.mono HBc.out.size)); replace HKc := hide (HKc.out.later hbd); clear hbd; have k0 := HKc.out.cell 0 _ rfl)) | (go_at_call 82; have _t := tok3; clear _t tok3; go_must (refine calls_gen fun wc hwc => ?_; (first | have hbx := drew_below hwc | have hbx := eq_below hwc); replace HBc := hide (HBc.out.trans (hbx.mono HBc.out.size)); replace HKc := hide (HKc.out.later hbx); clear hwc hbx; refine (dot_any _ _ _ f y x q3 _ HN.out HTB.out (HR.out.later HBc.out) hy hx U3.out).mono ?_; rintro e wd ⟨rfl, hbd⟩; replace HBc := hide (HBc.out.trans (hbd.mono HBc.out.size)); replace HKc := hide (HKc.out.later hbd); clear hbd; have k0 := HKc.out.cell 0 _ rfl)) | (go_at_call 82; have _t := tok4; clear _t tok4; go_must (refine calls_gen fun wc hwc => ?_; (first | have hbx := drew_below hwc | have hbx := eq_below hwc); replace HBc := hide (HBc.out.trans (hbx.mono HBc.out.size)); replace HKc := hide (HKc.out.later hbx); clear hwc hbx; refine (dot_any _ _ _ f y z q4 _ HN.out HTB.out (HR.out.later HBc.out) hy hz U4.out).mono ?_; rintro e wd ⟨rfl, hbd⟩; replace HBc := hide (HBc.out.trans (hbd.mono HBc.out.size)); replace HKc := hide (HKc.out.later hbd); clear hbd; have k0 := HKc.out.cell 0 _ rfl)) | (go_at_call 82; go_must (refine calls_gen fun wc hwc => ?_; (first | have hbx := drew_below hwc | have hbx := eq_below hwc); replace HBc := hide (HBc.out.trans (hbx.mono HBc.out.size)); replace HKc := hide (HKc.out.later hbx); clear hwc hbx; refine (dot_any _ _ _ f q3 q4 q6 _ HN.out HTB.out (HR.out.later HBc.out) hq3 hq4 U6.out).mono ?_; rintro e wd ⟨rfl, hbd⟩; replace HBc := hide (HBc.out.trans (hbd.mono HBc.out.size)); replace HKc := hide (HKc.out.later hbd); clear hbd; have k0 := HKc.out.cell 0 _ rfl)))
    go_wp2_with fail
    go_ret
    exact ⟨rfl, HBc.out⟩

set_option maxRecDepth 100000 in
theorem dfault_any (A : Option Addr) (n c : Nat) (f : List (List Int)) (T : Nat) (w : World) (hn : f.length = n) (ht : Tbl f) (hr : Rd2 w A f) (hT : FirstQ (cyq f) n T) :
    Calls Try.prog 55 #[.slice A n c] w fun e w' => (T = n * n * n ∧ e = .returned (.slice none 0 0) ∧ Below w.heap.size w w') ∨ (T < n * n * n ∧ ∃ g, e = .returned (.slice (some ⟨g, 0, none⟩) 3 3) ∧ Below w.heap.size w w' ∧ w.heap.size ≤ g ∧ OwnB 2 w' g (lst3 (trip n T))) := by
  have h1 : 1 ≤ n := by rw [← hn]; exact ht.1
  have h12 : n ≤ 12 := by rw [← hn]; exact ht.2.1
  have HN := hide hn
  have HTB := hide ht
  have HR := hide hr
  have HT := hide hT
  have HB0 := hide ((Below.refl _ w).alloc (Nat.le_refl _) (Obj.cells #[Value.slice A n c] 54))
  have HK0 := hide (Blk.new w 54 [.slice A n c])
  clear hn ht hr hT
  go_enter Try.func55, Try.ntmps55
  go_wp2_with fail
  refine (dsize_any _ _ _ _ (by omega)).mono ?_
  rintro e w2 ⟨rfl, hb2⟩
  have HB2 := hide (HB0.out.trans (hb2.mono HB0.out.size))
  have HK2 := hide (HK0.out.later hb2)
  clear hb2
  go_wp2_with fail
  refine (firstTriple_any 93 _ n (cyq f) T _ (fun _ _ => rfl) h1 h12 (dfC_any A n c f w.heap.size _ HN.out HTB.out (HR.out.later HB2.out) HK2.out) HT.out).mono ?_
  rintro e w3 (⟨hTe, rfl, hb3⟩ | ⟨hTl, g, rfl, hb3, hg, hob⟩)
  · have HB3 := hide (HB2.out.trans (hb3.mono HB2.out.size))
    clear hb3
    go_wp2_with fail
    go_ret
    exact .inl ⟨hTe, rfl, HB3.out⟩
  · have HB3 := hide (HB2.out.trans (hb3.mono HB2.out.size))
    have HO3 := hide hob
    have hlo : w.heap.size ≤ g := by have := HB2.out.size; omega
    clear hb3 hob
    go_wp2_with fail
    go_ret
    exact .inr ⟨hTl, _, rfl, HB3.out, hlo, HO3.out⟩

set_option maxRecDepth 100000 in
theorem isCycD (A : Option Addr) (n c : Nat) (f : List (List Int)) (r : Bool) (w : World) (hn : f.length = n) (hb : n ≤ 1048576) (hbs : ∀ i, i < f.length → (f.getD i []).length ≤ 1048576) (hr : Rd2 w A f) (hres : CyRes f r) :
    Calls Try.prog 50 #[.slice A n c] w fun e w' => e = .returned (.bool r) ∧ Below w.heap.size w w' := by
  have HN := hide hn
  have HBS := hide hbs
  have HRD := hide hr
  have HR := hide hres
  have HB0 := hide (Below.refl w.heap.size w)
  have hnil : ∀ (u : World) (a : Option Addr) (n c : Nat), (binOp .eql 31 (.slice a n c) (.slice none 0 0)).run Try.prog u = .ok (.bool a.isNone) u := fun u a n c => Lib.run_eql_slice_nil u 31 _ a n c 0 0 Try.underlying31
  have hno : ¬ Cyc f → r = false := fun h => by
    cases r
    · rfl
    · exact absurd (hres.1 rfl) h
  have HNO := hide hno
  have hyes : Cyc f → r = true := fun h => hres.2 h
  have HYES := hide hyes
  clear hno hyes hn hbs hr hres
  by_cases ht : Tbl f
  · have HTB := hide ht
    clear ht
    have h12 : n ≤ 12 := by rw [← HN.out]; exact HTB.out.2.1
    go_enter Try.func50, Try.ntmps50
    go_wp2_with fail
    refine (isTable_any _ _ _ f true _ HN.out (by omega) (fun i hi => by have := HBS.out i hi; omega) (HRD.out.later HB0.out) (by simp [HTB.out])).mono ?_
    rintro e w1 ⟨rfl, hq1⟩
    have HB1 := hide (HB0.out.trans (hq1.below _))
    clear hq1
    by_cases hp : AllPrm f
    · have HP := hide hp
      clear hp
      go_wp2_with fail
      refine (rowsI_any _ _ _ f true _ HN.out hb HBS.out (HRD.out.later HB1.out) ⟨fun _ => HP.out, fun _ => rfl⟩).mono ?_
      rintro e w2 ⟨rfl, hb2⟩
      have HB2 := hide (HB1.out.trans (hb2.mono HB1.out.size))
      clear hb2
      go_wp2_with fail
      refine (squares_any _ _ _ f _ HN.out HTB.out (HRD.out.later HB2.out)).mono ?_
      rintro e w3 ⟨g3, rfl, hb3, hg3, hres3⟩
      have HB3 := hide (HB2.out.trans (hb3.mono HB2.out.size))
      have HS3 := hide hres3.rd
      clear hb3 hres3
      by_cases hs : Prm (kinkL f)
      · have HS := hide hs
        clear hs
        go_wp2_with fail
        refine (valid_any _ _ _ (kinkL f) true _ ((kinkL_length f).trans HN.out) (by omega) HS3.out (by simp [HS.out])).mono ?_
        rintro e w4 ⟨rfl, hb4⟩
        have HB4 := hide (HB3.out.trans (hb4.mono HB3.out.size))
        clear hb4
        go_wp2_with fail
        obtain ⟨T, hT⟩ := FirstQ.ex (cyq f) n
        have HT := hide hT
        clear hT
        refine (dfault_any _ _ _ f T _ HN.out HTB.out (HRD.out.later HB4.out) HT.out).mono ?_
        rintro e w5 (⟨hTe, rfl, hb5⟩ | ⟨hTl, g, rfl, hb5, hg, hob⟩)
        · have hrt : r = true := HYES.out ⟨⟨HTB.out, HP.out⟩, HS.out, by rw [HN.out]; exact HT.out.iff.1 hTe⟩
          subst hrt
          have HB5 := hide (HB4.out.trans (hb5.mono HB4.out.size))
          clear hb5 hTe
          go_wp2_with fail
          go_ret
          exact ⟨rfl, HB5.out⟩
        · have hrf : r = false := HNO.out fun h => by
            have h := h.2.2
            rw [HN.out] at h
            have := HT.out.iff.2 h
            omega
          subst hrf
          have HB5 := hide (HB4.out.trans (hb5.mono HB4.out.size))
          clear hb5 hTl hob
          go_wp2_with fail
          go_ret
          exact ⟨rfl, HB5.out⟩
      · have HS := hide hs
        clear hs
        go_wp2_with fail
        refine (valid_any _ _ _ (kinkL f) false _ ((kinkL_length f).trans HN.out) (by omega) HS3.out (by simp [HS.out])).mono ?_
        rintro e w4 ⟨rfl, hb4⟩
        have HB4 := hide (HB3.out.trans (hb4.mono HB3.out.size))
        clear hb4
        have hrf : r = false := HNO.out fun h => HS.out h.2.1
        subst hrf
        go_wp2_with fail
        go_ret
        exact ⟨rfl, HB4.out⟩
    · have HP := hide hp
      clear hp
      go_wp2_with fail
      refine (rowsI_any _ _ _ f false _ HN.out hb HBS.out (HRD.out.later HB1.out) ⟨fun h => (by cases h), fun h => absurd h HP.out⟩).mono ?_
      rintro e w2 ⟨rfl, hb2⟩
      have HB2 := hide (HB1.out.trans (hb2.mono HB1.out.size))
      clear hb2
      have hrf : r = false := HNO.out fun h => HP.out h.prm
      subst hrf
      go_wp2_with fail
      go_ret
      exact ⟨rfl, HB2.out⟩
  · have HTB := hide ht
    clear ht
    have hrf : r = false := HNO.out fun h => HTB.out h.tbl
    subst hrf
    go_enter Try.func50, Try.ntmps50
    go_wp2_with fail
    refine (isTable_any _ _ _ f false _ HN.out (by omega) (fun i hi => by have := HBS.out i hi; omega) (HRD.out.later HB0.out) (by simp [HTB.out])).mono ?_
    rintro e w1 ⟨rfl, hq1⟩
    have HB1 := hide (HB0.out.trans (hq1.below _))
    clear hq1
    go_wp2_with fail
    go_ret
    exact ⟨rfl, HB1.out⟩
end Go.Proofs.Ythkhkehpmolfaaa
