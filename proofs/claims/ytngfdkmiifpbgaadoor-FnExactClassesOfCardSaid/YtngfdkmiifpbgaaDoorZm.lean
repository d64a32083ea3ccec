import Derived.Test.YtngfdkmiifpbgaaDoorZk
import Derived.Test.YtngfdkmiifpbgaaDoorZa
import Derived.Test.YtngfdkmiifpbgaaDoorZd
import Derived.Test.YtngfdkmiifpbgaaDoorZg
namespace Go.Proofs.YtngfdkmiifpbgaaDoor
open Go Go.RowKit
set_option maxHeartbeats 4000000

theorem gq_below {P : Program} {F : FuncId} {args : Array Value} {w : World} {v : Ending} (h : Calls P F args w fun e w' => e = v ∧ Quiet w w') : Calls P F args w fun e w' => e = v ∧ Below w.heap.size w w' := h.mono fun _ _ ⟨he, hq⟩ => ⟨he, hq.below _⟩
def GrX (f : List (List Int)) (n x : Nat) : Prop := ap f 0 x = x ∧ ap f x 0 = x ∧ Prm (f.getD x []) ∧ ∀ y, y < n → ∀ z, z < n → As3 f x y z
theorem grpX_all {f : List (List Int)} {n : Nat} (hn : f.length = n) (ht : Tbl f) (h : ∀ x, x < n → GrX f n x) : Grp f := by
  subst hn
  exact ⟨⟨ht, fun x hx => (h x hx).2.2.1⟩, fun x hx => ⟨(h x hx).1, (h x hx).2.1⟩, fun x y z hx hy hz => (h x hx).2.2.2 y hy z hz⟩
theorem grpX_of {f : List (List Int)} {n : Nat} (hn : f.length = n) (h : Grp f) (x : Nat) (hx : x < n) : GrX f n x := by
  subst hn
  exact ⟨(h.2.1 x hx).1, (h.2.1 x hx).2, h.1.2 x hx, fun y hy z hz => h.2.2 x y z hx hy hz⟩

set_option maxRecDepth 100000 in
theorem isGrpS_any (A : Option Addr) (n c : Nat) (f : List (List Int)) (r : Bool) (w : World) (hn : f.length = n) (hb : n ≤ 1048576) (hbs : ∀ i, i < f.length → (f.getD i []).length ≤ 1048576) (hr : Rd2 w A f) (hrc : r = true ↔ Grp f) :
    Calls Tryd.prog 14 #[.slice A n c] w fun e w' => e = .returned (.bool r) ∧ Quiet w w' := by
  have HN := hide hn
  have HBS := hide hbs
  have HRD := hide hr
  have HRC := hide hrc
  by_cases ht : Tbl f
  · have HTB := hide ht
    have h1 : 1 ≤ n := by rw [← hn]; exact ht.1
    have h12 : n ≤ 12 := by rw [← hn]; exact ht.2.1
    obtain ⟨b, o, hA, hb, hc⟩ := ht.cells hr hn
    have HRW : Hid (∀ x, x < n → ∀ B c, w.cell? ⟨b, o + x, none⟩ = some (.slice B n c) → Rd w B (f.getD x [])) := hide (by
      obtain ⟨b', o', hA', _, hc'⟩ := rd_rows ht hr hn
      rw [hA] at hA'
      cases hA'
      intro x hx B c hB
      obtain ⟨B', c', h3, h4⟩ := hc' x hx
      rw [hB] at h3
      cases h3
      exact h4)
    subst hA
    have HC := hide hc
    clear hn hbs hr hrc ht hc
    go_enter Tryd.func14, Tryd.ntmps14
    go_wp2_with fail
    refine (l01Table_any _ _ _ f true _ HN.out (by omega) (fun i hi => by have := HBS.out i hi; omega) HRD.out (by simp [HTB.out])).mono ?_
    rintro e w1 ⟨rfl, hq1⟩
    have HQ1 := hide hq1
    clear hq1
    go_wp2_with fail
    go_loopw [3] (fun i wr => ∃ x : Nat, x ≤ n ∧ i = .int .i64 x ∧ Quiet w wr ∧ ∀ i, i < x → GrX f n i) (fun i _ => n - (intOf i).toNat)
    case atStart => exact ⟨0, Nat.zero_le _, rfl, HQ1.out, fun i hi => absurd hi (Nat.not_lt_zero _)⟩
    case round =>
      obtain ⟨x, hx, rfl, hq, hall⟩ := hrel
      have HQ := hide hq
      have HALL := hide hall
      clear hq hall
      by_cases hlt : x < n
      · have hxz : (x : Int) < n := by omega
        obtain ⟨bx, ox, cx, r1, r2, r3⟩ := HC.out x hlt
        obtain ⟨b0, o0, c0, s1, s2, s3⟩ := HC.out 0 h1
        have e1 := s3 x hlt
        have e2 := r3 0 h1
        have HPX : Hid (Rd w (some ⟨bx, ox, none⟩) (f.getD x []) ∧ (f.getD x []).length = n) := hide ⟨HRW.out x hlt _ _ r1, HTB.out.row_len HN.out hlt⟩
        obtain ⟨a, ha⟩ : ∃ a, ap f 0 x = a := ⟨_, rfl⟩
        obtain ⟨a', ha'⟩ : ∃ a, ap f x 0 = a := ⟨_, rfl⟩
        rw [ha] at e1
        rw [ha'] at e2
        have HA := hide ha
        have HA' := hide ha'
        have hbl := HQ.out.below w.heap.size
        replace r1 := (hbl.cell (p := ⟨b, o + x, none⟩) hb).trans r1
        replace s1 := (hbl.cell (p := ⟨b, o + 0, none⟩) hb).trans s1
        replace e1 := (hbl.cell (p := ⟨b0, o0 + x, none⟩) s2).trans e1
        replace e2 := (hbl.cell (p := ⟨bx, ox + 0, none⟩) r2).trans e2
        rw [Nat.add_zero] at s1 e2
        clear hbl ha ha' r3 s3
        by_cases c1 : a = x
        · have HC1 := hide c1
          subst c1
          by_cases c2 : a' = a
          · have HC2 := hide c2
            subst c2
            by_cases c3 : Prm (f.getD a' [])
            · have HC3 := hide c3
              clear c3
              go_wp2_with fail
              refine (prmS_any _ n _ (f.getD a' []) true _ HPX.out.2 (by omega) (HQ.out.rd HPX.out.1) ⟨fun _ => HC3.out, fun _ => rfl⟩).mono ?_
              rintro e w2 ⟨rfl, hq2⟩
              have HQ2 := hide (HQ.out.trans hq2)
              clear hq2 r1 s1 e1 e2
              obtain ⟨x, hxe⟩ : ∃ x, a' = x := ⟨_, rfl⟩
              subst hxe
              go_wp2_with fail
              go_loopw [4] (fun i wi => ∃ y : Nat, y ≤ n ∧ i = .int .i64 y ∧ Quiet w wi ∧ ∀ y', y' < y → ∀ z, z < n → As3 f a' y' z) (fun i _ => n - (intOf i).toNat)
              case atStart => exact ⟨0, Nat.zero_le _, rfl, HQ2.out, fun i hi => absurd hi (Nat.not_lt_zero _)⟩
              case round =>
                obtain ⟨y, hy, rfl, hq, hall⟩ := hrel
                have HQI := hide hq
                have HALLI := hide hall
                clear hq hall
                by_cases hlty : y < n
                · have hyz : (y : Int) < n := by omega
                  go_wp2_with fail
                  go_loopw [5] (fun i wi => ∃ z : Nat, z ≤ n ∧ i = .int .i64 z ∧ Quiet w wi ∧ ∀ z', z' < z → As3 f a' y z') (fun i _ => n - (intOf i).toNat)
                  case atStart => exact ⟨0, Nat.zero_le _, rfl, HQI.out, fun i hi => absurd hi (Nat.not_lt_zero _)⟩
                  case round =>
                    obtain ⟨z, hzn, rfl, hq, hallj⟩ := hrel
                    have HQJ := hide hq
                    have HALLJ := hide hallj
                    clear hq hallj
                    by_cases hltz : z < n
                    · have hzz : (z : Int) < n := by omega
                      have hq1 := HTB.out.ap_lt HN.out hlt hlty
                      have hq2 := HTB.out.ap_lt HN.out hlty hltz
                      obtain ⟨q1, h_1⟩ : ∃ u, ap f a' y = u := ⟨_, rfl⟩
                      obtain ⟨q2, h_2⟩ : ∃ u, ap f y z = u := ⟨_, rfl⟩
                      have hat : As3 f a' y z ↔ ap f q1 z = ap f a' q2 := by unfold As3; rw [h_1, h_2]
                      rw [h_1] at hq1
                      rw [h_2] at hq2
                      obtain ⟨q3, h_3⟩ : ∃ u, ap f q1 z = u := ⟨_, rfl⟩
                      obtain ⟨q4, h_4⟩ : ∃ u, ap f a' q2 = u := ⟨_, rfl⟩
                      rw [h_3, h_4] at hat
                      have HAT := hide hat
                      obtain ⟨bx, ox, cx, r1, r2, r3⟩ := HC.out a' hlt
                      obtain ⟨by', oy, cy, s1, s2, s3⟩ := HC.out y hlty
                      obtain ⟨bq, oq, cq, t1, t2, t3⟩ := HC.out q1 hq1
                      have e1 := r3 y hlty
                      rw [h_1] at e1
                      have e2 := s3 z hltz
                      rw [h_2] at e2
                      have e3 := t3 z hltz
                      rw [h_3] at e3
                      have e4 := r3 q2 hq2
                      rw [h_4] at e4
                      have z1 : (q1 : Int) < n := by omega
                      have z2 : (q2 : Int) < n := by omega
                      have hbl := HQJ.out.below w.heap.size
                      replace r1 := (hbl.cell (p := ⟨b, o + a', none⟩) hb).trans r1
                      replace s1 := (hbl.cell (p := ⟨b, o + y, none⟩) hb).trans s1
                      replace t1 := (hbl.cell (p := ⟨b, o + q1, none⟩) hb).trans t1
                      replace e1 := (hbl.cell (p := ⟨bx, ox + y, none⟩) r2).trans e1
                      replace e2 := (hbl.cell (p := ⟨by', oy + z, none⟩) s2).trans e2
                      replace e3 := (hbl.cell (p := ⟨bq, oq + z, none⟩) t2).trans e3
                      replace e4 := (hbl.cell (p := ⟨bx, ox + q2, none⟩) r2).trans e4
                      clear hbl h_1 h_2 h_3 h_4 hat r3 s3 t3
                      by_cases hcs : q3 = q4
                      · have HGOOD := hide (HAT.out.2 hcs)
                        subst hcs
                        go_wp2_with fail
                        go_quiet (fail)
                        go_wp2_with fail
                        go_roundw
                        case rel => exact ⟨z + 1, by omega, by go_num, HQJ.out.drewN _, fun i hi => by
                          by_cases e : i = z
                          · rw [e]; exact HGOOD.out
                          · exact HALLJ.out i (by omega)⟩
                        case measure => simp [intOf]; omega
                      · have hcz : ¬ (q3 : Int) = q4 := by omega
                        have HBAD := hide (fun h => hcs (HAT.out.1 h))
                        have hrf : r = false := by
                          cases r
                          · rfl
                          · exact absurd (HRC.out.1 rfl) (fun h => HBAD.out (((grpX_of HN.out h a' hlt).2.2.2) y hlty z hltz))
                        subst hrf
                        go_wp2_with fail
                        go_quiet (fail)
                        go_wp2_with fail
                        go_ret
                        exact ⟨rfl, HQJ.out.drewN _⟩
                    · have hzn' : z = n := by omega
                      subst hzn'
                      go_wp2_with fail
                      go_roundw
                      case rel => exact ⟨y + 1, by omega, by go_num, HQJ.out, fun i hi => by
                        by_cases e : i = y
                        · rw [e]; exact HALLJ.out
                        · exact HALLI.out i (by omega)⟩
                      case measure => simp [intOf]; omega
                · have hyn' : y = n := by omega
                  subst hyn'
                  go_wp2_with fail
                  go_roundw
                  case rel => exact ⟨a' + 1, by omega, by go_num, HQI.out, fun i hi => by
                    by_cases e : i = a'
                    · rw [e]; exact ⟨HA.out, HA'.out, HC3.out, HALLI.out⟩
                    · exact HALL.out i (by omega)⟩
                  case measure => simp [intOf]; omega
            · have HC3 := hide c3
              clear c3
              have hrf : r = false := by
                cases r
                · rfl
                · exact absurd (HRC.out.1 rfl) (fun h => HC3.out (grpX_of HN.out h a' hlt).2.2.1)
              subst hrf
              go_wp2_with fail
              refine (prmS_any _ n _ (f.getD a' []) false _ HPX.out.2 (by omega) (HQ.out.rd HPX.out.1) ⟨fun h => (by cases h), fun h => absurd h HC3.out⟩).mono ?_
              rintro e w2 ⟨rfl, hq2⟩
              have HQ2 := hide (HQ.out.trans hq2)
              clear hq2 r1 s1 e1 e2
              go_wp2_with fail
              go_ret
              exact ⟨rfl, HQ2.out⟩
          · have HC2 := hide c2
            have hcz : ¬ (a' : Int) = (a : Int) := by omega
            have hrf : r = false := by
              cases r
              · rfl
              · exact absurd (HRC.out.1 rfl) (fun h => HC2.out (HA'.out.symm.trans (grpX_of HN.out h a hlt).2.1))
            subst hrf
            go_wp2_with fail
            go_ret
            exact ⟨rfl, HQ.out⟩
        · have HC1 := hide c1
          have hcz : ¬ (a : Int) = (x : Int) := by omega
          have hrf : r = false := by
            cases r
            · rfl
            · exact absurd (HRC.out.1 rfl) (fun h => HC1.out (HA.out.symm.trans (grpX_of HN.out h x hlt).1))
          subst hrf
          go_wp2_with fail
          go_ret
          exact ⟨rfl, HQ.out⟩
      · have hxn : x = n := by omega
        subst hxn
        have hrt : r = true := HRC.out.2 (grpX_all HN.out HTB.out HALL.out)
        subst hrt
        go_wp2_with fail
        go_ret
        exact ⟨rfl, HQ.out⟩
  · have HTB := hide ht
    have hrf : r = false := by
      cases r
      · rfl
      · exact absurd (HRC.out.1 rfl).1.1 ht
    subst hrf
    clear hn hbs hr hrc ht
    go_enter Tryd.func14, Tryd.ntmps14
    go_wp2_with fail
    refine (l01Table_any _ _ _ f false _ HN.out (by omega) (fun i hi => by have := HBS.out i hi; omega) HRD.out (by simp [HTB.out])).mono ?_
    rintro e w1 ⟨rfl, hq1⟩
    have HQ1 := hide hq1
    clear hq1
    go_wp2_with fail
    go_ret
    exact ⟨rfl, HQ1.out⟩
end Go.Proofs.YtngfdkmiifpbgaaDoor
