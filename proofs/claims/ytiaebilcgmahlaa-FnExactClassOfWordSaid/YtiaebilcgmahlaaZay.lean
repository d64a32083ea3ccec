import Derived.Test.YtiaebilcgmahlaaZaw
import Derived.Test.YtiaebilcgmahlaaZc
import Derived.Test.YtiaebilcgmahlaaZao
import Derived.Test.YtiaebilcgmahlaaZr
import Derived.Test.YtiaebilcgmahlaaZj
import Derived.Deep.Cut
namespace Go.Proofs.Ytiaebilcgmahlaa
open Go Go.RowKit
open Classical
set_option maxHeartbeats 4000000
set_option maxRecDepth 100000 in
theorem areWords_any (n : Nat) (A : Option Addr) (m c : Nat) (rows : List (List Int)) (r : Bool) (w : World) (hm : rows.length = m) (hb : m ≤ 1048576) (hbs : ∀ i, i < rows.length → (rows.getD i []).length ≤ 1048576) (hr : Rd2 w A rows) (hrr : r = true ↔ Wrds n rows) :
    Calls Try.prog 108 #[.int .i64 n, .slice A m c] w fun e w' => e = .returned (.bool r) ∧ Below w.heap.size w w' := by
  have HM := hide hm
  have HR := hide hr
  have HRR := hide hrr
  have HBS := hide hbs
  clear hm hr hrr hbs
  go_enter Try.func108, Try.ntmps108
  go_wp2_with fail
  go_loopw [9] (fun i wr => ∃ j : Nat, j ≤ m ∧ i = .int .i64 j ∧ Below w.heap.size w wr ∧ ∀ i, i < j → Wrd n (rows.getD i [])) (fun i _ => m - (intOf i).toNat)
  case atStart => exact ⟨0, Nat.zero_le _, rfl, Below.refl _ _, fun i hi => absurd hi (Nat.not_lt_zero _)⟩
  case round =>
    obtain ⟨j, hj, rfl, hq, hin⟩ := hrel
    have HIN := hide hin
    have HB := hide hq
    clear hin hq
    by_cases hlt : j < m
    · obtain ⟨b, o, rfl, _, hc⟩ := (HR.out.later HB.out) (by have := HM.out; omega)
      obtain ⟨Aj, cj, hcell, hrd⟩ := hc j (by have := HM.out; omega)
      have hlb := HBS.out j (by have := HM.out; omega)
      obtain ⟨p, hp⟩ : ∃ p, rows.getD j [] = p := ⟨_, rfl⟩
      rw [hp] at hcell hrd hlb
      have HP := hide hp
      obtain ⟨l, hl⟩ : ∃ l, p.length = l := ⟨_, rfl⟩
      rw [hl] at hcell hlb
      have HL := hide hl
      have HRD := hide hrd
      have hjz : (j : Int) < m := by omega
      have bad : ¬ Wrd n p → r = false := fun hyr => by
        cases r
        · rfl
        · exact absurd (by have h := HRR.out.1 rfl j (by rw [HM.out]; exact hlt); rw [HP.out] at h; exact h) hyr
      have BAD := hide bad
      clear bad hp hl hrd hc
      by_cases h8 : l ≤ 8
      · have h8z : decide ((8 : Int) < (l : Int)) = false := by simp; omega
        obtain ⟨r1, hr1⟩ : ∃ r1 : Bool, r1 = true ↔ ∀ i, i < l → 0 ≤ p.getD i 0 ∧ p.getD i 0 < (n : Int) := bool_of _
        have HR1 := hide hr1
        clear hr1
        go_wp2_with fail
        refine (els_any n Aj l cj p r1 _ HL.out (by omega) HRD.out HR1.out).mono ?_
        rintro e w2 ⟨rfl, hq2⟩
        have HB2 := hide (HB.out.trans ((hq2.below wr.heap.size).mono HB.out.size))
        clear hq2
        cases r1 with
        | true =>
          have HW : Hid (Wrd n p) := hide ⟨by rw [HL.out]; exact h8, fun i hi => HR1.out.1 rfl i (by rw [← HL.out]; exact hi)⟩
          go_wp2_with fail
          go_roundw
          case rel =>
            refine ⟨j + 1, by omega, by go_num, HB2.out, fun i hi => ?_⟩
            by_cases e : i = j
            · subst e; rw [HP.out]; exact HW.out
            · exact HIN.out i (by omega)
          case measure => simp [intOf]; omega
        | false =>
          have HW : Hid (¬ Wrd n p) := hide (fun h => absurd (HR1.out.2 (fun i hi => h.2 i (by rw [HL.out]; exact hi))) (by simp))
          go_wp2_with fail
          go_ret
          have := BAD.out HW.out
          exact ⟨by subst this; rfl, HB2.out⟩
      · have h8z : decide ((8 : Int) < (l : Int)) = true := by simp; omega
        have HW : Hid (¬ Wrd n p) := hide (fun h => by have h1 := h.1; rw [HL.out] at h1; omega)
        go_wp2_with fail
        go_ret
        have := BAD.out HW.out
        exact ⟨by subst this; rfl, HB.out⟩
    · have hjm : j = m := by omega
      subst hjm
      have hrt : r = true := HRR.out.2 (fun i hi => HIN.out i (by rw [← HM.out]; exact hi))
      go_wp2_with fail
      go_ret
      exact ⟨by subst hrt; rfl, HB.out⟩
set_option maxRecDepth 100000 in
theorem wordFault_any (A B C : Option Addr) (n c k d m e : Nat) (f s rows : List (List Int)) (code : Int) (w : World) (hz : ZArg 1048576 w A n f B k s) (hm : rows.length = m) (hb : m ≤ 1048576) (hbs : ∀ i, i < rows.length → (rows.getD i []).length ≤ 1048576) (hr : Rd2 w C rows) (hc : WdC f s rows code) :
    Calls Try.prog 70 #[.agg #[.slice A n c, .slice B k d], .slice C m e] w fun e w' => e = .returned (.int .i64 code) ∧ Below w.heap.size w w' := by
  have HZ := hide hz
  have HM := hide hm
  have HR := hide hr
  have HBS := hide hbs
  have HB0 := hide ((Below.refl _ w).alloc (Nat.le_refl _) (Obj.cells #[Value.slice A n c, Value.slice B k d] 29))
  have HK0 := hide (Blk.new w 29 [.slice A n c, .slice B k d])
  rcases hc with ⟨hs, hw, rfl⟩ | ⟨hs, hw, rfl⟩ | ⟨hs, rfl⟩
  · have HS := hide hs
    obtain rfl := (hz.same hs.1).symm
    rw [hz.sz.fl] at hw
    have HW := hide hw
    clear hz hm hr hbs hs hw
    go_enter Try.func70, Try.ntmps70
    have k0 := HK0.out.cell 0 _ rfl
    have k1 := HK0.out.cell 1 _ rfl
    go_wp2_with fail
    clear k0 k1
    refine (isI_any _ _ _ f _ _ _ s true _ (HZ.out.later HB0.out) ⟨fun _ => HS.out, fun _ => rfl⟩).mono ?_
    rintro e w1 ⟨rfl, hb1⟩
    have HB1 := hide (HB0.out.trans (hb1.mono HB0.out.size))
    have HK1 := hide (HK0.out.later hb1)
    clear hb1
    have k0 := HK1.out.cell 0 _ rfl
    have k1 := HK1.out.cell 1 _ rfl
    go_wp2_with fail
    clear k0 k1
    refine (size_any _ _ _ _ _ _ _ HZ.out.sz.nb).mono ?_
    rintro e w2 ⟨rfl, hb2⟩
    have HB2 := hide (HB1.out.trans (hb2.mono HB1.out.size))
    clear hb2
    go_wp2_with fail
    refine (areWords_any n C m _ rows true _ HM.out hb HBS.out (HR.out.later HB2.out) ⟨fun _ => HW.out, fun _ => rfl⟩).mono ?_
    rintro e w3 ⟨rfl, hb3⟩
    have HB3 := hide (HB2.out.trans (hb3.mono HB2.out.size))
    clear hb3
    go_wp2_with fail
    go_ret
    exact ⟨rfl, HB3.out⟩
  · have HS := hide hs
    obtain rfl := (hz.same hs.1).symm
    rw [hz.sz.fl] at hw
    have HW := hide hw
    clear hz hm hr hbs hs hw
    go_enter Try.func70, Try.ntmps70
    have k0 := HK0.out.cell 0 _ rfl
    have k1 := HK0.out.cell 1 _ rfl
    go_wp2_with fail
    clear k0 k1
    refine (isI_any _ _ _ f _ _ _ s true _ (HZ.out.later HB0.out) ⟨fun _ => HS.out, fun _ => rfl⟩).mono ?_
    rintro e w1 ⟨rfl, hb1⟩
    have HB1 := hide (HB0.out.trans (hb1.mono HB0.out.size))
    have HK1 := hide (HK0.out.later hb1)
    clear hb1
    have k0 := HK1.out.cell 0 _ rfl
    have k1 := HK1.out.cell 1 _ rfl
    go_wp2_with fail
    clear k0 k1
    refine (size_any _ _ _ _ _ _ _ HZ.out.sz.nb).mono ?_
    rintro e w2 ⟨rfl, hb2⟩
    have HB2 := hide (HB1.out.trans (hb2.mono HB1.out.size))
    clear hb2
    go_wp2_with fail
    refine (areWords_any n C m _ rows false _ HM.out hb HBS.out (HR.out.later HB2.out) ⟨fun h => absurd h (by simp), fun h => absurd h HW.out⟩).mono ?_
    rintro e w3 ⟨rfl, hb3⟩
    have HB3 := hide (HB2.out.trans (hb3.mono HB2.out.size))
    clear hb3
    go_wp2_with fail
    go_ret
    exact ⟨rfl, HB3.out⟩
  · have HS := hide hs
    clear hz hm hr hbs hs
    go_enter Try.func70, Try.ntmps70
    have k0 := HK0.out.cell 0 _ rfl
    have k1 := HK0.out.cell 1 _ rfl
    go_wp2_with fail
    clear k0 k1
    refine (isI_any _ _ _ f _ _ _ s false _ (HZ.out.later HB0.out) ⟨fun h => absurd h (by simp), fun h => absurd h HS.out⟩).mono ?_
    rintro e w1 ⟨rfl, hb1⟩
    have HB1 := hide (HB0.out.trans (hb1.mono HB0.out.size))
    clear hb1
    go_wp2_with fail
    go_ret
    exact ⟨rfl, HB1.out⟩
end Go.Proofs.Ytiaebilcgmahlaa
namespace Go.Proofs.Ytiaebilcgmahlaa
open Go Go.RowKit
open Classical
set_option maxHeartbeats 4000000
set_option maxRecDepth 100000 in
theorem wordS_any (n : Nat) (A : Option Addr) (m c : Nat) (xs : List Int) (r : Bool) (w : World) (h1 : 1 ≤ n) (h12 : n ≤ 12) (hm : xs.length = m) (hb : m ≤ 1048576) (hr : Rd w A xs) (hrr : r = true ↔ Wrd n xs) :
    Calls Try.prog 104 #[.int .i64 n, .slice A m c] w fun e w' => e = .returned (.bool r) ∧ Quiet w w' := by
  have HM := hide hm
  have HR := hide hr
  have HRR := hide hrr
  have hnw : IntKind.i64.wrap ((n : Int) - 1) = (n : Int) - 1 := IntWalk.i64_in _ (by omega)
  clear hm hr hrr
  go_enter Try.func104, Try.ntmps104
  go_wp2_with fail
  go_loopw [5] (fun i wr => ∃ j : Nat, j ≤ m ∧ i = .int .i64 j ∧ Quiet w wr ∧ ∀ i, i < j → 0 ≤ xs.getD i 0 ∧ xs.getD i 0 < (n : Int)) (fun i _ => m - (intOf i).toNat)
  case atStart => exact ⟨0, Nat.zero_le _, rfl, Quiet.refl _, fun i hi => absurd hi (Nat.not_lt_zero _)⟩
  case round =>
    obtain ⟨j, hj, rfl, hq, hin⟩ := hrel
    have HIN := hide hin
    have HQ := hide hq
    clear hin hq
    by_cases hlt : j < m
    · obtain ⟨b, o, rfl, _, hc⟩ := HQ.out.rd HR.out (by have := HM.out; omega)
      have hv := hc j (by have := HM.out; omega)
      obtain ⟨y, hy⟩ : ∃ y, y = xs.getD j 0 := ⟨_, rfl⟩
      rw [← hy] at hv
      have HY := hide hy
      clear hy hc
      have hjz : (j : Int) < m := by omega
      obtain ⟨r1, hr1⟩ : ∃ r1 : Bool, r1 = true ↔ 0 ≤ y ∧ y ≤ (n : Int) - 1 := bool_of _
      have HR1 := hide hr1
      clear hr1
      go_wp2_with fail
      refine (in_any y 0 ((n : Int) - 1) r1 _ HR1.out).mono ?_
      rintro e w2 ⟨rfl, hq2⟩
      have HQ2 := hide (HQ.out.trans hq2)
      clear hq2
      cases r1 with
      | true =>
        have h2 := HR1.out.1 rfl
        go_wp2_with fail
        go_roundw
        case rel =>
          refine ⟨j + 1, by omega, by go_num, HQ2.out, fun i hi => ?_⟩
          by_cases e : i = j
          · subst e; rw [← HY.out]; omega
          · exact HIN.out i (by omega)
        case measure => simp [intOf]; omega
      | false =>
        have hrf : r = false := by
          cases r with
          | false => rfl
          | true =>
            have h := (HRR.out.1 rfl).2 j (by rw [HM.out]; exact hlt)
            rw [← HY.out] at h
            exact absurd (HR1.out.2 ⟨h.1, by omega⟩) (by simp)
        subst hrf
        go_wp2_with fail
        go_ret
        exact ⟨rfl, HQ2.out⟩
    · have hjm : j = m := by omega
      subst hjm
      by_cases h8 : j ≤ 8
      · have h8z : decide ((j : Int) ≤ 8) = true := by simp; omega
        have hrt : r = true := HRR.out.2 ⟨by rw [HM.out]; exact h8, fun i hi => HIN.out i (by rw [← HM.out]; exact hi)⟩
        subst hrt
        go_wp2_with fail
        go_ret
        exact ⟨rfl, HQ.out⟩
      · have h8z : decide ((j : Int) ≤ 8) = false := by simp; omega
        have hrf : r = false := by
          cases r with
          | false => rfl
          | true => have h := (HRR.out.1 rfl).1; rw [HM.out] at h; omega
        subst hrf
        go_wp2_with fail
        go_ret
        exact ⟨rfl, HQ.out⟩
set_option maxRecDepth 100000 in
theorem codeS_any (A B C D : Option Addr) (n c k d m e m2 e2 : Nat) (f s : List (List Int)) (xs ys : List Int) (code : Int) (w : World) (hz : ZArg 1048576 w A n f B k s) (hm : xs.length = m) (hb : m ≤ 1048576) (hr : Rd w C xs) (hm2 : ys.length = m2) (hb2 : m2 ≤ 1048576) (hr2 : Rd w D ys) (hc : WdC f s [xs, ys] code) :
    Calls Try.prog 68 #[.agg #[.slice A n c, .slice B k d], .slice C m e, .slice D m2 e2] w fun e w' => e = .returned (.int .i64 code) ∧ Below w.heap.size w w' := by
  have HZ := hide hz
  have HM := hide hm
  have HR := hide hr
  have HM2 := hide hm2
  have HR2 := hide hr2
  have HC := hide hc
  have HB0 := hide ((Below.refl _ w).alloc (Nat.le_refl _) (Obj.cells #[Value.slice A n c, Value.slice B k d] 29))
  have HK0 := hide (Blk.new w 29 [.slice A n c, .slice B k d])
  by_cases hs : SolF f s
  · have HS := hide hs
    obtain rfl := (hz.same hs.1).symm
    have hn := hz.sz.fl
    have h12 := hz.small hs.1
    obtain ⟨r1, hr1⟩ : ∃ r1 : Bool, r1 = true ↔ Wrd n xs := bool_of _
    obtain ⟨r3, hr3⟩ : ∃ r3 : Bool, r3 = true ↔ Wrd n ys := bool_of _
    have HR1 := hide hr1
    have HR3 := hide hr3
    have hcode : code = if r1 = true ∧ r3 = true then 0 else 2 := by
      have e : Wrds f.length [xs, ys] ↔ r1 = true ∧ r3 = true := by rw [hn, wrds2, hr1, hr3]
      rcases hc with ⟨_, h, rfl⟩ | ⟨_, h, rfl⟩ | ⟨h, _⟩
      · rw [if_pos (e.1 h)]
      · rw [if_neg (fun h2 => h (e.2 h2))]
      · exact absurd hs h
    clear hz hm hr hm2 hr2 hc hs hr1 hr3 HC hn
    go_enter Try.func68, Try.ntmps68
    have k0 := HK0.out.cell 0 _ rfl
    have k1 := HK0.out.cell 1 _ rfl
    go_wp2_with fail
    clear k0 k1
    refine (isS_any _ _ _ f _ _ _ s true _ (HZ.out.later HB0.out) ⟨fun _ => HS.out, fun _ => rfl⟩).mono ?_
    rintro e w1 ⟨rfl, hb1⟩
    have HB1 := hide (HB0.out.trans (hb1.mono HB0.out.size))
    have HK1 := hide (HK0.out.later hb1)
    clear hb1
    have k0 := HK1.out.cell 0 _ rfl
    have k1 := HK1.out.cell 1 _ rfl
    go_wp2_with fail
    clear k0 k1
    refine (wordS_any n C m _ xs r1 _ h12.1 h12.2 HM.out hb (HR.out.later HB1.out) HR1.out).mono ?_
    rintro e w2 ⟨rfl, hq2⟩
    have HB2 := hide (HB1.out.trans ((hq2.below w1.heap.size).mono HB1.out.size))
    clear hq2
    cases r1 with
    | false =>
      have hc2 : code = 2 := by rw [hcode]; simp
      subst hc2
      go_wp2_with fail
      go_ret
      exact ⟨rfl, HB2.out⟩
    | true =>
      go_wp2_with fail
      refine (wordS_any n D m2 _ ys r3 _ h12.1 h12.2 HM2.out hb2 (HR2.out.later HB2.out) HR3.out).mono ?_
      rintro e w3 ⟨rfl, hq3⟩
      have HB3 := hide (HB2.out.trans ((hq3.below w2.heap.size).mono HB2.out.size))
      clear hq3
      cases r3 with
      | false =>
        have hc2 : code = 2 := by rw [hcode]; simp
        subst hc2
        go_wp2_with fail
        go_ret
        exact ⟨rfl, HB3.out⟩
      | true =>
        have hc2 : code = 0 := by rw [hcode]; simp
        clear hcode
        subst hc2
        go_wp2_with fail
        trace_state
        go_ret
        exact ⟨rfl, HB3.out⟩
  · have HS := hide hs
    have hc2 : code = 1 := by
      rcases hc with ⟨h, _⟩ | ⟨h, _⟩ | ⟨_, h⟩
      · exact absurd h hs
      · exact absurd h hs
      · exact h
    subst hc2
    clear hz hm hr hm2 hr2 hc hs HC
    go_enter Try.func68, Try.ntmps68
    have k0 := HK0.out.cell 0 _ rfl
    have k1 := HK0.out.cell 1 _ rfl
    go_wp2_with fail
    clear k0 k1
    refine (isS_any _ _ _ f _ _ _ s false _ (HZ.out.later HB0.out) ⟨fun h => absurd h (by simp), fun h => absurd h HS.out⟩).mono ?_
    rintro e w1 ⟨rfl, hb1⟩
    have HB1 := hide (HB0.out.trans (hb1.mono HB0.out.size))
    clear hb1
    go_wp2_with fail
    go_ret
    exact ⟨rfl, HB1.out⟩
end Go.Proofs.Ytiaebilcgmahlaa
