import Derived.Test.YtiaebilcgmahlaaZbj
namespace Go.Proofs.Ytiaebilcgmahlaa
open Go Go.RowKit
open Classical
set_option maxHeartbeats 4000000
/-- What the equality of words is told. -/
def EqwR (f s : List (List Int)) (xs ys : List Int) (v : Bool) (code : Int) : Prop :=
  (WdC f s [xs, ys] 0 ∧ ((FewT (leH f) (leH s) xs 1000 ∧ (v = true ↔ Tch (leH f) (leH s) xs ys) ∧ code = 0) ∨ (¬ FewT (leH f) (leH s) xs 1000 ∧ v = false ∧ code = 3))) ∨ (WdC f s [xs, ys] code ∧ code ≠ 0 ∧ v = false)
theorem EqwR.ex (f s : List (List Int)) (xs ys : List Int) : ∃ v code, EqwR f s xs ys v code := by
  obtain ⟨c, hc⟩ := WdC.ex f s [xs, ys]
  by_cases h0 : c = 0
  · subst h0
    by_cases hf : FewT (leH f) (leH s) xs 1000
    · obtain ⟨v, hv⟩ := bool_of (Tch (leH f) (leH s) xs ys)
      exact ⟨v, 0, .inl ⟨hc, .inl ⟨hf, hv, rfl⟩⟩⟩
    · exact ⟨false, 3, .inl ⟨hc, .inr ⟨hf, rfl, rfl⟩⟩⟩
  · exact ⟨false, c, .inr ⟨hc, h0, rfl⟩⟩
set_option maxRecDepth 100000 in
theorem find_any (A : Option Addr) (N c : Nat) (rows : List (List Int)) (P : Option Addr) (m e : Nat) (p : List Int) (r : Bool) (w : World) (hN : rows.length = N) (hNb : N ≤ 1048576) (hls : ∀ i, i < rows.length → (rows.getD i []).length ≤ 1048576) (hr : Rd2 w A rows) (hm : p.length = m) (hb : m ≤ 1048576) (hp : Rd w P p) (hrr : r = true ↔ p ∈ rows) :
    Calls Try.prog 72 #[.slice A N c, .slice P m e] w fun e w' => e = .returned (.bool r) ∧ Below w.heap.size w w' := by
  have HN := hide hN
  have HLS := hide hls
  have HR := hide hr
  have HM := hide hm
  have HP := hide hp
  have HRR := hide hrr
  clear hN hls hr hm hp hrr
  go_enter Try.func72, Try.ntmps72
  go_wp2_with fail
  go_loopw [5] (fun i wr => ∃ j : Nat, j ≤ N ∧ i = .int .i64 j ∧ Below w.heap.size w wr ∧ ∀ i, i < j → rows.getD i [] ≠ p) (fun i _ => N - (intOf i).toNat)
  case atStart => exact ⟨0, Nat.zero_le _, rfl, Below.refl _ _, fun i hi => absurd hi (Nat.not_lt_zero _)⟩
  case round =>
    obtain ⟨j, hj, rfl, hq, hin⟩ := hrel
    have HIN := hide hin
    have HB := hide hq
    clear hin hq
    by_cases hlt : j < N
    · have hjr : j < rows.length := by rw [HN.out]; exact hlt
      obtain ⟨b, o, rfl, _, hc⟩ := (HR.out.later HB.out) (by omega)
      obtain ⟨Aj, cj, hcell, hrd⟩ := hc j hjr
      have hlb := HLS.out j hjr
      obtain ⟨q, hq⟩ : ∃ q, rows.getD j [] = q := ⟨_, rfl⟩
      rw [hq] at hcell hrd hlb
      have HQ := hide hq
      obtain ⟨l, hl⟩ : ∃ l, q.length = l := ⟨_, rfl⟩
      rw [hl] at hcell hlb
      have HL := hide hl
      have HRD := hide hrd
      have hjz : (j : Int) < N := by omega
      obtain ⟨r1, hr1⟩ : ∃ r1 : Bool, r1 = true ↔ q = p := bool_of _
      have HR1 := hide hr1
      clear hq hl hrd hc hr1
      go_wp2_with fail
      refine (same_any Aj P l cj m e q p r1 _ HL.out HM.out (by omega) (by omega) HRD.out (HP.out.later HB.out) HR1.out).mono ?_
      rintro e w2 ⟨rfl, hq2⟩
      have HB2 := hide (HB.out.trans ((hq2.below wr.heap.size).mono HB.out.size))
      clear hq2
      cases r1 with
      | true =>
        have hmem : p ∈ rows := by rw [← HR1.out.1 rfl, ← HQ.out]; exact tgetD_mem _ _ _ hjr
        have hrt : r = true := HRR.out.2 hmem
        subst hrt
        clear HRR HR1 hmem
        go_wp2_with fail
        go_ret
        exact ⟨rfl, HB2.out⟩
      | false =>
        have hne : q ≠ p := fun e => by have h := HR1.out.2 e; cases h
        have HNE := hide hne
        clear HR1 hne
        go_wp2_with fail
        go_roundw
        case rel =>
          refine ⟨j + 1, by omega, by go_num, HB2.out, fun i hi => ?_⟩
          by_cases e : i = j
          · subst e; rw [HQ.out]; exact HNE.out
          · exact HIN.out i (by omega)
        case measure => simp [intOf]; omega
    · have hjm : j = N := by omega
      subst hjm
      have hrf : r = false := by
        cases r with
        | false => rfl
        | true =>
          obtain ⟨i, hi, e⟩ := List.getElem_of_mem (HRR.out.1 rfl)
          exact absurd (by simp [hi, e]) (HIN.out i (by rw [← HN.out]; exact hi))
      subst hrf
      clear HRR
      go_wp2_with fail
      go_ret
      exact ⟨rfl, HB.out⟩
set_option maxRecDepth 100000 in
theorem eqwI (A : Option Addr) (n c : Nat) (f : List (List Int)) (B : Option Addr) (k d : Nat) (s : List (List Int)) (C : Option Addr) (m e : Nat) (xs : List Int) (D : Option Addr) (m2 e2 : Nat) (ys : List Int) (v : Bool) (code : Int) (w : World) (hz : ZArg 1048576 w A n f B k s) (hm : xs.length = m) (hb : m ≤ 1048576) (hr : Rd w C xs) (hm2 : ys.length = m2) (hb2 : m2 ≤ 1048576) (hr2 : Rd w D ys) (hres : EqwR f s xs ys v code) :
    Calls Try.prog 32 #[.agg #[.slice A n c, .slice B k d], .slice C m e, .slice D m2 e2] w fun e w' => e = .returned (.tuple #[.bool v, .int .i64 code]) ∧ Below w.heap.size w w' := by
  have HZ := hide hz
  have HM := hide hm
  have HR := hide hr
  have HM2 := hide hm2
  have HR2 := hide hr2
  have HB0 := hide ((Below.refl _ w).alloc (Nat.le_refl _) (Obj.cells #[Value.slice A n c, Value.slice B k d] 29))
  have HK0 := hide (Blk.new w 29 [.slice A n c, .slice B k d])
  obtain ⟨wc, hwc⟩ : ∃ wc, WdC f s [xs, ys] wc := WdC.ex f s [xs, ys]
  have HWC := hide hwc
  have HRES := hide hres
  have d0 : ¬ wc = 0 → (wc != 0) = true := fun h => by simpa using h
  clear hz hm hr hm2 hr2 hwc hres
  go_enter Try.func32, Try.ntmps32
  have k0 := HK0.out.cell 0 _ rfl
  have k1 := HK0.out.cell 1 _ rfl
  go_wp2_with fail
  clear k0 k1
  refine calls_gen fun w1 hw1 => ?_
  have hb1 : Below (w.alloc (Obj.cells #[Value.slice A n c, Value.slice B k d] 29)).heap.size (w.alloc (Obj.cells #[Value.slice A n c, Value.slice B k d] 29)) w1 := by rw [hw1]; exact (Below.refl _ _).alloc (Nat.le_refl _) _
  have HL1 : Hid (Blk w1 (w.heap.size + 1) 25 [.slice C m e, .slice D m2 e2]) := hide (by rw [hw1]; have h := Blk.new (w.alloc (Obj.cells #[Value.slice A n c, Value.slice B k d] 29)) 25 [.slice C m e, .slice D m2 e2]; simpa using h)
  have HB1 := hide (HB0.out.trans (hb1.mono HB0.out.size))
  have HK1 := hide (HK0.out.later hb1)
  have HRR : Hid (Rd2 w1 (some ⟨w.heap.size + 1, 0, none⟩) [xs, ys]) := hide (fun _ => ⟨_, 0, rfl, HL1.out.lt, fun i hi => by
    rcases i with _ | _ | i
    · exact ⟨C, e, by have h := HL1.out.cell 0 _ rfl; rw [show ([xs, ys].getD 0 []).length = m from HM.out]; exact h, HR.out.later HB1.out⟩
    · exact ⟨D, e2, by have h := HL1.out.cell 1 _ rfl; rw [show ([xs, ys].getD 1 []).length = m2 from HM2.out]; exact h, HR2.out.later HB1.out⟩
    · simp at hi; omega⟩)
  clear hw1 hb1
  refine (wordFault_any A B _ n c k d 2 2 f s [xs, ys] wc _ (HZ.out.later HB1.out) rfl (by omega) (fun i hi => by
    rcases i with _ | _ | i
    · show xs.length ≤ 1048576; rw [HM.out]; exact hb
    · show ys.length ≤ 1048576; rw [HM2.out]; exact hb2
    · simp at hi; omega) HRR.out HWC.out).mono ?_
  rintro e w2 ⟨rfl, hb2'⟩
  have HB2 := hide (HB1.out.trans (hb2'.mono HB1.out.size))
  have HK2 := hide (HK1.out.later hb2')
  clear hb2' HRR HL1
  by_cases hc0 : wc = 0
  · subst hc0
    obtain ⟨hs, hw⟩ := HWC.out.zero rfl
    obtain rfl := (HZ.out.same hs.1).symm
    have hn := HZ.out.sz.fl
    have hw1 := wrds2.1 hw
    rw [hn] at hw1
    have HW := hide hw1.1
    have HV := hide hw1.2
    have HS := hide hs
    have HOR : Hid ((FewT (leH f) (leH s) xs 1000 ∧ (v = true ↔ Tch (leH f) (leH s) xs ys) ∧ code = 0) ∨ (¬ FewT (leH f) (leH s) xs 1000 ∧ v = false ∧ code = 3)) := hide (by
      rcases HRES.out with ⟨_, h⟩ | ⟨h1, h2, _⟩
      · exact h
      · exact absurd (h1.uniq HWC.out) h2)
    clear hs hw hw1 hn d0
    have k0 := HK2.out.cell 0 _ rfl
    have k1 := HK2.out.cell 1 _ rfl
    by_cases hf : FewT (leH f) (leH s) xs 1000
    · have HF := hide hf
      obtain ⟨hv, rfl⟩ : (v = true ↔ Tch (leH f) (leH s) xs ys) ∧ code = 0 := by
        rcases HOR.out with ⟨_, h1, h2⟩ | ⟨h1, _⟩
        · exact ⟨h1, h2⟩
        · exact absurd hf h1
      have HVV := hide hv
      clear hf hv
      go_wp2_with fail
      refine (classOf_yes A n c f B d s C m _ xs _ (HZ.out.later HB2.out) HS.out HW.out HM.out (HR.out.later HB2.out) HF.out).mono ?_
      rintro e w3 ⟨L, bm, hcl, hll, rfl, hb3, hbm, hme⟩
      have HB3 := hide (HB2.out.trans (hb3.mono HB2.out.size))
      have HCL := hide hcl
      have HME := hide hme
      clear hb3 hcl hme k0 k1
      by_cases hmm : m = m2
      · subst hmm
        obtain ⟨kl, hkl⟩ := tkey_ex (HV.out.tup.sm (HZ.out.small HS.out.1).2)
        have hm12 : m ≤ 12 := by have := HW.out.1; have := HM.out; omega
        have HKL := hide hkl
        clear hkl
        go_wp2_with fail
        refine (tupleOf_key D m _ ys _ HM2.out hm12 (HR2.out.later HB3.out)).mono ?_
        rintro e w4 ⟨rfl, hb4⟩
        have HB4 := hide (HB3.out.trans (hb4.mono HB3.out.size))
        have hlook := MapN.look1 tk_keyed (MapN.later HME.out hb4) Try.underlying61 (z := .bool false) (by kernel_rfl) HKL.out
        rw [metV_at (fun p hp => by rw [((HCL.out.2 p).1 hp).len]; exact HM.out) HM2.out] at hlook
        have hvd : decide (ys ∈ L) = v := by
          cases v with
          | true => exact decide_eq_true ((HCL.out.2 _).2 (HVV.out.1 rfl))
          | false => exact decide_eq_false (fun h => by have h2 := HVV.out.2 ((HCL.out.2 _).1 h); cases h2)
        rw [hvd] at hlook
        clear hb4 hvd
        go_wp2_with fail
        go_ret2
        exact ⟨rfl, HB4.out⟩
      · have hmz : ((m : Int) == (m2 : Int)) = false := by simp; omega
        have hvf : v = false := by
          cases v with
          | false => rfl
          | true => have h := (HVV.out.1 rfl).len; have h1 := HM.out; have h2 := HM2.out; omega
        subst hvf
        clear HVV
        go_wp2_with fail
        go_ret2
        exact ⟨rfl, HB3.out⟩
    · have HF := hide hf
      obtain ⟨rfl, rfl⟩ : v = false ∧ code = 3 := by
        rcases HOR.out with ⟨h1, _⟩ | ⟨_, h1⟩
        · exact absurd h1 hf
        · exact h1
      clear hf
      go_wp2_with fail
      refine (classOf_no A n c f B d s C m _ xs _ (HZ.out.later HB2.out) HS.out HW.out HM.out (HR.out.later HB2.out) HF.out).mono ?_
      rintro e w3 ⟨rfl, hb3⟩
      have HB3 := hide (HB2.out.trans (hb3.mono HB2.out.size))
      clear hb3 k0 k1
      go_wp2_with fail
      go_ret2
      exact ⟨rfl, HB3.out⟩
  · have hz1 : v = false ∧ code = wc := by
      rcases HRES.out with ⟨h1, _⟩ | ⟨h1, _, h3⟩
      · exact absurd (HWC.out.uniq h1) hc0
      · exact ⟨h3, h1.uniq HWC.out⟩
    obtain ⟨rfl, rfl⟩ := hz1
    have hcb := d0 hc0
    clear d0
    go_wp2_with fail
    go_ret2
    exact ⟨rfl, HB2.out⟩

set_option maxRecDepth 100000 in
theorem eqwS (A : Option Addr) (n c : Nat) (f : List (List Int)) (B : Option Addr) (k d : Nat) (s : List (List Int)) (C : Option Addr) (m : Nat) (xs : List Int) (D : Option Addr) (m2 : Nat) (ys : List Int) (v : Bool) (code : Int) (w : World) (hz : ZArg 1048576 w A n f B k s) (hm : xs.length = m) (hb : m ≤ 1048576) (hr : Rd w C xs) (hm2 : ys.length = m2) (hb2 : m2 ≤ 1048576) (hr2 : Rd w D ys) (hres : EqwR f s xs ys v code) :
    Calls Try.prog 31 #[.agg #[.slice A n c, .slice B k d], .slice C m m, .slice D m2 m2] w fun e w' => e = .returned (.tuple #[.bool v, .int .i64 code]) ∧ Below w.heap.size w w' := by
  have HZ := hide hz
  have HM := hide hm
  have HR := hide hr
  have HM2 := hide hm2
  have HR2 := hide hr2
  have HB0 := hide ((Below.refl _ w).alloc (Nat.le_refl _) (Obj.cells #[Value.slice A n c, Value.slice B k d] 29))
  have HK0 := hide (Blk.new w 29 [.slice A n c, .slice B k d])
  obtain ⟨wc, hwc⟩ : ∃ wc, WdC f s [xs, ys] wc := WdC.ex f s [xs, ys]
  have HWC := hide hwc
  have HRES := hide hres
  have d0 : ¬ wc = 0 → (wc != 0) = true := fun h => by simpa using h
  clear hz hm hr hm2 hr2 hwc hres
  go_enter Try.func31, Try.ntmps31
  have k0 := HK0.out.cell 0 _ rfl
  have k1 := HK0.out.cell 1 _ rfl
  go_wp2_with fail
  clear k0 k1
  refine (codeS_any A B C D n c k d m _ m2 _ f s xs ys wc _ (HZ.out.later HB0.out) HM.out hb (HR.out.later HB0.out) HM2.out hb2 (HR2.out.later HB0.out) HWC.out).mono ?_
  rintro e w2 ⟨rfl, hb2'⟩
  have HB2 := hide (HB0.out.trans (hb2'.mono HB0.out.size))
  have HK2 := hide (HK0.out.later hb2')
  clear hb2'
  by_cases hc0 : wc = 0
  · subst hc0
    obtain ⟨hs, hw⟩ := HWC.out.zero rfl
    obtain rfl := (HZ.out.same hs.1).symm
    have hn := HZ.out.sz.fl
    have hw1 := wrds2.1 hw
    rw [hn] at hw1
    have HW := hide hw1.1
    have HV := hide hw1.2
    have HS := hide hs
    have HOR : Hid ((FewT (leH f) (leH s) xs 1000 ∧ (v = true ↔ Tch (leH f) (leH s) xs ys) ∧ code = 0) ∨ (¬ FewT (leH f) (leH s) xs 1000 ∧ v = false ∧ code = 3)) := hide (by
      rcases HRES.out with ⟨_, h⟩ | ⟨h1, h2, _⟩
      · exact h
      · exact absurd (h1.uniq HWC.out) h2)
    clear hs hw hw1 hn d0
    have k0 := HK2.out.cell 0 _ rfl
    have k1 := HK2.out.cell 1 _ rfl
    go_wp2_with fail
    refine (classS_any A n c f B d s C m m xs 1000 _ (HZ.out.later HB2.out) HS.out HW.out.tup HM.out (fun h => h) (HR.out.later HB2.out) (by omega) (by omega)).mono ?_
    have hs2 := HB2.out.size
    rintro e w3 (⟨L, v3, vals, hcl, ha, hll, rfl, hb3, hl3⟩ | ⟨hf, rfl, hb3⟩)
    · have HB3 := hide (HB2.out.trans (hb3.mono hs2))
      obtain ⟨hv, rfl⟩ : (v = true ↔ Tch (leH f) (leH s) xs ys) ∧ code = 0 := by
        rcases HOR.out with ⟨_, h1, h2⟩ | ⟨h1, _⟩
        · exact ⟨h1, h2⟩
        · exact absurd ⟨L, hcl, hll⟩ h1
      obtain ⟨A3, c3, hv3, hobj⟩ := hl3.shape
      subst hv3
      have HRD := hide hobj.rd
      have HCL := hide hcl
      have HLL := hide hll
      have HVV : Hid (v = true ↔ ys ∈ L) := hide (by rw [hv, HCL.out.2])
      obtain ⟨N, hN⟩ : ∃ N, L.length = N := ⟨_, rfl⟩
      have HN := hide hN
      rw [hN] at hll ⊢
      clear hb3 hcl ha hl3 hobj hv hN k0 k1
      go_wp2_with fail
      refine (find_any A3 N c3 L D m2 m2 ys v _ HN.out (by omega) (fun i hi => by rw [HCL.out.row hi, HM.out]; exact hb) HRD.out HM2.out hb2 (HR2.out.later HB3.out) HVV.out).mono ?_
      rintro e w4 ⟨rfl, hb4⟩
      have HB4 := hide (HB3.out.trans (hb4.mono HB3.out.size))
      clear hb4
      go_wp2_with fail
      go_ret2
      exact ⟨rfl, HB4.out⟩
    · obtain ⟨rfl, rfl⟩ : v = false ∧ code = 3 := by
        rcases HOR.out with ⟨h1, _⟩ | ⟨_, h1⟩
        · exact absurd h1 hf
        · exact h1
      have HB3 := hide (HB2.out.trans (hb3.mono hs2))
      clear hb3 hf k0 k1
      go_wp2_with fail
      go_ret2
      exact ⟨rfl, HB3.out⟩
  · have hz1 : v = false ∧ code = wc := by
      rcases HRES.out with ⟨h1, _⟩ | ⟨h1, _, h3⟩
      · exact absurd (HWC.out.uniq h1) hc0
      · exact ⟨h3, h1.uniq HWC.out⟩
    obtain ⟨rfl, rfl⟩ := hz1
    have hcb := d0 hc0
    clear d0
    go_wp2_with fail
    go_ret2
    exact ⟨rfl, HB2.out⟩

end Go.Proofs.Ytiaebilcgmahlaa
