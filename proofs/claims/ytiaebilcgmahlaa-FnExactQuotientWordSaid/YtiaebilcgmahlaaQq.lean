import Derived.Test.YtiaebilcgmahlaaQp
import Derived.Test.YtiaebilcgmahlaaQm
import Derived.Test.YtiaebilcgmahlaaQc
namespace Go.Proofs.Ytiaebilcgmahlaa
open Go Go.RowKit
open Classical
set_option maxHeartbeats 1000000
theorem QtR.ex (f s : List (List Int)) (u x : List Int) : ∃ zs code, QtR f s u x zs code ∧ zs.length ≤ 1048576 := by
  obtain ⟨c, hc⟩ := WdC.ex f s [u, x]
  by_cases h0 : c = 0
  · subst h0
    by_cases hf : FewT (leH f) (leH s) u 1000 ∧ FewT (leH f) (leH s) x 1000
    · obtain ⟨hf1, hf2⟩ := hf
      obtain ⟨C, hC, hl⟩ := hf2
      obtain ⟨L, ha, hll, hm⟩ := asc_ex (restL u C) (restL_nodup u C hC.1)
      have hR : Rests (leH f) (leH s) u x L := ⟨ha, fun r => by rw [hm, restL_mem]; exact hC.2 _⟩
      by_cases hL : L = []
      · exact ⟨[], 4, .inr (.inr ⟨hc, hf1, ⟨C, hC, hl⟩, L, hR, .inl ⟨hL, rfl, rfl⟩⟩), by simp⟩
      · have h0 : 0 < L.length := List.length_pos_iff.2 hL
        refine ⟨L.getD 0 [], 0, .inr (.inr ⟨hc, hf1, ⟨C, hC, hl⟩, L, hR, .inr ⟨h0, rfl, rfl⟩⟩), ?_⟩
        have h1 := ((hR.2 (L.getD 0 [])).1 (tgetD_mem L 0 [] h0)).len
        have h2 := ((wrds2.1 (hc.zero rfl).2).2).1
        rw [List.length_append] at h1
        omega
    · exact ⟨[], 3, .inr (.inl ⟨hc, hf, rfl, rfl⟩), by simp⟩
  · exact ⟨[], c, .inl ⟨hc, h0, rfl⟩, by simp⟩
theorem DvR.ex (f s : List (List Int)) (u x : List Int) : ∃ v code, DvR f s u x v code := by
  obtain ⟨zs, qc, h, hl⟩ := QtR.ex f s u x
  by_cases h4 : qc = 4
  · exact ⟨false, 0, zs, qc, h, hl, .inl ⟨h4, rfl, rfl⟩⟩
  · obtain ⟨v, hv⟩ := bool_of (qc = 0)
    exact ⟨v, qc, zs, qc, h, hl, .inr ⟨h4, hv, rfl⟩⟩
theorem classOf_both (A : Option Addr) (n c : Nat) (f : List (List Int)) (B : Option Addr) (d : Nat) (s : List (List Int)) (C : Option Addr) (m e : Nat) (x : List Int) (w : World) (hz : ZArg 1048576 w A n f B n s) (hs : SolF f s) (ht : Wrd n x) (hm : x.length = m) (hr : Rd w C x) :
    Calls Try.prog 71 #[.agg #[.slice A n c, .slice B n d], .slice C m e] w fun e w' => ∃ (v : Value) (r : Bool), e = .returned (.tuple #[v, .bool r]) ∧ Below w.heap.size w w' ∧ (r = true ↔ FewT (leH f) (leH s) x 1000) ∧ (r = true → ∃ L bm, v = .map (some bm) ∧ Cls (leH f) (leH s) x L ∧ L.length ≤ 1000 ∧ MetN w' bm L) := by
  by_cases hf : FewT (leH f) (leH s) x 1000
  · refine (classOf_yes A n c f B d s C m e x w hz hs ht hm hr hf).mono ?_
    rintro e w2 ⟨L, bm, hcl, hll, rfl, hb, _, hme⟩
    exact ⟨_, true, rfl, hb, ⟨fun _ => hf, fun _ => rfl⟩, fun _ => ⟨L, bm, rfl, hcl, hll, hme⟩⟩
  · refine (classOf_no A n c f B d s C m e x w hz hs ht hm hr hf).mono ?_
    rintro e w2 ⟨rfl, hb⟩
    exact ⟨_, false, rfl, hb, ⟨fun h => by simp at h, fun h => absurd h hf⟩, fun h => by simp at h⟩
set_option maxRecDepth 100000 in
theorem quotI (A : Option Addr) (n c : Nat) (f : List (List Int)) (B : Option Addr) (k d : Nat) (s : List (List Int)) (U : Option Addr) (m e : Nat) (u : List Int) (X : Option Addr) (m2 e2 : Nat) (x : List Int) (zs : List Int) (code : Int) (kz : Nat) (w : World) (hz : ZArg 1048576 w A n f B k s) (hm : u.length = m) (hb : m ≤ 1048576) (hr : Rd w U u) (hm2 : x.length = m2) (hb2 : m2 ≤ 1048576) (hr2 : Rd w X x) (hres : QtR f s u x zs code) (hkz : zs.length = kz) :
    Calls Try.prog 43 #[.agg #[.slice A n c, .slice B k d], .slice U m e, .slice X m2 e2] w (RPost 2 kz zs code w) := by
  have HZ := hide hz
  have HM := hide hm
  have HR := hide hr
  have HM2 := hide hm2
  have HR2 := hide hr2
  have HKZ := hide hkz
  have HB0 := hide ((Below.refl _ w).alloc (Nat.le_refl _) (Obj.cells #[Value.slice A n c, Value.slice B k d] 29))
  have HK0 := hide (Blk.new w 29 [.slice A n c, .slice B k d])
  obtain ⟨wc, hwc⟩ : ∃ wc, WdC f s [u, x] wc := WdC.ex f s [u, x]
  have HWC := hide hwc
  have HRES := hide hres
  have d0 : ¬ wc = 0 → (wc != 0) = true := fun h => by simpa using h
  clear hz hm hr hm2 hr2 hkz hwc hres
  go_enter Try.func43, Try.ntmps43
  have k0 := HK0.out.cell 0 _ rfl
  have k1 := HK0.out.cell 1 _ rfl
  go_wp2_with fail
  clear k0 k1
  refine calls_gen fun w1 hw1 => ?_
  have hb1 : Below (w.alloc (Obj.cells #[Value.slice A n c, Value.slice B k d] 29)).heap.size (w.alloc (Obj.cells #[Value.slice A n c, Value.slice B k d] 29)) w1 := by rw [hw1]; exact (Below.refl _ _).alloc (Nat.le_refl _) _
  have HL1 : Hid (Blk w1 (w.heap.size + 1) 25 [.slice U m e, .slice X m2 e2]) := hide (by rw [hw1]; have h := Blk.new (w.alloc (Obj.cells #[Value.slice A n c, Value.slice B k d] 29)) 25 [.slice U m e, .slice X m2 e2]; simpa using h)
  have HB1 := hide (HB0.out.trans (hb1.mono HB0.out.size))
  have HK1 := hide (HK0.out.later hb1)
  have HRR : Hid (Rd2 w1 (some ⟨w.heap.size + 1, 0, none⟩) [u, x]) := hide (fun _ => ⟨_, 0, rfl, HL1.out.lt, fun i hi => by
    rcases i with _ | _ | i
    · exact ⟨U, e, by have h := HL1.out.cell 0 _ rfl; rw [Nat.zero_add]; rw [show ([u, x].getD 0 []).length = m from HM.out]; exact h, HR.out.later HB1.out⟩
    · exact ⟨X, e2, by have h := HL1.out.cell 1 _ rfl; rw [show ([u, x].getD (0 + 1) []).length = m2 from HM2.out]; simpa using h, HR2.out.later HB1.out⟩
    · simp at hi; omega⟩)
  clear hw1 hb1
  refine (wordFault_any A B _ n c k d 2 2 f s [u, x] wc _ (HZ.out.later HB1.out) rfl (by omega) (fun i hi => by
    rcases i with _ | _ | i
    · show u.length ≤ 1048576; rw [HM.out]; exact hb
    · show x.length ≤ 1048576; rw [HM2.out]; exact hb2
    · simp at hi; omega) HRR.out HWC.out).mono ?_
  rintro e w2 ⟨rfl, hb2'⟩
  have HB2 := hide (HB1.out.trans (hb2'.mono HB1.out.size))
  have HK2 := hide (HK1.out.later hb2')
  clear hb2' HRR HL1 HK1
  by_cases hc0 : wc = 0
  · subst hc0
    obtain ⟨hs, hw⟩ := HWC.out.zero rfl
    obtain rfl := (HZ.out.same hs.1).symm
    have hn := HZ.out.sz.fl
    have hw1 := wrds2.1 hw
    rw [hn] at hw1
    have HWU := hide hw1.1
    have HWX := hide hw1.2
    have HS := hide hs
    have hres : (¬ (FewT (leH f) (leH s) u 1000 ∧ FewT (leH f) (leH s) x 1000) ∧ zs = [] ∧ code = 3) ∨ (FewT (leH f) (leH s) u 1000 ∧ FewT (leH f) (leH s) x 1000 ∧ ∃ L, Rests (leH f) (leH s) u x L ∧ ((L = [] ∧ zs = [] ∧ code = 4) ∨ (0 < L.length ∧ zs = L.getD 0 [] ∧ code = 0))) := by
      rcases HRES.out with ⟨h1, h2, _⟩ | ⟨_, h⟩ | ⟨_, h⟩
      · exact absurd (h1.uniq HWC.out) h2
      · exact .inl h
      · exact .inr h
    have HRS := hide hres
    have h12 := (HZ.out.small hs.1)
    clear hs hw hw1 hn hres d0
    have k0 := HK2.out.cell 0 _ rfl
    have k1 := HK2.out.cell 1 _ rfl
    go_wp2_with fail
    clear k0 k1
    refine (classOf_both A n c f B d s U m _ u _ (HZ.out.later HB2.out) HS.out HWU.out HM.out (HR.out.later HB2.out)).mono ?_
    rintro e w3 ⟨v1, r1, rfl, hb3, hi1, _⟩
    have HB3 := hide (HB2.out.trans (hb3.mono HB2.out.size))
    have HK3 := hide (HK2.out.later hb3)
    have HI1 := hide hi1
    clear hb3 hi1
    have k0 := HK3.out.cell 0 _ rfl
    have k1 := HK3.out.cell 1 _ rfl
    go_wp2_with fail
    clear k0 k1
    refine (classOf_both A n c f B d s X m2 _ x _ (HZ.out.later HB3.out) HS.out HWX.out HM2.out (HR2.out.later HB3.out)).mono ?_
    rintro e w4 ⟨v2, r2, rfl, hb4, hi2, hm2⟩
    have HB4 := hide (HB3.out.trans (hb4.mono HB3.out.size))
    have HI2 := hide hi2
    have HME := hide hm2
    clear hb4 hi2 hm2
    by_cases hr12 : r1 = true ∧ r2 = true
    · obtain ⟨rfl, rfl⟩ := hr12
      obtain ⟨L, bm, rfl, hcl, hll, hme⟩ := HME.out rfl
      obtain ⟨Z, hZ, hcase⟩ : ∃ Z, Rests (leH f) (leH s) u x Z ∧ ((Z = [] ∧ zs = [] ∧ code = 4) ∨ (0 < Z.length ∧ zs = Z.getD 0 [] ∧ code = 0)) := by
        rcases HRS.out with ⟨h, _⟩ | ⟨_, _, h⟩
        · exact absurd ⟨HI1.out.1 rfl, HI2.out.1 rfl⟩ h
        · exact h
      have HCL := hide hcl
      have HMT := hide hme
      have HZR := hide hZ
      have HCS := hide hcase
      have hll2 : L.length ≤ 5000 := by omega
      clear hcl hme hZ hcase HME hll
      by_cases hlen : m2 < m
      · have hz4 : zs = [] ∧ code = 4 := by
          rcases HCS.out with ⟨_, h⟩ | ⟨h, _⟩
          · exact h
          · have h1 := ((HZR.out.2 _).1 (tgetD_mem Z 0 [] h)).len
            rw [List.length_append] at h1
            have := HM.out; have := HM2.out; omega
        obtain ⟨rfl, rfl⟩ := hz4
        obtain rfl : kz = 0 := by simpa using HKZ.out.symm
        have hlz : (m2 : Int) < m := by omega
        go_wp2_with fail
        go_ret2
        exact ⟨_, _, rfl, HB4.out, .inl ⟨rfl, rfl⟩⟩
      · have hlz : (m : Int) ≤ m2 := by omega
        have hm12 : m2 ≤ 12 := by rw [← HM2.out]; exact HWX.out.tup.1
        go_wp2_with fail
        refine (rests_any U m _ u bm m2 L _ HM.out (HR.out.later HB4.out) (HWU.out.tup.sm h12.2) (by omega) HMT.out HCL.out.1 (fun p hp => by rw [((HCL.out.2 p).1 hp).len]; exact HM2.out) (fun p hp => (((HCL.out.2 p).1 hp).tup (HS.out.pb HZ.out.sz.fl) HWX.out.tup).sm h12.2) hm12 hll2).mono ?_
        rintro e w5 ⟨v, Z', vals, rfl, hb5, hl5, ha5, hm5⟩
        have hZZ : Z' = Z := Asc.eq ha5 HZR.out.1 (fun r => ((hm5 r).trans (HCL.out.2 _)).trans (HZR.out.2 r).symm)
        subst hZZ
        obtain ⟨A5, c5, hv, hobj⟩ := hl5.shape
        subst hv
        have HB5 := hide (HB4.out.trans (hb5.mono HB4.out.size))
        have HO5 := hide (hobj.mono (lo' := w.heap.size) HB4.out.size (Nat.le_refl _))
        clear hb5 hl5 ha5 hm5 hobj
        rcases HCS.out with ⟨rfl, rfl, rfl⟩ | ⟨h0, hzz, rfl⟩
        · obtain rfl : kz = 0 := by simpa using HKZ.out.symm
          simp only [List.length_nil]
          go_wp2_with fail
          go_ret2
          exact ⟨_, _, rfl, HB5.out, .inl ⟨rfl, rfl⟩⟩
        · obtain ⟨g, R, C9, rfl, hcell, ho9⟩ := HO5.out.first h0
          rw [← hzz, HKZ.out] at hcell
          rw [← hzz] at ho9
          have HO9 := hide ho9
          obtain ⟨zl, hzl⟩ : ∃ zl, Z'.length = zl := ⟨_, rfl⟩
          rw [hzl] at h0 ⊢
          have h0z : ¬ (zl : Int) = 0 := by omega
          have h0p : (0 : Int) < zl := by omega
          clear ho9 hzl hzz
          go_wp2_with fail
          go_ret2
          exact ⟨_, _, rfl, HB5.out, HO9.out.res (Nat.le_refl _)⟩
    · have hz3 : zs = [] ∧ code = 3 := by
        rcases HRS.out with ⟨_, h⟩ | ⟨h1, h2, _⟩
        · exact h
        · exact absurd ⟨HI1.out.2 h1, HI2.out.2 h2⟩ hr12
      obtain ⟨rfl, rfl⟩ := hz3
      obtain rfl : kz = 0 := by simpa using HKZ.out.symm
      clear HME
      cases r1 <;> cases r2
      all_goals first | exact absurd ⟨rfl, rfl⟩ hr12 | skip
      all_goals
        clear hr12
        go_wp2_with fail
        go_ret2
        exact ⟨_, _, rfl, HB4.out, .inl ⟨rfl, rfl⟩⟩
  · have hz1 : zs = [] ∧ code = wc := by
      rcases HRES.out with ⟨h1, _, h3⟩ | ⟨h1, _⟩ | ⟨h1, _⟩
      · exact ⟨h3, h1.uniq HWC.out⟩
      · exact absurd (HWC.out.uniq h1) hc0
      · exact absurd (HWC.out.uniq h1) hc0
    obtain ⟨rfl, rfl⟩ := hz1
    obtain rfl : kz = 0 := by simpa using HKZ.out.symm
    have hcb := d0 hc0
    clear d0
    go_wp2_with fail
    go_ret2
    exact ⟨_, _, rfl, HB2.out, .inl ⟨rfl, rfl⟩⟩
set_option maxRecDepth 100000 in
theorem dvI (A : Option Addr) (n c : Nat) (f : List (List Int)) (B : Option Addr) (k d : Nat) (s : List (List Int)) (U : Option Addr) (m e : Nat) (u : List Int) (X : Option Addr) (m2 e2 : Nat) (x : List Int) (v : Bool) (code : Int) (w : World) (hz : ZArg 1048576 w A n f B k s) (hm : u.length = m) (hb : m ≤ 1048576) (hr : Rd w U u) (hm2 : x.length = m2) (hb2 : m2 ≤ 1048576) (hr2 : Rd w X x) (hres : DvR f s u x v code) :
    Calls Try.prog 41 #[.agg #[.slice A n c, .slice B k d], .slice U m e, .slice X m2 e2] w fun e w' => e = .returned (.tuple #[.bool v, .int .i64 code]) ∧ Below w.heap.size w w' := by
  have HZ := hide hz
  have HM := hide hm
  have HR := hide hr
  have HM2 := hide hm2
  have HR2 := hide hr2
  obtain ⟨zs, qc, hq, _, hv⟩ := hres
  have HQ := hide hq
  have HV := hide hv
  have HB0 := hide ((Below.refl _ w).alloc (Nat.le_refl _) (Obj.cells #[Value.slice A n c, Value.slice B k d] 29))
  have HK0 := hide (Blk.new w 29 [.slice A n c, .slice B k d])
  clear hz hm hr hm2 hr2 hq hv
  go_enter Try.func41, Try.ntmps41
  have k0 := HK0.out.cell 0 _ rfl
  have k1 := HK0.out.cell 1 _ rfl
  go_wp2_with fail
  clear k0 k1
  refine (quotI A n c f B k d s U m _ u X m2 _ x zs qc _ _ (HZ.out.later HB0.out) HM.out hb (HR.out.later HB0.out) HM2.out hb2 (HR2.out.later HB0.out) HQ.out rfl).mono ?_
  rintro e w1 ⟨A1, c1, rfl, hb1, _⟩
  have HB1 := hide (HB0.out.trans (hb1.mono HB0.out.size))
  clear hb1
  rcases HV.out with ⟨rfl, rfl, rfl⟩ | ⟨h4, hv, rfl⟩
  · go_wp2_with fail
    go_ret2
    exact ⟨rfl, HB1.out⟩
  · have h4b : (code == 4) = false := by simpa using h4
    have hvb : (code == 0) = v := by
      cases v with
      | true => simpa using hv
      | false => simpa using hv
    clear hv
    go_wp2_with fail
    go_ret2
    exact ⟨by first | rfl | rw [hvb], HB1.out⟩
end Go.Proofs.Ytiaebilcgmahlaa
namespace Go.Proofs.Ytiaebilcgmahlaa
open Go Go.RowKit
open Classical
set_option maxHeartbeats 4000000
section
variable {h1 h2 b1 b2 : Nat → Nat → Int} {n : Nat}
/-- Moves of a begin. -/
theorem mv_front (r u : List Int) (k : Nat) (hk : k + 1 < u.length) : mvL h1 h2 (u ++ r) k = mvL h1 h2 u k ++ r := by
  have e1 : elN (u ++ r) k = elN u k := by unfold elN; simp only [List.getD_eq_getElem?_getD]; rw [List.getElem?_append_left (by omega)]
  have e2 : elN (u ++ r) (k + 1) = elN u (k + 1) := by unfold elN; simp only [List.getD_eq_getElem?_getD]; rw [List.getElem?_append_left (by omega)]
  unfold mvL
  rw [e1, e2]
  rw [List.set_append_left _ _ (by omega), List.set_append_left _ _ (by simp; omega)]
theorem Tch.front (r : List Int) {u u' : List Int} (h : Tch h1 h2 u u') : Tch h1 h2 (u ++ r) (u' ++ r) := by
  induction h with
  | refl => exact .refl
  | @step y j hy hk ih =>
    have hl := Tch.len hy
    have h9 := Tch.step ih (k := j) (by rw [List.length_append]; omega)
    rw [mv_front r y j (by omega)] at h9
    exact h9
theorem Tup.of_mem {xs : List Int} (hl : xs.length ≤ 12) (h : ∀ v ∈ xs, 0 ≤ v ∧ v < (n : Int)) : Tup n xs := ⟨hl, fun j hj => h _ (tgetD_mem xs j 0 hj)⟩
theorem Rests.of_cls {u x : List Int} {L : List (List Int)} (hcl : Cls h1 h2 x L) : ∃ R, Rests h1 h2 u x R := by
  obtain ⟨R, ha, _, hm⟩ := asc_ex (restL u L) (restL_nodup u L hcl.1)
  exact ⟨R, ha, fun r => by rw [hm, restL_mem]; exact hcl.2 _⟩
theorem Rests.uniq {u x : List Int} {R R' : List (List Int)} (h : Rests h1 h2 u x R) (h' : Rests h1 h2 u x R') : R = R' := Asc.eq h.1 h'.1 (fun r => (h.2 r).trans (h'.2 r).symm)
theorem Rests.cand (hp : PB n h1 h2 b1 b2) {u x : List Int} {R S : List (List Int)} (hu : Tup n u) (hx : Tup n x) (hR : Rests h1 h2 u x R) (hS : Cls h1 h2 u S) {p : List Int} (hp' : Tch h1 h2 x p) (hm : p.take u.length ∈ S) : p.drop u.length ∈ R := by
  rw [hR.2]
  have k1 := (hS.2 _).1 hm
  have k2 := k1.front (p.drop u.length)
  rw [List.take_append_drop] at k2
  have hpt := hp'.tup hp hx
  have hl := k1.len
  rw [List.length_take] at hl
  have h12 := hpt.1
  have ht : Tup n (u ++ p.drop u.length) := Tup.of_mem (by simp; omega) (fun v hv => by
    rcases List.mem_append.1 hv with hv | hv
    · exact hu.mem v hv
    · exact hpt.mem v (List.mem_of_mem_drop hv))
  exact hp'.trans (k2.symm hp ht)
theorem Rests.conv {u x : List Int} {R S L : List (List Int)} (hR : Rests h1 h2 u x R) (hS : Cls h1 h2 u S) (hL : Cls h1 h2 x L) {r : List Int} (hr : r ∈ R) : u ++ r ∈ L ∧ (u ++ r).take u.length ∈ S ∧ (u ++ r).drop u.length = r :=
  ⟨(hL.2 _).2 ((hR.2 r).1 hr), by simp; exact (hS.2 _).2 .refl, by simp⟩
end
theorem Asc.first_least {R : List (List Int)} (h : Asc R) {r : List Int} (hr : r ∈ R) : lessL r (R.getD 0 []) = false := by
  obtain ⟨i, hi, e⟩ := List.getElem_of_mem hr
  by_cases h0 : i = 0
  · subst h0
    have : R.getD 0 [] = r := by simp [hi, e]
    rw [this, lessL_irr]
  · have k := h.at (i := 0) (j := i) (by omega) hi
    have e2 : R.getD i [] = r := by simp [hi, e]
    rw [e2] at k
    cases h3 : lessL r (R.getD 0 []) with
    | false => rfl
    | true =>
      have := lessL_trans _ _ _ k h3
      rw [lessL_irr] at this
      cases this
theorem Asc.least {R : List (List Int)} (h : Asc R) {z : List Int} (hz : z ∈ R) (hm : ∀ r, r ∈ R → lessL r z = false) : 0 < R.length ∧ R.getD 0 [] = z := by
  obtain ⟨i, hi, e⟩ := List.getElem_of_mem hz
  have e2 : R.getD i [] = z := by simp [hi, e]
  refine ⟨by omega, ?_⟩
  by_cases h0 : i = 0
  · subst h0; exact e2
  · have k := h.at (i := 0) (j := i) (by omega) hi
    rw [e2, hm _ (tgetD_mem R 0 [] (by omega))] at k
    cases k
/-- The least rest is a normal word. -/
theorem Rests.normal {f s : List (List Int)} {n : Nat} (hs : SolF f s) (hn : f.length = n) {u x : List Int} {R : List (List Int)} (hwx : Wrd n x) (hf : FewT (leH f) (leH s) x 1000) (hR : Rests (leH f) (leH s) u x R) (h0 : 0 < R.length) : NwR f s (R.getD 0 []) (R.getD 0 []) 0 := by
  have hp := hs.pb hn
  obtain ⟨z, hz⟩ : ∃ z, R.getD 0 [] = z := ⟨_, rfl⟩
  rw [hz]
  have hzR : z ∈ R := by rw [← hz]; exact tgetD_mem R 0 [] h0
  have hzT := (hR.2 z).1 hzR
  have hl := hzT.len
  rw [List.length_append] at hl
  have h8 := hwx.1
  have htz := hzT.tup hp hwx.tup
  have hwz : Wrd n z := ⟨by omega, fun j hj => htz.mem _ (List.mem_append_right _ (tgetD_mem z j 0 hj))⟩
  obtain ⟨C, hC⟩ := Cls.ex hp hwz.tup
  obtain ⟨C', ha, hlC, hm⟩ := asc_ex C hC.1
  have hC' := hC.sorted ha hm
  have hsub : ∀ y, y ∈ C' → y ∈ R := fun y hy => (hR.2 y).2 (hzT.trans (((hC'.2 y).1 hy).behind u))
  obtain ⟨L, hL, hLl⟩ := hf
  have hb1 := tnodup_le ha.nodup hsub
  have hb2 : R.length ≤ (restL u L).length := tnodup_le hR.1.nodup (fun r hr => (restL_mem u L r).2 ((hL.2 _).2 ((hR.2 r).1 hr)))
  have hb3 := restL_len u L
  have hfin := ha.least (z := z) ((hC'.2 z).2 .refl) (fun r hr => by rw [← hz]; exact hR.1.first_least (hsub r hr))
  refine ⟨C', .inl ⟨.inl ⟨hs, wrds1.2 (by rw [hn]; exact hwz), rfl⟩, .inl ⟨hC', ha, by omega, rfl⟩⟩, hfin.2.symm⟩
theorem Rests.wrd {f s : List (List Int)} {u x : List Int} {R : List (List Int)} (hR : Rests (leH f) (leH s) u x R) {r : List Int} (hr : r ∈ R) : u.length + r.length = x.length := by
  have h := ((hR.2 r).1 hr).len
  rw [List.length_append] at h
  exact h
theorem Rd.take {w : World} {A : Option Addr} {xs : List Int} (h : Rd w A xs) (k : Nat) : Rd w A (xs.take k) := fun h0 => by
  have hl : (xs.take k).length ≤ xs.length := by rw [List.length_take]; omega
  obtain ⟨b, o, e, hb, hc⟩ := h (by omega)
  refine ⟨b, o, e, hb, fun i hi => ?_⟩
  rw [hc i (by omega)]
  have : i < k := by rw [List.length_take] at hi; omega
  simp [this]
theorem Rd.drop {w : World} {b o : Nat} {xs : List Int} (h : Rd w (some ⟨b, o, none⟩) xs) (k : Nat) : Rd w (some ⟨b, o + k, none⟩) (xs.drop k) := fun h0 => by
  have hl : (xs.drop k).length = xs.length - k := by simp
  obtain ⟨b', o', e, hb, hc⟩ := h (by omega)
  injection e with e
  injection e with e1 e2
  subst e1 e2
  refine ⟨_, _, rfl, hb, fun i hi => ?_⟩
  have h := hc (k + i) (by omega)
  rw [← Nat.add_assoc] at h
  rw [h]
  simp [List.getD_eq_getElem?_getD, List.getElem?_drop]
set_option maxRecDepth 100000 in
theorem own0k_any (ad : Addr) (c : Nat) (w : World) :
    Calls Try.prog 92 #[.slice (some ad) 0 c] w fun e w' => ∃ g, e = .returned (.slice (some ⟨g, 0, none⟩) 0 0) ∧ Below w.heap.size w w' := by
  obtain ⟨i0, hi, hz0, hz1, hz2⟩ := info_parts clInfo
  go_enter Try.func92, Try.ntmps92
  go_wp2_with (at_builtin; refine wpList_append_fits_any _ rfl _ _ 25 rfl w.heap.size 2 i0 1 Try.underlying25 hi hz1 w.heap.size 0 0 [] rfl (ne_empty w 2) (some ad) 0 c [] rfl rfl (fun h => by cases h) (fun _ _ j u hu => by simp at hu) (fun u hu => by simp at hu) (Nat.le_refl _) ?_)
  intro w1 hown' hgrow
  have HB : Hid (Below w.heap.size w w1) := hide (((Below.refl _ _).alloc (Nat.le_refl _) _).grown hgrow (by simp) (fun g hg => by cases hg; exact Nat.le_refl _))
  clear hown' hgrow
  go_wp2_with fail
  go_ret
  exact ⟨_, rfl, HB.out⟩
/-- A copy of any list, with no room behind an empty one. -/
theorem ownr_any (ad : Addr) (n c : Nat) (xs : List Int) (w : World) (hn : xs.length = n) (hbn : n ≤ 1048576) (hr : Rd w (some ad) xs) :
    Calls Try.prog 92 #[.slice (some ad) n c] w fun e w' => ∃ A' c', e = .returned (.slice A' n c') ∧ Below w.heap.size w w' ∧ (n = 0 → c' = 0) ∧ Rd w' A' xs := by
  by_cases h0 : n = 0
  · subst h0
    refine (own0k_any ad c w).mono ?_
    rintro e w2 ⟨g, rfl, hb⟩
    exact ⟨_, _, rfl, hb, fun _ => rfl, fun h => by omega⟩
  · obtain ⟨b, o, e, hb, hc⟩ := hr (by omega)
    injection e with e
    subst e
    refine (own_any b o n c xs w hn hbn hb hc).mono ?_
    rintro e w2 ⟨v, rfl, hb2, how⟩
    obtain ⟨A', c', rfl, hres⟩ := own_shape how
    exact ⟨_, _, rfl, hb2, fun h => absurd h h0, hres.obj.rd⟩
theorem classS_both (A : Option Addr) (n c : Nat) (f : List (List Int)) (B : Option Addr) (d : Nat) (s : List (List Int)) (C : Option Addr) (m e : Nat) (x : List Int) (most : Nat) (w : World) (hz : ZArg 1048576 w A n f B n s) (hs : SolF f s) (ht : Tup n x) (hm : x.length = m) (he : m = 0 → e = 0) (hr : Rd w C x) (hl1 : 1 ≤ most) (hl : most ≤ 5000) :
    Calls Try.prog 69 #[.agg #[.slice A n c, .slice B n d], .slice C m e, .int .i64 most] w fun e w' => ∃ (v : Value) (r : Bool), e = .returned (.tuple #[v, .bool r]) ∧ Below w.heap.size w w' ∧ (r = true ↔ FewT (leH f) (leH s) x most) ∧ (r = true → ∃ L g c4 vals, v = .slice (some ⟨g, 0, none⟩) L.length c4 ∧ Cls (leH f) (leH s) x L ∧ L.length ≤ most ∧ LstV 25 2 w.heap.size w' v L vals ∧ CapsV vals ∧ g < w'.heap.size ∧ ∀ i u, vals[i]? = some u → w'.cell? ⟨g, i, none⟩ = some u) := by
  refine (classC_any A n c f B d s C m e x most w hz hs ht hm he hr hl1 hl).mono ?_
  rintro e w2 (⟨L, v, vals, h1, h2, h3, rfl, h5, h6, h7⟩ | ⟨h1, rfl, h3⟩)
  · obtain ⟨g, c4, hv, hg, hcells⟩ := own_look h6.own h1.pos
    exact ⟨v, true, rfl, h5, ⟨fun _ => ⟨L, h1, h3⟩, fun _ => rfl⟩, fun _ => ⟨L, g, c4, vals, hv, h1, h3, h6, h7, hg, hcells⟩⟩
  · exact ⟨_, false, rfl, h3, ⟨fun h => by simp at h, fun h => absurd h h1⟩, fun h => by simp at h⟩
end Go.Proofs.Ytiaebilcgmahlaa
namespace Go.Proofs.Ytiaebilcgmahlaa
open Go Go.RowKit
open Classical
set_option maxHeartbeats 4000000
/-- What l09Quotient tells. -/
def QuoP (f s : List (List Int)) (u x : List Int) (R : List (List Int)) (kz : Nat) (w : World) (e : Ending) (w' : World) : Prop := ∃ (v : Value) (b : Bool) (code : Int), e = .returned (.tuple #[v, .bool b, .int .i64 code]) ∧ Below w.heap.size w w' ∧ ((¬ (FewT (leH f) (leH s) u 1000 ∧ FewT (leH f) (leH s) x 1000) ∧ b = false ∧ code = 3) ∨ (FewT (leH f) (leH s) u 1000 ∧ FewT (leH f) (leH s) x 1000 ∧ code = 0 ∧ ((R = [] ∧ b = false) ∨ (0 < R.length ∧ b = true ∧ ∃ A' c', v = .slice A' kz c' ∧ (kz = 0 → c' = 0) ∧ Rd w' A' (R.getD 0 [])))))
set_option maxRecDepth 100000 in
theorem quotS_any (A : Option Addr) (n c : Nat) (f : List (List Int)) (B : Option Addr) (d : Nat) (s : List (List Int)) (U : Option Addr) (m e : Nat) (u : List Int) (X : Option Addr) (m2 e2 : Nat) (x : List Int) (R : List (List Int)) (kz : Nat) (w : World) (hz : ZArg 1048576 w A n f B n s) (hs : SolF f s) (hwu : Wrd n u) (hm : u.length = m) (he : m = 0 → e = 0) (hr : Rd w U u) (hwx : Wrd n x) (hm2 : x.length = m2) (he2 : m2 = 0 → e2 = 0) (hr2 : Rd w X x) (hR : Rests (leH f) (leH s) u x R) (hkz : (R.getD 0 []).length = kz) :
    Calls Try.prog 76 #[.agg #[.slice A n c, .slice B n d], .slice U m e, .slice X m2 e2] w (QuoP f s u x R kz w) := by
  have HZ := hide hz
  have HS := hide hs
  have HWU := hide hwu
  have HWX := hide hwx
  have HM := hide hm
  have HM2 := hide hm2
  have HE := hide he
  have HE2 := hide he2
  have HRU := hide hr
  have HRX := hide hr2
  have HR := hide hR
  have HKZ := hide hkz
  have HB0 := hide ((Below.refl _ w).alloc (Nat.le_refl _) (Obj.cells #[Value.slice A n c, Value.slice B n d] 29))
  have HK0 := hide (Blk.new w 29 [.slice A n c, .slice B n d])
  have hm8 : m ≤ 8 := by rw [← hm]; exact hwu.1
  have hm28 : m2 ≤ 8 := by rw [← hm2]; exact hwx.1
  clear hz hs hwu hwx hm hm2 he he2 hr hr2 hR hkz
  go_enter Try.func76, Try.ntmps76
  have k0 := HK0.out.cell 0 _ rfl
  have k1 := HK0.out.cell 1 _ rfl
  go_wp2_with fail
  clear k0 k1
  refine (classS_both A n c f B d s U m e u 1000 _ (HZ.out.later HB0.out) HS.out HWU.out.tup HM.out HE.out (HRU.out.later HB0.out) (by omega) (by omega)).mono ?_
  rintro e w1 ⟨v1, r1, rfl, hb1, hi1, hme1⟩
  have HB1 := hide (HB0.out.trans (hb1.mono HB0.out.size))
  have HK1 := hide (HK0.out.later hb1)
  have HI1 := hide hi1
  have HME1 := hide hme1
  clear hb1 hi1 hme1
  have k0 := HK1.out.cell 0 _ rfl
  have k1 := HK1.out.cell 1 _ rfl
  go_wp2_with fail
  clear k0 k1
  refine (classS_both A n c f B d s X m2 _ x 1000 _ (HZ.out.later HB1.out) HS.out HWX.out.tup HM2.out HE2.out (HRX.out.later HB1.out) (by omega) (by omega)).mono ?_
  rintro e w2 ⟨v2, r2, rfl, hb2, hi2, hme2⟩
  have HBL := hide (hb2.mono (Nat.le_refl _))
  have HB2 := hide (HB1.out.trans (hb2.mono HB1.out.size))
  have HI2 := hide hi2
  have HME2 := hide hme2
  clear hb2 hi2 hme2
  by_cases hr12 : r1 = true ∧ r2 = true
  · obtain ⟨rfl, rfl⟩ := hr12
    have HF1 := hide (HI1.out.1 rfl)
    have HF2 := hide (HI2.out.1 rfl)
    obtain ⟨S, gS, cS, valsS, rfl, hclS, hlS, hlstS, _, _, _⟩ := HME1.out rfl
    obtain ⟨L, gL, cL, vals, rfl, hcl, hlL, hlst, hcv, hgL, hcells⟩ := HME2.out rfl
    have HCS := hide hclS
    have HCL := hide hcl
    have HL := hide hlst
    have HCV := hide hcv
    have HCELL := hide hcells
    have HRD1 : Hid (Rd2 w2 (some ⟨gS, 0, none⟩) S) := hide (by
      obtain ⟨A', c', hv', hobj⟩ := hlstS.shape
      injection hv' with hv'
      subst hv'
      exact hobj.rd.later HBL.out)
    have HPR2 : Hid (∀ p, Tch (leH f) (leH s) x p → p.take m ∈ S → p.drop m ∈ R) := hide (fun p hp hS => by
      have h := HR.out.cand (HS.out.pb HZ.out.sz.fl) HWU.out.tup HWX.out.tup HCS.out hp (by rw [HM.out]; exact hS)
      rw [HM.out] at h; exact h)
    obtain ⟨NS, hNS⟩ : ∃ N, S.length = N := ⟨_, rfl⟩
    have HNS := hide hNS
    obtain ⟨N, hN⟩ : ∃ N, L.length = N := ⟨_, rfl⟩
    have HN := hide hN
    rw [hNS] at hlS ⊢
    rw [hN] at hlL ⊢
    have hs2 := HB2.out.size
    clear hNS hN hclS hcl hlstS hlst hcv hcells HME1 HME2 HI1 HI2 HK1 HBL
    go_upto_region 2 with fail
    refine wp_gen fun w3 hw3 => ?_
    have HB3 : Hid (Below w.heap.size w w3) := hide (by rw [hw3]; exact HB2.out.alloc hs2 _)
    have HBL3 : Hid (Below w2.heap.size w2 w3) := hide (by rw [hw3]; exact (Below.refl _ _).alloc (Nat.le_refl _) _)
    obtain ⟨b3, hb3e⟩ : ∃ b3, w2.heap.size = b3 := ⟨_, rfl⟩
    have HBE := hide hb3e
    rw [hb3e]
    clear hw3 hb3e
    go_wp2_with fail
    go_loopw [13, 14, 15, 16] (fun bv fv iv _ wr => ∃ (j : Nat) (fb : Bool), j ≤ N ∧ iv = .int .i64 j ∧ fv = .bool fb ∧ Below w3.heap.size w3 wr ∧ (m2 < m → j = 0) ∧ ((fb = false ∧ (∀ i, i < j → (L.getD i []).take m ∉ S) ∧ ∃ g0 c0, bv = .slice (some ⟨g0, 0, none⟩) 0 c0) ∨ (fb = true ∧ ∃ z Ab cb, z ∈ R ∧ bv = .slice Ab (m2 - m) cb ∧ (m2 - m = 0 → cb = 0) ∧ Rd wr Ab z ∧ ∀ i, i < j → (L.getD i []).take m ∈ S → lessL ((L.getD i []).drop m) z = false))) (fun _ _ i _ _ => N - (intOf i).toNat)
    case atStart => exact ⟨0, false, Nat.zero_le _, rfl, rfl, Below.refl _ _, fun _ => rfl, .inl ⟨rfl, fun i hi => absurd hi (Nat.not_lt_zero _), _, _, rfl⟩⟩
    case round =>
      obtain ⟨j, fb, hj, rfl, rfl, hbe, hj0, hca⟩ := hrel
      have HBR := hide hbe
      have HJ0 := hide hj0
      have HCA := hide hca
      have HB := hide (HB3.out.trans (hbe.mono HB3.out.size))
      have HBQ := hide (HBL3.out.trans (hbe.mono HBL3.out.size))
      clear hbe hj0 hca
      by_cases hlt : j < N ∧ m ≤ m2
      · obtain ⟨hjN, hmm⟩ := hlt
        have hjz : (j : Int) < N := by omega
        have hmz : (m : Int) ≤ m2 := by omega
        have hjL : j < L.length := by rw [HN.out]; exact hjN
        obtain ⟨Aj, cj, hv, hobj⟩ := HL.out.row j hjL
        obtain ⟨hcap, gj, rfl⟩ := HCV.out j _ _ _ hv
        have hcell := (HBQ.out.cell (p := ⟨gL, j, none⟩) hgL).trans (HCELL.out j _ hv)
        obtain ⟨p, hp⟩ : ∃ p, L.getD j [] = p := ⟨_, rfl⟩
        rw [hp] at hv hobj hcap hcell
        have HP := hide hp
        have hpT : Tch (leH f) (leH s) x p := (HCL.out.2 p).1 (by rw [← hp]; exact tgetD_mem L j [] hjL)
        have hpl : p.length = m2 := by rw [hpT.len]; exact HM2.out
        rw [hpl] at hcap hcell
        have HPT := hide hpT
        have HPL := hide hpl
        have HRP := hide (hobj.rd.later HBQ.out)
        have HTL : Hid ((p.take m).length = m) := hide (by rw [List.length_take]; omega)
        obtain ⟨mn, hmn⟩ : ∃ q, m2 - m = q := ⟨_, rfl⟩
        have HDL : Hid ((p.drop m).length = mn) := hide (by simp; omega)
        have hmn8 : mn ≤ 8 := by omega
        have hmcz : (m : Int) ≤ cj := by omega
        obtain ⟨q, hq⟩ : ∃ q : Bool, q = true ↔ p.take m ∈ S := bool_of _
        have HQ := hide hq
        clear hv hobj hp hpT hpl hq
        go_wp2_with fail
        refine (find_any (some ⟨gS, 0, none⟩) NS cS S (some ⟨gj, 0, none⟩) m cj (p.take m) q _ HNS.out (by omega) (fun i hi => by rw [HCS.out.row hi, HM.out]; omega) (HRD1.out.later HBQ.out) HTL.out (by omega) (HRP.out.take m) HQ.out).mono ?_
        rintro e w5 ⟨rfl, hb5⟩
        have HB5 := hide (HBR.out.trans (hb5.mono HBR.out.size))
        have HBQ5 := hide (HBQ.out.trans (hb5.mono HBQ.out.size))
        have HRP5 := hide (HRP.out.later hb5)
        have hcell5 := (hb5.cell (p := ⟨gL, j, none⟩) (Nat.lt_of_lt_of_le hgL HBQ.out.size)).trans hcell
        have HC5 := hide hcell5
        have HCA5 : Hid ((fb = false ∧ (∀ i, i < j → (L.getD i []).take m ∉ S) ∧ ∃ g0 c0, u13 = .slice (some ⟨g0, 0, none⟩) 0 c0) ∨ (fb = true ∧ ∃ z Ab cb, z ∈ R ∧ u13 = .slice Ab mn cb ∧ (mn = 0 → cb = 0) ∧ Rd w5 Ab z ∧ ∀ i, i < j → (L.getD i []).take m ∈ S → lessL ((L.getD i []).drop m) z = false)) := hide (by
          rcases HCA.out with h | ⟨h1, z, Ab, cb, h2, h3, h4, h5, h6⟩
          · exact .inl h
          · exact .inr ⟨h1, z, Ab, cb, h2, by rw [← hmn]; exact h3, by rw [← hmn]; exact h4, h5.later hb5, h6⟩)
        have HMN := hide hmn
        clear hb5 hcell5 hcell HCA
        cases q with
        | false =>
          go_wp2_with fail
          go_roundw
          case rel =>
            refine ⟨j + 1, fb, by omega, by go_num, rfl, HB5.out, fun h => by omega, ?_⟩
            have hne : p.take m ∉ S := fun h => by have := HQ.out.2 h; cases this
            rw [HMN.out]
            rcases HCA5.out with ⟨h1, h2, h3⟩ | ⟨h1, z, Ab, cb, h2, h3, h4, h5, h6⟩
            · refine .inl ⟨h1, fun i hi => ?_, h3⟩
              by_cases e : i = j
              · subst e; rw [HP.out]; exact hne
              · exact h2 i (by omega)
            · refine .inr ⟨h1, z, Ab, cb, h2, h3, h4, h5, fun i hi hS => ?_⟩
              by_cases e : i = j
              · subst e; rw [HP.out] at hS; exact absurd hS hne
              · exact h6 i (by omega) hS
          case measure => simp [intOf]; omega
        | true =>
          have HPR : Hid (p.drop m ∈ R) := hide (HPR2.out p HPT.out (HQ.out.1 rfl))
          by_cases hmc : m < cj
          · have HRD9 : Hid (Rd w5 (some ⟨gj, m, none⟩) (p.drop m)) := hide (by have h := Rd.drop HRP5.out m; rw [Nat.zero_add] at h; exact h)
            have hmcl : (m : Int) < cj := by omega
            rcases HCA5.out with ⟨rfl, hno, g0, c0, rfl⟩ | ⟨rfl, z, Ab, cb, hzR, rfl, hcb0, hrdz, hmin⟩
            · have HNO := hide hno
              have hc5 := HC5.out
              clear hno
              go_wp2_with fail
              clear hc5
              first | rw [HMN.out] | skip
              obtain ⟨cc, hcc⟩ : ∃ q, cj - m = q := ⟨_, rfl⟩
              rw [hcc]
              clear hcc
              refine (ownr_any _ mn _ _ _ HDL.out (by omega) HRD9.out).mono ?_
              rintro e w6 ⟨A6, c6, rfl, hb6, hc6, hrd6⟩
              have HB6 := hide (HB5.out.trans (hb6.mono HB5.out.size))
              have HRD6 := hide hrd6
              clear hb6 hrd6
              go_wp2_with fail
              go_roundw
              case rel =>
                rw [HMN.out]
                refine ⟨j + 1, true, by omega, by go_num, rfl, HB6.out, fun h => by omega, .inr ⟨rfl, p.drop m, A6, c6, HPR.out, rfl, hc6, HRD6.out, fun i hi hS => ?_⟩⟩
                by_cases e : i = j
                · subst e; rw [HP.out]; exact lessL_irr _
                · exact absurd hS (HNO.out i (by omega))
              case measure => simp [intOf]; omega
            · have HMIN := hide hmin
              have HZR := hide hzR
              have HRDZ := hide hrdz
              have hlz : z.length = mn := by
                have h := HR.out.wrd hzR
                rw [HM.out, HM2.out] at h
                have := HMN.out
                omega
              have HLZ := hide hlz
              have hc5 := HC5.out
              clear hmin hzR hrdz hlz
              go_wp2_with fail
              clear hc5
              first | rw [HMN.out] | skip
              obtain ⟨cc, hcc⟩ : ∃ q, cj - m = q := ⟨_, rfl⟩
              rw [hcc]
              clear hcc
              refine (less_any _ Ab mn _ cb (p.drop m) z _ HDL.out HLZ.out (by omega) HRD9.out HRDZ.out).mono ?_
              rintro e w6 ⟨rfl, hq6⟩
              have hq6b := hq6.below w5.heap.size
              have HB6 := hide (HB5.out.trans (hq6b.mono HB5.out.size))
              have HRD6 := hide (HRD9.out.later hq6b)
              have HRDZ6 := hide (HRDZ.out.later hq6b)
              clear hq6 hq6b
              obtain ⟨lz, hlz⟩ : ∃ lz, lessL (p.drop m) z = lz := ⟨_, rfl⟩
              rw [hlz]
              have HLE := hide hlz
              clear hlz
              cases lz with
              | true =>
                go_wp2_with fail
                refine (ownr_any _ mn _ _ _ HDL.out (by omega) HRD6.out).mono ?_
                rintro e w7 ⟨A7, c7, rfl, hb7, hc7, hrd7⟩
                have HB7 := hide (HB6.out.trans (hb7.mono HB6.out.size))
                have HRD7 := hide hrd7
                clear hb7 hrd7
                go_wp2_with fail
                go_roundw
                case rel =>
                  rw [HMN.out]
                  refine ⟨j + 1, true, by omega, by go_num, rfl, HB7.out, fun h => by omega, .inr ⟨rfl, p.drop m, A7, c7, HPR.out, rfl, hc7, HRD7.out, fun i hi hS => ?_⟩⟩
                  by_cases e : i = j
                  · subst e; rw [HP.out]; exact lessL_irr _
                  · cases hq : lessL ((L.getD i []).drop m) (p.drop m) with
                    | false => rfl
                    | true =>
                      have h1 := lessL_trans _ _ _ hq HLE.out
                      rw [HMIN.out i (by omega) hS] at h1
                      cases h1
                case measure => simp [intOf]; omega
              | false =>
                go_wp2_with fail
                go_roundw
                case rel =>
                  rw [HMN.out]
                  refine ⟨j + 1, true, by omega, by go_num, rfl, HB6.out, fun h => by omega, .inr ⟨rfl, z, Ab, cb, HZR.out, rfl, hcb0, HRDZ6.out, fun i hi hS => ?_⟩⟩
                  by_cases e : i = j
                  · subst e; rw [HP.out]; exact HLE.out
                  · exact HMIN.out i (by omega) hS
                case measure => simp [intOf]; omega
          · have HRD9 : Hid (Rd w5 (some ⟨gj, 0, none⟩) (p.drop m)) := hide (fun h => by have := HDL.out; omega)
            have hmcl : ¬ (m : Int) < cj := by omega
            rcases HCA5.out with ⟨rfl, hno, g0, c0, rfl⟩ | ⟨rfl, z, Ab, cb, hzR, rfl, hcb0, hrdz, hmin⟩
            · have HNO := hide hno
              have hc5 := HC5.out
              clear hno
              go_wp2_with fail
              clear hc5
              first | rw [HMN.out] | skip
              obtain ⟨cc, hcc⟩ : ∃ q, cj - m = q := ⟨_, rfl⟩
              rw [hcc]
              clear hcc
              refine (ownr_any _ mn _ _ _ HDL.out (by omega) HRD9.out).mono ?_
              rintro e w6 ⟨A6, c6, rfl, hb6, hc6, hrd6⟩
              have HB6 := hide (HB5.out.trans (hb6.mono HB5.out.size))
              have HRD6 := hide hrd6
              clear hb6 hrd6
              go_wp2_with fail
              go_roundw
              case rel =>
                rw [HMN.out]
                refine ⟨j + 1, true, by omega, by go_num, rfl, HB6.out, fun h => by omega, .inr ⟨rfl, p.drop m, A6, c6, HPR.out, rfl, hc6, HRD6.out, fun i hi hS => ?_⟩⟩
                by_cases e : i = j
                · subst e; rw [HP.out]; exact lessL_irr _
                · exact absurd hS (HNO.out i (by omega))
              case measure => simp [intOf]; omega
            · have HMIN := hide hmin
              have HZR := hide hzR
              have HRDZ := hide hrdz
              have hlz : z.length = mn := by
                have h := HR.out.wrd hzR
                rw [HM.out, HM2.out] at h
                have := HMN.out
                omega
              have HLZ := hide hlz
              have hc5 := HC5.out
              clear hmin hzR hrdz hlz
              go_wp2_with fail
              clear hc5
              first | rw [HMN.out] | skip
              obtain ⟨cc, hcc⟩ : ∃ q, cj - m = q := ⟨_, rfl⟩
              rw [hcc]
              clear hcc
              refine (less_any _ Ab mn _ cb (p.drop m) z _ HDL.out HLZ.out (by omega) HRD9.out HRDZ.out).mono ?_
              rintro e w6 ⟨rfl, hq6⟩
              have hq6b := hq6.below w5.heap.size
              have HB6 := hide (HB5.out.trans (hq6b.mono HB5.out.size))
              have HRD6 := hide (HRD9.out.later hq6b)
              have HRDZ6 := hide (HRDZ.out.later hq6b)
              clear hq6 hq6b
              obtain ⟨lz, hlz⟩ : ∃ lz, lessL (p.drop m) z = lz := ⟨_, rfl⟩
              rw [hlz]
              have HLE := hide hlz
              clear hlz
              cases lz with
              | true =>
                go_wp2_with fail
                refine (ownr_any _ mn _ _ _ HDL.out (by omega) HRD6.out).mono ?_
                rintro e w7 ⟨A7, c7, rfl, hb7, hc7, hrd7⟩
                have HB7 := hide (HB6.out.trans (hb7.mono HB6.out.size))
                have HRD7 := hide hrd7
                clear hb7 hrd7
                go_wp2_with fail
                go_roundw
                case rel =>
                  rw [HMN.out]
                  refine ⟨j + 1, true, by omega, by go_num, rfl, HB7.out, fun h => by omega, .inr ⟨rfl, p.drop m, A7, c7, HPR.out, rfl, hc7, HRD7.out, fun i hi hS => ?_⟩⟩
                  by_cases e : i = j
                  · subst e; rw [HP.out]; exact lessL_irr _
                  · cases hq : lessL ((L.getD i []).drop m) (p.drop m) with
                    | false => rfl
                    | true =>
                      have h1 := lessL_trans _ _ _ hq HLE.out
                      rw [HMIN.out i (by omega) hS] at h1
                      cases h1
                case measure => simp [intOf]; omega
              | false =>
                go_wp2_with fail
                go_roundw
                case rel =>
                  rw [HMN.out]
                  refine ⟨j + 1, true, by omega, by go_num, rfl, HB6.out, fun h => by omega, .inr ⟨rfl, z, Ab, cb, HZR.out, rfl, hcb0, HRDZ6.out, fun i hi hS => ?_⟩⟩
                  by_cases e : i = j
                  · subst e; rw [HP.out]; exact HLE.out
                  · exact HMIN.out i (by omega) hS
                case measure => simp [intOf]; omega
      · have HEX : Hid (∀ r, r ∈ R → ∃ i, i < j ∧ L.getD i [] = u ++ r) := hide (fun r hr => by
          have hl := HR.out.wrd hr
          rw [HM.out, HM2.out] at hl
          obtain ⟨i, hi, e⟩ := List.getElem_of_mem (HR.out.conv HCS.out HCL.out hr).1
          have := HN.out
          refine ⟨i, ?_, by simp [hi, e]⟩
          by_cases h : j < N
          · exact absurd ⟨h, by omega⟩ hlt
          · omega)
        have HEND : Hid (∃ (v : Value) (b : Bool), u13 = v ∧ fb = b ∧ ((R = [] ∧ b = false) ∨ (0 < R.length ∧ b = true ∧ ∃ A' c', v = .slice A' kz c' ∧ (kz = 0 → c' = 0) ∧ Rd wr A' (R.getD 0 [])))) := hide (by
          refine ⟨_, fb, rfl, rfl, ?_⟩
          rcases HCA.out with ⟨rfl, hno, g0, c0, rfl⟩ | ⟨rfl, z, Ab, cb, hzR, hve, hcb0, hrdz, hmin⟩
          · refine .inl ⟨List.eq_nil_iff_forall_not_mem.2 (fun r hr => ?_), rfl⟩
            obtain ⟨i, hi, e⟩ := HEX.out r hr
            have h := (HR.out.conv HCS.out HCL.out hr).2.1
            rw [← e, HM.out] at h
            exact hno i hi h
          · obtain ⟨h0, h1⟩ := HR.out.1.least hzR (fun r hr => by
              obtain ⟨i, hi, e⟩ := HEX.out r hr
              have h := HR.out.conv HCS.out HCL.out hr
              have h2 := hmin i hi (by rw [e]; rw [HM.out] at h; exact h.2.1)
              rw [e] at h2
              rw [HM.out] at h
              rw [h.2.2] at h2
              exact h2)
            have hkk : kz = m2 - m := by
              have hl := HR.out.wrd hzR
              rw [HM.out, HM2.out] at hl
              have h := HKZ.out
              rw [h1] at h
              omega
            refine .inr ⟨h0, rfl, Ab, cb, by rw [hkk]; exact hve, by rw [hkk]; exact hcb0, by rw [h1]; exact hrdz⟩)
        obtain ⟨v9, b9, hv9, hb9, hend⟩ := HEND.out
        subst hv9 hb9
        have HEN := hide hend
        clear hend HEND HEX HCA
        by_cases hjN : j < N
        · have hjz : (j : Int) < N := by omega
          have hmz : ¬ (m : Int) ≤ m2 := by omega
          go_wp2_with fail
          go_ret3
          exact ⟨_, _, _, rfl, HB.out, .inr ⟨HF1.out, HF2.out, rfl, HEN.out⟩⟩
        · have hjz : ¬ (j : Int) < N := by omega
          go_wp2_with fail
          go_ret3
          exact ⟨_, _, _, rfl, HB.out, .inr ⟨HF1.out, HF2.out, rfl, HEN.out⟩⟩
  · have hno : ¬ (FewT (leH f) (leH s) u 1000 ∧ FewT (leH f) (leH s) x 1000) := fun h => hr12 ⟨HI1.out.2 h.1, HI2.out.2 h.2⟩
    have HNF := hide hno
    clear HME1 HME2 hno
    cases r1 <;> cases r2
    all_goals first | exact absurd ⟨rfl, rfl⟩ hr12 | skip
    all_goals
      clear hr12
      go_wp2_with fail
      go_ret3
      exact ⟨_, _, _, rfl, HB2.out, .inl ⟨HNF.out, rfl, rfl⟩⟩
end Go.Proofs.Ytiaebilcgmahlaa
namespace Go.Proofs.Ytiaebilcgmahlaa
open Go Go.RowKit
open Classical
set_option maxHeartbeats 4000000
set_option maxRecDepth 100000 in
theorem qtS (A : Option Addr) (n c : Nat) (f : List (List Int)) (B : Option Addr) (k d : Nat) (s : List (List Int)) (U : Option Addr) (m : Nat) (u : List Int) (X : Option Addr) (m2 : Nat) (x : List Int) (zs : List Int) (code : Int) (kz : Nat) (w : World) (hz : ZArg 1048576 w A n f B k s) (hm : u.length = m) (hb : m ≤ 1048576) (hr : Rd w U u) (hm2 : x.length = m2) (hb2 : m2 ≤ 1048576) (hr2 : Rd w X x) (hres : QtR f s u x zs code) (hkz : zs.length = kz) :
    Calls Try.prog 42 #[.agg #[.slice A n c, .slice B k d], .slice U m m, .slice X m2 m2] w (RPost 2 kz zs code w) := by
  have HKZ := hide hkz
  clear hkz
  have HZ := hide hz
  have HM := hide hm
  have HR := hide hr
  have HM2 := hide hm2
  have HR2 := hide hr2
  have HB0 := hide ((Below.refl _ w).alloc (Nat.le_refl _) (Obj.cells #[Value.slice A n c, Value.slice B k d] 29))
  have HK0 := hide (Blk.new w 29 [.slice A n c, .slice B k d])
  obtain ⟨wc, hwc⟩ : ∃ wc, WdC f s [u, x] wc := WdC.ex f s [u, x]
  have HWC := hide hwc
  have HRES := hide hres
  have d0 : ¬ wc = 0 → (wc != 0) = true := fun h => by simpa using h
  clear hz hm hr hm2 hr2 hwc hres
  go_enter Try.func42, Try.ntmps42
  have k0 := HK0.out.cell 0 _ rfl
  have k1 := HK0.out.cell 1 _ rfl
  go_wp2_with fail
  clear k0 k1
  refine (codeS_any A B U X n c k d m _ m2 _ f s u x wc _ (HZ.out.later HB0.out) HM.out hb (HR.out.later HB0.out) HM2.out hb2 (HR2.out.later HB0.out) HWC.out).mono ?_
  rintro e w2 ⟨rfl, hb2'⟩
  have HB2 := hide (HB0.out.trans (hb2'.mono HB0.out.size))
  have HK2 := hide (HK0.out.later hb2')
  clear hb2'
  by_cases hc0 : wc = 0
  · subst hc0
    obtain ⟨hs, hw⟩ := HWC.out.zero rfl
    obtain rfl := (HZ.out.same hs.1).symm
    have hn := HZ.out.sz.fl
    have hw1 := wrds2.1 hw
    rw [hn] at hw1
    have HWU := hide hw1.1
    have HWX := hide hw1.2
    have HS := hide hs
    obtain ⟨CX, hCX⟩ := Cls.ex (hs.pb hn) hw1.2.tup
    obtain ⟨R, hR⟩ := Rests.of_cls (u := u) hCX
    have HREST := hide hR
    have HFACT : Hid ((¬ (FewT (leH f) (leH s) u 1000 ∧ FewT (leH f) (leH s) x 1000) ∧ zs = [] ∧ code = 3) ∨ (FewT (leH f) (leH s) u 1000 ∧ FewT (leH f) (leH s) x 1000 ∧ ((R = [] ∧ zs = [] ∧ code = 4) ∨ (0 < R.length ∧ zs = R.getD 0 [] ∧ code = 0)))) := hide (by
      rcases HRES.out with ⟨h1, h2, _⟩ | ⟨_, h⟩ | ⟨_, h1, h2, L, hL, h⟩
      · exact absurd (h1.uniq HWC.out) h2
      · exact .inl h
      · obtain rfl := hL.uniq hR
        exact .inr ⟨h1, h2, h⟩)
    clear hs hw hw1 hn d0 hCX hR
    have k0 := HK2.out.cell 0 _ rfl
    have k1 := HK2.out.cell 1 _ rfl
    go_wp2_with fail
    clear k0 k1
    refine (quotS_any A n c f B d s U m m u X m2 m2 x R (R.getD 0 []).length _ (HZ.out.later HB2.out) HS.out HWU.out HM.out (fun h => h) (HR.out.later HB2.out) HWX.out HM2.out (fun h => h) (HR2.out.later HB2.out) HREST.out rfl).mono ?_
    rintro e w3 ⟨v3, b3, c3, rfl, hb3, hcase⟩
    have HB3 := hide (HB2.out.trans (hb3.mono HB2.out.size))
    have HK3 := hide (HK2.out.later hb3)
    clear hb3
    rcases hcase with ⟨hnf, rfl, rfl⟩ | ⟨hf1, hf2, rfl, ⟨hR0, rfl⟩ | ⟨hR0, rfl, A', c', rfl, hc', hrd⟩⟩
    · obtain ⟨rfl, rfl⟩ : zs = [] ∧ code = 3 := by
        rcases HFACT.out with ⟨_, h⟩ | ⟨h1, h2, _⟩
        · exact h
        · exact absurd ⟨h1, h2⟩ hnf
      obtain rfl : kz = 0 := by simpa using HKZ.out.symm
      clear hnf
      go_wp2_with fail
      go_ret2
      exact ⟨_, _, rfl, HB3.out, .inl ⟨rfl, rfl⟩⟩
    · obtain ⟨rfl, rfl⟩ : zs = [] ∧ code = 4 := by
        rcases HFACT.out with ⟨h, _⟩ | ⟨_, _, ⟨_, h⟩ | ⟨h, _⟩⟩
        · exact absurd ⟨hf1, hf2⟩ h
        · exact h
        · rw [hR0] at h; simp at h
      obtain rfl : kz = 0 := by simpa using HKZ.out.symm
      clear hf1 hf2 hR0
      go_wp2_with fail
      go_ret2
      exact ⟨_, _, rfl, HB3.out, .inl ⟨rfl, rfl⟩⟩
    · obtain ⟨hzz, rfl⟩ : zs = R.getD 0 [] ∧ code = 0 := by
        rcases HFACT.out with ⟨h, _⟩ | ⟨_, _, ⟨h, _⟩ | ⟨_, h⟩⟩
        · exact absurd ⟨hf1, hf2⟩ h
        · rw [h] at hR0; simp at hR0
        · exact h
      have hnw := HREST.out.normal HS.out HZ.out.sz.fl HWX.out hf2 hR0
      have hkb : kz ≤ 8 := by
        have h := HREST.out.wrd (tgetD_mem R 0 [] hR0)
        rw [← hzz, HKZ.out] at h
        have := HWX.out.1
        omega
      rw [← hzz] at hnw hrd
      rw [← hzz, HKZ.out] at hc'
      rw [← hzz, HKZ.out]
      have HNW := hide hnw
      have HC' := hide hc'
      have HRD := hide hrd
      clear hf1 hf2 hR0 hzz hnw hrd hc'
      have k0 := HK3.out.cell 0 _ rfl
      have k1 := HK3.out.cell 1 _ rfl
      go_wp2_with fail
      clear k0 k1
      refine (nwS_any A n c f B n d s A' kz c' zs zs 0 kz _ (HZ.out.later HB3.out) HKZ.out (by omega) HC'.out HRD.out HNW.out HKZ.out).mono ?_
      rintro e w4 ⟨A4, c4, rfl, hb4, hres4⟩
      have HB4 := hide (HB3.out.trans (hb4.mono HB3.out.size))
      have HR4 := hide (hres4.obj.mono (lo' := w.heap.size) HB3.out.size (Nat.le_refl _))
      clear hb4 hres4
      go_wp2_with fail
      go_ret2
      exact ⟨_, _, rfl, HB4.out, HR4.out.res (Nat.le_refl _)⟩
  · have hz1 : zs = [] ∧ code = wc := by
      rcases HRES.out with ⟨h1, _, h3⟩ | ⟨h1, _⟩ | ⟨h1, _⟩
      · exact ⟨h3, h1.uniq HWC.out⟩
      · exact absurd (HWC.out.uniq h1) hc0
      · exact absurd (HWC.out.uniq h1) hc0
    obtain ⟨rfl, rfl⟩ := hz1
    obtain rfl : kz = 0 := by simpa using HKZ.out.symm
    have hcb := d0 hc0
    clear d0
    go_wp2_with fail
    go_ret2
    exact ⟨_, _, rfl, HB2.out, .inl ⟨rfl, rfl⟩⟩

set_option maxRecDepth 100000 in
theorem dvS (A : Option Addr) (n c : Nat) (f : List (List Int)) (B : Option Addr) (k d : Nat) (s : List (List Int)) (U : Option Addr) (m : Nat) (u : List Int) (X : Option Addr) (m2 : Nat) (x : List Int) (v : Bool) (code : Int) (w : World) (hz : ZArg 1048576 w A n f B k s) (hm : u.length = m) (hb : m ≤ 1048576) (hr : Rd w U u) (hm2 : x.length = m2) (hb2 : m2 ≤ 1048576) (hr2 : Rd w X x) (hres : DvR f s u x v code) :
    Calls Try.prog 40 #[.agg #[.slice A n c, .slice B k d], .slice U m m, .slice X m2 m2] w fun e w' => e = .returned (.tuple #[.bool v, .int .i64 code]) ∧ Below w.heap.size w w' := by
  have HZ := hide hz
  have HM := hide hm
  have HR := hide hr
  have HM2 := hide hm2
  have HR2 := hide hr2
  have HB0 := hide ((Below.refl _ w).alloc (Nat.le_refl _) (Obj.cells #[Value.slice A n c, Value.slice B k d] 29))
  have HK0 := hide (Blk.new w 29 [.slice A n c, .slice B k d])
  obtain ⟨wc, hwc⟩ : ∃ wc, WdC f s [u, x] wc := WdC.ex f s [u, x]
  have HWC := hide hwc
  have HRES := hide hres
  have d0 : ¬ wc = 0 → (wc != 0) = true := fun h => by simpa using h
  clear hz hm hr hm2 hr2 hwc hres
  go_enter Try.func40, Try.ntmps40
  have k0 := HK0.out.cell 0 _ rfl
  have k1 := HK0.out.cell 1 _ rfl
  go_wp2_with fail
  clear k0 k1
  refine (codeS_any A B U X n c k d m _ m2 _ f s u x wc _ (HZ.out.later HB0.out) HM.out hb (HR.out.later HB0.out) HM2.out hb2 (HR2.out.later HB0.out) HWC.out).mono ?_
  rintro e w2 ⟨rfl, hb2'⟩
  have HB2 := hide (HB0.out.trans (hb2'.mono HB0.out.size))
  have HK2 := hide (HK0.out.later hb2')
  clear hb2'
  by_cases hc0 : wc = 0
  · subst hc0
    obtain ⟨hs, hw⟩ := HWC.out.zero rfl
    obtain rfl := (HZ.out.same hs.1).symm
    have hn := HZ.out.sz.fl
    have hw1 := wrds2.1 hw
    rw [hn] at hw1
    have HWU := hide hw1.1
    have HWX := hide hw1.2
    have HS := hide hs
    obtain ⟨CX, hCX⟩ := Cls.ex (hs.pb hn) hw1.2.tup
    obtain ⟨R, hR⟩ := Rests.of_cls (u := u) hCX
    have HREST := hide hR
    have HFACT : Hid ((¬ (FewT (leH f) (leH s) u 1000 ∧ FewT (leH f) (leH s) x 1000) ∧ v = false ∧ code = 3) ∨ (FewT (leH f) (leH s) u 1000 ∧ FewT (leH f) (leH s) x 1000 ∧ code = 0 ∧ (v = true ↔ 0 < R.length))) := hide (by
      obtain ⟨zs, qc, hq, _, hv⟩ := HRES.out
      rcases hq with ⟨h1, h2, _⟩ | ⟨_, h, _, rfl⟩ | ⟨_, h1, h2, L, hL, h⟩
      · exact absurd (h1.uniq HWC.out) h2
      · rcases hv with ⟨h4, _⟩ | ⟨_, hv, rfl⟩
        · omega
        · refine .inl ⟨h, ?_, rfl⟩
          cases v with
          | false => rfl
          | true => have := hv.1 rfl; omega
      · obtain rfl := hL.uniq hR
        rcases h with ⟨h3, _, rfl⟩ | ⟨h3, _, rfl⟩
        · rcases hv with ⟨_, rfl, rfl⟩ | ⟨h4, _⟩
          · exact .inr ⟨h1, h2, rfl, by rw [h3]; simp⟩
          · exact absurd rfl h4
        · rcases hv with ⟨h4, _⟩ | ⟨_, hv, rfl⟩
          · omega
          · exact .inr ⟨h1, h2, rfl, by rw [hv]; exact ⟨fun _ => h3, fun _ => rfl⟩⟩)
    clear hs hw hw1 hn d0 hCX hR
    have k0 := HK2.out.cell 0 _ rfl
    have k1 := HK2.out.cell 1 _ rfl
    go_wp2_with fail
    clear k0 k1
    refine (quotS_any A n c f B d s U m m u X m2 m2 x R (R.getD 0 []).length _ (HZ.out.later HB2.out) HS.out HWU.out HM.out (fun h => h) (HR.out.later HB2.out) HWX.out HM2.out (fun h => h) (HR2.out.later HB2.out) HREST.out rfl).mono ?_
    rintro e w3 ⟨v3, b3, c3, rfl, hb3, hcase⟩
    have HB3 := hide (HB2.out.trans (hb3.mono HB2.out.size))
    have HK3 := hide (HK2.out.later hb3)
    clear hb3
    obtain ⟨rfl, rfl⟩ : v = b3 ∧ code = c3 := by
      rcases hcase with ⟨hnf, rfl, rfl⟩ | ⟨hf1, hf2, rfl, h⟩
      · rcases HFACT.out with ⟨_, h1, h2⟩ | ⟨h1, h2, _⟩
        · exact ⟨h1, h2⟩
        · exact absurd ⟨h1, h2⟩ hnf
      · rcases HFACT.out with ⟨h1, _⟩ | ⟨_, _, h1, h2⟩
        · exact absurd ⟨hf1, hf2⟩ h1
        · refine ⟨?_, h1⟩
          rcases h with ⟨h3, rfl⟩ | ⟨h3, rfl, _⟩
          · cases v with
            | false => rfl
            | true => have := h2.1 rfl; rw [h3] at this; simp at this
          · exact h2.2 h3
    clear hcase
    go_wp2_with fail
    go_ret2
    exact ⟨rfl, HB3.out⟩
  · have hz1 : v = false ∧ code = wc := by
      obtain ⟨zs, qc, hq, _, hv⟩ := HRES.out
      have h9 : qc = wc := by
        rcases hq with ⟨h1, _, h3⟩ | ⟨h1, _⟩ | ⟨h1, _⟩
        · exact h1.uniq HWC.out
        · exact absurd (HWC.out.uniq h1) hc0
        · exact absurd (HWC.out.uniq h1) hc0
      subst h9
      rcases hv with ⟨h4, _⟩ | ⟨_, hv, rfl⟩
      · exact absurd h4 (by rcases HWC.out with ⟨_, _, h⟩ | ⟨_, _, h⟩ | ⟨_, h⟩ <;> omega)
      · refine ⟨?_, rfl⟩
        cases v with
        | false => rfl
        | true => exact absurd (hv.1 rfl) hc0
    obtain ⟨rfl, rfl⟩ := hz1
    have hcb := d0 hc0
    clear d0
    go_wp2_with fail
    go_ret2
    exact ⟨rfl, HB2.out⟩

end Go.Proofs.Ytiaebilcgmahlaa
