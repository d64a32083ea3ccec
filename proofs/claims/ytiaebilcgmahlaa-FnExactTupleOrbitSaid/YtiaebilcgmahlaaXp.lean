import Derived.Test.YtiaebilcgmahlaaXo
import Derived.Test.YtiaebilcgmahlaaXm
import Derived.Test.YtiaebilcgmahlaaXk
namespace Go.Proofs.Ytiaebilcgmahlaa
open Go Go.RowKit
open Classical
set_option maxHeartbeats 4000000
set_option maxRecDepth 100000 in
theorem cowI (A : Option Addr) (n c : Nat) (f : List (List Int)) (B : Option Addr) (k d : Nat) (s : List (List Int)) (C : Option Addr) (m e : Nat) (xs : List Int) (zs : List (List Int)) (code : Int) (kz : Nat) (w : World) (hz : ZArg 1048576 w A n f B k s) (hm : xs.length = m) (hb : m ≤ 1048576) (hr : Rd w C xs) (hres : CowR f s xs zs code) (hkz : zs.length = kz) :
    Calls Try.prog 30 #[.agg #[.slice A n c, .slice B k d], .slice C m e] w (TPost 25 2 kz zs code w) := by
  have HZ := hide hz
  have HM := hide hm
  have HR := hide hr
  have HKZ := hide hkz
  have HB0 := hide ((Below.refl _ w).alloc (Nat.le_refl _) (Obj.cells #[Value.slice A n c, Value.slice B k d] 29))
  have HK0 := hide (Blk.new w 29 [.slice A n c, .slice B k d])
  obtain ⟨wc, hwc⟩ : ∃ wc, WdC f s [xs] wc := WdC.ex f s [xs]
  have HWC := hide hwc
  have HRES := hide hres
  have d0 : ¬ wc = 0 → (wc != 0) = true := fun h => by simpa using h
  have d1 : wc = 0 → (wc != 0) = false := fun h => by simp [h]
  clear hz hm hr hkz hwc hres
  go_enter Try.func30, Try.ntmps30
  have k0 := HK0.out.cell 0 _ rfl
  have k1 := HK0.out.cell 1 _ rfl
  go_wp2_with fail
  clear k0 k1
  refine calls_gen fun w1 hw1 => ?_
  obtain ⟨L1, hL1⟩ : ∃ L1, (w.alloc (Obj.cells #[Value.slice A n c, Value.slice B k d] 29)).heap.size = L1 := ⟨_, rfl⟩
  have hb1 : Below (w.alloc (Obj.cells #[Value.slice A n c, Value.slice B k d] 29)).heap.size (w.alloc (Obj.cells #[Value.slice A n c, Value.slice B k d] 29)) w1 := by rw [hw1]; exact (Below.refl _ _).alloc (Nat.le_refl _) _
  have HL1 : Hid (Blk w1 (w.heap.size + 1) 25 [.slice C m e]) := hide (by rw [hw1]; have h := Blk.new (w.alloc (Obj.cells #[Value.slice A n c, Value.slice B k d] 29)) 25 [.slice C m e]; simpa using h)
  have HB1 := hide (HB0.out.trans (hb1.mono HB0.out.size))
  have HK1 := hide (HK0.out.later hb1)
  have HRR : Hid (Rd2 w1 (some ⟨w.heap.size + 1, 0, none⟩) [xs]) := hide (fun _ => ⟨_, 0, rfl, HL1.out.lt, fun i hi => by
    have hi0 : i = 0 := by simpa using hi
    subst hi0
    exact ⟨C, e, by have h := HL1.out.cell 0 _ rfl; rw [Nat.zero_add]; rw [show ([xs].getD 0 []).length = m from HM.out]; exact h, HR.out.later HB1.out⟩⟩)
  clear hw1 hb1 hL1
  refine (wordFault_any A B _ n c k d 1 1 f s [xs] wc _ (HZ.out.later HB1.out) rfl (by omega) (fun i hi => by have hi0 : i = 0 := (by simpa using hi); subst hi0; show xs.length ≤ 1048576; rw [HM.out]; exact hb) HRR.out HWC.out).mono ?_
  rintro e w2 ⟨rfl, hb2⟩
  have HB2 := hide (HB1.out.trans (hb2.mono HB1.out.size))
  have HK2 := hide (HK1.out.later hb2)
  clear hb2 HRR HL1
  by_cases hc0 : wc = 0
  · subst hc0
    obtain ⟨hs, hw⟩ := HWC.out.zero rfl
    obtain rfl := (HZ.out.same hs.1).symm
    have hn := HZ.out.sz.fl
    have hw1 := wrds1.1 hw
    rw [hn] at hw1
    have HW := hide hw1
    have HS := hide hs
    have HOR : Hid (OrbR f s xs 1000 zs code) := hide (by
      rcases HRES.out with ⟨_, h⟩ | ⟨h1, h2, _⟩
      · exact h
      · exact absurd (h1.uniq HWC.out) h2)
    clear hs hw hw1 hn d0
    have k0 := HK2.out.cell 0 _ rfl
    have k1 := HK2.out.cell 1 _ rfl
    by_cases hf : FewT (leH f) (leH s) xs 1000
    · have HF := hide hf
      clear hf
      go_wp2_with fail
      refine (classOf_yes A n c f B d s C m _ xs _ (HZ.out.later HB2.out) HS.out HW.out HM.out (HR.out.later HB2.out) HF.out).mono ?_
      rintro e w3 ⟨L, bm, hcl, hll, rfl, hb3, hbm, hme⟩
      have HB3 := hide (HB2.out.trans (hb3.mono HB2.out.size))
      have HCL := hide hcl
      have HME := hide hme
      have hsz := HB2.out.size
      clear hb3 hcl hme k0 k1
      go_wp2_with fail
      refine (listsOf_any bm m L _ HME.out HCL.out.1 (fun p hp => by rw [((HCL.out.2 p).1 hp).len]; exact HM.out) (fun p hp => (((HCL.out.2 p).1 hp).tup (HS.out.pb HZ.out.sz.fl) HW.out.tup).sm (HZ.out.small HS.out.1).2) (by have := HW.out.1; have := HM.out; omega) HCL.out.pos (by omega)).mono ?_
      rintro e w4 ⟨v, L', vals, rfl, hb4, hl4, ha4, hm4⟩
      obtain ⟨A4, c4, hv, hobj⟩ := hl4.shape
      have hz1 : L' = zs ∧ code = 0 := by
        rcases HOR.out with ⟨h1, h2, _, h3⟩ | ⟨h1, _⟩
        · exact ⟨(HCL.out.sorted ha4 hm4).ascEq h1 ha4 h2, h3⟩
        · exact absurd HF.out h1
      obtain ⟨rfl, rfl⟩ := hz1
      rw [HKZ.out] at hv
      subst hv
      have HB4 := hide (HB3.out.trans (hb4.mono HB3.out.size))
      have HO4 := hide (hobj.mono (lo' := w.heap.size) HB3.out.size (Nat.le_refl _))
      clear hb4 hl4 ha4 hm4 hobj
      go_wp2_with fail
      go_ret2
      exact ⟨_, _, rfl, HB4.out, HO4.out⟩
    · have HF := hide hf
      clear hf
      have hz1 : zs = [] ∧ code = 3 := by
        rcases HOR.out with ⟨h1, _, h2, _⟩ | ⟨_, h1⟩
        · exact absurd ⟨zs, h1, h2⟩ HF.out
        · exact h1
      obtain ⟨rfl, rfl⟩ := hz1
      obtain rfl : kz = 0 := by simpa using HKZ.out.symm
      go_wp2_with fail
      refine (classOf_no A n c f B d s C m _ xs _ (HZ.out.later HB2.out) HS.out HW.out HM.out (HR.out.later HB2.out) HF.out).mono ?_
      rintro e w3 ⟨rfl, hb3⟩
      have HB3 := hide (HB2.out.trans (hb3.mono HB2.out.size))
      clear hb3 k0 k1
      go_wp2_with fail
      go_ret2
      exact ⟨_, _, rfl, HB3.out, .inl ⟨rfl, rfl⟩⟩
  · have hz1 : zs = [] ∧ code = wc := by
      rcases HRES.out with ⟨h1, _⟩ | ⟨h1, _, h3⟩
      · exact absurd (HWC.out.uniq h1) hc0
      · exact ⟨h3, h1.uniq HWC.out⟩
    obtain ⟨rfl, rfl⟩ := hz1
    obtain rfl : kz = 0 := by simpa using HKZ.out.symm
    have hcb := d0 hc0
    clear d0 d1
    go_wp2_with fail
    go_ret2
    exact ⟨_, _, rfl, HB2.out, .inl ⟨rfl, rfl⟩⟩
end Go.Proofs.Ytiaebilcgmahlaa
namespace Go.Proofs.Ytiaebilcgmahlaa
open Go Go.RowKit
open Classical
set_option maxHeartbeats 8000000
theorem Qs.start3 {ts t : TypeId} {B g : Nat} {w' : World} {vs : Value} {A A2 : Option Addr} {c c2 : Nat} {r : List Int} (hB : B ≤ w'.heap.size) (hg : g = w'.heap.size) (hs : LstV ts t B w' vs [r] [.slice A r.length c]) (hvs : ∀ g0, vs.ownBlock = some g0 → g0 < w'.heap.size) (hr2 : Obj1 t B w'.heap.size w' A2 r) :
    Qs ts t B (w'.alloc (.cells #[.slice A2 r.length c2] ts)) (.slice (some ⟨g, 0, none⟩) 1 1) vs [r] [r] [.slice A2 r.length c2] [.slice A r.length c] := by
  have h2 : Below w'.heap.size w' (w'.alloc (.cells #[.slice A2 r.length c2] ts)) := (Below.refl _ _).alloc (Nat.le_refl _) _
  subst hg
  refine ⟨LstV.single hr2 hB, (hs.later h2).own, ⟨rfl, (hs.later h2).row⟩, fun g0 hg0 e => ?_⟩
  simp [Value.ownBlock] at hg0
  have := hvs g0 e
  omega
/-- How the search of tuples stands, or that it has found too many. -/
def WlkT (h1 h2 : Nat → Nat → Int) (st : List Int) (M : Nat) (q : List (List Int)) (j k : Nat) : Prop := Que h1 h2 st q j k ∨ (M < q.length ∧ q.Nodup ∧ st ∈ q ∧ ∀ y, y ∈ q → Tch h1 h2 st y)
section
variable {h1 h2 : Nat → Nat → Int} {st : List Int} {M : Nat} {q : List (List Int)} {j k : Nat}
theorem WlkT.nd (h : WlkT h1 h2 st M q j k) : q.Nodup := by
  rcases h with h | h
  · exact h.nd
  · exact h.2.1
theorem WlkT.start (h : WlkT h1 h2 st M q j k) : st ∈ q := by
  rcases h with h | h
  · exact h.start
  · exact h.2.2.1
theorem WlkT.gen (h : WlkT h1 h2 st M q j k) : ∀ y, y ∈ q → Tch h1 h2 st y := by
  rcases h with h | h
  · exact h.rch
  · exact h.2.2.2
theorem WlkT.srch (h : WlkT h1 h2 st M q j k) (hM : q.length ≤ M) : Que h1 h2 st q j k := by
  rcases h with h | h
  · exact h
  · have := h.1; omega
theorem WlkT.over (h : WlkT h1 h2 st M q j k) (hM : M < q.length) (j' k' : Nat) : WlkT h1 h2 st M q j' k' := .inr ⟨hM, h.nd, h.start, h.gen⟩
theorem WlkT.many (h : WlkT h1 h2 st M q j k) (hM : M < q.length) : ¬ FewT h1 h2 st M := not_few2 h.nd h.gen hM
end
set_option maxRecDepth 100000 in
theorem reach1_any (A : Option Addr) (n c : Nat) (f : List (List Int)) (B : Option Addr) (d : Nat) (s0 : List (List Int)) (C : Option Addr) (m e : Nat) (st : List Int) (limit : Nat) (w : World) (hz : ZArg 1048576 w A n f B n s0) (hs : SolF f s0) (ht : Tup n st) (hm : st.length = m) (h1m : 1 ≤ m) (hr : Rd w C st) (hl : limit ≤ 5000) :
    Calls Try.prog 53 #[.agg #[.slice A n c, .slice B n d], .slice C m e, .int .i64 limit] w fun e w' => ∃ z A' c', e = .returned (.slice A' z.length c') ∧ Below w.heap.size w w' ∧ z.length ≤ limit + 1 ∧ Asc z ∧ Rd2 w' A' z ∧ ((Cls (leH f) (leH s0) st z ∧ z.length ≤ limit) ∨ (¬ FewT (leH f) (leH s0) st limit ∧ limit < z.length)) := by
  have HZ := hide hz
  have HP : Hid (PMap f s0) := hide hs.1
  have HPB := hide (hs.pb hz.sz.fl)
  have HT := hide ht
  have HM := hide hm
  have hm12 : m ≤ 12 := by rw [← hm]; exact ht.1
  obtain ⟨i2, hj, hy0, hy1, hy2⟩ := info_parts neInfo2
  obtain ⟨bx, ox, rfl, hbx, hcx⟩ := hr (by omega)
  have HCX := hide hcx
  clear hz hs ht hm hr hcx
  go_enter Try.func53, Try.ntmps53
  go_upto_region 1 with fail
  refine wp_gen fun w2 hw2 => ?_
  have HB2 : Hid (Below w.heap.size w w2) := hide (by rw [hw2]; exact (Below.refl _ w).alloc (Nat.le_refl _) _)
  have HK2 : Hid (Blk w2 w.heap.size 29 [.slice A n c, .slice B n d]) := hide (by rw [hw2]; exact Blk.new _ _ _)
  have hs2 := HB2.out.size
  clear hw2
  go_wp2_with fail
  refine (own_any bx ox m e st _ HM.out (by omega) (by omega) (fun i hi => (HB2.out.cell (p := ⟨bx, ox + i, none⟩) hbx).trans (HCX.out i hi))).mono ?_
  rintro e w3 ⟨v3, rfl, hb3, ho3⟩
  obtain ⟨A3, c3, hv3, hr3⟩ := own_shape ho3
  subst hv3
  have HB3 := hide hb3
  have HU3 := hide hr3.obj
  clear hb3 ho3 hr3
  go_wp2_with fail
  refine calls_gen fun w4 hw4 => ?_
  have HB4 : Hid (Below w2.heap.size w2 w4) := hide (by rw [hw4]; exact HB3.out.alloc HB3.out.size _)
  have HQ4 : Hid (LstV 25 2 w2.heap.size w4 (.slice (some ⟨w3.heap.size, 0, none⟩) 1 1) [st] [.slice A3 m c3]) := hide (by
    rw [hw4]
    have h := LstV.single (c := c3) (ts := 25) HU3.out HB3.out.size
    rw [HM.out] at h
    exact h)
  have hlt4 : w3.heap.size < w4.heap.size := by rw [hw4]; simp
  clear hw4 HU3 HB3
  refine (own_any bx ox m _ st _ HM.out (by omega) (by have := HB4.out.size; omega) (fun i hi => ((HB2.out.trans (HB4.out.mono hs2)).cell (p := ⟨bx, ox + i, none⟩) hbx).trans (HCX.out i hi))).mono ?_
  rintro e w5 ⟨v5, rfl, hb5, ho5⟩
  obtain ⟨A5, c5, hv5, hr5⟩ := own_shape ho5
  subst hv5
  have HB5 := hide (HB4.out.trans (hb5.mono HB4.out.size))
  have HQ5 := hide (HQ4.out.later hb5)
  have HU5 := hide (hr5.obj.mono (lo' := w2.heap.size) HB4.out.size (Nat.le_refl _))
  have hlt5 : w3.heap.size < w5.heap.size := by have := hb5.size; omega
  clear hb5 ho5 hr5 HB4 HQ4
  go_upto_region 2 with fail
  refine wp_gen fun w6 hw6 => ?_
  have HB6 : Hid (Below w2.heap.size w2 w6) := hide (by rw [hw6]; exact HB5.out.alloc HB5.out.size _)
  have HQ6 : Hid (Qs 25 2 w2.heap.size w6 (.slice (some ⟨w5.heap.size, 0, none⟩) 1 1) (.slice (some ⟨w3.heap.size, 0, none⟩) 1 1) [st] [st] [.slice A5 m c5] [.slice A3 m c3]) := hide (by
    have h := Qs.start3 (g := w5.heap.size) (c := c3) (c2 := c5) (A := A3) (A2 := A5) (r := st) HB5.out.size rfl (by rw [HM.out]; exact HQ5.out) (fun g0 hg0 => by simp [Value.ownBlock] at hg0; omega) HU5.out
    rw [HM.out] at h
    rw [hw6]; exact h)
  clear hw6 HB5 HQ5 HU5
  go_wp2_with fail
  go_loopw [7, 8, 9] (fun s v i wi => ∃ (j : Nat) (q z : List (List Int)) (qv zv : List Value), j ≤ q.length ∧ i = .int .i64 j ∧ WlkT (leH f) (leH s0) st limit q j 0 ∧ q.length ≤ limit + 1 ∧ Asc z ∧ (∀ x, x ∈ z ↔ x ∈ q) ∧ Below w2.heap.size w2 wi ∧ Qs 25 2 w2.heap.size wi v s q z qv zv) (fun _ _ i _ => limit + 1 - (intOf i).toNat)
  case atStart => exact ⟨0, _, _, _, _, by simp, rfl, .inl (Que.begin st), by simp, Asc.one _, fun x => Iff.rfl, HB6.out, HQ6.out⟩
  case round =>
    obtain ⟨j, q, z, qv, zv, hjq, rfl, hwk, hql, hasc, hmem, hbe, hqs⟩ := hrel
    clear HQ6
    obtain ⟨Ag, cg, hv, hog⟩ := hqs.q.shape
    subst hv
    have HW := hide hwk
    have HAS := hide hasc
    have HME := hide hmem
    have HB := hide hbe
    have HQ := hide hqs
    clear hwk hasc hmem hbe hqs hog
    obtain ⟨fl, hfe⟩ : ∃ fl, q.length = fl := ⟨_, rfl⟩
    have HFE := hide hfe
    rw [hfe] at hjq hql
    rw [hfe]
    clear hfe
    by_cases hgo : j < fl ∧ fl ≤ limit
    · obtain ⟨hjf, hfl⟩ := hgo
      have hjz : (j : Int) < fl := by omega
      have hfz : (fl : Int) ≤ limit := by omega
      go_wp2_with fail
      go_loopw [7, 8, 10] (fun s v i wi => ∃ (k2 : Nat) (q z : List (List Int)) (qv zv : List Value), k2 ≤ m - 1 ∧ i = .int .i64 k2 ∧ j < q.length ∧ WlkT (leH f) (leH s0) st limit q j k2 ∧ q.length ≤ limit + 1 ∧ Asc z ∧ (∀ x, x ∈ z ↔ x ∈ q) ∧ Below w2.heap.size w2 wi ∧ Qs 25 2 w2.heap.size wi v s q z qv zv) (fun _ _ i _ => m - (intOf i).toNat)
      case atStart => exact ⟨0, q, z, qv, zv, Nat.zero_le _, rfl, by rw [HFE.out]; exact hjf, HW.out, by rw [HFE.out]; exact hql, HAS.out, HME.out, HB.out, by have h := HQ.out; rw [HFE.out] at h; exact h⟩
      case round =>
        obtain ⟨k2, q2, z2, qv2, zv2, hk2, rfl, hjf2, hwk2, hql2, hasc2, hmem2, hbe2, hqs2⟩ := hrel
        clear HW HAS HME HB HQ HFE hfl hql hfz
        obtain ⟨Ag2, cg2, hv2, hog2⟩ := hqs2.q.shape
        have hz0 : 0 < z2.length := by
          have hx : q2.getD j [] ∈ z2 := (hmem2 _).2 (tgetD_mem _ _ _ hjf2)
          cases z2 with
          | nil => cases hx
          | cons a l => simp
        obtain ⟨gs, cs, hvs, hcs, hcm, hgs, hsc, hsr⟩ := hqs2.look hz0
        subst hv2
        subst hvs
        have HW := hide hwk2
        have HAS := hide hasc2
        have HME := hide hmem2
        have HB := hide hbe2
        obtain ⟨fl2, hfe2⟩ : ∃ fl2, q2.length = fl2 := ⟨_, rfl⟩
        obtain ⟨zl, hze⟩ : ∃ zl, z2.length = zl := ⟨_, rfl⟩
        have HFE := hide hfe2
        have HZE := hide hze
        have HSC := hide hsc
        have HSR := hide hsr
        rw [hfe2] at hjf2 hql2 hqs2
        rw [hze] at hz0 hcs hqs2
        have HQ := hide hqs2
        clear hwk2 hasc2 hmem2 hbe2 hsc hsr hqs2
        rw [hfe2, hze]
        by_cases hgo : k2 + 1 < m ∧ fl2 ≤ limit
        · obtain ⟨hkm, hfl⟩ := hgo
          have hkz : (k2 : Int) + 1 < m := by omega
          have hfz : (fl2 : Int) ≤ limit := by omega
          have hjz2 : (j : Int) < fl2 := by omega
          obtain ⟨x, hx⟩ : ∃ x, q2.getD j [] = x := ⟨_, rfl⟩
          have hxf : Tch (leH f) (leH s0) st x := by rw [← hx]; exact HW.out.gen _ (tgetD_mem _ _ _ (by rw [hfe2]; exact hjf2))
          have hxl : x.length = m := by rw [hxf.len]; exact HM.out
          have HXT := hide (hxf.tup HPB.out HT.out)
          obtain ⟨bX, oX, eX1, eX2, eX5⟩ := hog2.rd (by rw [hfe2]; omega)
          obtain ⟨AX, cX, eX3, eX4⟩ := eX5 j (by rw [hfe2]; exact hjf2)
          rw [hx] at eX3 eX4
          rw [hxl] at eX3
          have HRX4 := hide eX4
          clear hog2 hfe2 hze eX4 eX5
          subst eX1
          have hkx : k2 + 1 < st.length := by rw [HM.out]; exact hkm
          obtain ⟨y, hy⟩ : ∃ y, mvL (leH f) (leH s0) x k2 = y := ⟨_, rfl⟩
          have HYT : Hid (Tch (leH f) (leH s0) st y) := hide (by rw [← hy]; exact .step hxf hkx)
          have HX := hide hx
          have HXL := hide hxl
          have HY := hide hy
          have HYL : Hid (y.length = m) := hide (by rw [HYT.out.len]; exact HM.out)
          clear hx hxf hxl hy hkx
          have HKw := hide (HK2.out.later HB.out)
          have HZw := hide (HZ.out.later (HB2.out.trans (HB.out.mono hs2)))
          have HBc := hide (Below.refl wr.heap.size wr)
          have kk0 := HKw.out.cell 0 _ rfl
          have kk1 := HKw.out.cell 1 _ rfl
          have kx := eX3
          go_upto_region 8 with fail
          go_cut [11] (fun vv wx => ∃ A6 c6, vv = .slice A6 m c6 ∧ Below wr.heap.size wr wx ∧ Res 2 wr.heap.size wx A6 y)
          case first =>
            go_region_held3 (fun w' => w'.cell? ⟨w.heap.size, 0, none⟩ = some (.slice A n c) ∧ w'.cell? ⟨w.heap.size, 1, none⟩ = some (.slice B n d) ∧ w'.cell? ⟨bX, oX + j, none⟩ = some (.slice AX m cX)) (first | exact ⟨kk0, kk1, kx⟩ | go_keep) (first | (go_at_call 65; go_must (refine calls_gen fun wc hwc => ?_; (first | have hbx := drew_below hwc | have hbx := eq_below hwc); replace HBc := hide (HBc.out.trans (hbx.mono HBc.out.size)); replace HKw := hide (HKw.out.later hbx); clear hwc hbx; have HSZ := hide HBc.out.size; refine (moveS_any A n c f B d s0 AX m cX x k2 _ (HZw.out.later HBc.out) HP.out HXL.out (HRX4.out.later HBc.out) HXT.out hkm).mono ?_; rintro e wd ⟨A6, c6, rfl, hbd, hres⟩; replace HBc := hide (HBc.out.trans (hbd.mono HBc.out.size)); replace HKw := hide (HKw.out.later hbd); clear hbd; have kk0 := HKw.out.cell 0 _ rfl; have kk1 := HKw.out.cell 1 _ rfl; rw [HY.out] at hres; have HRES := hide hres; clear hres; have kx := (HBc.out.cell (p := ⟨bX, oX + j, none⟩) eX2).trans eX3)))
            all_goals go_wp2_with fail
            all_goals go_meet
            all_goals refine ⟨_, _, rfl, ?_⟩
            all_goals first | exact ⟨HBc.out, HRES.out.mono HSZ.out⟩ | exact ⟨HBc.out.drew, (HRES.out.mono HSZ.out).later ((Below.refl _ _).drew)⟩
          case rest =>
            obtain ⟨A6, c6, rfl, hb6, hres6⟩ := hcut
            have HB6 := hide hb6
            have HR6 := hide hres6
            clear hb6 hres6
            go_wp2_with fail
            have HQ6 := hide (HQ.out.later HB6.out)
            have hzf : zl ≤ fl2 := by
              have h := tnodup_le HAS.out.nodup (fun a ha => (HME.out a).1 ha)
              rw [HFE.out, HZE.out] at h
              exact h
            clear HKw HZw HBc kk0 kk1 kx
            have HZL : Hid (∀ i, i < z2.length → (z2.getD i []).length = m) := hide (fun i hi => by rw [(HW.out.gen _ ((HME.out _).1 (tgetD_mem _ _ _ hi))).len]; exact HM.out)
            refine (search_any _ A6 zl cs m c6 z2 y _ HZE.out (by omega) HZL.out HYL.out hm12 HAS.out (HSR.out.later HB6.out) HR6.out.rd).mono ?_
            rintro e w7 ⟨pos, rfl, hplc, hq7⟩
            have HB7 := hide (hq7.below wc.heap.size)
            have hptop := hplc.top
            rw [HZE.out] at hptop
            have HPLC := hide hplc
            clear hplc hq7
            have HQ7 := hide (HQ6.out.later HB7.out)
            have HR7 := hide (HR6.out.later HB7.out)
            have HB7w := hide ((HB.out.trans (HB6.out.mono HB.out.size)).trans (HB7.out.mono (HB.out.trans (HB6.out.mono HB.out.size)).size))
            have hwr0 := HB.out.size
            have hw60 := HB6.out.size
            have hsz7 := HB7.out.size
            have HLOW := hide HQ.out.q.low
            have HSC7 : Hid (∀ i u, zv2[i]? = some u → w7.cell? ⟨gs, i, none⟩ = some u) := hide (fun i u hu => (HB7.out.cell (p := ⟨gs, i, none⟩) (by show gs < _; omega)).trans ((HB6.out.cell (p := ⟨gs, i, none⟩) hgs).trans (HSC.out i u hu)))
            clear HQ HQ6 HR6 HSC HSR HB HB6 HB7
            by_cases hpz : pos < zl
            · have hpzz : (pos : Int) < zl := by omega
              obtain ⟨Az, cz, hzv, hoz⟩ := HQ7.out.r.2 pos (by rw [HZE.out]; exact hpz)
              rw [HZL.out pos (by rw [HZE.out]; exact hpz)] at hzv
              have hcz := HSC7.out pos _ hzv
              have HOZ := hide hoz
              clear hzv hoz
              by_cases heq : z2.getD pos [] = y
              · have HEQ := hide heq
                clear heq
                go_wp2_with fail
                refine (same_any Az A6 m cz m c6 (z2.getD pos []) y true _ (HZL.out pos (by rw [HZE.out]; exact hpz)) HYL.out (by omega) (by omega) HOZ.out.rd HR7.out.rd ⟨fun _ => HEQ.out, fun _ => rfl⟩).mono ?_
                rintro e w8 ⟨rfl, hq8⟩
                have HB8 := hide (hq8.below w7.heap.size)
                clear hq8
                go_wp2_with fail
                go_roundw
                case rel =>
                  have hin : y ∈ q2 := (HME.out y).1 ((HPLC.out.mem HAS.out).2 ⟨by rw [HZE.out]; exact hpz, HEQ.out⟩)
                  refine ⟨k2 + 1, q2, z2, qv2, zv2, by omega, by go_num, by rw [HFE.out]; exact hjf2, .inl ((HW.out.srch (by rw [HFE.out]; exact hfl)).keep (by rw [HX.out, HY.out]; exact hin)), by rw [HFE.out]; exact hql2, HAS.out, HME.out, HB7w.out.trans (HB8.out.mono HB7w.out.size), ?_⟩
                  have h := HQ7.out.later HB8.out
                  first | exact h | (rw [HFE.out, HZE.out]; exact h)
                case measure => simp [intOf]; omega
              · have HNE := hide heq
                clear heq
                have hnew : y ∉ z2 := fun h => HNE.out ((HPLC.out.mem HAS.out).1 h).2
                have HNEW := hide hnew
                clear hnew
                go_wp2_with fail
                refine (same_any Az A6 m cz m c6 (z2.getD pos []) y false _ (HZL.out pos (by rw [HZE.out]; exact hpz)) HYL.out (by omega) (by omega) HOZ.out.rd HR7.out.rd ⟨fun h => (Bool.noConfusion h), fun h => absurd h HNE.out⟩).mono ?_
                rintro e w8 ⟨rfl, hq8⟩
                have HB8 := hide (hq8.below w7.heap.size)
                clear hq8
                have hsz8 := HB8.out.size
                have HQ8 := hide (HQ7.out.later HB8.out)
                have HR8 := hide (HR7.out.later HB8.out)
                have HB8w := hide (HB7w.out.trans (HB8.out.mono HB7w.out.size))
                have HSC8 : Hid (∀ i u, zv2[i]? = some u → w8.cell? ⟨gs, i, none⟩ = some u) := hide (fun i u hu => (HB8.out.cell (p := ⟨gs, i, none⟩) (by show gs < _; omega)).trans (HSC7.out i u hu))
                clear HQ7 HR7 HB7w HSC7 HB8 HOZ
                have HZV : Hid (zv2.length = zl) := hide (by have h := HQ8.out.slen; rw [HZE.out] at h; exact h)
                have HONE := hide HQ8.out.r.one
                have hgs8 : gs < w8.heap.size := by omega
                have HOW9 : Hid ((w8.alloc (.cells #[.slice A6 m c6] 25)).ownsRow w8.heap.size 25 1 (.slice (some ⟨w8.heap.size, 0, none⟩) 1 1) 1 [.slice A6 m c6]) := hide ⟨rfl, .inr ⟨w8.heap.size, 1, #[.slice A6 m c6], rfl, Nat.le_refl _, heap_alloc_new _ _, Nat.le_refl _, by unfold maxLen; omega, by simp, by simp⟩⟩
                have HAL9 : Hid (Below w8.heap.size w8 (w8.alloc (.cells #[.slice A6 m c6] 25))) := hide ((Below.refl _ _).alloc (Nat.le_refl _) _)
                go_wp2_with (at_builtin; refine wpList_append_own _ rfl _ _ 22 rfl w8.heap.size 25 i2 (.slice none 0 0) 1 24 Try.underlying22 hj hy0 hy1 hy2 rfl (by decide) _ _ _ rfl HOW9.out _ _ _ (zv2.drop pos) rfl ?b0 ?b1 ?b2 ?b3 ?b4 ?b5 ?_)
                case b0 => rw [List.length_drop, HZV.out]; first | omega | (simp; omega)
                case b1 =>
                  intro j u hu
                  first
                    | exact (by rw [addr_add]; exact (HAL9.out.cell (p := ⟨gs, pos + j, none⟩) hgs8).trans (HSC8.out (pos + j) u (by rw [List.getElem?_drop] at hu; exact hu)))
                    | (exfalso; have h := (List.getElem?_eq_some_iff.1 hu).1; rw [List.length_drop, HZV.out] at h; omega)
                case b2 => exact fun u hu => HONE.out u (List.mem_of_mem_drop hu)
                case b3 => unfold maxLen; omega
                case b4 => omega
                case b5 => simp
                intro v9 w9 hown9 hgrow9 _
                have HB9 : Hid (Below w8.heap.size w8 w9) := hide (HAL9.out.grown hgrow9 (by simp) (fun g hg => (HOW9.out.lt g hg).1))
                have hsz9 := HB9.out.size
                have HOW9' := hide hown9
                clear hown9 hgrow9 HOW9 HAL9
                obtain ⟨g9, c9, hv9, hg9, hcl9⟩ := own_look HOW9'.out (by omega)
                subst hv9
                have HCL9 := hide hcl9
                clear hcl9
                have HE9 : Hid ((w9.alloc (.cells #[] 25)).ownsRow w8.heap.size 25 1 (.slice (some ⟨w9.heap.size, 0, none⟩) 0 0) 0 []) := hide (own_low (ne_empty w9 _) hsz9)
                have HAL10 : Hid (Below w9.heap.size w9 (w9.alloc (.cells #[] 25))) := hide ((Below.refl _ _).alloc (Nat.le_refl _) _)
                go_wp2_with (at_builtin; refine wpList_append_own _ rfl _ _ 22 rfl w8.heap.size 25 i2 (.slice none 0 0) 1 24 Try.underlying22 hj hy0 hy1 hy2 rfl (by decide) _ _ _ rfl HE9.out _ _ _ (zv2.take pos) rfl ?d0 ?d1 ?d2 ?d3 ?d4 ?d5 ?_)
                case d0 => rw [List.length_take, HZV.out]; omega
                case d1 =>
                  intro j u hu
                  rw [addr_add, Nat.zero_add]
                  refine ((HAL10.out.cell (p := ⟨gs, j, none⟩) (by show gs < _; omega)).trans (HB9.out.cell (p := ⟨gs, j, none⟩) hgs8)).trans (HSC8.out j u ?_)
                  rw [List.getElem?_take] at hu
                  by_cases e : j < pos
                  · rw [if_pos e] at hu; exact hu
                  · rw [if_neg e] at hu; cases hu
                case d2 => exact fun u hu => HONE.out u (List.mem_of_mem_take hu)
                case d3 => unfold maxLen; omega
                case d4 => omega
                case d5 => simp; omega
                intro v10 w10 hown10 hgrow10 _
                have HB10 : Hid (Below w9.heap.size w9 w10) := hide (HAL10.out.grown hgrow10 (by simp) (fun g hg => by have h := (own_lt (ne_empty w9 25) hg).1; exact h))
                have hsz10 := HB10.out.size
                have HOW10 := hide hown10
                clear hown10 hgrow10 HE9 HAL10
                go_wp2_with (at_builtin; refine wpList_append_own _ rfl _ _ 22 rfl w8.heap.size 25 i2 (.slice none 0 0) 1 24 Try.underlying22 hj hy0 hy1 hy2 rfl (by decide) _ _ _ rfl HOW10.out _ _ _ ([.slice A6 m c6] ++ zv2.drop pos) rfl ?e0 ?e1 ?e2 ?e3 ?e4 ?e5 ?_)
                case e0 => rw [List.length_append, List.length_drop, HZV.out]; first | (simp; done) | (simp; omega) | omega
                case e1 =>
                  intro j u hu
                  rw [addr_add, Nat.zero_add]
                  exact (HB10.out.cell (p := ⟨g9, j, none⟩) hg9).trans (HCL9.out j u hu)
                case e2 =>
                  intro u hu
                  rcases List.mem_append.1 hu with h | h
                  · rw [List.mem_singleton] at h; subst h; rfl
                  · exact HONE.out u (List.mem_of_mem_drop h)
                case e3 => unfold maxLen; omega
                case e4 => omega
                case e5 => omega
                intro v11 w11 hown11 hgrow11 _
                have HB11 : Hid (Below w8.heap.size w8 w11) := hide ((HB9.out.trans (HB10.out.mono hsz9)).grown hgrow11 (by omega) (fun g hg => (own_lt HOW10.out hg).1))
                have hsz11 := HB11.out.size
                have HY11 : Hid (Obj1 2 wr.heap.size w11.heap.size w11 A6 y) := hide (HR8.out.later HB11.out).obj
                have HQ11 : Hid (Qs 25 2 w2.heap.size w11 (.slice (some ⟨bX, oX, none⟩) fl2 cg2) v11 q2 (insL z2 pos y) qv2 (zv2.take pos ++ .slice A6 y.length c6 :: zv2.drop pos)) := hide (by
                    have h := HQ8.out.sorted (k := pos) (p := y) (A := A6) (c := c6) (n := (zv2.take pos ++ .slice A6 y.length c6 :: zv2.drop pos).length) (v' := v11) HB11.out (by omega) (by rw [HZE.out]; omega) (HY11.out.mono hwr0 (Nat.le_refl _)) (by rw [insL_length, HZE.out]; simp [HZV.out]; omega) (by have h := own_self hown11; rw [HYL.out]; simpa using h)
                    first | exact h | (rw [HFE.out] at h; exact h))
                have HB11w := hide (HB8w.out.trans (HB11.out.mono HB8w.out.size))
                have HASC := hide (HAS.out.ins HPLC.out HNEW.out)
                clear hown11 hgrow11 HQ8 HR8 HB8w HSC8 HB9 HB10 HB11 HOW9' HOW10 HCL9 HONE
                have hs11 := HB11w.out.size
                have HOWQ : Hid (w11.ownsRow w2.heap.size 25 1 (.slice (some ⟨bX, oX, none⟩) fl2 cg2) fl2 qv2) := hide (by have h := HQ11.out.q.own; rw [HFE.out] at h; exact h)
                go_wp2_with (at_builtin; refine wpList_append_own_at _ rfl _ _ 22 rfl w2.heap.size 25 i2 (.slice none 0 0) 1 24 Try.underlying22 hj hy0 hy1 hy2 rfl (by decide) _ _ _ rfl (HOWQ.out.alloc _) ⟨w11.heap.size, 0, none⟩ 1 1 [.slice A6 m c6] rfl rfl ?f1 ?f2 ?f3 ?f4 ?f5 ?_)
                case f1 => exact ne_new
                case f2 => intro u hu; simp at hu; subst hu; rfl
                case f3 => unfold maxLen; omega
                case f4 => omega
                case f5 => simp; omega
                intro v12 w12 hown12 hgrow12 _ hat12
                have HO12 := hide hown12
                have HG12 := hide hgrow12
                have HAT := hide hat12
                clear hown12 hgrow12 hat12
                go_wp2_with fail
                go_roundw
                case rel =>
                  have hB12 : Below w2.heap.size w2 w12 := (HB11w.out.alloc hs11 _).grown HG12.out (by simp; omega) (fun g hg => (HOWQ.out.alloc (.cells #[.slice A6 m c6] 25)).lt g hg |>.1)
                  have hpush := HQ11.out.queued (tmp := .cells #[.slice A6 m c6] 25) (A := A6) (c := c6) (p := y) (w1 := w12) (v' := v12) (by decide) (HY11.out.mono hwr0 (Nat.le_refl _)) (fun i u g hu hg a ha => by have h1 := HLOW.out i u g hu hg; have h2 := (HY11.out.bounds a ha).1; omega) (by rw [HYL.out, HFE.out]; exact HO12.out) HG12.out (by have h := HAT.out; simpa using h)
                  have hnq : y ∉ q2 := fun h => HNEW.out ((HME.out y).2 h)
                  have hsr := ((HW.out.srch (by rw [HFE.out]; exact hfl)).add (by rw [HFE.out]; exact hjf2) HYT.out hnq).keep (by rw [tgetD_app _ _ _ _ (by rw [HFE.out]; exact hjf2), HX.out, HY.out]; simp)
                  exact ⟨k2 + 1, q2 ++ [y], insL z2 pos y, _, _, by omega, by go_num, by have h := HFE.out; simp; omega, .inl hsr, by have h := HFE.out; simp; omega, HASC.out, fun u => by rw [insL_mem, List.mem_append, HME.out u]; simp [or_comm], hB12, hpush⟩
                case measure => simp [intOf]; omega
            · have hge : zl ≤ pos := by omega
              have hgez : (zl : Int) ≤ pos := by omega
              have hnew : y ∉ z2 := fun h => by
                have h2 := ((HPLC.out.mem HAS.out).1 h).1
                rw [HZE.out] at h2
                exact hpz h2
              have HNEW := hide hnew
              clear hnew hpz
              have HQ8 := hide HQ7.out
              have HR8 := hide HR7.out
              have HB8w := hide HB7w.out
              have HSC8 := hide HSC7.out
              have hsz8 := hsz7
              clear HQ7 HR7 HB7w HSC7
              obtain ⟨w8, hw8⟩ : ∃ w8, w8 = w7 := ⟨_, rfl⟩
              subst hw8
              by_cases hcap : pos < cs
              · have hcapz : (pos : Int) < cs := by omega
                have HZV : Hid (zv2.length = zl) := hide (by have h := HQ8.out.slen; rw [HZE.out] at h; exact h)
                have HONE := hide HQ8.out.r.one
                have hgs8 : gs < w8.heap.size := by omega
                have HOW9 : Hid ((w8.alloc (.cells #[.slice A6 m c6] 25)).ownsRow w8.heap.size 25 1 (.slice (some ⟨w8.heap.size, 0, none⟩) 1 1) 1 [.slice A6 m c6]) := hide ⟨rfl, .inr ⟨w8.heap.size, 1, #[.slice A6 m c6], rfl, Nat.le_refl _, heap_alloc_new _ _, Nat.le_refl _, by unfold maxLen; omega, by simp, by simp⟩⟩
                have HAL9 : Hid (Below w8.heap.size w8 (w8.alloc (.cells #[.slice A6 m c6] 25))) := hide ((Below.refl _ _).alloc (Nat.le_refl _) _)
                go_wp2_with (at_builtin; refine wpList_append_own _ rfl _ _ 22 rfl w8.heap.size 25 i2 (.slice none 0 0) 1 24 Try.underlying22 hj hy0 hy1 hy2 rfl (by decide) _ _ _ rfl HOW9.out _ _ _ (zv2.drop pos) rfl ?b0 ?b1 ?b2 ?b3 ?b4 ?b5 ?_)
                case b0 => rw [List.length_drop, HZV.out]; first | omega | (simp; omega)
                case b1 =>
                  intro j u hu
                  first
                    | exact (by rw [addr_add]; exact (HAL9.out.cell (p := ⟨gs, pos + j, none⟩) hgs8).trans (HSC8.out (pos + j) u (by rw [List.getElem?_drop] at hu; exact hu)))
                    | (exfalso; have h := (List.getElem?_eq_some_iff.1 hu).1; rw [List.length_drop, HZV.out] at h; omega)
                case b2 => exact fun u hu => HONE.out u (List.mem_of_mem_drop hu)
                case b3 => unfold maxLen; omega
                case b4 => omega
                case b5 => simp
                intro v9 w9 hown9 hgrow9 _
                have HB9 : Hid (Below w8.heap.size w8 w9) := hide (HAL9.out.grown hgrow9 (by simp) (fun g hg => (HOW9.out.lt g hg).1))
                have hsz9 := HB9.out.size
                have HOW9' := hide hown9
                clear hown9 hgrow9 HOW9 HAL9
                obtain ⟨g9, c9, hv9, hg9, hcl9⟩ := own_look HOW9'.out (by omega)
                subst hv9
                have HCL9 := hide hcl9
                clear hcl9
                have HE9 : Hid ((w9.alloc (.cells #[] 25)).ownsRow w8.heap.size 25 1 (.slice (some ⟨w9.heap.size, 0, none⟩) 0 0) 0 []) := hide (own_low (ne_empty w9 _) hsz9)
                have HAL10 : Hid (Below w9.heap.size w9 (w9.alloc (.cells #[] 25))) := hide ((Below.refl _ _).alloc (Nat.le_refl _) _)
                go_wp2_with (at_builtin; refine wpList_append_own _ rfl _ _ 22 rfl w8.heap.size 25 i2 (.slice none 0 0) 1 24 Try.underlying22 hj hy0 hy1 hy2 rfl (by decide) _ _ _ rfl HE9.out _ _ _ (zv2.take pos) rfl ?d0 ?d1 ?d2 ?d3 ?d4 ?d5 ?_)
                case d0 => rw [List.length_take, HZV.out]; omega
                case d1 =>
                  intro j u hu
                  rw [addr_add, Nat.zero_add]
                  refine ((HAL10.out.cell (p := ⟨gs, j, none⟩) (by show gs < _; omega)).trans (HB9.out.cell (p := ⟨gs, j, none⟩) hgs8)).trans (HSC8.out j u ?_)
                  rw [List.getElem?_take] at hu
                  by_cases e : j < pos
                  · rw [if_pos e] at hu; exact hu
                  · rw [if_neg e] at hu; cases hu
                case d2 => exact fun u hu => HONE.out u (List.mem_of_mem_take hu)
                case d3 => unfold maxLen; omega
                case d4 => omega
                case d5 => simp; omega
                intro v10 w10 hown10 hgrow10 _
                have HB10 : Hid (Below w9.heap.size w9 w10) := hide (HAL10.out.grown hgrow10 (by simp) (fun g hg => by have h := (own_lt (ne_empty w9 25) hg).1; exact h))
                have hsz10 := HB10.out.size
                have HOW10 := hide hown10
                clear hown10 hgrow10 HE9 HAL10
                go_wp2_with (at_builtin; refine wpList_append_own _ rfl _ _ 22 rfl w8.heap.size 25 i2 (.slice none 0 0) 1 24 Try.underlying22 hj hy0 hy1 hy2 rfl (by decide) _ _ _ rfl HOW10.out _ _ _ ([.slice A6 m c6] ++ zv2.drop pos) rfl ?e0 ?e1 ?e2 ?e3 ?e4 ?e5 ?_)
                case e0 => rw [List.length_append, List.length_drop, HZV.out]; first | (simp; done) | (simp; omega) | omega
                case e1 =>
                  intro j u hu
                  rw [addr_add, Nat.zero_add]
                  exact (HB10.out.cell (p := ⟨g9, j, none⟩) hg9).trans (HCL9.out j u hu)
                case e2 =>
                  intro u hu
                  rcases List.mem_append.1 hu with h | h
                  · rw [List.mem_singleton] at h; subst h; rfl
                  · exact HONE.out u (List.mem_of_mem_drop h)
                case e3 => unfold maxLen; omega
                case e4 => omega
                case e5 => omega
                intro v11 w11 hown11 hgrow11 _
                have HB11 : Hid (Below w8.heap.size w8 w11) := hide ((HB9.out.trans (HB10.out.mono hsz9)).grown hgrow11 (by omega) (fun g hg => (own_lt HOW10.out hg).1))
                have hsz11 := HB11.out.size
                have HY11 : Hid (Obj1 2 wr.heap.size w11.heap.size w11 A6 y) := hide (HR8.out.later HB11.out).obj
                have HQ11 : Hid (Qs 25 2 w2.heap.size w11 (.slice (some ⟨bX, oX, none⟩) fl2 cg2) v11 q2 (insL z2 pos y) qv2 (zv2.take pos ++ .slice A6 y.length c6 :: zv2.drop pos)) := hide (by
                    have h := HQ8.out.sorted (k := pos) (p := y) (A := A6) (c := c6) (n := (zv2.take pos ++ .slice A6 y.length c6 :: zv2.drop pos).length) (v' := v11) HB11.out (by omega) (by rw [HZE.out]; omega) (HY11.out.mono hwr0 (Nat.le_refl _)) (by rw [insL_length, HZE.out]; simp [HZV.out]; omega) (by have h := own_self hown11; rw [HYL.out]; simpa using h)
                    first | exact h | (rw [HFE.out] at h; exact h))
                have HB11w := hide (HB8w.out.trans (HB11.out.mono HB8w.out.size))
                have HASC := hide (HAS.out.ins HPLC.out HNEW.out)
                clear hown11 hgrow11 HQ8 HR8 HB8w HSC8 HB9 HB10 HB11 HOW9' HOW10 HCL9 HONE
                have hs11 := HB11w.out.size
                have HOWQ : Hid (w11.ownsRow w2.heap.size 25 1 (.slice (some ⟨bX, oX, none⟩) fl2 cg2) fl2 qv2) := hide (by have h := HQ11.out.q.own; rw [HFE.out] at h; exact h)
                go_wp2_with (at_builtin; refine wpList_append_own_at _ rfl _ _ 22 rfl w2.heap.size 25 i2 (.slice none 0 0) 1 24 Try.underlying22 hj hy0 hy1 hy2 rfl (by decide) _ _ _ rfl (HOWQ.out.alloc _) ⟨w11.heap.size, 0, none⟩ 1 1 [.slice A6 m c6] rfl rfl ?f1 ?f2 ?f3 ?f4 ?f5 ?_)
                case f1 => exact ne_new
                case f2 => intro u hu; simp at hu; subst hu; rfl
                case f3 => unfold maxLen; omega
                case f4 => omega
                case f5 => simp; omega
                intro v12 w12 hown12 hgrow12 _ hat12
                have HO12 := hide hown12
                have HG12 := hide hgrow12
                have HAT := hide hat12
                clear hown12 hgrow12 hat12
                go_wp2_with fail
                go_roundw
                case rel =>
                  have hB12 : Below w2.heap.size w2 w12 := (HB11w.out.alloc hs11 _).grown HG12.out (by simp; omega) (fun g hg => (HOWQ.out.alloc (.cells #[.slice A6 m c6] 25)).lt g hg |>.1)
                  have hpush := HQ11.out.queued (tmp := .cells #[.slice A6 m c6] 25) (A := A6) (c := c6) (p := y) (w1 := w12) (v' := v12) (by decide) (HY11.out.mono hwr0 (Nat.le_refl _)) (fun i u g hu hg a ha => by have h1 := HLOW.out i u g hu hg; have h2 := (HY11.out.bounds a ha).1; omega) (by rw [HYL.out, HFE.out]; exact HO12.out) HG12.out (by have h := HAT.out; simpa using h)
                  have hnq : y ∉ q2 := fun h => HNEW.out ((HME.out y).2 h)
                  have hsr := ((HW.out.srch (by rw [HFE.out]; exact hfl)).add (by rw [HFE.out]; exact hjf2) HYT.out hnq).keep (by rw [tgetD_app _ _ _ _ (by rw [HFE.out]; exact hjf2), HX.out, HY.out]; simp)
                  exact ⟨k2 + 1, q2 ++ [y], insL z2 pos y, _, _, by omega, by go_num, by have h := HFE.out; simp; omega, .inl hsr, by have h := HFE.out; simp; omega, HASC.out, fun u => by rw [insL_mem, List.mem_append, HME.out u]; simp [or_comm], hB12, hpush⟩
                case measure => simp [intOf]; omega
              · have hcc : pos = cs := by omega
                subst hcc
                clear hcap
                have HZV : Hid (zv2.length = zl) := hide (by have h := HQ8.out.slen; rw [HZE.out] at h; exact h)
                have HONE := hide HQ8.out.r.one
                have hgs8 : gs < w8.heap.size := by omega
                have HOW9 : Hid ((w8.alloc (.cells #[.slice A6 m c6] 25)).ownsRow w8.heap.size 25 1 (.slice (some ⟨w8.heap.size, 0, none⟩) 1 1) 1 [.slice A6 m c6]) := hide ⟨rfl, .inr ⟨w8.heap.size, 1, #[.slice A6 m c6], rfl, Nat.le_refl _, heap_alloc_new _ _, Nat.le_refl _, by unfold maxLen; omega, by simp, by simp⟩⟩
                have HAL9 : Hid (Below w8.heap.size w8 (w8.alloc (.cells #[.slice A6 m c6] 25))) := hide ((Below.refl _ _).alloc (Nat.le_refl _) _)
                go_wp2_with (at_builtin; refine wpList_append_own _ rfl _ _ 22 rfl w8.heap.size 25 i2 (.slice none 0 0) 1 24 Try.underlying22 hj hy0 hy1 hy2 rfl (by decide) _ _ _ rfl HOW9.out _ _ _ (zv2.drop pos) rfl ?b0 ?b1 ?b2 ?b3 ?b4 ?b5 ?_)
                case b0 => rw [List.length_drop, HZV.out]; first | omega | (simp; omega)
                case b1 =>
                  intro j u hu
                  first
                    | exact (by rw [addr_add]; exact (HAL9.out.cell (p := ⟨gs, pos + j, none⟩) hgs8).trans (HSC8.out (pos + j) u (by rw [List.getElem?_drop] at hu; exact hu)))
                    | (exfalso; have h := (List.getElem?_eq_some_iff.1 hu).1; rw [List.length_drop, HZV.out] at h; omega)
                case b2 => exact fun u hu => HONE.out u (List.mem_of_mem_drop hu)
                case b3 => unfold maxLen; omega
                case b4 => omega
                case b5 => simp
                intro v9 w9 hown9 hgrow9 _
                have HB9 : Hid (Below w8.heap.size w8 w9) := hide (HAL9.out.grown hgrow9 (by simp) (fun g hg => (HOW9.out.lt g hg).1))
                have hsz9 := HB9.out.size
                have HOW9' := hide hown9
                clear hown9 hgrow9 HOW9 HAL9
                obtain ⟨g9, c9, hv9, hg9, hcl9⟩ := own_look HOW9'.out (by omega)
                subst hv9
                have HCL9 := hide hcl9
                clear hcl9
                have HE9 : Hid ((w9.alloc (.cells #[] 25)).ownsRow w8.heap.size 25 1 (.slice (some ⟨w9.heap.size, 0, none⟩) 0 0) 0 []) := hide (own_low (ne_empty w9 _) hsz9)
                have HAL10 : Hid (Below w9.heap.size w9 (w9.alloc (.cells #[] 25))) := hide ((Below.refl _ _).alloc (Nat.le_refl _) _)
                go_wp2_with (at_builtin; refine wpList_append_own _ rfl _ _ 22 rfl w8.heap.size 25 i2 (.slice none 0 0) 1 24 Try.underlying22 hj hy0 hy1 hy2 rfl (by decide) _ _ _ rfl HE9.out _ _ _ (zv2.take pos) rfl ?d0 ?d1 ?d2 ?d3 ?d4 ?d5 ?_)
                case d0 => rw [List.length_take, HZV.out]; omega
                case d1 =>
                  intro j u hu
                  rw [addr_add, Nat.zero_add]
                  refine ((HAL10.out.cell (p := ⟨gs, j, none⟩) (by show gs < _; omega)).trans (HB9.out.cell (p := ⟨gs, j, none⟩) hgs8)).trans (HSC8.out j u ?_)
                  rw [List.getElem?_take] at hu
                  by_cases e : j < pos
                  · rw [if_pos e] at hu; exact hu
                  · rw [if_neg e] at hu; cases hu
                case d2 => exact fun u hu => HONE.out u (List.mem_of_mem_take hu)
                case d3 => unfold maxLen; omega
                case d4 => omega
                case d5 => simp; omega
                intro v10 w10 hown10 hgrow10 _
                have HB10 : Hid (Below w9.heap.size w9 w10) := hide (HAL10.out.grown hgrow10 (by simp) (fun g hg => by have h := (own_lt (ne_empty w9 25) hg).1; exact h))
                have hsz10 := HB10.out.size
                have HOW10 := hide hown10
                clear hown10 hgrow10 HE9 HAL10
                go_wp2_with (at_builtin; refine wpList_append_own _ rfl _ _ 22 rfl w8.heap.size 25 i2 (.slice none 0 0) 1 24 Try.underlying22 hj hy0 hy1 hy2 rfl (by decide) _ _ _ rfl HOW10.out _ _ _ ([.slice A6 m c6] ++ zv2.drop pos) rfl ?e0 ?e1 ?e2 ?e3 ?e4 ?e5 ?_)
                case e0 => rw [List.length_append, List.length_drop, HZV.out]; first | (simp; done) | (simp; omega) | omega
                case e1 =>
                  intro j u hu
                  rw [addr_add, Nat.zero_add]
                  exact (HB10.out.cell (p := ⟨g9, j, none⟩) hg9).trans (HCL9.out j u hu)
                case e2 =>
                  intro u hu
                  rcases List.mem_append.1 hu with h | h
                  · rw [List.mem_singleton] at h; subst h; rfl
                  · exact HONE.out u (List.mem_of_mem_drop h)
                case e3 => unfold maxLen; omega
                case e4 => omega
                case e5 => omega
                intro v11 w11 hown11 hgrow11 _
                have HB11 : Hid (Below w8.heap.size w8 w11) := hide ((HB9.out.trans (HB10.out.mono hsz9)).grown hgrow11 (by omega) (fun g hg => (own_lt HOW10.out hg).1))
                have hsz11 := HB11.out.size
                have HY11 : Hid (Obj1 2 wr.heap.size w11.heap.size w11 A6 y) := hide (HR8.out.later HB11.out).obj
                have HQ11 : Hid (Qs 25 2 w2.heap.size w11 (.slice (some ⟨bX, oX, none⟩) fl2 cg2) v11 q2 (insL z2 pos y) qv2 (zv2.take pos ++ .slice A6 y.length c6 :: zv2.drop pos)) := hide (by
                    have h := HQ8.out.sorted (k := pos) (p := y) (A := A6) (c := c6) (n := (zv2.take pos ++ .slice A6 y.length c6 :: zv2.drop pos).length) (v' := v11) HB11.out (by omega) (by rw [HZE.out]; omega) (HY11.out.mono hwr0 (Nat.le_refl _)) (by rw [insL_length, HZE.out]; simp [HZV.out]; omega) (by have h := own_self hown11; rw [HYL.out]; simpa using h)
                    first | exact h | (rw [HFE.out] at h; exact h))
                have HB11w := hide (HB8w.out.trans (HB11.out.mono HB8w.out.size))
                have HASC := hide (HAS.out.ins HPLC.out HNEW.out)
                clear hown11 hgrow11 HQ8 HR8 HB8w HSC8 HB9 HB10 HB11 HOW9' HOW10 HCL9 HONE
                have hs11 := HB11w.out.size
                have HOWQ : Hid (w11.ownsRow w2.heap.size 25 1 (.slice (some ⟨bX, oX, none⟩) fl2 cg2) fl2 qv2) := hide (by have h := HQ11.out.q.own; rw [HFE.out] at h; exact h)
                go_wp2_with (at_builtin; refine wpList_append_own_at _ rfl _ _ 22 rfl w2.heap.size 25 i2 (.slice none 0 0) 1 24 Try.underlying22 hj hy0 hy1 hy2 rfl (by decide) _ _ _ rfl (HOWQ.out.alloc _) ⟨w11.heap.size, 0, none⟩ 1 1 [.slice A6 m c6] rfl rfl ?f1 ?f2 ?f3 ?f4 ?f5 ?_)
                case f1 => exact ne_new
                case f2 => intro u hu; simp at hu; subst hu; rfl
                case f3 => unfold maxLen; omega
                case f4 => omega
                case f5 => simp; omega
                intro v12 w12 hown12 hgrow12 _ hat12
                have HO12 := hide hown12
                have HG12 := hide hgrow12
                have HAT := hide hat12
                clear hown12 hgrow12 hat12
                go_wp2_with fail
                go_roundw
                case rel =>
                  have hB12 : Below w2.heap.size w2 w12 := (HB11w.out.alloc hs11 _).grown HG12.out (by simp; omega) (fun g hg => (HOWQ.out.alloc (.cells #[.slice A6 m c6] 25)).lt g hg |>.1)
                  have hpush := HQ11.out.queued (tmp := .cells #[.slice A6 m c6] 25) (A := A6) (c := c6) (p := y) (w1 := w12) (v' := v12) (by decide) (HY11.out.mono hwr0 (Nat.le_refl _)) (fun i u g hu hg a ha => by have h1 := HLOW.out i u g hu hg; have h2 := (HY11.out.bounds a ha).1; omega) (by rw [HYL.out, HFE.out]; exact HO12.out) HG12.out (by have h := HAT.out; simpa using h)
                  have hnq : y ∉ q2 := fun h => HNEW.out ((HME.out y).2 h)
                  have hsr := ((HW.out.srch (by rw [HFE.out]; exact hfl)).add (by rw [HFE.out]; exact hjf2) HYT.out hnq).keep (by rw [tgetD_app _ _ _ _ (by rw [HFE.out]; exact hjf2), HX.out, HY.out]; simp)
                  exact ⟨k2 + 1, q2 ++ [y], insL z2 pos y, _, _, by omega, by go_num, by have h := HFE.out; simp; omega, .inl hsr, by have h := HFE.out; simp; omega, HASC.out, fun u => by rw [insL_mem, List.mem_append, HME.out u]; simp [or_comm], hB12, hpush⟩
                case measure => simp [intOf]; omega
        · clear hog2 hfe2 hze HSC HSR hgs hcm
          by_cases hkm : k2 + 1 < m
          · have hov : limit < fl2 := by omega
            have hkz : (k2 : Int) + 1 < m := by omega
            have hovz : (limit : Int) < fl2 := by omega
            clear hgo
            go_wp2_with fail
            go_roundw
            case rel =>
              refine ⟨j + 1, q2, z2, qv2, zv2, by rw [HFE.out]; omega, by go_num, HW.out.over (by rw [HFE.out]; exact hov) _ _, by rw [HFE.out]; exact hql2, HAS.out, HME.out, HB.out, ?_⟩
              have h := HQ.out
              first | exact h | (rw [HFE.out, HZE.out]; exact h)
            case measure => simp [intOf]; omega
          · have hke : ¬ (k2 : Int) + 1 < m := by omega
            have HWN : Hid (WlkT (leH f) (leH s0) st limit q2 (j + 1) 0) := hide (by
              by_cases h : fl2 ≤ limit
              · exact .inl ((HW.out.srch (by rw [HFE.out]; exact h)).next (by rw [HM.out]; omega))
              · exact HW.out.over (by rw [HFE.out]; omega) _ _)
            clear hgo
            go_wp2_with fail
            go_roundw
            case rel =>
              refine ⟨j + 1, q2, z2, qv2, zv2, by rw [HFE.out]; omega, by go_num, HWN.out, by rw [HFE.out]; exact hql2, HAS.out, HME.out, HB.out, ?_⟩
              have h := HQ.out
              first | exact h | (rw [HFE.out, HZE.out]; exact h)
            case measure => simp [intOf]; omega
    · have hz0 : 0 < z.length := by
        have hx : st ∈ z := (HME.out _).2 HW.out.start
        cases z with
        | nil => cases hx
        | cons a l => simp
      obtain ⟨gs, cs, hvs, hcs, hcm, hgs, hsc, hsr⟩ := HQ.out.look hz0
      subst hvs
      have hzl : z.length = fl := by
        have h := tnodup_le HAS.out.nodup (fun a ha => (HME.out a).1 ha)
        have h2 := tnodup_le HW.out.nd (fun a ha => (HME.out a).2 ha)
        rw [HFE.out] at h h2
        omega
      have HRES : Hid ((Cls (leH f) (leH s0) st z ∧ z.length ≤ limit) ∨ (¬ FewT (leH f) (leH s0) st limit ∧ limit < z.length)) := hide (by
        by_cases h : fl ≤ limit
        · have hje : j = fl := by omega
          have h2 := HW.out.srch (by rw [HFE.out]; exact h)
          rw [hje, ← HFE.out] at h2
          exact .inl ⟨h2.fin.sorted HAS.out HME.out, by omega⟩
        · exact .inr ⟨HW.out.many (by rw [HFE.out]; omega), by omega⟩)
      have HSR := hide hsr
      have HLE : Hid (z.length ≤ limit + 1) := hide (by omega)
      have hs9 := HB.out.size
      clear hsr hsc hzl
      by_cases hjf : j < fl
      · have hjz : (j : Int) < fl := by omega
        have hovz : (limit : Int) < fl := by omega
        clear hgo
        go_wp2_with fail
        go_ret
        exact ⟨z, _, _, rfl, HB2.out.trans (HB.out.mono hs2), HLE.out, HAS.out, HSR.out, HRES.out⟩
      · have hje : j = fl := by omega
        subst hje
        clear hgo
        go_wp2_with fail
        go_ret
        exact ⟨z, _, _, rfl, HB2.out.trans (HB.out.mono hs2), HLE.out, HAS.out, HSR.out, HRES.out⟩
end Go.Proofs.Ytiaebilcgmahlaa
