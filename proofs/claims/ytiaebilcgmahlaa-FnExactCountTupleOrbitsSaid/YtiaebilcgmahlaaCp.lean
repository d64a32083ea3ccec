import Derived.Test.YtiaebilcgmahlaaCo
import Derived.Test.YtiaebilcgmahlaaCm
import Derived.Test.YtiaebilcgmahlaaCc
namespace Go.Proofs.Ytiaebilcgmahlaa
open Go Go.RowKit
open Classical
set_option maxHeartbeats 4000000
set_option maxRecDepth 100000 in
theorem cowI (A : Option Addr) (n c : Nat) (f : List (List Int)) (B : Option Addr) (k d : Nat) (s : List (List Int)) (C : Option Addr) (m e : Nat) (xs : List Int) (zs : List (List Int)) (code : Int) (kz : Nat) (w : World) (hz : ZArg 1048576 w A n f B k s) (hm : xs.length = m) (hb : m ≤ 1048576) (hr : Rd w C xs) (hres : CowR f s xs zs code) (hkz : zs.length = kz) :
    Calls Try.prog 30 #[.agg #[.slice A n c, .slice B k d], .slice C m e] w (TPost 25 2 kz zs code w) := by
  have HZ := hide hz
  have HM := hide hm
  have HR := hide hr
  have HKZ := hide hkz
  have HB0 := hide ((Below.refl _ w).alloc (Nat.le_refl _) (Obj.cells #[Value.slice A n c, Value.slice B k d] 29))
  have HK0 := hide (Blk.new w 29 [.slice A n c, .slice B k d])
  obtain ⟨wc, hwc⟩ : ∃ wc, WdC f s [xs] wc := WdC.ex f s [xs]
  have HWC := hide hwc
  have HRES := hide hres
  have d0 : ¬ wc = 0 → (wc != 0) = true := fun h => by simpa using h
  have d1 : wc = 0 → (wc != 0) = false := fun h => by simp [h]
  clear hz hm hr hkz hwc hres
  go_enter Try.func30, Try.ntmps30
  have k0 := HK0.out.cell 0 _ rfl
  have k1 := HK0.out.cell 1 _ rfl
  go_wp2_with fail
  clear k0 k1
  refine calls_gen fun w1 hw1 => ?_
  obtain ⟨L1, hL1⟩ : ∃ L1, (w.alloc (Obj.cells #[Value.slice A n c, Value.slice B k d] 29)).heap.size = L1 := ⟨_, rfl⟩
  have hb1 : Below (w.alloc (Obj.cells #[Value.slice A n c, Value.slice B k d] 29)).heap.size (w.alloc (Obj.cells #[Value.slice A n c, Value.slice B k d] 29)) w1 := by rw [hw1]; exact (Below.refl _ _).alloc (Nat.le_refl _) _
  have HL1 : Hid (Blk w1 (w.heap.size + 1) 25 [.slice C m e]) := hide (by rw [hw1]; have h := Blk.new (w.alloc (Obj.cells #[Value.slice A n c, Value.slice B k d] 29)) 25 [.slice C m e]; simpa using h)
  have HB1 := hide (HB0.out.trans (hb1.mono HB0.out.size))
  have HK1 := hide (HK0.out.later hb1)
  have HRR : Hid (Rd2 w1 (some ⟨w.heap.size + 1, 0, none⟩) [xs]) := hide (fun _ => ⟨_, 0, rfl, HL1.out.lt, fun i hi => by
    have hi0 : i = 0 := by simpa using hi
    subst hi0
    exact ⟨C, e, by have h := HL1.out.cell 0 _ rfl; rw [Nat.zero_add]; rw [show ([xs].getD 0 []).length = m from HM.out]; exact h, HR.out.later HB1.out⟩⟩)
  clear hw1 hb1 hL1
  refine (wordFault_any A B _ n c k d 1 1 f s [xs] wc _ (HZ.out.later HB1.out) rfl (by omega) (fun i hi => by have hi0 : i = 0 := (by simpa using hi); subst hi0; show xs.length ≤ 1048576; rw [HM.out]; exact hb) HRR.out HWC.out).mono ?_
  rintro e w2 ⟨rfl, hb2⟩
  have HB2 := hide (HB1.out.trans (hb2.mono HB1.out.size))
  have HK2 := hide (HK1.out.later hb2)
  clear hb2 HRR HL1
  by_cases hc0 : wc = 0
  · subst hc0
    obtain ⟨hs, hw⟩ := HWC.out.zero rfl
    obtain rfl := (HZ.out.same hs.1).symm
    have hn := HZ.out.sz.fl
    have hw1 := wrds1.1 hw
    rw [hn] at hw1
    have HW := hide hw1
    have HS := hide hs
    have HOR : Hid (OrbR f s xs 1000 zs code) := hide (by
      rcases HRES.out with ⟨_, h⟩ | ⟨h1, h2, _⟩
      · exact h
      · exact absurd (h1.uniq HWC.out) h2)
    clear hs hw hw1 hn d0
    have k0 := HK2.out.cell 0 _ rfl
    have k1 := HK2.out.cell 1 _ rfl
    by_cases hf : FewT (leH f) (leH s) xs 1000
    · have HF := hide hf
      clear hf
      go_wp2_with fail
      refine (classOf_yes A n c f B d s C m _ xs _ (HZ.out.later HB2.out) HS.out HW.out HM.out (HR.out.later HB2.out) HF.out).mono ?_
      rintro e w3 ⟨L, bm, hcl, hll, rfl, hb3, hbm, hme⟩
      have HB3 := hide (HB2.out.trans (hb3.mono HB2.out.size))
      have HCL := hide hcl
      have HME := hide hme
      have hsz := HB2.out.size
      clear hb3 hcl hme k0 k1
      go_wp2_with fail
      refine (listsOf_any bm m L _ HME.out HCL.out.1 (fun p hp => by rw [((HCL.out.2 p).1 hp).len]; exact HM.out) (fun p hp => (((HCL.out.2 p).1 hp).tup (HS.out.pb HZ.out.sz.fl) HW.out.tup).sm (HZ.out.small HS.out.1).2) (by have := HW.out.1; have := HM.out; omega) HCL.out.pos (by omega)).mono ?_
      rintro e w4 ⟨v, L', vals, rfl, hb4, hl4, ha4, hm4⟩
      obtain ⟨A4, c4, hv, hobj⟩ := hl4.shape
      have hz1 : L' = zs ∧ code = 0 := by
        rcases HOR.out with ⟨h1, h2, _, h3⟩ | ⟨h1, _⟩
        · exact ⟨(HCL.out.sorted ha4 hm4).ascEq h1 ha4 h2, h3⟩
        · exact absurd HF.out h1
      obtain ⟨rfl, rfl⟩ := hz1
      rw [HKZ.out] at hv
      subst hv
      have HB4 := hide (HB3.out.trans (hb4.mono HB3.out.size))
      have HO4 := hide (hobj.mono (lo' := w.heap.size) HB3.out.size (Nat.le_refl _))
      clear hb4 hl4 ha4 hm4 hobj
      go_wp2_with fail
      go_ret2
      exact ⟨_, _, rfl, HB4.out, HO4.out⟩
    · have HF := hide hf
      clear hf
      have hz1 : zs = [] ∧ code = 3 := by
        rcases HOR.out with ⟨h1, _, h2, _⟩ | ⟨_, h1⟩
        · exact absurd ⟨zs, h1, h2⟩ HF.out
        · exact h1
      obtain ⟨rfl, rfl⟩ := hz1
      obtain rfl : kz = 0 := by simpa using HKZ.out.symm
      go_wp2_with fail
      refine (classOf_no A n c f B d s C m _ xs _ (HZ.out.later HB2.out) HS.out HW.out HM.out (HR.out.later HB2.out) HF.out).mono ?_
      rintro e w3 ⟨rfl, hb3⟩
      have HB3 := hide (HB2.out.trans (hb3.mono HB2.out.size))
      clear hb3 k0 k1
      go_wp2_with fail
      go_ret2
      exact ⟨_, _, rfl, HB3.out, .inl ⟨rfl, rfl⟩⟩
  · have hz1 : zs = [] ∧ code = wc := by
      rcases HRES.out with ⟨h1, _⟩ | ⟨h1, _, h3⟩
      · exact absurd (HWC.out.uniq h1) hc0
      · exact ⟨h3, h1.uniq HWC.out⟩
    obtain ⟨rfl, rfl⟩ := hz1
    obtain rfl : kz = 0 := by simpa using HKZ.out.symm
    have hcb := d0 hc0
    clear d0 d1
    go_wp2_with fail
    go_ret2
    exact ⟨_, _, rfl, HB2.out, .inl ⟨rfl, rfl⟩⟩
end Go.Proofs.Ytiaebilcgmahlaa
namespace Go.Proofs.Ytiaebilcgmahlaa
open Go Go.RowKit
open Classical
set_option maxHeartbeats 4000000
theorem cls0 (h1 h2 : Nat → Nat → Int) : Cls h1 h2 [] [[]] := ⟨by simp, fun y => ⟨fun h => by
  have : y = [] := by simpa using h
  subst this; exact .refl, fun h => by
  have := h.len
  have : y = [] := by simpa using this
  subst this; simp⟩⟩
theorem classC_any (A : Option Addr) (n c : Nat) (f : List (List Int)) (B : Option Addr) (d : Nat) (s : List (List Int)) (C : Option Addr) (m e : Nat) (x : List Int) (most : Nat) (w : World) (hz : ZArg 1048576 w A n f B n s) (hs : SolF f s) (ht : Tup n x) (hm : x.length = m) (he : m = 0 → e = 0) (hr : Rd w C x) (hl1 : 1 ≤ most) (hl : most ≤ 5000) :
    Calls Try.prog 69 #[.agg #[.slice A n c, .slice B n d], .slice C m e, .int .i64 most] w fun e w' => (∃ L v vals, Cls (leH f) (leH s) x L ∧ Asc L ∧ L.length ≤ most ∧ e = .returned (.tuple #[v, .bool true]) ∧ Below w.heap.size w w' ∧ LstV 25 2 w.heap.size w' v L vals ∧ CapsV vals) ∨ (¬ FewT (leH f) (leH s) x most ∧ e = .returned (.tuple #[.slice none 0 0, .bool false]) ∧ Below w.heap.size w w') := by
  by_cases h0 : m = 0
  · subst h0
    obtain rfl := he rfl
    have hx : x = [] := List.eq_nil_of_length_eq_zero hm
    subst hx
    refine (class0c_any A n c f B d s C most w hz hs hl1 hl).mono ?_
    rintro e w2 ⟨v, vals, h1, h2, h3, h4⟩
    exact .inl ⟨[[]], v, vals, cls0 _ _, Asc.one _, by simpa using hl1, h1, h2, h3, h4⟩
  · exact class1c_any A n c f B d s C m e x most w hz hs ht hm (by omega) hr hl1 hl
theorem classS_any (A : Option Addr) (n c : Nat) (f : List (List Int)) (B : Option Addr) (d : Nat) (s : List (List Int)) (C : Option Addr) (m e : Nat) (x : List Int) (most : Nat) (w : World) (hz : ZArg 1048576 w A n f B n s) (hs : SolF f s) (ht : Tup n x) (hm : x.length = m) (he : m = 0 → e = 0) (hr : Rd w C x) (hl1 : 1 ≤ most) (hl : most ≤ 5000) :
    Calls Try.prog 69 #[.agg #[.slice A n c, .slice B n d], .slice C m e, .int .i64 most] w fun e w' => (∃ L v vals, Cls (leH f) (leH s) x L ∧ Asc L ∧ L.length ≤ most ∧ e = .returned (.tuple #[v, .bool true]) ∧ Below w.heap.size w w' ∧ LstV 25 2 w.heap.size w' v L vals) ∨ (¬ FewT (leH f) (leH s) x most ∧ e = .returned (.tuple #[.slice none 0 0, .bool false]) ∧ Below w.heap.size w w') := by
  refine (classC_any A n c f B d s C m e x most w hz hs ht hm he hr hl1 hl).mono ?_
  rintro e w2 (⟨L, v, vals, h1, h2, h3, h4, h5, h6, _⟩ | h)
  · exact .inl ⟨L, v, vals, h1, h2, h3, h4, h5, h6⟩
  · exact .inr h
set_option maxRecDepth 100000 in
theorem cowS_any (A : Option Addr) (n c : Nat) (f : List (List Int)) (B : Option Addr) (k d : Nat) (s : List (List Int)) (C : Option Addr) (m e : Nat) (xs : List Int) (zs : List (List Int)) (code : Int) (w : World) (hz : ZArg 1048576 w A n f B k s) (hm : xs.length = m) (hb : m ≤ 1048576) (he : m = 0 → e = 0) (hr : Rd w C xs) (hres : CowR f s xs zs code) :
    Calls Try.prog 29 #[.agg #[.slice A n c, .slice B k d], .slice C m e] w fun e w' => ∃ v vals, e = .returned (.tuple #[v, .int .i64 code]) ∧ Below w.heap.size w w' ∧ LstV 25 2 w.heap.size w' v zs vals := by
  have HZ := hide hz
  have HM := hide hm
  have HR := hide hr
  have HE := hide he
  have HB0 := hide ((Below.refl _ w).alloc (Nat.le_refl _) (Obj.cells #[Value.slice A n c, Value.slice B k d] 29))
  have HK0 := hide (Blk.new w 29 [.slice A n c, .slice B k d])
  obtain ⟨wc, hwc⟩ : ∃ wc, WdC f s [xs] wc := WdC.ex f s [xs]
  have HWC := hide hwc
  have HWC2 : Hid (WdC f s [xs, xs] wc) := hide (hwc.congr (by rw [wrds1, wrds2]; exact ⟨fun h => ⟨h, h⟩, fun h => h.1⟩))
  have HRES := hide hres
  have d0 : ¬ wc = 0 → (wc != 0) = true := fun h => by simpa using h
  clear hz hm hr he hwc hres
  go_enter Try.func29, Try.ntmps29
  have k0 := HK0.out.cell 0 _ rfl
  have k1 := HK0.out.cell 1 _ rfl
  go_wp2_with fail
  clear k0 k1
  refine (codeS_any A B C C n c k d m _ m _ f s xs xs wc _ (HZ.out.later HB0.out) HM.out hb (HR.out.later HB0.out) HM.out hb (HR.out.later HB0.out) HWC2.out).mono ?_
  rintro e w2 ⟨rfl, hb2⟩
  have HB2 := hide (HB0.out.trans (hb2.mono HB0.out.size))
  have HK2 := hide (HK0.out.later hb2)
  clear hb2
  by_cases hc0 : wc = 0
  · subst hc0
    obtain ⟨hs, hw⟩ := HWC.out.zero rfl
    obtain rfl := (HZ.out.same hs.1).symm
    have hn := HZ.out.sz.fl
    have hw1 := wrds1.1 hw
    rw [hn] at hw1
    have HW := hide hw1
    have HS := hide hs
    have HOR : Hid (OrbR f s xs 1000 zs code) := hide (by
      rcases HRES.out with ⟨_, h⟩ | ⟨h1, h2, _⟩
      · exact h
      · exact absurd (h1.uniq HWC.out) h2)
    clear hs hw hw1 hn d0
    have k0 := HK2.out.cell 0 _ rfl
    have k1 := HK2.out.cell 1 _ rfl
    go_wp2_with fail
    refine (classS_any A n c f B d s C m _ xs 1000 _ (HZ.out.later HB2.out) HS.out HW.out.tup HM.out HE.out (HR.out.later HB2.out) (by omega) (by omega)).mono ?_
    have hs2 := HB2.out.size
    rintro e w3 (⟨L, v, vals, hcl, ha, hll, rfl, hb3, hl3⟩ | ⟨hf, rfl, hb3⟩)
    · have HB3 := hide (HB2.out.trans (hb3.mono hs2))
      have hz1 : L = zs ∧ code = 0 := by
        rcases HOR.out with ⟨h1, h2, _, h3⟩ | ⟨h1, _⟩
        · exact ⟨hcl.ascEq h1 ha h2, h3⟩
        · exact absurd ⟨L, hcl, hll⟩ h1
      obtain ⟨rfl, rfl⟩ := hz1
      have HL3 := hide (hl3.monoB hs2)
      clear hb3 hcl ha hll hl3 k0 k1
      go_wp2_with fail
      go_ret2
      exact ⟨_, _, rfl, HB3.out, HL3.out⟩
    · have hz1 : zs = [] ∧ code = 3 := by
        rcases HOR.out with ⟨h1, _, h2, _⟩ | ⟨_, h1⟩
        · exact absurd ⟨zs, h1, h2⟩ hf
        · exact h1
      obtain ⟨rfl, rfl⟩ := hz1
      have HB3 := hide (HB2.out.trans (hb3.mono hs2))
      clear hb3 hf k0 k1
      go_wp2_with fail
      go_ret2
      exact ⟨_, [], rfl, HB3.out, LstV.nil _ _ _ _⟩
  · have hz1 : zs = [] ∧ code = wc := by
      rcases HRES.out with ⟨h1, _⟩ | ⟨h1, _, h3⟩
      · exact absurd (HWC.out.uniq h1) hc0
      · exact ⟨h3, h1.uniq HWC.out⟩
    obtain ⟨rfl, rfl⟩ := hz1
    have hcb := d0 hc0
    clear d0
    go_wp2_with fail
    go_ret2
    exact ⟨_, [], rfl, HB2.out, LstV.nil _ _ _ _⟩
theorem cowS (A : Option Addr) (n c : Nat) (f : List (List Int)) (B : Option Addr) (k d : Nat) (s : List (List Int)) (C : Option Addr) (m : Nat) (xs : List Int) (zs : List (List Int)) (code : Int) (kz : Nat) (w : World) (hz : ZArg 1048576 w A n f B k s) (hm : xs.length = m) (hb : m ≤ 1048576) (hr : Rd w C xs) (hres : CowR f s xs zs code) (hkz : zs.length = kz) :
    Calls Try.prog 29 #[.agg #[.slice A n c, .slice B k d], .slice C m m] w (TPost 25 2 kz zs code w) := by
  refine (cowS_any A n c f B k d s C m m xs zs code w hz hm hb (fun h => h) hr hres).mono ?_
  rintro e w2 ⟨v, vals, rfl, hb2, hl⟩
  obtain ⟨A', c', hv, hobj⟩ := hl.shape
  rw [hkz] at hv
  subst hv
  exact ⟨A', c', rfl, hb2, hobj⟩
end Go.Proofs.Ytiaebilcgmahlaa
namespace Go.Proofs.Ytiaebilcgmahlaa
open Go Go.RowKit
open Classical
set_option maxHeartbeats 4000000
/-- What the equality of words is told. -/
def EqwR (f s : List (List Int)) (xs ys : List Int) (v : Bool) (code : Int) : Prop :=
  (WdC f s [xs, ys] 0 ∧ ((FewT (leH f) (leH s) xs 1000 ∧ (v = true ↔ Tch (leH f) (leH s) xs ys) ∧ code = 0) ∨ (¬ FewT (leH f) (leH s) xs 1000 ∧ v = false ∧ code = 3))) ∨ (WdC f s [xs, ys] code ∧ code ≠ 0 ∧ v = false)
theorem EqwR.ex (f s : List (List Int)) (xs ys : List Int) : ∃ v code, EqwR f s xs ys v code := by
  obtain ⟨c, hc⟩ := WdC.ex f s [xs, ys]
  by_cases h0 : c = 0
  · subst h0
    by_cases hf : FewT (leH f) (leH s) xs 1000
    · obtain ⟨v, hv⟩ := bool_of (Tch (leH f) (leH s) xs ys)
      exact ⟨v, 0, .inl ⟨hc, .inl ⟨hf, hv, rfl⟩⟩⟩
    · exact ⟨false, 3, .inl ⟨hc, .inr ⟨hf, rfl, rfl⟩⟩⟩
  · exact ⟨false, c, .inr ⟨hc, h0, rfl⟩⟩
set_option maxRecDepth 100000 in
theorem find_any (A : Option Addr) (N c : Nat) (rows : List (List Int)) (P : Option Addr) (m e : Nat) (p : List Int) (r : Bool) (w : World) (hN : rows.length = N) (hNb : N ≤ 1048576) (hls : ∀ i, i < rows.length → (rows.getD i []).length ≤ 1048576) (hr : Rd2 w A rows) (hm : p.length = m) (hb : m ≤ 1048576) (hp : Rd w P p) (hrr : r = true ↔ p ∈ rows) :
    Calls Try.prog 72 #[.slice A N c, .slice P m e] w fun e w' => e = .returned (.bool r) ∧ Below w.heap.size w w' := by
  have HN := hide hN
  have HLS := hide hls
  have HR := hide hr
  have HM := hide hm
  have HP := hide hp
  have HRR := hide hrr
  clear hN hls hr hm hp hrr
  go_enter Try.func72, Try.ntmps72
  go_wp2_with fail
  go_loopw [5] (fun i wr => ∃ j : Nat, j ≤ N ∧ i = .int .i64 j ∧ Below w.heap.size w wr ∧ ∀ i, i < j → rows.getD i [] ≠ p) (fun i _ => N - (intOf i).toNat)
  case atStart => exact ⟨0, Nat.zero_le _, rfl, Below.refl _ _, fun i hi => absurd hi (Nat.not_lt_zero _)⟩
  case round =>
    obtain ⟨j, hj, rfl, hq, hin⟩ := hrel
    have HIN := hide hin
    have HB := hide hq
    clear hin hq
    by_cases hlt : j < N
    · have hjr : j < rows.length := by rw [HN.out]; exact hlt
      obtain ⟨b, o, rfl, _, hc⟩ := (HR.out.later HB.out) (by omega)
      obtain ⟨Aj, cj, hcell, hrd⟩ := hc j hjr
      have hlb := HLS.out j hjr
      obtain ⟨q, hq⟩ : ∃ q, rows.getD j [] = q := ⟨_, rfl⟩
      rw [hq] at hcell hrd hlb
      have HQ := hide hq
      obtain ⟨l, hl⟩ : ∃ l, q.length = l := ⟨_, rfl⟩
      rw [hl] at hcell hlb
      have HL := hide hl
      have HRD := hide hrd
      have hjz : (j : Int) < N := by omega
      obtain ⟨r1, hr1⟩ : ∃ r1 : Bool, r1 = true ↔ q = p := bool_of _
      have HR1 := hide hr1
      clear hq hl hrd hc hr1
      go_wp2_with fail
      refine (same_any Aj P l cj m e q p r1 _ HL.out HM.out (by omega) (by omega) HRD.out (HP.out.later HB.out) HR1.out).mono ?_
      rintro e w2 ⟨rfl, hq2⟩
      have HB2 := hide (HB.out.trans ((hq2.below wr.heap.size).mono HB.out.size))
      clear hq2
      cases r1 with
      | true =>
        have hmem : p ∈ rows := by rw [← HR1.out.1 rfl, ← HQ.out]; exact tgetD_mem _ _ _ hjr
        have hrt : r = true := HRR.out.2 hmem
        subst hrt
        clear HRR HR1 hmem
        go_wp2_with fail
        go_ret
        exact ⟨rfl, HB2.out⟩
      | false =>
        have hne : q ≠ p := fun e => by have h := HR1.out.2 e; cases h
        have HNE := hide hne
        clear HR1 hne
        go_wp2_with fail
        go_roundw
        case rel =>
          refine ⟨j + 1, by omega, by go_num, HB2.out, fun i hi => ?_⟩
          by_cases e : i = j
          · subst e; rw [HQ.out]; exact HNE.out
          · exact HIN.out i (by omega)
        case measure => simp [intOf]; omega
    · have hjm : j = N := by omega
      subst hjm
      have hrf : r = false := by
        cases r with
        | false => rfl
        | true =>
          obtain ⟨i, hi, e⟩ := List.getElem_of_mem (HRR.out.1 rfl)
          exact absurd (by simp [hi, e]) (HIN.out i (by rw [← HN.out]; exact hi))
      subst hrf
      clear HRR
      go_wp2_with fail
      go_ret
      exact ⟨rfl, HB.out⟩
set_option maxRecDepth 100000 in
theorem eqwI (A : Option Addr) (n c : Nat) (f : List (List Int)) (B : Option Addr) (k d : Nat) (s : List (List Int)) (C : Option Addr) (m e : Nat) (xs : List Int) (D : Option Addr) (m2 e2 : Nat) (ys : List Int) (v : Bool) (code : Int) (w : World) (hz : ZArg 1048576 w A n f B k s) (hm : xs.length = m) (hb : m ≤ 1048576) (hr : Rd w C xs) (hm2 : ys.length = m2) (hb2 : m2 ≤ 1048576) (hr2 : Rd w D ys) (hres : EqwR f s xs ys v code) :
    Calls Try.prog 32 #[.agg #[.slice A n c, .slice B k d], .slice C m e, .slice D m2 e2] w fun e w' => e = .returned (.tuple #[.bool v, .int .i64 code]) ∧ Below w.heap.size w w' := by
  have HZ := hide hz
  have HM := hide hm
  have HR := hide hr
  have HM2 := hide hm2
  have HR2 := hide hr2
  have HB0 := hide ((Below.refl _ w).alloc (Nat.le_refl _) (Obj.cells #[Value.slice A n c, Value.slice B k d] 29))
  have HK0 := hide (Blk.new w 29 [.slice A n c, .slice B k d])
  obtain ⟨wc, hwc⟩ : ∃ wc, WdC f s [xs, ys] wc := WdC.ex f s [xs, ys]
  have HWC := hide hwc
  have HRES := hide hres
  have d0 : ¬ wc = 0 → (wc != 0) = true := fun h => by simpa using h
  clear hz hm hr hm2 hr2 hwc hres
  go_enter Try.func32, Try.ntmps32
  have k0 := HK0.out.cell 0 _ rfl
  have k1 := HK0.out.cell 1 _ rfl
  go_wp2_with fail
  clear k0 k1
  refine calls_gen fun w1 hw1 => ?_
  have hb1 : Below (w.alloc (Obj.cells #[Value.slice A n c, Value.slice B k d] 29)).heap.size (w.alloc (Obj.cells #[Value.slice A n c, Value.slice B k d] 29)) w1 := by rw [hw1]; exact (Below.refl _ _).alloc (Nat.le_refl _) _
  have HL1 : Hid (Blk w1 (w.heap.size + 1) 25 [.slice C m e, .slice D m2 e2]) := hide (by rw [hw1]; have h := Blk.new (w.alloc (Obj.cells #[Value.slice A n c, Value.slice B k d] 29)) 25 [.slice C m e, .slice D m2 e2]; simpa using h)
  have HB1 := hide (HB0.out.trans (hb1.mono HB0.out.size))
  have HK1 := hide (HK0.out.later hb1)
  have HRR : Hid (Rd2 w1 (some ⟨w.heap.size + 1, 0, none⟩) [xs, ys]) := hide (fun _ => ⟨_, 0, rfl, HL1.out.lt, fun i hi => by
    rcases i with _ | _ | i
    · exact ⟨C, e, by have h := HL1.out.cell 0 _ rfl; rw [show ([xs, ys].getD 0 []).length = m from HM.out]; exact h, HR.out.later HB1.out⟩
    · exact ⟨D, e2, by have h := HL1.out.cell 1 _ rfl; rw [show ([xs, ys].getD 1 []).length = m2 from HM2.out]; exact h, HR2.out.later HB1.out⟩
    · simp at hi; omega⟩)
  clear hw1 hb1
  refine (wordFault_any A B _ n c k d 2 2 f s [xs, ys] wc _ (HZ.out.later HB1.out) rfl (by omega) (fun i hi => by
    rcases i with _ | _ | i
    · show xs.length ≤ 1048576; rw [HM.out]; exact hb
    · show ys.length ≤ 1048576; rw [HM2.out]; exact hb2
    · simp at hi; omega) HRR.out HWC.out).mono ?_
  rintro e w2 ⟨rfl, hb2'⟩
  have HB2 := hide (HB1.out.trans (hb2'.mono HB1.out.size))
  have HK2 := hide (HK1.out.later hb2')
  clear hb2' HRR HL1
  by_cases hc0 : wc = 0
  · subst hc0
    obtain ⟨hs, hw⟩ := HWC.out.zero rfl
    obtain rfl := (HZ.out.same hs.1).symm
    have hn := HZ.out.sz.fl
    have hw1 := wrds2.1 hw
    rw [hn] at hw1
    have HW := hide hw1.1
    have HV := hide hw1.2
    have HS := hide hs
    have HOR : Hid ((FewT (leH f) (leH s) xs 1000 ∧ (v = true ↔ Tch (leH f) (leH s) xs ys) ∧ code = 0) ∨ (¬ FewT (leH f) (leH s) xs 1000 ∧ v = false ∧ code = 3)) := hide (by
      rcases HRES.out with ⟨_, h⟩ | ⟨h1, h2, _⟩
      · exact h
      · exact absurd (h1.uniq HWC.out) h2)
    clear hs hw hw1 hn d0
    have k0 := HK2.out.cell 0 _ rfl
    have k1 := HK2.out.cell 1 _ rfl
    by_cases hf : FewT (leH f) (leH s) xs 1000
    · have HF := hide hf
      obtain ⟨hv, rfl⟩ : (v = true ↔ Tch (leH f) (leH s) xs ys) ∧ code = 0 := by
        rcases HOR.out with ⟨_, h1, h2⟩ | ⟨h1, _⟩
        · exact ⟨h1, h2⟩
        · exact absurd hf h1
      have HVV := hide hv
      clear hf hv
      go_wp2_with fail
      refine (classOf_yes A n c f B d s C m _ xs _ (HZ.out.later HB2.out) HS.out HW.out HM.out (HR.out.later HB2.out) HF.out).mono ?_
      rintro e w3 ⟨L, bm, hcl, hll, rfl, hb3, hbm, hme⟩
      have HB3 := hide (HB2.out.trans (hb3.mono HB2.out.size))
      have HCL := hide hcl
      have HME := hide hme
      clear hb3 hcl hme k0 k1
      by_cases hmm : m = m2
      · subst hmm
        obtain ⟨kl, hkl⟩ := tkey_ex (HV.out.tup.sm (HZ.out.small HS.out.1).2)
        have hm12 : m ≤ 12 := by have := HW.out.1; have := HM.out; omega
        have HKL := hide hkl
        clear hkl
        go_wp2_with fail
        refine (tupleOf_key D m _ ys _ HM2.out hm12 (HR2.out.later HB3.out)).mono ?_
        rintro e w4 ⟨rfl, hb4⟩
        have HB4 := hide (HB3.out.trans (hb4.mono HB3.out.size))
        have hlook := MapN.look1 tk_keyed (MapN.later HME.out hb4) Try.underlying61 (z := .bool false) (by kernel_rfl) HKL.out
        rw [metV_at (fun p hp => by rw [((HCL.out.2 p).1 hp).len]; exact HM.out) HM2.out] at hlook
        have hvd : decide (ys ∈ L) = v := by
          cases v with
          | true => exact decide_eq_true ((HCL.out.2 _).2 (HVV.out.1 rfl))
          | false => exact decide_eq_false (fun h => by have h2 := HVV.out.2 ((HCL.out.2 _).1 h); cases h2)
        rw [hvd] at hlook
        clear hb4 hvd
        go_wp2_with fail
        go_ret2
        exact ⟨rfl, HB4.out⟩
      · have hmz : ((m : Int) == (m2 : Int)) = false := by simp; omega
        have hvf : v = false := by
          cases v with
          | false => rfl
          | true => have h := (HVV.out.1 rfl).len; have h1 := HM.out; have h2 := HM2.out; omega
        subst hvf
        clear HVV
        go_wp2_with fail
        go_ret2
        exact ⟨rfl, HB3.out⟩
    · have HF := hide hf
      obtain ⟨rfl, rfl⟩ : v = false ∧ code = 3 := by
        rcases HOR.out with ⟨h1, _⟩ | ⟨_, h1⟩
        · exact absurd h1 hf
        · exact h1
      clear hf
      go_wp2_with fail
      refine (classOf_no A n c f B d s C m _ xs _ (HZ.out.later HB2.out) HS.out HW.out HM.out (HR.out.later HB2.out) HF.out).mono ?_
      rintro e w3 ⟨rfl, hb3⟩
      have HB3 := hide (HB2.out.trans (hb3.mono HB2.out.size))
      clear hb3 k0 k1
      go_wp2_with fail
      go_ret2
      exact ⟨rfl, HB3.out⟩
  · have hz1 : v = false ∧ code = wc := by
      rcases HRES.out with ⟨h1, _⟩ | ⟨h1, _, h3⟩
      · exact absurd (HWC.out.uniq h1) hc0
      · exact ⟨h3, h1.uniq HWC.out⟩
    obtain ⟨rfl, rfl⟩ := hz1
    have hcb := d0 hc0
    clear d0
    go_wp2_with fail
    go_ret2
    exact ⟨rfl, HB2.out⟩

set_option maxRecDepth 100000 in
theorem eqwS (A : Option Addr) (n c : Nat) (f : List (List Int)) (B : Option Addr) (k d : Nat) (s : List (List Int)) (C : Option Addr) (m : Nat) (xs : List Int) (D : Option Addr) (m2 : Nat) (ys : List Int) (v : Bool) (code : Int) (w : World) (hz : ZArg 1048576 w A n f B k s) (hm : xs.length = m) (hb : m ≤ 1048576) (hr : Rd w C xs) (hm2 : ys.length = m2) (hb2 : m2 ≤ 1048576) (hr2 : Rd w D ys) (hres : EqwR f s xs ys v code) :
    Calls Try.prog 31 #[.agg #[.slice A n c, .slice B k d], .slice C m m, .slice D m2 m2] w fun e w' => e = .returned (.tuple #[.bool v, .int .i64 code]) ∧ Below w.heap.size w w' := by
  have HZ := hide hz
  have HM := hide hm
  have HR := hide hr
  have HM2 := hide hm2
  have HR2 := hide hr2
  have HB0 := hide ((Below.refl _ w).alloc (Nat.le_refl _) (Obj.cells #[Value.slice A n c, Value.slice B k d] 29))
  have HK0 := hide (Blk.new w 29 [.slice A n c, .slice B k d])
  obtain ⟨wc, hwc⟩ : ∃ wc, WdC f s [xs, ys] wc := WdC.ex f s [xs, ys]
  have HWC := hide hwc
  have HRES := hide hres
  have d0 : ¬ wc = 0 → (wc != 0) = true := fun h => by simpa using h
  clear hz hm hr hm2 hr2 hwc hres
  go_enter Try.func31, Try.ntmps31
  have k0 := HK0.out.cell 0 _ rfl
  have k1 := HK0.out.cell 1 _ rfl
  go_wp2_with fail
  clear k0 k1
  refine (codeS_any A B C D n c k d m _ m2 _ f s xs ys wc _ (HZ.out.later HB0.out) HM.out hb (HR.out.later HB0.out) HM2.out hb2 (HR2.out.later HB0.out) HWC.out).mono ?_
  rintro e w2 ⟨rfl, hb2'⟩
  have HB2 := hide (HB0.out.trans (hb2'.mono HB0.out.size))
  have HK2 := hide (HK0.out.later hb2')
  clear hb2'
  by_cases hc0 : wc = 0
  · subst hc0
    obtain ⟨hs, hw⟩ := HWC.out.zero rfl
    obtain rfl := (HZ.out.same hs.1).symm
    have hn := HZ.out.sz.fl
    have hw1 := wrds2.1 hw
    rw [hn] at hw1
    have HW := hide hw1.1
    have HV := hide hw1.2
    have HS := hide hs
    have HOR : Hid ((FewT (leH f) (leH s) xs 1000 ∧ (v = true ↔ Tch (leH f) (leH s) xs ys) ∧ code = 0) ∨ (¬ FewT (leH f) (leH s) xs 1000 ∧ v = false ∧ code = 3)) := hide (by
      rcases HRES.out with ⟨_, h⟩ | ⟨h1, h2, _⟩
      · exact h
      · exact absurd (h1.uniq HWC.out) h2)
    clear hs hw hw1 hn d0
    have k0 := HK2.out.cell 0 _ rfl
    have k1 := HK2.out.cell 1 _ rfl
    go_wp2_with fail
    refine (classS_any A n c f B d s C m m xs 1000 _ (HZ.out.later HB2.out) HS.out HW.out.tup HM.out (fun h => h) (HR.out.later HB2.out) (by omega) (by omega)).mono ?_
    have hs2 := HB2.out.size
    rintro e w3 (⟨L, v3, vals, hcl, ha, hll, rfl, hb3, hl3⟩ | ⟨hf, rfl, hb3⟩)
    · have HB3 := hide (HB2.out.trans (hb3.mono hs2))
      obtain ⟨hv, rfl⟩ : (v = true ↔ Tch (leH f) (leH s) xs ys) ∧ code = 0 := by
        rcases HOR.out with ⟨_, h1, h2⟩ | ⟨h1, _⟩
        · exact ⟨h1, h2⟩
        · exact absurd ⟨L, hcl, hll⟩ h1
      obtain ⟨A3, c3, hv3, hobj⟩ := hl3.shape
      subst hv3
      have HRD := hide hobj.rd
      have HCL := hide hcl
      have HLL := hide hll
      have HVV : Hid (v = true ↔ ys ∈ L) := hide (by rw [hv, HCL.out.2])
      obtain ⟨N, hN⟩ : ∃ N, L.length = N := ⟨_, rfl⟩
      have HN := hide hN
      rw [hN] at hll ⊢
      clear hb3 hcl ha hl3 hobj hv hN k0 k1
      go_wp2_with fail
      refine (find_any A3 N c3 L D m2 m2 ys v _ HN.out (by omega) (fun i hi => by rw [HCL.out.row hi, HM.out]; exact hb) HRD.out HM2.out hb2 (HR2.out.later HB3.out) HVV.out).mono ?_
      rintro e w4 ⟨rfl, hb4⟩
      have HB4 := hide (HB3.out.trans (hb4.mono HB3.out.size))
      clear hb4
      go_wp2_with fail
      go_ret2
      exact ⟨rfl, HB4.out⟩
    · obtain ⟨rfl, rfl⟩ : v = false ∧ code = 3 := by
        rcases HOR.out with ⟨h1, _⟩ | ⟨_, h1⟩
        · exact absurd h1 hf
        · exact h1
      have HB3 := hide (HB2.out.trans (hb3.mono hs2))
      clear hb3 hf k0 k1
      go_wp2_with fail
      go_ret2
      exact ⟨rfl, HB3.out⟩
  · have hz1 : v = false ∧ code = wc := by
      rcases HRES.out with ⟨h1, _⟩ | ⟨h1, _, h3⟩
      · exact absurd (HWC.out.uniq h1) hc0
      · exact ⟨h3, h1.uniq HWC.out⟩
    obtain ⟨rfl, rfl⟩ := hz1
    have hcb := d0 hc0
    clear d0
    go_wp2_with fail
    go_ret2
    exact ⟨rfl, HB2.out⟩

end Go.Proofs.Ytiaebilcgmahlaa
namespace Go.Proofs.Ytiaebilcgmahlaa
open Go Go.RowKit
open Classical
set_option maxHeartbeats 4000000
theorem Obj2.first {ts t : TypeId} {lo hi : Nat} {w : World} {A : Option Addr} {rows : List (List Int)} (h : Obj2 ts t lo hi w A rows) (h0 : 0 < rows.length) : ∃ g R C, A = some ⟨g, 0, none⟩ ∧ w.cell? ⟨g, 0, none⟩ = some (.slice R (rows.getD 0 []).length C) ∧ Obj1 t lo hi w R (rows.getD 0 []) := by
  rcases h with ⟨_, rfl⟩ | ⟨g, R, C, rfl, _, _, ⟨cur, h1, h2⟩, h3, _⟩
  · simp at h0
  · exact ⟨g, R 0, C 0, rfl, by rw [cell_of_row w g 0 cur ts (0, 0) h1]; exact h2 0 h0, h3 0 h0⟩
/-- What the normal word is told. -/
def NwR (f s : List (List Int)) (xs zs : List Int) (code : Int) : Prop := ∃ L, CowR f s xs L code ∧ zs = L.getD 0 []
theorem CowR.zero {f s : List (List Int)} {xs : List Int} {L : List (List Int)} (h : CowR f s xs L 0) : WdC f s [xs] 0 ∧ Cls (leH f) (leH s) xs L ∧ Asc L ∧ L.length ≤ 1000 := by
  rcases h with ⟨h1, ⟨h2, h3, h4, _⟩ | ⟨_, _, h⟩⟩ | ⟨_, h, _⟩
  · exact ⟨h1, h2, h3, h4⟩
  · omega
  · omega
theorem CowR.none {f s : List (List Int)} {xs : List Int} {L : List (List Int)} {code : Int} (h : CowR f s xs L code) (hc : code ≠ 0) : L = [] := by
  rcases h with ⟨h1, ⟨_, _, _, h2⟩ | ⟨_, h2, _⟩⟩ | ⟨_, _, h2⟩
  · exact absurd h2 hc
  · exact h2
  · exact h2
theorem NwR.ex (f s : List (List Int)) (xs : List Int) : ∃ zs code, NwR f s xs zs code ∧ zs.length ≤ 1048576 := by
  obtain ⟨L, code, h, h1, h2⟩ := CowR.ex f s xs
  refine ⟨L.getD 0 [], code, ⟨L, h, rfl⟩, ?_⟩
  by_cases h0 : 0 < L.length
  · exact h2 0 h0
  · have e : L = [] := List.eq_nil_of_length_eq_zero (by omega)
    subst e; simp
set_option maxRecDepth 100000 in
theorem nwI (A : Option Addr) (n c : Nat) (f : List (List Int)) (B : Option Addr) (k d : Nat) (s : List (List Int)) (C : Option Addr) (m e : Nat) (xs zs : List Int) (code : Int) (kz : Nat) (w : World) (hz : ZArg 1048576 w A n f B k s) (hm : xs.length = m) (hb : m ≤ 1048576) (hr : Rd w C xs) (hres : NwR f s xs zs code) (hkz : zs.length = kz) :
    Calls Try.prog 34 #[.agg #[.slice A n c, .slice B k d], .slice C m e] w (RPost 2 kz zs code w) := by
  have HZ := hide hz
  have HM := hide hm
  have HR := hide hr
  have HKZ := hide hkz
  obtain ⟨L, hL, hzL⟩ := hres
  have HC := hide hL
  have HZL := hide hzL
  have HB0 := hide ((Below.refl _ w).alloc (Nat.le_refl _) (Obj.cells #[Value.slice A n c, Value.slice B k d] 29))
  have HK0 := hide (Blk.new w 29 [.slice A n c, .slice B k d])
  have d0 : ¬ code = 0 → (code != 0) = true := fun h => by simpa using h
  clear hz hm hr hkz hL hzL
  go_enter Try.func34, Try.ntmps34
  have k0 := HK0.out.cell 0 _ rfl
  have k1 := HK0.out.cell 1 _ rfl
  go_wp2_with fail
  clear k0 k1
  refine (cowI A n c f B k d s C m e xs L code _ _ (HZ.out.later HB0.out) HM.out hb (HR.out.later HB0.out) HC.out rfl).mono ?_
  rintro e w1 ⟨A1, c1, rfl, hb1, hobj⟩
  have HB1 := hide (HB0.out.trans (hb1.mono HB0.out.size))
  have HO1 := hide (hobj.mono (lo' := w.heap.size) HB0.out.size (Nat.le_refl _))
  clear hb1 hobj
  by_cases hc0 : code = 0
  · subst hc0
    obtain ⟨_, hcl, _, _⟩ := HC.out.zero
    obtain ⟨g, R, CC, rfl, hcell, hrow⟩ := HO1.out.first hcl.pos
    rw [← HZL.out, HKZ.out] at hcell
    rw [← HZL.out] at hrow
    have HRO := hide hrow
    clear hcl hrow d0
    have hlp : (0 : Int) < L.length := by have h := HC.out.zero.2.1.pos; omega
    obtain ⟨ll, hll⟩ : ∃ ll, L.length = ll := ⟨_, rfl⟩
    rw [hll] at hlp ⊢
    go_wp2_with fail
    go_ret2
    exact ⟨_, _, rfl, HB1.out, HRO.out.res (Nat.le_refl _)⟩
  · have hz1 : zs = [] := by rw [HZL.out, HC.out.none hc0]; rfl
    subst hz1
    obtain rfl : kz = 0 := by simpa using HKZ.out.symm
    have hcb := d0 hc0
    clear d0
    go_wp2_with fail
    go_ret2
    exact ⟨_, _, rfl, HB1.out, .inl ⟨rfl, rfl⟩⟩
set_option maxRecDepth 100000 in
theorem nwS_any (A : Option Addr) (n c : Nat) (f : List (List Int)) (B : Option Addr) (k d : Nat) (s : List (List Int)) (C : Option Addr) (m e : Nat) (xs zs : List Int) (code : Int) (kz : Nat) (w : World) (hz : ZArg 1048576 w A n f B k s) (hm : xs.length = m) (hb : m ≤ 1048576) (he : m = 0 → e = 0) (hr : Rd w C xs) (hres : NwR f s xs zs code) (hkz : zs.length = kz) :
    Calls Try.prog 33 #[.agg #[.slice A n c, .slice B k d], .slice C m e] w (RPost 2 kz zs code w) := by
  have HZ := hide hz
  have HM := hide hm
  have HR := hide hr
  have HKZ := hide hkz
  obtain ⟨L, hL, hzL⟩ := hres
  have HC := hide hL
  have HZL := hide hzL
  have HB0 := hide ((Below.refl _ w).alloc (Nat.le_refl _) (Obj.cells #[Value.slice A n c, Value.slice B k d] 29))
  have HK0 := hide (Blk.new w 29 [.slice A n c, .slice B k d])
  have d0 : ¬ code = 0 → (code != 0) = true := fun h => by simpa using h
  clear hz hm hr hkz hL hzL
  go_enter Try.func33, Try.ntmps33
  have k0 := HK0.out.cell 0 _ rfl
  have k1 := HK0.out.cell 1 _ rfl
  go_wp2_with fail
  clear k0 k1
  refine (cowS_any A n c f B k d s C m e xs L code _ (HZ.out.later HB0.out) HM.out hb he (HR.out.later HB0.out) HC.out).mono ?_
  rintro e w1 ⟨v1, vals1, rfl, hb1, hl1⟩
  obtain ⟨A1, c1, hv1, hobj⟩ := hl1.shape
  subst hv1
  have HB1 := hide (HB0.out.trans (hb1.mono HB0.out.size))
  have HO1 := hide (hobj.mono (lo' := w.heap.size) HB0.out.size (Nat.le_refl _))
  clear hb1 hobj hl1
  by_cases hc0 : code = 0
  · subst hc0
    obtain ⟨_, hcl, _, _⟩ := HC.out.zero
    obtain ⟨g, R, CC, rfl, hcell, hrow⟩ := HO1.out.first hcl.pos
    rw [← HZL.out, HKZ.out] at hcell
    rw [← HZL.out] at hrow
    have HRO := hide hrow
    clear hcl hrow d0
    have hlp : (0 : Int) < L.length := by have h := HC.out.zero.2.1.pos; omega
    obtain ⟨ll, hll⟩ : ∃ ll, L.length = ll := ⟨_, rfl⟩
    rw [hll] at hlp ⊢
    go_wp2_with fail
    go_ret2
    exact ⟨_, _, rfl, HB1.out, HRO.out.res (Nat.le_refl _)⟩
  · have hz1 : zs = [] := by rw [HZL.out, HC.out.none hc0]; rfl
    subst hz1
    obtain rfl : kz = 0 := by simpa using HKZ.out.symm
    have hcb := d0 hc0
    clear d0
    go_wp2_with fail
    go_ret2
    exact ⟨_, _, rfl, HB1.out, .inl ⟨rfl, rfl⟩⟩
theorem nwS (A : Option Addr) (n c : Nat) (f : List (List Int)) (B : Option Addr) (k d : Nat) (s : List (List Int)) (C : Option Addr) (m : Nat) (xs zs : List Int) (code : Int) (kz : Nat) (w : World) (hz : ZArg 1048576 w A n f B k s) (hm : xs.length = m) (hb : m ≤ 1048576) (hr : Rd w C xs) (hres : NwR f s xs zs code) (hkz : zs.length = kz) :
    Calls Try.prog 33 #[.agg #[.slice A n c, .slice B k d], .slice C m m] w (RPost 2 kz zs code w) :=
  nwS_any A n c f B k d s C m m xs zs code kz w hz hm hb (fun h => h) hr hres hkz
end Go.Proofs.Ytiaebilcgmahlaa
namespace Go.Proofs.Ytiaebilcgmahlaa
open Go Go.RowKit
open Classical
set_option maxHeartbeats 4000000
section
variable {h1 h2 b1 b2 : Nat → Nat → Int} {n : Nat}
/-- Moves of a begin. -/
theorem mv_front (r u : List Int) (k : Nat) (hk : k + 1 < u.length) : mvL h1 h2 (u ++ r) k = mvL h1 h2 u k ++ r := by
  have e1 : elN (u ++ r) k = elN u k := by unfold elN; simp only [List.getD_eq_getElem?_getD]; rw [List.getElem?_append_left (by omega)]
  have e2 : elN (u ++ r) (k + 1) = elN u (k + 1) := by unfold elN; simp only [List.getD_eq_getElem?_getD]; rw [List.getElem?_append_left (by omega)]
  unfold mvL
  rw [e1, e2]
  rw [List.set_append_left _ _ (by omega), List.set_append_left _ _ (by simp; omega)]
theorem Tch.front (r : List Int) {u u' : List Int} (h : Tch h1 h2 u u') : Tch h1 h2 (u ++ r) (u' ++ r) := by
  induction h with
  | refl => exact .refl
  | @step y j hy hk ih =>
    have hl := Tch.len hy
    have h9 := Tch.step ih (k := j) (by rw [List.length_append]; omega)
    rw [mv_front r y j (by omega)] at h9
    exact h9
theorem Tup.of_mem {xs : List Int} (hl : xs.length ≤ 12) (h : ∀ v ∈ xs, 0 ≤ v ∧ v < (n : Int)) : Tup n xs := ⟨hl, fun j hj => h _ (tgetD_mem xs j 0 hj)⟩
theorem Rests.of_cls {u x : List Int} {L : List (List Int)} (hcl : Cls h1 h2 x L) : ∃ R, Rests h1 h2 u x R := by
  obtain ⟨R, ha, _, hm⟩ := asc_ex (restL u L) (restL_nodup u L hcl.1)
  exact ⟨R, ha, fun r => by rw [hm, restL_mem]; exact hcl.2 _⟩
theorem Rests.uniq {u x : List Int} {R R' : List (List Int)} (h : Rests h1 h2 u x R) (h' : Rests h1 h2 u x R') : R = R' := Asc.eq h.1 h'.1 (fun r => (h.2 r).trans (h'.2 r).symm)
theorem Rests.cand (hp : PB n h1 h2 b1 b2) {u x : List Int} {R S : List (List Int)} (hu : Tup n u) (hx : Tup n x) (hR : Rests h1 h2 u x R) (hS : Cls h1 h2 u S) {p : List Int} (hp' : Tch h1 h2 x p) (hm : p.take u.length ∈ S) : p.drop u.length ∈ R := by
  rw [hR.2]
  have k1 := (hS.2 _).1 hm
  have k2 := k1.front (p.drop u.length)
  rw [List.take_append_drop] at k2
  have hpt := hp'.tup hp hx
  have hl := k1.len
  rw [List.length_take] at hl
  have h12 := hpt.1
  have ht : Tup n (u ++ p.drop u.length) := Tup.of_mem (by simp; omega) (fun v hv => by
    rcases List.mem_append.1 hv with hv | hv
    · exact hu.mem v hv
    · exact hpt.mem v (List.mem_of_mem_drop hv))
  exact hp'.trans (k2.symm hp ht)
theorem Rests.conv {u x : List Int} {R S L : List (List Int)} (hR : Rests h1 h2 u x R) (hS : Cls h1 h2 u S) (hL : Cls h1 h2 x L) {r : List Int} (hr : r ∈ R) : u ++ r ∈ L ∧ (u ++ r).take u.length ∈ S ∧ (u ++ r).drop u.length = r :=
  ⟨(hL.2 _).2 ((hR.2 r).1 hr), by simp; exact (hS.2 _).2 .refl, by simp⟩
end
theorem Asc.first_least {R : List (List Int)} (h : Asc R) {r : List Int} (hr : r ∈ R) : lessL r (R.getD 0 []) = false := by
  obtain ⟨i, hi, e⟩ := List.getElem_of_mem hr
  by_cases h0 : i = 0
  · subst h0
    have : R.getD 0 [] = r := by simp [hi, e]
    rw [this, lessL_irr]
  · have k := h.at (i := 0) (j := i) (by omega) hi
    have e2 : R.getD i [] = r := by simp [hi, e]
    rw [e2] at k
    cases h3 : lessL r (R.getD 0 []) with
    | false => rfl
    | true =>
      have := lessL_trans _ _ _ k h3
      rw [lessL_irr] at this
      cases this
theorem Asc.least {R : List (List Int)} (h : Asc R) {z : List Int} (hz : z ∈ R) (hm : ∀ r, r ∈ R → lessL r z = false) : 0 < R.length ∧ R.getD 0 [] = z := by
  obtain ⟨i, hi, e⟩ := List.getElem_of_mem hz
  have e2 : R.getD i [] = z := by simp [hi, e]
  refine ⟨by omega, ?_⟩
  by_cases h0 : i = 0
  · subst h0; exact e2
  · have k := h.at (i := 0) (j := i) (by omega) hi
    rw [e2, hm _ (tgetD_mem R 0 [] (by omega))] at k
    cases k
/-- The least rest is a normal word. -/
theorem Rests.normal {f s : List (List Int)} {n : Nat} (hs : SolF f s) (hn : f.length = n) {u x : List Int} {R : List (List Int)} (hwx : Wrd n x) (hf : FewT (leH f) (leH s) x 1000) (hR : Rests (leH f) (leH s) u x R) (h0 : 0 < R.length) : NwR f s (R.getD 0 []) (R.getD 0 []) 0 := by
  have hp := hs.pb hn
  obtain ⟨z, hz⟩ : ∃ z, R.getD 0 [] = z := ⟨_, rfl⟩
  rw [hz]
  have hzR : z ∈ R := by rw [← hz]; exact tgetD_mem R 0 [] h0
  have hzT := (hR.2 z).1 hzR
  have hl := hzT.len
  rw [List.length_append] at hl
  have h8 := hwx.1
  have htz := hzT.tup hp hwx.tup
  have hwz : Wrd n z := ⟨by omega, fun j hj => htz.mem _ (List.mem_append_right _ (tgetD_mem z j 0 hj))⟩
  obtain ⟨C, hC⟩ := Cls.ex hp hwz.tup
  obtain ⟨C', ha, hlC, hm⟩ := asc_ex C hC.1
  have hC' := hC.sorted ha hm
  have hsub : ∀ y, y ∈ C' → y ∈ R := fun y hy => (hR.2 y).2 (hzT.trans (((hC'.2 y).1 hy).behind u))
  obtain ⟨L, hL, hLl⟩ := hf
  have hb1 := tnodup_le ha.nodup hsub
  have hb2 : R.length ≤ (restL u L).length := tnodup_le hR.1.nodup (fun r hr => (restL_mem u L r).2 ((hL.2 _).2 ((hR.2 r).1 hr)))
  have hb3 := restL_len u L
  have hfin := ha.least (z := z) ((hC'.2 z).2 .refl) (fun r hr => by rw [← hz]; exact hR.1.first_least (hsub r hr))
  refine ⟨C', .inl ⟨.inl ⟨hs, wrds1.2 (by rw [hn]; exact hwz), rfl⟩, .inl ⟨hC', ha, by omega, rfl⟩⟩, hfin.2.symm⟩
theorem Rests.wrd {f s : List (List Int)} {u x : List Int} {R : List (List Int)} (hR : Rests (leH f) (leH s) u x R) {r : List Int} (hr : r ∈ R) : u.length + r.length = x.length := by
  have h := ((hR.2 r).1 hr).len
  rw [List.length_append] at h
  exact h
theorem Rd.take {w : World} {A : Option Addr} {xs : List Int} (h : Rd w A xs) (k : Nat) : Rd w A (xs.take k) := fun h0 => by
  have hl : (xs.take k).length ≤ xs.length := by rw [List.length_take]; omega
  obtain ⟨b, o, e, hb, hc⟩ := h (by omega)
  refine ⟨b, o, e, hb, fun i hi => ?_⟩
  rw [hc i (by omega)]
  have : i < k := by rw [List.length_take] at hi; omega
  simp [this]
theorem Rd.drop {w : World} {b o : Nat} {xs : List Int} (h : Rd w (some ⟨b, o, none⟩) xs) (k : Nat) : Rd w (some ⟨b, o + k, none⟩) (xs.drop k) := fun h0 => by
  have hl : (xs.drop k).length = xs.length - k := by simp
  obtain ⟨b', o', e, hb, hc⟩ := h (by omega)
  injection e with e
  injection e with e1 e2
  subst e1 e2
  refine ⟨_, _, rfl, hb, fun i hi => ?_⟩
  have h := hc (k + i) (by omega)
  rw [← Nat.add_assoc] at h
  rw [h]
  simp [List.getD_eq_getElem?_getD, List.getElem?_drop]
set_option maxRecDepth 100000 in
theorem own0k_any (ad : Addr) (c : Nat) (w : World) :
    Calls Try.prog 92 #[.slice (some ad) 0 c] w fun e w' => ∃ g, e = .returned (.slice (some ⟨g, 0, none⟩) 0 0) ∧ Below w.heap.size w w' := by
  obtain ⟨i0, hi, hz0, hz1, hz2⟩ := info_parts clInfo
  go_enter Try.func92, Try.ntmps92
  go_wp2_with (at_builtin; refine wpList_append_fits_any _ rfl _ _ 25 rfl w.heap.size 2 i0 1 Try.underlying25 hi hz1 w.heap.size 0 0 [] rfl (ne_empty w 2) (some ad) 0 c [] rfl rfl (fun h => by cases h) (fun _ _ j u hu => by simp at hu) (fun u hu => by simp at hu) (Nat.le_refl _) ?_)
  intro w1 hown' hgrow
  have HB : Hid (Below w.heap.size w w1) := hide (((Below.refl _ _).alloc (Nat.le_refl _) _).grown hgrow (by simp) (fun g hg => by cases hg; exact Nat.le_refl _))
  clear hown' hgrow
  go_wp2_with fail
  go_ret
  exact ⟨_, rfl, HB.out⟩
/-- A copy of any list, with no room behind an empty one. -/
theorem ownr_any (ad : Addr) (n c : Nat) (xs : List Int) (w : World) (hn : xs.length = n) (hbn : n ≤ 1048576) (hr : Rd w (some ad) xs) :
    Calls Try.prog 92 #[.slice (some ad) n c] w fun e w' => ∃ A' c', e = .returned (.slice A' n c') ∧ Below w.heap.size w w' ∧ (n = 0 → c' = 0) ∧ Rd w' A' xs := by
  by_cases h0 : n = 0
  · subst h0
    refine (own0k_any ad c w).mono ?_
    rintro e w2 ⟨g, rfl, hb⟩
    exact ⟨_, _, rfl, hb, fun _ => rfl, fun h => by omega⟩
  · obtain ⟨b, o, e, hb, hc⟩ := hr (by omega)
    injection e with e
    subst e
    refine (own_any b o n c xs w hn hbn hb hc).mono ?_
    rintro e w2 ⟨v, rfl, hb2, how⟩
    obtain ⟨A', c', rfl, hres⟩ := own_shape how
    exact ⟨_, _, rfl, hb2, fun h => absurd h h0, hres.obj.rd⟩
theorem classS_both (A : Option Addr) (n c : Nat) (f : List (List Int)) (B : Option Addr) (d : Nat) (s : List (List Int)) (C : Option Addr) (m e : Nat) (x : List Int) (most : Nat) (w : World) (hz : ZArg 1048576 w A n f B n s) (hs : SolF f s) (ht : Tup n x) (hm : x.length = m) (he : m = 0 → e = 0) (hr : Rd w C x) (hl1 : 1 ≤ most) (hl : most ≤ 5000) :
    Calls Try.prog 69 #[.agg #[.slice A n c, .slice B n d], .slice C m e, .int .i64 most] w fun e w' => ∃ (v : Value) (r : Bool), e = .returned (.tuple #[v, .bool r]) ∧ Below w.heap.size w w' ∧ (r = true ↔ FewT (leH f) (leH s) x most) ∧ (r = true → ∃ L g c4 vals, v = .slice (some ⟨g, 0, none⟩) L.length c4 ∧ Cls (leH f) (leH s) x L ∧ L.length ≤ most ∧ LstV 25 2 w.heap.size w' v L vals ∧ CapsV vals ∧ g < w'.heap.size ∧ ∀ i u, vals[i]? = some u → w'.cell? ⟨g, i, none⟩ = some u) := by
  refine (classC_any A n c f B d s C m e x most w hz hs ht hm he hr hl1 hl).mono ?_
  rintro e w2 (⟨L, v, vals, h1, h2, h3, rfl, h5, h6, h7⟩ | ⟨h1, rfl, h3⟩)
  · obtain ⟨g, c4, hv, hg, hcells⟩ := own_look h6.own h1.pos
    exact ⟨v, true, rfl, h5, ⟨fun _ => ⟨L, h1, h3⟩, fun _ => rfl⟩, fun _ => ⟨L, g, c4, vals, hv, h1, h3, h6, h7, hg, hcells⟩⟩
  · exact ⟨_, false, rfl, h3, ⟨fun h => by simp at h, fun h => absurd h h1⟩, fun h => by simp at h⟩
end Go.Proofs.Ytiaebilcgmahlaa
namespace Go.Proofs.Ytiaebilcgmahlaa
open Go Go.RowKit
open Classical
set_option maxHeartbeats 1000000
/-! All words with some letters in order, and the normal ones among them. -/
/-- All words of k letters of a set of n, in order. -/
def wds (n : Nat) : Nat → List (List Int)
  | 0 => [[]]
  | k + 1 => (wds n k).flatMap fun t => (List.range n).map fun x : Nat => t ++ [(x : Int)]
/-- The word of k letters with a number. -/
def dig (n : Nat) : Nat → Nat → List Int
  | 0, _ => []
  | k + 1, w => dig n k (w / n) ++ [((w % n : Nat) : Int)]
theorem dig_len (n : Nat) : ∀ k w, (dig n k w).length = k
  | 0, _ => rfl
  | k + 1, w => by simp [dig, dig_len n k]
theorem flat_getD {α : Type} (n : Nat) (g : List Int → Nat → α) (d : α) : ∀ (L : List (List Int)) (q r : Nat), q < L.length → r < n → (L.flatMap fun t => (List.range n).map (g t)).getD (q * n + r) d = g (L.getD q []) r
  | [], q, r, h, _ => by simp at h
  | t :: L, 0, r, _, hr => by
    simp only [List.flatMap_cons, Nat.zero_mul, Nat.zero_add, List.getD_eq_getElem?_getD]
    rw [List.getElem?_append_left (by simpa using hr)]
    simp [hr]
  | t :: L, q + 1, r, h, hr => by
    simp only [List.flatMap_cons, List.getD_eq_getElem?_getD]
    have e : (q + 1) * n + r = n + (q * n + r) := by rw [Nat.succ_mul]; omega
    rw [e, List.getElem?_append_right (by simp), List.length_map, List.length_range, Nat.add_sub_cancel_left]
    have ih := flat_getD n g d L q r (by simpa using h) hr
    simp only [List.getD_eq_getElem?_getD] at ih
    rw [ih]
    simp
theorem wds_len (n : Nat) : ∀ k, (wds n k).length = n ^ k
  | 0 => rfl
  | k + 1 => by
    have h : ∀ L : List (List Int), (L.flatMap fun t => (List.range n).map fun x : Nat => t ++ [(x : Int)]).length = L.length * n := by
      intro L
      induction L with
      | nil => simp
      | cons t L ih => rw [List.flatMap_cons, List.length_append, ih]; simp [Nat.succ_mul]; omega
    rw [wds, h, wds_len n k, Nat.pow_succ]
theorem wds_at (n : Nat) : ∀ k w, w < n ^ k → (wds n k).getD w [] = dig n k w
  | 0, w, h => by
    have : w = 0 := by simpa using h
    subst this; rfl
  | k + 1, w, h => by
    have hn : 0 < n := by
      rcases Nat.eq_zero_or_pos n with e | e
      · subst e; simp at h
      · exact e
    have hq : w / n < n ^ k := by rw [Nat.pow_succ] at h; exact Nat.div_lt_of_lt_mul (by rw [Nat.mul_comm]; exact h)
    have e : w = (w / n) * n + w % n := by have := Nat.div_add_mod w n; rw [Nat.mul_comm] at this; omega
    have h2 := flat_getD n (fun t x => t ++ [((x : Nat) : Int)]) [] (wds n k) (w / n) (w % n) (by rw [wds_len]; exact hq) (Nat.mod_lt _ hn)
    rw [← e] at h2
    show (wds n (k + 1)).getD w [] = _
    unfold wds
    rw [h2, wds_at n k _ hq]
    rfl
theorem wds_mem {n : Nat} : ∀ k (xs : List Int), xs ∈ wds n k ↔ xs.length = k ∧ ∀ v ∈ xs, 0 ≤ v ∧ v < (n : Int)
  | 0, xs => by
    simp only [wds, List.mem_singleton]
    constructor
    · intro e; subst e; simp
    · intro h; exact List.eq_nil_of_length_eq_zero h.1
  | k + 1, xs => by
    simp only [wds, List.mem_flatMap, List.mem_map, List.mem_range]
    constructor
    · rintro ⟨t, ht, x, hx, rfl⟩
      obtain ⟨h1, h2⟩ := (wds_mem k t).1 ht
      refine ⟨by simp [h1], fun v hv => ?_⟩
      rcases List.mem_append.1 hv with h | h
      · exact h2 v h
      · have : v = x := by simpa using h
        omega
    · rintro ⟨h1, h2⟩
      have hne : xs ≠ [] := fun e => by subst e; simp at h1
      obtain ⟨t, x, rfl⟩ : ∃ t x, xs = t ++ [x] := ⟨_, _, (List.dropLast_concat_getLast hne).symm⟩
      have hx := h2 x (by simp)
      refine ⟨t, (wds_mem k t).2 ⟨by simpa using h1, fun v hv => h2 v (by simp [hv])⟩, x.toNat, by omega, ?_⟩
      have : ((x.toNat : Nat) : Int) = x := by omega
      rw [this]
theorem lessL_app : ∀ (t t' : List Int) (a b : List Int), t.length = t'.length → lessL t t' = true → lessL (t ++ a) (t' ++ b) = true
  | [], [], _, _, _, h => by simp [lessL] at h
  | [], _ :: _, _, _, h, _ => by simp at h
  | _ :: _, [], _, _, h, _ => by simp at h
  | x :: t, y :: t', a, b, hl, h => by
    simp only [List.cons_append, lessL] at h ⊢
    by_cases e : x = y
    · rw [if_pos e] at h ⊢
      exact lessL_app t t' a b (by simpa using hl) h
    · rw [if_neg e] at h ⊢
      exact h
theorem lessL_pre : ∀ (t a b : List Int), lessL (t ++ a) (t ++ b) = lessL a b
  | [], a, b => rfl
  | x :: t, a, b => by simp [lessL, lessL_pre t a b]
theorem wds_asc (n : Nat) : ∀ k, Asc (wds n k)
  | 0 => Asc.one []
  | k + 1 => by
    have ih := wds_asc n k
    have hlen : ∀ t, t ∈ wds n k → t.length = k := fun t ht => ((wds_mem k t).1 ht).1
    unfold wds
    have key : ∀ L : List (List Int), Asc L → (∀ t ∈ L, t.length = k) → Asc (L.flatMap fun t => (List.range n).map fun x : Nat => t ++ [(x : Int)]) := by
      intro L
      induction L with
      | nil => intro _ _; exact List.Pairwise.nil
      | cons t L ihL =>
        intro ha hl
        have ha' := List.pairwise_cons.1 ha
        rw [List.flatMap_cons]
        refine List.pairwise_append.2 ⟨?_, ihL ha'.2 (fun t ht => hl t (by simp [ht])), ?_⟩
        · refine List.pairwise_map.2 (List.Pairwise.imp ?_ List.pairwise_lt_range)
          intro a b hab
          rw [lessL_pre]
          simp only [lessL]
          rw [if_neg (by omega)]
          exact decide_eq_true (by omega)
        · intro p hp q hq
          obtain ⟨x, _, rfl⟩ := List.mem_map.1 hp
          obtain ⟨t', ht', hq'⟩ := List.mem_flatMap.1 hq
          obtain ⟨y, _, rfl⟩ := List.mem_map.1 hq'
          exact lessL_app t t' _ _ (by rw [hl t (by simp), hl t' (by simp [ht'])]) (ha'.1 t' ht')
    exact key _ ih hlen
section
variable (h1 h2 : Nat → Nat → Int)
/-- The word is the least one of its class. -/
def IsNw (t : List Int) : Prop := ∀ y, Tch h1 h2 t y → lessL y t = false
/-- The normal words of a list. -/
noncomputable def nws (l : List (List Int)) : List (List Int) := l.filter fun t => decide (IsNw h1 h2 t)
end
section
variable {h1 h2 b1 b2 : Nat → Nat → Int} {n : Nat}
theorem nws_app (l : List (List Int)) (t : List Int) : nws h1 h2 (l ++ [t]) = nws h1 h2 l ++ (if IsNw h1 h2 t then [t] else []) := by
  unfold nws
  rw [List.filter_append]
  congr 1
  by_cases h : IsNw h1 h2 t <;> simp [h]
theorem nws_mem (l : List (List Int)) (t : List Int) : t ∈ nws h1 h2 l ↔ t ∈ l ∧ IsNw h1 h2 t := by
  unfold nws; rw [List.mem_filter]; simp
theorem nws_len (l : List (List Int)) : (nws h1 h2 l).length ≤ l.length := List.length_filter_le _ _
theorem wds_tup {k : Nat} (hk : k ≤ 12) {t : List Int} (h : t ∈ wds n k) : Tup n t := by
  obtain ⟨a, b⟩ := (wds_mem k t).1 h
  exact Tup.of_mem (by omega) b
theorem Tch.wds (hp : PB n h1 h2 b1 b2) {k : Nat} (hk : k ≤ 12) {t y : List Int} (h : t ∈ wds n k) (hy : Tch h1 h2 t y) : y ∈ wds n k :=
  (wds_mem k y).2 ⟨by rw [hy.len]; exact ((wds_mem k t).1 h).1, fun v hv => (hy.tup hp (wds_tup hk h)).mem v hv⟩
/-- Each word has a normal one in its class. -/
theorem IsNw.ex (hp : PB n h1 h2 b1 b2) {t : List Int} (ht : Tup n t) : ∃ y, Tch h1 h2 t y ∧ IsNw h1 h2 y := by
  obtain ⟨C, hC⟩ := Cls.ex hp ht
  obtain ⟨C', ha, hl, hm⟩ := asc_ex C hC.1
  have hC' := hC.sorted ha hm
  have h0 := hC'.pos
  have hT := (hC'.2 _).1 (tgetD_mem C' 0 [] h0)
  exact ⟨_, hT, fun z hz => ha.first_least ((hC'.2 z).2 (hT.trans hz))⟩
/-- A list of words, of which all that are less than one of them stand before it. -/
theorem nws_met (hp : PB n h1 h2 b1 b2) {k w : Nat} (hk : k ≤ 12) (hw : w < n ^ k) : (∃ y, y ∈ nws h1 h2 ((wds n k).take w) ∧ Tch h1 h2 y (dig n k w)) ↔ ¬ IsNw h1 h2 (dig n k w) := by
  have hat := wds_at n k w hw
  have hlen : w < (wds n k).length := by rw [wds_len]; exact hw
  have hmem : dig n k w ∈ wds n k := by rw [← hat]; exact tgetD_mem _ _ _ hlen
  have htup := wds_tup hk hmem
  constructor
  · rintro ⟨y, hy, hT⟩ hN
    obtain ⟨hyt, hyn⟩ := (nws_mem _ _).1 hy
    obtain ⟨i, hi, e⟩ := List.getElem_of_mem hyt
    have hi2 : i < w := by simp at hi; omega
    have e2 : (wds n k).getD i [] = y := by
      rw [← e]
      simp [List.getD_eq_getElem?_getD, List.getElem?_eq_getElem (show i < (wds n k).length by omega)]
    have hlt := (wds_asc n k).at (i := i) (j := w) hi2 hlen
    rw [e2, hat] at hlt
    have hyw : y ∈ wds n k := by rw [← e2]; exact tgetD_mem _ _ _ (by omega)
    rw [hN y (hT.symm hp (wds_tup hk hyw))] at hlt
    cases hlt
  · intro hN
    obtain ⟨y, hT, hyn⟩ := IsNw.ex hp htup
    have hyw := hT.wds hp hk hmem
    refine ⟨y, (nws_mem _ _).2 ⟨?_, hyn⟩, hT.symm hp htup⟩
    obtain ⟨i, hi, e⟩ := List.getElem_of_mem hyw
    have e2 : (wds n k).getD i [] = y := by simp [hi, e]
    have hne : y ≠ dig n k w := fun e => hN (by rw [← e]; exact hyn)
    have hiw : i < w := by
      rcases Nat.lt_trichotomy i w with h | h | h
      · exact h
      · subst h; rw [hat] at e2; exact absurd e2.symm hne
      · have hlt := (wds_asc n k).at (i := w) (j := i) h hi
        rw [e2, hat] at hlt
        -- then the word is less than the normal one of its class
        have h3 := hyn _ (hT.symm hp htup)
        rw [hlt] at h3; cases h3
    rw [List.mem_iff_getElem]
    exact ⟨i, by simp; omega, by rw [List.getElem_take]; exact e⟩
end
/-- The number of a word. -/
def numW (n : Nat) (xs : List Int) : Nat := xs.foldl (fun a x => a * n + x.toNat) 0
theorem numW_app (n : Nat) (xs : List Int) (x : Int) : numW n (xs ++ [x]) = numW n xs * n + x.toNat := by simp [numW]
theorem numW_wds {n : Nat} : ∀ k (xs : List Int), xs ∈ wds n k → numW n xs < n ^ k ∧ dig n k (numW n xs) = xs
  | 0, xs, h => by
    have : xs = [] := by simpa [wds] using h
    subst this
    exact ⟨by simp [numW], rfl⟩
  | k + 1, xs, h => by
    obtain ⟨t, ht, h2⟩ := List.mem_flatMap.1 h
    obtain ⟨x, hx, rfl⟩ := List.mem_map.1 h2
    have hx' := List.mem_range.1 hx
    obtain ⟨h3, h4⟩ := numW_wds k t ht
    rw [numW_app]
    have e : ((x : Nat) : Int).toNat = x := rfl
    rw [e]
    have hd : (numW n t * n + x) / n = numW n t := by
      rw [Nat.mul_comm, Nat.mul_add_div (by omega), Nat.div_eq_of_lt hx', Nat.add_zero]
    have hm : (numW n t * n + x) % n = x := by
      rw [Nat.mul_comm, Nat.mul_add_mod, Nat.mod_eq_of_lt hx']
    refine ⟨?_, ?_⟩
    · have h5 : (numW n t + 1) * n ≤ n ^ k * n := Nat.mul_le_mul_right n h3
      rw [Nat.pow_succ]
      rw [Nat.succ_mul] at h5
      omega
    · show dig n k ((numW n t * n + x) / n) ++ [(((numW n t * n + x) % n : Nat) : Int)] = _
      rw [hd, hm, h4]
theorem dig_inj {n : Nat} : ∀ k i j, i < n ^ k → j < n ^ k → dig n k i = dig n k j → i = j
  | 0, i, j, hi, hj, _ => by simp at hi hj; omega
  | k + 1, i, j, hi, hj, h => by
    rw [Nat.pow_succ, Nat.mul_comm] at hi hj
    have h2 := List.append_inj' (show dig n k (i / n) ++ [((i % n : Nat) : Int)] = dig n k (j / n) ++ [((j % n : Nat) : Int)] from h) rfl
    have h3 := dig_inj k _ _ (Nat.div_lt_of_lt_mul hi) (Nat.div_lt_of_lt_mul hj) h2.1
    have h4 : ((i % n : Nat) : Int) = ((j % n : Nat) : Int) := by simpa using h2.2
    have e1 := Nat.div_add_mod i n
    have e2 := Nat.div_add_mod j n
    rw [h3] at e1
    have h5 : i % n = j % n := by omega
    rw [h5] at e1
    omega
theorem dig_mem {n k w : Nat} (h : w < n ^ k) : dig n k w ∈ wds n k := by
  rw [← wds_at n k w h]
  exact tgetD_mem _ _ _ (by rw [wds_len]; exact h)
theorem wds_take (n k w : Nat) (h : w < n ^ k) : (wds n k).take (w + 1) = (wds n k).take w ++ [dig n k w] := by
  have hl : w < (wds n k).length := by rw [wds_len]; exact h
  rw [List.take_succ_eq_append_getElem hl, ← wds_at n k w h]
  simp [hl]
end Go.Proofs.Ytiaebilcgmahlaa
