import Derived.Test.YtbhlcfcmjildmaaGp
import Derived.Test.YtbhlcfcmjildmaaGe
import Derived.Test.YtbhlcfcmjildmaaGb
import Derived.Test.YtbhlcfcmjildmaaGn
import Derived.Test.YtbhlcfcmjildmaaGc
namespace Go.Proofs.Ytbhlcfcmjildmaa
open Go Go.RowKit
open Classical
set_option maxHeartbeats 4000000
/-- A copy of no numbers. -/
theorem own0_any (A : Option Addr) (w : World) :
    Calls Try.prog 58 #[.slice A 0 0] w fun e w' => ∃ g, e = .returned (.slice (some ⟨g, 0, none⟩) 0 0) ∧ Below w.heap.size w w' ∧ w.heap.size ≤ g ∧ w'.ownsRow w.heap.size 2 1 (.slice (some ⟨g, 0, none⟩) 0 0) 0 [] := by
  obtain ⟨i0, hi, hz0, hz1, hz2⟩ := info_parts clInfo
  go_enter Try.func58, Try.ntmps58
  go_wp2_with (at_builtin; refine wpList_append_fits_any _ rfl _ _ 26 rfl w.heap.size 2 i0 1 Try.underlying26 hi hz1 w.heap.size 0 0 [] rfl (ne_empty w 2) A 0 0 [] rfl rfl (fun _ => ⟨rfl, rfl⟩) (fun _ _ j u hu => by simp at hu) (fun u hu => by simp at hu) (Nat.le_refl _) ?_)
  intro w1 hown' hgrow
  have HO' := hide hown'
  have HB : Hid (Below w.heap.size w w1) := hide (((Below.refl _ _).alloc (Nat.le_refl _) _).grown hgrow (by simp) (fun g hg => by cases hg; exact Nat.le_refl _))
  clear hown' hgrow
  go_wp2_with fail
  go_ret
  exact ⟨_, rfl, HB.out, Nat.le_refl _, HO'.out⟩
/-- A list of one empty row. -/
theorem LstV.one0 {ts t : TypeId} {B g g2 c2 : Nat} {w : World} (h : w.ownsRow B ts 1 (.slice (some ⟨g, 0, none⟩) 1 c2) 1 [.slice (some ⟨g2, 0, none⟩) 0 0]) (h2 : w.ownsRow B t 1 (.slice (some ⟨g2, 0, none⟩) 0 0) 0 []) : LstV ts t B w (.slice (some ⟨g, 0, none⟩) 1 c2) [[]] [.slice (some ⟨g2, 0, none⟩) 0 0] :=
  ⟨h, fun i hi => by
    have hi0 : i = 0 := by simpa using hi
    subst hi0
    refine ⟨some ⟨g2, 0, none⟩, 0, rfl, ?_⟩
    rcases h2.2 with ⟨hv, _⟩ | ⟨g', cap, cur, hv, hb, hh, _⟩
    · cases hv
    · cases hv
      exact .inr ⟨g2, rfl, hb, (Array.getElem?_eq_some_iff.1 hh).1, cur, hh, fun i hi => by simp at hi⟩, fun i j u u' g' hij hu hu' => by
    have : j = 0 := by
      rcases j with _ | j
      · rfl
      · simp at hu'
    omega⟩
/-- A copy of a list of one empty row. -/
theorem own20c_any (b o c : Nat) (A : Option Addr) (w : World) (hb : b < w.heap.size) (hc : w.cell? ⟨b, o, none⟩ = some (.slice A 0 0)) :
    Calls Try.prog 61 #[.slice (some ⟨b, o, none⟩) 1 c] w fun e w' => ∃ v vals, e = .returned v ∧ Below w.heap.size w w' ∧ LstV 26 2 w.heap.size w' v [[]] vals ∧ CapsV vals := by
  obtain ⟨i2, hj, hy0, hy1, hy2⟩ := info_parts neInfo2
  have HC := hide hc
  clear hc
  go_enter Try.func61, Try.ntmps61
  go_wp2_with fail
  go_loopw [3, 4] (fun v i wr => ∃ k : Nat, k ≤ 1 ∧ i = .int .i64 k ∧ Below w.heap.size w wr ∧ w.heap.size ≤ wr.heap.size ∧ ((k = 0 ∧ wr.ownsRow w.heap.size 26 1 v 0 []) ∨ (k = 1 ∧ ∃ vals, LstV 26 2 w.heap.size wr v [[]] vals ∧ CapsV vals))) (fun _ i _ => 1 - (intOf i).toNat)
  case atStart => exact ⟨0, by omega, rfl, (Below.refl _ _).alloc (Nat.le_refl _) _, by simp, .inl ⟨rfl, ne_empty w 26⟩⟩
  case round =>
    obtain ⟨k, hk, rfl, hbe, hsz, hcase⟩ := hrel
    have HB := hide hbe
    clear hbe
    rcases hcase with ⟨rfl, hown⟩ | ⟨rfl, vals, hl, hcv⟩
    · have hlt : ((0 : Nat) : Int) < 1 := by omega
      have hcell := (HB.out.cell (p := ⟨b, o, none⟩) hb).trans HC.out
      have HO := hide hown
      clear hown
      go_wp2_with fail
      refine (own0_any A _).mono ?_
      rintro e w2 ⟨g2, rfl, hb2, hg2, ho2⟩
      have HB2 := hide (HB.out.trans (hb2.mono hsz))
      have HO2 := hide (ownsRow_below HO.out hb2)
      have HG2 := hide ho2
      have hs2 : w.heap.size ≤ w2.heap.size := HB2.out.size
      clear hb2 ho2 HO HB
      go_wp2_with (at_builtin; refine wpList_append_own_at _ rfl _ _ 22 rfl w.heap.size 26 i2 (.slice none 0 0) 1 24 Try.underlying22 hj hy0 hy1 hy2 rfl (by decide) _ _ _ rfl (HO2.out.alloc _) ⟨w2.heap.size, 0, none⟩ 1 1 [.slice (some ⟨g2, 0, none⟩) 0 0] rfl rfl ?c1 ?c2 ?c3 ?c4 ?c5 ?_)
      case c1 => exact ne_new
      case c2 => intro u hu; simp at hu; subst hu; rfl
      case c3 => unfold maxLen; omega
      case c4 => omega
      case c5 => simp; omega
      intro v' w3 hown' hgrow _ hat
      have hal : Below w2.heap.size w2 (w2.alloc (.cells #[.slice (some ⟨g2, 0, none⟩) 0 0] 26)) := (Below.refl _ _).alloc (Nat.le_refl _) _
      have HB3 : Hid (Below w.heap.size w w3) := hide ((HB2.out.alloc hs2 _).grown hgrow (by simp; omega) (fun g hg => ((HO2.out.alloc (.cells #[.slice (some ⟨g2, 0, none⟩) 0 0] 26)).lt g hg).1))
      have HL3 : Hid (∃ vals, LstV 26 2 w.heap.size w3 v' [[]] vals ∧ CapsV vals) := hide (by
        obtain ⟨g3, c3, hv3, _, _⟩ := own_look hown' (by omega)
        subst hv3
        have hk3 : KeepT 2 w2 w3 := (KeepT.of_below hal).trans (KeepT.of_grown (by decide) (ownsRow_below HO2.out hal) hgrow)
        refine ⟨_, LstV.one0 hown' ?_, CapsV.nil.push ⟨Nat.le_refl _, _, rfl⟩⟩
        rcases HG2.out.2 with ⟨hv, _⟩ | ⟨g', cap, cur, hv, hb', hh, rest⟩
        · cases hv
        · exact ⟨rfl, .inr ⟨g', cap, cur, hv, by omega, hk3 _ _ hh, rest⟩⟩)
      clear hown' hgrow hat hal
      go_wp2_with fail
      go_roundw
      case rel => exact ⟨1, by omega, by go_num, HB3.out, HB3.out.size, .inr ⟨rfl, HL3.out⟩⟩
      case measure => simp [intOf]
    · have HL := hide hl
      clear hl
      go_wp2_with fail
      go_ret
      exact ⟨_, vals, rfl, HB.out, HL.out, hcv⟩
theorem own20_any (b o c : Nat) (A : Option Addr) (w : World) (hb : b < w.heap.size) (hc : w.cell? ⟨b, o, none⟩ = some (.slice A 0 0)) :
    Calls Try.prog 61 #[.slice (some ⟨b, o, none⟩) 1 c] w fun e w' => ∃ v vals, e = .returned v ∧ Below w.heap.size w w' ∧ LstV 26 2 w.heap.size w' v [[]] vals := by
  refine (own20c_any b o c A w hb hc).mono ?_
  rintro e w2 ⟨v, vals, rfl, hb2, hl, _⟩
  exact ⟨v, vals, rfl, hb2, hl⟩
set_option maxRecDepth 100000 in
theorem class0c_any (A : Option Addr) (n c : Nat) (f : List (List Int)) (B : Option Addr) (d : Nat) (s0 : List (List Int)) (C : Option Addr) (most : Nat) (w : World) (hz : ZArg 1048576 w A n f B n s0) (hs : SolF f s0) (hl1 : 1 ≤ most) (hl : most ≤ 5000) :
    Calls Try.prog 31 #[.agg #[.slice A n c, .slice B n d], .slice C 0 0, .int .i64 most] w fun e w' => ∃ v vals, e = .returned (.tuple #[v, .bool true]) ∧ Below w.heap.size w w' ∧ LstV 26 2 w.heap.size w' v [[]] vals ∧ CapsV vals := by
  have HZ := hide hz
  have HP : Hid (PMap f s0) := hide hs.1
  have HNC : Hid (NoCol f s0 n) := hide (by have h := hs.2.1; rw [hz.sz.fl] at h; exact h)
  have HB0 := hide ((Below.refl _ w).alloc (Nat.le_refl _) (Obj.cells #[Value.slice A n c, Value.slice B n d] 29))
  have HK0 := hide (Blk.new w 29 [.slice A n c, .slice B n d])
  clear hz hs
  go_enter Try.func31, Try.ntmps31
  have k0 := HK0.out.cell 0 _ rfl
  have k1 := HK0.out.cell 1 _ rfl
  go_wp2_with fail
  clear k0 k1
  refine (bkS_any A n c f B n d s0 _ (HZ.out.later HB0.out) HP.out HNC.out).mono ?_
  rintro e w1 ⟨A1, c1, B1, d1, rfl, hb1, hobj⟩
  have HB1 := hide (HB0.out.trans (hb1.mono HB0.out.size))
  clear hb1 hobj HNC
  go_upto_region 2 with fail
  refine wp_gen fun w2 hw2 => ?_
  have HB2 : Hid (Below w.heap.size w w2) := hide (by rw [hw2]; exact HB1.out.alloc HB1.out.size _)
  have hs2 := HB2.out.size
  clear hw2 HB1
  go_wp2_with fail
  refine (own0_any C _).mono ?_
  rintro e w3 ⟨g3, rfl, hb3, hg3, ho3⟩
  have HB3 := hide (HB2.out.trans (hb3.mono hs2))
  have hs3 : w.heap.size ≤ w3.heap.size := HB3.out.size
  clear hb3 ho3 HB2
  go_wp2_with fail
  refine calls_gen fun w4 hw4 => ?_
  have HB4 : Hid (Below w.heap.size w w4) := hide (by rw [hw4]; exact HB3.out.alloc HB3.out.size _)
  have hs4 : w.heap.size ≤ w4.heap.size := HB4.out.size
  clear hw4 HB3
  refine (own0_any C _).mono ?_
  rintro e w5 ⟨g5, rfl, hb5, hg5, ho5⟩
  have HB5 := hide (HB4.out.trans (hb5.mono hs4))
  have hs5 : w.heap.size ≤ w5.heap.size := HB5.out.size
  clear hb5 ho5 HB4
  go_upto_region 3 with fail
  refine wp_gen fun w6 hw6 => ?_
  have HB6 : Hid (Below w.heap.size w w6) := hide (by rw [hw6]; exact HB5.out.alloc HB5.out.size _)
  have HR6 : Hid (Blk w6 w5.heap.size 26 [.slice (some ⟨g5, 0, none⟩) 0 0]) := hide (by rw [hw6]; exact Blk.new _ _ _)
  have hs6 : w.heap.size ≤ w6.heap.size := HB6.out.size
  obtain ⟨b6, hb6e⟩ : ∃ b6, w5.heap.size = b6 := ⟨_, rfl⟩
  rw [hb6e] at HR6 ⊢
  clear hw6 HB5 hb6e
  go_wp2_with fail
  obtain ⟨b3, hb3e⟩ : ∃ b3, w3.heap.size = b3 := ⟨_, rfl⟩
  rw [hb3e]
  clear hb3e
  go_loopw [9, 10, 11] (fun v s i wi => ∃ j : Nat, j ≤ 1 ∧ i = .int .i64 j ∧ v = .slice (some ⟨b3, 0, none⟩) 1 1 ∧ s = .slice (some ⟨b6, 0, none⟩) 1 1 ∧ wi = w6) (fun _ _ i _ => 1 - (intOf i).toNat)
  case atStart => exact ⟨0, by omega, rfl, rfl, rfl, rfl⟩
  case round =>
    obtain ⟨j, hj, rfl, rfl, rfl, rfl⟩ := hrel
    by_cases h0 : j = 0
    · subst h0
      have hjz : ((0 : Nat) : Int) < 1 := by omega
      have hmz : ¬ (1 : Int) < 0 := by omega
      have hmo : ¬ (most : Int) < 1 := by omega
      go_wp2_with fail
      obtain ⟨wo, hwo⟩ : ∃ wo : World, wo = wr := ⟨_, rfl⟩
      go_loopw [9, 10, 12] (fun v s i wi => i = .int .i64 0 ∧ v = .slice (some ⟨b3, 0, none⟩) 1 1 ∧ s = .slice (some ⟨b6, 0, none⟩) 1 1 ∧ wi = wo) (fun _ _ _ _ => 0)
      case atStart => exact ⟨rfl, rfl, rfl, hwo.symm⟩
      case round =>
        obtain ⟨rfl, rfl, rfl, rfl⟩ := hrel
        go_wp2_with fail
        go_roundw
        case rel => exact ⟨1, by omega, by go_num, rfl, rfl, by first | exact hwo | trivial⟩
        case measure => simp [intOf]
    · have h1 : j = 1 := by omega
      subst h1
      go_wp2_with fail
      refine (own20c_any b6 0 1 _ _ HR6.out.lt (HR6.out.cell 0 _ rfl)).mono ?_
      rintro e w7 ⟨v7, vals7, rfl, hb7, hl7, hcv7⟩
      have HB7 := hide (HB6.out.trans (hb7.mono hs6))
      have HL7 := hide (hl7.monoB hs6)
      clear hb7 hl7
      go_wp2_with fail
      go_ret2
      exact ⟨_, _, rfl, HB7.out, HL7.out, hcv7⟩
theorem class0_any (A : Option Addr) (n c : Nat) (f : List (List Int)) (B : Option Addr) (d : Nat) (s0 : List (List Int)) (C : Option Addr) (most : Nat) (w : World) (hz : ZArg 1048576 w A n f B n s0) (hs : SolF f s0) (hl1 : 1 ≤ most) (hl : most ≤ 5000) :
    Calls Try.prog 31 #[.agg #[.slice A n c, .slice B n d], .slice C 0 0, .int .i64 most] w fun e w' => ∃ v vals, e = .returned (.tuple #[v, .bool true]) ∧ Below w.heap.size w w' ∧ LstV 26 2 w.heap.size w' v [[]] vals := by
  refine (class0c_any A n c f B d s0 C most w hz hs hl1 hl).mono ?_
  rintro e w2 ⟨v, vals, rfl, hb2, hl, _⟩
  exact ⟨v, vals, rfl, hb2, hl⟩
end Go.Proofs.Ytbhlcfcmjildmaa
namespace Go.Proofs.Ytbhlcfcmjildmaa
open Go Go.RowKit
open Classical
set_option maxHeartbeats 4000000
set_option maxRecDepth 100000 in
theorem cowI (A : Option Addr) (n c : Nat) (f : List (List Int)) (B : Option Addr) (k d : Nat) (s : List (List Int)) (C : Option Addr) (m e : Nat) (xs : List Int) (zs : List (List Int)) (code : Int) (kz : Nat) (w : World) (hz : ZArg 1048576 w A n f B k s) (hm : xs.length = m) (hb : m ≤ 1048576) (hr : Rd w C xs) (hres : CowR f s xs zs code) (hkz : zs.length = kz) :
    Calls Try.prog 25 #[.agg #[.slice A n c, .slice B k d], .slice C m e] w (TPost 26 2 kz zs code w) := by
  have HZ := hide hz
  have HM := hide hm
  have HR := hide hr
  have HKZ := hide hkz
  have HB0 := hide ((Below.refl _ w).alloc (Nat.le_refl _) (Obj.cells #[Value.slice A n c, Value.slice B k d] 29))
  have HK0 := hide (Blk.new w 29 [.slice A n c, .slice B k d])
  obtain ⟨wc, hwc⟩ : ∃ wc, WdC f s [xs] wc := WdC.ex f s [xs]
  have HWC := hide hwc
  have HRES := hide hres
  have d0 : ¬ wc = 0 → (wc != 0) = true := fun h => by simpa using h
  have d1 : wc = 0 → (wc != 0) = false := fun h => by simp [h]
  clear hz hm hr hkz hwc hres
  go_enter Try.func25, Try.ntmps25
  have k0 := HK0.out.cell 0 _ rfl
  have k1 := HK0.out.cell 1 _ rfl
  go_wp2_with fail
  clear k0 k1
  refine calls_gen fun w1 hw1 => ?_
  obtain ⟨L1, hL1⟩ : ∃ L1, (w.alloc (Obj.cells #[Value.slice A n c, Value.slice B k d] 29)).heap.size = L1 := ⟨_, rfl⟩
  have hb1 : Below (w.alloc (Obj.cells #[Value.slice A n c, Value.slice B k d] 29)).heap.size (w.alloc (Obj.cells #[Value.slice A n c, Value.slice B k d] 29)) w1 := by rw [hw1]; exact (Below.refl _ _).alloc (Nat.le_refl _) _
  have HL1 : Hid (Blk w1 (w.heap.size + 1) 26 [.slice C m e]) := hide (by rw [hw1]; have h := Blk.new (w.alloc (Obj.cells #[Value.slice A n c, Value.slice B k d] 29)) 26 [.slice C m e]; simpa using h)
  have HB1 := hide (HB0.out.trans (hb1.mono HB0.out.size))
  have HK1 := hide (HK0.out.later hb1)
  have HRR : Hid (Rd2 w1 (some ⟨w.heap.size + 1, 0, none⟩) [xs]) := hide (fun _ => ⟨_, 0, rfl, HL1.out.lt, fun i hi => by
    have hi0 : i = 0 := by simpa using hi
    subst hi0
    exact ⟨C, e, by have h := HL1.out.cell 0 _ rfl; rw [Nat.zero_add]; rw [show ([xs].getD 0 []).length = m from HM.out]; exact h, HR.out.later HB1.out⟩⟩)
  clear hw1 hb1 hL1
  refine (wordFault_any A B _ n c k d 1 1 f s [xs] wc _ (HZ.out.later HB1.out) rfl (by omega) (fun i hi => by have hi0 : i = 0 := (by simpa using hi); subst hi0; show xs.length ≤ 1048576; rw [HM.out]; exact hb) HRR.out HWC.out).mono ?_
  rintro e w2 ⟨rfl, hb2⟩
  have HB2 := hide (HB1.out.trans (hb2.mono HB1.out.size))
  have HK2 := hide (HK1.out.later hb2)
  clear hb2 HRR HL1
  by_cases hc0 : wc = 0
  · subst hc0
    obtain ⟨hs, hw⟩ := HWC.out.zero rfl
    obtain rfl := (HZ.out.same hs.1).symm
    have hn := HZ.out.sz.fl
    have hw1 := wrds1.1 hw
    rw [hn] at hw1
    have HW := hide hw1
    have HS := hide hs
    have HOR : Hid (OrbR f s xs 1000 zs code) := hide (by
      rcases HRES.out with ⟨_, h⟩ | ⟨h1, h2, _⟩
      · exact h
      · exact absurd (h1.uniq HWC.out) h2)
    clear hs hw hw1 hn d0
    have k0 := HK2.out.cell 0 _ rfl
    have k1 := HK2.out.cell 1 _ rfl
    by_cases hf : FewT (leH f) (leH s) xs 1000
    · have HF := hide hf
      clear hf
      go_wp2_with fail
      refine (classOf_yes A n c f B d s C m _ xs _ (HZ.out.later HB2.out) HS.out HW.out HM.out (HR.out.later HB2.out) HF.out).mono ?_
      rintro e w3 ⟨L, bm, hcl, hll, rfl, hb3, hbm, hme⟩
      have HB3 := hide (HB2.out.trans (hb3.mono HB2.out.size))
      have HCL := hide hcl
      have HME := hide hme
      have hsz := HB2.out.size
      clear hb3 hcl hme k0 k1
      go_wp2_with fail
      refine (listsOf_any bm m L _ HME.out HCL.out.1 (fun p hp => by rw [((HCL.out.2 p).1 hp).len]; exact HM.out) (fun p hp => (((HCL.out.2 p).1 hp).tup (HS.out.pb HZ.out.sz.fl) HW.out.tup).sm (HZ.out.small HS.out.1).2) (by have := HW.out.1; have := HM.out; omega) HCL.out.pos (by omega)).mono ?_
      rintro e w4 ⟨v, L', vals, rfl, hb4, hl4, ha4, hm4⟩
      obtain ⟨A4, c4, hv, hobj⟩ := hl4.shape
      have hz1 : L' = zs ∧ code = 0 := by
        rcases HOR.out with ⟨h1, h2, _, h3⟩ | ⟨h1, _⟩
        · exact ⟨(HCL.out.sorted ha4 hm4).ascEq h1 ha4 h2, h3⟩
        · exact absurd HF.out h1
      obtain ⟨rfl, rfl⟩ := hz1
      rw [HKZ.out] at hv
      subst hv
      have HB4 := hide (HB3.out.trans (hb4.mono HB3.out.size))
      have HO4 := hide (hobj.mono (lo' := w.heap.size) HB3.out.size (Nat.le_refl _))
      clear hb4 hl4 ha4 hm4 hobj
      go_wp2_with fail
      go_ret2
      exact ⟨_, _, rfl, HB4.out, HO4.out⟩
    · have HF := hide hf
      clear hf
      have hz1 : zs = [] ∧ code = 3 := by
        rcases HOR.out with ⟨h1, _, h2, _⟩ | ⟨_, h1⟩
        · exact absurd ⟨zs, h1, h2⟩ HF.out
        · exact h1
      obtain ⟨rfl, rfl⟩ := hz1
      obtain rfl : kz = 0 := by simpa using HKZ.out.symm
      go_wp2_with fail
      refine (classOf_no A n c f B d s C m _ xs _ (HZ.out.later HB2.out) HS.out HW.out HM.out (HR.out.later HB2.out) HF.out).mono ?_
      rintro e w3 ⟨rfl, hb3⟩
      have HB3 := hide (HB2.out.trans (hb3.mono HB2.out.size))
      clear hb3 k0 k1
      go_wp2_with fail
      go_ret2
      exact ⟨_, _, rfl, HB3.out, .inl ⟨rfl, rfl⟩⟩
  · have hz1 : zs = [] ∧ code = wc := by
      rcases HRES.out with ⟨h1, _⟩ | ⟨h1, _, h3⟩
      · exact absurd (HWC.out.uniq h1) hc0
      · exact ⟨h3, h1.uniq HWC.out⟩
    obtain ⟨rfl, rfl⟩ := hz1
    obtain rfl : kz = 0 := by simpa using HKZ.out.symm
    have hcb := d0 hc0
    clear d0 d1
    go_wp2_with fail
    go_ret2
    exact ⟨_, _, rfl, HB2.out, .inl ⟨rfl, rfl⟩⟩
end Go.Proofs.Ytbhlcfcmjildmaa
namespace Go.Proofs.Ytbhlcfcmjildmaa
open Go Go.RowKit
open Classical
set_option maxHeartbeats 4000000
theorem cls0 (h1 h2 : Nat → Nat → Int) : Cls h1 h2 [] [[]] := ⟨by simp, fun y => ⟨fun h => by
  have : y = [] := by simpa using h
  subst this; exact .refl, fun h => by
  have := h.len
  have : y = [] := by simpa using this
  subst this; simp⟩⟩
theorem classC_any (A : Option Addr) (n c : Nat) (f : List (List Int)) (B : Option Addr) (d : Nat) (s : List (List Int)) (C : Option Addr) (m e : Nat) (x : List Int) (most : Nat) (w : World) (hz : ZArg 1048576 w A n f B n s) (hs : SolF f s) (ht : Tup n x) (hm : x.length = m) (he : m = 0 → e = 0) (hr : Rd w C x) (hl1 : 1 ≤ most) (hl : most ≤ 5000) :
    Calls Try.prog 31 #[.agg #[.slice A n c, .slice B n d], .slice C m e, .int .i64 most] w fun e w' => (∃ L v vals, Cls (leH f) (leH s) x L ∧ Asc L ∧ L.length ≤ most ∧ e = .returned (.tuple #[v, .bool true]) ∧ Below w.heap.size w w' ∧ LstV 26 2 w.heap.size w' v L vals ∧ CapsV vals) ∨ (¬ FewT (leH f) (leH s) x most ∧ e = .returned (.tuple #[.slice none 0 0, .bool false]) ∧ Below w.heap.size w w') := by
  by_cases h0 : m = 0
  · subst h0
    obtain rfl := he rfl
    have hx : x = [] := List.eq_nil_of_length_eq_zero hm
    subst hx
    refine (class0c_any A n c f B d s C most w hz hs hl1 hl).mono ?_
    rintro e w2 ⟨v, vals, h1, h2, h3, h4⟩
    exact .inl ⟨[[]], v, vals, cls0 _ _, Asc.one _, by simpa using hl1, h1, h2, h3, h4⟩
  · exact class1c_any A n c f B d s C m e x most w hz hs ht hm (by omega) hr hl1 hl
theorem classS_any (A : Option Addr) (n c : Nat) (f : List (List Int)) (B : Option Addr) (d : Nat) (s : List (List Int)) (C : Option Addr) (m e : Nat) (x : List Int) (most : Nat) (w : World) (hz : ZArg 1048576 w A n f B n s) (hs : SolF f s) (ht : Tup n x) (hm : x.length = m) (he : m = 0 → e = 0) (hr : Rd w C x) (hl1 : 1 ≤ most) (hl : most ≤ 5000) :
    Calls Try.prog 31 #[.agg #[.slice A n c, .slice B n d], .slice C m e, .int .i64 most] w fun e w' => (∃ L v vals, Cls (leH f) (leH s) x L ∧ Asc L ∧ L.length ≤ most ∧ e = .returned (.tuple #[v, .bool true]) ∧ Below w.heap.size w w' ∧ LstV 26 2 w.heap.size w' v L vals) ∨ (¬ FewT (leH f) (leH s) x most ∧ e = .returned (.tuple #[.slice none 0 0, .bool false]) ∧ Below w.heap.size w w') := by
  refine (classC_any A n c f B d s C m e x most w hz hs ht hm he hr hl1 hl).mono ?_
  rintro e w2 (⟨L, v, vals, h1, h2, h3, h4, h5, h6, _⟩ | h)
  · exact .inl ⟨L, v, vals, h1, h2, h3, h4, h5, h6⟩
  · exact .inr h
set_option maxRecDepth 100000 in
theorem cowS_any (A : Option Addr) (n c : Nat) (f : List (List Int)) (B : Option Addr) (k d : Nat) (s : List (List Int)) (C : Option Addr) (m e : Nat) (xs : List Int) (zs : List (List Int)) (code : Int) (w : World) (hz : ZArg 1048576 w A n f B k s) (hm : xs.length = m) (hb : m ≤ 1048576) (he : m = 0 → e = 0) (hr : Rd w C xs) (hres : CowR f s xs zs code) :
    Calls Try.prog 23 #[.agg #[.slice A n c, .slice B k d], .slice C m e] w fun e w' => ∃ v vals, e = .returned (.tuple #[v, .int .i64 code]) ∧ Below w.heap.size w w' ∧ LstV 26 2 w.heap.size w' v zs vals := by
  have HZ := hide hz
  have HM := hide hm
  have HR := hide hr
  have HE := hide he
  have HB0 := hide ((Below.refl _ w).alloc (Nat.le_refl _) (Obj.cells #[Value.slice A n c, Value.slice B k d] 29))
  have HK0 := hide (Blk.new w 29 [.slice A n c, .slice B k d])
  obtain ⟨wc, hwc⟩ : ∃ wc, WdC f s [xs] wc := WdC.ex f s [xs]
  have HWC := hide hwc
  have HWC2 : Hid (WdC f s [xs, xs] wc) := hide (hwc.congr (by rw [wrds1, wrds2]; exact ⟨fun h => ⟨h, h⟩, fun h => h.1⟩))
  have HRES := hide hres
  have d0 : ¬ wc = 0 → (wc != 0) = true := fun h => by simpa using h
  clear hz hm hr he hwc hres
  go_enter Try.func23, Try.ntmps23
  have k0 := HK0.out.cell 0 _ rfl
  have k1 := HK0.out.cell 1 _ rfl
  go_wp2_with fail
  clear k0 k1
  refine (codeS_any A B C C n c k d m _ m _ f s xs xs wc _ (HZ.out.later HB0.out) HM.out hb (HR.out.later HB0.out) HM.out hb (HR.out.later HB0.out) HWC2.out).mono ?_
  rintro e w2 ⟨rfl, hb2⟩
  have HB2 := hide (HB0.out.trans (hb2.mono HB0.out.size))
  have HK2 := hide (HK0.out.later hb2)
  clear hb2
  by_cases hc0 : wc = 0
  · subst hc0
    obtain ⟨hs, hw⟩ := HWC.out.zero rfl
    obtain rfl := (HZ.out.same hs.1).symm
    have hn := HZ.out.sz.fl
    have hw1 := wrds1.1 hw
    rw [hn] at hw1
    have HW := hide hw1
    have HS := hide hs
    have HOR : Hid (OrbR f s xs 1000 zs code) := hide (by
      rcases HRES.out with ⟨_, h⟩ | ⟨h1, h2, _⟩
      · exact h
      · exact absurd (h1.uniq HWC.out) h2)
    clear hs hw hw1 hn d0
    have k0 := HK2.out.cell 0 _ rfl
    have k1 := HK2.out.cell 1 _ rfl
    go_wp2_with fail
    refine (classS_any A n c f B d s C m _ xs 1000 _ (HZ.out.later HB2.out) HS.out HW.out.tup HM.out HE.out (HR.out.later HB2.out) (by omega) (by omega)).mono ?_
    have hs2 := HB2.out.size
    rintro e w3 (⟨L, v, vals, hcl, ha, hll, rfl, hb3, hl3⟩ | ⟨hf, rfl, hb3⟩)
    · have HB3 := hide (HB2.out.trans (hb3.mono hs2))
      have hz1 : L = zs ∧ code = 0 := by
        rcases HOR.out with ⟨h1, h2, _, h3⟩ | ⟨h1, _⟩
        · exact ⟨hcl.ascEq h1 ha h2, h3⟩
        · exact absurd ⟨L, hcl, hll⟩ h1
      obtain ⟨rfl, rfl⟩ := hz1
      have HL3 := hide (hl3.monoB hs2)
      clear hb3 hcl ha hll hl3 k0 k1
      go_wp2_with fail
      go_ret2
      exact ⟨_, _, rfl, HB3.out, HL3.out⟩
    · have hz1 : zs = [] ∧ code = 3 := by
        rcases HOR.out with ⟨h1, _, h2, _⟩ | ⟨_, h1⟩
        · exact absurd ⟨zs, h1, h2⟩ hf
        · exact h1
      obtain ⟨rfl, rfl⟩ := hz1
      have HB3 := hide (HB2.out.trans (hb3.mono hs2))
      clear hb3 hf k0 k1
      go_wp2_with fail
      go_ret2
      exact ⟨_, [], rfl, HB3.out, LstV.nil _ _ _ _⟩
  · have hz1 : zs = [] ∧ code = wc := by
      rcases HRES.out with ⟨h1, _⟩ | ⟨h1, _, h3⟩
      · exact absurd (HWC.out.uniq h1) hc0
      · exact ⟨h3, h1.uniq HWC.out⟩
    obtain ⟨rfl, rfl⟩ := hz1
    have hcb := d0 hc0
    clear d0
    go_wp2_with fail
    go_ret2
    exact ⟨_, [], rfl, HB2.out, LstV.nil _ _ _ _⟩
theorem cowS (A : Option Addr) (n c : Nat) (f : List (List Int)) (B : Option Addr) (k d : Nat) (s : List (List Int)) (C : Option Addr) (m : Nat) (xs : List Int) (zs : List (List Int)) (code : Int) (kz : Nat) (w : World) (hz : ZArg 1048576 w A n f B k s) (hm : xs.length = m) (hb : m ≤ 1048576) (hr : Rd w C xs) (hres : CowR f s xs zs code) (hkz : zs.length = kz) :
    Calls Try.prog 23 #[.agg #[.slice A n c, .slice B k d], .slice C m m] w (TPost 26 2 kz zs code w) := by
  refine (cowS_any A n c f B k d s C m m xs zs code w hz hm hb (fun h => h) hr hres).mono ?_
  rintro e w2 ⟨v, vals, rfl, hb2, hl⟩
  obtain ⟨A', c', hv, hobj⟩ := hl.shape
  rw [hkz] at hv
  subst hv
  exact ⟨A', c', rfl, hb2, hobj⟩
end Go.Proofs.Ytbhlcfcmjildmaa
namespace Go.Proofs.Ytbhlcfcmjildmaa
open Go Go.RowKit
open Classical
set_option maxHeartbeats 4000000
/-- What the equality of words is told. -/
def EqwR (f s : List (List Int)) (xs ys : List Int) (v : Bool) (code : Int) : Prop :=
  (WdC f s [xs, ys] 0 ∧ ((FewT (leH f) (leH s) xs 1000 ∧ (v = true ↔ Tch (leH f) (leH s) xs ys) ∧ code = 0) ∨ (¬ FewT (leH f) (leH s) xs 1000 ∧ v = false ∧ code = 3))) ∨ (WdC f s [xs, ys] code ∧ code ≠ 0 ∧ v = false)
theorem EqwR.ex (f s : List (List Int)) (xs ys : List Int) : ∃ v code, EqwR f s xs ys v code := by
  obtain ⟨c, hc⟩ := WdC.ex f s [xs, ys]
  by_cases h0 : c = 0
  · subst h0
    by_cases hf : FewT (leH f) (leH s) xs 1000
    · obtain ⟨v, hv⟩ := bool_of (Tch (leH f) (leH s) xs ys)
      exact ⟨v, 0, .inl ⟨hc, .inl ⟨hf, hv, rfl⟩⟩⟩
    · exact ⟨false, 3, .inl ⟨hc, .inr ⟨hf, rfl, rfl⟩⟩⟩
  · exact ⟨false, c, .inr ⟨hc, h0, rfl⟩⟩
end Go.Proofs.Ytbhlcfcmjildmaa
namespace Go.Proofs.Ytbhlcfcmjildmaa
open Go Go.RowKit
open Classical
set_option maxHeartbeats 4000000
theorem Obj2.first {ts t : TypeId} {lo hi : Nat} {w : World} {A : Option Addr} {rows : List (List Int)} (h : Obj2 ts t lo hi w A rows) (h0 : 0 < rows.length) : ∃ g R C, A = some ⟨g, 0, none⟩ ∧ w.cell? ⟨g, 0, none⟩ = some (.slice R (rows.getD 0 []).length C) ∧ Obj1 t lo hi w R (rows.getD 0 []) := by
  rcases h with ⟨_, rfl⟩ | ⟨g, R, C, rfl, _, _, ⟨cur, h1, h2⟩, h3, _⟩
  · simp at h0
  · exact ⟨g, R 0, C 0, rfl, by rw [cell_of_row w g 0 cur ts (0, 0) h1]; exact h2 0 h0, h3 0 h0⟩
/-- What the normal word is told. -/
def NwR (f s : List (List Int)) (xs zs : List Int) (code : Int) : Prop := ∃ L, CowR f s xs L code ∧ zs = L.getD 0 []
theorem CowR.zero {f s : List (List Int)} {xs : List Int} {L : List (List Int)} (h : CowR f s xs L 0) : WdC f s [xs] 0 ∧ Cls (leH f) (leH s) xs L ∧ Asc L ∧ L.length ≤ 1000 := by
  rcases h with ⟨h1, ⟨h2, h3, h4, _⟩ | ⟨_, _, h⟩⟩ | ⟨_, h, _⟩
  · exact ⟨h1, h2, h3, h4⟩
  · omega
  · omega
theorem CowR.none {f s : List (List Int)} {xs : List Int} {L : List (List Int)} {code : Int} (h : CowR f s xs L code) (hc : code ≠ 0) : L = [] := by
  rcases h with ⟨h1, ⟨_, _, _, h2⟩ | ⟨_, h2, _⟩⟩ | ⟨_, _, h2⟩
  · exact absurd h2 hc
  · exact h2
  · exact h2
theorem NwR.ex (f s : List (List Int)) (xs : List Int) : ∃ zs code, NwR f s xs zs code ∧ zs.length ≤ 1048576 := by
  obtain ⟨L, code, h, h1, h2⟩ := CowR.ex f s xs
  refine ⟨L.getD 0 [], code, ⟨L, h, rfl⟩, ?_⟩
  by_cases h0 : 0 < L.length
  · exact h2 0 h0
  · have e : L = [] := List.eq_nil_of_length_eq_zero (by omega)
    subst e; simp
end Go.Proofs.Ytbhlcfcmjildmaa
namespace Go.Proofs.Ytbhlcfcmjildmaa
open Go Go.RowKit
open Classical
set_option maxHeartbeats 4000000
section
variable {h1 h2 b1 b2 : Nat → Nat → Int} {n : Nat}
/-- Moves of a begin. -/
theorem mv_front (r u : List Int) (k : Nat) (hk : k + 1 < u.length) : mvL h1 h2 (u ++ r) k = mvL h1 h2 u k ++ r := by
  have e1 : elN (u ++ r) k = elN u k := by unfold elN; simp only [List.getD_eq_getElem?_getD]; rw [List.getElem?_append_left (by omega)]
  have e2 : elN (u ++ r) (k + 1) = elN u (k + 1) := by unfold elN; simp only [List.getD_eq_getElem?_getD]; rw [List.getElem?_append_left (by omega)]
  unfold mvL
  rw [e1, e2]
  rw [List.set_append_left _ _ (by omega), List.set_append_left _ _ (by simp; omega)]
theorem Tch.front (r : List Int) {u u' : List Int} (h : Tch h1 h2 u u') : Tch h1 h2 (u ++ r) (u' ++ r) := by
  induction h with
  | refl => exact .refl
  | @step y j hy hk ih =>
    have hl := Tch.len hy
    have h9 := Tch.step ih (k := j) (by rw [List.length_append]; omega)
    rw [mv_front r y j (by omega)] at h9
    exact h9
theorem Tup.of_mem {xs : List Int} (hl : xs.length ≤ 12) (h : ∀ v ∈ xs, 0 ≤ v ∧ v < (n : Int)) : Tup n xs := ⟨hl, fun j hj => h _ (tgetD_mem xs j 0 hj)⟩
theorem Rests.of_cls {u x : List Int} {L : List (List Int)} (hcl : Cls h1 h2 x L) : ∃ R, Rests h1 h2 u x R := by
  obtain ⟨R, ha, _, hm⟩ := asc_ex (restL u L) (restL_nodup u L hcl.1)
  exact ⟨R, ha, fun r => by rw [hm, restL_mem]; exact hcl.2 _⟩
theorem Rests.uniq {u x : List Int} {R R' : List (List Int)} (h : Rests h1 h2 u x R) (h' : Rests h1 h2 u x R') : R = R' := Asc.eq h.1 h'.1 (fun r => (h.2 r).trans (h'.2 r).symm)
theorem Rests.cand (hp : PB n h1 h2 b1 b2) {u x : List Int} {R S : List (List Int)} (hu : Tup n u) (hx : Tup n x) (hR : Rests h1 h2 u x R) (hS : Cls h1 h2 u S) {p : List Int} (hp' : Tch h1 h2 x p) (hm : p.take u.length ∈ S) : p.drop u.length ∈ R := by
  rw [hR.2]
  have k1 := (hS.2 _).1 hm
  have k2 := k1.front (p.drop u.length)
  rw [List.take_append_drop] at k2
  have hpt := hp'.tup hp hx
  have hl := k1.len
  rw [List.length_take] at hl
  have h12 := hpt.1
  have ht : Tup n (u ++ p.drop u.length) := Tup.of_mem (by simp; omega) (fun v hv => by
    rcases List.mem_append.1 hv with hv | hv
    · exact hu.mem v hv
    · exact hpt.mem v (List.mem_of_mem_drop hv))
  exact hp'.trans (k2.symm hp ht)
theorem Rests.conv {u x : List Int} {R S L : List (List Int)} (hR : Rests h1 h2 u x R) (hS : Cls h1 h2 u S) (hL : Cls h1 h2 x L) {r : List Int} (hr : r ∈ R) : u ++ r ∈ L ∧ (u ++ r).take u.length ∈ S ∧ (u ++ r).drop u.length = r :=
  ⟨(hL.2 _).2 ((hR.2 r).1 hr), by simp; exact (hS.2 _).2 .refl, by simp⟩
end
theorem Asc.first_least {R : List (List Int)} (h : Asc R) {r : List Int} (hr : r ∈ R) : lessL r (R.getD 0 []) = false := by
  obtain ⟨i, hi, e⟩ := List.getElem_of_mem hr
  by_cases h0 : i = 0
  · subst h0
    have : R.getD 0 [] = r := by simp [hi, e]
    rw [this, lessL_irr]
  · have k := h.at (i := 0) (j := i) (by omega) hi
    have e2 : R.getD i [] = r := by simp [hi, e]
    rw [e2] at k
    cases h3 : lessL r (R.getD 0 []) with
    | false => rfl
    | true =>
      have := lessL_trans _ _ _ k h3
      rw [lessL_irr] at this
      cases this
theorem Asc.least {R : List (List Int)} (h : Asc R) {z : List Int} (hz : z ∈ R) (hm : ∀ r, r ∈ R → lessL r z = false) : 0 < R.length ∧ R.getD 0 [] = z := by
  obtain ⟨i, hi, e⟩ := List.getElem_of_mem hz
  have e2 : R.getD i [] = z := by simp [hi, e]
  refine ⟨by omega, ?_⟩
  by_cases h0 : i = 0
  · subst h0; exact e2
  · have k := h.at (i := 0) (j := i) (by omega) hi
    rw [e2, hm _ (tgetD_mem R 0 [] (by omega))] at k
    cases k
/-- The least rest is a normal word. -/
theorem Rests.normal {f s : List (List Int)} {n : Nat} (hs : SolF f s) (hn : f.length = n) {u x : List Int} {R : List (List Int)} (hwx : Wrd n x) (hf : FewT (leH f) (leH s) x 1000) (hR : Rests (leH f) (leH s) u x R) (h0 : 0 < R.length) : NwR f s (R.getD 0 []) (R.getD 0 []) 0 := by
  have hp := hs.pb hn
  obtain ⟨z, hz⟩ : ∃ z, R.getD 0 [] = z := ⟨_, rfl⟩
  rw [hz]
  have hzR : z ∈ R := by rw [← hz]; exact tgetD_mem R 0 [] h0
  have hzT := (hR.2 z).1 hzR
  have hl := hzT.len
  rw [List.length_append] at hl
  have h8 := hwx.1
  have htz := hzT.tup hp hwx.tup
  have hwz : Wrd n z := ⟨by omega, fun j hj => htz.mem _ (List.mem_append_right _ (tgetD_mem z j 0 hj))⟩
  obtain ⟨C, hC⟩ := Cls.ex hp hwz.tup
  obtain ⟨C', ha, hlC, hm⟩ := asc_ex C hC.1
  have hC' := hC.sorted ha hm
  have hsub : ∀ y, y ∈ C' → y ∈ R := fun y hy => (hR.2 y).2 (hzT.trans (((hC'.2 y).1 hy).behind u))
  obtain ⟨L, hL, hLl⟩ := hf
  have hb1 := tnodup_le ha.nodup hsub
  have hb2 : R.length ≤ (restL u L).length := tnodup_le hR.1.nodup (fun r hr => (restL_mem u L r).2 ((hL.2 _).2 ((hR.2 r).1 hr)))
  have hb3 := restL_len u L
  have hfin := ha.least (z := z) ((hC'.2 z).2 .refl) (fun r hr => by rw [← hz]; exact hR.1.first_least (hsub r hr))
  refine ⟨C', .inl ⟨.inl ⟨hs, wrds1.2 (by rw [hn]; exact hwz), rfl⟩, .inl ⟨hC', ha, by omega, rfl⟩⟩, hfin.2.symm⟩
theorem Rests.wrd {f s : List (List Int)} {u x : List Int} {R : List (List Int)} (hR : Rests (leH f) (leH s) u x R) {r : List Int} (hr : r ∈ R) : u.length + r.length = x.length := by
  have h := ((hR.2 r).1 hr).len
  rw [List.length_append] at h
  exact h
theorem Rd.take {w : World} {A : Option Addr} {xs : List Int} (h : Rd w A xs) (k : Nat) : Rd w A (xs.take k) := fun h0 => by
  have hl : (xs.take k).length ≤ xs.length := by rw [List.length_take]; omega
  obtain ⟨b, o, e, hb, hc⟩ := h (by omega)
  refine ⟨b, o, e, hb, fun i hi => ?_⟩
  rw [hc i (by omega)]
  have : i < k := by rw [List.length_take] at hi; omega
  simp [this]
theorem Rd.drop {w : World} {b o : Nat} {xs : List Int} (h : Rd w (some ⟨b, o, none⟩) xs) (k : Nat) : Rd w (some ⟨b, o + k, none⟩) (xs.drop k) := fun h0 => by
  have hl : (xs.drop k).length = xs.length - k := by simp
  obtain ⟨b', o', e, hb, hc⟩ := h (by omega)
  injection e with e
  injection e with e1 e2
  subst e1 e2
  refine ⟨_, _, rfl, hb, fun i hi => ?_⟩
  have h := hc (k + i) (by omega)
  rw [← Nat.add_assoc] at h
  rw [h]
  simp [List.getD_eq_getElem?_getD, List.getElem?_drop]
set_option maxRecDepth 100000 in
theorem own0k_any (ad : Addr) (c : Nat) (w : World) :
    Calls Try.prog 58 #[.slice (some ad) 0 c] w fun e w' => ∃ g, e = .returned (.slice (some ⟨g, 0, none⟩) 0 0) ∧ Below w.heap.size w w' := by
  obtain ⟨i0, hi, hz0, hz1, hz2⟩ := info_parts clInfo
  go_enter Try.func58, Try.ntmps58
  go_wp2_with (at_builtin; refine wpList_append_fits_any _ rfl _ _ 26 rfl w.heap.size 2 i0 1 Try.underlying26 hi hz1 w.heap.size 0 0 [] rfl (ne_empty w 2) (some ad) 0 c [] rfl rfl (fun h => by cases h) (fun _ _ j u hu => by simp at hu) (fun u hu => by simp at hu) (Nat.le_refl _) ?_)
  intro w1 hown' hgrow
  have HB : Hid (Below w.heap.size w w1) := hide (((Below.refl _ _).alloc (Nat.le_refl _) _).grown hgrow (by simp) (fun g hg => by cases hg; exact Nat.le_refl _))
  clear hown' hgrow
  go_wp2_with fail
  go_ret
  exact ⟨_, rfl, HB.out⟩
/-- A copy of any list, with no room behind an empty one. -/
theorem ownr_any (ad : Addr) (n c : Nat) (xs : List Int) (w : World) (hn : xs.length = n) (hbn : n ≤ 1048576) (hr : Rd w (some ad) xs) :
    Calls Try.prog 58 #[.slice (some ad) n c] w fun e w' => ∃ A' c', e = .returned (.slice A' n c') ∧ Below w.heap.size w w' ∧ (n = 0 → c' = 0) ∧ Rd w' A' xs := by
  by_cases h0 : n = 0
  · subst h0
    refine (own0k_any ad c w).mono ?_
    rintro e w2 ⟨g, rfl, hb⟩
    exact ⟨_, _, rfl, hb, fun _ => rfl, fun h => by omega⟩
  · obtain ⟨b, o, e, hb, hc⟩ := hr (by omega)
    injection e with e
    subst e
    refine (own_any b o n c xs w hn hbn hb hc).mono ?_
    rintro e w2 ⟨v, rfl, hb2, how⟩
    obtain ⟨A', c', rfl, hres⟩ := own_shape how
    exact ⟨_, _, rfl, hb2, fun h => absurd h h0, hres.obj.rd⟩
theorem classS_both (A : Option Addr) (n c : Nat) (f : List (List Int)) (B : Option Addr) (d : Nat) (s : List (List Int)) (C : Option Addr) (m e : Nat) (x : List Int) (most : Nat) (w : World) (hz : ZArg 1048576 w A n f B n s) (hs : SolF f s) (ht : Tup n x) (hm : x.length = m) (he : m = 0 → e = 0) (hr : Rd w C x) (hl1 : 1 ≤ most) (hl : most ≤ 5000) :
    Calls Try.prog 31 #[.agg #[.slice A n c, .slice B n d], .slice C m e, .int .i64 most] w fun e w' => ∃ (v : Value) (r : Bool), e = .returned (.tuple #[v, .bool r]) ∧ Below w.heap.size w w' ∧ (r = true ↔ FewT (leH f) (leH s) x most) ∧ (r = true → ∃ L g c4 vals, v = .slice (some ⟨g, 0, none⟩) L.length c4 ∧ Cls (leH f) (leH s) x L ∧ L.length ≤ most ∧ LstV 26 2 w.heap.size w' v L vals ∧ CapsV vals ∧ g < w'.heap.size ∧ ∀ i u, vals[i]? = some u → w'.cell? ⟨g, i, none⟩ = some u) := by
  refine (classC_any A n c f B d s C m e x most w hz hs ht hm he hr hl1 hl).mono ?_
  rintro e w2 (⟨L, v, vals, h1, h2, h3, rfl, h5, h6, h7⟩ | ⟨h1, rfl, h3⟩)
  · obtain ⟨g, c4, hv, hg, hcells⟩ := own_look h6.own h1.pos
    exact ⟨v, true, rfl, h5, ⟨fun _ => ⟨L, h1, h3⟩, fun _ => rfl⟩, fun _ => ⟨L, g, c4, vals, hv, h1, h3, h6, h7, hg, hcells⟩⟩
  · exact ⟨_, false, rfl, h3, ⟨fun h => by simp at h, fun h => absurd h h1⟩, fun h => by simp at h⟩
end Go.Proofs.Ytbhlcfcmjildmaa
namespace Go.Proofs.Ytbhlcfcmjildmaa
open Go Go.RowKit
open Classical
set_option maxHeartbeats 1000000
/-! All words with some letters in order, and the normal ones among them. -/
/-- All words of k letters of a set of n, in order. -/
def wds (n : Nat) : Nat → List (List Int)
  | 0 => [[]]
  | k + 1 => (wds n k).flatMap fun t => (List.range n).map fun x : Nat => t ++ [(x : Int)]
/-- The word of k letters with a number. -/
def dig (n : Nat) : Nat → Nat → List Int
  | 0, _ => []
  | k + 1, w => dig n k (w / n) ++ [((w % n : Nat) : Int)]
theorem dig_len (n : Nat) : ∀ k w, (dig n k w).length = k
  | 0, _ => rfl
  | k + 1, w => by simp [dig, dig_len n k]
theorem flat_getD {α : Type} (n : Nat) (g : List Int → Nat → α) (d : α) : ∀ (L : List (List Int)) (q r : Nat), q < L.length → r < n → (L.flatMap fun t => (List.range n).map (g t)).getD (q * n + r) d = g (L.getD q []) r
  | [], q, r, h, _ => by simp at h
  | t :: L, 0, r, _, hr => by
    simp only [List.flatMap_cons, Nat.zero_mul, Nat.zero_add, List.getD_eq_getElem?_getD]
    rw [List.getElem?_append_left (by simpa using hr)]
    simp [hr]
  | t :: L, q + 1, r, h, hr => by
    simp only [List.flatMap_cons, List.getD_eq_getElem?_getD]
    have e : (q + 1) * n + r = n + (q * n + r) := by rw [Nat.succ_mul]; omega
    rw [e, List.getElem?_append_right (by simp), List.length_map, List.length_range, Nat.add_sub_cancel_left]
    have ih := flat_getD n g d L q r (by simpa using h) hr
    simp only [List.getD_eq_getElem?_getD] at ih
    rw [ih]
    simp
theorem wds_len (n : Nat) : ∀ k, (wds n k).length = n ^ k
  | 0 => rfl
  | k + 1 => by
    have h : ∀ L : List (List Int), (L.flatMap fun t => (List.range n).map fun x : Nat => t ++ [(x : Int)]).length = L.length * n := by
      intro L
      induction L with
      | nil => simp
      | cons t L ih => rw [List.flatMap_cons, List.length_append, ih]; simp [Nat.succ_mul]; omega
    rw [wds, h, wds_len n k, Nat.pow_succ]
theorem wds_at (n : Nat) : ∀ k w, w < n ^ k → (wds n k).getD w [] = dig n k w
  | 0, w, h => by
    have : w = 0 := by simpa using h
    subst this; rfl
  | k + 1, w, h => by
    have hn : 0 < n := by
      rcases Nat.eq_zero_or_pos n with e | e
      · subst e; simp at h
      · exact e
    have hq : w / n < n ^ k := by rw [Nat.pow_succ] at h; exact Nat.div_lt_of_lt_mul (by rw [Nat.mul_comm]; exact h)
    have e : w = (w / n) * n + w % n := by have := Nat.div_add_mod w n; rw [Nat.mul_comm] at this; omega
    have h2 := flat_getD n (fun t x => t ++ [((x : Nat) : Int)]) [] (wds n k) (w / n) (w % n) (by rw [wds_len]; exact hq) (Nat.mod_lt _ hn)
    rw [← e] at h2
    show (wds n (k + 1)).getD w [] = _
    unfold wds
    rw [h2, wds_at n k _ hq]
    rfl
theorem wds_mem {n : Nat} : ∀ k (xs : List Int), xs ∈ wds n k ↔ xs.length = k ∧ ∀ v ∈ xs, 0 ≤ v ∧ v < (n : Int)
  | 0, xs => by
    simp only [wds, List.mem_singleton]
    constructor
    · intro e; subst e; simp
    · intro h; exact List.eq_nil_of_length_eq_zero h.1
  | k + 1, xs => by
    simp only [wds, List.mem_flatMap, List.mem_map, List.mem_range]
    constructor
    · rintro ⟨t, ht, x, hx, rfl⟩
      obtain ⟨h1, h2⟩ := (wds_mem k t).1 ht
      refine ⟨by simp [h1], fun v hv => ?_⟩
      rcases List.mem_append.1 hv with h | h
      · exact h2 v h
      · have : v = x := by simpa using h
        omega
    · rintro ⟨h1, h2⟩
      have hne : xs ≠ [] := fun e => by subst e; simp at h1
      obtain ⟨t, x, rfl⟩ : ∃ t x, xs = t ++ [x] := ⟨_, _, (List.dropLast_concat_getLast hne).symm⟩
      have hx := h2 x (by simp)
      refine ⟨t, (wds_mem k t).2 ⟨by simpa using h1, fun v hv => h2 v (by simp [hv])⟩, x.toNat, by omega, ?_⟩
      have : ((x.toNat : Nat) : Int) = x := by omega
      rw [this]
theorem lessL_app : ∀ (t t' : List Int) (a b : List Int), t.length = t'.length → lessL t t' = true → lessL (t ++ a) (t' ++ b) = true
  | [], [], _, _, _, h => by simp [lessL] at h
  | [], _ :: _, _, _, h, _ => by simp at h
  | _ :: _, [], _, _, h, _ => by simp at h
  | x :: t, y :: t', a, b, hl, h => by
    simp only [List.cons_append, lessL] at h ⊢
    by_cases e : x = y
    · rw [if_pos e] at h ⊢
      exact lessL_app t t' a b (by simpa using hl) h
    · rw [if_neg e] at h ⊢
      exact h
theorem lessL_pre : ∀ (t a b : List Int), lessL (t ++ a) (t ++ b) = lessL a b
  | [], a, b => rfl
  | x :: t, a, b => by simp [lessL, lessL_pre t a b]
theorem wds_asc (n : Nat) : ∀ k, Asc (wds n k)
  | 0 => Asc.one []
  | k + 1 => by
    have ih := wds_asc n k
    have hlen : ∀ t, t ∈ wds n k → t.length = k := fun t ht => ((wds_mem k t).1 ht).1
    unfold wds
    have key : ∀ L : List (List Int), Asc L → (∀ t ∈ L, t.length = k) → Asc (L.flatMap fun t => (List.range n).map fun x : Nat => t ++ [(x : Int)]) := by
      intro L
      induction L with
      | nil => intro _ _; exact List.Pairwise.nil
      | cons t L ihL =>
        intro ha hl
        have ha' := List.pairwise_cons.1 ha
        rw [List.flatMap_cons]
        refine List.pairwise_append.2 ⟨?_, ihL ha'.2 (fun t ht => hl t (by simp [ht])), ?_⟩
        · refine List.pairwise_map.2 (List.Pairwise.imp ?_ List.pairwise_lt_range)
          intro a b hab
          rw [lessL_pre]
          simp only [lessL]
          rw [if_neg (by omega)]
          exact decide_eq_true (by omega)
        · intro p hp q hq
          obtain ⟨x, _, rfl⟩ := List.mem_map.1 hp
          obtain ⟨t', ht', hq'⟩ := List.mem_flatMap.1 hq
          obtain ⟨y, _, rfl⟩ := List.mem_map.1 hq'
          exact lessL_app t t' _ _ (by rw [hl t (by simp), hl t' (by simp [ht'])]) (ha'.1 t' ht')
    exact key _ ih hlen
section
variable (h1 h2 : Nat → Nat → Int)
/-- The word is the least one of its class. -/
def IsNw (t : List Int) : Prop := ∀ y, Tch h1 h2 t y → lessL y t = false
/-- The normal words of a list. -/
noncomputable def nws (l : List (List Int)) : List (List Int) := l.filter fun t => decide (IsNw h1 h2 t)
end
section
variable {h1 h2 b1 b2 : Nat → Nat → Int} {n : Nat}
theorem nws_app (l : List (List Int)) (t : List Int) : nws h1 h2 (l ++ [t]) = nws h1 h2 l ++ (if IsNw h1 h2 t then [t] else []) := by
  unfold nws
  rw [List.filter_append]
  congr 1
  by_cases h : IsNw h1 h2 t <;> simp [h]
theorem nws_mem (l : List (List Int)) (t : List Int) : t ∈ nws h1 h2 l ↔ t ∈ l ∧ IsNw h1 h2 t := by
  unfold nws; rw [List.mem_filter]; simp
theorem nws_len (l : List (List Int)) : (nws h1 h2 l).length ≤ l.length := List.length_filter_le _ _
theorem wds_tup {k : Nat} (hk : k ≤ 12) {t : List Int} (h : t ∈ wds n k) : Tup n t := by
  obtain ⟨a, b⟩ := (wds_mem k t).1 h
  exact Tup.of_mem (by omega) b
theorem Tch.wds (hp : PB n h1 h2 b1 b2) {k : Nat} (hk : k ≤ 12) {t y : List Int} (h : t ∈ wds n k) (hy : Tch h1 h2 t y) : y ∈ wds n k :=
  (wds_mem k y).2 ⟨by rw [hy.len]; exact ((wds_mem k t).1 h).1, fun v hv => (hy.tup hp (wds_tup hk h)).mem v hv⟩
/-- Each word has a normal one in its class. -/
theorem IsNw.ex (hp : PB n h1 h2 b1 b2) {t : List Int} (ht : Tup n t) : ∃ y, Tch h1 h2 t y ∧ IsNw h1 h2 y := by
  obtain ⟨C, hC⟩ := Cls.ex hp ht
  obtain ⟨C', ha, hl, hm⟩ := asc_ex C hC.1
  have hC' := hC.sorted ha hm
  have h0 := hC'.pos
  have hT := (hC'.2 _).1 (tgetD_mem C' 0 [] h0)
  exact ⟨_, hT, fun z hz => ha.first_least ((hC'.2 z).2 (hT.trans hz))⟩
/-- A list of words, of which all that are less than one of them stand before it. -/
theorem nws_met (hp : PB n h1 h2 b1 b2) {k w : Nat} (hk : k ≤ 12) (hw : w < n ^ k) : (∃ y, y ∈ nws h1 h2 ((wds n k).take w) ∧ Tch h1 h2 y (dig n k w)) ↔ ¬ IsNw h1 h2 (dig n k w) := by
  have hat := wds_at n k w hw
  have hlen : w < (wds n k).length := by rw [wds_len]; exact hw
  have hmem : dig n k w ∈ wds n k := by rw [← hat]; exact tgetD_mem _ _ _ hlen
  have htup := wds_tup hk hmem
  constructor
  · rintro ⟨y, hy, hT⟩ hN
    obtain ⟨hyt, hyn⟩ := (nws_mem _ _).1 hy
    obtain ⟨i, hi, e⟩ := List.getElem_of_mem hyt
    have hi2 : i < w := by simp at hi; omega
    have e2 : (wds n k).getD i [] = y := by
      rw [← e]
      simp [List.getD_eq_getElem?_getD, List.getElem?_eq_getElem (show i < (wds n k).length by omega)]
    have hlt := (wds_asc n k).at (i := i) (j := w) hi2 hlen
    rw [e2, hat] at hlt
    have hyw : y ∈ wds n k := by rw [← e2]; exact tgetD_mem _ _ _ (by omega)
    rw [hN y (hT.symm hp (wds_tup hk hyw))] at hlt
    cases hlt
  · intro hN
    obtain ⟨y, hT, hyn⟩ := IsNw.ex hp htup
    have hyw := hT.wds hp hk hmem
    refine ⟨y, (nws_mem _ _).2 ⟨?_, hyn⟩, hT.symm hp htup⟩
    obtain ⟨i, hi, e⟩ := List.getElem_of_mem hyw
    have e2 : (wds n k).getD i [] = y := by simp [hi, e]
    have hne : y ≠ dig n k w := fun e => hN (by rw [← e]; exact hyn)
    have hiw : i < w := by
      rcases Nat.lt_trichotomy i w with h | h | h
      · exact h
      · subst h; rw [hat] at e2; exact absurd e2.symm hne
      · have hlt := (wds_asc n k).at (i := w) (j := i) h hi
        rw [e2, hat] at hlt
        -- then the word is less than the normal one of its class
        have h3 := hyn _ (hT.symm hp htup)
        rw [hlt] at h3; cases h3
    rw [List.mem_iff_getElem]
    exact ⟨i, by simp; omega, by rw [List.getElem_take]; exact e⟩
end
/-- The number of a word. -/
def numW (n : Nat) (xs : List Int) : Nat := xs.foldl (fun a x => a * n + x.toNat) 0
theorem numW_app (n : Nat) (xs : List Int) (x : Int) : numW n (xs ++ [x]) = numW n xs * n + x.toNat := by simp [numW]
theorem numW_wds {n : Nat} : ∀ k (xs : List Int), xs ∈ wds n k → numW n xs < n ^ k ∧ dig n k (numW n xs) = xs
  | 0, xs, h => by
    have : xs = [] := by simpa [wds] using h
    subst this
    exact ⟨by simp [numW], rfl⟩
  | k + 1, xs, h => by
    obtain ⟨t, ht, h2⟩ := List.mem_flatMap.1 h
    obtain ⟨x, hx, rfl⟩ := List.mem_map.1 h2
    have hx' := List.mem_range.1 hx
    obtain ⟨h3, h4⟩ := numW_wds k t ht
    rw [numW_app]
    have e : ((x : Nat) : Int).toNat = x := rfl
    rw [e]
    have hd : (numW n t * n + x) / n = numW n t := by
      rw [Nat.mul_comm, Nat.mul_add_div (by omega), Nat.div_eq_of_lt hx', Nat.add_zero]
    have hm : (numW n t * n + x) % n = x := by
      rw [Nat.mul_comm, Nat.mul_add_mod, Nat.mod_eq_of_lt hx']
    refine ⟨?_, ?_⟩
    · have h5 : (numW n t + 1) * n ≤ n ^ k * n := Nat.mul_le_mul_right n h3
      rw [Nat.pow_succ]
      rw [Nat.succ_mul] at h5
      omega
    · show dig n k ((numW n t * n + x) / n) ++ [(((numW n t * n + x) % n : Nat) : Int)] = _
      rw [hd, hm, h4]
theorem dig_inj {n : Nat} : ∀ k i j, i < n ^ k → j < n ^ k → dig n k i = dig n k j → i = j
  | 0, i, j, hi, hj, _ => by simp at hi hj; omega
  | k + 1, i, j, hi, hj, h => by
    rw [Nat.pow_succ, Nat.mul_comm] at hi hj
    have h2 := List.append_inj' (show dig n k (i / n) ++ [((i % n : Nat) : Int)] = dig n k (j / n) ++ [((j % n : Nat) : Int)] from h) rfl
    have h3 := dig_inj k _ _ (Nat.div_lt_of_lt_mul hi) (Nat.div_lt_of_lt_mul hj) h2.1
    have h4 : ((i % n : Nat) : Int) = ((j % n : Nat) : Int) := by simpa using h2.2
    have e1 := Nat.div_add_mod i n
    have e2 := Nat.div_add_mod j n
    rw [h3] at e1
    have h5 : i % n = j % n := by omega
    rw [h5] at e1
    omega
theorem dig_mem {n k w : Nat} (h : w < n ^ k) : dig n k w ∈ wds n k := by
  rw [← wds_at n k w h]
  exact tgetD_mem _ _ _ (by rw [wds_len]; exact h)
theorem wds_take (n k w : Nat) (h : w < n ^ k) : (wds n k).take (w + 1) = (wds n k).take w ++ [dig n k w] := by
  have hl : w < (wds n k).length := by rw [wds_len]; exact h
  rw [List.take_succ_eq_append_getElem hl, ← wds_at n k w h]
  simp [hl]
end Go.Proofs.Ytbhlcfcmjildmaa
namespace Go.Proofs.Ytbhlcfcmjildmaa
open Go Go.RowKit
open Classical
set_option maxHeartbeats 1000000
/-! The first words of classes in a list. -/
section
variable (h1 h2 : Nat → Nat → Int)
/-- The words of a list that no earlier one of it leads to. -/
noncomputable def frs (L : List (List Int)) : List (List Int) := L.foldl (fun acc t => if ∃ y, y ∈ acc ∧ Tch h1 h2 y t then acc else acc ++ [t]) []
end
section
variable {h1 h2 b1 b2 : Nat → Nat → Int} {n : Nat}
theorem frs_nil : frs h1 h2 [] = [] := rfl
theorem frs_app (L : List (List Int)) (t : List Int) : frs h1 h2 (L ++ [t]) = if ∃ y, y ∈ frs h1 h2 L ∧ Tch h1 h2 y t then frs h1 h2 L else frs h1 h2 L ++ [t] := by
  unfold frs
  rw [List.foldl_append]
  rfl
theorem frs_old {L : List (List Int)} {t : List Int} (h : ∃ y, y ∈ frs h1 h2 L ∧ Tch h1 h2 y t) : frs h1 h2 (L ++ [t]) = frs h1 h2 L := by rw [frs_app, if_pos h]
theorem frs_new {L : List (List Int)} {t : List Int} (h : ¬ ∃ y, y ∈ frs h1 h2 L ∧ Tch h1 h2 y t) : frs h1 h2 (L ++ [t]) = frs h1 h2 L ++ [t] := by rw [frs_app, if_neg h]
theorem take_next {L : List (List Int)} {i : Nat} (hi : i < L.length) : L.take (i + 1) = L.take i ++ [L.getD i []] := by
  rw [List.take_succ_eq_append_getElem hi]
  simp [hi]
theorem frs_take {L : List (List Int)} : ∀ i, i ≤ L.length → ∃ R, frs h1 h2 L = frs h1 h2 (L.take i) ++ R := by
  intro i hi
  obtain ⟨d, hd⟩ : ∃ d, L.length = i + d := ⟨L.length - i, by omega⟩
  induction d generalizing i with
  | zero => exact ⟨[], by rw [List.take_of_length_le (by omega), List.append_nil]⟩
  | succ d ih =>
    obtain ⟨R, hR⟩ := ih (i + 1) (by omega) (by omega)
    rw [take_next (by omega), frs_app] at hR
    split at hR
    · exact ⟨R, hR⟩
    · exact ⟨[L.getD i []] ++ R, by rw [hR, List.append_assoc]⟩
theorem frs_sub (L : List (List Int)) (t : List Int) (h : t ∈ frs h1 h2 L) : t ∈ L := by
  have key : ∀ (M : List (List Int)) (t : List Int), t ∈ frs h1 h2 M.reverse → t ∈ M.reverse := by
    intro M
    induction M with
    | nil => intro t h; simp [frs] at h
    | cons a M ih =>
      intro t h
      rw [List.reverse_cons] at h ⊢
      rw [frs_app] at h
      split at h
      · exact List.mem_append_left _ (ih t h)
      · rcases List.mem_append.1 h with h | h
        · exact List.mem_append_left _ (ih t h)
        · exact List.mem_append_right _ h
  have h2 := key L.reverse t (by rw [List.reverse_reverse]; exact h)
  rwa [List.reverse_reverse] at h2
theorem frs_len (L : List (List Int)) : (frs h1 h2 L).length ≤ L.length := by
  have key : ∀ M : List (List Int), (frs h1 h2 M.reverse).length ≤ M.length := by
    intro M
    induction M with
    | nil => simp [frs]
    | cons a M ih =>
      rw [List.reverse_cons, frs_app]
      split
      · simp; omega
      · simp; omega
  have h2 := key L.reverse
  rwa [List.reverse_reverse, List.length_reverse] at h2
/-- Of all words in order the first ones are the normal ones. -/
theorem frs_wds (hp : PB n h1 h2 b1 b2) {k : Nat} (hk : k ≤ 12) : ∀ w, w ≤ n ^ k → frs h1 h2 ((wds n k).take w) = nws h1 h2 ((wds n k).take w)
  | 0, _ => by simp [frs, nws]
  | w + 1, hw => by
    have hw' : w < n ^ k := by omega
    have ih := frs_wds hp hk w (by omega)
    rw [wds_take n k w hw', nws_app]
    by_cases h : IsNw h1 h2 (dig n k w)
    · rw [if_pos h, frs_new, ih]
      rw [ih]
      exact fun h3 => (nws_met hp hk hw').1 h3 h
    · rw [if_neg h, frs_old, ih, List.append_nil]
      rw [ih]
      exact (nws_met hp hk hw').2 h
theorem frs_all (hp : PB n h1 h2 b1 b2) {k : Nat} (hk : k ≤ 12) : frs h1 h2 (wds n k) = nws h1 h2 (wds n k) := by
  have h := frs_wds hp hk (n ^ k) (Nat.le_refl _)
  rwa [List.take_of_length_le (by rw [wds_len]; exact Nat.le_refl _)] at h
end
end Go.Proofs.Ytbhlcfcmjildmaa
