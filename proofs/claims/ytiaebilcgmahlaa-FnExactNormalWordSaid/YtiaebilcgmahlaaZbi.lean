import Derived.Test.YtiaebilcgmahlaaZay
import Derived.Test.YtiaebilcgmahlaaZbd
import Derived.Test.YtiaebilcgmahlaaZx
import Derived.Deep.Cut
import Derived.Deep.DeepCutAuto
import Derived.Deep.RegionHeld3
import Derived.Test.YtiaebilcgmahlaaZbe
import Derived.Test.YtiaebilcgmahlaaZs
import Derived.Test.YtiaebilcgmahlaaZf
namespace Go.Proofs.Ytiaebilcgmahlaa
open Go Go.RowKit
open Classical
set_option maxHeartbeats 4000000
theorem tupleOf_key (A : Option Addr) (m c : Nat) (xs : List Int) (w : World) (hm : xs.length = m) (hb : m ≤ 12) (hr : Rd w A xs) :
    Calls Try.prog 60 #[.slice A m c] w fun e w' => e = .returned (tkey xs) ∧ Below w.heap.size w w' := tupleOf_any A m c xs w hm hb hr
theorem orbitOf_yes (A : Option Addr) (n c : Nat) (f : List (List Int)) (B : Option Addr) (d : Nat) (s : List (List Int)) (x : List Int) (m limit : Nat) (w : World) (hz : ZArg 1048576 w A n f B n s) (hs : SolF f s) (ht : Tup n x) (hm : x.length = m) (hl1 : 1 ≤ limit) (hl : limit ≤ 5000) (hf : FewT (leH f) (leH s) x limit) :
    Calls Try.prog 59 #[.agg #[.slice A n c, .slice B n d], tkey x, .int .i64 m, .int .i64 limit] w fun e w' => ∃ L bm, Cls (leH f) (leH s) x L ∧ L.length ≤ limit ∧ e = .returned (.tuple #[.map (some bm), .bool true]) ∧ Below w.heap.size w w' ∧ w.heap.size ≤ bm ∧ MetN w' bm L := by
  refine (orbitOf_any A n c f B d s x m limit w hz hs ht hm hl1 hl).mono ?_
  rintro e w2 (h | ⟨h, _⟩)
  · exact h
  · exact absurd hf h
theorem orbitOf_no (A : Option Addr) (n c : Nat) (f : List (List Int)) (B : Option Addr) (d : Nat) (s : List (List Int)) (x : List Int) (m limit : Nat) (w : World) (hz : ZArg 1048576 w A n f B n s) (hs : SolF f s) (ht : Tup n x) (hm : x.length = m) (hl1 : 1 ≤ limit) (hl : limit ≤ 5000) (hf : ¬ FewT (leH f) (leH s) x limit) :
    Calls Try.prog 59 #[.agg #[.slice A n c, .slice B n d], tkey x, .int .i64 m, .int .i64 limit] w fun e w' => e = .returned (.tuple #[.map none, .bool false]) ∧ Below w.heap.size w w' := by
  refine (orbitOf_any A n c f B d s x m limit w hz hs ht hm hl1 hl).mono ?_
  rintro e w2 (⟨L, bm, h, hl, _⟩ | ⟨_, h⟩)
  · exact absurd ⟨L, h, hl⟩ hf
  · exact h
set_option maxRecDepth 100000 in
theorem classOf_yes (A : Option Addr) (n c : Nat) (f : List (List Int)) (B : Option Addr) (d : Nat) (s : List (List Int)) (C : Option Addr) (m e : Nat) (x : List Int) (w : World) (hz : ZArg 1048576 w A n f B n s) (hs : SolF f s) (ht : Wrd n x) (hm : x.length = m) (hr : Rd w C x) (hf : FewT (leH f) (leH s) x 1000) :
    Calls Try.prog 71 #[.agg #[.slice A n c, .slice B n d], .slice C m e] w fun e w' => ∃ L bm, Cls (leH f) (leH s) x L ∧ L.length ≤ 1000 ∧ e = .returned (.tuple #[.map (some bm), .bool true]) ∧ Below w.heap.size w w' ∧ w.heap.size ≤ bm ∧ MetN w' bm L := by
  have HZ := hide hz
  have HS := hide hs
  have HT := hide ht.tup
  have HM := hide hm
  have HR := hide hr
  have HF := hide hf
  have hm12 : m ≤ 12 := by rw [← hm]; exact ht.tup.1
  have HBc := hide ((Below.refl _ w).alloc (Nat.le_refl _) (Obj.cells #[Value.slice A n c, Value.slice B n d] 29))
  have HKc := hide (Blk.new w 29 [.slice A n c, .slice B n d])
  clear hz hs ht hm hr hf
  go_enter Try.func71, Try.ntmps71
  have k0 := HKc.out.cell 0 _ rfl
  have k1 := HKc.out.cell 1 _ rfl
  go_upto_region 1 with fail
  go_region_held3 (fun w' => w'.cell? ⟨w.heap.size, 0, none⟩ = some (.slice A n c) ∧ w'.cell? ⟨w.heap.size, 1, none⟩ = some (.slice B n d)) (first | exact ⟨k0, k1⟩ | go_keep) (first | (go_at_call 60; go_must (refine calls_gen fun wc hwc => ?_; (first | have hbx := drew_below hwc | have hbx := eq_below hwc); replace HBc := hide (HBc.out.trans (hbx.mono HBc.out.size)); replace HKc := hide (HKc.out.later hbx); clear hwc hbx; refine (tupleOf_key C m _ x _ HM.out hm12 (HR.out.later HBc.out)).mono ?_; rintro e wd ⟨rfl, hbd⟩; replace HBc := hide (HBc.out.trans (hbd.mono HBc.out.size)); replace HKc := hide (HKc.out.later hbd); clear hbd; have k0 := HKc.out.cell 0 _ rfl; have k1 := HKc.out.cell 1 _ rfl; skip)) | (go_at_call 59; go_must (refine calls_gen fun wc hwc => ?_; (first | have hbx := drew_below hwc | have hbx := eq_below hwc); replace HBc := hide (HBc.out.trans (hbx.mono HBc.out.size)); replace HKc := hide (HKc.out.later hbx); clear hwc hbx; have HSZ := hide HBc.out.size; refine (orbitOf_yes A n c f B d s x m 1000 _ (HZ.out.later HBc.out) HS.out HT.out HM.out (by omega) (by omega) HF.out).mono ?_; rintro e wd ⟨L, bm, hcl, hll, rfl, hbd, hbmw, hme⟩; replace HBc := hide (HBc.out.trans (hbd.mono HBc.out.size)); replace HKc := hide (HKc.out.later hbd); clear hbd; have k0 := HKc.out.cell 0 _ rfl; have k1 := HKc.out.cell 1 _ rfl; have HCL := hide hcl; have HLL := hide hll; have HME := hide hme; have HBM := hide hbmw; have HLO := hide HSZ.out; clear hcl hll hme hbmw)))
  all_goals
    clear k0 k1
    go_wp2_with fail
    go_ret2
    first | exact ⟨_, _, HCL.out, HLL.out, rfl, HBc.out, Nat.le_trans HLO.out HBM.out, HME.out⟩ | exact ⟨_, _, HCL.out, HLL.out, rfl, HBc.out.drew, Nat.le_trans HLO.out HBM.out, MapN.later HME.out ((Below.refl _ _).drew)⟩
set_option maxRecDepth 100000 in
theorem classOf_no (A : Option Addr) (n c : Nat) (f : List (List Int)) (B : Option Addr) (d : Nat) (s : List (List Int)) (C : Option Addr) (m e : Nat) (x : List Int) (w : World) (hz : ZArg 1048576 w A n f B n s) (hs : SolF f s) (ht : Wrd n x) (hm : x.length = m) (hr : Rd w C x) (hf : ¬ FewT (leH f) (leH s) x 1000) :
    Calls Try.prog 71 #[.agg #[.slice A n c, .slice B n d], .slice C m e] w fun e w' => e = .returned (.tuple #[.map none, .bool false]) ∧ Below w.heap.size w w' := by
  have HZ := hide hz
  have HS := hide hs
  have HT := hide ht.tup
  have HM := hide hm
  have HR := hide hr
  have HF := hide hf
  have hm12 : m ≤ 12 := by rw [← hm]; exact ht.tup.1
  have HBc := hide ((Below.refl _ w).alloc (Nat.le_refl _) (Obj.cells #[Value.slice A n c, Value.slice B n d] 29))
  have HKc := hide (Blk.new w 29 [.slice A n c, .slice B n d])
  clear hz hs ht hm hr hf
  go_enter Try.func71, Try.ntmps71
  have k0 := HKc.out.cell 0 _ rfl
  have k1 := HKc.out.cell 1 _ rfl
  go_upto_region 1 with fail
  go_region_held3 (fun w' => w'.cell? ⟨w.heap.size, 0, none⟩ = some (.slice A n c) ∧ w'.cell? ⟨w.heap.size, 1, none⟩ = some (.slice B n d)) (first | exact ⟨k0, k1⟩ | go_keep) (first | (go_at_call 60; go_must (refine calls_gen fun wc hwc => ?_; (first | have hbx := drew_below hwc | have hbx := eq_below hwc); replace HBc := hide (HBc.out.trans (hbx.mono HBc.out.size)); replace HKc := hide (HKc.out.later hbx); clear hwc hbx; refine (tupleOf_key C m _ x _ HM.out hm12 (HR.out.later HBc.out)).mono ?_; rintro e wd ⟨rfl, hbd⟩; replace HBc := hide (HBc.out.trans (hbd.mono HBc.out.size)); replace HKc := hide (HKc.out.later hbd); clear hbd; have k0 := HKc.out.cell 0 _ rfl; have k1 := HKc.out.cell 1 _ rfl; skip)) | (go_at_call 59; go_must (refine calls_gen fun wc hwc => ?_; (first | have hbx := drew_below hwc | have hbx := eq_below hwc); replace HBc := hide (HBc.out.trans (hbx.mono HBc.out.size)); replace HKc := hide (HKc.out.later hbx); clear hwc hbx; refine (orbitOf_no A n c f B d s x m 1000 _ (HZ.out.later HBc.out) HS.out HT.out HM.out (by omega) (by omega) HF.out).mono ?_; rintro e wd ⟨rfl, hbd⟩; replace HBc := hide (HBc.out.trans (hbd.mono HBc.out.size)); replace HKc := hide (HKc.out.later hbd); clear hbd; have k0 := HKc.out.cell 0 _ rfl; have k1 := HKc.out.cell 1 _ rfl; skip)))
  all_goals
    clear k0 k1
    go_wp2_with fail
    go_ret2
    first | exact ⟨rfl, HBc.out⟩ | exact ⟨rfl, HBc.out.drew⟩
end Go.Proofs.Ytiaebilcgmahlaa
namespace Go.Proofs.Ytiaebilcgmahlaa
open Go Go.RowKit
open Classical
set_option maxHeartbeats 4000000
/-- A copy of no numbers. -/
theorem own0_any (A : Option Addr) (w : World) :
    Calls Try.prog 92 #[.slice A 0 0] w fun e w' => ∃ g, e = .returned (.slice (some ⟨g, 0, none⟩) 0 0) ∧ Below w.heap.size w w' ∧ w.heap.size ≤ g ∧ w'.ownsRow w.heap.size 2 1 (.slice (some ⟨g, 0, none⟩) 0 0) 0 [] := by
  obtain ⟨i0, hi, hz0, hz1, hz2⟩ := info_parts clInfo
  go_enter Try.func92, Try.ntmps92
  go_wp2_with (at_builtin; refine wpList_append_fits_any _ rfl _ _ 25 rfl w.heap.size 2 i0 1 Try.underlying25 hi hz1 w.heap.size 0 0 [] rfl (ne_empty w 2) A 0 0 [] rfl rfl (fun _ => ⟨rfl, rfl⟩) (fun _ _ j u hu => by simp at hu) (fun u hu => by simp at hu) (Nat.le_refl _) ?_)
  intro w1 hown' hgrow
  have HO' := hide hown'
  have HB : Hid (Below w.heap.size w w1) := hide (((Below.refl _ _).alloc (Nat.le_refl _) _).grown hgrow (by simp) (fun g hg => by cases hg; exact Nat.le_refl _))
  clear hown' hgrow
  go_wp2_with fail
  go_ret
  exact ⟨_, rfl, HB.out, Nat.le_refl _, HO'.out⟩
/-- A list of one empty row. -/
theorem LstV.one0 {ts t : TypeId} {B g g2 c2 : Nat} {w : World} (h : w.ownsRow B ts 1 (.slice (some ⟨g, 0, none⟩) 1 c2) 1 [.slice (some ⟨g2, 0, none⟩) 0 0]) (h2 : w.ownsRow B t 1 (.slice (some ⟨g2, 0, none⟩) 0 0) 0 []) : LstV ts t B w (.slice (some ⟨g, 0, none⟩) 1 c2) [[]] [.slice (some ⟨g2, 0, none⟩) 0 0] :=
  ⟨h, fun i hi => by
    have hi0 : i = 0 := by simpa using hi
    subst hi0
    refine ⟨some ⟨g2, 0, none⟩, 0, rfl, ?_⟩
    rcases h2.2 with ⟨hv, _⟩ | ⟨g', cap, cur, hv, hb, hh, _⟩
    · cases hv
    · cases hv
      exact .inr ⟨g2, rfl, hb, (Array.getElem?_eq_some_iff.1 hh).1, cur, hh, fun i hi => by simp at hi⟩, fun i j u u' g' hij hu hu' => by
    have : j = 0 := by
      rcases j with _ | j
      · rfl
      · simp at hu'
    omega⟩
/-- A copy of a list of one empty row. -/
theorem own20_any (b o c : Nat) (A : Option Addr) (w : World) (hb : b < w.heap.size) (hc : w.cell? ⟨b, o, none⟩ = some (.slice A 0 0)) :
    Calls Try.prog 54 #[.slice (some ⟨b, o, none⟩) 1 c] w fun e w' => ∃ v vals, e = .returned v ∧ Below w.heap.size w w' ∧ LstV 25 2 w.heap.size w' v [[]] vals := by
  obtain ⟨i2, hj, hy0, hy1, hy2⟩ := info_parts neInfo2
  have HC := hide hc
  clear hc
  go_enter Try.func54, Try.ntmps54
  go_wp2_with fail
  go_loopw [3, 4] (fun v i wr => ∃ k : Nat, k ≤ 1 ∧ i = .int .i64 k ∧ Below w.heap.size w wr ∧ w.heap.size ≤ wr.heap.size ∧ ((k = 0 ∧ wr.ownsRow w.heap.size 25 1 v 0 []) ∨ (k = 1 ∧ ∃ vals, LstV 25 2 w.heap.size wr v [[]] vals))) (fun _ i _ => 1 - (intOf i).toNat)
  case atStart => exact ⟨0, by omega, rfl, (Below.refl _ _).alloc (Nat.le_refl _) _, by simp, .inl ⟨rfl, ne_empty w 25⟩⟩
  case round =>
    obtain ⟨k, hk, rfl, hbe, hsz, hcase⟩ := hrel
    have HB := hide hbe
    clear hbe
    rcases hcase with ⟨rfl, hown⟩ | ⟨rfl, vals, hl⟩
    · have hlt : ((0 : Nat) : Int) < 1 := by omega
      have hcell := (HB.out.cell (p := ⟨b, o, none⟩) hb).trans HC.out
      have HO := hide hown
      clear hown
      go_wp2_with fail
      refine (own0_any A _).mono ?_
      rintro e w2 ⟨g2, rfl, hb2, hg2, ho2⟩
      have HB2 := hide (HB.out.trans (hb2.mono hsz))
      have HO2 := hide (ownsRow_below HO.out hb2)
      have HG2 := hide ho2
      have hs2 : w.heap.size ≤ w2.heap.size := HB2.out.size
      clear hb2 ho2 HO HB
      go_wp2_with (at_builtin; refine wpList_append_own_at _ rfl _ _ 22 rfl w.heap.size 25 i2 (.slice none 0 0) 1 24 Try.underlying22 hj hy0 hy1 hy2 rfl (by decide) _ _ _ rfl (HO2.out.alloc _) ⟨w2.heap.size, 0, none⟩ 1 1 [.slice (some ⟨g2, 0, none⟩) 0 0] rfl rfl ?c1 ?c2 ?c3 ?c4 ?c5 ?_)
      case c1 => exact ne_new
      case c2 => intro u hu; simp at hu; subst hu; rfl
      case c3 => unfold maxLen; omega
      case c4 => omega
      case c5 => simp; omega
      intro v' w3 hown' hgrow _ hat
      have hal : Below w2.heap.size w2 (w2.alloc (.cells #[.slice (some ⟨g2, 0, none⟩) 0 0] 25)) := (Below.refl _ _).alloc (Nat.le_refl _) _
      have HB3 : Hid (Below w.heap.size w w3) := hide ((HB2.out.alloc hs2 _).grown hgrow (by simp; omega) (fun g hg => ((HO2.out.alloc (.cells #[.slice (some ⟨g2, 0, none⟩) 0 0] 25)).lt g hg).1))
      have HL3 : Hid (∃ vals, LstV 25 2 w.heap.size w3 v' [[]] vals) := hide (by
        obtain ⟨g3, c3, hv3, _, _⟩ := own_look hown' (by omega)
        subst hv3
        have hk3 : KeepT 2 w2 w3 := (KeepT.of_below hal).trans (KeepT.of_grown (by decide) (ownsRow_below HO2.out hal) hgrow)
        refine ⟨_, LstV.one0 hown' ?_⟩
        rcases HG2.out.2 with ⟨hv, _⟩ | ⟨g', cap, cur, hv, hb', hh, rest⟩
        · cases hv
        · exact ⟨rfl, .inr ⟨g', cap, cur, hv, by omega, hk3 _ _ hh, rest⟩⟩)
      clear hown' hgrow hat hal
      go_wp2_with fail
      go_roundw
      case rel => exact ⟨1, by omega, by go_num, HB3.out, HB3.out.size, .inr ⟨rfl, HL3.out⟩⟩
      case measure => simp [intOf]
    · have HL := hide hl
      clear hl
      go_wp2_with fail
      go_ret
      exact ⟨_, vals, rfl, HB.out, HL.out⟩
set_option maxRecDepth 100000 in
theorem class0_any (A : Option Addr) (n c : Nat) (f : List (List Int)) (B : Option Addr) (d : Nat) (s0 : List (List Int)) (C : Option Addr) (most : Nat) (w : World) (hz : ZArg 1048576 w A n f B n s0) (hs : SolF f s0) (hl1 : 1 ≤ most) (hl : most ≤ 5000) :
    Calls Try.prog 69 #[.agg #[.slice A n c, .slice B n d], .slice C 0 0, .int .i64 most] w fun e w' => ∃ v vals, e = .returned (.tuple #[v, .bool true]) ∧ Below w.heap.size w w' ∧ LstV 25 2 w.heap.size w' v [[]] vals := by
  have HZ := hide hz
  have HP : Hid (PMap f s0) := hide hs.1
  have HNC : Hid (NoCol f s0 n) := hide (by have h := hs.2.1; rw [hz.sz.fl] at h; exact h)
  have HB0 := hide ((Below.refl _ w).alloc (Nat.le_refl _) (Obj.cells #[Value.slice A n c, Value.slice B n d] 29))
  have HK0 := hide (Blk.new w 29 [.slice A n c, .slice B n d])
  clear hz hs
  go_enter Try.func69, Try.ntmps69
  have k0 := HK0.out.cell 0 _ rfl
  have k1 := HK0.out.cell 1 _ rfl
  go_wp2_with fail
  clear k0 k1
  refine (bkS_any A n c f B n d s0 _ (HZ.out.later HB0.out) HP.out HNC.out).mono ?_
  rintro e w1 ⟨A1, c1, B1, d1, rfl, hb1, hobj⟩
  have HB1 := hide (HB0.out.trans (hb1.mono HB0.out.size))
  clear hb1 hobj HNC
  go_upto_region 2 with fail
  refine wp_gen fun w2 hw2 => ?_
  have HB2 : Hid (Below w.heap.size w w2) := hide (by rw [hw2]; exact HB1.out.alloc HB1.out.size _)
  have hs2 := HB2.out.size
  clear hw2 HB1
  go_wp2_with fail
  refine (own0_any C _).mono ?_
  rintro e w3 ⟨g3, rfl, hb3, hg3, ho3⟩
  have HB3 := hide (HB2.out.trans (hb3.mono hs2))
  have hs3 : w.heap.size ≤ w3.heap.size := HB3.out.size
  clear hb3 ho3 HB2
  go_wp2_with fail
  refine calls_gen fun w4 hw4 => ?_
  have HB4 : Hid (Below w.heap.size w w4) := hide (by rw [hw4]; exact HB3.out.alloc HB3.out.size _)
  have hs4 : w.heap.size ≤ w4.heap.size := HB4.out.size
  clear hw4 HB3
  refine (own0_any C _).mono ?_
  rintro e w5 ⟨g5, rfl, hb5, hg5, ho5⟩
  have HB5 := hide (HB4.out.trans (hb5.mono hs4))
  have hs5 : w.heap.size ≤ w5.heap.size := HB5.out.size
  clear hb5 ho5 HB4
  go_upto_region 3 with fail
  refine wp_gen fun w6 hw6 => ?_
  have HB6 : Hid (Below w.heap.size w w6) := hide (by rw [hw6]; exact HB5.out.alloc HB5.out.size _)
  have HR6 : Hid (Blk w6 w5.heap.size 25 [.slice (some ⟨g5, 0, none⟩) 0 0]) := hide (by rw [hw6]; exact Blk.new _ _ _)
  have hs6 : w.heap.size ≤ w6.heap.size := HB6.out.size
  obtain ⟨b6, hb6e⟩ : ∃ b6, w5.heap.size = b6 := ⟨_, rfl⟩
  rw [hb6e] at HR6 ⊢
  clear hw6 HB5 hb6e
  go_wp2_with fail
  obtain ⟨b3, hb3e⟩ : ∃ b3, w3.heap.size = b3 := ⟨_, rfl⟩
  rw [hb3e]
  clear hb3e
  go_loopw [9, 10, 11] (fun v s i wi => ∃ j : Nat, j ≤ 1 ∧ i = .int .i64 j ∧ v = .slice (some ⟨b3, 0, none⟩) 1 1 ∧ s = .slice (some ⟨b6, 0, none⟩) 1 1 ∧ wi = w6) (fun _ _ i _ => 1 - (intOf i).toNat)
  case atStart => exact ⟨0, by omega, rfl, rfl, rfl, rfl⟩
  case round =>
    obtain ⟨j, hj, rfl, rfl, rfl, rfl⟩ := hrel
    by_cases h0 : j = 0
    · subst h0
      have hjz : ((0 : Nat) : Int) < 1 := by omega
      have hmz : ¬ (1 : Int) < 0 := by omega
      have hmo : ¬ (most : Int) < 1 := by omega
      go_wp2_with fail
      obtain ⟨wo, hwo⟩ : ∃ wo : World, wo = wr := ⟨_, rfl⟩
      go_loopw [9, 10, 12] (fun v s i wi => i = .int .i64 0 ∧ v = .slice (some ⟨b3, 0, none⟩) 1 1 ∧ s = .slice (some ⟨b6, 0, none⟩) 1 1 ∧ wi = wo) (fun _ _ _ _ => 0)
      case atStart => exact ⟨rfl, rfl, rfl, hwo.symm⟩
      case round =>
        obtain ⟨rfl, rfl, rfl, rfl⟩ := hrel
        go_wp2_with fail
        go_roundw
        case rel => exact ⟨1, by omega, by go_num, rfl, rfl, by first | exact hwo | trivial⟩
        case measure => simp [intOf]
    · have h1 : j = 1 := by omega
      subst h1
      go_wp2_with fail
      refine (own20_any b6 0 1 _ _ HR6.out.lt (HR6.out.cell 0 _ rfl)).mono ?_
      rintro e w7 ⟨v7, vals7, rfl, hb7, hl7⟩
      have HB7 := hide (HB6.out.trans (hb7.mono hs6))
      have HL7 := hide (hl7.monoB hs6)
      clear hb7 hl7
      go_wp2_with fail
      go_ret2
      exact ⟨_, _, rfl, HB7.out, HL7.out⟩
end Go.Proofs.Ytiaebilcgmahlaa
