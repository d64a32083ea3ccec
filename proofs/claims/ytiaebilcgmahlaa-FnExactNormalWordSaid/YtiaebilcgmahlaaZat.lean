import Derived.Test.YtiaebilcgmahlaaZaq
import Derived.Test.YtiaebilcgmahlaaZc
import Derived.Test.YtiaebilcgmahlaaZar
import Derived.Test.YtiaebilcgmahlaaZm
import Derived.Test.YtiaebilcgmahlaaZaa
import Derived.Test.YtiaebilcgmahlaaZao
import Derived.Test.YtiaebilcgmahlaaZr
import Derived.Test.YtiaebilcgmahlaaZo
import Derived.Deep.Cut
import Derived.StillTailTactics
import Derived.Deep.RegionHeld3
import Derived.Deep.DeepCutAuto
namespace Go.Proofs.Ytiaebilcgmahlaa
open Go Go.RowKit
set_option maxHeartbeats 2000000

set_option maxRecDepth 100000 in
theorem isTup_any (n : Nat) (A : Option Addr) (m c : Nat) (xs : List Int) (r : Bool) (w : World) (hm : xs.length = m) (hb : m ≤ 1048576) (hr : Rd w A xs) (hrr : r = true ↔ Tup n xs) :
    Calls Try.prog 57 #[.int .i64 n, .slice A m c] w fun e w' => e = .returned (.bool r) ∧ Quiet w w' := by
  have HM := hide hm
  have HR := hide hr
  have HRR := hide hrr
  clear hr hrr
  by_cases h12 : m ≤ 12
  · have hrr : r = true ↔ ∀ j, j < m → 0 ≤ xs.getD j 0 ∧ xs.getD j 0 < (n : Int) := by
      rw [HRR.out]; unfold Tup; rw [HM.out]; exact ⟨fun h => h.2, fun h => ⟨h12, h⟩⟩
    have HE := hide hrr
    clear hrr hm
    go_enter Try.func57, Try.ntmps57
    go_wp2_with fail
    refine (els_any n _ m _ xs r _ HM.out (by omega) (by first | exact HR.out | exact HR.out.later (Below.refl _ _).drew) HE.out).mono ?_
    rintro e w2 ⟨rfl, hq⟩
    have HQ : Hid (Quiet w w2) := hide hq
    clear hq
    go_wp2_with fail
    go_ret
    exact ⟨rfl, HQ.out⟩
  · have hrf : r = false := by
      cases r
      · rfl
      · exact absurd (by have h := (HRR.out.1 rfl).1; omega) h12
    subst hrf
    have d1 : decide (m ≤ 12) = false := by simp; omega
    have d2 : decide ((m : Int) ≤ 12) = false := by simp; omega
    go_enter Try.func57, Try.ntmps57
    go_wp2_with fail
    go_ret
    exact ⟨rfl, Quiet.refl _⟩

end Go.Proofs.Ytiaebilcgmahlaa
namespace Go.Proofs.Ytiaebilcgmahlaa
open Go Go.RowKit
set_option maxHeartbeats 4000000
set_option maxRecDepth 100000 in
theorem put_any (g m cap B n d : Nat) (P : Option Addr) (vals : List Value) (l : List (List Int)) (p : List Int) (w : World) (hown : w.ownsRow B 25 1 (.slice (some ⟨g, 0, none⟩) m cap) m vals) (hrv : RowsV 2 B w l vals) (hm : l.length = m) (h0 : 0 < m) (hmb : m ≤ 1048575) (hll : ∀ i, i < l.length → (l.getD i []).length = n) (hp : p.length = n) (hn : n ≤ 12) (hasc : Asc l) (hrp : Rd w P p) (hB : B ≤ w.heap.size) :
    Calls Try.prog 107 #[.slice (some ⟨g, 0, none⟩) m cap, .slice P n d] w fun e w' => ∃ k, Plc l p k k ∧ ((p ∈ l ∧ e = .returned (.tuple #[.slice (some ⟨g, 0, none⟩) m cap, .bool false]) ∧ Quiet w w') ∨ (p ∉ l ∧ ∃ g' cap', e = .returned (.tuple #[.slice (some ⟨g', 0, none⟩) (m + 1) cap', .bool true]) ∧ Below B w w' ∧ Chg g w w' ∧ (g' = g ∨ w.heap.size ≤ g') ∧ w'.ownsRow B 25 1 (.slice (some ⟨g', 0, none⟩) (m + 1) cap') (m + 1) (vals.take k ++ .slice P n d :: vals.drop k))) := by
  have HOW := hide hown
  have HRV := hide hrv
  have HM := hide hm
  have HLL := hide hll
  have HP := hide hp
  have HA := hide hasc
  have HRP := hide hrp
  obtain ⟨g0, c0, e0, hg, hcl⟩ := own_look hown h0
  injection e0 with e0 _ e1
  injection e0 with e0
  injection e0 with e0
  subst e0
  subst e1
  have HCL := hide hcl
  have hcap : m ≤ cap := by
    rcases hown.2 with ⟨e, _⟩ | ⟨_, cap', _, e, _, _, h1, _⟩
    · cases e
    · injection e with _ _ e; omega
  obtain ⟨i2, hj, hy0, hy1, hy2⟩ := info_parts neInfo2
  clear hown hrv hm hll hp hasc hrp hcl
  go_enter Try.func107, Try.ntmps107
  go_wp2_with fail
  go_loopw [6, 7] (fun v i wr => ∃ lo hi : Nat, v = .int .i64 lo ∧ i = .int .i64 hi ∧ Plc l p lo hi ∧ Quiet w wr) (fun v i _ => (intOf i).toNat - (intOf v).toNat)
  case atStart => exact ⟨0, m, rfl, rfl, by have h := Plc.start l p; rw [HM.out] at h; exact h, Quiet.refl w⟩
  case round =>
    obtain ⟨lo, hi, rfl, rfl, hpl, hq⟩ := hrel
    have hle := hpl.le
    have htop := hpl.top
    rw [HM.out] at htop
    have HPLC := hide hpl
    have HQ := hide hq
    clear hpl hq
    by_cases hlt : lo < hi
    · have hltz : (lo : Int) < hi := by omega
      obtain ⟨mid, hmid⟩ : ∃ mid, (lo + hi) / 2 = mid := ⟨_, rfl⟩
      have hhalf := half lo hi
      rw [hmid] at hhalf
      have hm1 : lo ≤ mid := by omega
      have hm2 : mid < hi := by omega
      clear hmid
      have hmidz : (mid : Int) < m := by omega
      obtain ⟨Am, cm, hvm, hom⟩ := HRV.out.2 mid (by rw [HM.out]; omega)
      rw [HLL.out mid (by rw [HM.out]; omega)] at hvm
      have hcm := (HQ.out.cell ⟨g, mid, none⟩).trans (HCL.out mid _ hvm)
      have HRM := hide (HQ.out.rd hom.rd)
      clear hvm hom
      go_wp2_with fail
      refine (less_any Am P n cm d (l.getD mid []) p _ (HLL.out mid (by rw [HM.out]; omega)) HP.out (by omega) HRM.out (HQ.out.rd HRP.out)).mono ?_
      rintro e w2 ⟨rfl, hq2⟩
      have HQ2 := hide (HQ.out.trans hq2)
      clear hq2
      cases hls : lessL (l.getD mid []) p with
      | true =>
        have HLS := hide hls
        clear hls
        go_wp2_with fail
        go_roundw
        case rel => exact ⟨mid + 1, hi, by go_num, rfl, HPLC.out.up HA.out ⟨hm1, hm2⟩ HLS.out, HQ2.out⟩
        case measure => simp [intOf]; omega
      | false =>
        have HLS := hide hls
        clear hls
        go_wp2_with fail
        go_roundw
        case rel => exact ⟨lo, mid, rfl, rfl, HPLC.out.down HA.out ⟨hm1, hm2⟩ HLS.out, HQ2.out⟩
        case measure => simp [intOf]; omega
    · have hee : lo = hi := by omega
      subst hee
      by_cases hin : p ∈ l
      · obtain ⟨hk, heq⟩ := (HPLC.out.mem HA.out).1 hin
        rw [HM.out] at hk
        have hkz : (lo : Int) < m := by omega
        obtain ⟨Am, cm, hvm, hom⟩ := HRV.out.2 lo (by rw [HM.out]; omega)
        rw [HLL.out lo (by rw [HM.out]; omega)] at hvm
        have hcm := (HQ.out.cell ⟨g, lo, none⟩).trans (HCL.out lo _ hvm)
        have HRM := hide (HQ.out.rd hom.rd)
        have HIN := hide hin
        have HEQ := hide heq
        clear hvm hom hin heq
        go_wp2_with fail
        refine (same_any Am P n cm n d (l.getD lo []) p true _ (HLL.out lo (by rw [HM.out]; exact hk)) HP.out (by omega) (by omega) HRM.out (HQ.out.rd HRP.out) ⟨fun _ => HEQ.out, fun _ => rfl⟩).mono ?_
        rintro e w2 ⟨rfl, hq2⟩
        have HQ2 := hide (HQ.out.trans hq2)
        clear hq2
        go_wp2_with fail
        go_ret2
        exact ⟨lo, HPLC.out, .inl ⟨HIN.out, rfl, HQ2.out⟩⟩
      · have HNIN := hide hin
        have hlom : lo ≤ m := by omega
        clear hin
        by_cases hk : lo < m
        · have hkz : (lo : Int) < m := by omega
          have hne : l.getD lo [] ≠ p := fun e => HNIN.out ((HPLC.out.mem HA.out).2 ⟨by rw [HM.out]; exact hk, e⟩)
          obtain ⟨Am, cm, hvm, hom⟩ := HRV.out.2 lo (by rw [HM.out]; omega)
          rw [HLL.out lo (by rw [HM.out]; omega)] at hvm
          have hcm := (HQ.out.cell ⟨g, lo, none⟩).trans (HCL.out lo _ hvm)
          have HRM := hide (HQ.out.rd hom.rd)
          have HNE := hide hne
          clear hvm hom hne
          go_wp2_with fail
          refine (same_any Am P n cm n d (l.getD lo []) p false _ (HLL.out lo (by rw [HM.out]; exact hk)) HP.out (by omega) (by omega) HRM.out (HQ.out.rd HRP.out) ⟨fun h => (Bool.noConfusion h), fun h => absurd h HNE.out⟩).mono ?_
          rintro e w2 ⟨rfl, hq2⟩
          have HQ2 := hide (HQ.out.trans hq2)
          clear hq2 hcm HRM HNE
          have HB2 := hide (HQ2.out.below w.heap.size)
          have hs2 := HB2.out.size
          have HOW2 := hide (ownsRow_below HOW.out HB2.out)
          have HON : Hid (∀ u ∈ [Value.slice P n d], u.oneCell' = true) := hide (by intro u hu; simp at hu; subst hu; rfl)
          go_wp2_with (at_builtin; refine wpList_append_own_at _ rfl _ _ 22 rfl B 25 i2 (.slice none 0 0) 1 24 Try.underlying22 hj hy0 hy1 hy2 rfl (by decide) _ _ _ rfl (HOW2.out.alloc _) ⟨w2.heap.size, 0, none⟩ 1 1 [.slice P n d] rfl rfl ?c1 ?c2 ?c3 ?c4 ?c5 ?_)
          case c1 => exact ne_new
          case c2 => exact HON.out
          case c3 => unfold maxLen; omega
          case c4 => omega
          case c5 => simp; omega
          intro v9 w9 hown9 hgrow9 _ hat9
          have HAL : Hid (Below w.heap.size w (w2.alloc (.cells #[.slice P n d] 25))) := hide (HB2.out.alloc hs2 _)
          have HCH9 : Hid (Chg g w w9) := hide ((Chg.of_below HAL.out).grown hgrow9 (.inl rfl))
          have HB9 : Hid (Below B w w9) := hide ((HAL.out.mono hB).grown hgrow9 (by simp; omega) (fun g hg => ((HOW2.out.alloc (.cells #[.slice P n d] 25)).lt g hg).1))
          have HO9 := hide hown9
          obtain ⟨g9, c9, hv9, hg9, hcl9⟩ := own_look hown9 (by omega)
          subst hv9
          have hgg : g9 = g ∨ w.heap.size ≤ g9 := by
            rcases hat9 with e | e
            · simp [Value.ownBlock] at e; exact .inl e
            · simp [Value.ownBlock] at e; exact .inr (by omega)
          have HSH : Hid (Shf vals m m (vals ++ [.slice P n d])) := hide (Shf.start (by rw [HRV.out.1, HM.out]) _)
          clear hown9 hgrow9 hat9 hcl9 HAL HB2 HOW2 HQ2
          go_wp2_with fail
          go_loopw [10] (fun i wr => ∃ (k : Nat) (xs : List Value), lo ≤ k ∧ k ≤ m ∧ i = .int .i64 k ∧ Shf vals m k xs ∧ wr.ownsRow B 25 1 (.slice (some ⟨g9, 0, none⟩) (m + 1) c9) (m + 1) xs ∧ Below B w wr ∧ Chg g w wr) (fun i _ => (intOf i).toNat)
          case atStart => exact ⟨m, _, hlom, Nat.le_refl _, by go_num, HSH.out, HO9.out, HB9.out, HCH9.out⟩
          case round =>
            obtain ⟨k, xs, hk1, hk2, rfl, hshf, hox, hbx, hcx⟩ := hrel
            have HSF := hide hshf
            have HOX := hide hox
            have HBX := hide hbx
            have HCX := hide hcx
            clear hshf hox hbx hcx HO9 HB9 HCH9 HSH
            by_cases hlk : lo < k
            · obtain ⟨k1, rfl⟩ : ∃ k1, k = k1 + 1 := ⟨k - 1, by omega⟩
              have hlkz : (lo : Int) < (k1 : Int) + 1 := by omega
              obtain ⟨u1, hu1, hcu1⟩ := own_cell HOX.out k1 (by omega)
              obtain ⟨u2, hu2, hcu2⟩ := own_cell HOX.out (k1 + 1) (by omega)
              have hfr := own_frozen HOX.out (k1 + 1)
              have hvu : vals[k1]? = some u1 := by rw [← HSF.out.lo k1 (by omega)]; exact hu1
              obtain ⟨Au, cu, hue, hou⟩ := HRV.out.2 k1 (by rw [HM.out]; omega)
              rw [HLL.out k1 (by rw [HM.out]; omega)] at hue
              have hvu2 := hvu
              rw [hue] at hvu2
              injection hvu2 with hvu2
              subst hvu2
              have HVU := hide hvu
              clear hu1 hu2 hou hue hvu
              go_wp2_with fail
              go_roundw
              case rel =>
                exact ⟨k1, _, by omega, by omega, by go_num, HSF.out.step hk2 HVU.out, own_set HOX.out _, HBX.out.setCell (p := ⟨g9, k1 + 1, none⟩) (own_lt HOX.out rfl).1 _, HCX.out.store hgg _⟩
              case measure => simp [intOf]
            · have hke : k = lo := by omega
              subst hke
              obtain ⟨u2, hu2, hcu2⟩ := own_cell HOX.out k (by omega)
              have hfr := own_frozen HOX.out k
              have hkz2 : (k : Int) < (m : Int) + 1 := by omega
              clear hu2
              go_wp2_with fail
              go_ret2
              refine ⟨k, HPLC.out, .inr ⟨HNIN.out, g9, c9, rfl, HBX.out.setCell (p := ⟨g9, k, none⟩) (own_lt HOX.out rfl).1 _, HCX.out.store hgg _, hgg, ?_⟩⟩
              have h := own_set (i := k) HOX.out (.slice P n d)
              rw [HSF.out.fin (by rw [HRV.out.1, HM.out]) (by omega)] at h
              exact h
        · have hgez : (m : Int) ≤ lo := by omega
          obtain ⟨w2, hw2⟩ : ∃ w2, w2 = wr := ⟨_, rfl⟩
          subst hw2
          have HQ2 := hide HQ.out
          have HB2 := hide (HQ2.out.below w.heap.size)
          have hs2 := HB2.out.size
          have HOW2 := hide (ownsRow_below HOW.out HB2.out)
          have HON : Hid (∀ u ∈ [Value.slice P n d], u.oneCell' = true) := hide (by intro u hu; simp at hu; subst hu; rfl)
          go_wp2_with (at_builtin; refine wpList_append_own_at _ rfl _ _ 22 rfl B 25 i2 (.slice none 0 0) 1 24 Try.underlying22 hj hy0 hy1 hy2 rfl (by decide) _ _ _ rfl (HOW2.out.alloc _) ⟨w2.heap.size, 0, none⟩ 1 1 [.slice P n d] rfl rfl ?c1 ?c2 ?c3 ?c4 ?c5 ?_)
          case c1 => exact ne_new
          case c2 => exact HON.out
          case c3 => unfold maxLen; omega
          case c4 => omega
          case c5 => simp; omega
          intro v9 w9 hown9 hgrow9 _ hat9
          have HAL : Hid (Below w.heap.size w (w2.alloc (.cells #[.slice P n d] 25))) := hide (HB2.out.alloc hs2 _)
          have HCH9 : Hid (Chg g w w9) := hide ((Chg.of_below HAL.out).grown hgrow9 (.inl rfl))
          have HB9 : Hid (Below B w w9) := hide ((HAL.out.mono hB).grown hgrow9 (by simp; omega) (fun g hg => ((HOW2.out.alloc (.cells #[.slice P n d] 25)).lt g hg).1))
          have HO9 := hide hown9
          obtain ⟨g9, c9, hv9, hg9, hcl9⟩ := own_look hown9 (by omega)
          subst hv9
          have hgg : g9 = g ∨ w.heap.size ≤ g9 := by
            rcases hat9 with e | e
            · simp [Value.ownBlock] at e; exact .inl e
            · simp [Value.ownBlock] at e; exact .inr (by omega)
          have HSH : Hid (Shf vals m m (vals ++ [.slice P n d])) := hide (Shf.start (by rw [HRV.out.1, HM.out]) _)
          clear hown9 hgrow9 hat9 hcl9 HAL HB2 HOW2 HQ2
          go_wp2_with fail
          go_loopw [10] (fun i wr => ∃ (k : Nat) (xs : List Value), lo ≤ k ∧ k ≤ m ∧ i = .int .i64 k ∧ Shf vals m k xs ∧ wr.ownsRow B 25 1 (.slice (some ⟨g9, 0, none⟩) (m + 1) c9) (m + 1) xs ∧ Below B w wr ∧ Chg g w wr) (fun i _ => (intOf i).toNat)
          case atStart => exact ⟨m, _, hlom, Nat.le_refl _, by go_num, HSH.out, HO9.out, HB9.out, HCH9.out⟩
          case round =>
            obtain ⟨k, xs, hk1, hk2, rfl, hshf, hox, hbx, hcx⟩ := hrel
            have HSF := hide hshf
            have HOX := hide hox
            have HBX := hide hbx
            have HCX := hide hcx
            clear hshf hox hbx hcx HO9 HB9 HCH9 HSH
            by_cases hlk : lo < k
            · exact absurd hlk (by omega)
            · have hke : k = lo := by omega
              subst hke
              obtain ⟨u2, hu2, hcu2⟩ := own_cell HOX.out k (by omega)
              have hfr := own_frozen HOX.out k
              have hkz2 : (k : Int) < (m : Int) + 1 := by omega
              clear hu2
              go_wp2_with fail
              go_ret2
              refine ⟨k, HPLC.out, .inr ⟨HNIN.out, g9, c9, rfl, HBX.out.setCell (p := ⟨g9, k, none⟩) (own_lt HOX.out rfl).1 _, HCX.out.store hgg _, hgg, ?_⟩⟩
              have h := own_set (i := k) HOX.out (.slice P n d)
              rw [HSF.out.fin (by rw [HRV.out.1, HM.out]) (by omega)] at h
              exact h
end Go.Proofs.Ytiaebilcgmahlaa
