import Derived.Test.YtbhlcfcmjildmaaGl
import Derived.Deep.Cut
import Derived.Deep.RegionHeld3
import Derived.Deep.DeepCutAuto
import Derived.Test.YtbhlcfcmjildmaaGc
import Derived.Test.YtbhlcfcmjildmaaGi
import Derived.Test.YtbhlcfcmjildmaaGa
import Derived.Test.YtbhlcfcmjildmaaGd
import Derived.Test.YtbhlcfcmjildmaaGj
import Derived.Laws.CopyOwn
import Derived.Laws.CopyRow
import Derived.Test.YtbhlcfcmjildmaaGg
import Derived.Test.YtbhlcfcmjildmaaGf
import Derived.StillTailTactics
namespace Go.Proofs.Ytbhlcfcmjildmaa
open Go Go.RowKit
set_option maxHeartbeats 4000000
set_option maxRecDepth 100000 in
theorem put_any (g m cap B n d : Nat) (P : Option Addr) (vals : List Value) (l : List (List Int)) (p : List Int) (w : World) (hown : w.ownsRow B 26 1 (.slice (some ⟨g, 0, none⟩) m cap) m vals) (hrv : RowsV 2 B w l vals) (hm : l.length = m) (h0 : 0 < m) (hmb : m ≤ 1048575) (hll : ∀ i, i < l.length → (l.getD i []).length = n) (hp : p.length = n) (hn : n ≤ 12) (hasc : Asc l) (hrp : Rd w P p) (hB : B ≤ w.heap.size) :
    Calls Try.prog 60 #[.slice (some ⟨g, 0, none⟩) m cap, .slice P n d] w fun e w' => ∃ k, Plc l p k k ∧ ((p ∈ l ∧ e = .returned (.tuple #[.slice (some ⟨g, 0, none⟩) m cap, .bool false]) ∧ Quiet w w') ∨ (p ∉ l ∧ ∃ g' cap', e = .returned (.tuple #[.slice (some ⟨g', 0, none⟩) (m + 1) cap', .bool true]) ∧ Below B w w' ∧ Chg g w w' ∧ (g' = g ∨ w.heap.size ≤ g') ∧ w'.ownsRow B 26 1 (.slice (some ⟨g', 0, none⟩) (m + 1) cap') (m + 1) (vals.take k ++ .slice P n d :: vals.drop k))) := by
  have HOW := hide hown
  have HRV := hide hrv
  have HM := hide hm
  have HLL := hide hll
  have HP := hide hp
  have HA := hide hasc
  have HRP := hide hrp
  obtain ⟨g0, c0, e0, hg, hcl⟩ := own_look hown h0
  injection e0 with e0 _ e1
  injection e0 with e0
  injection e0 with e0
  subst e0
  subst e1
  have HCL := hide hcl
  have hcap : m ≤ cap := by
    rcases hown.2 with ⟨e, _⟩ | ⟨_, cap', _, e, _, _, h1, _⟩
    · cases e
    · injection e with _ _ e; omega
  obtain ⟨i2, hj, hy0, hy1, hy2⟩ := info_parts neInfo2
  clear hown hrv hm hll hp hasc hrp hcl
  go_enter Try.func60, Try.ntmps60
  go_wp2_with fail
  go_loopw [6, 7] (fun v i wr => ∃ lo hi : Nat, v = .int .i64 lo ∧ i = .int .i64 hi ∧ Plc l p lo hi ∧ Quiet w wr) (fun v i _ => (intOf i).toNat - (intOf v).toNat)
  case atStart => exact ⟨0, m, rfl, rfl, by have h := Plc.start l p; rw [HM.out] at h; exact h, Quiet.refl w⟩
  case round =>
    obtain ⟨lo, hi, rfl, rfl, hpl, hq⟩ := hrel
    have hle := hpl.le
    have htop := hpl.top
    rw [HM.out] at htop
    have HPLC := hide hpl
    have HQ := hide hq
    clear hpl hq
    by_cases hlt : lo < hi
    · have hltz : (lo : Int) < hi := by omega
      obtain ⟨mid, hmid⟩ : ∃ mid, (lo + hi) / 2 = mid := ⟨_, rfl⟩
      have hhalf := half lo hi
      rw [hmid] at hhalf
      have hm1 : lo ≤ mid := by omega
      have hm2 : mid < hi := by omega
      clear hmid
      have hmidz : (mid : Int) < m := by omega
      obtain ⟨Am, cm, hvm, hom⟩ := HRV.out.2 mid (by rw [HM.out]; omega)
      rw [HLL.out mid (by rw [HM.out]; omega)] at hvm
      have hcm := (HQ.out.cell ⟨g, mid, none⟩).trans (HCL.out mid _ hvm)
      have HRM := hide (HQ.out.rd hom.rd)
      clear hvm hom
      go_wp2_with fail
      refine (less_any Am P n cm d (l.getD mid []) p _ (HLL.out mid (by rw [HM.out]; omega)) HP.out (by omega) HRM.out (HQ.out.rd HRP.out)).mono ?_
      rintro e w2 ⟨rfl, hq2⟩
      have HQ2 := hide (HQ.out.trans hq2)
      clear hq2
      cases hls : lessL (l.getD mid []) p with
      | true =>
        have HLS := hide hls
        clear hls
        go_wp2_with fail
        go_roundw
        case rel => exact ⟨mid + 1, hi, by go_num, rfl, HPLC.out.up HA.out ⟨hm1, hm2⟩ HLS.out, HQ2.out⟩
        case measure => simp [intOf]; omega
      | false =>
        have HLS := hide hls
        clear hls
        go_wp2_with fail
        go_roundw
        case rel => exact ⟨lo, mid, rfl, rfl, HPLC.out.down HA.out ⟨hm1, hm2⟩ HLS.out, HQ2.out⟩
        case measure => simp [intOf]; omega
    · have hee : lo = hi := by omega
      subst hee
      by_cases hin : p ∈ l
      · obtain ⟨hk, heq⟩ := (HPLC.out.mem HA.out).1 hin
        rw [HM.out] at hk
        have hkz : (lo : Int) < m := by omega
        obtain ⟨Am, cm, hvm, hom⟩ := HRV.out.2 lo (by rw [HM.out]; omega)
        rw [HLL.out lo (by rw [HM.out]; omega)] at hvm
        have hcm := (HQ.out.cell ⟨g, lo, none⟩).trans (HCL.out lo _ hvm)
        have HRM := hide (HQ.out.rd hom.rd)
        have HIN := hide hin
        have HEQ := hide heq
        clear hvm hom hin heq
        go_wp2_with fail
        refine (same_any Am P n cm n d (l.getD lo []) p true _ (HLL.out lo (by rw [HM.out]; exact hk)) HP.out (by omega) (by omega) HRM.out (HQ.out.rd HRP.out) ⟨fun _ => HEQ.out, fun _ => rfl⟩).mono ?_
        rintro e w2 ⟨rfl, hq2⟩
        have HQ2 := hide (HQ.out.trans hq2)
        clear hq2
        go_wp2_with fail
        go_ret2
        exact ⟨lo, HPLC.out, .inl ⟨HIN.out, rfl, HQ2.out⟩⟩
      · have HNIN := hide hin
        have hlom : lo ≤ m := by omega
        clear hin
        by_cases hk : lo < m
        · have hkz : (lo : Int) < m := by omega
          have hne : l.getD lo [] ≠ p := fun e => HNIN.out ((HPLC.out.mem HA.out).2 ⟨by rw [HM.out]; exact hk, e⟩)
          obtain ⟨Am, cm, hvm, hom⟩ := HRV.out.2 lo (by rw [HM.out]; omega)
          rw [HLL.out lo (by rw [HM.out]; omega)] at hvm
          have hcm := (HQ.out.cell ⟨g, lo, none⟩).trans (HCL.out lo _ hvm)
          have HRM := hide (HQ.out.rd hom.rd)
          have HNE := hide hne
          clear hvm hom hne
          go_wp2_with fail
          refine (same_any Am P n cm n d (l.getD lo []) p false _ (HLL.out lo (by rw [HM.out]; exact hk)) HP.out (by omega) (by omega) HRM.out (HQ.out.rd HRP.out) ⟨fun h => (Bool.noConfusion h), fun h => absurd h HNE.out⟩).mono ?_
          rintro e w2 ⟨rfl, hq2⟩
          have HQ2 := hide (HQ.out.trans hq2)
          clear hq2 hcm HRM HNE
          have HB2 := hide (HQ2.out.below w.heap.size)
          have hs2 := HB2.out.size
          have HOW2 := hide (ownsRow_below HOW.out HB2.out)
          have HON : Hid (∀ u ∈ [Value.slice P n d], u.oneCell' = true) := hide (by intro u hu; simp at hu; subst hu; rfl)
          go_wp2_with (at_builtin; refine wpList_append_own_at _ rfl _ _ 22 rfl B 26 i2 (.slice none 0 0) 1 24 Try.underlying22 hj hy0 hy1 hy2 rfl (by decide) _ _ _ rfl (HOW2.out.alloc _) ⟨w2.heap.size, 0, none⟩ 1 1 [.slice P n d] rfl rfl ?c1 ?c2 ?c3 ?c4 ?c5 ?_)
          case c1 => exact ne_new
          case c2 => exact HON.out
          case c3 => unfold maxLen; omega
          case c4 => omega
          case c5 => simp; omega
          intro v9 w9 hown9 hgrow9 _ hat9
          have HAL : Hid (Below w.heap.size w (w2.alloc (.cells #[.slice P n d] 26))) := hide (HB2.out.alloc hs2 _)
          have HCH9 : Hid (Chg g w w9) := hide ((Chg.of_below HAL.out).grown hgrow9 (.inl rfl))
          have HB9 : Hid (Below B w w9) := hide ((HAL.out.mono hB).grown hgrow9 (by simp; omega) (fun g hg => ((HOW2.out.alloc (.cells #[.slice P n d] 26)).lt g hg).1))
          have HO9 := hide hown9
          obtain ⟨g9, c9, hv9, hg9, hcl9⟩ := own_look hown9 (by omega)
          subst hv9
          have hgg : g9 = g ∨ w.heap.size ≤ g9 := by
            rcases hat9 with e | e
            · simp [Value.ownBlock] at e; exact .inl e
            · simp [Value.ownBlock] at e; exact .inr (by omega)
          have HSH : Hid (Shf vals m m (vals ++ [.slice P n d])) := hide (Shf.start (by rw [HRV.out.1, HM.out]) _)
          clear hown9 hgrow9 hat9 hcl9 HAL HB2 HOW2 HQ2
          go_wp2_with fail
          go_loopw [10] (fun i wr => ∃ (k : Nat) (xs : List Value), lo ≤ k ∧ k ≤ m ∧ i = .int .i64 k ∧ Shf vals m k xs ∧ wr.ownsRow B 26 1 (.slice (some ⟨g9, 0, none⟩) (m + 1) c9) (m + 1) xs ∧ Below B w wr ∧ Chg g w wr) (fun i _ => (intOf i).toNat)
          case atStart => exact ⟨m, _, hlom, Nat.le_refl _, by go_num, HSH.out, HO9.out, HB9.out, HCH9.out⟩
          case round =>
            obtain ⟨k, xs, hk1, hk2, rfl, hshf, hox, hbx, hcx⟩ := hrel
            have HSF := hide hshf
            have HOX := hide hox
            have HBX := hide hbx
            have HCX := hide hcx
            clear hshf hox hbx hcx HO9 HB9 HCH9 HSH
            by_cases hlk : lo < k
            · obtain ⟨k1, rfl⟩ : ∃ k1, k = k1 + 1 := ⟨k - 1, by omega⟩
              have hlkz : (lo : Int) < (k1 : Int) + 1 := by omega
              obtain ⟨u1, hu1, hcu1⟩ := own_cell HOX.out k1 (by omega)
              obtain ⟨u2, hu2, hcu2⟩ := own_cell HOX.out (k1 + 1) (by omega)
              have hfr := own_frozen HOX.out (k1 + 1)
              have hvu : vals[k1]? = some u1 := by rw [← HSF.out.lo k1 (by omega)]; exact hu1
              obtain ⟨Au, cu, hue, hou⟩ := HRV.out.2 k1 (by rw [HM.out]; omega)
              rw [HLL.out k1 (by rw [HM.out]; omega)] at hue
              have hvu2 := hvu
              rw [hue] at hvu2
              injection hvu2 with hvu2
              subst hvu2
              have HVU := hide hvu
              clear hu1 hu2 hou hue hvu
              go_wp2_with fail
              go_roundw
              case rel =>
                exact ⟨k1, _, by omega, by omega, by go_num, HSF.out.step hk2 HVU.out, own_set HOX.out _, HBX.out.setCell (p := ⟨g9, k1 + 1, none⟩) (own_lt HOX.out rfl).1 _, HCX.out.store hgg _⟩
              case measure => simp [intOf]
            · have hke : k = lo := by omega
              subst hke
              obtain ⟨u2, hu2, hcu2⟩ := own_cell HOX.out k (by omega)
              have hfr := own_frozen HOX.out k
              have hkz2 : (k : Int) < (m : Int) + 1 := by omega
              clear hu2
              go_wp2_with fail
              go_ret2
              refine ⟨k, HPLC.out, .inr ⟨HNIN.out, g9, c9, rfl, HBX.out.setCell (p := ⟨g9, k, none⟩) (own_lt HOX.out rfl).1 _, HCX.out.store hgg _, hgg, ?_⟩⟩
              have h := own_set (i := k) HOX.out (.slice P n d)
              rw [HSF.out.fin (by rw [HRV.out.1, HM.out]) (by omega)] at h
              exact h
        · have hgez : (m : Int) ≤ lo := by omega
          obtain ⟨w2, hw2⟩ : ∃ w2, w2 = wr := ⟨_, rfl⟩
          subst hw2
          have HQ2 := hide HQ.out
          have HB2 := hide (HQ2.out.below w.heap.size)
          have hs2 := HB2.out.size
          have HOW2 := hide (ownsRow_below HOW.out HB2.out)
          have HON : Hid (∀ u ∈ [Value.slice P n d], u.oneCell' = true) := hide (by intro u hu; simp at hu; subst hu; rfl)
          go_wp2_with (at_builtin; refine wpList_append_own_at _ rfl _ _ 22 rfl B 26 i2 (.slice none 0 0) 1 24 Try.underlying22 hj hy0 hy1 hy2 rfl (by decide) _ _ _ rfl (HOW2.out.alloc _) ⟨w2.heap.size, 0, none⟩ 1 1 [.slice P n d] rfl rfl ?c1 ?c2 ?c3 ?c4 ?c5 ?_)
          case c1 => exact ne_new
          case c2 => exact HON.out
          case c3 => unfold maxLen; omega
          case c4 => omega
          case c5 => simp; omega
          intro v9 w9 hown9 hgrow9 _ hat9
          have HAL : Hid (Below w.heap.size w (w2.alloc (.cells #[.slice P n d] 26))) := hide (HB2.out.alloc hs2 _)
          have HCH9 : Hid (Chg g w w9) := hide ((Chg.of_below HAL.out).grown hgrow9 (.inl rfl))
          have HB9 : Hid (Below B w w9) := hide ((HAL.out.mono hB).grown hgrow9 (by simp; omega) (fun g hg => ((HOW2.out.alloc (.cells #[.slice P n d] 26)).lt g hg).1))
          have HO9 := hide hown9
          obtain ⟨g9, c9, hv9, hg9, hcl9⟩ := own_look hown9 (by omega)
          subst hv9
          have hgg : g9 = g ∨ w.heap.size ≤ g9 := by
            rcases hat9 with e | e
            · simp [Value.ownBlock] at e; exact .inl e
            · simp [Value.ownBlock] at e; exact .inr (by omega)
          have HSH : Hid (Shf vals m m (vals ++ [.slice P n d])) := hide (Shf.start (by rw [HRV.out.1, HM.out]) _)
          clear hown9 hgrow9 hat9 hcl9 HAL HB2 HOW2 HQ2
          go_wp2_with fail
          go_loopw [10] (fun i wr => ∃ (k : Nat) (xs : List Value), lo ≤ k ∧ k ≤ m ∧ i = .int .i64 k ∧ Shf vals m k xs ∧ wr.ownsRow B 26 1 (.slice (some ⟨g9, 0, none⟩) (m + 1) c9) (m + 1) xs ∧ Below B w wr ∧ Chg g w wr) (fun i _ => (intOf i).toNat)
          case atStart => exact ⟨m, _, hlom, Nat.le_refl _, by go_num, HSH.out, HO9.out, HB9.out, HCH9.out⟩
          case round =>
            obtain ⟨k, xs, hk1, hk2, rfl, hshf, hox, hbx, hcx⟩ := hrel
            have HSF := hide hshf
            have HOX := hide hox
            have HBX := hide hbx
            have HCX := hide hcx
            clear hshf hox hbx hcx HO9 HB9 HCH9 HSH
            by_cases hlk : lo < k
            · exact absurd hlk (by omega)
            · have hke : k = lo := by omega
              subst hke
              obtain ⟨u2, hu2, hcu2⟩ := own_cell HOX.out k (by omega)
              have hfr := own_frozen HOX.out k
              have hkz2 : (k : Int) < (m : Int) + 1 := by omega
              clear hu2
              go_wp2_with fail
              go_ret2
              refine ⟨k, HPLC.out, .inr ⟨HNIN.out, g9, c9, rfl, HBX.out.setCell (p := ⟨g9, k, none⟩) (own_lt HOX.out rfl).1 _, HCX.out.store hgg _, hgg, ?_⟩⟩
              have h := own_set (i := k) HOX.out (.slice P n d)
              rw [HSF.out.fin (by rw [HRV.out.1, HM.out]) (by omega)] at h
              exact h
end Go.Proofs.Ytbhlcfcmjildmaa
namespace Go.Proofs.Ytbhlcfcmjildmaa
open Go Go.RowKit
/-! Moves of tuples by a bijection of pairs: what is reached by them, and a search for it. -/
theorem text_getD {xs ys : List Int} (hl : xs.length = ys.length) (h : ∀ j, j < xs.length → xs.getD j 0 = ys.getD j 0) : xs = ys := by
  refine List.ext_getElem hl fun i h1 h2 => ?_
  have := h i h1
  simpa [h1, h2] using this
/-- h leads pairs of elements of a set of n, and b leads them back. -/
structure PB (n : Nat) (h1 h2 b1 b2 : Nat → Nat → Int) : Prop where
  h1r : ∀ x y, x < n → y < n → 0 ≤ h1 x y ∧ h1 x y < (n : Int)
  h2r : ∀ x y, x < n → y < n → 0 ≤ h2 x y ∧ h2 x y < (n : Int)
  b1r : ∀ x y, x < n → y < n → 0 ≤ b1 x y ∧ b1 x y < (n : Int)
  b2r : ∀ x y, x < n → y < n → 0 ≤ b2 x y ∧ b2 x y < (n : Int)
  hb1 : ∀ x y, x < n → y < n → h1 (b1 x y).toNat (b2 x y).toNat = (x : Int)
  hb2 : ∀ x y, x < n → y < n → h2 (b1 x y).toNat (b2 x y).toNat = (y : Int)
  bh1 : ∀ x y, x < n → y < n → b1 (h1 x y).toNat (h2 x y).toNat = (x : Int)
  bh2 : ∀ x y, x < n → y < n → b2 (h1 x y).toNat (h2 x y).toNat = (y : Int)
section
variable {n : Nat} {h1 h2 b1 b2 : Nat → Nat → Int}
theorem PB.swap (h : PB n h1 h2 b1 b2) : PB n b1 b2 h1 h2 := ⟨h.b1r, h.b2r, h.h1r, h.h2r, h.bh1, h.bh2, h.hb1, h.hb2⟩
theorem mvL_at (xs : List Int) (k j : Nat) (hk : k + 1 < xs.length) : (mvL h1 h2 xs k).getD j 0 = if j = k + 1 then h2 (elN xs k) (elN xs (k + 1)) else if j = k then h1 (elN xs k) (elN xs (k + 1)) else xs.getD j 0 := by
  unfold mvL
  simp only [List.getD_eq_getElem?_getD, List.getElem?_set, List.length_set]
  by_cases e1 : j = k + 1
  · subst e1
    simp [hk]
  · rw [if_neg (Ne.symm e1), if_neg e1]
    by_cases e2 : j = k
    · subst e2
      have : j < xs.length := by omega
      simp [this]
    · rw [if_neg (Ne.symm e2), if_neg e2]
theorem mvL_tup (h : PB n h1 h2 b1 b2) {xs : List Int} (ht : Tup n xs) {k : Nat} (hk : k + 1 < xs.length) : Tup n (mvL h1 h2 xs k) := by
  have hx := (ht.el (j := k) (by omega)).2
  have hy := (ht.el (j := k + 1) hk).2
  refine ⟨by rw [mvL_length]; exact ht.1, fun j hj => ?_⟩
  rw [mvL_length] at hj
  rw [mvL_at xs k j hk]
  by_cases e1 : j = k + 1
  · rw [if_pos e1]; exact h.h2r _ _ hx hy
  · rw [if_neg e1]
    by_cases e2 : j = k
    · rw [if_pos e2]; exact h.h1r _ _ hx hy
    · rw [if_neg e2]; exact ht.2 j hj
theorem mvL_back (h : PB n h1 h2 b1 b2) {xs : List Int} (ht : Tup n xs) {k : Nat} (hk : k + 1 < xs.length) : mvL b1 b2 (mvL h1 h2 xs k) k = xs := by
  have ex := ht.el (j := k) (by omega)
  have ey := ht.el (j := k + 1) hk
  have hk2 : k + 1 < (mvL h1 h2 xs k).length := by rw [mvL_length]; exact hk
  have e1 : elN (mvL h1 h2 xs k) k = (h1 (elN xs k) (elN xs (k + 1))).toNat := by
    unfold elN
    rw [mvL_at xs k k hk, if_neg (by omega), if_pos rfl]
    rfl
  have e2 : elN (mvL h1 h2 xs k) (k + 1) = (h2 (elN xs k) (elN xs (k + 1))).toNat := by
    have h9 := mvL_at (h1 := h1) (h2 := h2) xs k (k + 1) hk
    rw [if_pos rfl] at h9
    show ((mvL h1 h2 xs k).getD (k + 1) 0).toNat = _
    rw [h9]
  refine text_getD (by rw [mvL_length, mvL_length]) fun j hj => ?_
  rw [mvL_at _ k j hk2, e1, e2, h.bh1 _ _ ex.2 ey.2, h.bh2 _ _ ex.2 ey.2, ← ex.1, ← ey.1]
  by_cases c1 : j = k + 1
  · rw [if_pos c1, c1]
  · rw [if_neg c1]
    by_cases c2 : j = k
    · rw [if_pos c2, c2]
    · rw [if_neg c2, mvL_at xs k j hk, if_neg c1, if_neg c2]
theorem mvL_inj (h : PB n h1 h2 b1 b2) {xs ys : List Int} (hx : Tup n xs) (hy : Tup n ys) {k : Nat} (hk : k + 1 < xs.length) (hk2 : k + 1 < ys.length) (e : mvL h1 h2 xs k = mvL h1 h2 ys k) : xs = ys := by
  rw [← mvL_back h hx hk, e, mvL_back h hy hk2]
/-- Moves lead from x to it. -/
inductive Tch (h1 h2 : Nat → Nat → Int) (x : List Int) : List Int → Prop
  | refl : Tch h1 h2 x x
  | step {y : List Int} {k : Nat} : Tch h1 h2 x y → k + 1 < x.length → Tch h1 h2 x (mvL h1 h2 y k)
theorem Tch.len {x y : List Int} (h : Tch h1 h2 x y) : y.length = x.length := by
  induction h with
  | refl => rfl
  | step _ _ ih => rw [mvL_length]; exact ih
theorem Tch.tup {x y : List Int} (hp : PB n h1 h2 b1 b2) (ht : Tup n x) (h : Tch h1 h2 x y) : Tup n y := by
  induction h with
  | refl => exact ht
  | step h9 hk ih => exact mvL_tup hp ih (by rw [h9.len]; exact hk)
theorem Tch.trans {x y z : List Int} (h : Tch h1 h2 x y) (k : Tch h1 h2 y z) : Tch h1 h2 x z := by
  induction k with
  | refl => exact h
  | step _ hk ih => exact .step ih (by rw [← h.len]; exact hk)
/-- All tuples. -/
def allT (n : Nat) : Nat → List (List Int)
  | 0 => [[]]
  | m + 1 => (allT n m).flatMap fun t => (List.range n).map fun v : Nat => (v : Int) :: t
theorem allT_mem {n : Nat} : ∀ (xs : List Int), (∀ v ∈ xs, 0 ≤ v ∧ v < (n : Int)) → xs ∈ allT n xs.length
  | [], _ => by simp [allT]
  | x :: xs, h => by
    have hx := h x (by simp)
    refine List.mem_flatMap.2 ⟨xs, allT_mem xs (fun v hv => h v (by simp [hv])), List.mem_map.2 ⟨x.toNat, List.mem_range.2 (by omega), ?_⟩⟩
    have : ((x.toNat : Nat) : Int) = x := by omega
    rw [this]
theorem Tup.mem {xs : List Int} (h : Tup n xs) : ∀ v ∈ xs, 0 ≤ v ∧ v < (n : Int) := fun v hv => by
  obtain ⟨i, hi, e⟩ := List.getElem_of_mem hv
  have := h.2 i hi
  rw [← e]
  simpa [hi] using this
theorem tdedup_ex {α : Type} [DecidableEq α] : ∀ l : List α, ∃ m : List α, m.Nodup ∧ ∀ x, x ∈ m ↔ x ∈ l
  | [] => ⟨[], by simp, fun _ => Iff.rfl⟩
  | a :: l => by
    obtain ⟨m, h, k⟩ := tdedup_ex l
    by_cases e : a ∈ m
    · refine ⟨m, h, fun x => ⟨fun hx => List.mem_cons_of_mem _ ((k x).1 hx), fun hx => ?_⟩⟩
      rcases List.mem_cons.1 hx with rfl | hx
      · exact e
      · exact (k x).2 hx
    · refine ⟨a :: m, List.nodup_cons.2 ⟨e, h⟩, fun x => ?_⟩
      rw [List.mem_cons, List.mem_cons, k x]
theorem tnodup_le {α : Type} [DecidableEq α] {l m : List α} (h : l.Nodup) (hs : ∀ a ∈ l, a ∈ m) : l.length ≤ m.length := by
  obtain ⟨k, hk⟩ := subset_perm l m h hs
  have := hk.length_eq
  simp at this
  omega
/-- A list of all that is reached, each once. -/
def Cls (h1 h2 : Nat → Nat → Int) (x : List Int) (L : List (List Int)) : Prop := L.Nodup ∧ ∀ y, y ∈ L ↔ Tch h1 h2 x y
open Classical in
theorem Cls.ex (hp : PB n h1 h2 b1 b2) {x : List Int} (ht : Tup n x) : ∃ L, Cls h1 h2 x L := by
  obtain ⟨L, h, k⟩ := tdedup_ex ((allT n x.length).filter fun y => decide (Tch h1 h2 x y))
  refine ⟨L, h, fun y => ?_⟩
  rw [k, List.mem_filter]
  refine ⟨fun hy => of_decide_eq_true hy.2, fun hy => ⟨?_, decide_eq_true hy⟩⟩
  rw [← hy.len]
  exact allT_mem y (hy.tup hp ht).mem
theorem Tch.back (hp : PB n h1 h2 b1 b2) {x y : List Int} (ht : Tup n x) (h : Tch h1 h2 x y) {k : Nat} (hk : k + 1 < x.length) : Tch h1 h2 x (mvL b1 b2 y k) := by
  obtain ⟨L, hn, hm⟩ := Cls.ex hp ht
  have hnd : (L.map fun z => mvL h1 h2 z k).Nodup := by
    rw [List.nodup_iff_pairwise_ne, List.pairwise_map]
    refine List.Pairwise.imp_of_mem ?_ (List.nodup_iff_pairwise_ne.1 hn)
    intro a b ha hb hab e
    have ra := (hm a).1 ha
    have rb := (hm b).1 hb
    exact hab (mvL_inj hp (ra.tup hp ht) (rb.tup hp ht) (by rw [ra.len]; exact hk) (by rw [rb.len]; exact hk) e)
  obtain ⟨l, hl⟩ := subset_perm _ L hnd (fun a ha => by
    obtain ⟨z, hz, rfl⟩ := List.mem_map.1 ha
    exact (hm _).2 (.step ((hm z).1 hz) hk))
  have hll := hl.length_eq
  simp at hll
  subst hll
  have hy := hl.mem_iff.1 ((hm y).2 h)
  rw [List.append_nil] at hy
  obtain ⟨z, hz, rfl⟩ := List.mem_map.1 hy
  have rz := (hm z).1 hz
  rw [mvL_back hp (rz.tup hp ht) (by rw [rz.len]; exact hk)]
  exact rz
theorem Tch.symm (hp : PB n h1 h2 b1 b2) {x y : List Int} (ht : Tup n x) (h : Tch h1 h2 x y) : Tch h1 h2 y x := by
  induction h with
  | refl => exact .refl
  | @step y k h9 hk ih =>
    have hty := h9.tup hp ht
    have hky : k + 1 < y.length := by rw [h9.len]; exact hk
    have h1' := Tch.back hp (x := mvL h1 h2 y k) (y := mvL h1 h2 y k) (mvL_tup hp hty hky) .refl (k := k) (by rw [mvL_length]; exact hky)
    rw [mvL_back hp hty hky] at h1'
    exact h1'.trans ih
theorem Cls.len {x : List Int} {L L' : List (List Int)} (h : Cls h1 h2 x L) (h' : Cls h1 h2 x L') : L.length = L'.length :=
  Nat.le_antisymm (tnodup_le h.1 fun a ha => (h'.2 a).2 ((h.2 a).1 ha)) (tnodup_le h'.1 fun a ha => (h.2 a).2 ((h'.2 a).1 ha))
/-- At most M are reached. -/
def FewT (h1 h2 : Nat → Nat → Int) (x : List Int) (M : Nat) : Prop := ∃ L, Cls h1 h2 x L ∧ L.length ≤ M
theorem not_few {x y : List Int} {found : List (List Int)} {M : Nat} (hd : found.Nodup) (hg : ∀ y, y ∈ found → Tch h1 h2 x y) (hy : Tch h1 h2 x y) (hn : y ∉ found) (hM : M ≤ found.length) : ¬ FewT h1 h2 x M := by
  rintro ⟨L, hL, hl⟩
  have := tnodup_le (l := y :: found) (m := L) (List.nodup_cons.2 ⟨hn, hd⟩) (fun a ha => by
    rcases List.mem_cons.1 ha with rfl | ha
    · exact (hL.2 _).2 hy
    · exact (hL.2 _).2 (hg _ ha))
  simp at this
  omega
theorem not_few2 {x : List Int} {found : List (List Int)} {M : Nat} (hd : found.Nodup) (hg : ∀ y, y ∈ found → Tch h1 h2 x y) (hM : M < found.length) : ¬ FewT h1 h2 x M := by
  rintro ⟨L, hL, hl⟩
  have := tnodup_le hd (fun a ha => (hL.2 a).2 (hg a ha))
  omega
theorem Cls.not_few {x : List Int} {L : List (List Int)} {M : Nat} (h : Cls h1 h2 x L) (hM : M < L.length) : ¬ FewT h1 h2 x M := not_few2 h.1 (fun y hy => (h.2 y).1 hy) hM
/-- How a search with a heap of what is still to be done stands: t has been taken from it, and its first k moves are done. -/
structure Stk (h1 h2 : Nat → Nat → Int) (x : List Int) (found todo : List (List Int)) (t : List Int) (k : Nat) : Prop where
  nd : found.Nodup
  rch : ∀ y, y ∈ found → Tch h1 h2 x y
  start : x ∈ found
  sub : ∀ y, y ∈ todo → y ∈ found
  tin : t ∈ found
  few : todo.length ≤ found.length
  done : ∀ y, y ∈ found → y ∉ todo → y ≠ t → ∀ j, j + 1 < x.length → mvL h1 h2 y j ∈ found
  part : ∀ j, j < k → mvL h1 h2 t j ∈ found
/-- The same between two of them. -/
structure Stk0 (h1 h2 : Nat → Nat → Int) (x : List Int) (found todo : List (List Int)) : Prop where
  nd : found.Nodup
  rch : ∀ y, y ∈ found → Tch h1 h2 x y
  start : x ∈ found
  sub : ∀ y, y ∈ todo → y ∈ found
  few : todo.length ≤ found.length
  done : ∀ y, y ∈ found → y ∉ todo → ∀ j, j + 1 < x.length → mvL h1 h2 y j ∈ found
theorem Stk0.begin (x : List Int) : Stk0 h1 h2 x [x] [x] where
  nd := by simp
  rch := fun y hy => by simp at hy; subst hy; exact .refl
  start := by simp
  sub := fun y hy => hy
  few := Nat.le_refl _
  done := fun y hy hn => absurd hy hn
theorem Stk0.take {x t : List Int} {found todo : List (List Int)} (h : Stk0 h1 h2 x found (todo ++ [t])) : Stk h1 h2 x found todo t 0 where
  nd := h.nd
  rch := h.rch
  start := h.start
  sub := fun y hy => h.sub y (by simp [hy])
  tin := h.sub t (by simp)
  few := by have := h.few; simp at this; omega
  done := fun y hy hn hne j hj => h.done y hy (by simp [hn, hne]) j hj
  part := fun j hj => by omega
theorem Stk.keep {x t : List Int} {found todo : List (List Int)} {k : Nat} (h : Stk h1 h2 x found todo t k) (hm : mvL h1 h2 t k ∈ found) : Stk h1 h2 x found todo t (k + 1) :=
  ⟨h.nd, h.rch, h.start, h.sub, h.tin, h.few, h.done, fun j hj => by
    by_cases e : j = k
    · rw [e]; exact hm
    · exact h.part j (by omega)⟩
theorem Stk.push {x t : List Int} {found todo : List (List Int)} {k : Nat} (h : Stk h1 h2 x found todo t k) (hk : k + 1 < x.length) (hn : mvL h1 h2 t k ∉ found) : Stk h1 h2 x (found ++ [mvL h1 h2 t k]) (todo ++ [mvL h1 h2 t k]) t (k + 1) where
  nd := List.nodup_append.2 ⟨h.nd, by simp, fun a ha b hb e => by simp at hb; subst hb; subst e; exact hn ha⟩
  rch := fun y hy => by
    rcases List.mem_append.1 hy with hy | hy
    · exact h.rch y hy
    · simp at hy; subst hy; exact .step (h.rch _ h.tin) hk
  start := List.mem_append.2 (.inl h.start)
  sub := fun y hy => by
    rcases List.mem_append.1 hy with hy | hy
    · exact List.mem_append.2 (.inl (h.sub y hy))
    · exact List.mem_append.2 (.inr hy)
  tin := List.mem_append.2 (.inl h.tin)
  few := by have := h.few; simp; omega
  done := fun y hy hny hne j hj => by
    rcases List.mem_append.1 hy with hy | hy
    · exact List.mem_append.2 (.inl (h.done y hy (fun e => hny (List.mem_append.2 (.inl e))) hne j hj))
    · exact absurd (List.mem_append.2 (.inr hy)) hny
  part := fun j hj => by
    by_cases e : j = k
    · rw [e]; exact List.mem_append.2 (.inr (by simp))
    · exact List.mem_append.2 (.inl (h.part j (by omega)))
theorem Stk.next {x t : List Int} {found todo : List (List Int)} {k : Nat} (h : Stk h1 h2 x found todo t k) (hk : x.length ≤ k + 1) : Stk0 h1 h2 x found todo :=
  ⟨h.nd, h.rch, h.start, h.sub, h.few, fun y hy hn j hj => by
    by_cases e : y = t
    · rw [e]; exact h.part j (by omega)
    · exact h.done y hy hn e j hj⟩
theorem Stk0.fin {x : List Int} {found : List (List Int)} (h : Stk0 h1 h2 x found []) : Cls h1 h2 x found :=
  ⟨h.nd, fun y => ⟨h.rch y, fun hy => by
    induction hy with
    | refl => exact h.start
    | step _ hk ih => exact h.done _ ih (by simp) _ hk⟩⟩
/-- How a search with a queue stands: the first i that were found are done. -/
structure Que (h1 h2 : Nat → Nat → Int) (x : List Int) (found : List (List Int)) (i k : Nat) : Prop where
  nd : found.Nodup
  rch : ∀ y, y ∈ found → Tch h1 h2 x y
  start : x ∈ found
  done : ∀ a, a < i → ∀ j, j + 1 < x.length → mvL h1 h2 (found.getD a []) j ∈ found
  part : ∀ j, j < k → mvL h1 h2 (found.getD i []) j ∈ found
theorem Que.begin (x : List Int) : Que h1 h2 x [x] 0 0 where
  nd := by simp
  rch := fun y hy => by simp at hy; subst hy; exact .refl
  start := by simp
  done := fun a ha => by omega
  part := fun j hj => by omega
theorem tgetD_mem {α : Type} (l : List α) (i : Nat) (d : α) (h : i < l.length) : l.getD i d ∈ l := by simp [h]
theorem tgetD_app {α : Type} (l : List α) (v : α) (i : Nat) (d : α) (h : i < l.length) : (l ++ [v]).getD i d = l.getD i d := by
  simp only [List.getD_eq_getElem?_getD]
  rw [List.getElem?_append_left h]
/-- Something that is reached is put at the end. -/
theorem Que.add {x y : List Int} {found : List (List Int)} {i k : Nat} (h : Que h1 h2 x found i k) (hi : i < found.length) (hy : Tch h1 h2 x y) (hn : y ∉ found) : Que h1 h2 x (found ++ [y]) i k where
  nd := List.nodup_append.2 ⟨h.nd, by simp, fun a ha b hb e => by simp at hb; subst hb; subst e; exact hn ha⟩
  rch := fun z hz => by
    rcases List.mem_append.1 hz with hz | hz
    · exact h.rch z hz
    · simp at hz; subst hz; exact hy
  start := List.mem_append.2 (.inl h.start)
  done := fun a ha j hj => by rw [tgetD_app _ _ _ _ (by omega)]; exact List.mem_append.2 (.inl (h.done a ha j hj))
  part := fun j hj => by rw [tgetD_app _ _ _ _ hi]; exact List.mem_append.2 (.inl (h.part j hj))
theorem Que.keep {x : List Int} {found : List (List Int)} {i k : Nat} (h : Que h1 h2 x found i k) (hm : mvL h1 h2 (found.getD i []) k ∈ found) : Que h1 h2 x found i (k + 1) :=
  ⟨h.nd, h.rch, h.start, h.done, fun j hj => by
    by_cases e : j = k
    · rw [e]; exact hm
    · exact h.part j (by omega)⟩
theorem Que.next {x : List Int} {found : List (List Int)} {i k : Nat} (h : Que h1 h2 x found i k) (hk : x.length ≤ k + 1) : Que h1 h2 x found (i + 1) 0 :=
  ⟨h.nd, h.rch, h.start, fun a ha j hj => by
    by_cases e : a = i
    · rw [e]; exact h.part j (by omega)
    · exact h.done a (by omega) j hj, fun j hj => by omega⟩
theorem Que.fin {x : List Int} {found : List (List Int)} {k : Nat} (h : Que h1 h2 x found found.length k) : Cls h1 h2 x found :=
  ⟨h.nd, fun y => ⟨h.rch y, fun hy => by
    induction hy with
    | refl => exact h.start
    | @step z j _ hk ih =>
      obtain ⟨a, ha, e⟩ := List.getElem_of_mem ih
      have h9 := h.done a ha j hk
      have e9 : found.getD a [] = z := by rw [← e]; simp [ha]
      rw [e9] at h9
      exact h9⟩⟩
theorem Que.at {x : List Int} {found : List (List Int)} {i k : Nat} (h : Que h1 h2 x found i k) (hi : i < found.length) : Tch h1 h2 x (found.getD i []) := h.rch _ (tgetD_mem _ _ _ hi)
end
/-- A solution is such a bijection. -/
theorem SolF.pb {f s : List (List Int)} {n : Nat} (h : SolF f s) (hn : f.length = n) : PB n (leH f) (leH s) (bk1 f s n) (bk2 f s n) := by
  have hp := h.1
  have hc := h.2.1
  rw [hn] at hc
  have hs : s.length = n := by rw [← hp.2.2]; exact hn
  have hbk : ∀ x y, x < n → y < n → bk f s n x y / n < n ∧ bk f s n x y % n < n := fun x y hx hy => by
    have hk := (bk_spec hp hn hc hx hy).1
    exact ⟨Nat.div_lt_of_lt_mul hk, Nat.mod_lt _ (by omega)⟩
  have hled : ∀ x y, x < n → y < n → ledK f s n (x * n + y) = (ap f x y, ap s x y) := fun x y hx hy => by
    unfold ledK
    rw [pair_div n x y hy, pair_mod n x y hy]
  have hfb : ∀ x y, x < n → y < n → bk f s n (ap f x y) (ap s x y) = x * n + y := fun x y hx hy => bk_led hc (pair_lt n x y hx hy) (hled x y hx hy)
  refine ⟨fun x y hx hy => ?_, fun x y hx hy => ?_, fun x y hx hy => ?_, fun x y hx hy => ?_, fun x y hx hy => ?_, fun x y hx hy => ?_, fun x y hx hy => ?_, fun x y hx hy => ?_⟩
  · have := hp.1.ap_lt hn hx hy; unfold leH; omega
  · have := hp.2.1.ap_lt hs hx hy; unfold leH; omega
  · have h9 := (hbk x y hx hy).1; exact ⟨Int.natCast_nonneg _, by unfold bk1; exact_mod_cast h9⟩
  · have h9 := (hbk x y hx hy).2; exact ⟨Int.natCast_nonneg _, by unfold bk2; exact_mod_cast h9⟩
  · have h9 := (bk_spec hp hn hc hx hy).2
    have e := congrArg Prod.fst h9
    have e2 : ap f (bk f s n x y / n) (bk f s n x y % n) = x := e
    unfold leH bk1 bk2
    simp only [Int.toNat_natCast]
    rw [e2]
  · have h9 := (bk_spec hp hn hc hx hy).2
    have e := congrArg Prod.snd h9
    have e2 : ap s (bk f s n x y / n) (bk f s n x y % n) = y := e
    unfold leH bk1 bk2
    simp only [Int.toNat_natCast]
    rw [e2]
  · unfold leH bk1
    simp only [Int.toNat_natCast]
    rw [hfb x y hx hy, pair_div n x y hy]
  · unfold leH bk2
    simp only [Int.toNat_natCast]
    rw [hfb x y hx hy, pair_mod n x y hy]
end Go.Proofs.Ytbhlcfcmjildmaa
namespace Go.Proofs.Ytbhlcfcmjildmaa
open Go Go.RowKit
set_option maxHeartbeats 4000000
theorem copyInfo1 : (Try.prog.info? 2).map (·.size) = some 1 := by kernel_rfl
theorem wl_gen {P : Program} {ops : Array Oper} {Q : Exit → Act → World → Prop} {rest : List Oper} {a : Act} {w : World} (h : ∀ wf, wf = w → wpList P ops Q rest a wf) : wpList P ops Q rest a w := h w rfl
/-- A list with zeros behind it up to 12 numbers. -/
def pad12 (xs : List Int) : List Int := xs ++ List.replicate (12 - xs.length) 0
theorem pad12_length {xs : List Int} (h : xs.length ≤ 12) : (pad12 xs).length = 12 := by simp [pad12]; omega
theorem pad12_at {xs : List Int} {i : Nat} (h : i < xs.length) : (pad12 xs).getD i 0 = xs.getD i 0 := by
  simp only [pad12, List.getD_eq_getElem?_getD]
  rw [List.getElem?_append_left h]
theorem pad12_cells (xs : List Int) : (List.take 0 (ints (List.replicate 12 0)).toArray.toList ++ (ints xs ++ List.drop (0 + (ints xs).length) (ints (List.replicate 12 0)).toArray.toList)).toArray = (ints (pad12 xs)).toArray := by
  have e : ints (List.replicate 12 0) = List.replicate 12 (Value.int .i64 0) := by simp only [ints, List.map_replicate]
  have e2 : ints (pad12 xs) = ints xs ++ List.replicate (12 - xs.length) (Value.int .i64 0) := by simp only [pad12, ints, List.map_append, List.map_replicate]
  rw [e, e2]
  simp only [List.take_zero, List.nil_append, Nat.zero_add, List.drop_replicate, ints_length]

set_option maxRecDepth 100000 in
theorem tupleOf_any (A : Option Addr) (m c : Nat) (xs : List Int) (w : World) (hm : xs.length = m) (hb : m ≤ 12) (hr : Rd w A xs) :
    Calls Try.prog 74 #[.slice A m c] w fun e w' => e = .returned (.agg (ints (pad12 xs)).toArray) ∧ Below w.heap.size w w' := by
  have HM := hide hm
  have hpl := pad12_length (xs := xs) (by omega)
  have hcells := pad12_cells xs
  obtain ⟨ys, hy⟩ : ∃ ys, pad12 xs = ys := ⟨_, rfl⟩
  rw [hy] at hpl hcells ⊢
  have HY := hide hy
  obtain ⟨b0, b1, b2, b3, b4, b5, b6, b7, b8, b9, b10, b11, rfl⟩ := list12 hpl
  have HCE := hide hcells
  obtain ⟨cs, hcs⟩ : ∃ cs, ints xs = cs := ⟨_, rfl⟩
  have HCS := hide hcs
  have hcl : cs.length = m := by rw [← hcs, ints_length]; exact hm
  have HCL := hide hcl
  have h1c : ∀ v ∈ cs, v.oneCell' = true := by intro v hv; rw [← hcs] at hv; simp [ints] at hv; obtain ⟨_, _, rfl⟩ := hv; rfl
  have H1C := hide h1c
  clear hpl hcells hy hcl h1c
  show Calls Try.prog 74 #[.slice A m c] w fun e w' => e = .returned (.agg #[.int .i64 b0, .int .i64 b1, .int .i64 b2, .int .i64 b3, .int .i64 b4, .int .i64 b5, .int .i64 b6, .int .i64 b7, .int .i64 b8, .int .i64 b9, .int .i64 b10, .int .i64 b11]) ∧ Below w.heap.size w w'
  by_cases h0 : m = 0
  · subst h0
    have hx0 : xs = [] := List.length_eq_zero_iff.1 HM.out
    subst hx0
    have hz : [b0, b1, b2, b3, b4, b5, b6, b7, b8, b9, b10, b11] = List.replicate 12 0 := HY.out.symm
    injection hz with hz0 hz
    clear hr hm
    injection hz with hz1 hz
    injection hz with hz2 hz
    injection hz with hz3 hz
    injection hz with hz4 hz
    injection hz with hz5 hz
    injection hz with hz6 hz
    injection hz with hz7 hz
    injection hz with hz8 hz
    injection hz with hz9 hz
    injection hz with hz10 hz
    injection hz with hz11 hz
    subst hz0
    subst hz1
    subst hz2
    subst hz3
    subst hz4
    subst hz5
    subst hz6
    subst hz7
    subst hz8
    subst hz9
    subst hz10
    subst hz11
    go_enter Try.func74, Try.ntmps74
    go_upto_region 2 with fail
    refine wp_gen fun w2 hw2 => ?_
    have HB2 : Hid (Below w.heap.size w w2) := hide (by rw [hw2]; exact ((Below.refl _ _).alloc (Nat.le_refl _) _).alloc (by simp) _)
    have HR2 : Hid (Row 61 w2 w.heap.size (List.replicate 12 0)) := hide (by rw [hw2]; exact (row_zero 61 w).later ((Below.refl _ _).alloc (Nat.le_refl _) _) (by simp))
    have HT2 : Hid (Row 61 w2 (w.heap.size + 1) (List.replicate 12 0)) := hide (by rw [hw2]; have h := row_zero 61 (w.alloc (.cells #[Value.int IntKind.i64 0, Value.int IntKind.i64 0, Value.int IntKind.i64 0, Value.int IntKind.i64 0, Value.int IntKind.i64 0, Value.int IntKind.i64 0, Value.int IntKind.i64 0, Value.int IntKind.i64 0, Value.int IntKind.i64 0, Value.int IntKind.i64 0, Value.int IntKind.i64 0, Value.int IntKind.i64 0] 61)); have e : (w.alloc (Obj.cells #[Value.int IntKind.i64 0, Value.int IntKind.i64 0, Value.int IntKind.i64 0, Value.int IntKind.i64 0, Value.int IntKind.i64 0, Value.int IntKind.i64 0, Value.int IntKind.i64 0, Value.int IntKind.i64 0, Value.int IntKind.i64 0, Value.int IntKind.i64 0, Value.int IntKind.i64 0, Value.int IntKind.i64 0] 61)).heap.size = w.heap.size + 1 := (by simp); rw [e] at h; exact h)
    clear hw2
    obtain ⟨za0, zf0, za1, zf1, za2, zf2, za3, zf3, za4, zf4, za5, zf5, za6, zf6, za7, zf7, za8, zf8, za9, zf9, za10, zf10, za11, zf11⟩ := row12 (show Row 61 w2 (w.heap.size + 1) [0, 0, 0, 0, 0, 0, 0, 0, 0, 0, 0, 0] from HT2.out)
    obtain ⟨ya0, yf0, ya1, yf1, ya2, yf2, ya3, yf3, ya4, yf4, ya5, yf5, ya6, yf6, ya7, yf7, ya8, yf8, ya9, yf9, ya10, yf10, ya11, yf11⟩ := row12 (show Row 61 w2 w.heap.size [0, 0, 0, 0, 0, 0, 0, 0, 0, 0, 0, 0] from HR2.out)
    go_wp2_with (refine wpList_copy_nothing rfl _ _ _ _ rfl 2 Try.underlying26 copyInfo1 _ _ 12 12 0 c rfl rfl rfl ?_)
    refine bp_gen fun wf hwf => ?_
    have HRF : Row 61 wf (w.heap.size) [0, 0, 0, 0, 0, 0, 0, 0, 0, 0, 0, 0] := by rw [hwf]; exact row12_set (List.length_replicate ..) HR2.out _ _ _ _ _ _ _ _ _ _ _ _
    have HBF : Below w.heap.size w wf := by rw [hwf]; exact below12_set HB2.out (by omega) _ _ _ _ _ _ _ _ _ _ _ _
    obtain ⟨q0, _, q1, _, q2, _, q3, _, q4, _, q5, _, q6, _, q7, _, q8, _, q9, _, q10, _, q11, _⟩ := row12 HRF
    clear hwf
    exact bodyPost_ret (v := .agg #[.int .i64 0, .int .i64 0, .int .i64 0, .int .i64 0, .int .i64 0, .int .i64 0, .int .i64 0, .int .i64 0, .int .i64 0, .int .i64 0, .int .i64 0, .int .i64 0]) (by simp [results, Try.results74, go_sem, q0, q1, q2, q3, q4, q5, q6, q7, q8, q9, q10, q11]) rfl ⟨rfl, HBF⟩
  · obtain ⟨b, o, rfl, hbw, hc⟩ := hr (by omega)
    have HC : Hid (∀ i, i < m → w.cell? ⟨b, o + i, none⟩ = some (.int .i64 (xs.getD i 0))) := hide (by rw [← hm]; exact hc)
    clear hc hm
    go_enter Try.func74, Try.ntmps74
    go_upto_region 2 with fail
    refine wp_gen fun w2 hw2 => ?_
    have HB2 : Hid (Below w.heap.size w w2) := hide (by rw [hw2]; exact ((Below.refl _ _).alloc (Nat.le_refl _) _).alloc (by simp) _)
    have HR2 : Hid (Row 61 w2 w.heap.size (List.replicate 12 0)) := hide (by rw [hw2]; exact (row_zero 61 w).later ((Below.refl _ _).alloc (Nat.le_refl _) _) (by simp))
    have HT2 : Hid (Row 61 w2 (w.heap.size + 1) (List.replicate 12 0)) := hide (by rw [hw2]; have h := row_zero 61 (w.alloc (.cells #[Value.int IntKind.i64 0, Value.int IntKind.i64 0, Value.int IntKind.i64 0, Value.int IntKind.i64 0, Value.int IntKind.i64 0, Value.int IntKind.i64 0, Value.int IntKind.i64 0, Value.int IntKind.i64 0, Value.int IntKind.i64 0, Value.int IntKind.i64 0, Value.int IntKind.i64 0, Value.int IntKind.i64 0] 61)); have e : (w.alloc (Obj.cells #[Value.int IntKind.i64 0, Value.int IntKind.i64 0, Value.int IntKind.i64 0, Value.int IntKind.i64 0, Value.int IntKind.i64 0, Value.int IntKind.i64 0, Value.int IntKind.i64 0, Value.int IntKind.i64 0, Value.int IntKind.i64 0, Value.int IntKind.i64 0, Value.int IntKind.i64 0, Value.int IntKind.i64 0] 61)).heap.size = w.heap.size + 1 := (by simp); rw [e] at h; exact h)
    clear hw2
    have hsrc : ∀ j v, cs[j]? = some v → w2.cell? ((⟨b, o, none⟩ : Addr).add j) = some v := by
      intro j v hj
      have hl : j < m := by rw [← HCL.out]; exact (List.getElem?_eq_some_iff.1 hj).1
      have e : (⟨b, o, none⟩ : Addr).add j = ⟨b, o + j, none⟩ := by
        unfold Addr.add
        by_cases h : j = 0
        · subst h; simp
        · simp [h]
      rw [e, HB2.out.cell (p := ⟨b, o + j, none⟩) hbw, HC.out j hl, ← hj, ← HCS.out]
      simp [ints, HM.out, hl]
    have HSRC := hide hsrc
    have hg2 : w2.heap[w.heap.size + 1]? = some (.cells (ints (List.replicate 12 0)).toArray 61 (0, 0)) := HT2.out
    have HG2 := hide hg2
    have hmin : cs.length = Nat.min m 12 := by rw [HCL.out]; exact (Nat.min_eq_left hb).symm
    have hfit : 0 + cs.length ≤ (ints (List.replicate 12 0)).toArray.size := by rw [HCL.out]; simp [ints]; omega
    have HMIN := hide hmin
    have HFIT := hide hfit
    clear hsrc hg2 hmin hfit hcs
    go_upto_region 3 with (refine wpList_copy_own rfl _ _ _ _ rfl 2 Try.underlying26 copyInfo1 (w.heap.size + 1) 0 12 12 ⟨b, o, none⟩ m c rfl rfl (ints (List.replicate 12 0)).toArray 61 HG2.out cs HMIN.out HSRC.out HFIT.out H1C.out ?_; refine wl_gen fun w3 hw3 => ?_; have HW3 := hide hw3; clear hw3)
    have HR3 : Hid (Row 61 w3 (w.heap.size + 1) [b0, b1, b2, b3, b4, b5, b6, b7, b8, b9, b10, b11]) := hide (by
      have h := setRow_heap w2 (w.heap.size + 1) _ (List.take 0 (ints (List.replicate 12 0)).toArray.toList ++ (cs ++ List.drop (0 + cs.length) (ints (List.replicate 12 0)).toArray.toList)).toArray 61 (0, 0) HG2.out
      have e := HCE.out
      rw [HCS.out] at e
      rw [← HW3.out, e] at h
      exact h)
    have HZ3 : Hid (Row 61 w3 w.heap.size (List.replicate 12 0)) := hide (by rw [HW3.out]; exact (setRow_other w2 (w.heap.size + 1) w.heap.size _ (by omega)).trans HR2.out)
    have HB3 : Hid (Below w.heap.size w w3) := hide (by rw [HW3.out]; exact below_setRow HB2.out (by omega) _)
    clear HW3
    obtain ⟨ra0, rf0, ra1, rf1, ra2, rf2, ra3, rf3, ra4, rf4, ra5, rf5, ra6, rf6, ra7, rf7, ra8, rf8, ra9, rf9, ra10, rf10, ra11, rf11⟩ := row12 HR3.out
    obtain ⟨za0, zf0, za1, zf1, za2, zf2, za3, zf3, za4, zf4, za5, zf5, za6, zf6, za7, zf7, za8, zf8, za9, zf9, za10, zf10, za11, zf11⟩ := row12 (show Row 61 w3 w.heap.size [0, 0, 0, 0, 0, 0, 0, 0, 0, 0, 0, 0] from HZ3.out)
    go_wp2_with fail
    refine bp_gen fun wf hwf => ?_
    have HRF : Row 61 wf (w.heap.size) [b0, b1, b2, b3, b4, b5, b6, b7, b8, b9, b10, b11] := by rw [hwf]; exact row12_set (List.length_replicate ..) HZ3.out _ _ _ _ _ _ _ _ _ _ _ _
    have HBF : Below w.heap.size w wf := by rw [hwf]; exact below12_set HB3.out (by omega) _ _ _ _ _ _ _ _ _ _ _ _
    obtain ⟨q0, _, q1, _, q2, _, q3, _, q4, _, q5, _, q6, _, q7, _, q8, _, q9, _, q10, _, q11, _⟩ := row12 HRF
    clear hwf
    exact bodyPost_ret (v := .agg #[.int .i64 b0, .int .i64 b1, .int .i64 b2, .int .i64 b3, .int .i64 b4, .int .i64 b5, .int .i64 b6, .int .i64 b7, .int .i64 b8, .int .i64 b9, .int .i64 b10, .int .i64 b11]) (by simp [results, Try.results74, go_sem, q0, q1, q2, q3, q4, q5, q6, q7, q8, q9, q10, q11]) rfl ⟨rfl, HBF⟩
end Go.Proofs.Ytbhlcfcmjildmaa
namespace Go.Proofs.Ytbhlcfcmjildmaa
open Go Go.RowKit
section
variable {ts t : TypeId} {B g : Nat} {w w' : World} {v vq vs : Value} {rows queue srt : List (List Int)} {vals qvals svals nvals : List Value}
theorem own_chg {n : Nat} (h : w.ownsRow B ts 1 v n vals) (hc : Chg g w w') (hd : v.ownBlock ≠ some g) : w'.ownsRow B ts 1 v n vals := by
  refine ⟨h.1, ?_⟩
  rcases h.2 with h1 | ⟨g0, cap, cur, hv, hb, hh, rest⟩
  · exact .inl h1
  · refine .inr ⟨g0, cap, cur, hv, hb, ?_, rest⟩
    rw [hc.block g0 (Array.getElem?_eq_some_iff.1 hh).1 (fun e => hd (by rw [hv, ← e]; rfl))]
    exact hh
/-- A row is put into the sorted list. -/
theorem Qs.put {A : Option Addr} {c k n m cap g' cap' : Nat} {p : List Int} (hne : ts ≠ t) (h : Qs ts t B w vq (.slice (some ⟨g, 0, none⟩) m cap) queue srt qvals svals) (hc : Chg g w w') (hk : k ≤ srt.length) (hA : Obj1 t B w.heap.size w A p) (hg : g' = g ∨ w.heap.size ≤ g')
    (hn : n = (insL srt k p).length) (hown : w'.ownsRow B ts 1 (.slice (some ⟨g', 0, none⟩) n cap') n (svals.take k ++ .slice A p.length c :: svals.drop k)) : Qs ts t B w' vq (.slice (some ⟨g', 0, none⟩) n cap') queue (insL srt k p) qvals (svals.take k ++ .slice A p.length c :: svals.drop k) := by
  have hkt : KeepT t w w' := hc.keepT hne rfl h.s
  have hdq : vq.ownBlock ≠ some g := fun e => h.d g e rfl
  refine ⟨⟨own_chg h.q.own hc hdq, fun i hi => ?_, h.q.ne⟩, by rw [← hn]; exact hown, (h.r.kept hkt hc.size).ins hk ((hkt.obj hA).mono (Nat.le_refl _) hc.size), fun g0 hg0 e => ?_⟩
  · obtain ⟨A', c', h1, h2⟩ := h.q.row i hi
    exact ⟨A', c', h1, (hkt.obj h2).mono (Nat.le_refl _) hc.size⟩
  · simp [Value.ownBlock] at e
    subst e
    rcases hg with e | e
    · subst e; exact h.d _ hg0 rfl
    · have := (own_lt h.q.own hg0).2; omega
/-- Two lists of one row each. -/
theorem Qs.start2 {A A2 : Option Addr} {c c2 : Nat} {r : List Int} (hB : B ≤ w.heap.size) (hb : Below w.heap.size w w') (hs : g = w'.heap.size) (hq : LstV ts t B w' vq [r] [.slice A r.length c]) (hvq : ∀ g0, vq.ownBlock = some g0 → g0 < w'.heap.size) (hr2 : Obj1 t B w'.heap.size w' A2 r) :
    Qs ts t B (w'.alloc (.cells #[.slice A2 r.length c2] ts)) vq (.slice (some ⟨g, 0, none⟩) 1 1) [r] [r] [.slice A r.length c] [.slice A2 r.length c2] := by
  have h2 : Below w'.heap.size w' (w'.alloc (.cells #[.slice A2 r.length c2] ts)) := (Below.refl _ _).alloc (Nat.le_refl _) _
  subst hs
  refine ⟨hq.later h2, ⟨rfl, .inr ⟨w'.heap.size, 1, #[.slice A2 r.length c2], rfl, Nat.le_trans hB hb.size, heap_alloc_new _ _, Nat.le_refl _, by unfold maxLen; omega, by simp, by simp⟩⟩, ⟨rfl, fun i hi => ?_⟩, fun g0 hg0 e => ?_⟩
  · simp at hi
    subst hi
    exact ⟨A2, c2, rfl, (hr2.later h2).mono (Nat.le_refl _) h2.size⟩
  · simp [Value.ownBlock] at e
    have := hvq g0 hg0
    omega
end
end Go.Proofs.Ytbhlcfcmjildmaa
namespace Go.Proofs.Ytbhlcfcmjildmaa
open Go Go.RowKit
set_option maxHeartbeats 4000000

set_option maxRecDepth 100000 in
theorem doL_any (A : Option Addr) (n c : Nat) (f : List (List Int)) (B : Option Addr) (d : Nat) (s : List (List Int)) (C : Option Addr) (m e : Nat) (xs : List Int) (K : Nat) (w : World) (hz : ZArg 1048576 w A n f B n s) (hp : PMap f s) (hm : xs.length = m) (hr : Rd w C xs) (ht : Tup n xs) (hK : K + 1 < m) :
    Calls Try.prog 59 #[.agg #[.slice A n c, .slice B n d], .slice C m e, .int .i64 K] w fun e w' => ∃ A' c', e = .returned (.slice A' m c') ∧ Below w.heap.size w w' ∧ Res 2 w.heap.size w' A' (mvL (leH f) (leH s) xs K) := by
  have h12 := (hz.small hp).2
  have hm12 : m ≤ 12 := by rw [← hm]; exact ht.1
  have HM := hide hm
  obtain ⟨bt, ot, rfl, hbt, hct⟩ := hr (by omega)
  have HCT := hide hct
  have hx := ht.el (j := K) (by omega)
  have hy := ht.el (j := K + 1) (by omega)
  have ex := hct K (by omega)
  have ey := hct (K + 1) (by omega)
  rw [hx.1] at ex
  rw [hy.1] at ey
  have hxn := hx.2
  have hyn := hy.2
  have hml : mvL (leH f) (leH s) xs K = (xs.set K ((ap f (elN xs K) (elN xs (K + 1)) : Nat) : Int)).set (K + 1) ((ap s (elN xs K) (elN xs (K + 1)) : Nat) : Int) := rfl
  obtain ⟨x, hxe⟩ : ∃ x, elN xs K = x := ⟨_, rfl⟩
  obtain ⟨y, hye⟩ : ∃ y, elN xs (K + 1) = y := ⟨_, rfl⟩
  rw [hxe] at ex hxn hml
  rw [hye] at ey hyn hml
  obtain ⟨bA, oA, bB, oB, bx, ox, cx, bY, oy, cy, eA, eB, j1, j2, j3, j4, l1, l2, l3, l4⟩ := hz.reads hp hxn hyn
  obtain ⟨u, hu⟩ : ∃ u, ap f x y = u := ⟨_, rfl⟩
  obtain ⟨v, hv⟩ : ∃ v, ap s x y = v := ⟨_, rfl⟩
  rw [hu] at j3 hml
  rw [hv] at j4 hml
  rw [hml]
  subst eA
  subst eB
  obtain ⟨K1, hK1⟩ : ∃ K1, K + 1 = K1 := ⟨_, rfl⟩
  rw [hK1] at hK ey ⊢
  have HK1 := hide hK1
  have EX := hide ex
  have EY := hide ey
  have J1 := hide j1
  have J2 := hide j2
  have J3 := hide j3
  have J4 := hide j4
  have hxz : (x : Int) < n := by omega
  have hyz : (y : Int) < n := by omega
  have hKz : (K : Int) < m := by omega
  have hK1z : (K1 : Int) < m := by omega
  have hKn : (K : Int) + 1 = (K1 : Int) := by omega
  have hKw : IntKind.i64.wrap (K1 : Int) = (K1 : Int) := IntWalk.i64_in _ (by omega)
  have HB0 := hide ((Below.refl _ w).alloc (Nat.le_refl _) (Obj.cells #[Value.slice (some ⟨bA, oA, none⟩) n c, Value.slice (some ⟨bB, oB, none⟩) n d] 29))
  have HK0 := hide (Blk.new w 29 [.slice (some ⟨bA, oA, none⟩) n c, .slice (some ⟨bB, oB, none⟩) n d])
  have HSZ : Hid (w.heap.size < (w.alloc (Obj.cells #[Value.slice (some ⟨bA, oA, none⟩) n c, Value.slice (some ⟨bB, oB, none⟩) n d] 29)).heap.size) := hide HK0.out.lt
  clear hz hp hm hr ht hct hx hy ex ey j1 j2 j3 j4 hu hv hml hK1 hxe hye
  go_enter Try.func59, Try.ntmps59
  go_wp2_with fail
  refine calls_gen fun wa hwa => ?_
  rw [← hwa] at HB0 HK0 HSZ
  clear hwa
  refine (own_any bt ot m e xs _ HM.out (by omega) (by have := HB0.out.size; omega) (fun i hi => (HB0.out.cell (p := ⟨bt, ot + i, none⟩) hbt).trans (HCT.out i hi))).mono ?_
  rintro e w1 ⟨v5, rfl, hb1, ho5⟩
  obtain ⟨A5, c5, hv5, hr5⟩ := own_shape ho5
  subst hv5
  obtain ⟨g, rfl, hg, hown⟩ : ∃ g, A5 = some ⟨g, 0, none⟩ ∧ wa.heap.size ≤ g ∧ OwnB 2 w1 g xs := by
    rcases hr5 with ⟨_, h⟩ | h
    · exact absurd HM.out (by rw [h]; simp; omega)
    · exact h
  have HKL := hide (HK0.out.later hb1)
  have HB1 := hide (HB0.out.trans (hb1.mono HB0.out.size))
  have HOW := hide hown
  have hgw : w.heap.size < g := by have := HSZ.out; omega
  clear hb1 ho5 hown
  have hkl := HK0.out.lt
  have HK1_ : Hid (Blk w1 w.heap.size 29 [.slice (some ⟨bA, oA, none⟩) n c, .slice (some ⟨bB, oB, none⟩) n d]) := hide (HKL.out)
  have kf := HK1_.out.cell 0 _ rfl
  have ff0 := (HB1.out.cell (p := ⟨bt, ot + K, none⟩) hbt).trans EX.out
  have ff1 := (HB1.out.cell (p := ⟨bt, ot + K1, none⟩) hbt).trans EY.out
  have ff2 := (HB1.out.cell (p := ⟨bA, oA + x, none⟩) l1).trans J1.out
  have ff3 := (HB1.out.cell (p := ⟨bx, ox + y, none⟩) l3).trans J3.out
  have fg := HOW.out.cell (i := K) (by simp [HM.out]; omega)
  have fz := HOW.out.frozen K
  obtain ⟨old1, hold⟩ : ∃ o, List.getD xs K 0 = o := ⟨_, rfl⟩
  rw [hold] at fg
  clear hold
  go_wp2_with fail
  go_still_tail 17, (by kernel_rfl)
  change wpList _ _ _ _ _ w1.drew
  go_upto_region 3 with fail
  refine wp_gen fun w2 hw2 => ?_
  have HOW2 : Hid (OwnB 2 w2 g (xs.set K u)) := hide (by rw [hw2]; exact HOW.out.set K u (by simp [HM.out]; omega))
  have HB2 : Hid (Below w.heap.size w w2) := hide (by rw [hw2]; first | exact (HB1.out.setCell (p := ⟨g, K, none⟩) (by show w.heap.size ≤ g; omega) (.int .i64 u)).drew | exact HB1.out.setCell (p := ⟨g, K, none⟩) (by show w.heap.size ≤ g; omega) (.int .i64 u))
  have HK2_ : Hid (Blk w2 w.heap.size 29 [.slice (some ⟨bA, oA, none⟩) n c, .slice (some ⟨bB, oB, none⟩) n d]) := hide (by rw [hw2]; exact HK1_.out.far (p := ⟨g, K, none⟩) (by show w.heap.size ≠ g; omega) (.int .i64 u))
  clear hw2 kf fg fz ff0 ff1 ff2 ff3
  have kf := HK2_.out.cell 1 _ rfl
  have ff0 := (HB2.out.cell (p := ⟨bt, ot + K, none⟩) hbt).trans EX.out
  have ff1 := (HB2.out.cell (p := ⟨bt, ot + K1, none⟩) hbt).trans EY.out
  have ff2 := (HB2.out.cell (p := ⟨bB, oB + x, none⟩) l2).trans J2.out
  have ff3 := (HB2.out.cell (p := ⟨bY, oy + y, none⟩) l4).trans J4.out
  have fg := HOW2.out.cell (i := K1) (by simp [HM.out]; omega)
  have fz := HOW2.out.frozen K1
  obtain ⟨old2, hold⟩ : ∃ o, List.getD (xs.set K u) K1 0 = o := ⟨_, rfl⟩
  rw [hold] at fg
  clear hold
  go_wp2_with fail
  go_still_tail 18, (by kernel_rfl)
  change wpList _ _ _ _ _ w2.drew
  go_upto_region 4 with fail
  refine wp_gen fun w3 hw3 => ?_
  have HOW3 : Hid (OwnB 2 w3 g ((xs.set K u).set K1 v)) := hide (by rw [hw3]; exact HOW2.out.set K1 v (by simp [HM.out]; omega))
  have HB3 : Hid (Below w.heap.size w w3) := hide (by rw [hw3]; first | exact (HB2.out.setCell (p := ⟨g, K1, none⟩) (by show w.heap.size ≤ g; omega) (.int .i64 v)).drew | exact HB2.out.setCell (p := ⟨g, K1, none⟩) (by show w.heap.size ≤ g; omega) (.int .i64 v))
  have HK3_ : Hid (Blk w3 w.heap.size 29 [.slice (some ⟨bA, oA, none⟩) n c, .slice (some ⟨bB, oB, none⟩) n d]) := hide (by rw [hw3]; exact HK2_.out.far (p := ⟨g, K1, none⟩) (by show w.heap.size ≠ g; omega) (.int .i64 v))
  clear hw3 kf fg fz ff0 ff1 ff2 ff3
  go_wp2_with fail
  go_ret
  exact ⟨_, _, rfl, HB3.out, .inr ⟨g, rfl, by omega, HOW3.out⟩⟩
end Go.Proofs.Ytbhlcfcmjildmaa
