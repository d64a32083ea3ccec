import Derived.Test.YtcmoeapgpljeiaaHas
import Derived.Test.YtcmoeapgpljeiaaPMapF
import Derived.Test.YtcmoeapgpljeiaaMirF
import Derived.Test.YtcmoeapgpljeiaaMapI
import Derived.Test.YtcmoeapgpljeiaaLeadI
import Derived.Test.YtcmoeapgpljeiaaSizeI
import Derived.Test.YtcmoeapgpljeiaaReads
import Derived.Test.YtcmoeapgpljeiaaMapS
import Derived.Test.YtcmoeapgpljeiaaHeld
import Derived.Test.YtcmoeapgpljeiaaIn
import Derived.Test.YtcmoeapgpljeiaaPmoI
import Derived.Test.YtcmoeapgpljeiaaPairF
import Derived.Test.YtcmoeapgpljeiaaFb
import Derived.Deep.DeepCutAuto
import Derived.Test.YtcmoeapgpljeiaaZEnd
import Derived.Test.YtcmoeapgpljeiaaProg
import Derived.Test.YtcmoeapgpljeiaaBxs
import Derived.Deep.AppendLies
import Derived.Deep.RegionHeld3
import Derived.Deep.Cut
namespace Go.Proofs.Ytcmoeapgpljeiaa
open Go Go.RowKit
set_option maxHeartbeats 400000

theorem indexI_any (A : Option Addr) (n c : Nat) (xs : List Int) (v : Int) (w : World) (hn : xs.length = n) (hb : n ≤ 9223372036854775807) (hr : Rd w A xs) :
    Calls Try.prog 76 #[.slice A n c, .int .i64 v] w fun e w' => e = .returned (.int .i64 (ixOf xs v)) ∧ Quiet w w' := by
  have HN := hide hn
  clear hn
  go_enter Try.func76, Try.ntmps76
  go_wp2_with fail
  go_loopw [8] (fun i wr => ∃ k : Nat, k ≤ n ∧ i = .int .i64 k ∧ Quiet w wr ∧ v ∉ xs.take k) (fun i _ => n - (intOf i).toNat)
  case atStart => exact ⟨0, Nat.zero_le _, rfl, Quiet.refl _, by simp⟩
  case round =>
    obtain ⟨k, hk, rfl, hq, hno⟩ := hrel
    have HNO := hide hno
    have HQ := hide hq
    clear hno hq
    by_cases hlt : k < n
    · obtain ⟨b, o, rfl, hbw, hc⟩ := HQ.out.rd hr (by have := HN.out; omega)
      have hc1 := hc k (by have := HN.out; omega)
      have hl : k < xs.length := by have := HN.out; omega
      have HL := hide hl
      obtain ⟨x, hx⟩ : ∃ x, xs.getD k 0 = x := ⟨_, rfl⟩
      rw [hx] at hc1
      have HX := hide hx
      clear hx hc hl
      have hltz : (k : Int) < n := by omega
      by_cases hxv : x = v
      · have HXV := hide hxv
        have hxb : (v == x) = true := by simpa using hxv.symm
        clear hxv
        go_wp2_with fail
        go_ret
        have e := ixOf_at xs v k HL.out (HX.out.trans HXV.out) HNO.out
        exact ⟨by rw [e]; rfl, HQ.out⟩
      · have HXV := hide hxv
        have hxb : (v == x) = false := by simpa using fun h => hxv h.symm
        clear hxv
        go_wp2_with fail
        go_roundw
        case rel =>
          refine ⟨k + 1, by omega, by go_num, HQ.out, ?_⟩
          rw [List.take_succ_eq_append_getElem HL.out]
          intro h
          rcases List.mem_append.1 h with h | h
          · exact HNO.out h
          · have := HX.out
            have hl := HL.out
            simp [hl] at this
            simp [this] at h
            exact HXV.out h.symm
        case measure => simp [intOf]; omega
    · have hkn : k = n := by omega
      subst hkn
      go_wp2_with fail
      go_ret
      have h := HNO.out
      rw [List.take_of_length_le (by have := HN.out; omega)] at h
      exact ⟨by rw [ixOf_no xs v h]; rfl, HQ.out⟩
theorem ix_nonneg (xs : List Int) (v : Int) : (0 ≤ ixOf xs v) ↔ v ∈ xs := by
  unfold ixOf
  by_cases h : v ∈ xs
  · rw [if_pos h]; simp [h]
  · rw [if_neg h]; simp [h]

theorem containsI_any (A : Option Addr) (n c : Nat) (xs : List Int) (v : Int) (r : Bool) (w : World) (hn : xs.length = n) (hb : n ≤ 9223372036854775807) (hr : Rd w A xs) (hrr : r = true ↔ v ∈ xs) :
    Calls Try.prog 95 #[.slice A n c, .int .i64 v] w fun e w' => e = .returned (.bool r) ∧ Quiet w w' := by
  have HI := hide (ix_nonneg xs v)
  have HR := hide hrr
  obtain ⟨z, hz⟩ : ∃ z, ixOf xs v = z := ⟨_, rfl⟩
  have HZ := hide hz
  clear hrr
  by_cases hin : v ∈ xs
  · have h0 : 0 ≤ z := by rw [← hz]; exact HI.out.2 hin
    have hrt : r = true := HR.out.2 hin
    subst hrt
    clear hz hin
    go_enter Try.func95, Try.ntmps95
    go_wp2_with fail
    refine (indexI_any _ _ _ xs v _ hn hb hr).mono ?_
    rintro e w1 ⟨rfl, hq⟩
    rw [HZ.out]
    have HQ := hide hq
    clear hq
    go_wp2_with fail
    go_ret
    exact ⟨rfl, HQ.out⟩
  · have h0 : ¬ 0 ≤ z := by rw [← hz]; exact fun h => hin (HI.out.1 h)
    have hrt : r = false := by
      cases r
      · rfl
      · exact absurd (HR.out.1 rfl) hin
    subst hrt
    clear hz hin
    go_enter Try.func95, Try.ntmps95
    go_wp2_with fail
    refine (indexI_any _ _ _ xs v _ hn hb hr).mono ?_
    rintro e w1 ⟨rfl, hq⟩
    rw [HZ.out]
    have HQ := hide hq
    clear hq
    have h1 : decide (0 ≤ z) = false := by simpa using h0
    go_wp2_with fail
    go_ret
    exact ⟨rfl, HQ.out⟩
end Go.Proofs.Ytcmoeapgpljeiaa
namespace Go.Proofs.Ytcmoeapgpljeiaa
open Go Go.RowKit
/-- A strictly increasing list of elements, at least one. -/
def IncSet (n : Nat) (set : List Int) : Prop := (∀ i, i < set.length → (0 ≤ set.getD i 0 ∧ set.getD i 0 < (n : Int)) ∧ (0 < i → set.getD (i - 1) 0 < set.getD i 0)) ∧ 0 < set.length
def ClF (f s : List (List Int)) (set : List Int) : Prop := ∀ i k, i < set.length → k < set.length → ((ap f (set.getD i 0).toNat (set.getD k 0).toNat : Nat) : Int) ∈ set ∧ ((ap s (set.getD i 0).toNat (set.getD k 0).toNat : Nat) : Int) ∈ set
def CsRes (f s : List (List Int)) (set : List Int) (r : Bool) (code : Int) : Prop :=
  (PMap f s ∧ IncSet f.length set ∧ (r = true ↔ ClF f s set) ∧ code = 0) ∨ (PMap f s ∧ ¬ IncSet f.length set ∧ r = false ∧ code = 2) ∨ (¬ PMap f s ∧ r = false ∧ code = 1)
theorem CsRes.ex (f s : List (List Int)) (set : List Int) : ∃ r code, CsRes f s set r code := by
  by_cases h : PMap f s
  · by_cases h2 : IncSet f.length set
    · obtain ⟨r, hr⟩ := bool_of (ClF f s set)
      exact ⟨r, _, .inl ⟨h, h2, hr, rfl⟩⟩
    · exact ⟨_, _, .inr (.inl ⟨h, h2, rfl, rfl⟩)⟩
  · exact ⟨_, _, .inr (.inr ⟨h, rfl, rfl⟩)⟩
theorem IncSet.at {n : Nat} {set : List Int} (h : IncSet n set) {i : Nat} (hi : i < set.length) : ∃ j : Nat, set.getD i 0 = (j : Int) ∧ j < n := by
  have h1 := (h.1 i hi).1
  obtain ⟨j, hj⟩ := Int.eq_ofNat_of_zero_le h1.1
  exact ⟨j, hj, by omega⟩
/-- Such a list has at most n elements. -/
theorem IncSet.le {n : Nat} {set : List Int} (h : IncSet n set) : set.length ≤ n := by
  have h2 : ∀ i, i < set.length → (i : Int) ≤ set.getD i 0 := by
    intro i
    induction i with
    | zero => intro hi; exact (h.1 0 hi).1.1
    | succ i ih =>
      intro hi
      have h3 := ih (by omega)
      have h4 := (h.1 (i + 1) hi).2 (by omega)
      rw [Nat.add_sub_cancel] at h4
      omega
  have h5 := h2 (set.length - 1) (by have := h.2; omega)
  have h6 := (h.1 (set.length - 1) (by have := h.2; omega)).1.2
  have := h.2
  omega
end Go.Proofs.Ytcmoeapgpljeiaa
namespace Go.Proofs.Ytcmoeapgpljeiaa
open Go Go.RowKit
/-- A table on a closed set, its elements having their places as new numbers. -/
def sb1 (f : List (List Int)) (set : List Int) : Nat → Nat → Int := fun i k => ixOf set ((ap f (set.getD i 0).toNat (set.getD k 0).toNat : Nat) : Int)
def SubRes (f s : List (List Int)) (set : List Int) (zf zg : List (List Int)) (code : Int) : Prop :=
  (PMap f s ∧ IncSet f.length set ∧ ClF f s set ∧ zf = grid set.length (sb1 f set) ∧ zg = grid set.length (sb1 s set) ∧ code = 0) ∨ (PMap f s ∧ IncSet f.length set ∧ ¬ ClF f s set ∧ zf = [] ∧ zg = [] ∧ code = 5) ∨ (PMap f s ∧ ¬ IncSet f.length set ∧ zf = [] ∧ zg = [] ∧ code = 2) ∨ (¬ PMap f s ∧ zf = [] ∧ zg = [] ∧ code = 1)
theorem SubRes.ex (f s : List (List Int)) (set : List Int) : ∃ zf zg code, SubRes f s set zf zg code ∧ ZSz 1048576 zf zf.length zg zg.length := by
  by_cases h : PMap f s
  · by_cases h2 : IncSet f.length set
    · by_cases h3 : ClF f s set
      · exact ⟨_, _, _, .inl ⟨h, h2, h3, rfl, rfl, rfl⟩, grid_sz (by have := h2.le; have := h.1.2.1; omega) _ _⟩
      · exact ⟨_, _, _, .inr (.inl ⟨h, h2, h3, rfl, rfl, rfl⟩), nil_sz⟩
    · exact ⟨_, _, _, .inr (.inr (.inl ⟨h, h2, rfl, rfl, rfl⟩)), nil_sz⟩
  · exact ⟨_, _, _, .inr (.inr (.inr ⟨h, rfl, rfl, rfl⟩)), nil_sz⟩
theorem ixOf_in {xs : List Int} {v : Int} (h : v ∈ xs) : 0 ≤ ixOf xs v ∧ ixOf xs v < (xs.length : Int) := by
  unfold ixOf
  rw [if_pos h]
  have := List.idxOf_lt_length_of_mem h
  omega
end Go.Proofs.Ytcmoeapgpljeiaa
namespace Go.Proofs.Ytcmoeapgpljeiaa
open Go Go.RowKit
set_option maxHeartbeats 1000000

theorem inc_step {n j : Nat} {set : List Int} (h : ∀ i, i < j → (0 ≤ set.getD i 0 ∧ set.getD i 0 < (n : Int)) ∧ (0 < i → set.getD (i - 1) 0 < set.getD i 0)) (h1 : 0 ≤ set.getD j 0) (h2 : set.getD j 0 < (n : Int)) (h3 : 0 < j → set.getD (j - 1) 0 < set.getD j 0) : ∀ i, i < j + 1 → (0 ≤ set.getD i 0 ∧ set.getD i 0 < (n : Int)) ∧ (0 < i → set.getD (i - 1) 0 < set.getD i 0) := by
  intro i hi
  by_cases e : i = j
  · subst e; exact ⟨⟨h1, h2⟩, h3⟩
  · exact h i (by omega)

theorem hasSet_any (A : Option Addr) (n c : Nat) (B : Option Addr) (m d : Nat) (C : Option Addr) (k e : Nat) (set : List Int) (r : Bool) (w : World) (hn : n ≤ 1048576) (hk : set.length = k) (hkb : k ≤ 9223372036854775807) (hs : Rd w C set) (hr : r = true ↔ IncSet n set) :
    Calls Try.prog 53 #[.agg #[.slice A n c, .slice B m d], .slice C k e] w fun e w' => e = .returned (.bool r) ∧ Below w.heap.size w w' := by
  have HK := hide hk
  have HS := hide hs
  have HR := hide hr
  have HB0 := hide ((Below.refl _ w).alloc (Nat.le_refl _) (Obj.cells #[Value.slice A n c, Value.slice B m d] 29))
  have HK0 := hide (Blk.new w 29 [.slice A n c, .slice B m d])
  clear hk hs hr
  go_enter Try.func53, Try.ntmps53
  go_wp2_with fail
  go_loopw [9] (fun i wr => ∃ j : Nat, j ≤ k ∧ i = .int .i64 j ∧ Below w.heap.size w wr ∧ Blk wr w.heap.size 29 [.slice A n c, .slice B m d] ∧ ∀ i, i < j → (0 ≤ set.getD i 0 ∧ set.getD i 0 < (n : Int)) ∧ (0 < i → set.getD (i - 1) 0 < set.getD i 0)) (fun i _ => k - (intOf i).toNat)
  case atStart => exact ⟨0, Nat.zero_le _, rfl, HB0.out, HK0.out, fun i hi => absurd hi (Nat.not_lt_zero _)⟩
  case round =>
    obtain ⟨j, hj, rfl, hbe, hkk, hall⟩ := hrel
    have HB := hide hbe
    have HKK := hide hkk
    have HALL := hide hall
    clear hbe hkk hall
    have k0 := HKK.out.cell 0 _ rfl
    have k1 := HKK.out.cell 1 _ rfl
    by_cases hlt : j < k
    · have hjz : (j : Int) < k := by omega
      obtain ⟨b, o, rfl, hbw, hc⟩ := HS.out (by have := HK.out; omega)
      have hc1 := hc j (by have := HK.out; omega)
      obtain ⟨u, hu⟩ : ∃ u, set.getD j 0 = u := ⟨_, rfl⟩
      rw [hu] at hc1
      have HU := hide hu
      have hc2 : wr.cell? ⟨b, o + j, none⟩ = some (.int .i64 u) := (HB.out.cell (p := ⟨b, o + j, none⟩) hbw).trans hc1
      clear hu hc1
      have hno : ¬ ((0 ≤ u ∧ u < (n : Int)) ∧ (0 < j → set.getD (j - 1) 0 < u)) → r = false := fun h => by
        cases r
        · rfl
        · have h0 := (HR.out.1 rfl).1 j (by have := HK.out; omega)
          rw [HU.out] at h0
          exact absurd h0 h
      have HNO := hide hno
      clear hno
      by_cases h0 : u < 0
      · have hrf := HNO.out (fun h => by omega)
        subst hrf
        clear hc
        go_wp2_with fail
        go_ret
        exact ⟨rfl, HB.out⟩
      · have HC := hide hc
        have h00 : 0 ≤ u := by omega
        clear hc
        go_wp2_with fail
        refine (size_any _ _ _ _ _ _ _ hn).mono ?_
        rintro e w2 ⟨rfl, hb2⟩
        have HB2 := hide (HB.out.trans (hb2.mono HB.out.size))
        have HK2 := hide (HKK.out.later hb2)
        clear hb2 k0 k1 hc2
        by_cases h1 : (n : Int) ≤ u
        · have hrf := HNO.out (fun h => by omega)
          subst hrf
          go_wp2_with fail
          go_ret
          exact ⟨rfl, HB2.out⟩
        · have h11 : ¬ (n : Int) ≤ u := h1
          rcases j with _ | j
          · go_wp2_with fail
            go_roundw
            case rel => exact ⟨1, by omega, by go_num, HB2.out, HK2.out, inc_step HALL.out (by rw [HU.out]; omega) (by rw [HU.out]; omega) (fun h => absurd h (Nat.lt_irrefl _))⟩
            case measure => simp [intOf]; omega
          · have hp1 := HC.out j (by have := HK.out; omega)
            obtain ⟨v, hv⟩ : ∃ v, set.getD j 0 = v := ⟨_, rfl⟩
            rw [hv] at hp1
            have HV := hide hv
            have hp2 : w2.cell? ⟨b, o + j, none⟩ = some (.int .i64 v) := (HB2.out.cell (p := ⟨b, o + j, none⟩) hbw).trans hp1
            have hji : ((j + 1 : Nat) : Int) - 1 = (j : Int) := by omega
            have hj0 : (0 : Int) < ((j + 1 : Nat) : Int) := by omega
            clear hv hp1
            by_cases h2 : u ≤ v
            · have hrf := HNO.out (fun h => by have := h.2 (Nat.succ_pos _); rw [Nat.add_sub_cancel, HV.out] at this; omega)
              subst hrf
              go_wp2_with fail
              go_ret
              exact ⟨rfl, HB2.out⟩
            · have h22 : ¬ u ≤ v := h2
              go_wp2_with fail
              go_roundw
              case rel => exact ⟨j + 1 + 1, by omega, by go_num, HB2.out, HK2.out, inc_step HALL.out (by rw [HU.out]; omega) (by rw [HU.out]; omega) (fun _ => by rw [Nat.add_sub_cancel, HV.out, HU.out]; omega)⟩
              case measure => simp [intOf]; omega
    · have hjk : j = k := by omega
      subst hjk
      have hrv : r = decide (0 < j) := by
        by_cases h : 0 < j
        · have h1 : r = true := HR.out.2 ⟨fun i hi => HALL.out i (by have := HK.out; omega), by have := HK.out; omega⟩
          rw [h1]; simp [h]
        · have h1 : r = false := by
            cases r
            · rfl
            · have := (HR.out.1 rfl).2; have := HK.out; omega
          rw [h1]; simp [h]
      have HRV := hide hrv
      clear hrv
      go_wp2_with fail
      go_ret
      exact ⟨by rw [HRV.out]; rfl, HB.out⟩

theorem isClosed_any (A : Option Addr) (n c : Nat) (f : List (List Int)) (B : Option Addr) (m d : Nat) (s : List (List Int)) (C : Option Addr) (k e : Nat) (set : List Int) (r : Bool) (w : World) (hz : ZArg 1048576 w A n f B m s) (hp : PMap f s) (hk : set.length = k) (hi : IncSet n set) (hs : Rd w C set) (hr : r = true ↔ ClF f s set) :
    Calls Try.prog 54 #[.agg #[.slice A n c, .slice B m d], .slice C k e] w fun e w' => e = .returned (.bool r) ∧ Below w.heap.size w w' := by
  have HZ := hide hz
  have HP := hide hp
  have HK := hide hk
  have HI := hide hi
  have HS := hide hs
  have HR := hide hr
  have hkb : k ≤ 1048576 := by have h1 := hi.le; have h2 := hz.sz.nb; omega
  have HB0 := hide ((Below.refl _ w).alloc (Nat.le_refl _) (Obj.cells #[Value.slice A n c, Value.slice B m d] 29))
  have HK0 := hide (Blk.new w 29 [.slice A n c, .slice B m d])
  clear hz hp hk hi hs hr
  go_enter Try.func54, Try.ntmps54
  go_wp2_with fail
  go_loopw [12] (fun i wr => ∃ x : Nat, x ≤ k ∧ i = .int .i64 x ∧ Below w.heap.size w wr ∧ Blk wr w.heap.size 29 [.slice A n c, .slice B m d] ∧ ∀ i j, i < x → j < k → ((ap f (set.getD i 0).toNat (set.getD j 0).toNat : Nat) : Int) ∈ set ∧ ((ap s (set.getD i 0).toNat (set.getD j 0).toNat : Nat) : Int) ∈ set) (fun i _ => k - (intOf i).toNat)
  case atStart => exact ⟨0, Nat.zero_le _, rfl, HB0.out, HK0.out, fun i j hi => absurd hi (Nat.not_lt_zero _)⟩
  case round =>
    obtain ⟨x, hx, rfl, hbe, hkk, hall⟩ := hrel
    have HB := hide hbe
    have HKK := hide hkk
    have HALL := hide hall
    clear hbe hkk hall
    by_cases hlt : x < k
    · have hxz : (x : Int) < k := by omega
      obtain ⟨b, o, rfl, hbw, hc⟩ := HS.out (by have := HK.out; omega)
      obtain ⟨a, ha, han⟩ := HI.out.at (i := x) (by have := HK.out; omega)
      have hc1 := hc x (by have := HK.out; omega)
      rw [ha] at hc1
      have HA := hide ha
      have hc2 : wr.cell? ⟨b, o + x, none⟩ = some (.int .i64 a) := (HB.out.cell (p := ⟨b, o + x, none⟩) hbw).trans hc1
      have HC := hide hc
      clear ha hc1 hc
      go_wp2_with fail
      clear hc2
      obtain ⟨wo, rfl⟩ : ∃ wo : World, wo = wr := ⟨_, rfl⟩
      go_loopw [18] (fun i wi => ∃ y : Nat, y ≤ k ∧ i = .int .i64 y ∧ Below w.heap.size w wi ∧ Blk wi w.heap.size 29 [.slice A n c, .slice B m d] ∧ ∀ j, j < y → ((ap f a (set.getD j 0).toNat : Nat) : Int) ∈ set ∧ ((ap s a (set.getD j 0).toNat : Nat) : Int) ∈ set) (fun i _ => k - (intOf i).toNat)
      case atStart => exact ⟨0, Nat.zero_le _, rfl, HB.out, HKK.out, fun j hj => absurd hj (Nat.not_lt_zero _)⟩
      case round =>
        obtain ⟨y, hy, rfl, hbi, hki, halli⟩ := hrel
        have HBI := hide hbi
        have HKI := hide hki
        have HALLI := hide halli
        clear hbi hki halli
        by_cases hlty : y < k
        · have hyz : (y : Int) < k := by omega
          obtain ⟨g, hg, hgn⟩ := HI.out.at (i := y) (by have := HK.out; omega)
          have hd1 := HC.out y (by have := HK.out; omega)
          rw [hg] at hd1
          have HG := hide hg
          have hd2 : wr.cell? ⟨b, o + y, none⟩ = some (.int .i64 g) := (HBI.out.cell (p := ⟨b, o + y, none⟩) hbw).trans hd1
          have k0 := HKI.out.cell 0 _ rfl
          have k1 := HKI.out.cell 1 _ rfl
          obtain ⟨u, hu⟩ : ∃ u, ap f a g = u := ⟨_, rfl⟩
          obtain ⟨v, hv⟩ : ∃ v, ap s a g = v := ⟨_, rfl⟩
          have HU := hide hu
          have HV := hide hv
          have hno : ¬ ((u : Int) ∈ set ∧ (v : Int) ∈ set) → r = false := fun h => by
            cases r
            · rfl
            · have h0 := (HR.out.1 rfl) x y (by have := HK.out; omega) (by have := HK.out; omega)
              rw [HA.out, HG.out, Int.toNat_natCast, Int.toNat_natCast, HU.out, HV.out] at h0
              exact absurd h0 h
          have HNO := hide hno
          clear hg hd1 hu hv hno
          go_wp2_with fail
          refine calls_gen fun w3 hw3 => ?_
          have HB3 : Hid (Below w.heap.size w w3) := hide (by rw [hw3]; first | exact HBI.out.alloc HBI.out.size _ | exact HBI.out)
          have HK3 : Hid (Blk w3 w.heap.size 29 [.slice A n c, .slice B m d]) := hide (by rw [hw3]; first | exact HKI.out.alloc _ | exact HKI.out)
          refine (lead_any _ _ _ f _ _ _ s a g _ (HZ.out.later HB3.out) HP.out han hgn).mono ?_
          rintro e w4 ⟨rfl, hb4⟩
          rw [HU.out, HV.out]
          have HB4 := hide (HB3.out.trans (hb4.mono HB3.out.size))
          have HK4 := hide (HK3.out.later hb4)
          clear hb4 hw3 k0 k1 hd2
          go_wp2_with fail
          refine calls_gen fun w5 hw5 => ?_
          have HB5 : Hid (Below w.heap.size w w5) := hide (by rw [hw5]; exact HB4.out.alloc HB4.out.size _)
          have HK5 : Hid (Blk w5 w.heap.size 29 [.slice A n c, .slice B m d]) := hide (by rw [hw5]; exact HK4.out.alloc _)
          have HP5 : Hid (Blk w5 w4.heap.size 67 [.int .i64 u, .int .i64 v]) := hide (by rw [hw5]; exact Blk.new _ _ _)
          clear hw5
          by_cases hin1 : (u : Int) ∈ set
          · refine (containsI_any _ k e set u true _ HK.out (by omega) (HS.out.later HB5.out) (by simp [hin1])).mono ?_
            rintro e w6 ⟨rfl, hq6⟩
            have hb6 := hq6.below w5.heap.size
            have HB6 := hide (HB5.out.trans (hb6.mono HB5.out.size))
            have HK6 := hide (HK5.out.later hb6)
            have k2 := (HP5.out.later hb6).cell 0 _ rfl
            have k3 := (HP5.out.later hb6).cell 1 _ rfl
            clear hq6 hb6
            go_wp2_with fail
            clear k2 k3
            by_cases hin2 : (v : Int) ∈ set
            · have HIN := hide (And.intro hin1 hin2)
              refine (containsI_any _ k _ set v true _ HK.out (by omega) (HS.out.later HB6.out) (by simp [hin2])).mono ?_
              rintro e w7 ⟨rfl, hq7⟩
              have hb7 := hq7.below w6.heap.size
              have HB7 := hide (HB6.out.trans (hb7.mono HB6.out.size))
              have HK7 := hide (HK6.out.later hb7)
              clear hq7 hb7 hin1 hin2
              go_wp2_with fail
              go_roundw
              case rel =>
                refine ⟨y + 1, by omega, by go_num, HB7.out, HK7.out, fun j hj => ?_⟩
                by_cases e : j = y
                · subst e
                  rw [HG.out, Int.toNat_natCast, HU.out, HV.out]
                  exact HIN.out
                · exact HALLI.out j (by omega)
              case measure => simp [intOf]; omega
            · have hrf := HNO.out (fun h => hin2 h.2)
              subst hrf
              refine (containsI_any _ k _ set v false _ HK.out (by omega) (HS.out.later HB6.out) (by simp [hin2])).mono ?_
              rintro e w7 ⟨rfl, hq7⟩
              have HB7 := hide (HB6.out.trans (hq7.below _))
              clear hq7 hin1 hin2
              go_wp2_with fail
              go_ret
              exact ⟨rfl, HB7.out⟩
          · have hrf := HNO.out (fun h => hin1 h.1)
            subst hrf
            refine (containsI_any _ k _ set u false _ HK.out (by omega) (HS.out.later HB5.out) (by simp [hin1])).mono ?_
            rintro e w6 ⟨rfl, hq6⟩
            have HB6 := hide (HB5.out.trans (hq6.below _))
            clear hq6 hin1
            go_wp2_with fail
            go_ret
            exact ⟨rfl, HB6.out⟩
        · have hyk : y = k := by omega
          subst hyk
          go_wp2_with fail
          go_roundw
          case rel =>
            refine ⟨x + 1, by omega, by go_num, HBI.out, HKI.out, fun i j hi hj => ?_⟩
            by_cases e : i = x
            · subst e
              rw [HA.out, Int.toNat_natCast]
              exact HALLI.out j hj
            · exact HALL.out i j (by omega) hj
          case measure => simp [intOf]; omega
    · have hxk : x = k := by omega
      subst hxk
      have hrt : r = true := HR.out.2 (fun i j hi hj => HALL.out i j (by have := HK.out; omega) (by have := HK.out; omega))
      subst hrt
      go_wp2_with fail
      go_ret
      exact ⟨rfl, HB.out⟩

theorem csI_any (A : Option Addr) (n c : Nat) (f : List (List Int)) (B : Option Addr) (m d : Nat) (s : List (List Int)) (C : Option Addr) (k e : Nat) (set : List Int) (r : Bool) (code : Int) (w : World) (hz : ZArg 1048576 w A n f B m s) (hk : set.length = k) (hkb : k ≤ 1048576) (hs : Rd w C set) (hr : CsRes f s set r code) :
    Calls Try.prog 19 #[.agg #[.slice A n c, .slice B m d], .slice C k e] w fun e w' => e = .returned (.tuple #[.bool r, .int .i64 code]) ∧ Below w.heap.size w w' := by
  have hnb := hz.sz.nb
  have HZ := hide hz
  have HK := hide hk
  have HS := hide hs
  have hfl := hz.sz.fl
  have HB0 := hide ((Below.refl _ w).alloc (Nat.le_refl _) (Obj.cells #[Value.slice A n c, Value.slice B m d] 29))
  have HK0 := hide (Blk.new w 29 [.slice A n c, .slice B m d])
  have hpo : PMap f s ∨ ¬ PMap f s := Classical.em _
  rcases hpo with hp | hp
  · have HP := hide hp
    obtain ⟨r1, hr1⟩ := bool_of (IncSet f.length set)
    have HR1 := hide hr1
    rw [hfl] at hr1
    have HR1n := hide hr1
    have HR := hide hr
    clear hp hr hz hk hs hr1 hfl
    go_enter Try.func19, Try.ntmps19
    go_wp2_with fail
    refine (mapI_any _ _ _ f _ _ _ s true _ (HZ.out.later HB0.out) (by simp [HP.out])).mono ?_
    rintro e w1 ⟨rfl, hb1⟩
    have HB1 := hide (HB0.out.trans (hb1.mono HB0.out.size))
    have HK1 := hide (HK0.out.later hb1)
    have k0 := HK1.out.cell 0 _ rfl
    have k1 := HK1.out.cell 1 _ rfl
    clear hb1
    go_wp2_with fail
    refine (hasSet_any _ _ _ _ _ _ _ _ _ set r1 _ hnb HK.out (by omega) (HS.out.later HB1.out) HR1n.out).mono ?_
    rintro e w2 ⟨rfl, hb2⟩
    have HB2 := hide (HB1.out.trans (hb2.mono HB1.out.size))
    have HK2 := hide (HK1.out.later hb2)
    clear hb2 k0 k1
    have k0 := HK2.out.cell 0 _ rfl
    have k1 := HK2.out.cell 1 _ rfl
    cases r1
    · have hni : ¬ IncSet f.length set := fun h => by have := HR1.out.2 h; cases this
      rcases HR.out with ⟨_, h, _⟩ | ⟨_, _, rfl, rfl⟩ | ⟨h, _⟩
      · exact absurd h hni
      · clear hni
        go_wp2_with fail
        go_ret2
        exact ⟨rfl, HB2.out⟩
      · exact absurd HP.out h
    · have hin : IncSet f.length set := HR1.out.1 rfl
      rcases HR.out with ⟨_, _, hrr, rfl⟩ | ⟨_, h, _⟩ | ⟨h, _⟩
      · have HIN : Hid (IncSet n set) := hide (HR1n.out.1 rfl)
        have HRR := hide hrr
        clear hrr hin
        go_wp2_with fail
        refine (isClosed_any _ _ _ f _ _ _ s _ _ _ set r _ (HZ.out.later HB2.out) HP.out HK.out HIN.out (HS.out.later HB2.out) HRR.out).mono ?_
        rintro e w3 ⟨rfl, hb3⟩
        have HB3 := hide (HB2.out.trans (hb3.mono HB2.out.size))
        clear hb3 k0 k1
        go_wp2_with fail
        go_ret2
        exact ⟨rfl, HB3.out⟩
      · exact absurd hin h
      · exact absurd HP.out h
  · have HP := hide hp
    rcases hr with ⟨h, _⟩ | ⟨h, _⟩ | ⟨_, rfl, rfl⟩
    · exact absurd h hp
    · exact absurd h hp
    · clear hp hz hk hs
      go_enter Try.func19, Try.ntmps19
      go_wp2_with fail
      refine (mapI_any _ _ _ f _ _ _ s false _ (HZ.out.later HB0.out) (by simp [HP.out])).mono ?_
      rintro e w1 ⟨rfl, hb1⟩
      have HB1 := hide (HB0.out.trans (hb1.mono HB0.out.size))
      clear hb1
      go_wp2_with fail
      go_ret2
      exact ⟨rfl, HB1.out⟩
end Go.Proofs.Ytcmoeapgpljeiaa
namespace Go.Proofs.Ytcmoeapgpljeiaa
open Go Go.RowKit
set_option maxHeartbeats 1000000

theorem inc_stepS {n j : Nat} {set : List Int} (h : ∀ i, i < j → (0 ≤ set.getD i 0 ∧ set.getD i 0 < (n : Int)) ∧ (0 < i → set.getD (i - 1) 0 < set.getD i 0)) (h1 : 0 ≤ set.getD j 0) (h2 : set.getD j 0 < (n : Int)) (h3 : 0 < j → set.getD (j - 1) 0 < set.getD j 0) : ∀ i, i < j + 1 → (0 ≤ set.getD i 0 ∧ set.getD i 0 < (n : Int)) ∧ (0 < i → set.getD (i - 1) 0 < set.getD i 0) := by
  intro i hi
  by_cases e : i = j
  · subst e; exact ⟨⟨h1, h2⟩, h3⟩
  · exact h i (by omega)

set_option maxRecDepth 100000 in
theorem l02Set_any (n : Nat) (C : Option Addr) (k e : Nat) (set : List Int) (r : Bool) (w : World) (hn : n ≤ 1048576) (hk : set.length = k) (hkb : k ≤ 9223372036854775807) (hs : Rd w C set) (hr : r = true ↔ IncSet n set) :
    Calls Try.prog 92 #[.int .i64 n, .slice C k e] w fun e w' => e = .returned (.bool r) ∧ Below w.heap.size w w' := by
  have HK := hide hk
  have HS := hide hs
  have HR := hide hr
  have HB0 := hide (Below.refl w.heap.size w)
  clear hk hs hr
  go_enter Try.func92, Try.ntmps92
  go_wp2_with fail
  go_loopw [5] (fun i wr => ∃ j : Nat, j ≤ k ∧ i = .int .i64 j ∧ Below w.heap.size w wr ∧ ∀ i, i < j → (0 ≤ set.getD i 0 ∧ set.getD i 0 < (n : Int)) ∧ (0 < i → set.getD (i - 1) 0 < set.getD i 0)) (fun i _ => k - (intOf i).toNat)
  case atStart => exact ⟨0, Nat.zero_le _, rfl, HB0.out, fun i hi => absurd hi (Nat.not_lt_zero _)⟩
  case round =>
    obtain ⟨j, hj, rfl, hbe, hall⟩ := hrel
    have HB := hide hbe
    have HALL := hide hall
    clear hbe hall
    by_cases hlt : j < k
    · have hjz : (j : Int) < k := by omega
      obtain ⟨b, o, rfl, hbw, hc⟩ := HS.out (by have := HK.out; omega)
      have hc1 := hc j (by have := HK.out; omega)
      obtain ⟨u, hu⟩ : ∃ u, set.getD j 0 = u := ⟨_, rfl⟩
      rw [hu] at hc1
      have HU := hide hu
      have hc2 : wr.cell? ⟨b, o + j, none⟩ = some (.int .i64 u) := (HB.out.cell (p := ⟨b, o + j, none⟩) hbw).trans hc1
      have HU2 : Hid (w.cell? ⟨b, o + j, none⟩ = some (.int .i64 u)) := hide hc1
      clear hu hc1
      have hno : ¬ ((0 ≤ u ∧ u < (n : Int)) ∧ (0 < j → set.getD (j - 1) 0 < u)) → r = false := fun h => by
        cases r
        · rfl
        · have h0 := (HR.out.1 rfl).1 j (by have := HK.out; omega)
          rw [HU.out] at h0
          exact absurd h0 h
      have HNO := hide hno
      have HC := hide hc
      clear hno hc
      have hw1 : IntKind.i64.wrap ((n : Int) - 1) = (n : Int) - 1 := IntWalk.i64_in _ (by omega)
      by_cases h0 : 0 ≤ u ∧ u ≤ (n : Int) - 1
      · have HIN := hide h0
        clear h0
        by_cases hj0 : j = 0
        · have hjz0 : ¬ (0 : Int) < (j : Int) := by omega
          have hjn : decide (0 < j) = false := by simpa using hj0
          have HJ0 := hide hj0
          clear hj0
          go_wp2_with fail
          go_quiet ((go_at_call 97; exact quiet_call (in_any _ _ _ true _ (by simp [HIN.out.1, HIN.out.2]))))
          have HBc := hide (bdrewN HB.out nq)
          go_wp2_with fail
          go_roundw
          case rel => exact ⟨j + 1, by omega, by go_num, HBc.out, inc_stepS HALL.out (by rw [HU.out]; exact HIN.out.1) (by rw [HU.out]; have := HIN.out.2; omega) (fun h => absurd HJ0.out (by omega))⟩
          case measure => simp [intOf]; omega
        · obtain ⟨q, hq⟩ : ∃ q, j - 1 = q := ⟨_, rfl⟩
          have hp1 := HC.out q (by have := HK.out; omega)
          have HQ := hide hq
          obtain ⟨v, hv⟩ : ∃ v, set.getD q 0 = v := ⟨_, rfl⟩
          rw [hv] at hp1
          have HV := hide hv
          have hp2 : wr.cell? ⟨b, o + q, none⟩ = some (.int .i64 v) := (HB.out.cell (p := ⟨b, o + q, none⟩) hbw).trans hp1
          have hji : (j : Int) - 1 = (q : Int) := by omega
          have hjz0 : (0 : Int) < (j : Int) := by omega
          have hqk : (q : Int) < k := by omega
          have hjn : decide (0 < j) = true := by simp; omega
          have hw2 : IntKind.i64.wrap ((j : Int) - 1) = (q : Int) := by rw [hji]; exact IntWalk.i64_in _ (by omega)
          have HV2 : Hid (w.cell? ⟨b, o + q, none⟩ = some (.int .i64 v)) := hide hp1
          clear hv hp1 hq
          by_cases h2 : u ≤ v
          · have hrf := HNO.out (fun h => by have := h.2 (by omega); rw [HQ.out, HV.out] at this; omega)
            subst hrf
            go_wp2_with fail
            go_quiet ((go_at_call 97; exact quiet_call (in_any _ _ _ true _ (by simp [HIN.out.1, HIN.out.2]))))
            have HBc := hide (bdrewN HB.out nq)
            go_wp2_with fail
            go_ret
            exact ⟨rfl, HBc.out⟩
          · have h22 : ¬ u ≤ v := h2
            go_wp2_with fail
            go_quiet ((go_at_call 97; exact quiet_call (in_any _ _ _ true _ (by simp [HIN.out.1, HIN.out.2]))))
            have HBc := hide (bdrewN HB.out nq)
            go_wp2_with fail
            go_roundw
            case rel => exact ⟨j + 1, by omega, by go_num, HBc.out, inc_stepS HALL.out (by rw [HU.out]; exact HIN.out.1) (by rw [HU.out]; have := HIN.out.2; omega) (fun _ => by rw [HQ.out, HV.out, HU.out]; omega)⟩
            case measure => simp [intOf]; omega
      · have hrf := HNO.out (fun h => by omega)
        subst hrf
        have HIN := hide h0
        clear h0
        go_wp2_with fail
        go_quiet ((go_at_call 97; exact quiet_call (in_any _ _ _ false _ (by simpa using HIN.out))))
        have HBc := hide (bdrewN HB.out nq)
        go_wp2_with fail
        go_ret
        exact ⟨rfl, HBc.out⟩
    · have hjk : j = k := by omega
      subst hjk
      have hrv : r = decide (0 < j) := by
        by_cases h : 0 < j
        · have h1 : r = true := HR.out.2 ⟨fun i hi => HALL.out i (by have := HK.out; omega), by have := HK.out; omega⟩
          rw [h1]; simp [h]
        · have h1 : r = false := by
            cases r
            · rfl
            · have := (HR.out.1 rfl).2; have := HK.out; omega
          rw [h1]; simp [h]
      have HRV := hide hrv
      clear hrv
      go_wp2_with fail
      go_ret
      exact ⟨by rw [HRV.out]; rfl, HB.out⟩

set_option maxRecDepth 100000 in
theorem l02Closed_any (A : Option Addr) (n c : Nat) (f : List (List Int)) (B : Option Addr) (m d : Nat) (s : List (List Int)) (C : Option Addr) (k e : Nat) (set : List Int) (r : Bool) (w : World) (hz : ZArg 1048576 w A n f B m s) (hp : PMap f s) (hk : set.length = k) (hi : IncSet n set) (hs : Rd w C set) (hr : r = true ↔ ClF f s set) :
    Calls Try.prog 50 #[.agg #[.slice A n c, .slice B m d], .slice C k e] w fun e w' => e = .returned (.bool r) ∧ Below w.heap.size w w' := by
  have HZ := hide hz
  have HP := hide hp
  have HK := hide hk
  have HI := hide hi
  have HS := hide hs
  have HR := hide hr
  have hkb : k ≤ 1048576 := by have h1 := hi.le; have h2 := hz.sz.nb; omega
  have hnb := hz.sz.nb
  have HFL := hide hz.sz.fl
  obtain rfl := hz.same hp
  have HB0 := hide ((Below.refl _ w).alloc (Nat.le_refl _) (Obj.cells #[Value.slice A m c, Value.slice B m d] 29))
  have HK0 := hide (Blk.new w 29 [.slice A m c, .slice B m d])
  clear hz hp hk hi hs hr
  go_enter Try.func50, Try.ntmps50
  go_wp2_with fail
  go_loopw [5] (fun i wr => ∃ x : Nat, x ≤ k ∧ i = .int .i64 x ∧ Below w.heap.size w wr ∧ Blk wr w.heap.size 29 [.slice A m c, .slice B m d] ∧ ∀ i j, i < x → j < k → ((ap f (set.getD i 0).toNat (set.getD j 0).toNat : Nat) : Int) ∈ set ∧ ((ap s (set.getD i 0).toNat (set.getD j 0).toNat : Nat) : Int) ∈ set) (fun i _ => k - (intOf i).toNat)
  case atStart => exact ⟨0, Nat.zero_le _, rfl, HB0.out, HK0.out, fun i j hi => absurd hi (Nat.not_lt_zero _)⟩
  case round =>
    obtain ⟨x, hx, rfl, hbe, hkk, hall⟩ := hrel
    have HB := hide hbe
    have HKK := hide hkk
    have HALL := hide hall
    clear hbe hkk hall
    by_cases hlt : x < k
    · have hxz : (x : Int) < k := by omega
      obtain ⟨b, o, rfl, hbw, hc⟩ := HS.out (by have := HK.out; omega)
      obtain ⟨a, ha, han⟩ := HI.out.at (i := x) (by have := HK.out; omega)
      have hc1 := hc x (by have := HK.out; omega)
      rw [ha] at hc1
      have HA := hide ha
      have HC1 := hide hc1
      have HC := hide hc
      clear ha hc1 hc
      go_wp2_with fail
      obtain ⟨wo, rfl⟩ : ∃ wo : World, wo = wr := ⟨_, rfl⟩
      go_loopw [6] (fun i wi => ∃ y : Nat, y ≤ k ∧ i = .int .i64 y ∧ Below w.heap.size w wi ∧ Blk wi w.heap.size 29 [.slice A m c, .slice B m d] ∧ ∀ j, j < y → ((ap f a (set.getD j 0).toNat : Nat) : Int) ∈ set ∧ ((ap s a (set.getD j 0).toNat : Nat) : Int) ∈ set) (fun i _ => k - (intOf i).toNat)
      case atStart => exact ⟨0, Nat.zero_le _, rfl, HB.out, HKK.out, fun j hj => absurd hj (Nat.not_lt_zero _)⟩
      case round =>
        obtain ⟨y, hy, rfl, hbi, hki, halli⟩ := hrel
        have HBI := hide hbi
        have HKI := hide hki
        have HALLI := hide halli
        clear hbi hki halli
        by_cases hlty : y < k
        · have hyz : (y : Int) < k := by omega
          obtain ⟨g, hg, hgn⟩ := HI.out.at (i := y) (by have := HK.out; omega)
          have hd1 := HC.out y (by have := HK.out; omega)
          rw [hg] at hd1
          have HG := hide hg
          have hd2 : wr.cell? ⟨b, o + y, none⟩ = some (.int .i64 g) := (HBI.out.cell (p := ⟨b, o + y, none⟩) hbw).trans hd1
          have hd3 : wr.cell? ⟨b, o + x, none⟩ = some (.int .i64 a) := (HBI.out.cell (p := ⟨b, o + x, none⟩) hbw).trans HC1.out
          have k0 := HKI.out.cell 0 _ rfl
          have k1 := HKI.out.cell 1 _ rfl
          obtain ⟨b1, o1, b2, o2, bx, ox, cx, by', oy, cy, rfl, rfl, h1, h2, h3, h4, _, _, _, _⟩ := (HZ.out.later HBI.out).reads HP.out han hgn
          obtain ⟨u, hu⟩ : ∃ u, ap f a g = u := ⟨_, rfl⟩
          obtain ⟨v, hv⟩ : ∃ v, ap s a g = v := ⟨_, rfl⟩
          rw [hu] at h3
          rw [hv] at h4
          have HU := hide hu
          have HV := hide hv
          have hgz : (g : Int) < m := by omega
          have haz : (a : Int) < m := by omega
          have hno : ¬ ((u : Int) ∈ set ∧ (v : Int) ∈ set) → r = false := fun h => by
            cases r
            · rfl
            · have h0 := (HR.out.1 rfl) x y (by have := HK.out; omega) (by have := HK.out; omega)
              rw [HA.out, HG.out, Int.toNat_natCast, Int.toNat_natCast, HU.out, HV.out] at h0
              exact absurd h0 h
          have HNO := hide hno
          have HRS := hide (HS.out.later HBI.out)
          clear hg hd1 hu hv hno
          by_cases hin1 : (u : Int) ∈ set
          · have HI1 := hide hin1
            have hd1 : decide ((u : Int) ∈ set) = true := by simpa using hin1
            by_cases hin2 : (v : Int) ∈ set
            · have HI2 := hide hin2
              have hd2' : decide ((v : Int) ∈ set) = true := by simpa using hin2
              clear hin1 hin2
              go_wp2_with fail
              go_quiet ((go_at_call 93; exact quiet_call (has_any _ _ _ set _ _ _ HK.out (by omega) HRS.out decide_eq_true_iff)))
              have HBN := hide (bdrewN HBI.out nq)
              have HKN := hide (HKI.out.drewN nq)
              clear h1 h2 h3 h4 k0 k1 hd2 hd3
              go_wp2_with fail
              go_roundw
              case rel =>
                refine ⟨y + 1, by omega, by go_num, HBN.out, HKN.out, fun j hj => ?_⟩
                by_cases e : j = y
                · subst e
                  rw [HG.out, Int.toNat_natCast, HU.out, HV.out]
                  exact ⟨HI1.out, HI2.out⟩
                · exact HALLI.out j (by omega)
              case measure => simp [intOf]; omega
            · have HI2 := hide hin2
              have hd2' : decide ((v : Int) ∈ set) = false := by simpa using hin2
              have hrf := HNO.out (fun h => hin2 h.2)
              subst hrf
              clear hin1 hin2
              go_wp2_with fail
              go_quiet ((go_at_call 93; exact quiet_call (has_any _ _ _ set _ _ _ HK.out (by omega) HRS.out decide_eq_true_iff)))
              have HBN := hide (bdrewN HBI.out nq)
              go_wp2_with fail
              go_ret
              exact ⟨rfl, HBN.out⟩
          · have HI1 := hide hin1
            have hd1 : decide ((u : Int) ∈ set) = false := by simpa using hin1
            have hrf := HNO.out (fun h => hin1 h.1)
            subst hrf
            clear hin1
            go_wp2_with fail
            go_quiet ((go_at_call 93; exact quiet_call (has_any _ _ _ set _ _ _ HK.out (by omega) HRS.out decide_eq_true_iff)))
            have HBN := hide (bdrewN HBI.out nq)
            go_wp2_with fail
            go_ret
            exact ⟨rfl, HBN.out⟩
        · have hyk : y = k := by omega
          subst hyk
          go_wp2_with fail
          go_roundw
          case rel =>
            refine ⟨x + 1, by omega, by go_num, HBI.out, HKI.out, fun i j hi hj => ?_⟩
            by_cases e : i = x
            · subst e
              rw [HA.out, Int.toNat_natCast]
              exact HALLI.out j hj
            · exact HALL.out i j (by omega) hj
          case measure => simp [intOf]; omega
    · have hxk : x = k := by omega
      subst hxk
      have hrt : r = true := HR.out.2 (fun i j hi hj => HALL.out i j (by have := HK.out; omega) (by have := HK.out; omega))
      subst hrt
      go_wp2_with fail
      go_ret
      exact ⟨rfl, HB.out⟩
end Go.Proofs.Ytcmoeapgpljeiaa
namespace Go.Proofs.Ytcmoeapgpljeiaa
open Go Go.RowKit
set_option maxHeartbeats 1000000

def ScRes (f s : List (List Int)) (set : List Int) (code : Int) : Prop :=
  (PMap f s ∧ IncSet f.length set ∧ code = 0) ∨ (PMap f s ∧ ¬ IncSet f.length set ∧ code = 2) ∨ (¬ PMap f s ∧ code = 1)

theorem setCode_any (A : Option Addr) (n c : Nat) (f : List (List Int)) (B : Option Addr) (m d : Nat) (s : List (List Int)) (C : Option Addr) (k e : Nat) (set : List Int) (code : Int) (w : World) (hz : ZArg 1048576 w A n f B m s) (hk : set.length = k) (hkb : k ≤ 1048576) (hs : Rd w C set) (hr : ScRes f s set code) :
    Calls Try.prog 49 #[.agg #[.slice A n c, .slice B m d], .slice C k e] w fun e w' => e = .returned (.int .i64 code) ∧ Below w.heap.size w w' := by
  have hnb := hz.sz.nb
  have HZ := hide hz
  have HK := hide hk
  have HS := hide hs
  have hfl := hz.sz.fl
  have HB0 := hide ((Below.refl _ w).alloc (Nat.le_refl _) (Obj.cells #[Value.slice A n c, Value.slice B m d] 29))
  have HK0 := hide (Blk.new w 29 [.slice A n c, .slice B m d])
  have hpo : PMap f s ∨ ¬ PMap f s := Classical.em _
  rcases hpo with hp | hp
  · have HP := hide hp
    obtain ⟨r1, hr1⟩ := bool_of (IncSet f.length set)
    have HR1 := hide hr1
    rw [hfl] at hr1
    have HR1n := hide hr1
    have HR := hide hr
    clear hp hr hz hk hs hr1 hfl
    go_enter Try.func49, Try.ntmps49
    go_wp2_with fail
    refine (mapS_any _ _ _ f _ _ _ s true _ (HZ.out.later HB0.out) (by simp [HP.out])).mono ?_
    rintro e w1 ⟨rfl, hb1⟩
    have HB1 := hide (HB0.out.trans (hb1.mono HB0.out.size))
    have HK1 := hide (HK0.out.later hb1)
    have k0 := HK1.out.cell 0 _ rfl
    have k1 := HK1.out.cell 1 _ rfl
    clear hb1
    go_wp2_with fail
    refine (l02Set_any n _ _ _ set r1 _ hnb HK.out (by omega) (HS.out.later HB1.out) HR1n.out).mono ?_
    rintro e w2 ⟨rfl, hb2⟩
    have HB2 := hide (HB1.out.trans (hb2.mono HB1.out.size))
    clear hb2 k0 k1
    cases r1
    · have hni : ¬ IncSet f.length set := fun h => by have := HR1.out.2 h; cases this
      rcases HR.out with ⟨_, h, _⟩ | ⟨_, _, rfl⟩ | ⟨h, _⟩
      · exact absurd h hni
      · clear hni
        go_wp2_with fail
        go_ret
        exact ⟨rfl, HB2.out⟩
      · exact absurd HP.out h
    · have hin : IncSet f.length set := HR1.out.1 rfl
      rcases HR.out with ⟨_, _, rfl⟩ | ⟨_, h, _⟩ | ⟨h, _⟩
      · clear hin
        go_wp2_with fail
        go_ret
        exact ⟨rfl, HB2.out⟩
      · exact absurd hin h
      · exact absurd HP.out h
  · have HP := hide hp
    rcases hr with ⟨h, _⟩ | ⟨h, _⟩ | ⟨_, rfl⟩
    · exact absurd h hp
    · exact absurd h hp
    · clear hp hz hk hs
      go_enter Try.func49, Try.ntmps49
      go_wp2_with fail
      refine (mapS_any _ _ _ f _ _ _ s false _ (HZ.out.later HB0.out) (by simp [HP.out])).mono ?_
      rintro e w1 ⟨rfl, hb1⟩
      have HB1 := hide (HB0.out.trans (hb1.mono HB0.out.size))
      clear hb1
      go_wp2_with fail
      go_ret
      exact ⟨rfl, HB1.out⟩

theorem csS_any (A : Option Addr) (n c : Nat) (f : List (List Int)) (B : Option Addr) (m d : Nat) (s : List (List Int)) (C : Option Addr) (k e : Nat) (set : List Int) (r : Bool) (code : Int) (w : World) (hz : ZArg 1048576 w A n f B m s) (hk : set.length = k) (hkb : k ≤ 1048576) (hs : Rd w C set) (hr : CsRes f s set r code) :
    Calls Try.prog 16 #[.agg #[.slice A n c, .slice B m d], .slice C k e] w fun e w' => e = .returned (.tuple #[.bool r, .int .i64 code]) ∧ Below w.heap.size w w' := by
  have HZ := hide hz
  have HK := hide hk
  have HS := hide hs
  have hfl := hz.sz.fl
  have HB0 := hide ((Below.refl _ w).alloc (Nat.le_refl _) (Obj.cells #[Value.slice A n c, Value.slice B m d] 29))
  have HK0 := hide (Blk.new w 29 [.slice A n c, .slice B m d])
  rcases hr with ⟨hp, hi, hrr, rfl⟩ | ⟨hp, hi, rfl, rfl⟩ | ⟨hp, rfl, rfl⟩
  · have HSC : Hid (ScRes f s set 0) := hide (.inl ⟨hp, hi, rfl⟩)
    have HP := hide hp
    rw [hfl] at hi
    have HI := hide hi
    have HRR := hide hrr
    clear hz hk hs hp hi hrr hfl
    go_enter Try.func16, Try.ntmps16
    go_wp2_with fail
    refine (setCode_any _ _ _ f _ _ _ s _ _ _ set 0 _ (HZ.out.later HB0.out) HK.out hkb (HS.out.later HB0.out) HSC.out).mono ?_
    rintro e w1 ⟨rfl, hb1⟩
    have HB1 := hide (HB0.out.trans (hb1.mono HB0.out.size))
    have HK1 := hide (HK0.out.later hb1)
    have k0 := HK1.out.cell 0 _ rfl
    have k1 := HK1.out.cell 1 _ rfl
    clear hb1
    go_wp2_with fail
    refine (l02Closed_any _ _ _ f _ _ _ s _ _ _ set r _ (HZ.out.later HB1.out) HP.out HK.out HI.out (HS.out.later HB1.out) HRR.out).mono ?_
    rintro e w3 ⟨rfl, hb3⟩
    have HB3 := hide (HB1.out.trans (hb3.mono HB1.out.size))
    clear hb3 k0 k1
    go_wp2_with fail
    go_ret2
    exact ⟨rfl, HB3.out⟩
  · have HSC : Hid (ScRes f s set 2) := hide (.inr (.inl ⟨hp, hi, rfl⟩))
    clear hz hk hs hp hi hfl
    go_enter Try.func16, Try.ntmps16
    go_wp2_with fail
    refine (setCode_any _ _ _ f _ _ _ s _ _ _ set 2 _ (HZ.out.later HB0.out) HK.out hkb (HS.out.later HB0.out) HSC.out).mono ?_
    rintro e w1 ⟨rfl, hb1⟩
    have HB1 := hide (HB0.out.trans (hb1.mono HB0.out.size))
    clear hb1
    go_wp2_with fail
    go_ret2
    exact ⟨rfl, HB1.out⟩
  · have HSC : Hid (ScRes f s set 1) := hide (.inr (.inr ⟨hp, rfl⟩))
    clear hz hk hs hp hfl
    go_enter Try.func16, Try.ntmps16
    go_wp2_with fail
    refine (setCode_any _ _ _ f _ _ _ s _ _ _ set 1 _ (HZ.out.later HB0.out) HK.out hkb (HS.out.later HB0.out) HSC.out).mono ?_
    rintro e w1 ⟨rfl, hb1⟩
    have HB1 := hide (HB0.out.trans (hb1.mono HB0.out.size))
    clear hb1
    go_wp2_with fail
    go_ret2
    exact ⟨rfl, HB1.out⟩
end Go.Proofs.Ytcmoeapgpljeiaa
namespace Go.Proofs.Ytcmoeapgpljeiaa
open Go Go.RowKit
set_option maxHeartbeats 1000000

set_option maxRecDepth 100000 in
theorem sbC_any (A : Option Addr) (n c : Nat) (f : List (List Int)) (B : Option Addr) (m d : Nat) (s : List (List Int)) (C : Option Addr) (k e : Nat) (set : List Int) (b1 b2 : Nat) (w : World) (hz : ZArg 1048576 w A n f B m s) (hp : PMap f s) (hkl : set.length = k) (hi : IncSet n set) (hcl : ClF f s set) (hs : Rd w C set)
    (hk1 : Blk w b1 29 [.slice A n c, .slice B m d]) (hk2 : Blk w b2 25 [.slice C k e]) :
    PairFn Try.prog 75 #[.pointer (some ⟨b1, 0, none⟩), .pointer (some ⟨b2, 0, none⟩)] k (sb1 f set) (sb1 s set) w := by
  intro W x y hx hy hb
  have HZ := hide (hz.later hb)
  have HK1 := hide (hk1.later hb)
  have HP := hide hp
  have HKL := hide hkl
  have HFL := hide hz.sz.fl
  have hsm := hz.small hp
  have hle := hi.le
  obtain ⟨bs, os, rfl, hbs, hcs⟩ := hs (by omega)
  have HK2 := hide (hk2.later hb)
  obtain ⟨a, ha, han⟩ := hi.at (i := x) (by omega)
  obtain ⟨g, hg, hgn⟩ := hi.at (i := y) (by omega)
  have hcx := hcs x (by omega)
  have hcy := hcs y (by omega)
  rw [ha] at hcx
  rw [hg] at hcy
  have HRS := hide (hs.later hb)
  have HCX : Hid (W.cell? ⟨bs, os + x, none⟩ = some (.int .i64 a)) := hide ((hb.cell (p := ⟨bs, os + x, none⟩) hbs).trans hcx)
  have HCY : Hid (W.cell? ⟨bs, os + y, none⟩ = some (.int .i64 g)) := hide ((hb.cell (p := ⟨bs, os + y, none⟩) hbs).trans hcy)
  have hbsW : bs < W.heap.size := Nat.lt_of_lt_of_le hbs hb.size
  have hc2 := hcl x y (by omega) (by omega)
  rw [ha, hg, Int.toNat_natCast, Int.toNat_natCast] at hc2
  have e1 : sb1 f set x y = ixOf set ((ap f a g : Nat) : Int) := by unfold sb1; rw [ha, hg, Int.toNat_natCast, Int.toNat_natCast]
  have e2 : sb1 s set x y = ixOf set ((ap s a g : Nat) : Int) := by unfold sb1; rw [ha, hg, Int.toNat_natCast, Int.toNat_natCast]
  show Calls Try.prog 75 #[.agg #[.int .i64 x, .int .i64 y], .pointer (some ⟨b1, 0, none⟩), .pointer (some ⟨b2, 0, none⟩)] W _
  rw [e1, e2]
  obtain ⟨u, hu⟩ : ∃ u, ap f a g = u := ⟨_, rfl⟩
  obtain ⟨v, hv⟩ : ∃ v, ap s a g = v := ⟨_, rfl⟩
  rw [hu] at hc2 ⊢
  rw [hv] at hc2 ⊢
  have HU := hide hu
  have HV := hide hv
  have i1 := ixOf_in hc2.1
  have i2 := ixOf_in hc2.2
  obtain ⟨r1, hr1⟩ : ∃ r, ixOf set (u : Int) = r := ⟨_, rfl⟩
  obtain ⟨r2, hr2⟩ : ∃ r, ixOf set (v : Int) = r := ⟨_, rfl⟩
  rw [hr1] at i1 ⊢
  rw [hr2] at i2 ⊢
  have HR1 := hide hr1
  have HR2 := hide hr2
  have hk12 : k ≤ 12 := by omega
  have hxz : (x : Int) < k := by omega
  have hyz : (y : Int) < k := by omega
  have hxz0 : (0 : Int) ≤ x := by omega
  have hyz0 : (0 : Int) ≤ y := by omega
  have HA := hide (And.intro han hgn)
  clear hz hp hi hcl hs hk1 hk2 hb hcs ha hg hcx hcy hc2 e1 e2 hu hv hr1 hr2 hx hy hle hbs hkl han hgn hsm i1 i2
  go_enter Try.func75, Try.ntmps75
  go_wp2_with fail
  refine wp_gen fun w1 hw1 => ?_
  have hb1' : Below W.heap.size W w1 := by rw [hw1]; exact ((Below.refl _ _).alloc (Nat.le_refl _) _).alloc (by simp) _
  have hq1 : Blk w1 W.heap.size 67 [.int .i64 x, .int .i64 y] := by rw [hw1]; exact (Blk.new _ _ _).alloc _
  have hr1 : Blk w1 (W.heap.size + 1) 67 [.int .i64 0, .int .i64 0] := by rw [hw1]; have h := Blk.new (W.alloc (Obj.cells #[Value.int IntKind.i64 x, Value.int IntKind.i64 y] 67)) 67 [.int .i64 0, .int .i64 0]; simpa using h
  have HF : Hid (FB W w1 (w1.heap.size - 1) [(W.heap.size + 1, 67, [.int .i64 0, .int .i64 0]), (W.heap.size, 67, [.int .i64 x, .int .i64 y]), (b1, 29, [.slice A n c, .slice B m d]), (b2, 25, [.slice (some ⟨bs, os, none⟩) k e])]) := hide (FB.of hb1' hq1.lt (by
    have a1 := HK1.out.later hb1'
    have a2 := HK2.out.later hb1'
    simp only [List.forall_mem_cons]
    exact ⟨hr1, hq1, a1, a2, fun q hq => absurd hq (List.not_mem_nil)⟩))
  clear hw1 hb1' hq1 hr1
  have s0 : w1.cell? ⟨bs, os + x, none⟩ = some (.int .i64 a) := (HF.out.below.cell (p := ⟨bs, os + x, none⟩) hbsW).trans HCX.out
  have s1 : w1.cell? ⟨bs, os + y, none⟩ = some (.int .i64 g) := (HF.out.below.cell (p := ⟨bs, os + y, none⟩) hbsW).trans HCY.out
  have nb1 : w1.heap.size ≠ bs := by have := HF.out.below.size; omega
  have nb2 := nb1.symm
  go_cut [5] (fun vv wx => ∃ L, vv = .pointer (some ⟨L, 0, none⟩) ∧ W.heap.size + 1 < L ∧ FB W wx L ((L, 67, [.int .i64 u, .int .i64 v]) :: [(W.heap.size + 1, 67, [.int .i64 0, .int .i64 0]), (W.heap.size, 67, [.int .i64 x, .int .i64 y]), (b1, 29, [.slice A n c, .slice B m d]), (b2, 25, [.slice (some ⟨bs, os, none⟩) k e])]))
  case first =>
    have HPB : Hid True := hide trivial
    have k0 := (HF.out.blk (b := b1) (t := 29) (cs := [.slice A n c, .slice B m d]) (by simp)).cell 0 _ rfl
    have k1 := (HF.out.blk (b := b1) (t := 29) (cs := [.slice A n c, .slice B m d]) (by simp)).cell 1 _ rfl
    have k2 := (HF.out.blk (b := W.heap.size) (t := 67) (cs := [.int .i64 x, .int .i64 y]) (by simp)).cell 0 _ rfl
    have k3 := (HF.out.blk (b := W.heap.size) (t := 67) (cs := [.int .i64 x, .int .i64 y]) (by simp)).cell 1 _ rfl
    have k4 := (HF.out.blk (b := b2) (t := 25) (cs := [.slice (some ⟨bs, os, none⟩) k e]) (by simp)).cell 0 _ rfl
    have gn0 : w1.heap.size ≠ b1 := (by have h1 := HF.out.sz; have h2 := HF.out.le (b := b1) (t := 29) (cs := [.slice A n c, .slice B m d]) (by simp); omega)
    have gm0 := gn0.symm
    have gn1 : w1.heap.size ≠ W.heap.size := (by have h1 := HF.out.sz; have h2 := HF.out.le (b := W.heap.size) (t := 67) (cs := [.int .i64 x, .int .i64 y]) (by simp); omega)
    have gm1 := gn1.symm
    have gn2 : w1.heap.size ≠ b2 := (by have h1 := HF.out.sz; have h2 := HF.out.le (b := b2) (t := 25) (cs := [.slice (some ⟨bs, os, none⟩) k e]) (by simp); omega)
    have gm2 := gn2.symm
    go_region_held3 (fun w' => w'.cell? ⟨b1, 0, none⟩ = some (.slice A n c) ∧ w'.cell? ⟨b1, 1, none⟩ = some (.slice B m d) ∧ w'.cell? ⟨W.heap.size, 0, none⟩ = some (.int .i64 x) ∧ w'.cell? ⟨W.heap.size, 1, none⟩ = some (.int .i64 y) ∧ w'.cell? ⟨b2, 0, none⟩ = some (.slice (some ⟨bs, os, none⟩) k e) ∧ w'.cell? ⟨bs, os + x, none⟩ = some (.int .i64 a) ∧ w'.cell? ⟨bs, os + y, none⟩ = some (.int .i64 g)) (first | exact ⟨k0, k1, k2, k3, k4, s0, s1⟩ | go_keep) (first | (go_at_call 70; go_must (refine calls_gen fun wc hwc => ?_; (first | (have hbx := al_drew_below hwc; have HPB := hide (And.intro (blk_al_drew hwc) HF.out.sz)) | (have hbx := al_below hwc; have HPB := hide (And.intro (blk_al hwc) HF.out.sz)) | (have hbx := drew_below hwc; (first | replace HPB := hide (And.intro (HPB.out.1.later hbx) HPB.out.2) | skip)) | (have hbx := eq_below hwc; (first | replace HPB := hide (And.intro (HPB.out.1.later hbx) HPB.out.2) | skip))); replace HF := hide (HF.out.later hbx); clear hwc hbx; refine (lead_any _ _ _ f _ _ _ s a g _ (HZ.out.later HF.out.below) HP.out HA.out.1 HA.out.2).mono ?_; rintro e wd ⟨rfl, hbd⟩; replace HF := hide (HF.out.later hbd); (first | replace HPB := hide (And.intro (HPB.out.1.later hbd) HPB.out.2) | skip); clear hbd; have gn0 : wd.heap.size ≠ b1 := (by have h1 := HF.out.sz; have h2 := HF.out.le (b := b1) (t := 29) (cs := [.slice A n c, .slice B m d]) (by simp); omega); have gm0 := gn0.symm; have gn1 : wd.heap.size ≠ W.heap.size := (by have h1 := HF.out.sz; have h2 := HF.out.le (b := W.heap.size) (t := 67) (cs := [.int .i64 x, .int .i64 y]) (by simp); omega); have gm1 := gn1.symm; have gn2 : wd.heap.size ≠ b2 := (by have h1 := HF.out.sz; have h2 := HF.out.le (b := b2) (t := 25) (cs := [.slice (some ⟨bs, os, none⟩) k e]) (by simp); omega); have gm2 := gn2.symm; have k0 := (HF.out.blk (b := b1) (t := 29) (cs := [.slice A n c, .slice B m d]) (by simp)).cell 0 _ rfl; have k1 := (HF.out.blk (b := b1) (t := 29) (cs := [.slice A n c, .slice B m d]) (by simp)).cell 1 _ rfl; have k2 := (HF.out.blk (b := W.heap.size) (t := 67) (cs := [.int .i64 x, .int .i64 y]) (by simp)).cell 0 _ rfl; have k3 := (HF.out.blk (b := W.heap.size) (t := 67) (cs := [.int .i64 x, .int .i64 y]) (by simp)).cell 1 _ rfl; have k4 := (HF.out.blk (b := b2) (t := 25) (cs := [.slice (some ⟨bs, os, none⟩) k e]) (by simp)).cell 0 _ rfl; (first | (have b0 := HPB.out.1.cell 0 _ rfl; have b1 := HPB.out.1.cell 1 _ rfl; have bf0 := HPB.out.1.frozen 0; have bf1 := HPB.out.1.frozen 1) | skip); rw [HU.out, HV.out]; have s0 : wd.cell? ⟨bs, os + x, none⟩ = some (.int .i64 a) := (HF.out.below.cell (p := ⟨bs, os + x, none⟩) hbsW).trans HCX.out; have s1 : wd.cell? ⟨bs, os + y, none⟩ = some (.int .i64 g) := (HF.out.below.cell (p := ⟨bs, os + y, none⟩) hbsW).trans HCY.out; have nb1 : wd.heap.size ≠ bs := (by have := HF.out.below.size; omega); have nb2 := nb1.symm)))
    all_goals go_wp2_with fail
    all_goals go_meet
    all_goals refine ⟨_, rfl, ?_, ?_⟩
    any_goals (have h1 := HF.out.le (b := W.heap.size + 1) (t := 67) (cs := [.int .i64 0, .int .i64 0]) (by simp); first | (have h2 := HF.out.sz; show W.heap.size + 1 < wd.heap.size; omega) | (have h2 := HPB.out.2; omega))
    all_goals first | exact HF.out.new _ _ | exact ((HF.out.set (p := ⟨_, 0, none⟩) HPB.out.2 _).set (p := ⟨_, 1, none⟩) HPB.out.2 _).push ((HPB.out.1.set 0 _).set 1 _) HPB.out.2
  case rest =>
    obtain ⟨L1, rfl, hL1, hfk⟩ := hcut
    replace HF := hide hfk
    have HL := hide hL1
    clear hfk hL1
    go_wp2_with fail
    have tok1 : True := trivial
    have k0 := (HF.out.blk (b := b2) (t := 25) (cs := [.slice (some ⟨bs, os, none⟩) k e]) (by simp)).cell 0 _ rfl
    have k1 := (HF.out.blk (b := L1) (t := 67) (cs := [.int .i64 u, .int .i64 v]) (by simp)).cell 0 _ rfl
    have k2 := (HF.out.blk (b := L1) (t := 67) (cs := [.int .i64 u, .int .i64 v]) (by simp)).cell 1 _ rfl
    have r0 := (HF.out.blk (b := W.heap.size + 1) (t := 67) (cs := [.int .i64 0, .int .i64 0]) (by simp)).cell 0 _ rfl
    have r1' := (HF.out.blk (b := W.heap.size + 1) (t := 67) (cs := [.int .i64 0, .int .i64 0]) (by simp)).cell 1 _ rfl
    have r2' := (HF.out.blk (b := W.heap.size + 1) (t := 67) (cs := [.int .i64 0, .int .i64 0]) (by simp)).frozen 0
    have r3 := (HF.out.blk (b := W.heap.size + 1) (t := 67) (cs := [.int .i64 0, .int .i64 0]) (by simp)).frozen 1
    have m1 : W.heap.size + 1 ≠ L1 := by have h1 := HF.out.blks (W.heap.size + 1, 67, [.int .i64 0, .int .i64 0]) (by simp); have h2 := HL.out; omega
    have m2 : W.heap.size + 1 ≠ b2 := by have h1 := HK2.out.lt; omega
    have m3 := m1.symm
    have m4 := m2.symm
    go_region_held3 (fun w' => w'.cell? ⟨b2, 0, none⟩ = some (.slice (some ⟨bs, os, none⟩) k e) ∧ w'.cell? ⟨L1, 0, none⟩ = some (.int .i64 u) ∧ w'.cell? ⟨L1, 1, none⟩ = some (.int .i64 v)) (first | exact ⟨k0, k1, k2⟩ | go_keep) (first | (go_at_call 76; have _t := tok1; clear _t tok1; go_must (refine calls_gen fun wc hwc => ?_; (first | have hbx := drew_below hwc | have hbx := eq_below hwc); replace HF := hide (HF.out.later hbx); clear hwc hbx; refine (indexI_any _ k e set u _ HKL.out (by omega) (HRS.out.later HF.out.below)).mono ?_; rintro e wd ⟨rfl, hqd⟩; have hbd := hqd.below wc.heap.size; replace HF := hide (HF.out.later hbd); clear hqd hbd; rw [HR1.out]; have k0 := (HF.out.blk (b := b2) (t := 25) (cs := [.slice (some ⟨bs, os, none⟩) k e]) (by simp)).cell 0 _ rfl; have k1 := (HF.out.blk (b := L1) (t := 67) (cs := [.int .i64 u, .int .i64 v]) (by simp)).cell 0 _ rfl; have k2 := (HF.out.blk (b := L1) (t := 67) (cs := [.int .i64 u, .int .i64 v]) (by simp)).cell 1 _ rfl; have r0 := (HF.out.blk (b := W.heap.size + 1) (t := 67) (cs := [.int .i64 0, .int .i64 0]) (by simp)).cell 0 _ rfl; have r1' := (HF.out.blk (b := W.heap.size + 1) (t := 67) (cs := [.int .i64 0, .int .i64 0]) (by simp)).cell 1 _ rfl; have r2' := (HF.out.blk (b := W.heap.size + 1) (t := 67) (cs := [.int .i64 0, .int .i64 0]) (by simp)).frozen 0; have r3 := (HF.out.blk (b := W.heap.size + 1) (t := 67) (cs := [.int .i64 0, .int .i64 0]) (by simp)).frozen 1)) | (go_at_call 76; go_must (refine calls_gen fun wc hwc => ?_; (first | have hbx := drew_below hwc | have hbx := eq_below hwc); replace HF := hide (HF.out.later hbx); clear hwc hbx; refine (indexI_any _ k e set v _ HKL.out (by omega) (HRS.out.later HF.out.below)).mono ?_; rintro e wd ⟨rfl, hqd⟩; have hbd := hqd.below wc.heap.size; replace HF := hide (HF.out.later hbd); clear hqd hbd; rw [HR2.out]; have k0 := (HF.out.blk (b := b2) (t := 25) (cs := [.slice (some ⟨bs, os, none⟩) k e]) (by simp)).cell 0 _ rfl; have k1 := (HF.out.blk (b := L1) (t := 67) (cs := [.int .i64 u, .int .i64 v]) (by simp)).cell 0 _ rfl; have k2 := (HF.out.blk (b := L1) (t := 67) (cs := [.int .i64 u, .int .i64 v]) (by simp)).cell 1 _ rfl; have r0 := (HF.out.blk (b := W.heap.size + 1) (t := 67) (cs := [.int .i64 0, .int .i64 0]) (by simp)).cell 0 _ rfl; have r1' := (HF.out.blk (b := W.heap.size + 1) (t := 67) (cs := [.int .i64 0, .int .i64 0]) (by simp)).cell 1 _ rfl; have r2' := (HF.out.blk (b := W.heap.size + 1) (t := 67) (cs := [.int .i64 0, .int .i64 0]) (by simp)).frozen 0; have r3 := (HF.out.blk (b := W.heap.size + 1) (t := 67) (cs := [.int .i64 0, .int .i64 0]) (by simp)).frozen 1)))
    clear k0 k1 k2
    go_wp2_with fail
    clear r0 r1' r2' r3
    refine bp_gen fun wf hwf => ?_
    have HRF : Blk wf (W.heap.size + 1) 67 [.int .i64 r1, .int .i64 r2] := by rw [hwf]; first | exact ((HF.out.blk (b := W.heap.size + 1) (t := 67) (cs := [.int .i64 0, .int .i64 0]) (by simp)).set 0 _).set 1 _ | exact (((HF.out.blk (b := W.heap.size + 1) (t := 67) (cs := [.int .i64 0, .int .i64 0]) (by simp)).set 0 _).set 1 _).drew
    have HBF : Below W.heap.size W wf := by rw [hwf]; first | exact (HF.out.below.setCell (p := ⟨W.heap.size + 1, 0, none⟩) (by show W.heap.size ≤ W.heap.size + 1; omega) _).setCell (p := ⟨W.heap.size + 1, 1, none⟩) (by show W.heap.size ≤ W.heap.size + 1; omega) _ | exact ((HF.out.below.setCell (p := ⟨W.heap.size + 1, 0, none⟩) (by show W.heap.size ≤ W.heap.size + 1; omega) _).setCell (p := ⟨W.heap.size + 1, 1, none⟩) (by show W.heap.size ≤ W.heap.size + 1; omega) _).drew
    have q0 := HRF.cell 0 _ rfl
    have q1 := HRF.cell 1 _ rfl
    clear hwf
    exact bodyPost_ret (v := .agg #[.int .i64 r1, .int .i64 r2]) (by simp [results, Try.results75, go_sem, q0, q1]) rfl ⟨rfl, HBF⟩
end Go.Proofs.Ytcmoeapgpljeiaa
namespace Go.Proofs.Ytcmoeapgpljeiaa
open Go Go.RowKit
set_option maxHeartbeats 1000000

set_option maxRecDepth 100000 in
theorem sbI_any (A : Option Addr) (n c : Nat) (f : List (List Int)) (B : Option Addr) (m d : Nat) (s : List (List Int)) (C : Option Addr) (k e : Nat) (set : List Int) (zf zg : List (List Int)) (code : Int) (kz kw : Nat) (w : World) (hz : ZArg 1048576 w A n f B m s) (hkl : set.length = k) (hkb : k ≤ 1048576) (hs : Rd w C set) (hr : SubRes f s set zf zg code) (hk : ZSz 1048576 zf kz zg kw) :
    Calls Try.prog 35 #[.agg #[.slice A n c, .slice B m d], .slice C k e] w (ZPost 25 2 kz kw zf zg code w) := by
  have hnb := hz.sz.nb
  have HZ := hide hz
  have HFL := hide hz.sz.fl
  have HK := hide hkl
  have HS := hide hs
  rcases hr with ⟨hp, hi, hcl, rfl, rfl, rfl⟩ | ⟨hp, hi, hcl, rfl, rfl, rfl⟩ | ⟨hp, hi, rfl, rfl, rfl⟩ | ⟨hp, rfl, rfl, rfl⟩
  · have HP := hide hp
    have HI : Hid (IncSet n set) := hide (by rw [← hz.sz.fl]; exact hi)
    have HIF := hide hi
    have HCL := hide hcl
    have h12 := hz.small hp
    have hle := hi.le
    have hk12 : k ≤ 12 := by rw [hz.sz.fl] at hle; omega
    have h1k : 1 ≤ k := by have := hi.2; omega
    obtain rfl : k = kz := by rw [← hk.fl, grid_length, hkl]
    obtain rfl : k = kw := by rw [← hk.sl, grid_length, hkl]
    clear hz hk hkl hs hp hi hcl hle
    go_enter Try.func35, Try.ntmps35
    go_wp2_with fail
    refine calls_gen fun w0 hw0 => ?_
    have HF : Hid (FB w w0 (w0.heap.size - 1) [(w.heap.size + 1 + 1, 29, [.slice none 0 0, .slice none 0 0]), (w.heap.size + 1, 25, [.slice C k e]), (w.heap.size, 29, [.slice A n c, .slice B m d])]) := hide (by
      have hb0 : Below w.heap.size w w0 := by rw [hw0]; exact (((Below.refl _ _).alloc (Nat.le_refl _) _).alloc (by simp) _).alloc (by simp; omega) _
      have a1 : Blk w0 w.heap.size 29 [.slice A n c, .slice B m d] := by rw [hw0]; exact ((Blk.new _ _ _).alloc _).alloc _
      have a2 : Blk w0 (w.heap.size + 1) 25 [.slice C k e] := by rw [hw0]; have h := (Blk.new (w.alloc (Obj.cells #[Value.slice A n c, Value.slice B m d] 29)) 25 [.slice C k e]).alloc (Obj.cells #[Value.slice none 0 0, Value.slice none 0 0] 29); simpa using h
      have a3 : Blk w0 (w.heap.size + 1 + 1) 29 [.slice none 0 0, .slice none 0 0] := by rw [hw0]; have h := Blk.new ((w.alloc (Obj.cells #[Value.slice A n c, Value.slice B m d] 29)).alloc (Obj.cells #[Value.slice C k e] 25)) 29 [.slice none 0 0, .slice none 0 0]; simpa using h
      refine FB.of hb0 a1.lt ?_
      simp only [List.forall_mem_cons]
      exact ⟨a3, a2, a1, fun q hq => absurd hq (List.not_mem_nil)⟩)
    clear hw0
    refine (csI_any _ _ _ f _ _ _ s _ _ _ set true 0 _ (HZ.out.later HF.out.below) HK.out hkb (HS.out.later HF.out.below) (.inl ⟨HP.out, HIF.out, (by simp [HCL.out]), rfl⟩)).mono ?_
    rintro e' wd ⟨rfl, hbd⟩
    replace HF := hide (HF.out.later hbd)
    clear hbd
    have k2 := (HF.out.blk (b := w.heap.size + 1) (t := 25) (cs := [.slice C k e]) (by simp)).cell 0 _ rfl
    go_wp2_with fail
    refine (pmo_any 75 _ k (sb1 f set) (sb1 s set) _ (enters_of Try.func75 (by kernel_rfl) rfl) h1k hk12 (sbC_any _ _ _ f _ _ _ s _ _ _ set w.heap.size (w.heap.size + 1) _ (HZ.out.later HF.out.below) HP.out HK.out HI.out HCL.out (HS.out.later HF.out.below) (HF.out.blk (b := w.heap.size) (t := 29) (cs := [.slice A n c, .slice B m d]) (by simp)) (HF.out.blk (b := w.heap.size + 1) (t := 25) (cs := [.slice C k e]) (by simp)))).mono ?_
    rintro e' wd2 ⟨A3, c3, B3, d3, rfl, hbd, ho⟩
    have hRl := (HF.out.blk (b := w.heap.size + 1 + 1) (t := 29) (cs := [.slice none 0 0, .slice none 0 0]) (by simp)).lt
    have hws := HF.out.below.size
    replace HF := hide (HF.out.later hbd)
    have HO := hide ho
    clear hbd ho k2
    have HR := hide (HF.out.blk (b := w.heap.size + 1 + 1) (t := 29) (cs := [.slice none 0 0, .slice none 0 0]) (by simp))
    have r0 := HR.out.cell 0 _ rfl
    have r1 := HR.out.cell 1 _ rfl
    have r2 := HR.out.frozen 0
    have r3 := HR.out.frozen 1
    go_wp2_with fail
    refine bp_gen fun wf hwf => ?_
    obtain ⟨q0, q1, hbf, hof⟩ := zend hwf HR.out (by omega) hRl HF.out.below hws HO.out
    clear hwf r0 r1 r2 r3
    rw [HK.out]
    exact bodyPost_ret (v := .tuple #[.agg #[.slice A3 k c3, .slice B3 k d3], .int .i64 0]) (by simp [results, Try.results35, go_sem, q0, q1]) rfl ⟨_, _, _, _, rfl, hbf, hof⟩
  · have HP := hide hp
    have HI : Hid (IncSet n set) := hide (by rw [← hz.sz.fl]; exact hi)
    have HIF := hide hi
    have HCL := hide hcl
    obtain rfl : kz = 0 := by simpa using hk.fl.symm
    obtain rfl : kw = 0 := by simpa using hk.sl.symm
    clear hk
    clear hz hkl hs hp hi hcl
    go_enter Try.func35, Try.ntmps35
    go_wp2_with fail
    refine calls_gen fun w0 hw0 => ?_
    have HF : Hid (FB w w0 (w0.heap.size - 1) [(w.heap.size + 1 + 1, 29, [.slice none 0 0, .slice none 0 0]), (w.heap.size + 1, 25, [.slice C k e]), (w.heap.size, 29, [.slice A n c, .slice B m d])]) := hide (by
      have hb0 : Below w.heap.size w w0 := by rw [hw0]; exact (((Below.refl _ _).alloc (Nat.le_refl _) _).alloc (by simp) _).alloc (by simp; omega) _
      have a1 : Blk w0 w.heap.size 29 [.slice A n c, .slice B m d] := by rw [hw0]; exact ((Blk.new _ _ _).alloc _).alloc _
      have a2 : Blk w0 (w.heap.size + 1) 25 [.slice C k e] := by rw [hw0]; have h := (Blk.new (w.alloc (Obj.cells #[Value.slice A n c, Value.slice B m d] 29)) 25 [.slice C k e]).alloc (Obj.cells #[Value.slice none 0 0, Value.slice none 0 0] 29); simpa using h
      have a3 : Blk w0 (w.heap.size + 1 + 1) 29 [.slice none 0 0, .slice none 0 0] := by rw [hw0]; have h := Blk.new ((w.alloc (Obj.cells #[Value.slice A n c, Value.slice B m d] 29)).alloc (Obj.cells #[Value.slice C k e] 25)) 29 [.slice none 0 0, .slice none 0 0]; simpa using h
      refine FB.of hb0 a1.lt ?_
      simp only [List.forall_mem_cons]
      exact ⟨a3, a2, a1, fun q hq => absurd hq (List.not_mem_nil)⟩)
    clear hw0
    refine (csI_any _ _ _ f _ _ _ s _ _ _ set false 0 _ (HZ.out.later HF.out.below) HK.out hkb (HS.out.later HF.out.below) (.inl ⟨HP.out, HIF.out, (by simp [HCL.out]), rfl⟩)).mono ?_
    rintro e' wd ⟨rfl, hbd⟩
    replace HF := hide (HF.out.later hbd)
    clear hbd
    have HR := hide (HF.out.blk (b := w.heap.size + 1 + 1) (t := 29) (cs := [.slice none 0 0, .slice none 0 0]) (by simp))
    have r0 := HR.out.cell 0 _ rfl
    have r1 := HR.out.cell 1 _ rfl
    have r2 := HR.out.frozen 0
    have r3 := HR.out.frozen 1
    go_wp2_with fail
    refine bp_gen fun wf hwf => ?_
    obtain ⟨q0, q1, hbf, hof⟩ := zend (ts := 25) (t := 2) (w2 := wd) hwf HR.out (by omega) HR.out.lt HF.out.below HF.out.below.size (ObjZ.empty (Nat.le_refl _))
    clear hwf r0 r1 r2 r3
    exact bodyPost_ret (v := .tuple #[.agg #[.slice none 0 0, .slice none 0 0], .int .i64 5]) (by simp [results, Try.results35, go_sem, q0, q1]) rfl ⟨_, _, _, _, rfl, hbf, hof⟩
  · have HP := hide hp
    have HI := hide hi
    obtain rfl : kz = 0 := by simpa using hk.fl.symm
    obtain rfl : kw = 0 := by simpa using hk.sl.symm
    clear hk
    clear hz hkl hs hp hi
    go_enter Try.func35, Try.ntmps35
    go_wp2_with fail
    refine calls_gen fun w0 hw0 => ?_
    have HF : Hid (FB w w0 (w0.heap.size - 1) [(w.heap.size + 1 + 1, 29, [.slice none 0 0, .slice none 0 0]), (w.heap.size + 1, 25, [.slice C k e]), (w.heap.size, 29, [.slice A n c, .slice B m d])]) := hide (by
      have hb0 : Below w.heap.size w w0 := by rw [hw0]; exact (((Below.refl _ _).alloc (Nat.le_refl _) _).alloc (by simp) _).alloc (by simp; omega) _
      have a1 : Blk w0 w.heap.size 29 [.slice A n c, .slice B m d] := by rw [hw0]; exact ((Blk.new _ _ _).alloc _).alloc _
      have a2 : Blk w0 (w.heap.size + 1) 25 [.slice C k e] := by rw [hw0]; have h := (Blk.new (w.alloc (Obj.cells #[Value.slice A n c, Value.slice B m d] 29)) 25 [.slice C k e]).alloc (Obj.cells #[Value.slice none 0 0, Value.slice none 0 0] 29); simpa using h
      have a3 : Blk w0 (w.heap.size + 1 + 1) 29 [.slice none 0 0, .slice none 0 0] := by rw [hw0]; have h := Blk.new ((w.alloc (Obj.cells #[Value.slice A n c, Value.slice B m d] 29)).alloc (Obj.cells #[Value.slice C k e] 25)) 29 [.slice none 0 0, .slice none 0 0]; simpa using h
      refine FB.of hb0 a1.lt ?_
      simp only [List.forall_mem_cons]
      exact ⟨a3, a2, a1, fun q hq => absurd hq (List.not_mem_nil)⟩)
    clear hw0
    refine (csI_any _ _ _ f _ _ _ s _ _ _ set false 2 _ (HZ.out.later HF.out.below) HK.out hkb (HS.out.later HF.out.below) (.inr (.inl ⟨HP.out, HI.out, rfl, rfl⟩))).mono ?_
    rintro e' wd ⟨rfl, hbd⟩
    replace HF := hide (HF.out.later hbd)
    clear hbd
    have HR := hide (HF.out.blk (b := w.heap.size + 1 + 1) (t := 29) (cs := [.slice none 0 0, .slice none 0 0]) (by simp))
    have r0 := HR.out.cell 0 _ rfl
    have r1 := HR.out.cell 1 _ rfl
    have r2 := HR.out.frozen 0
    have r3 := HR.out.frozen 1
    go_wp2_with fail
    refine bp_gen fun wf hwf => ?_
    obtain ⟨q0, q1, hbf, hof⟩ := zend (ts := 25) (t := 2) (w2 := wd) hwf HR.out (by omega) HR.out.lt HF.out.below HF.out.below.size (ObjZ.empty (Nat.le_refl _))
    clear hwf r0 r1 r2 r3
    exact bodyPost_ret (v := .tuple #[.agg #[.slice none 0 0, .slice none 0 0], .int .i64 2]) (by simp [results, Try.results35, go_sem, q0, q1]) rfl ⟨_, _, _, _, rfl, hbf, hof⟩
  · have HP := hide hp
    obtain rfl : kz = 0 := by simpa using hk.fl.symm
    obtain rfl : kw = 0 := by simpa using hk.sl.symm
    clear hk
    clear hz hkl hs hp
    go_enter Try.func35, Try.ntmps35
    go_wp2_with fail
    refine calls_gen fun w0 hw0 => ?_
    have HF : Hid (FB w w0 (w0.heap.size - 1) [(w.heap.size + 1 + 1, 29, [.slice none 0 0, .slice none 0 0]), (w.heap.size + 1, 25, [.slice C k e]), (w.heap.size, 29, [.slice A n c, .slice B m d])]) := hide (by
      have hb0 : Below w.heap.size w w0 := by rw [hw0]; exact (((Below.refl _ _).alloc (Nat.le_refl _) _).alloc (by simp) _).alloc (by simp; omega) _
      have a1 : Blk w0 w.heap.size 29 [.slice A n c, .slice B m d] := by rw [hw0]; exact ((Blk.new _ _ _).alloc _).alloc _
      have a2 : Blk w0 (w.heap.size + 1) 25 [.slice C k e] := by rw [hw0]; have h := (Blk.new (w.alloc (Obj.cells #[Value.slice A n c, Value.slice B m d] 29)) 25 [.slice C k e]).alloc (Obj.cells #[Value.slice none 0 0, Value.slice none 0 0] 29); simpa using h
      have a3 : Blk w0 (w.heap.size + 1 + 1) 29 [.slice none 0 0, .slice none 0 0] := by rw [hw0]; have h := Blk.new ((w.alloc (Obj.cells #[Value.slice A n c, Value.slice B m d] 29)).alloc (Obj.cells #[Value.slice C k e] 25)) 29 [.slice none 0 0, .slice none 0 0]; simpa using h
      refine FB.of hb0 a1.lt ?_
      simp only [List.forall_mem_cons]
      exact ⟨a3, a2, a1, fun q hq => absurd hq (List.not_mem_nil)⟩)
    clear hw0
    refine (csI_any _ _ _ f _ _ _ s _ _ _ set false 1 _ (HZ.out.later HF.out.below) HK.out hkb (HS.out.later HF.out.below) (.inr (.inr ⟨HP.out, rfl, rfl⟩))).mono ?_
    rintro e' wd ⟨rfl, hbd⟩
    replace HF := hide (HF.out.later hbd)
    clear hbd
    have HR := hide (HF.out.blk (b := w.heap.size + 1 + 1) (t := 29) (cs := [.slice none 0 0, .slice none 0 0]) (by simp))
    have r0 := HR.out.cell 0 _ rfl
    have r1 := HR.out.cell 1 _ rfl
    have r2 := HR.out.frozen 0
    have r3 := HR.out.frozen 1
    go_wp2_with fail
    refine bp_gen fun wf hwf => ?_
    obtain ⟨q0, q1, hbf, hof⟩ := zend (ts := 25) (t := 2) (w2 := wd) hwf HR.out (by omega) HR.out.lt HF.out.below HF.out.below.size (ObjZ.empty (Nat.le_refl _))
    clear hwf r0 r1 r2 r3
    exact bodyPost_ret (v := .tuple #[.agg #[.slice none 0 0, .slice none 0 0], .int .i64 1]) (by simp [results, Try.results35, go_sem, q0, q1]) rfl ⟨_, _, _, _, rfl, hbf, hof⟩
end Go.Proofs.Ytcmoeapgpljeiaa
namespace Go.Proofs.Ytcmoeapgpljeiaa
open Go Go.RowKit
set_option maxHeartbeats 2000000

theorem subS_any_i1 : (Try.prog.info? 2).map (fun i => (i.zero, i.size, i.bytes)) = some (some (.int .i64 0), 1, 8) := by kernel_rfl
theorem subS_any_i2 : (Try.prog.info? 25).map (fun i => (i.zero, i.size, i.bytes)) = some (some (.slice none 0 0), 1, 24) := by kernel_rfl

set_option maxRecDepth 100000 in
theorem subS_any (A : Option Addr) (n c : Nat) (f : List (List Int)) (B : Option Addr) (m d : Nat) (s : List (List Int)) (C : Option Addr) (k e : Nat) (set : List Int) (w : World) (hz : ZArg 1048576 w A n f B m s) (hp : PMap f s) (hk : set.length = k) (hi : IncSet n set) (hcl : ClF f s set) (hs : Rd w C set) :
    Calls Try.prog 74 #[.agg #[.slice A n c, .slice B m d], .slice C k e] w fun e w' => ∃ A' c' B' d', e = .returned (.agg #[.slice A' k c', .slice B' k d']) ∧ Below w.heap.size w w' ∧ ObjW 25 2 w.heap.size w'.heap.size w' A' (grid k (sb1 f set)) B' (grid k (sb1 s set)) := by
  have h12 := hz.small hp
  have hsame := (hz.same hp).symm
  subst hsame
  have HZ := hide hz
  have HP := hide hp
  have HFL := hide hz.sz.fl
  clear hz hp
  have HK := hide hk
  have HI := hide hi
  have HCL := hide hcl
  have HS := hide hs
  have hkn : k ≤ 12 := by have h1 := hi.le; omega
  clear hk hi hcl hs
  obtain ⟨i0, hi0, hz0, hz1, hz2⟩ := info_parts subS_any_i1
  obtain ⟨i2, hj, hy0, hy1, hy2⟩ := info_parts subS_any_i2
  go_enter Try.func74, Try.ntmps74
  go_wp2_with fail
  refine wp_gen fun w0 hw0 => ?_
  have hb0 : Below w.heap.size w w0 := by rw [hw0]; exact (((Below.refl _ _).alloc (Nat.le_refl _) _).alloc (by simp) _).alloc (by simp; omega) _
  have a1 : Blk w0 w.heap.size 29 [.slice A n c, .slice B n d] := by rw [hw0]; exact ((Blk.new _ _ _).alloc _).alloc _
  have a2 : Blk w0 (w.heap.size + 1) 29 [.slice none 0 0, .slice none 0 0] := by rw [hw0]; have h := (Blk.new (w.alloc (Obj.cells #[Value.slice A n c, Value.slice B n d] 29)) 29 [.slice none 0 0, .slice none 0 0]).alloc (Obj.cells #[Value.slice none 0 0, Value.slice none 0 0] 29); simpa using h
  have a4 : Blk w0 (w.heap.size + 1 + 1) 29 [.slice none 0 0, .slice none 0 0] := by rw [hw0]; have h := Blk.new ((w.alloc (Obj.cells #[Value.slice A n c, Value.slice B n d] 29)).alloc (Obj.cells #[Value.slice none 0 0, Value.slice none 0 0] 29)) 29 [.slice none 0 0, .slice none 0 0]; simpa using h
  have HBX0 : Hid (Bxs w0 (w.heap.size + 1 + 1) [(w.heap.size, 29, [.slice A n c, .slice B n d]), (w.heap.size + 1, 29, [.slice none 0 0, .slice none 0 0])]) := hide (by
    intro p hp'
    simp only [List.mem_cons, List.not_mem_nil, or_false] at hp'
    rcases hp' with rfl | rfl
    · exact ⟨a1, by show w.heap.size < _; omega⟩
    · exact ⟨a2, by show w.heap.size + 1 < _; omega⟩)
  clear a1 a2
  have HB0 := hide hb0
  have HTW0 := hide (Two.start w0 25 2 29 a4)
  clear hw0 hb0 a4
  go_loopw [6] (fun i wr => ∃ (x : Nat) (v1 v2 : Value) (vals1 vals2 : List Value), x ≤ k ∧ i = .int .i64 x ∧ Below w.heap.size w wr ∧ Bxs wr (w.heap.size + 1 + 1) [(w.heap.size, 29, [.slice A n c, .slice B n d]), (w.heap.size + 1, 29, [.slice none 0 0, .slice none 0 0])] ∧ Two 25 2 29 (w.heap.size + 1 + 1 + 1) wr (w.heap.size + 1 + 1) v1 v2 ((grid k (sb1 f set)).take x) ((grid k (sb1 s set)).take x) vals1 vals2) (fun i _ => k - (intOf i).toNat)
  case atStart => exact ⟨0, _, _, _, _, Nat.zero_le _, rfl, HB0.out, HBX0.out, by simpa using HTW0.out⟩
  case round =>
    obtain ⟨x, v1, v2, vals1, vals2, hx, rfl, hbe, hbx, htw⟩ := hrel
    have HB := hide hbe
    have HBX := hide hbx
    have HTW := hide htw
    clear hbe hbx htw
    by_cases hlt : x < k
    · have hxz : (x : Int) < k := by omega
      obtain ⟨bs, os, rfl, hbs, hcs⟩ := HS.out (by have := HK.out; omega)
      obtain ⟨a, ha, han⟩ := HI.out.at (i := x) (by have := HK.out; omega)
      have hc1 := hcs x (by have := HK.out; omega)
      rw [ha] at hc1
      have HC1 := hide hc1
      have HA := hide ha
      have HCS := hide hcs
      clear hc1 ha hcs
      go_wp2_with fail
      obtain ⟨wo, rfl⟩ : ∃ wo : World, wo = wr := ⟨_, rfl⟩
      go_loopw [7, 8, 9] (fun u1 u2 i wi => ∃ y : Nat, y ≤ k ∧ i = .int .i64 y ∧ Below wo.heap.size wo wi ∧ wo.heap.size < wi.heap.size ∧ Row2 2 wo.heap.size wi u1 u2 y y (rowTo (sb1 f set) x y) (rowTo (sb1 s set) x y)) (fun _ _ i _ => k - (intOf i).toNat)
      case atStart => exact ⟨0, Nat.zero_le _, rfl, ((Below.refl _ _).alloc (Nat.le_refl _) _).alloc (by simp) _, by simp; omega, row2_start wo _⟩
      case round =>
        obtain ⟨y, hy, rfl, hbi, hsi, hri⟩ := hrel
        have HBI := hide hbi
        have HRI := hide hri
        clear hbi hri
        by_cases hlty : y < k
        · have hyz : (y : Int) < k := by omega
          have HB2 := hide (HB.out.trans (HBI.out.mono HB.out.size))
          have HBX2 := hide (HBX.out.later HBI.out)
          obtain ⟨g, hg, hgn⟩ := HI.out.at (i := y) (by have := HK.out; omega)
          have hd1 := HCS.out y (by have := HK.out; omega)
          rw [hg] at hd1
          have hpr1 : sb1 f set x y = ixOf set ((ap f a g : Nat) : Int) := by unfold sb1; rw [HA.out, hg, Int.toNat_natCast, Int.toNat_natCast]
          have hpr2 : sb1 s set x y = ixOf set ((ap s a g : Nat) : Int) := by unfold sb1; rw [HA.out, hg, Int.toNat_natCast, Int.toNat_natCast]
          obtain ⟨u, hu⟩ : ∃ u, ap f a g = u := ⟨_, rfl⟩
          obtain ⟨v, hv⟩ : ∃ v, ap s a g = v := ⟨_, rfl⟩
          rw [hu] at hpr1
          rw [hv] at hpr2
          obtain ⟨r1, hr1⟩ : ∃ r, ixOf set (u : Int) = r := ⟨_, rfl⟩
          obtain ⟨r2, hr2⟩ : ∃ r, ixOf set (v : Int) = r := ⟨_, rfl⟩
          rw [hr1] at hpr1
          rw [hr2] at hpr2
          have HPR1 := hide hpr1
          have HPR2 := hide hpr2
          have HR1 := hide hr1
          have HR2 := hide hr2
          obtain ⟨bA, oA, bB, oB, bx, ox, cx, bY, oy, cy, eA, eB, h1, h2, h3, h4, l1, l2, l3, l4⟩ := HZ.out.reads HP.out han hgn
          rw [hu] at h3
          rw [hv] at h4
          have EA := hide eA
          have EB := hide eB
          have haz : (a : Int) < n := by omega
          have hgz : (g : Int) < n := by omega
          have hww := HB.out.size
          have hobw := HTW.out.box.lt
          have hszw : wo.heap.size ≤ wr.heap.size := HBI.out.size
          have HD1 := hide hd1
          clear hg hu hv hr1 hr2 hpr1 hpr2 eA eB hd1
          have k0 := (HBX2.out.blk (b := w.heap.size) (t := 29) (cs := [.slice A n c, .slice B n d]) (by simp)).cell 0 _ rfl
          rw [EA.out] at k0
          have ff0 : wr.cell? ⟨bA, oA + a, none⟩ = some (.slice (some ⟨bx, ox, none⟩) n cx) := (HB2.out.cell (p := ⟨bA, oA + a, none⟩) l1).trans h1
          have ff1 : wr.cell? ⟨bx, ox + g, none⟩ = some (.int .i64 u) := (HB2.out.cell (p := ⟨bx, ox + g, none⟩) l3).trans h3
          have ff2 : wr.cell? ⟨bs, os + x, none⟩ = some (.int .i64 a) := (HB2.out.cell (p := ⟨bs, os + x, none⟩) hbs).trans HC1.out
          have ff3 : wr.cell? ⟨bs, os + y, none⟩ = some (.int .i64 g) := (HB2.out.cell (p := ⟨bs, os + y, none⟩) hbs).trans HD1.out
          have HBq := HBI
          have HRq := HRI
          go_wp2_with fail
          go_region_held3 (fun w' => w'.cell? ⟨w.heap.size, 0, none⟩ = some (.slice (some ⟨bA, oA, none⟩) n c) ∧ w'.cell? ⟨bA, oA + a, none⟩ = some (.slice (some ⟨bx, ox, none⟩) n cx) ∧ w'.cell? ⟨bx, ox + g, none⟩ = some (.int .i64 u) ∧ w'.cell? ⟨bs, os + x, none⟩ = some (.int .i64 a) ∧ w'.cell? ⟨bs, os + y, none⟩ = some (.int .i64 g)) (first | exact ⟨k0, ff0, ff1, ff2, ff3⟩ | go_keep) (first | (go_at_call 105; go_must (refine calls_gen fun wc hwc => ?_; (first | have hbx := drew_below hwc | have hbx := eq_below hwc); replace HBq := hide (HBq.out.trans (hbx.mono HBq.out.size)); replace HRq := hide (HRq.out.later hbx); clear hwc hbx; refine (index_any _ k e set _ _ HK.out (by omega) (HS.out.later (HB.out.trans (HBq.out.mono HB.out.size)))).mono ?_; rintro e' wd ⟨rfl, hqd⟩; have hbd := hqd.below wc.heap.size; replace HBq := hide (HBq.out.trans (hbd.mono HBq.out.size)); replace HRq := hide (HRq.out.later hbd); clear hqd hbd; rw [HR1.out]; have hcl : ∀ b o, b < wo.heap.size → wd.cell? ⟨b, o, none⟩ = wr.cell? ⟨b, o, none⟩ := fun b o h => (HBq.out.cell (p := ⟨b, o, none⟩) h).trans (HBI.out.cell (p := ⟨b, o, none⟩) h).symm; have hszd := HBq.out.size; have k0 := (hcl _ _ (by omega)).trans k0; have ff0 := (hcl _ _ (by omega)).trans ff0; have ff1 := (hcl _ _ (by omega)).trans ff1; have ff2 := (hcl _ _ (by omega)).trans ff2; have ff3 := (hcl _ _ (by omega)).trans ff3)) | (refine step_append_lies _ (by rfl) _ _ _ (by rfl) wo.heap.size 2 i0 _ 1 8 Try.underlying25 hi0 hz0 hz1 hz2 rfl (by omega) u7 y (ints (rowTo (sb1 f set) x y)) (by rfl) (HRq.out.o1.alloc _) ⟨wd.heap.size, 0, none⟩ 1 1 [.int .i64 r1] (by rfl) (by rfl) l2_new (by simp [Value.oneCell']) (by omega) (by unfold maxLen; omega) (by omega) (by simp; omega) (wd.heap.size + 1) (by simp) ?_; go_must (intro gg1 cap1 wa1 hown hgrow hat _; obtain ⟨hrow, hbi, hsz1, hcl⟩ := row2_ap1 HRq.out HBq.out hown hgrow hat; have HROW1 := hide hrow; have HBI1 := hide hbi; clear hown hgrow hat hrow hbi; have k0 := (hcl _ _ (by omega)).trans k0; have ff0 := (hcl _ _ (by omega)).trans ff0; have ff1 := (hcl _ _ (by omega)).trans ff1; have ff2 := (hcl _ _ (by omega)).trans ff2; have ff3 := (hcl _ _ (by omega)).trans ff3)))
          clear k0 ff0 ff1 ff2 ff3 HBq HRq
          have HB5 := hide (HB.out.trans (HBI1.out.mono HB.out.size))
          have HBX5 := hide (HBX.out.later HBI1.out)
          have k0 := (HBX5.out.blk (b := w.heap.size) (t := 29) (cs := [.slice A n c, .slice B n d]) (by simp)).cell 1 _ rfl
          rw [EB.out] at k0
          have ff0 : wa1.cell? ⟨bB, oB + a, none⟩ = some (.slice (some ⟨bY, oy, none⟩) n cy) := (HB5.out.cell (p := ⟨bB, oB + a, none⟩) l2).trans h2
          have ff1 : wa1.cell? ⟨bY, oy + g, none⟩ = some (.int .i64 v) := (HB5.out.cell (p := ⟨bY, oy + g, none⟩) l4).trans h4
          have ff2 : wa1.cell? ⟨bs, os + x, none⟩ = some (.int .i64 a) := (HB5.out.cell (p := ⟨bs, os + x, none⟩) hbs).trans HC1.out
          have ff3 : wa1.cell? ⟨bs, os + y, none⟩ = some (.int .i64 g) := (HB5.out.cell (p := ⟨bs, os + y, none⟩) hbs).trans HD1.out
          have hszw1 : wo.heap.size ≤ wa1.heap.size := HBI1.out.size
          have HBq := HBI1
          have HRq := HROW1
          go_upto_region 10 with fail
          go_region_held3 (fun w' => w'.cell? ⟨w.heap.size, 1, none⟩ = some (.slice (some ⟨bB, oB, none⟩) n d) ∧ w'.cell? ⟨bB, oB + a, none⟩ = some (.slice (some ⟨bY, oy, none⟩) n cy) ∧ w'.cell? ⟨bY, oy + g, none⟩ = some (.int .i64 v) ∧ w'.cell? ⟨bs, os + x, none⟩ = some (.int .i64 a) ∧ w'.cell? ⟨bs, os + y, none⟩ = some (.int .i64 g)) (first | exact ⟨k0, ff0, ff1, ff2, ff3⟩ | go_keep) (first | (go_at_call 105; go_must (refine calls_gen fun wc hwc => ?_; (first | have hbx := drew_below hwc | have hbx := eq_below hwc); replace HBq := hide (HBq.out.trans (hbx.mono HBq.out.size)); replace HRq := hide (HRq.out.later hbx); clear hwc hbx; refine (index_any _ k e set _ _ HK.out (by omega) (HS.out.later (HB.out.trans (HBq.out.mono HB.out.size)))).mono ?_; rintro e' wd ⟨rfl, hqd⟩; have hbd := hqd.below wc.heap.size; replace HBq := hide (HBq.out.trans (hbd.mono HBq.out.size)); replace HRq := hide (HRq.out.later hbd); clear hqd hbd; rw [HR2.out]; have hcl : ∀ b o, b < wo.heap.size → wd.cell? ⟨b, o, none⟩ = wa1.cell? ⟨b, o, none⟩ := fun b o h => (HBq.out.cell (p := ⟨b, o, none⟩) h).trans (HBI1.out.cell (p := ⟨b, o, none⟩) h).symm; have hszd := HBq.out.size; have k0 := (hcl _ _ (by omega)).trans k0; have ff0 := (hcl _ _ (by omega)).trans ff0; have ff1 := (hcl _ _ (by omega)).trans ff1; have ff2 := (hcl _ _ (by omega)).trans ff2; have ff3 := (hcl _ _ (by omega)).trans ff3)) | (refine step_append_lies _ (by rfl) _ _ _ (by rfl) wo.heap.size 2 i0 _ 1 8 Try.underlying25 hi0 hz0 hz1 hz2 rfl (by omega) u8 y (ints (rowTo (sb1 s set) x y)) (by rfl) (HRq.out.o2.alloc _) ⟨wd.heap.size, 0, none⟩ 1 1 [.int .i64 r2] (by rfl) (by rfl) l2_new (by simp [Value.oneCell']) (by omega) (by unfold maxLen; omega) (by omega) (by simp; omega) (wd.heap.size + 1) (by simp) ?_; go_must (intro gg2 cap2 wa2 hown hgrow hat _; obtain ⟨hrow, hbi, hsz2, hcl⟩ := row2_ap2 HRq.out HBq.out hown hgrow hat; have HROW2 := hide hrow; have HBI2 := hide hbi; clear hown hgrow hat hrow hbi; have k0 := (hcl _ _ (by omega)).trans k0; have ff0 := (hcl _ _ (by omega)).trans ff0; have ff1 := (hcl _ _ (by omega)).trans ff1; have ff2 := (hcl _ _ (by omega)).trans ff2; have ff3 := (hcl _ _ (by omega)).trans ff3)))
          clear k0 ff0 ff1 ff2 ff3 HBq HRq
          go_wp2_with fail
          have hszw2 : wo.heap.size ≤ wa2.heap.size := HBI2.out.size
          go_roundw
          case rel => exact ⟨y + 1, by omega, by go_num, HBI2.out, by omega, by rw [rowTo_succ, rowTo_succ, HPR1.out, HPR2.out]; exact HROW2.out⟩
          case measure => simp [intOf]; omega
        · have hyn : y = k := by omega
          subst hyn
          have HTL : Hid (((grid y (sb1 f set)).take x).length = x) := hide (by rw [List.length_take, grid_length]; omega)
          have HTM : Hid (((grid y (sb1 s set)).take x).length = x) := hide (by rw [List.length_take, grid_length]; omega)
          obtain ⟨A1, c1, hv1, hres1⟩ := own_shape HRI.out.o1
          subst hv1
          obtain ⟨A2, c2', hv2, hres2⟩ := own_shape HRI.out.o2
          subst hv2
          have HRO1 := hide hres1.obj
          have HRO := hide hres2.obj
          have HT2 := hide (HTW.out.later HBI.out)
          have HBX2 := hide (HBX.out.later HBI.out)
          have HB2 := hide (HB.out.trans (HBI.out.mono HB.out.size))
          clear hres1 hres2
          have k0 := HT2.out.box.cell 0 _ rfl
          have k1 := HT2.out.box.cell 1 _ rfl
          have k2 := HT2.out.box.frozen 0
          have k3 := HT2.out.box.frozen 1
          have k4 := fun o => (HT2.out.box.alloc o).cell 0 _ rfl
          have HOW1 : Hid (wr.ownsRow (w.heap.size + 1 + 1 + 1) 25 1 v1 x vals1) := hide (by have h := HT2.out.l1.own; rw [HTL.out] at h; exact h)
          have hobl := HT2.out.box.lt
          go_wp2_with (at_builtin; refine wpList_append_own_at _ rfl _ _ 22 rfl (w.heap.size + 1 + 1 + 1) 25 i2 (.slice none 0 0) 1 24 Try.underlying22 hj hy0 hy1 hy2 rfl (by decide) _ _ _ rfl (HOW1.out.alloc _) ⟨wr.heap.size, 0, none⟩ 1 1 [.slice A1 y c1] rfl rfl ?c1 ?c2 ?c3 ?c4 ?c5 ?_)
          try (case c1 => exact l2_new)
          case c2 => first | rfl | (intro u hu; simp at hu; subst hu; rfl)
          case c3 => first | omega | (unfold maxLen; omega)
          case c4 => omega
          case c5 => first | omega | (simp; omega)
          intro v' w5 hown5 hgrow5 _ hat5
          obtain ⟨gg, cap, hv5⟩ := own_form hown5
          have hat6 := at_of hv5 hat5
          rw [hv5] at hown5 ⊢
          clear hat5 hv5
          have hat6' : v1.ownBlock = some gg ∨ gg = wr.heap.size + 1 := by rcases hat6 with e | e; exact .inl e; exact .inr (by simpa using e)
          have hbk := HT2.out.kept1 hgrow5
          have HT3 := hide (HT2.out.add1 (by decide) (.inl HTW.out) (Nat.le_refl _) HRO1.out HTL.out (rowTo_len _ _ _) hown5 hgrow5 hat6')
          have HB3 := hide (HT2.out.below1 hgrow5 (.slice (some ⟨gg, 0, none⟩) (x + 1) cap) HB2.out (by omega))
          have HBX3 : Hid (Bxs (w5.setCell ⟨w.heap.size + 1 + 1, 0, none⟩ (.slice (some ⟨gg, 0, none⟩) (x + 1) cap)) (w.heap.size + 1 + 1) [(w.heap.size, 29, [.slice A n c, .slice B n d]), (w.heap.size + 1, 29, [.slice none 0 0, .slice none 0 0])]) := hide (HBX2.out.frame (fun k hk hkw => HT2.out.frame1 hgrow5 _ (by omega) (by omega) hkw))
          have HRO3 := hide (row_kept (k := 0) (ob := w.heap.size + 1 + 1) (by decide) HT2.out.l1.own hgrow5 HRO.out HTW.out.bsz (.slice (some ⟨gg, 0, none⟩) (x + 1) cap))
          have hsz6 : wr.heap.size ≤ (w5.setCell ⟨w.heap.size + 1 + 1, 0, none⟩ (.slice (some ⟨gg, 0, none⟩) (x + 1) cap)).heap.size := by have h1 := hgrow5.size; simp at h1; simp [World.setCell]; omega
          clear k0 k1 k2 k3 k4 hown5 hat6 hat6' hgrow5
          have k0 := hbk.cell 0 _ rfl
          have k1 := hbk.cell 1 _ rfl
          have k2 := hbk.frozen 0
          have k3 := hbk.frozen 1
          clear hbk
          go_upto_region 12 with fail
          generalize hw6 : w5.setCell ⟨w.heap.size + 1 + 1, 0, none⟩ (.slice (some ⟨gg, 0, none⟩) (x + 1) cap) = w6 at HT3 HB3 HBX3 HRO3 hsz6 ⊢
          have HRO4 := hide (HRO3.out.mono (Nat.le_refl _) hsz6)
          clear hw6 hsz6 k0 k1 k2 k3
          have k0 := HT3.out.box.cell 0 _ rfl
          have k1 := HT3.out.box.cell 1 _ rfl
          have k2 := HT3.out.box.frozen 0
          have k3 := HT3.out.box.frozen 1
          have k4 := fun o => (HT3.out.box.alloc o).cell 1 _ rfl
          have HOW2 : Hid (w6.ownsRow (w.heap.size + 1 + 1 + 1) 25 1 v2 x vals2) := hide (by have h := HT3.out.l2.own; rw [HTM.out] at h; exact h)
          have hobl := HT3.out.box.lt
          go_wp2_with (at_builtin; refine wpList_append_own_at _ rfl _ _ 22 rfl (w.heap.size + 1 + 1 + 1) 25 i2 (.slice none 0 0) 1 24 Try.underlying22 hj hy0 hy1 hy2 rfl (by decide) _ _ _ rfl (HOW2.out.alloc _) ⟨w6.heap.size, 0, none⟩ 1 1 [.slice A2 y c2'] rfl rfl ?c1 ?c2 ?c3 ?c4 ?c5 ?_)
          try (case c1 => exact l2_new)
          case c2 => first | rfl | (intro u hu; simp at hu; subst hu; rfl)
          case c3 => first | omega | (unfold maxLen; omega)
          case c4 => omega
          case c5 => first | omega | (simp; omega)
          intro v' w7 hown7 hgrow7 _ hat7
          obtain ⟨gg2, cap2, hv7⟩ := own_form hown7
          have hat8 := at_of hv7 hat7
          rw [hv7] at hown7 ⊢
          clear hat7 hv7
          have hat8' : v2.ownBlock = some gg2 ∨ gg2 = w6.heap.size + 1 := by rcases hat8 with e | e; exact .inl e; exact .inr (by simpa using e)
          have hbk := HT3.out.kept2 hgrow7
          have HT4 := hide (HT3.out.add2 (by decide) (.inr ⟨_, _, _, _, _, _, HTW.out, rfl, rfl, rfl⟩) (Nat.le_refl _) HRO4.out HTM.out (rowTo_len _ _ _) hown7 hgrow7 hat8')
          have HB4 := hide (HT3.out.below2 hgrow7 (.slice (some ⟨gg2, 0, none⟩) (x + 1) cap2) HB3.out (by omega))
          have HBX4 : Hid (Bxs (w7.setCell ⟨w.heap.size + 1 + 1, 1, none⟩ (.slice (some ⟨gg2, 0, none⟩) (x + 1) cap2)) (w.heap.size + 1 + 1) [(w.heap.size, 29, [.slice A n c, .slice B n d]), (w.heap.size + 1, 29, [.slice none 0 0, .slice none 0 0])]) := hide (HBX3.out.frame (fun k hk hkw => HT3.out.frame2 hgrow7 _ (by omega) (by omega) hkw))
          clear k0 k1 k2 k3 k4 hown7 hgrow7 hat8 hat8'
          have k0 := hbk.cell 0 _ rfl
          have k1 := hbk.cell 1 _ rfl
          have k2 := hbk.frozen 0
          have k3 := hbk.frozen 1
          clear hbk
          go_wp2_with fail
          go_roundw
          case rel =>
            refine ⟨x + 1, .slice (some ⟨gg, 0, none⟩) (x + 1) cap, .slice (some ⟨gg2, 0, none⟩) (x + 1) cap2, vals1 ++ [.slice A1 y c1], vals2 ++ [.slice A2 y c2'], by omega, by go_num, HB4.out, HBX4.out, ?_⟩
            rw [grid_take_row _ _ _ hlt, grid_take_row _ _ _ hlt]
            exact HT4.out
          case measure => simp [intOf]; omega
    · have hxn : x = k := by omega
      subst hxn
      obtain ⟨A1, c1, hv1, ho1⟩ := HTW.out.l1.shape
      obtain ⟨A2, c2', hv2, ho2⟩ := HTW.out.l2.shape
      rw [List.take_of_length_le (by rw [grid_length]; omega)] at hv1 ho1 hv2 ho2
      rw [grid_length] at hv1 hv2
      subst hv1
      subst hv2
      have HA1 := hide ho1
      have HA2 := hide ho2
      clear ho1 ho2
      have HR := hide (HBX.out.blk (b := w.heap.size + 1) (t := 29) (cs := [.slice none 0 0, .slice none 0 0]) (by simp))
      have k0 := HTW.out.box.cell 0 _ rfl
      have k1 := HTW.out.box.cell 1 _ rfl
      have k2 := HR.out.cell 0 _ rfl
      have k3 := HR.out.cell 1 _ rfl
      have k4 := HR.out.frozen 0
      have k5 := HR.out.frozen 1
      go_wp2_with fail
      refine bp_gen fun wf hwf => ?_
      obtain ⟨q0, q1, hbf, hof⟩ := wend2 (ts := 25) (t := 2) hwf HR.out (by omega) HB.out (ObjT.of HA1.out (by omega) (Nat.le_refl _)) (ObjT.of HA2.out (by omega) (Nat.le_refl _))
      clear hwf k0 k1 k2 k3 k4 k5
      exact bodyPost_ret (v := .agg #[.slice A1 x c1, .slice A2 x c2']) (by simp [results, Try.results74, go_sem, q0, q1]) rfl ⟨_, _, _, _, rfl, hbf, hof⟩
end Go.Proofs.Ytcmoeapgpljeiaa
namespace Go.Proofs.Ytcmoeapgpljeiaa
open Go Go.RowKit
set_option maxHeartbeats 1000000

set_option maxRecDepth 100000 in
theorem sbS_any (A : Option Addr) (n c : Nat) (f : List (List Int)) (B : Option Addr) (m d : Nat) (s : List (List Int)) (C : Option Addr) (k e : Nat) (set : List Int) (zf zg : List (List Int)) (code : Int) (kz kw : Nat) (w : World) (hz : ZArg 1048576 w A n f B m s) (hkl : set.length = k) (hkb : k ≤ 1048576) (hs : Rd w C set) (hr : SubRes f s set zf zg code) (hk : ZSz 1048576 zf kz zg kw) :
    Calls Try.prog 34 #[.agg #[.slice A n c, .slice B m d], .slice C k e] w (WPost 25 2 kz kw zf zg code w) := by
  have hnb := hz.sz.nb
  have HZ := hide hz
  have HFL := hide hz.sz.fl
  have HK := hide hkl
  have HS := hide hs
  rcases hr with ⟨hp, hi, hcl, rfl, rfl, rfl⟩ | ⟨hp, hi, hcl, rfl, rfl, rfl⟩ | ⟨hp, hi, rfl, rfl, rfl⟩ | ⟨hp, rfl, rfl, rfl⟩
  · have HP := hide hp
    have HI : Hid (IncSet n set) := hide (by rw [← hz.sz.fl]; exact hi)
    have HIF := hide hi
    have HCL := hide hcl
    have h12 := hz.small hp
    have hle := hi.le
    have hk12 : k ≤ 12 := by rw [hz.sz.fl] at hle; omega
    have h1k : 1 ≤ k := by have := hi.2; omega
    obtain rfl : k = kz := by rw [← hk.fl, grid_length, hkl]
    obtain rfl : k = kw := by rw [← hk.sl, grid_length, hkl]
    clear hz hk hkl hs hp hi hcl hle
    go_enter Try.func34, Try.ntmps34
    go_wp2_with fail
    refine calls_gen fun w0 hw0 => ?_
    have HF : Hid (FB w w0 (w0.heap.size - 1) [(w.heap.size + 1, 29, [.slice none 0 0, .slice none 0 0]), (w.heap.size, 29, [.slice A n c, .slice B m d])]) := hide (by
      have hb0 : Below w.heap.size w w0 := by rw [hw0]; exact ((Below.refl _ _).alloc (Nat.le_refl _) _).alloc (by simp) _
      have a1 : Blk w0 w.heap.size 29 [.slice A n c, .slice B m d] := by rw [hw0]; exact (Blk.new _ _ _).alloc _
      have a3 : Blk w0 (w.heap.size + 1) 29 [.slice none 0 0, .slice none 0 0] := by rw [hw0]; have h := Blk.new (w.alloc (Obj.cells #[Value.slice A n c, Value.slice B m d] 29)) 29 [.slice none 0 0, .slice none 0 0]; simpa using h
      refine FB.of hb0 a1.lt ?_
      simp only [List.forall_mem_cons]
      exact ⟨a3, a1, fun q hq => absurd hq (List.not_mem_nil)⟩)
    clear hw0
    refine (setCode_any _ _ _ f _ _ _ s _ _ _ set 0 _ (HZ.out.later HF.out.below) HK.out hkb (HS.out.later HF.out.below) (.inl ⟨HP.out, HIF.out, rfl⟩)).mono ?_
    rintro e' wd ⟨rfl, hbd⟩
    replace HF := hide (HF.out.later hbd)
    clear hbd
    have k0 := (HF.out.blk (b := w.heap.size) (t := 29) (cs := [.slice A n c, .slice B m d]) (by simp)).cell 0 _ rfl
    have k1 := (HF.out.blk (b := w.heap.size) (t := 29) (cs := [.slice A n c, .slice B m d]) (by simp)).cell 1 _ rfl
    go_wp2_with fail
    refine (l02Closed_any _ _ _ f _ _ _ s _ _ _ set true _ (HZ.out.later HF.out.below) HP.out HK.out HI.out (HS.out.later HF.out.below) ⟨fun _ => HCL.out, fun _ => rfl⟩).mono ?_
    rintro e' wd ⟨rfl, hbd⟩
    replace HF := hide (HF.out.later hbd)
    clear hbd
    clear k0 k1
    have k0 := (HF.out.blk (b := w.heap.size) (t := 29) (cs := [.slice A n c, .slice B m d]) (by simp)).cell 0 _ rfl
    have k1 := (HF.out.blk (b := w.heap.size) (t := 29) (cs := [.slice A n c, .slice B m d]) (by simp)).cell 1 _ rfl
    go_wp2_with fail
    refine (subS_any _ _ _ f _ _ _ s _ _ _ set _ (HZ.out.later HF.out.below) HP.out HK.out HI.out HCL.out (HS.out.later HF.out.below)).mono ?_
    rintro e' wd2 ⟨A3, c3, B3, d3, rfl, hbd, ho⟩
    have hRl := (HF.out.blk (b := w.heap.size + 1) (t := 29) (cs := [.slice none 0 0, .slice none 0 0]) (by simp)).lt
    have hws := HF.out.below.size
    replace HF := hide (HF.out.later hbd)
    have HO := hide ho
    clear hbd ho k0 k1
    have HR := hide (HF.out.blk (b := w.heap.size + 1) (t := 29) (cs := [.slice none 0 0, .slice none 0 0]) (by simp))
    have r0 := HR.out.cell 0 _ rfl
    have r1 := HR.out.cell 1 _ rfl
    have r2 := HR.out.frozen 0
    have r3 := HR.out.frozen 1
    go_wp2_with fail
    refine bp_gen fun wf hwf => ?_
    obtain ⟨q0, q1, hbf, hof⟩ := wend hwf HR.out (by omega) hRl HF.out.below hws HO.out
    clear hwf r0 r1 r2 r3
    rw [HK.out]
    exact bodyPost_ret (v := .tuple #[.agg #[.slice A3 k c3, .slice B3 k d3], .int .i64 0]) (by simp [results, Try.results34, go_sem, q0, q1]) rfl ⟨_, _, _, _, rfl, hbf, hof⟩
  · have HP := hide hp
    have HI : Hid (IncSet n set) := hide (by rw [← hz.sz.fl]; exact hi)
    have HIF := hide hi
    have HCL := hide hcl
    obtain rfl : kz = 0 := by simpa using hk.fl.symm
    obtain rfl : kw = 0 := by simpa using hk.sl.symm
    clear hk
    clear hz hkl hs hp hi hcl
    go_enter Try.func34, Try.ntmps34
    go_wp2_with fail
    refine calls_gen fun w0 hw0 => ?_
    have HF : Hid (FB w w0 (w0.heap.size - 1) [(w.heap.size + 1, 29, [.slice none 0 0, .slice none 0 0]), (w.heap.size, 29, [.slice A n c, .slice B m d])]) := hide (by
      have hb0 : Below w.heap.size w w0 := by rw [hw0]; exact ((Below.refl _ _).alloc (Nat.le_refl _) _).alloc (by simp) _
      have a1 : Blk w0 w.heap.size 29 [.slice A n c, .slice B m d] := by rw [hw0]; exact (Blk.new _ _ _).alloc _
      have a3 : Blk w0 (w.heap.size + 1) 29 [.slice none 0 0, .slice none 0 0] := by rw [hw0]; have h := Blk.new (w.alloc (Obj.cells #[Value.slice A n c, Value.slice B m d] 29)) 29 [.slice none 0 0, .slice none 0 0]; simpa using h
      refine FB.of hb0 a1.lt ?_
      simp only [List.forall_mem_cons]
      exact ⟨a3, a1, fun q hq => absurd hq (List.not_mem_nil)⟩)
    clear hw0
    refine (setCode_any _ _ _ f _ _ _ s _ _ _ set 0 _ (HZ.out.later HF.out.below) HK.out hkb (HS.out.later HF.out.below) (.inl ⟨HP.out, HIF.out, rfl⟩)).mono ?_
    rintro e' wd ⟨rfl, hbd⟩
    replace HF := hide (HF.out.later hbd)
    clear hbd
    have k0 := (HF.out.blk (b := w.heap.size) (t := 29) (cs := [.slice A n c, .slice B m d]) (by simp)).cell 0 _ rfl
    have k1 := (HF.out.blk (b := w.heap.size) (t := 29) (cs := [.slice A n c, .slice B m d]) (by simp)).cell 1 _ rfl
    go_wp2_with fail
    refine (l02Closed_any _ _ _ f _ _ _ s _ _ _ set false _ (HZ.out.later HF.out.below) HP.out HK.out HI.out (HS.out.later HF.out.below) ⟨fun h => (by cases h), fun h => absurd h HCL.out⟩).mono ?_
    rintro e' wd ⟨rfl, hbd⟩
    replace HF := hide (HF.out.later hbd)
    clear hbd
    clear k0 k1
    have HR := hide (HF.out.blk (b := w.heap.size + 1) (t := 29) (cs := [.slice none 0 0, .slice none 0 0]) (by simp))
    have r0 := HR.out.cell 0 _ rfl
    have r1 := HR.out.cell 1 _ rfl
    have r2 := HR.out.frozen 0
    have r3 := HR.out.frozen 1
    go_wp2_with fail
    refine bp_gen fun wf hwf => ?_
    obtain ⟨q0, q1, hbf, hof⟩ := wend (ts := 25) (t := 2) (w2 := wd) hwf HR.out (by omega) HR.out.lt HF.out.below HF.out.below.size ObjW.empty
    clear hwf r0 r1 r2 r3
    exact bodyPost_ret (v := .tuple #[.agg #[.slice none 0 0, .slice none 0 0], .int .i64 5]) (by simp [results, Try.results34, go_sem, q0, q1]) rfl ⟨_, _, _, _, rfl, hbf, hof⟩
  · have HP := hide hp
    have HI := hide hi
    obtain rfl : kz = 0 := by simpa using hk.fl.symm
    obtain rfl : kw = 0 := by simpa using hk.sl.symm
    clear hk
    clear hz hkl hs hp hi
    go_enter Try.func34, Try.ntmps34
    go_wp2_with fail
    refine calls_gen fun w0 hw0 => ?_
    have HF : Hid (FB w w0 (w0.heap.size - 1) [(w.heap.size + 1, 29, [.slice none 0 0, .slice none 0 0]), (w.heap.size, 29, [.slice A n c, .slice B m d])]) := hide (by
      have hb0 : Below w.heap.size w w0 := by rw [hw0]; exact ((Below.refl _ _).alloc (Nat.le_refl _) _).alloc (by simp) _
      have a1 : Blk w0 w.heap.size 29 [.slice A n c, .slice B m d] := by rw [hw0]; exact (Blk.new _ _ _).alloc _
      have a3 : Blk w0 (w.heap.size + 1) 29 [.slice none 0 0, .slice none 0 0] := by rw [hw0]; have h := Blk.new (w.alloc (Obj.cells #[Value.slice A n c, Value.slice B m d] 29)) 29 [.slice none 0 0, .slice none 0 0]; simpa using h
      refine FB.of hb0 a1.lt ?_
      simp only [List.forall_mem_cons]
      exact ⟨a3, a1, fun q hq => absurd hq (List.not_mem_nil)⟩)
    clear hw0
    refine (setCode_any _ _ _ f _ _ _ s _ _ _ set 2 _ (HZ.out.later HF.out.below) HK.out hkb (HS.out.later HF.out.below) (.inr (.inl ⟨HP.out, HI.out, rfl⟩))).mono ?_
    rintro e' wd ⟨rfl, hbd⟩
    replace HF := hide (HF.out.later hbd)
    clear hbd
    have HR := hide (HF.out.blk (b := w.heap.size + 1) (t := 29) (cs := [.slice none 0 0, .slice none 0 0]) (by simp))
    have r0 := HR.out.cell 0 _ rfl
    have r1 := HR.out.cell 1 _ rfl
    have r2 := HR.out.frozen 0
    have r3 := HR.out.frozen 1
    go_wp2_with fail
    refine bp_gen fun wf hwf => ?_
    obtain ⟨q0, q1, hbf, hof⟩ := wend (ts := 25) (t := 2) (w2 := wd) hwf HR.out (by omega) HR.out.lt HF.out.below HF.out.below.size ObjW.empty
    clear hwf r0 r1 r2 r3
    exact bodyPost_ret (v := .tuple #[.agg #[.slice none 0 0, .slice none 0 0], .int .i64 2]) (by simp [results, Try.results34, go_sem, q0, q1]) rfl ⟨_, _, _, _, rfl, hbf, hof⟩
  · have HP := hide hp
    obtain rfl : kz = 0 := by simpa using hk.fl.symm
    obtain rfl : kw = 0 := by simpa using hk.sl.symm
    clear hk
    clear hz hkl hs hp
    go_enter Try.func34, Try.ntmps34
    go_wp2_with fail
    refine calls_gen fun w0 hw0 => ?_
    have HF : Hid (FB w w0 (w0.heap.size - 1) [(w.heap.size + 1, 29, [.slice none 0 0, .slice none 0 0]), (w.heap.size, 29, [.slice A n c, .slice B m d])]) := hide (by
      have hb0 : Below w.heap.size w w0 := by rw [hw0]; exact ((Below.refl _ _).alloc (Nat.le_refl _) _).alloc (by simp) _
      have a1 : Blk w0 w.heap.size 29 [.slice A n c, .slice B m d] := by rw [hw0]; exact (Blk.new _ _ _).alloc _
      have a3 : Blk w0 (w.heap.size + 1) 29 [.slice none 0 0, .slice none 0 0] := by rw [hw0]; have h := Blk.new (w.alloc (Obj.cells #[Value.slice A n c, Value.slice B m d] 29)) 29 [.slice none 0 0, .slice none 0 0]; simpa using h
      refine FB.of hb0 a1.lt ?_
      simp only [List.forall_mem_cons]
      exact ⟨a3, a1, fun q hq => absurd hq (List.not_mem_nil)⟩)
    clear hw0
    refine (setCode_any _ _ _ f _ _ _ s _ _ _ set 1 _ (HZ.out.later HF.out.below) HK.out hkb (HS.out.later HF.out.below) (.inr (.inr ⟨HP.out, rfl⟩))).mono ?_
    rintro e' wd ⟨rfl, hbd⟩
    replace HF := hide (HF.out.later hbd)
    clear hbd
    have HR := hide (HF.out.blk (b := w.heap.size + 1) (t := 29) (cs := [.slice none 0 0, .slice none 0 0]) (by simp))
    have r0 := HR.out.cell 0 _ rfl
    have r1 := HR.out.cell 1 _ rfl
    have r2 := HR.out.frozen 0
    have r3 := HR.out.frozen 1
    go_wp2_with fail
    refine bp_gen fun wf hwf => ?_
    obtain ⟨q0, q1, hbf, hof⟩ := wend (ts := 25) (t := 2) (w2 := wd) hwf HR.out (by omega) HR.out.lt HF.out.below HF.out.below.size ObjW.empty
    clear hwf r0 r1 r2 r3
    exact bodyPost_ret (v := .tuple #[.agg #[.slice none 0 0, .slice none 0 0], .int .i64 1]) (by simp [results, Try.results34, go_sem, q0, q1]) rfl ⟨_, _, _, _, rfl, hbf, hof⟩
end Go.Proofs.Ytcmoeapgpljeiaa
