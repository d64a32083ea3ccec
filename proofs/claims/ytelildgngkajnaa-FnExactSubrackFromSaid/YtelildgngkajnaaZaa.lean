import Derived.Test.YtelildgngkajnaaZy
import Derived.Test.YtelildgngkajnaaZx
import Derived.Test.YtelildgngkajnaaZu
namespace Go.Proofs.Ytelildgngkajnaa
open Go Go.RowKit
set_option maxHeartbeats 2000000

set_option maxRecDepth 100000 in
theorem sfI_any (A : Option Addr) (n c : Nat) (f : List (List Int)) (B : Option Addr) (m d : Nat) (xs : List Int) (zs : List Int) (code : Int) (k : Nat) (w : World) (hn : f.length = n) (hb : n ≤ 1048576) (hbs : ∀ i, i < f.length → (f.getD i []).length ≤ 1048576) (hr : Rd2 w A f) (hm : xs.length = m) (hbm : m ≤ 1048576) (hx : Rd w B xs) (hres : SfRes f xs zs code) (hk : zs.length = k) :
    Calls Try.prog 52 #[.agg #[.slice A n c], .slice B m d] w (RPost 2 k zs code w) := by
  have HN := hide hn
  have HBS := hide hbs
  have HRD := hide hr
  have HM := hide hm
  have HX := hide hx
  have HB0 := hide ((Below.refl _ w).alloc (Nat.le_refl _) (Obj.cells #[Value.slice A n c] 53))
  have HK0 := hide (Blk.new w 53 [.slice A n c])
  rcases hres with ⟨V, ⟨h1, h2, h3⟩, hl, rfl, rfl⟩ | ⟨h1, rfl, rfl⟩ | ⟨h1, h2, rfl, rfl⟩ | ⟨h1, h2, h3, rfl, rfl⟩
  · have HTB := hide h1.tbl
    have h1n : 1 ≤ n := by rw [← hn]; exact h1.tbl.1
    have h12 : n ≤ 12 := by rw [← hn]; exact h1.tbl.2.1
    have HE : Hid (Els n xs) := hide (by rw [← hn]; exact h2)
    have hm0 : 0 < m := by rw [← hm]; exact Nat.pos_of_ne_zero (fun h => h3 (List.eq_nil_of_length_eq_zero h))
    have hmz : ((m : Int) == 0) = false := by simpa using (by omega : ¬ (m : Int) = 0)
    have HLE : Hid (LeastS f n (sN xs m) V) := hide (by rw [← hn, ← hm]; exact hl)
    have HKK : Hid ((memL n V).length = k) := hide (by rw [← hn]; exact hk)
    have HFL := hide hn
    have HRK : Hid (RkRes f true) := hide (by unfold RkRes; simp [h1])
    clear hn hbs hr hm hx h1 h2 h3 hl hk
    rw [HFL.out]
    go_enter Try.func52, Try.ntmps52
    go_wp2_with fail
    refine (isRackI _ _ _ f true _ HN.out hb HBS.out (HRD.out.later HB0.out) HRK.out).mono ?_
    rintro e w1 ⟨rfl, hb1⟩
    have HB1 := hide (HB0.out.trans (hb1.mono HB0.out.size))
    have HK1 := hide (HK0.out.later hb1)
    clear hb1
    have k0 := HK1.out.cell 0 _ rfl
    go_wp2_with fail
    clear k0
    refine (ksize_any _ n _ _ hb).mono ?_
    rintro e wz ⟨rfl, hbz⟩
    replace HB1 := hide (HB1.out.trans (hbz.mono HB1.out.size))
    replace HK1 := hide (HK1.out.later hbz)
    clear hbz
    go_wp2_with fail
    refine (areEls_any n _ _ _ xs true _ HM.out hbm (HX.out.later HB1.out) (by simp [HE.out])).mono ?_
    rintro e w2 ⟨rfl, hb2⟩
    have HB2 := hide (HB1.out.trans (hb2.mono HB1.out.size))
    have HK2 := hide (HK1.out.later hb2)
    clear hb2
    go_wp2_with fail
    refine (setOf_any n _ _ _ xs _ h12 HM.out hbm (HX.out.later HB2.out) HE.out).mono ?_
    rintro e w3 ⟨rfl, hb3⟩
    have HB3 := hide (HB2.out.trans (hb3.mono HB2.out.size))
    have HK3 := hide (HK2.out.later hb3)
    clear hb3
    have hSlt := sN_lt HE.out (k := m) (by have := HM.out; omega)
    have hSne := sN_ne (xs := xs) hm0
    obtain ⟨S, hSe⟩ : ∃ S, sN xs m = S := ⟨_, rfl⟩
    rw [hSe] at hSlt hSne HLE ⊢
    have HNE := hide hSne
    have HLT := hide hSlt
    clear hSe hSne hSlt
    go_wp2_with fail
    go_loopw [6] (fun s wr => ∃ T : Nat, s = .int .i64 T ∧ Below w.heap.size w wr ∧ Blk wr w.heap.size 53 [.slice A n c] ∧ T < 2 ^ n ∧ (∀ x, inb S x → inb T x) ∧ Under f S T) (fun s _ => 4096 - (intOf s).toNat)
    case atStart => exact ⟨S, rfl, HB3.out, HK3.out, HLT.out, fun x h => h, fun T _ hs => hs⟩
    case round =>
      obtain ⟨T, rfl, hbe, hkk, hlt, hup, hun⟩ := hrel
      have HB := hide hbe
      have HK := hide hkk
      have HTL := hide hlt
      have HUP := hide hup
      have HUN := hide hun
      have hT12 : T < 4096 := Nat.lt_of_lt_of_le hlt (pow_le n h12)
      have HNZ : Hid (T ≠ 0) := hide (fun e => HNE.out (inb_eq (fun x => ⟨fun h => by have := hup x h; rw [e] at this; exact this, fun h => absurd h (inb_zero x)⟩)))
      clear hbe hkk hlt hup hun
      have k0 := HK.out.cell 0 _ rfl
      go_wp2_with fail
      clear k0
      by_cases hc : ClosedF f T
      · have HC := hide hc
        clear hc
        refine (isSubrack_any _ n _ f T true _ HN.out HTB.out (HRD.out.later HB.out) HTL.out (by simp only [true_iff]; exact ⟨HNZ.out, HC.out⟩)).mono ?_
        rintro e w5 ⟨rfl, hb5⟩
        have HB5 := hide (HB.out.trans (hb5.mono HB.out.size))
        clear hb5
        have HVT : Hid (V = T) := hide (HLE.out.uniq ⟨HTL.out, HC.out, HUP.out, HUN.out⟩)
        go_wp2_with fail
        refine (membersOf_any T _ hT12).mono ?_
        rintro e w6 ⟨B6, d6, rfl, hb6, hres6⟩
        have HB6 := hide (HB5.out.trans (hb6.mono HB5.out.size))
        have HR6 := hide (hres6.mono HB5.out.size)
        clear hb6 hres6
        have HMM : Hid (mems 12 T = mems n T) := hide (mems_more HTL.out 12 h12)
        go_wp2_with fail
        go_ret2
        refine ⟨_, _, by rw [← HKK.out, memL_length, HVT.out, HMM.out]; rfl, HB6.out, ?_⟩
        have h := HR6.out
        unfold memL at h ⊢
        rw [HMM.out] at h
        rw [HVT.out]
        exact h
      · have HC := hide hc
        clear hc
        refine (isSubrack_any _ n _ f T false _ HN.out HTB.out (HRD.out.later HB.out) HTL.out (by simp only [Bool.false_eq_true, false_iff]; exact fun h => HC.out h.2)).mono ?_
        rintro e w5 ⟨rfl, hb5⟩
        have HB5 := hide (HB.out.trans (hb5.mono HB.out.size))
        have HK5 := hide (HK.out.later hb5)
        clear hb5
        have k0 := HK5.out.cell 0 _ rfl
        go_wp2_with fail
        clear k0
        refine (grownK_any _ n _ f T _ HN.out HTB.out (HRD.out.later HB5.out) HTL.out).mono ?_
        rintro e w6 ⟨T2, rfl, hb6, hg, hl2⟩
        have HB6 := hide (HB5.out.trans (hb6.mono HB5.out.size))
        have HK6 := hide (HK5.out.later hb6)
        have HUP2 : Hid (∀ x, inb S x → inb T2 x) := hide (fun x h => (hg x).2 (.inl (HUP.out x h)))
        have HUN2 : Hid (Under f S T2) := hide (HUN.out.grow hg)
        have hle : T ≤ T2 := set_sub_le (fun x h => (hg x).2 (.inl h))
        have hne : T2 ≠ T := fun h => HC.out (hg.closed.1 h)
        have hT212 : T2 < 4096 := Nat.lt_of_lt_of_le hl2 (pow_le n h12)
        have HL2 := hide hl2
        clear hb6 hg hl2
        go_wp2_with fail
        go_roundw
        case rel => exact ⟨T2, rfl, HB6.out, HK6.out, HL2.out, HUP2.out, HUN2.out⟩
        case measure => simp [intOf]; omega
  · have hk0 : k = 0 := by rw [← hk]; rfl
    subst hk0
    have HRK : Hid (RkRes f false) := hide (by unfold RkRes; simp [h1])
    clear hn hbs hr hm hx h1 hk
    go_enter Try.func52, Try.ntmps52
    go_wp2_with fail
    refine (isRackI _ _ _ f false _ HN.out hb HBS.out (HRD.out.later HB0.out) HRK.out).mono ?_
    rintro e w1 ⟨rfl, hb1⟩
    have HB1 := hide (HB0.out.trans (hb1.mono HB0.out.size))
    have HK1 := hide (HK0.out.later hb1)
    clear hb1
    go_wp2_with fail
    go_ret2
    exact ⟨_, _, rfl, HB1.out, .inl ⟨rfl, rfl⟩⟩
  · have hk0 : k = 0 := by rw [← hk]; rfl
    subst hk0
    have HE : Hid (¬ Els n xs) := hide (by rw [← hn]; exact h2)
    have HRK : Hid (RkRes f true) := hide (by unfold RkRes; simp [h1])
    clear hn hbs hr hm hx h1 h2 hk
    go_enter Try.func52, Try.ntmps52
    go_wp2_with fail
    refine (isRackI _ _ _ f true _ HN.out hb HBS.out (HRD.out.later HB0.out) HRK.out).mono ?_
    rintro e w1 ⟨rfl, hb1⟩
    have HB1 := hide (HB0.out.trans (hb1.mono HB0.out.size))
    have HK1 := hide (HK0.out.later hb1)
    clear hb1
    have k0 := HK1.out.cell 0 _ rfl
    go_wp2_with fail
    clear k0
    refine (ksize_any _ n _ _ hb).mono ?_
    rintro e wz ⟨rfl, hbz⟩
    replace HB1 := hide (HB1.out.trans (hbz.mono HB1.out.size))
    replace HK1 := hide (HK1.out.later hbz)
    clear hbz
    go_wp2_with fail
    refine (areEls_any n _ _ _ xs false _ HM.out hbm (HX.out.later HB1.out) (by simp [HE.out])).mono ?_
    rintro e w2 ⟨rfl, hb2⟩
    have HB2 := hide (HB1.out.trans (hb2.mono HB1.out.size))
    have HK2 := hide (HK1.out.later hb2)
    clear hb2
    go_wp2_with fail
    go_ret2
    exact ⟨_, _, rfl, HB2.out, .inl ⟨rfl, rfl⟩⟩
  · have hk0 : k = 0 := by rw [← hk]; rfl
    subst hk0
    have HE : Hid (Els n xs) := hide (by rw [← hn]; exact h2)
    have hm0 : m = 0 := by rw [← hm, h3]; rfl
    subst hm0
    have HRK : Hid (RkRes f true) := hide (by unfold RkRes; simp [h1])
    clear hn hbs hr hm hx h1 h2 h3 hk
    go_enter Try.func52, Try.ntmps52
    go_wp2_with fail
    refine (isRackI _ _ _ f true _ HN.out hb HBS.out (HRD.out.later HB0.out) HRK.out).mono ?_
    rintro e w1 ⟨rfl, hb1⟩
    have HB1 := hide (HB0.out.trans (hb1.mono HB0.out.size))
    have HK1 := hide (HK0.out.later hb1)
    clear hb1
    have k0 := HK1.out.cell 0 _ rfl
    go_wp2_with fail
    clear k0
    refine (ksize_any _ n _ _ hb).mono ?_
    rintro e wz ⟨rfl, hbz⟩
    replace HB1 := hide (HB1.out.trans (hbz.mono HB1.out.size))
    replace HK1 := hide (HK1.out.later hbz)
    clear hbz
    go_wp2_with fail
    refine (areEls_any n _ 0 _ xs true _ HM.out hbm (HX.out.later HB1.out) (by simp [HE.out])).mono ?_
    rintro e w2 ⟨rfl, hb2⟩
    have HB2 := hide (HB1.out.trans (hb2.mono HB1.out.size))
    have HK2 := hide (HK1.out.later hb2)
    clear hb2
    go_wp2_with fail
    go_ret2
    exact ⟨_, _, rfl, HB2.out, .inl ⟨rfl, rfl⟩⟩
end Go.Proofs.Ytelildgngkajnaa
namespace Go.Proofs.Ytelildgngkajnaa
open Go Go.RowKit
set_option maxHeartbeats 4000000

set_option maxRecDepth 100000 in
theorem sfS_any (A : Option Addr) (n c : Nat) (f : List (List Int)) (B : Option Addr) (m d : Nat) (xs : List Int) (zs : List Int) (code : Int) (k : Nat) (w : World) (hn : f.length = n) (hb : n ≤ 1048576) (hbs : ∀ i, i < f.length → (f.getD i []).length ≤ 1048576) (hr : Rd2 w A f) (hm : xs.length = m) (hbm : m ≤ 1048576) (hx : Rd w B xs) (hres : SfRes f xs zs code) (hk : zs.length = k) :
    Calls Try.prog 49 #[.agg #[.slice A n c], .slice B m d] w (RPost 2 k zs code w) := by
  have HN := hide hn
  have HBS := hide hbs
  have HRD := hide hr
  have HM := hide hm
  have HX := hide hx
  have HB0 := hide ((Below.refl _ w).alloc (Nat.le_refl _) (Obj.cells #[Value.slice A n c] 53))
  have HK0 := hide (Blk.new w 53 [.slice A n c])
  rcases hres with ⟨V, ⟨h1, h2, h3⟩, hl, rfl, rfl⟩ | ⟨h1, rfl, rfl⟩ | ⟨h1, h2, rfl, rfl⟩ | ⟨h1, h2, h3, rfl, rfl⟩
  · have HTB := hide h1.tbl
    have h1n : 1 ≤ n := by rw [← hn]; exact h1.tbl.1
    have h12 : n ≤ 12 := by rw [← hn]; exact h1.tbl.2.1
    have HE : Hid (Els n xs) := hide (by rw [← hn]; exact h2)
    have hm0 : 0 < m := by rw [← hm]; exact Nat.pos_of_ne_zero (fun h => h3 (List.eq_nil_of_length_eq_zero h))
    have hmz : ((m : Int) == 0) = false := by simpa using (by omega : ¬ (m : Int) = 0)
    have HLE : Hid (LeastS f n (sN xs m) V) := hide (by rw [← hn, ← hm]; exact hl)
    have HKK : Hid ((memL n V).length = k) := hide (by rw [← hn]; exact hk)
    have HFL := hide hn
    have HRK : Hid (RkRes f true) := hide (by unfold RkRes; simp [h1])
    clear hn hbs hr hm hx h1 h2 h3 hl hk
    rw [HFL.out]
    go_enter Try.func49, Try.ntmps49
    go_wp2_with fail
    refine (isRackS _ _ _ f true _ HN.out hb HBS.out (HRD.out.later HB0.out) HRK.out).mono ?_
    rintro e w1 ⟨rfl, hb1⟩
    have HB1 := hide (HB0.out.trans (hb1.mono HB0.out.size))
    have HK1 := hide (HK0.out.later hb1)
    clear hb1
    have k0 := HK1.out.cell 0 _ rfl
    go_wp2_with fail
    clear k0
    refine (l04Elements_any n _ _ _ xs true _ hb HM.out hbm (HX.out.later HB1.out) (by simp [HE.out])).mono ?_
    rintro e w2 ⟨rfl, hb2⟩
    have HB2 := hide (HB1.out.trans (hb2.mono HB1.out.size))
    have HK2 := hide (HK1.out.later hb2)
    clear hb2
    have k0 := HK2.out.cell 0 _ rfl
    go_wp2_with fail
    clear k0
    go_loopw [6, 7] (fun s i wr => ∃ k : Nat, k ≤ m ∧ i = .int .i64 k ∧ s = .int .i64 (sN xs k) ∧ Below w.heap.size w wr ∧ Blk wr w.heap.size 53 [.slice A n c]) (fun _ i _ => m - (intOf i).toNat)
    case atStart => exact ⟨0, Nat.zero_le _, rfl, rfl, HB2.out, HK2.out⟩
    case round =>
      obtain ⟨j, hj, rfl, rfl, hbe, hkk⟩ := hrel
      have HB := hide hbe
      have HK := hide hkk
      clear hbe hkk
      have hS : sN xs j < 4096 := Nat.lt_of_lt_of_le (sN_lt HE.out (by have := HM.out; omega)) (pow_le n h12)
      have hs1 : sN xs (j + 1) = sN xs j ||| 2 ^ el xs j := rfl
      obtain ⟨S, hSe⟩ : ∃ S, sN xs j = S := ⟨_, rfl⟩
      rw [hSe] at hS hs1 ⊢
      have HSE := hide hSe
      clear hSe
      by_cases hlt : j < m
      · obtain ⟨b, o, rfl, hbw, hc⟩ := HX.out (by have := HM.out; omega)
        have hv := HE.out.val (i := j) (by have := HM.out; omega)
        have hc1 := (HB.out.cell (p := ⟨b, o + j, none⟩) hbw).trans (hc j (by have := HM.out; omega))
        rw [hv.1] at hc1
        have hv2 := hv.2
        obtain ⟨v, hve⟩ : ∃ v, el xs j = v := ⟨_, rfl⟩
        rw [hve] at hc1 hs1 hv2
        have hltz : (j : Int) < m := by omega
        obtain ⟨p, hp⟩ : ∃ p, 2 ^ v = p := ⟨_, rfl⟩
        have hp12 : p < 4096 := by rw [← hp]; exact Nat.lt_of_lt_of_le (Nat.pow_lt_pow_right (by decide) (by omega : v < 12)) (Nat.le_refl _)
        have g1 : (2 : Int) ^ v = (p : Int) := by rw [← hp]; simp
        have g2 := bt_or S p (by omega) (by omega)
        rw [hp] at hs1
        have hS2 : sN xs (j + 1) < 4096 := Nat.lt_of_lt_of_le (sN_lt HE.out (by have := HM.out; omega)) (pow_le n h12)
        obtain ⟨S2, hS2e⟩ : ∃ S2, S ||| p = S2 := ⟨_, rfl⟩
        rw [hS2e] at hs1 g2
        rw [hs1] at hS2
        have HS1 := hide hs1
        clear hve hp hS2e hs1 hc hv
        go_wp2_with fail
        go_roundw
        case rel => exact ⟨j + 1, by omega, by go_num, by rw [HS1.out], HB.out, HK.out⟩
        case measure => simp [intOf]; omega
      · have hkn : j = m := by omega
        subst hkn
        have hSlt : S < 2 ^ n := by rw [← HSE.out]; exact sN_lt HE.out (by have := HM.out; omega)
        rw [HSE.out] at HLE
        have HLT := hide hSlt
        clear hSlt
        obtain ⟨bt, ot, hA, hbt, hct⟩ := HTB.out.cells HRD.out HN.out
        subst hA
        have HT := hide hct
        clear hct
        go_wp2_with fail
        go_loopw [6] (fun s wr => ∃ T : Nat, s = .int .i64 T ∧ Below w.heap.size w wr ∧ Blk wr w.heap.size 53 [.slice (some ⟨bt, ot, none⟩) n c] ∧ T < 2 ^ n ∧ (∀ x, inb S x → inb T x) ∧ Under f S T) (fun s _ => 4096 - (intOf s).toNat)
        case atStart => exact ⟨S, rfl, HB.out, HK.out, HLT.out, fun x h => h, fun T _ hs => hs⟩
        case round =>
          clear HB HK
          obtain ⟨T, rfl, hbe, hkk, hlt, hup, hun⟩ := hrel
          have HB := hide hbe
          have HK := hide hkk
          have HTL := hide hlt
          have HUP := hide hup
          have HUN := hide hun
          have hT12 : T < 4096 := Nat.lt_of_lt_of_le hlt (pow_le n h12)
          clear hbe hkk hlt hup hun
          have k0 := HK.out.cell 0 _ rfl
          go_wp2_with fail
          clear k0
          by_cases hc : ClosedF f T
          · have HC := hide hc
            clear hc
            refine (l04Closed_any _ n _ f T true _ HN.out HTB.out (HRD.out.later HB.out) HTL.out (by simp only [true_iff]; exact HC.out)).mono ?_
            rintro e w5 ⟨rfl, hb5⟩
            have HB5 := hide (HB.out.trans (hb5.mono HB.out.size))
            have HK5 := hide (HK.out.later hb5)
            clear hb5
            have HVT : Hid (V = T) := hide (HLE.out.uniq ⟨HTL.out, HC.out, HUP.out, HUN.out⟩)
            have k0 := HK5.out.cell 0 _ rfl
            go_wp2_with fail
            clear k0
            refine (l04Members_any n T _ h12 hT12).mono ?_
            rintro e w6 ⟨B6, d6, rfl, hb6, hres6⟩
            have HB6 := hide (HB5.out.trans (hb6.mono HB5.out.size))
            have HR6 := hide (hres6.mono HB5.out.size)
            clear hb6 hres6
            go_wp2_with fail
            go_ret2
            exact ⟨_, _, by rw [← HKK.out, memL_length, HVT.out]; rfl, HB6.out, by rw [HVT.out]; exact HR6.out⟩
          · have HC := hide hc
            clear hc
            refine (l04Closed_any _ n _ f T false _ HN.out HTB.out (HRD.out.later HB.out) HTL.out (by simp only [Bool.false_eq_true, false_iff]; exact HC.out)).mono ?_
            rintro e w5 ⟨rfl, hb5⟩
            have HB5 := hide (HB.out.trans (hb5.mono HB.out.size))
            have HK5 := hide (HK.out.later hb5)
            clear hb5
            go_wp2_with fail
            go_loopw [6, 8] (fun s i wr => ∃ (x M : Nat), x ≤ n ∧ i = .int .i64 x ∧ s = .int .i64 M ∧ Below w.heap.size w wr ∧ Blk wr w.heap.size 53 [.slice (some ⟨bt, ot, none⟩) n c] ∧ M < 2 ^ n ∧ (∀ x, inb T x → inb M x) ∧ Under f S M ∧ ∀ x', x' < x → ∀ y', y' < n → inb T x' → inb T y' → inb M (ap f x' y')) (fun _ i _ => n - (intOf i).toNat)
            case atStart => exact ⟨0, T, Nat.zero_le _, rfl, rfl, HB5.out, HK5.out, HTL.out, fun x h => h, HUN.out, fun i hi => absurd hi (Nat.not_lt_zero _)⟩
            case round =>
              obtain ⟨x, M, hxn', rfl, rfl, hbe, hkk, hml, hmu, hmn, hall⟩ := hrel
              have HBx := hide hbe
              have HKx := hide hkk
              have HML := hide hml
              have HMU := hide hmu
              have HMN := hide hmn
              have HALLX := hide hall
              clear hbe hkk hml hmu hmn hall
              have k0 := HKx.out.cell 0 _ rfl
              by_cases hltx : x < n
              · have hxz : (x : Int) < n := by omega
                go_wp2_with fail
                clear k0
                go_loopw [6, 9] (fun s i wr => ∃ (y M : Nat), y ≤ n ∧ i = .int .i64 y ∧ s = .int .i64 M ∧ Below w.heap.size w wr ∧ Blk wr w.heap.size 53 [.slice (some ⟨bt, ot, none⟩) n c] ∧ M < 2 ^ n ∧ (∀ x, inb T x → inb M x) ∧ Under f S M ∧ (∀ x', x' < x → ∀ y', y' < n → inb T x' → inb T y' → inb M (ap f x' y')) ∧ ∀ y', y' < y → inb T x → inb T y' → inb M (ap f x y')) (fun _ i _ => n - (intOf i).toNat)
                case atStart => exact ⟨0, M, Nat.zero_le _, rfl, rfl, HBx.out, HKx.out, HML.out, HMU.out, HMN.out, HALLX.out, fun i hi => absurd hi (Nat.not_lt_zero _)⟩
                case round =>
                  clear HBx HKx HML HMU HMN HALLX
                  obtain ⟨y, M, hyn', rfl, rfl, hbe, hkk, hml, hmu, hmn, hall, hally⟩ := hrel
                  have HBy := hide hbe
                  have HKy := hide hkk
                  have HML := hide hml
                  have HMU := hide hmu
                  have HMN := hide hmn
                  have HALLX := hide hall
                  have HALLY := hide hally
                  have hM12 : M < 4096 := Nat.lt_of_lt_of_le hml (pow_le n h12)
                  clear hbe hkk hml hmu hmn hall hally
                  have k0 := HKy.out.cell 0 _ rfl
                  by_cases hlty : y < n
                  · have hyz : (y : Int) < n := by omega
                    by_cases ix : inb M x
                    · have b1 := bt_in (by omega) ix
                      by_cases iy : inb M y
                      · have b2 := bt_in (by omega) iy
                        have hv := HTB.out.ap_lt HN.out hltx hlty
                        obtain ⟨bx, ox, cx, rx, lx, gx⟩ := HT.out x hltx
                        have t1 := gx y hlty
                        obtain ⟨v, hve⟩ : ∃ v, ap f x y = v := ⟨_, rfl⟩
                        rw [hve] at t1 hv
                        replace rx := (HBy.out.cell (p := ⟨bt, ot + x, none⟩) hbt).trans rx
                        replace t1 := (HBy.out.cell (p := ⟨bx, ox + y, none⟩) lx).trans t1
                        have HU := hide hve
                        have HUN2 : Hid (Under f S (M ||| 2 ^ v)) := hide (HMN.out.add ix iy hve)
                        have HLT2 : Hid (M ||| 2 ^ v < 2 ^ n) := hide (or_lt HML.out hv)
                        have HIN : Hid (∀ x, inb (M ||| 2 ^ v) x ↔ inb M x ∨ x = v) := hide (fun x => inb_or M v x)
                        obtain ⟨p, hp⟩ : ∃ p, 2 ^ v = p := ⟨_, rfl⟩
                        have hp12 : p < 4096 := by rw [← hp]; exact Nat.lt_of_lt_of_le (Nat.pow_lt_pow_right (by decide) (by omega : v < 12)) (Nat.le_refl _)
                        have g1 : (2 : Int) ^ v = (p : Int) := by rw [← hp]; simp
                        have g2 := bt_or M p (by omega) (by omega)
                        rw [hp] at HUN2 HLT2 HIN
                        obtain ⟨M2, hM2⟩ : ∃ M2, M ||| p = M2 := ⟨_, rfl⟩
                        rw [hM2] at HUN2 HLT2 HIN g2
                        have hM212 : M2 < 4096 := Nat.lt_of_lt_of_le HLT2.out (pow_le n h12)
                        clear gx hve ix iy hp hM2
                        go_wp2_with fail
                        go_roundw
                        case rel => exact ⟨y + 1, M2, by omega, by go_num, rfl, HBy.out, HKy.out, HLT2.out, fun x h => (HIN.out x).2 (.inl (HMU.out x h)), HUN2.out, fun x' hx' y' hy' h1 h2 => (HIN.out _).2 (.inl (HALLX.out x' hx' y' hy' h1 h2)), fun y' hy' h1 h2 => by
                          by_cases e : y' = y
                          · rw [e, HU.out]; exact (HIN.out v).2 (.inr rfl)
                          · exact (HIN.out _).2 (.inl (HALLY.out y' (by omega) h1 h2))⟩
                        case measure => simp [intOf]; omega
                      · have b2 := bt_out (by omega) iy
                        have HIY := hide iy
                        clear iy ix
                        go_wp2_with fail
                        go_roundw
                        case rel => exact ⟨y + 1, M, by omega, by go_num, rfl, HBy.out, HKy.out, HML.out, HMU.out, HMN.out, HALLX.out, fun y' hy' h1 h2 => by
                          by_cases e : y' = y
                          · exact absurd (HMU.out y (e ▸ h2)) HIY.out
                          · exact HALLY.out y' (by omega) h1 h2⟩
                        case measure => simp [intOf]; omega
                    · have b1 := bt_out (by omega) ix
                      have HIX := hide ix
                      clear ix
                      go_wp2_with fail
                      go_roundw
                      case rel => exact ⟨y + 1, M, by omega, by go_num, rfl, HBy.out, HKy.out, HML.out, HMU.out, HMN.out, HALLX.out, fun y' hy' h1 h2 => absurd (HMU.out x h1) HIX.out⟩
                      case measure => simp [intOf]; omega
                  · have hye : y = n := by omega
                    subst hye
                    go_wp2_with fail
                    go_roundw
                    case rel => exact ⟨x + 1, M, by omega, by go_num, rfl, HBy.out, HKy.out, HML.out, HMU.out, HMN.out, fun x' hx' y' hy' h1 h2 => by
                      by_cases e : x' = x
                      · rw [e] at h1 ⊢; exact HALLY.out y' hy' h1 h2
                      · exact HALLX.out x' (by omega) y' hy' h1 h2⟩
                    case measure => simp [intOf]; omega
              · have hxe : x = n := by omega
                subst hxe
                have hM12 : M < 4096 := Nat.lt_of_lt_of_le HML.out (pow_le x h12)
                have hle : T ≤ M := set_sub_le HMU.out
                have hne : M ≠ T := fun h => HC.out (fun a b ha hb => by have h3 := HALLX.out a (inb_lt HTL.out ha) b (inb_lt HTL.out hb) ha hb; rw [h] at h3; exact h3)
                go_wp2_with fail
                go_roundw
                case rel => exact ⟨M, rfl, HBx.out, HKx.out, HML.out, fun x h => HMU.out x (HUP.out x h), HMN.out⟩
                case measure => simp [intOf]; omega
  · have hk0 : k = 0 := by rw [← hk]; rfl
    subst hk0
    have HRK : Hid (RkRes f false) := hide (by unfold RkRes; simp [h1])
    clear hn hbs hr hm hx h1 hk
    go_enter Try.func49, Try.ntmps49
    go_wp2_with fail
    refine (isRackS _ _ _ f false _ HN.out hb HBS.out (HRD.out.later HB0.out) HRK.out).mono ?_
    rintro e w1 ⟨rfl, hb1⟩
    have HB1 := hide (HB0.out.trans (hb1.mono HB0.out.size))
    have HK1 := hide (HK0.out.later hb1)
    clear hb1
    go_wp2_with fail
    go_ret2
    exact ⟨_, _, rfl, HB1.out, .inl ⟨rfl, rfl⟩⟩
  · have hk0 : k = 0 := by rw [← hk]; rfl
    subst hk0
    have HE : Hid (¬ Els n xs) := hide (by rw [← hn]; exact h2)
    have HRK : Hid (RkRes f true) := hide (by unfold RkRes; simp [h1])
    clear hn hbs hr hm hx h1 h2 hk
    go_enter Try.func49, Try.ntmps49
    go_wp2_with fail
    refine (isRackS _ _ _ f true _ HN.out hb HBS.out (HRD.out.later HB0.out) HRK.out).mono ?_
    rintro e w1 ⟨rfl, hb1⟩
    have HB1 := hide (HB0.out.trans (hb1.mono HB0.out.size))
    have HK1 := hide (HK0.out.later hb1)
    clear hb1
    have k0 := HK1.out.cell 0 _ rfl
    go_wp2_with fail
    clear k0
    refine (l04Elements_any n _ _ _ xs false _ hb HM.out hbm (HX.out.later HB1.out) (by simp [HE.out])).mono ?_
    rintro e w2 ⟨rfl, hb2⟩
    have HB2 := hide (HB1.out.trans (hb2.mono HB1.out.size))
    have HK2 := hide (HK1.out.later hb2)
    clear hb2
    go_wp2_with fail
    go_ret2
    exact ⟨_, _, rfl, HB2.out, .inl ⟨rfl, rfl⟩⟩
  · have hk0 : k = 0 := by rw [← hk]; rfl
    subst hk0
    have HE : Hid (Els n xs) := hide (by rw [← hn]; exact h2)
    have hm0 : m = 0 := by rw [← hm, h3]; rfl
    subst hm0
    have HRK : Hid (RkRes f true) := hide (by unfold RkRes; simp [h1])
    clear hn hbs hr hm hx h1 h2 h3 hk
    go_enter Try.func49, Try.ntmps49
    go_wp2_with fail
    refine (isRackS _ _ _ f true _ HN.out hb HBS.out (HRD.out.later HB0.out) HRK.out).mono ?_
    rintro e w1 ⟨rfl, hb1⟩
    have HB1 := hide (HB0.out.trans (hb1.mono HB0.out.size))
    have HK1 := hide (HK0.out.later hb1)
    clear hb1
    have k0 := HK1.out.cell 0 _ rfl
    go_wp2_with fail
    clear k0
    refine (l04Elements_any n _ _ _ xs true _ hb HM.out hbm (HX.out.later HB1.out) (by simp [HE.out])).mono ?_
    rintro e w2 ⟨rfl, hb2⟩
    have HB2 := hide (HB1.out.trans (hb2.mono HB1.out.size))
    have HK2 := hide (HK1.out.later hb2)
    clear hb2
    go_wp2_with fail
    go_ret2
    exact ⟨_, _, rfl, HB2.out, .inl ⟨rfl, rfl⟩⟩
end Go.Proofs.Ytelildgngkajnaa
