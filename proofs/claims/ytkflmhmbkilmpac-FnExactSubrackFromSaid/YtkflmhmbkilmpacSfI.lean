import Derived.Test.YtkflmhmbkilmpacGrI
import Derived.Test.YtkflmhmbkilmpacElI
import Derived.Test.YtkflmhmbkilmpacRkII
namespace Go.Proofs.Ytkflmhmbkilmpac
open Go Go.RowKit
set_option maxHeartbeats 2000000

set_option maxRecDepth 100000 in
theorem sfI_any (A : Option Addr) (n c : Nat) (f : List (List Int)) (B : Option Addr) (m d : Nat) (xs : List Int) (zs : List Int) (code : Int) (k : Nat) (w : World) (hn : f.length = n) (hb : n ≤ 1048576) (hbs : ∀ i, i < f.length → (f.getD i []).length ≤ 1048576) (hr : Rd2 w A f) (hm : xs.length = m) (hbm : m ≤ 1048576) (hx : Rd w B xs) (hres : SfRes f xs zs code) (hk : zs.length = k) :
    Calls Try.prog 23 #[.agg #[.slice A n c], .slice B m d] w (RPost 2 k zs code w) := by
  have HN := hide hn
  have HBS := hide hbs
  have HRD := hide hr
  have HM := hide hm
  have HX := hide hx
  have HB0 := hide ((Below.refl _ w).alloc (Nat.le_refl _) (Obj.cells #[Value.slice A n c] 26))
  have HK0 := hide (Blk.new w 26 [.slice A n c])
  rcases hres with ⟨V, ⟨h1, h2, h3⟩, hl, rfl, rfl⟩ | ⟨h1, rfl, rfl⟩ | ⟨h1, h2, rfl, rfl⟩ | ⟨h1, h2, h3, rfl, rfl⟩
  · have HTB := hide h1.tbl
    have h1n : 1 ≤ n := by rw [← hn]; exact h1.tbl.1
    have h12 : n ≤ 12 := by rw [← hn]; exact h1.tbl.2.1
    have HE : Hid (Els n xs) := hide (by rw [← hn]; exact h2)
    have hm0 : 0 < m := by rw [← hm]; exact Nat.pos_of_ne_zero (fun h => h3 (List.eq_nil_of_length_eq_zero h))
    have hmz : ((m : Int) == 0) = false := by simpa using (by omega : ¬ (m : Int) = 0)
    have HLE : Hid (LeastS f n (sN xs m) V) := hide (by rw [← hn, ← hm]; exact hl)
    have HKK : Hid ((memL n V).length = k) := hide (by rw [← hn]; exact hk)
    have HFL := hide hn
    have HRK : Hid (RkRes f true) := hide (by unfold RkRes; simp [h1])
    clear hn hbs hr hm hx h1 h2 h3 hl hk
    rw [HFL.out]
    go_enter Try.func23, Try.ntmps23
    go_wp2_with fail
    refine (isRackI _ _ _ f true _ HN.out hb HBS.out (HRD.out.later HB0.out) HRK.out).mono ?_
    rintro e w1 ⟨rfl, hb1⟩
    have HB1 := hide (HB0.out.trans (hb1.mono HB0.out.size))
    have HK1 := hide (HK0.out.later hb1)
    clear hb1
    have k0 := HK1.out.cell 0 _ rfl
    go_wp2_with fail
    clear k0
    refine (areEls_any _ n _ _ _ _ xs true _ hb HM.out hbm (HX.out.later HB1.out) (by simp [HE.out])).mono ?_
    rintro e w2 ⟨rfl, hb2⟩
    have HB2 := hide (HB1.out.trans (hb2.mono HB1.out.size))
    have HK2 := hide (HK1.out.later hb2)
    clear hb2
    go_wp2_with fail
    refine (setOf_any n _ _ _ xs _ h12 HM.out hbm (HX.out.later HB2.out) HE.out).mono ?_
    rintro e w3 ⟨rfl, hb3⟩
    have HB3 := hide (HB2.out.trans (hb3.mono HB2.out.size))
    have HK3 := hide (HK2.out.later hb3)
    clear hb3
    have hSlt := sN_lt HE.out (k := m) (by have := HM.out; omega)
    have hSne := sN_ne (xs := xs) hm0
    obtain ⟨S, hSe⟩ : ∃ S, sN xs m = S := ⟨_, rfl⟩
    rw [hSe] at hSlt hSne HLE ⊢
    have HNE := hide hSne
    have HLT := hide hSlt
    clear hSe hSne hSlt
    go_wp2_with fail
    go_loopw [6] (fun s wr => ∃ T : Nat, s = .int .i64 T ∧ Below w.heap.size w wr ∧ Blk wr w.heap.size 26 [.slice A n c] ∧ T < 2 ^ n ∧ (∀ x, inb S x → inb T x) ∧ Under f S T) (fun s _ => 4096 - (intOf s).toNat)
    case atStart => exact ⟨S, rfl, HB3.out, HK3.out, HLT.out, fun x h => h, fun T _ hs => hs⟩
    case round =>
      obtain ⟨T, rfl, hbe, hkk, hlt, hup, hun⟩ := hrel
      have HB := hide hbe
      have HK := hide hkk
      have HTL := hide hlt
      have HUP := hide hup
      have HUN := hide hun
      have hT12 : T < 4096 := Nat.lt_of_lt_of_le hlt (pow_le n h12)
      have HNZ : Hid (T ≠ 0) := hide (fun e => HNE.out (inb_eq (fun x => ⟨fun h => by have := hup x h; rw [e] at this; exact this, fun h => absurd h (inb_zero x)⟩)))
      clear hbe hkk hlt hup hun
      have k0 := HK.out.cell 0 _ rfl
      go_wp2_with fail
      clear k0
      by_cases hc : ClosedF f T
      · have HC := hide hc
        clear hc
        refine (isSubrack_any _ n _ f T true _ HN.out HTB.out (HRD.out.later HB.out) HTL.out (by simp only [true_iff]; exact ⟨HNZ.out, HC.out⟩)).mono ?_
        rintro e w5 ⟨rfl, hb5⟩
        have HB5 := hide (HB.out.trans (hb5.mono HB.out.size))
        clear hb5
        have HVT : Hid (V = T) := hide (HLE.out.uniq ⟨HTL.out, HC.out, HUP.out, HUN.out⟩)
        go_wp2_with fail
        refine (membersOf_any T _ hT12).mono ?_
        rintro e w6 ⟨B6, d6, rfl, hb6, hres6⟩
        have HB6 := hide (HB5.out.trans (hb6.mono HB5.out.size))
        have HR6 := hide (hres6.mono HB5.out.size)
        clear hb6 hres6
        have HMM : Hid (mems 12 T = mems n T) := hide (mems_more HTL.out 12 h12)
        go_wp2_with fail
        go_ret2
        refine ⟨_, _, by rw [← HKK.out, memL_length, HVT.out, HMM.out]; rfl, HB6.out, ?_⟩
        have h := HR6.out
        unfold memL at h ⊢
        rw [HMM.out] at h
        rw [HVT.out]
        exact h
      · have HC := hide hc
        clear hc
        refine (isSubrack_any _ n _ f T false _ HN.out HTB.out (HRD.out.later HB.out) HTL.out (by simp only [Bool.false_eq_true, false_iff]; exact fun h => HC.out h.2)).mono ?_
        rintro e w5 ⟨rfl, hb5⟩
        have HB5 := hide (HB.out.trans (hb5.mono HB.out.size))
        have HK5 := hide (HK.out.later hb5)
        clear hb5
        have k0 := HK5.out.cell 0 _ rfl
        go_wp2_with fail
        clear k0
        refine (grown_any _ n _ f T _ HN.out HTB.out (HRD.out.later HB5.out) HTL.out).mono ?_
        rintro e w6 ⟨T2, rfl, hb6, hg, hl2⟩
        have HB6 := hide (HB5.out.trans (hb6.mono HB5.out.size))
        have HK6 := hide (HK5.out.later hb6)
        have HUP2 : Hid (∀ x, inb S x → inb T2 x) := hide (fun x h => (hg x).2 (.inl (HUP.out x h)))
        have HUN2 : Hid (Under f S T2) := hide (HUN.out.grow hg)
        have hle : T ≤ T2 := set_sub_le (fun x h => (hg x).2 (.inl h))
        have hne : T2 ≠ T := fun h => HC.out (hg.closed.1 h)
        have hT212 : T2 < 4096 := Nat.lt_of_lt_of_le hl2 (pow_le n h12)
        have HL2 := hide hl2
        clear hb6 hg hl2
        go_wp2_with fail
        go_roundw
        case rel => exact ⟨T2, rfl, HB6.out, HK6.out, HL2.out, HUP2.out, HUN2.out⟩
        case measure => simp [intOf]; omega
  · have hk0 : k = 0 := by rw [← hk]; rfl
    subst hk0
    have HRK : Hid (RkRes f false) := hide (by unfold RkRes; simp [h1])
    clear hn hbs hr hm hx h1 hk
    go_enter Try.func23, Try.ntmps23
    go_wp2_with fail
    refine (isRackI _ _ _ f false _ HN.out hb HBS.out (HRD.out.later HB0.out) HRK.out).mono ?_
    rintro e w1 ⟨rfl, hb1⟩
    have HB1 := hide (HB0.out.trans (hb1.mono HB0.out.size))
    have HK1 := hide (HK0.out.later hb1)
    clear hb1
    go_wp2_with fail
    go_ret2
    exact ⟨_, _, rfl, HB1.out, .inl ⟨rfl, rfl⟩⟩
  · have hk0 : k = 0 := by rw [← hk]; rfl
    subst hk0
    have HE : Hid (¬ Els n xs) := hide (by rw [← hn]; exact h2)
    have HRK : Hid (RkRes f true) := hide (by unfold RkRes; simp [h1])
    clear hn hbs hr hm hx h1 h2 hk
    go_enter Try.func23, Try.ntmps23
    go_wp2_with fail
    refine (isRackI _ _ _ f true _ HN.out hb HBS.out (HRD.out.later HB0.out) HRK.out).mono ?_
    rintro e w1 ⟨rfl, hb1⟩
    have HB1 := hide (HB0.out.trans (hb1.mono HB0.out.size))
    have HK1 := hide (HK0.out.later hb1)
    clear hb1
    have k0 := HK1.out.cell 0 _ rfl
    go_wp2_with fail
    clear k0
    refine (areEls_any _ n _ _ _ _ xs false _ hb HM.out hbm (HX.out.later HB1.out) (by simp [HE.out])).mono ?_
    rintro e w2 ⟨rfl, hb2⟩
    have HB2 := hide (HB1.out.trans (hb2.mono HB1.out.size))
    have HK2 := hide (HK1.out.later hb2)
    clear hb2
    go_wp2_with fail
    go_ret2
    exact ⟨_, _, rfl, HB2.out, .inl ⟨rfl, rfl⟩⟩
  · have hk0 : k = 0 := by rw [← hk]; rfl
    subst hk0
    have HE : Hid (Els n xs) := hide (by rw [← hn]; exact h2)
    have hm0 : m = 0 := by rw [← hm, h3]; rfl
    subst hm0
    have HRK : Hid (RkRes f true) := hide (by unfold RkRes; simp [h1])
    clear hn hbs hr hm hx h1 h2 h3 hk
    go_enter Try.func23, Try.ntmps23
    go_wp2_with fail
    refine (isRackI _ _ _ f true _ HN.out hb HBS.out (HRD.out.later HB0.out) HRK.out).mono ?_
    rintro e w1 ⟨rfl, hb1⟩
    have HB1 := hide (HB0.out.trans (hb1.mono HB0.out.size))
    have HK1 := hide (HK0.out.later hb1)
    clear hb1
    have k0 := HK1.out.cell 0 _ rfl
    go_wp2_with fail
    clear k0
    refine (areEls_any _ n _ _ 0 _ xs true _ hb HM.out hbm (HX.out.later HB1.out) (by simp [HE.out])).mono ?_
    rintro e w2 ⟨rfl, hb2⟩
    have HB2 := hide (HB1.out.trans (hb2.mono HB1.out.size))
    have HK2 := hide (HK1.out.later hb2)
    clear hb2
    go_wp2_with fail
    go_ret2
    exact ⟨_, _, rfl, HB2.out, .inl ⟨rfl, rfl⟩⟩
end Go.Proofs.Ytkflmhmbkilmpac
