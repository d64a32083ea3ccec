import Derived.Test.YtngfdkmiifpbgaaZn
import Derived.Test.YtngfdkmiifpbgaaZal
import Derived.Test.YtngfdkmiifpbgaaZai
import Derived.Test.YtngfdkmiifpbgaaZt
namespace Go.Proofs.Ytngfdkmiifpbgaa
open Go Go.RowKit
set_option maxHeartbeats 4000000
theorem prodM_any (A : Option Addr) (n c : Nat) (f : List (List Int)) (w : World) (hn : f.length = n) (ht : Tbl f) (hr : Rd2 w A f) : MadeFn Try.prog 58 #[.agg #[.slice A n c]] #[] n f w := fun W x y hx hy hb => by
  show Calls Try.prog 58 #[.agg #[.slice A n c], .int .i64 x, .int .i64 y] W _
  exact gprod_any A n c f x y (ap f x y) W hn ht (hr.later hb) hx hy rfl

set_option maxRecDepth 100000 in
theorem isSubG_any (A : Option Addr) (n c : Nat) (f : List (List Int)) (S : Nat) (r : Bool) (w : World) (hn : f.length = n) (hg : Grp f) (hr : Rd2 w A f) (hS : S < 2 ^ n) (hres : r = true ↔ SubG f S) :
    Calls Try.prog 72 #[.agg #[.slice A n c], .int .i64 S] w (fun e w' => e = .returned (.bool r) ∧ Below w.heap.size w w') := by
  have HN := hide hn
  have HRD := hide hr
  have HB0 := hide ((Below.refl _ w).alloc (Nat.le_refl _) (Obj.cells #[Value.slice A n c] 27))
  have HK0 := hide (Blk.new w 27 [.slice A n c])
  have HG := hide hg
  have HTB := hide hg.tbl
  have h1 : 1 ≤ n := (hg.pos hn).1
  have h12 : n ≤ 12 := (hg.pos hn).2
  have HRES := hide hres
  have hS12 : S < 4096 := Nat.lt_of_lt_of_le hS (pow_le n h12)
  have hb := bt_one S (by omega)
  have HS := hide hS
  clear hn hg hr hres hS
  by_cases h0 : S % 2 = 1
  · rw [h0] at hb
    go_enter Try.func72, Try.ntmps72
    have k0 := HK0.out.cell 0 _ rfl
    go_wp2_with fail
    clear k0
    refine (grownF_any 58 #[.agg #[.slice A n c]] #[] n f S _ (fun _ _ => rfl) h12 (fun x y hx hy => HTB.out.ap_lt HN.out hx hy) HS.out (prodM_any A n c f _ HN.out HTB.out (HRD.out.later HB0.out))).mono ?_
    rintro e w1 ⟨V, rfl, hb1, hg, hv⟩
    have HB1 := hide (HB0.out.trans (hb1.mono HB0.out.size))
    have HGR := hide hg
    have hV12 : V < 4096 := Nat.lt_of_lt_of_le hv (pow_le n h12)
    clear hb1 hg hv
    by_cases he : V = S
    · have hrt : r = true := HRES.out.2 ⟨(inb0 S).2 h0, HGR.out.closed.1 he⟩
      subst hrt
      subst he
      go_wp2_with fail
      go_ret
      exact ⟨rfl, HB1.out⟩
    · have hrf : r = false := by
        cases r
        · rfl
        · exact absurd (HGR.out.closed.2 (HRES.out.1 rfl).2) he
      subst hrf
      have hez : ((V : Int) == (S : Int)) = false := by simpa using fun h => he (by omega)
      go_wp2_with fail
      go_ret
      exact ⟨rfl, HB1.out⟩
  · have hrf : r = false := by
      cases r
      · rfl
      · exact absurd ((inb0 S).1 (HRES.out.1 rfl).1) h0
    subst hrf
    have h00 : S % 2 = 0 := by omega
    rw [h00] at hb
    go_enter Try.func72, Try.ntmps72
    go_wp2_with fail
    go_ret
    exact ⟨rfl, HB0.out⟩

set_option maxRecDepth 100000 in
theorem isNorm_any (A : Option Addr) (n c : Nat) (f : List (List Int)) (S : Nat) (r : Bool) (w : World) (hn : f.length = n) (hg : Grp f) (hr : Rd2 w A f) (hS : S < 2 ^ n) (hres : r = true ↔ NrmF f S) :
    Calls Try.prog 75 #[.agg #[.slice A n c], .int .i64 S] w (fun e w' => e = .returned (.bool r) ∧ Below w.heap.size w w') := by
  have HN := hide hn
  have HRD := hide hr
  have HB0 := hide ((Below.refl _ w).alloc (Nat.le_refl _) (Obj.cells #[Value.slice A n c] 27))
  have HK0 := hide (Blk.new w 27 [.slice A n c])
  have HG := hide hg
  have HTB := hide hg.tbl
  have h1 : 1 ≤ n := (hg.pos hn).1
  have h12 : n ≤ 12 := (hg.pos hn).2
  have HRES := hide hres
  have hS12 : S < 4096 := Nat.lt_of_lt_of_le hS (pow_le n h12)
  have HS := hide hS
  obtain ⟨m, hm⟩ : ∃ m, (mems 12 S).length = m := ⟨_, rfl⟩
  have hm12 : m ≤ 12 := by rw [← hm]; exact mems_length 12 S
  have HM := hide hm
  clear hn hg hr hres hS hm
  go_enter Try.func75, Try.ntmps75
  go_wp2_with fail
  refine (membersOf_any S _ hS12).mono ?_
  rintro e w1 ⟨B, d, rfl, hb1, hres⟩
  have HB1 := hide (HB0.out.trans (hb1.mono HB0.out.size))
  have HK1 := hide (HK0.out.later hb1)
  have HRS := hide hres.rd
  rw [HM.out]
  clear hb1 hres
  go_wp2_with fail
  go_loopw [10] (fun i wr => ∃ k : Nat, k ≤ m ∧ i = .int .i64 k ∧ Below w1.heap.size w1 wr ∧ ∀ a, a < k → ∀ x, x < n → inb S (cj f x (mel S a))) (fun i _ => m - (intOf i).toNat)
  case atStart => exact ⟨0, Nat.zero_le _, rfl, Below.refl _ _, fun a ha => absurd ha (Nat.not_lt_zero _)⟩
  case round =>
    obtain ⟨k, hk, rfl, hbe, hall⟩ := hrel
    have HB := hide hbe
    have HALL := hide hall
    clear hbe hall
    by_cases hlt : k < m
    · have hkz : (k : Int) < m := by omega
      obtain ⟨b, o, hBe, hbw, hc⟩ := HRS.out (by rw [memL_length, HM.out]; omega)
      subst hBe
      have c0 := (HB.out.cell (p := ⟨b, o + k, none⟩) hbw).trans (hc k (by rw [memL_length, HM.out]; exact hlt))
      rw [mel_getD (by rw [HM.out]; exact hlt)] at c0
      have hin : inb S (mel S k) := mel_in (by rw [HM.out]; exact hlt)
      have hyn : mel S k < n := inb_lt HS.out hin
      have HME : Hid (mel S k = mel S k) := hide rfl
      obtain ⟨y, hy⟩ : ∃ y, mel S k = y := ⟨_, rfl⟩
      rw [hy] at c0 hyn hin
      have HY := hide hy
      have HIN := hide hin
      have hcl := cjN_lt f y
      rw [HN.out] at hcl
      have hcl2 : cjN f y < 4096 := Nat.lt_of_lt_of_le hcl (pow_le n h12)
      have han := bt_andNot (cjN f y) S hcl2 hS12
      have haz := andNot_zero (cjN f y) S hS12 hcl2
      have hin2 := cjN_in HN.out HG.out hyn
      obtain ⟨q, hq⟩ : ∃ q, cjN f y = q := ⟨_, rfl⟩
      rw [hq] at han haz hin2 hcl2
      have HQ := hide hq
      obtain ⟨d0, hd0⟩ : ∃ d0, q &&& (2 ^ 64 - 1 - S) = d0 := ⟨_, rfl⟩
      rw [hd0] at han haz
      have hd12 : d0 < 4096 := by rw [← hd0]; exact Nat.lt_of_le_of_lt Nat.and_le_left hcl2
      clear hc hy hq hd0 hcl hin
      have k0 := (HK1.out.later HB.out).cell 0 _ rfl
      go_wp2_with fail
      clear k0 c0
      refine (conj_any _ n _ f y _ HN.out HG.out (HRD.out.later (HB1.out.trans (HB.out.mono HB1.out.size))) hyn).mono ?_
      rintro e w5 ⟨rfl, hb5⟩
      rw [HQ.out]
      have HB5 := hide (HB.out.trans (hb5.mono HB.out.size))
      clear hb5
      by_cases hz : d0 = 0
      · have HGOOD : Hid (∀ x, x < n → inb S (cj f x y)) := hide fun x hx => haz.1 hz _ ((hin2 _).2 ⟨x, hx, rfl⟩)
        subst hz
        clear haz hin2
        go_wp2_with fail
        go_roundw
        case rel => exact ⟨k + 1, by omega, by go_num, HB5.out, fun a ha => by
          by_cases e : a = k
          · rw [e, HY.out]; exact HGOOD.out
          · exact HALL.out a (by omega)⟩
        case measure => simp [intOf]; omega
      · have hrf : r = false := by
          cases r
          · rfl
          · exfalso
            apply hz
            rw [haz]
            intro t ht
            obtain ⟨x, hx, rfl⟩ := (hin2 t).1 ht
            exact HRES.out.1 rfl x y (by rw [HN.out]; exact hx) HIN.out
        subst hrf
        have hez : ((d0 : Int) == 0) = false := by simpa using (by omega : ¬ (d0 : Int) = 0)
        have hez2 : ((d0 : Int) != 0) = true := by simpa using (by omega : ¬ (d0 : Int) = 0)
        clear haz hin2 hz
        go_wp2_with fail
        go_ret
        exact ⟨rfl, HB1.out.trans (HB5.out.mono HB1.out.size)⟩
    · have hkm : k = m := by omega
      subst hkm
      have hrt : r = true := HRES.out.2 fun x y hx hy => by
        rw [HN.out] at hx
        obtain ⟨a, ha, rfl⟩ := mel_of hS12 hy
        exact HALL.out a (by rw [← HM.out]; exact ha) x hx
      subst hrt
      go_wp2_with fail
      go_ret
      exact ⟨rfl, HB1.out.trans (HB.out.mono HB1.out.size)⟩

set_option maxRecDepth 100000 in
theorem nrI (A : Option Addr) (n c : Nat) (f : List (List Int)) (x : Int) (r : Bool) (code : Int) (w : World) (hn : f.length = n) (hb : n ≤ 1048576) (hbs : ∀ i, i < f.length → (f.getD i []).length ≤ 1048576) (hr : Rd2 w A f) (hlo : -9223372036854775808 ≤ x) (hhi : x ≤ 9223372036854775807) (hres : NrRes f x r code) :
    Calls Try.prog 39 #[.agg #[.slice A n c], .int .i64 x] w (fun e w' => e = .returned (.tuple #[.bool r, .int .i64 code]) ∧ Below w.heap.size w w') := by
  have HN := hide hn
  have HRD := hide hr
  have HB0 := hide ((Below.refl _ w).alloc (Nat.le_refl _) (Obj.cells #[Value.slice A n c] 27))
  have HK0 := hide (Blk.new w 27 [.slice A n c])
  have HBS := hide hbs

  rcases hres with ⟨hg, ⟨S, rfl, hS, hsg, hrr⟩, rfl⟩ | ⟨hc0, rfl, ⟨hg, ⟨S, rfl, hS, hsg⟩, rfl⟩ | ⟨hg, rfl⟩ | ⟨hg, hx, rfl⟩ | ⟨hg, ⟨S, rfl, hS, hsg⟩, rfl⟩⟩
  · have HRR := hide hrr
    clear hrr
    have HG := hide hg
    have HTB := hide hg.tbl
    have h1 : 1 ≤ n := (hg.pos HN.out).1
    have h12 : n ≤ 12 := (hg.pos HN.out).2
    clear hg hn hr hbs
    obtain ⟨p, hp⟩ : ∃ p, 2 ^ n - 1 = p := ⟨_, rfl⟩
    have hp12 : p < 4096 := by rw [← hp]; have := pow_le n h12; have : 0 < 2 ^ n := Nat.pos_of_ne_zero (by simp); omega
    have HP := hide hp
    have hSp : S ≤ p := by rw [← hp]; rw [HN.out] at hS; have : 0 < 2 ^ n := Nat.pos_of_ne_zero (by simp); omega
    have HS : Hid (S < 2 ^ n) := hide (by rw [← HN.out]; exact hS)
    have hS0 : (0 : Int) ≤ S := by omega
    have hSpz : (S : Int) ≤ p := by omega
    have HSG := hide hsg
    clear hp hS hsg
    go_enter Try.func39, Try.ntmps39
    have k0 := HK0.out.cell 0 _ rfl
    go_wp2_with fail
    clear k0
    refine (isGrp_any _ _ _ f true _ HN.out hb HBS.out (HRD.out.later HB0.out) ⟨fun _ => HG.out, fun _ => rfl⟩).mono ?_
    rintro e w1 ⟨rfl, hb1⟩
    have HB1 := hide (HB0.out.trans (hb1.mono HB0.out.size))
    have HK1 := hide (HK0.out.later hb1)
    clear hb1
    have k0 := HK1.out.cell 0 _ rfl
    go_wp2_with fail
    clear k0
    refine (whole_any _ n _ f _ HN.out HG.out (HRD.out.later HB1.out)).mono ?_
    rintro e w2 ⟨rfl, hb1⟩
    rw [HP.out]
    have HB2 := hide (HB1.out.trans (hb1.mono HB1.out.size))
    have HK2 := hide (HK1.out.later hb1)
    clear hb1
    have k0 := HK2.out.cell 0 _ rfl
    go_wp2_with fail
    clear k0
    refine (isSubG_any _ n _ f S true _ HN.out HG.out (HRD.out.later HB2.out) HS.out ⟨fun _ => HSG.out, fun _ => rfl⟩).mono ?_
    rintro e w3 ⟨rfl, hb1⟩
    have HB3 := hide (HB2.out.trans (hb1.mono HB2.out.size))
    have HK3 := hide (HK2.out.later hb1)
    clear hb1
    have k0 := HK3.out.cell 0 _ rfl
    go_wp2_with fail
    clear k0
    refine (isNorm_any _ n _ f S r _ HN.out HG.out (HRD.out.later HB3.out) HS.out HRR.out).mono ?_
    rintro e w4 ⟨rfl, hb1⟩
    have HB4 := hide (HB3.out.trans (hb1.mono HB3.out.size))
    have HK4 := hide (HK3.out.later hb1)
    clear hb1
    go_wp2_with fail
    go_ret2
    exact ⟨rfl, HB4.out⟩
  · exact absurd rfl hc0
  · clear hc0
    have HG := hide hg
    clear hg hn hr hbs
    go_enter Try.func39, Try.ntmps39
    have k0 := HK0.out.cell 0 _ rfl
    go_wp2_with fail
    clear k0
    refine (isGrp_any _ _ _ f false _ HN.out hb HBS.out (HRD.out.later HB0.out) ⟨fun h => (by cases h), fun h => absurd h HG.out⟩).mono ?_
    rintro e w1 ⟨rfl, hb1⟩
    have HB1 := hide (HB0.out.trans (hb1.mono HB0.out.size))
    have HK1 := hide (HK0.out.later hb1)
    clear hb1
    go_wp2_with fail
    go_ret2
    exact ⟨rfl, HB1.out⟩
  · clear hc0
    rw [hn] at hx
    have HG := hide hg
    have HTB := hide hg.tbl
    have h1 : 1 ≤ n := (hg.pos HN.out).1
    have h12 : n ≤ 12 := (hg.pos HN.out).2
    clear hg hn hr hbs
    obtain ⟨p, hp⟩ : ∃ p, 2 ^ n - 1 = p := ⟨_, rfl⟩
    have hp12 : p < 4096 := by rw [← hp]; have := pow_le n h12; have : 0 < 2 ^ n := Nat.pos_of_ne_zero (by simp); omega
    have HP := hide hp
    have hpp : ((2 ^ n : Nat) : Int) = (p : Int) + 1 := by have : 0 < 2 ^ n := Nat.pos_of_ne_zero (by simp); omega
    rw [hpp] at hx
    clear hp hpp
    by_cases hx0 : x < 0
    · go_enter Try.func39, Try.ntmps39
      have k0 := HK0.out.cell 0 _ rfl
      go_wp2_with fail
      clear k0
      refine (isGrp_any _ _ _ f true _ HN.out hb HBS.out (HRD.out.later HB0.out) ⟨fun _ => HG.out, fun _ => rfl⟩).mono ?_
      rintro e w1 ⟨rfl, hb1⟩
      have HB1 := hide (HB0.out.trans (hb1.mono HB0.out.size))
      have HK1 := hide (HK0.out.later hb1)
      clear hb1
      go_wp2_with fail
      go_ret2
      exact ⟨rfl, HB1.out⟩
    · have hx1 : (p : Int) < x := by omega
      have hx2 : 0 ≤ x := by omega
      clear hx
      go_enter Try.func39, Try.ntmps39
      have k0 := HK0.out.cell 0 _ rfl
      go_wp2_with fail
      clear k0
      refine (isGrp_any _ _ _ f true _ HN.out hb HBS.out (HRD.out.later HB0.out) ⟨fun _ => HG.out, fun _ => rfl⟩).mono ?_
      rintro e w1 ⟨rfl, hb1⟩
      have HB1 := hide (HB0.out.trans (hb1.mono HB0.out.size))
      have HK1 := hide (HK0.out.later hb1)
      clear hb1
      have k0 := HK1.out.cell 0 _ rfl
      go_wp2_with fail
      clear k0
      refine (whole_any _ n _ f _ HN.out HG.out (HRD.out.later HB1.out)).mono ?_
      rintro e w2 ⟨rfl, hb1⟩
      rw [HP.out]
      have HB2 := hide (HB1.out.trans (hb1.mono HB1.out.size))
      have HK2 := hide (HK1.out.later hb1)
      clear hb1
      go_wp2_with fail
      go_ret2
      exact ⟨rfl, HB2.out⟩
  · clear hc0
    have HG := hide hg
    have HTB := hide hg.tbl
    have h1 : 1 ≤ n := (hg.pos HN.out).1
    have h12 : n ≤ 12 := (hg.pos HN.out).2
    clear hg hn hr hbs
    obtain ⟨p, hp⟩ : ∃ p, 2 ^ n - 1 = p := ⟨_, rfl⟩
    have hp12 : p < 4096 := by rw [← hp]; have := pow_le n h12; have : 0 < 2 ^ n := Nat.pos_of_ne_zero (by simp); omega
    have HP := hide hp
    have hSp : S ≤ p := by rw [← hp]; rw [HN.out] at hS; have : 0 < 2 ^ n := Nat.pos_of_ne_zero (by simp); omega
    have HS : Hid (S < 2 ^ n) := hide (by rw [← HN.out]; exact hS)
    have hS0 : (0 : Int) ≤ S := by omega
    have hSpz : (S : Int) ≤ p := by omega
    have HSG := hide hsg
    clear hp hS hsg
    go_enter Try.func39, Try.ntmps39
    have k0 := HK0.out.cell 0 _ rfl
    go_wp2_with fail
    clear k0
    refine (isGrp_any _ _ _ f true _ HN.out hb HBS.out (HRD.out.later HB0.out) ⟨fun _ => HG.out, fun _ => rfl⟩).mono ?_
    rintro e w1 ⟨rfl, hb1⟩
    have HB1 := hide (HB0.out.trans (hb1.mono HB0.out.size))
    have HK1 := hide (HK0.out.later hb1)
    clear hb1
    have k0 := HK1.out.cell 0 _ rfl
    go_wp2_with fail
    clear k0
    refine (whole_any _ n _ f _ HN.out HG.out (HRD.out.later HB1.out)).mono ?_
    rintro e w2 ⟨rfl, hb1⟩
    rw [HP.out]
    have HB2 := hide (HB1.out.trans (hb1.mono HB1.out.size))
    have HK2 := hide (HK1.out.later hb1)
    clear hb1
    have k0 := HK2.out.cell 0 _ rfl
    go_wp2_with fail
    clear k0
    refine (isSubG_any _ n _ f S false _ HN.out HG.out (HRD.out.later HB2.out) HS.out ⟨fun h => (by cases h), fun h => absurd h HSG.out⟩).mono ?_
    rintro e w3 ⟨rfl, hb1⟩
    have HB3 := hide (HB2.out.trans (hb1.mono HB2.out.size))
    have HK3 := hide (HK2.out.later hb1)
    clear hb1
    go_wp2_with fail
    go_ret2
    exact ⟨rfl, HB3.out⟩

set_option maxRecDepth 100000 in
theorem sgwI (A : Option Addr) (n c : Nat) (f : List (List Int)) (zs : List Int) (code : Int) (k : Nat) (w : World) (hn : f.length = n) (hb : n ≤ 1048576) (hbs : ∀ i, i < f.length → (f.getD i []).length ≤ 1048576) (hr : Rd2 w A f) (hres : SgRes f zs code) (hk : zs.length = k) :
    Calls Try.prog 34 #[.agg #[.slice A n c]] w (RPost 2 k zs code w) := by
  have HN := hide hn
  have HBS := hide hbs
  have HRD := hide hr
  have HB0 := hide ((Below.refl _ w).alloc (Nat.le_refl _) (Obj.cells #[Value.slice A n c] 27))
  have HK0 := hide (Blk.new w 27 [.slice A n c])
  rcases hres with ⟨hp, rfl, rfl⟩ | ⟨hp, rfl, rfl⟩
  · obtain ⟨k0, hk0⟩ : ∃ k0, n = k0 := ⟨_, rfl⟩
    subst hk0
    have HTB := hide hp.tbl
    have HFL := hide hn
    have HK0L := hide hk
    have h1 : 1 ≤ n := by rw [← hn]; exact hp.tbl.1
    have h12 : n ≤ 12 := by rw [← hn]; exact hp.tbl.2.1
    obtain ⟨P, hP⟩ : ∃ P, 2 ^ n = P := ⟨_, rfl⟩
    have hP12 : P ≤ 4096 := by rw [← hP]; exact pow_le n h12
    have hP1 : 2 ≤ P := by rw [← hP]; exact (Nat.pow_le_pow_right (by decide : 0 < 2) h1 : 2 ^ 1 ≤ 2 ^ n)
    have g1 : (2 : Int) ^ n = (P : Int) := by rw [← hP]; simp
    have HPW := hide hP
    clear hk hP
    obtain ⟨i0, hi, hz0, hz1, hz2⟩ := info_parts neInfo
    have HP := hide hp
    clear hn hbs hr hp
    go_enter Try.func34, Try.ntmps34
    go_wp2_with fail
    refine (isGrp_any _ _ _ f true _ HN.out hb HBS.out (HRD.out.later HB0.out) ⟨fun _ => HP.out, fun _ => rfl⟩).mono ?_
    rintro e w1 ⟨rfl, hb1⟩
    have HB1 := hide (HB0.out.trans (hb1.mono HB0.out.size))
    have HK1 := hide (HK0.out.later hb1)
    clear hb1
    have k0 := fun o => (HK1.out.alloc o).cell 0 _ rfl
    go_wp2_with fail
    clear k0
    refine (whole_any _ n _ f _ HN.out HP.out (HRD.out.later (HB1.out.alloc HB1.out.size _))).mono ?_
    rintro e w2 ⟨rfl, hb2⟩
    rw [HPW.out]
    have hpz : ((P - 1 : Nat) : Int) = (P : Int) - 1 := by omega
    rw [hpz]
    clear hpz
    have HO1 : Hid (w2.ownsRow (w.heap.size + 1) 2 1 (.slice (some ⟨w1.heap.size, 0, none⟩) 0 0) 0 []) := hide (ownsRow_below (ownsRow_mono (B := w1.heap.size) (by have := HK1.out.lt; omega) (ne_empty w1 _)) hb2)
    have HB2 := hide ((HB1.out.alloc HB1.out.size (.cells #[] 2)).trans (hb2.mono (by have := HB1.out.size; simp; omega)))
    have HK2 := hide ((HK1.out.alloc (.cells #[] 2)).later hb2)
    have hs2 : w.heap.size + 1 ≤ w2.heap.size := HK2.out.lt
    clear hb2
    go_wp2_with fail
    go_loopw [4, 13] (fun v i wr => ∃ S : Nat, 0 ≤ S ∧ S ≤ P ∧ i = .int .i64 S ∧ Below w.heap.size w wr ∧ Blk wr w.heap.size 27 [.slice A n c] ∧ wr.ownsRow (w.heap.size + 1) 2 1 v (sgN f S).length (ints (sgL f S)) ∧ w.heap.size + 1 ≤ wr.heap.size) (fun _ i _ => P - (intOf i).toNat)
    case atStart => exact ⟨0, Nat.le_refl _, by omega, rfl, HB2.out, HK2.out, by simpa [ints, sgL, sgN] using HO1.out, hs2⟩
    case round =>
      obtain ⟨S, hlo, hk, rfl, hbe, hkk, hown, hsz⟩ := hrel
      have HB := hide hbe
      have HK := hide hkk
      have HO := hide hown
      clear hbe hkk hown
      have kk := HK.out.cell 0 _ rfl
      by_cases hlt : S < P
      · have hkz : (S : Int) < P := by omega
        have hml := sgN_length f S
        obtain ⟨l, hl⟩ : ∃ l, (sgN f S).length = l := ⟨_, rfl⟩
        rw [hl] at hml HO
        have HL := hide hl
        clear hl
        by_cases hs : SubG f S
        · have HYES := hide hs
          clear hs
          go_wp2_with fail
          clear kk
          refine (isSubG_any _ n _ f S true _ HN.out HP.out (HRD.out.later HB.out) (by rw [HPW.out]; exact hlt) (by simp [HYES.out])).mono ?_
          rintro e w5 ⟨rfl, hb5⟩
          have HB5 := hide (HB.out.trans (hb5.mono HB.out.size))
          have HK5 := hide (HK.out.later hb5)
          have HO5 := hide (ownsRow_below HO.out hb5)
          have hs5 : w.heap.size + 1 ≤ w5.heap.size := by have := hb5.size; omega
          clear hb5
          go_wp2_with (at_builtin; refine wpList_append_own _ rfl _ _ 42 rfl (w.heap.size + 1) 2 i0 (.int .i64 0) 1 8 Try.underlying42 hi hz0 hz1 hz2 rfl (by decide) _ _ _ rfl (HO5.out.alloc _) ⟨w5.heap.size, 0, none⟩ 1 1 [.int .i64 (S : Int)] rfl rfl ?a1 ?a2 ?a3 ?a4 ?a5 ?_)
          try (case a1 => exact ne_new)
          try (case a2 => first | rfl | (intro u hu; simp at hu; subst hu; rfl))
          try (case a3 => first | omega | (unfold maxLen; omega))
          try (case a4 => omega)
          try (case a5 => first | omega | (simp; omega))
          intro v' w6 hown' hgrow _
          have HO' := hide hown'
          have HG := hide hgrow
          clear hown' hgrow
          go_wp2_with fail
          go_roundw
          case rel =>
            have hlow : w.heap.size ≤ w5.heap.size := by omega
            have hs1 : w.heap.size + 1 ≤ (w5.alloc (.cells #[.int .i64 (S : Int)] 2)).heap.size := by simp; omega
            have hB1 : Below w.heap.size w w6 := (HB5.out.alloc hlow _).grown HG.out (by simp; omega) (fun g hg => by have h := ((HO5.out.alloc (.cells #[.int .i64 (S : Int)] 2)).lt g hg).1; omega)
            have hB2 : Below (w.heap.size + 1) (w5.alloc (.cells #[.int .i64 (S : Int)] 2)) w6 := (Below.refl _ _).grown HG.out hs1 (fun g hg => ((HO5.out.alloc (.cells #[.int .i64 (S : Int)] 2)).lt g hg).1)
            have hK1 : Blk w6 w.heap.size 27 [.slice A n c] := (hB2.block w.heap.size (by omega)).trans (HK5.out.alloc _)
            refine ⟨S + 1, by omega, by omega, by go_num, hB1, hK1, ?_, by have := hB2.size; simp at this; omega⟩
            rw [sgL_yes HYES.out, sgN_yes HYES.out, List.length_append, HL.out]
            exact HO'.out
          case measure => simp [intOf]; omega
        · have HNO := hide hs
          clear hs
          go_wp2_with fail
          clear kk
          refine (isSubG_any _ n _ f S false _ HN.out HP.out (HRD.out.later HB.out) (by rw [HPW.out]; exact hlt) (by simp [HNO.out])).mono ?_
          rintro e w5 ⟨rfl, hb5⟩
          have HB5 := hide (HB.out.trans (hb5.mono HB.out.size))
          have HK5 := hide (HK.out.later hb5)
          have HO5 := hide (ownsRow_below HO.out hb5)
          have hs5 : w.heap.size + 1 ≤ w5.heap.size := by have := hb5.size; omega
          clear hb5
          go_wp2_with fail
          go_roundw
          case rel => exact ⟨S + 1, by omega, by omega, by go_num, HB5.out, HK5.out, by rw [sgL_no HNO.out, sgN_no HNO.out, HL.out]; exact HO5.out, hs5⟩
          case measure => simp [intOf]; omega
      · have hkn : S = P := by omega
        subst hkn
        go_wp2_with fail
        have h := HO.out
        obtain ⟨A', c', hv, hres⟩ := own_shape h
        subst hv
        go_ret2
        exact ⟨A', c', by rw [← HK0L.out, HFL.out, HPW.out, sgL_length]; rfl, HB.out, by rw [HFL.out, HPW.out]; exact hres.mono (by omega)⟩
  · have hk0 : k = 0 := by rw [← hk]; rfl
    subst hk0
    clear hk
    have HP := hide hp
    clear hn hbs hr hp
    go_enter Try.func34, Try.ntmps34
    go_wp2_with fail
    refine (isGrp_any _ _ _ f false _ HN.out hb HBS.out (HRD.out.later HB0.out) ⟨fun h => (by cases h), fun h => absurd h HP.out⟩).mono ?_
    rintro e w1 ⟨rfl, hb1⟩
    have HB1 := hide (HB0.out.trans (hb1.mono HB0.out.size))
    have HK1 := hide (HK0.out.later hb1)
    clear hb1
    go_wp2_with fail
    go_ret2
    exact ⟨_, _, rfl, HB1.out, .inl ⟨rfl, rfl⟩⟩

end Go.Proofs.Ytngfdkmiifpbgaa
