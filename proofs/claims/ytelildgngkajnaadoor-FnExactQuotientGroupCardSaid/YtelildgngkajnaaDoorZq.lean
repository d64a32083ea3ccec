import Derived.Test.YtelildgngkajnaaDoorZl
import Derived.Test.YtelildgngkajnaaDoorZp
import Derived.Test.YtelildgngkajnaaDoorZn
import Derived.Test.YtelildgngkajnaaDoorZo
import Derived.Test.YtelildgngkajnaaDoorZg
import Derived.Deep.Cut
namespace Go.Proofs.YtelildgngkajnaaDoor
open Go Go.RowKit
open Classical
set_option maxHeartbeats 1000000
/-- The set of x y with y of a set. -/
noncomputable def csN (f : List (List Int)) (S x : Nat) : Nat := setN (fun t => decide (∃ y, inb S y ∧ ap f x y = t)) f.length
theorem csN_in {f : List (List Int)} {n S x : Nat} (hn : f.length = n) (hg : Grp f) (hS : S < 2 ^ n) (hx : x < n) (t : Nat) : inb (csN f S x) t ↔ ∃ y, inb S y ∧ ap f x y = t := by
  unfold csN
  rw [inb_setN, hn]
  simp only [decide_eq_true_eq]
  constructor
  · exact fun h => h.2
  · rintro ⟨y, hy, rfl⟩
    exact ⟨hg.lt hn hx (inb_lt hS hy), y, hy, rfl⟩
theorem csN_lt (f : List (List Int)) (S x : Nat) : csN f S x < 2 ^ f.length := setN_lt _ _
theorem SubG.pw {f : List (List Int)} {S y : Nat} (h : SubG f S) (hg : Grp f) (hS : S < 2 ^ f.length) (hy : inb S y) (j : Nat) : inb S (pwF f y j) := by
  induction j with
  | zero => rw [hg.pw_zero rfl (inb_lt hS hy)]; exact hy
  | succ j ih => rw [pw_succ]; exact h.2 _ _ ih hy
theorem SubG.back {f : List (List Int)} {n S y : Nat} (hn : f.length = n) (h : SubG f S) (hg : Grp f) (hS : S < 2 ^ n) (hy : inb S y) : inb S (bk f y) := by
  subst hn
  have hyn := inb_lt hS hy
  have ho := hg.ord rfl hyn
  have h1 := ho.2.1
  by_cases e : ordF f y = 1
  · have hz := (hg.pw_end rfl hyn (k := 0) (by omega)).2 (by omega)
    rw [hg.pw_zero rfl hyn] at hz
    subst hz
    have : bk f 0 = 0 := by
      have h2 := hg.bk_r rfl hyn
      rw [hg.idl rfl (hg.bk_lt rfl hyn)] at h2
      exact h2
    rw [this]; exact hy
  · obtain ⟨j, hj⟩ : ∃ j, ordF f y = j + 2 := ⟨ordF f y - 2, by omega⟩
    have hz := (hg.pw_end rfl hyn (k := j + 1) (by omega)).2 (by omega)
    rw [pw_succ] at hz
    have hp := hg.pw_lt rfl hyn j
    have e2 : pwF f y j = bk f y := hg.rcan rfl hyn hp (hg.bk_lt rfl hyn) (by rw [hz, hg.bk_l rfl hyn])
    rw [← e2]
    exact h.pw hg hS hy j
section
variable {f : List (List Int)} {n S : Nat}
theorem csN_self (hn : f.length = n) (hg : Grp f) (hS : S < 2 ^ n) (h : SubG f S) {x : Nat} (hx : x < n) : inb (csN f S x) x := (csN_in hn hg hS hx x).2 ⟨0, h.1, hg.idr hn hx⟩
theorem csN_same (hn : f.length = n) (hg : Grp f) (hS : S < 2 ^ n) (h : SubG f S) {x t : Nat} (hx : x < n) (ht : inb (csN f S x) t) : csN f S t = csN f S x := by
  obtain ⟨y, hy, rfl⟩ := (csN_in hn hg hS hx t).1 ht
  have hyn := inb_lt hS hy
  have hxy := hg.lt hn hx hyn
  apply inb_eq
  intro t
  rw [csN_in hn hg hS hxy t, csN_in hn hg hS hx t]
  constructor
  · rintro ⟨z, hz, rfl⟩
    exact ⟨ap f y z, h.2 _ _ hy hz, by rw [hg.assoc hn hx hyn (inb_lt hS hz)]⟩
  · rintro ⟨z, hz, rfl⟩
    have hb := h.back hn hg hS hy
    have hbn := inb_lt hS hb
    have hzn := inb_lt hS hz
    refine ⟨ap f (bk f y) z, h.2 _ _ hb hz, ?_⟩
    rw [hg.assoc hn hx hyn (hg.lt hn hbn hzn), ← hg.assoc hn hyn hbn hzn, hg.bk_r hn hyn, hg.idl hn hzn]
noncomputable def ceL (f : List (List Int)) (S x : Nat) : Nat := lstN (csN f S x)
theorem ceL_ok (hn : f.length = n) (hg : Grp f) (hS : S < 2 ^ n) (h : SubG f S) {x : Nat} (hx : x < n) : inb (csN f S x) (ceL f S x) ∧ ceL f S x < n ∧ ceL f S x ≤ x ∧ (∀ t, inb (csN f S x) t → ceL f S x ≤ t) ∧ csN f S (ceL f S x) = csN f S x ∧ csN f S x < 4096 ∧ csN f S x ≠ 0 := by
  have h12 := (hg.pos hn).2
  have hlt : csN f S x < 2 ^ n := by have := csN_lt f S x; rw [hn] at this; exact this
  have h1 : csN f S x < 4096 := Nat.lt_of_lt_of_le hlt (Nat.pow_le_pow_right (n := 2) (by decide) h12)
  have hs := csN_self hn hg hS h hx
  have h2 : csN f S x ≠ 0 := fun e => by rw [e] at hs; exact inb_zero _ hs
  obtain ⟨_, i1, _, i3⟩ := lst_of h1 h2
  have key : ∀ t, inb (csN f S x) t → ceL f S x ≤ t := fun t ht => by
    by_cases e : t < ceL f S x
    · exact absurd ht (i3 t e)
    · omega
  exact ⟨i1, inb_lt hlt i1, key x hs, key, csN_same hn hg hS h hx i1, h1, h2⟩
theorem ceL_ldr (hn : f.length = n) (hg : Grp f) (hS : S < 2 ^ n) (h : SubG f S) : Ldr (ceL f S) n :=
  ⟨fun _ hx => (ceL_ok hn hg hS h hx).2.2.1, fun x hx => by
    have := (ceL_ok hn hg hS h hx).2.2.2.2.1
    show lstN (csN f S (ceL f S x)) = _
    rw [this]
    rfl⟩
theorem ce_eq (hn : f.length = n) (hg : Grp f) (hS : S < 2 ^ n) (h : SubG f S) {x y : Nat} (hx : x < n) (hy : y < n) : csN f S x = csN f S y ↔ ceL f S x = ceL f S y := by
  constructor
  · intro e; unfold ceL; rw [e]
  · intro e
    rw [← (ceL_ok hn hg hS h hx).2.2.2.2.1, ← (ceL_ok hn hg hS h hy).2.2.2.2.1, e]
/-- The cosets in the order of their least elements. -/
noncomputable def csL (f : List (List Int)) (S k : Nat) : List Int := (rpL (ceL f S) k).map fun (x : Nat) => ((csN f S x : Nat) : Int)
theorem csL_length (f : List (List Int)) (S k : Nat) : (csL f S k).length = (rpL (ceL f S) k).length := by simp [csL]
theorem csL_at (f : List (List Int)) (S : Nat) {k i : Nat} (h : i < (rpL (ceL f S) k).length) : (csL f S k).getD i 0 = ((csN f S (rpN (ceL f S) k i) : Nat) : Int) := by
  unfold csL rpN
  simp [h]
theorem csL_ix (hn : f.length = n) (hg : Grp f) (hS : S < 2 ^ n) (h : SubG f S) {z : Nat} (hz : z < n) : ixOf (csL f S n) ((csN f S z : Nat) : Int) = (((rpL (ceL f S) n).idxOf (ceL f S z) : Nat) : Int) := by
  have hl := ceL_ldr hn hg hS h
  have hok := ceL_ok hn hg hS h hz
  have hm : ceL f S z ∈ rpL (ceL f S) n := (rpL_mem _ _ _).2 ⟨hok.2.1, hl.idem z hz⟩
  have hi := List.idxOf_lt_length_of_mem hm
  have e1 := List.getElem_idxOf hi
  refine ixOf_at _ _ _ (by rw [csL_length]; exact hi) ?_ ?_
  · rw [csL_at f S hi]
    unfold rpN
    rw [List.getD_eq_getElem?_getD, List.getElem?_eq_getElem hi, Option.getD_some, e1, hok.2.2.2.2.1]
  · intro hmem
    obtain ⟨j, hj, e⟩ := List.getElem_of_mem hmem
    have hj2 : j < (rpL (ceL f S) n).idxOf (ceL f S z) := by rw [List.length_take] at hj; omega
    have hj3 : j < (rpL (ceL f S) n).length := by omega
    rw [List.getElem_take] at e
    have e2 := csL_at f S hj3
    rw [List.getD_eq_getElem?_getD, List.getElem?_eq_getElem (by rw [csL_length]; exact hj3), Option.getD_some, e] at e2
    have ho := rpN_ok hj3
    have e3 : csN f S z = csN f S (rpN (ceL f S) n j) := by omega
    have e4 := (ce_eq hn hg hS h hz ho.1).1 e3
    rw [ho.2.1] at e4
    rw [e4, ho.2.2] at hj2
    omega
/-- The quotient's table. -/
noncomputable def qgH (f : List (List Int)) (S n : Nat) : Nat → Nat → Int := quH f (numL (ldL (ceL f S) n))
theorem qgH_at (hn : f.length = n) (hg : Grp f) (hS : S < 2 ^ n) (h : SubG f S) {i k : Nat} (hi : i < (rpL (ceL f S) n).length) (hk : k < (rpL (ceL f S) n).length) : qgH f S n i k = ixOf (csL f S n) ((csN f S (ap f (rpN (ceL f S) n i) (rpN (ceL f S) n k)) : Nat) : Int) := by
  have hl := ceL_ldr hn hg hS h
  have h1 := rpN_ok hi
  have h2 := rpN_ok hk
  have h3 := hg.lt hn h1.1 h2.1
  unfold qgH quH
  rw [ld_fstc hl hi, ld_fstc hl hk, ld_cl hl h3, csL_ix hn hg hS h h3]
end
def QgRes (f : List (List Int)) (x : Int) (zs : List (List Int)) (code : Int) : Prop :=
  (Grp f ∧ (∃ S : Nat, x = S ∧ S < 2 ^ f.length ∧ SubG f S ∧ NrmF f S ∧ zs = grid (rpL (ceL f S) f.length).length (qgH f S f.length)) ∧ code = 0) ∨
  (∃ (r : Bool) (c0 : Int), NrRes f x r c0 ∧ (c0 ≠ 0 ∨ r = false) ∧ zs = [] ∧ code = if c0 = 0 then 5 else c0)
theorem QgRes.ex (f : List (List Int)) (x : Int) : ∃ zs code, QgRes f x zs code ∧ zs.length ≤ 1048576 ∧ ∀ i, i < zs.length → (zs.getD i []).length ≤ 1048576 := by
  obtain ⟨r, c0, hr⟩ := NrRes.ex f x
  by_cases h0 : c0 ≠ 0 ∨ r = false
  · exact ⟨[], _, .inr ⟨r, c0, hr, h0, rfl, rfl⟩, by simp, by simp⟩
  · rcases hr with ⟨hg, ⟨S, rfl, hS, hsg, hrr⟩, rfl⟩ | ⟨hc, _, _⟩
    · have hrt : r = true := by
        cases r
        · exact absurd (.inr rfl) h0
        · rfl
      have h12 := (hg.pos rfl).2
      have hl := rpL_length (ceL f S) f.length
      refine ⟨_, _, .inl ⟨hg, ⟨S, rfl, hS, hsg, hrr.1 hrt, rfl⟩, rfl⟩, by rw [grid_length]; omega, fun i hi => ?_⟩
      rw [grid_length] at hi
      rw [grid_row_length _ _ _ hi]; omega
    · exact absurd (.inl hc) h0
end Go.Proofs.YtelildgngkajnaaDoor
namespace Go.Proofs.YtelildgngkajnaaDoor
open Go Go.RowKit
set_option maxHeartbeats 4000000
theorem prodM_any (A : Option Addr) (n c : Nat) (f : List (List Int)) (w : World) (hn : f.length = n) (ht : Tbl f) (hr : Rd2 w A f) : MadeFn Tryd.prog 38 #[.agg #[.slice A n c]] #[] n f w := fun W x y hx hy hb => by
  show Calls Tryd.prog 38 #[.agg #[.slice A n c], .int .i64 x, .int .i64 y] W _
  exact gprod_any A n c f x y (ap f x y) W hn ht (hr.later hb) hx hy rfl

set_option maxRecDepth 100000 in
theorem isSubG_any (A : Option Addr) (n c : Nat) (f : List (List Int)) (S : Nat) (r : Bool) (w : World) (hn : f.length = n) (hg : Grp f) (hr : Rd2 w A f) (hS : S < 2 ^ n) (hres : r = true ↔ SubG f S) :
    Calls Tryd.prog 32 #[.agg #[.slice A n c], .int .i64 S] w (fun e w' => e = .returned (.bool r) ∧ Below w.heap.size w w') := by
  have HN := hide hn
  have HRD := hide hr
  have HB0 := hide ((Below.refl _ w).alloc (Nat.le_refl _) (Obj.cells #[Value.slice A n c] 26))
  have HK0 := hide (Blk.new w 26 [.slice A n c])
  have HG := hide hg
  have HTB := hide hg.tbl
  have h1 : 1 ≤ n := (hg.pos hn).1
  have h12 : n ≤ 12 := (hg.pos hn).2
  have HRES := hide hres
  have hS12 : S < 4096 := Nat.lt_of_lt_of_le hS (pow_le n h12)
  have hb := bt_one S (by omega)
  have HS := hide hS
  clear hn hg hr hres hS
  by_cases h0 : S % 2 = 1
  · rw [h0] at hb
    go_enter Tryd.func32, Tryd.ntmps32
    have k0 := HK0.out.cell 0 _ rfl
    go_wp2_with fail
    clear k0
    refine (grownF_any 38 #[.agg #[.slice A n c]] #[] n f S _ (fun _ _ => rfl) h12 (fun x y hx hy => HTB.out.ap_lt HN.out hx hy) HS.out (prodM_any A n c f _ HN.out HTB.out (HRD.out.later HB0.out))).mono ?_
    rintro e w1 ⟨V, rfl, hb1, hg, hv⟩
    have HB1 := hide (HB0.out.trans (hb1.mono HB0.out.size))
    have HGR := hide hg
    have hV12 : V < 4096 := Nat.lt_of_lt_of_le hv (pow_le n h12)
    clear hb1 hg hv
    by_cases he : V = S
    · have hrt : r = true := HRES.out.2 ⟨(inb0 S).2 h0, HGR.out.closed.1 he⟩
      subst hrt
      subst he
      go_wp2_with fail
      go_ret
      exact ⟨rfl, HB1.out⟩
    · have hrf : r = false := by
        cases r
        · rfl
        · exact absurd (HGR.out.closed.2 (HRES.out.1 rfl).2) he
      subst hrf
      have hez : ((V : Int) == (S : Int)) = false := by simpa using fun h => he (by omega)
      go_wp2_with fail
      go_ret
      exact ⟨rfl, HB1.out⟩
  · have hrf : r = false := by
      cases r
      · rfl
      · exact absurd ((inb0 S).1 (HRES.out.1 rfl).1) h0
    subst hrf
    have h00 : S % 2 = 0 := by omega
    rw [h00] at hb
    go_enter Tryd.func32, Tryd.ntmps32
    go_wp2_with fail
    go_ret
    exact ⟨rfl, HB0.out⟩

set_option maxRecDepth 100000 in
theorem isNorm_any (A : Option Addr) (n c : Nat) (f : List (List Int)) (S : Nat) (r : Bool) (w : World) (hn : f.length = n) (hg : Grp f) (hr : Rd2 w A f) (hS : S < 2 ^ n) (hres : r = true ↔ NrmF f S) :
    Calls Tryd.prog 33 #[.agg #[.slice A n c], .int .i64 S] w (fun e w' => e = .returned (.bool r) ∧ Below w.heap.size w w') := by
  have HN := hide hn
  have HRD := hide hr
  have HB0 := hide ((Below.refl _ w).alloc (Nat.le_refl _) (Obj.cells #[Value.slice A n c] 26))
  have HK0 := hide (Blk.new w 26 [.slice A n c])
  have HG := hide hg
  have HTB := hide hg.tbl
  have h1 : 1 ≤ n := (hg.pos hn).1
  have h12 : n ≤ 12 := (hg.pos hn).2
  have HRES := hide hres
  have hS12 : S < 4096 := Nat.lt_of_lt_of_le hS (pow_le n h12)
  have HS := hide hS
  obtain ⟨m, hm⟩ : ∃ m, (mems 12 S).length = m := ⟨_, rfl⟩
  have hm12 : m ≤ 12 := by rw [← hm]; exact mems_length 12 S
  have HM := hide hm
  clear hn hg hr hres hS hm
  go_enter Tryd.func33, Tryd.ntmps33
  go_wp2_with fail
  refine (membersOf_any S _ hS12).mono ?_
  rintro e w1 ⟨B, d, rfl, hb1, hres⟩
  have HB1 := hide (HB0.out.trans (hb1.mono HB0.out.size))
  have HK1 := hide (HK0.out.later hb1)
  have HRS := hide hres.rd
  rw [HM.out]
  clear hb1 hres
  go_wp2_with fail
  go_loopw [10] (fun i wr => ∃ k : Nat, k ≤ m ∧ i = .int .i64 k ∧ Below w1.heap.size w1 wr ∧ ∀ a, a < k → ∀ x, x < n → inb S (cj f x (mel S a))) (fun i _ => m - (intOf i).toNat)
  case atStart => exact ⟨0, Nat.zero_le _, rfl, Below.refl _ _, fun a ha => absurd ha (Nat.not_lt_zero _)⟩
  case round =>
    obtain ⟨k, hk, rfl, hbe, hall⟩ := hrel
    have HB := hide hbe
    have HALL := hide hall
    clear hbe hall
    by_cases hlt : k < m
    · have hkz : (k : Int) < m := by omega
      obtain ⟨b, o, hBe, hbw, hc⟩ := HRS.out (by rw [memL_length, HM.out]; omega)
      subst hBe
      have c0 := (HB.out.cell (p := ⟨b, o + k, none⟩) hbw).trans (hc k (by rw [memL_length, HM.out]; exact hlt))
      rw [mel_getD (by rw [HM.out]; exact hlt)] at c0
      have hin : inb S (mel S k) := mel_in (by rw [HM.out]; exact hlt)
      have hyn : mel S k < n := inb_lt HS.out hin
      have HME : Hid (mel S k = mel S k) := hide rfl
      obtain ⟨y, hy⟩ : ∃ y, mel S k = y := ⟨_, rfl⟩
      rw [hy] at c0 hyn hin
      have HY := hide hy
      have HIN := hide hin
      have hcl := cjN_lt f y
      rw [HN.out] at hcl
      have hcl2 : cjN f y < 4096 := Nat.lt_of_lt_of_le hcl (pow_le n h12)
      have han := bt_andNot (cjN f y) S hcl2 hS12
      have haz := andNot_zero (cjN f y) S hS12 hcl2
      have hin2 := cjN_in HN.out HG.out hyn
      obtain ⟨q, hq⟩ : ∃ q, cjN f y = q := ⟨_, rfl⟩
      rw [hq] at han haz hin2 hcl2
      have HQ := hide hq
      obtain ⟨d0, hd0⟩ : ∃ d0, q &&& (2 ^ 64 - 1 - S) = d0 := ⟨_, rfl⟩
      rw [hd0] at han haz
      have hd12 : d0 < 4096 := by rw [← hd0]; exact Nat.lt_of_le_of_lt Nat.and_le_left hcl2
      clear hc hy hq hd0 hcl hin
      have k0 := (HK1.out.later HB.out).cell 0 _ rfl
      go_wp2_with fail
      clear k0 c0
      refine (conj_any _ n _ f y _ HN.out HG.out (HRD.out.later (HB1.out.trans (HB.out.mono HB1.out.size))) hyn).mono ?_
      rintro e w5 ⟨rfl, hb5⟩
      rw [HQ.out]
      have HB5 := hide (HB.out.trans (hb5.mono HB.out.size))
      clear hb5
      by_cases hz : d0 = 0
      · have HGOOD : Hid (∀ x, x < n → inb S (cj f x y)) := hide fun x hx => haz.1 hz _ ((hin2 _).2 ⟨x, hx, rfl⟩)
        subst hz
        clear haz hin2
        go_wp2_with fail
        go_roundw
        case rel => exact ⟨k + 1, by omega, by go_num, HB5.out, fun a ha => by
          by_cases e : a = k
          · rw [e, HY.out]; exact HGOOD.out
          · exact HALL.out a (by omega)⟩
        case measure => simp [intOf]; omega
      · have hrf : r = false := by
          cases r
          · rfl
          · exfalso
            apply hz
            rw [haz]
            intro t ht
            obtain ⟨x, hx, rfl⟩ := (hin2 t).1 ht
            exact HRES.out.1 rfl x y (by rw [HN.out]; exact hx) HIN.out
        subst hrf
        have hez : ((d0 : Int) == 0) = false := by simpa using (by omega : ¬ (d0 : Int) = 0)
        have hez2 : ((d0 : Int) != 0) = true := by simpa using (by omega : ¬ (d0 : Int) = 0)
        clear haz hin2 hz
        go_wp2_with fail
        go_ret
        exact ⟨rfl, HB1.out.trans (HB5.out.mono HB1.out.size)⟩
    · have hkm : k = m := by omega
      subst hkm
      have hrt : r = true := HRES.out.2 fun x y hx hy => by
        rw [HN.out] at hx
        obtain ⟨a, ha, rfl⟩ := mel_of hS12 hy
        exact HALL.out a (by rw [← HM.out]; exact ha) x hx
      subst hrt
      go_wp2_with fail
      go_ret
      exact ⟨rfl, HB1.out.trans (HB.out.mono HB1.out.size)⟩

set_option maxRecDepth 100000 in
theorem nrI (A : Option Addr) (n c : Nat) (f : List (List Int)) (x : Int) (r : Bool) (code : Int) (w : World) (hn : f.length = n) (hb : n ≤ 1048576) (hbs : ∀ i, i < f.length → (f.getD i []).length ≤ 1048576) (hr : Rd2 w A f) (hlo : -9223372036854775808 ≤ x) (hhi : x ≤ 9223372036854775807) (hres : NrRes f x r code) :
    Calls Tryd.prog 17 #[.agg #[.slice A n c], .int .i64 x] w (fun e w' => e = .returned (.tuple #[.bool r, .int .i64 code]) ∧ Below w.heap.size w w') := by
  have HN := hide hn
  have HRD := hide hr
  have HB0 := hide ((Below.refl _ w).alloc (Nat.le_refl _) (Obj.cells #[Value.slice A n c] 26))
  have HK0 := hide (Blk.new w 26 [.slice A n c])
  have HBS := hide hbs

  rcases hres with ⟨hg, ⟨S, rfl, hS, hsg, hrr⟩, rfl⟩ | ⟨hc0, rfl, ⟨hg, ⟨S, rfl, hS, hsg⟩, rfl⟩ | ⟨hg, rfl⟩ | ⟨hg, hx, rfl⟩ | ⟨hg, ⟨S, rfl, hS, hsg⟩, rfl⟩⟩
  · have HRR := hide hrr
    clear hrr
    have HG := hide hg
    have HTB := hide hg.tbl
    have h1 : 1 ≤ n := (hg.pos HN.out).1
    have h12 : n ≤ 12 := (hg.pos HN.out).2
    clear hg hn hr hbs
    obtain ⟨p, hp⟩ : ∃ p, 2 ^ n - 1 = p := ⟨_, rfl⟩
    have hp12 : p < 4096 := by rw [← hp]; have := pow_le n h12; have : 0 < 2 ^ n := Nat.pos_of_ne_zero (by simp); omega
    have HP := hide hp
    have hSp : S ≤ p := by rw [← hp]; rw [HN.out] at hS; have : 0 < 2 ^ n := Nat.pos_of_ne_zero (by simp); omega
    have HS : Hid (S < 2 ^ n) := hide (by rw [← HN.out]; exact hS)
    have hS0 : (0 : Int) ≤ S := by omega
    have hSpz : (S : Int) ≤ p := by omega
    have HSG := hide hsg
    clear hp hS hsg
    go_enter Tryd.func17, Tryd.ntmps17
    have k0 := HK0.out.cell 0 _ rfl
    go_wp2_with fail
    clear k0
    refine (isGrp_any _ _ _ f true _ HN.out hb HBS.out (HRD.out.later HB0.out) ⟨fun _ => HG.out, fun _ => rfl⟩).mono ?_
    rintro e w1 ⟨rfl, hb1⟩
    have HB1 := hide (HB0.out.trans (hb1.mono HB0.out.size))
    have HK1 := hide (HK0.out.later hb1)
    clear hb1
    have k0 := HK1.out.cell 0 _ rfl
    go_wp2_with fail
    clear k0
    refine (whole_any _ n _ f _ HN.out HG.out (HRD.out.later HB1.out)).mono ?_
    rintro e w2 ⟨rfl, hb1⟩
    rw [HP.out]
    have HB2 := hide (HB1.out.trans (hb1.mono HB1.out.size))
    have HK2 := hide (HK1.out.later hb1)
    clear hb1
    have k0 := HK2.out.cell 0 _ rfl
    go_wp2_with fail
    clear k0
    refine (isSubG_any _ n _ f S true _ HN.out HG.out (HRD.out.later HB2.out) HS.out ⟨fun _ => HSG.out, fun _ => rfl⟩).mono ?_
    rintro e w3 ⟨rfl, hb1⟩
    have HB3 := hide (HB2.out.trans (hb1.mono HB2.out.size))
    have HK3 := hide (HK2.out.later hb1)
    clear hb1
    have k0 := HK3.out.cell 0 _ rfl
    go_wp2_with fail
    clear k0
    refine (isNorm_any _ n _ f S r _ HN.out HG.out (HRD.out.later HB3.out) HS.out HRR.out).mono ?_
    rintro e w4 ⟨rfl, hb1⟩
    have HB4 := hide (HB3.out.trans (hb1.mono HB3.out.size))
    have HK4 := hide (HK3.out.later hb1)
    clear hb1
    go_wp2_with fail
    go_ret2
    exact ⟨rfl, HB4.out⟩
  · exact absurd rfl hc0
  · clear hc0
    have HG := hide hg
    clear hg hn hr hbs
    go_enter Tryd.func17, Tryd.ntmps17
    have k0 := HK0.out.cell 0 _ rfl
    go_wp2_with fail
    clear k0
    refine (isGrp_any _ _ _ f false _ HN.out hb HBS.out (HRD.out.later HB0.out) ⟨fun h => (by cases h), fun h => absurd h HG.out⟩).mono ?_
    rintro e w1 ⟨rfl, hb1⟩
    have HB1 := hide (HB0.out.trans (hb1.mono HB0.out.size))
    have HK1 := hide (HK0.out.later hb1)
    clear hb1
    go_wp2_with fail
    go_ret2
    exact ⟨rfl, HB1.out⟩
  · clear hc0
    rw [hn] at hx
    have HG := hide hg
    have HTB := hide hg.tbl
    have h1 : 1 ≤ n := (hg.pos HN.out).1
    have h12 : n ≤ 12 := (hg.pos HN.out).2
    clear hg hn hr hbs
    obtain ⟨p, hp⟩ : ∃ p, 2 ^ n - 1 = p := ⟨_, rfl⟩
    have hp12 : p < 4096 := by rw [← hp]; have := pow_le n h12; have : 0 < 2 ^ n := Nat.pos_of_ne_zero (by simp); omega
    have HP := hide hp
    have hpp : ((2 ^ n : Nat) : Int) = (p : Int) + 1 := by have : 0 < 2 ^ n := Nat.pos_of_ne_zero (by simp); omega
    rw [hpp] at hx
    clear hp hpp
    by_cases hx0 : x < 0
    · go_enter Tryd.func17, Tryd.ntmps17
      have k0 := HK0.out.cell 0 _ rfl
      go_wp2_with fail
      clear k0
      refine (isGrp_any _ _ _ f true _ HN.out hb HBS.out (HRD.out.later HB0.out) ⟨fun _ => HG.out, fun _ => rfl⟩).mono ?_
      rintro e w1 ⟨rfl, hb1⟩
      have HB1 := hide (HB0.out.trans (hb1.mono HB0.out.size))
      have HK1 := hide (HK0.out.later hb1)
      clear hb1
      go_wp2_with fail
      go_ret2
      exact ⟨rfl, HB1.out⟩
    · have hx1 : (p : Int) < x := by omega
      have hx2 : 0 ≤ x := by omega
      clear hx
      go_enter Tryd.func17, Tryd.ntmps17
      have k0 := HK0.out.cell 0 _ rfl
      go_wp2_with fail
      clear k0
      refine (isGrp_any _ _ _ f true _ HN.out hb HBS.out (HRD.out.later HB0.out) ⟨fun _ => HG.out, fun _ => rfl⟩).mono ?_
      rintro e w1 ⟨rfl, hb1⟩
      have HB1 := hide (HB0.out.trans (hb1.mono HB0.out.size))
      have HK1 := hide (HK0.out.later hb1)
      clear hb1
      have k0 := HK1.out.cell 0 _ rfl
      go_wp2_with fail
      clear k0
      refine (whole_any _ n _ f _ HN.out HG.out (HRD.out.later HB1.out)).mono ?_
      rintro e w2 ⟨rfl, hb1⟩
      rw [HP.out]
      have HB2 := hide (HB1.out.trans (hb1.mono HB1.out.size))
      have HK2 := hide (HK1.out.later hb1)
      clear hb1
      go_wp2_with fail
      go_ret2
      exact ⟨rfl, HB2.out⟩
  · clear hc0
    have HG := hide hg
    have HTB := hide hg.tbl
    have h1 : 1 ≤ n := (hg.pos HN.out).1
    have h12 : n ≤ 12 := (hg.pos HN.out).2
    clear hg hn hr hbs
    obtain ⟨p, hp⟩ : ∃ p, 2 ^ n - 1 = p := ⟨_, rfl⟩
    have hp12 : p < 4096 := by rw [← hp]; have := pow_le n h12; have : 0 < 2 ^ n := Nat.pos_of_ne_zero (by simp); omega
    have HP := hide hp
    have hSp : S ≤ p := by rw [← hp]; rw [HN.out] at hS; have : 0 < 2 ^ n := Nat.pos_of_ne_zero (by simp); omega
    have HS : Hid (S < 2 ^ n) := hide (by rw [← HN.out]; exact hS)
    have hS0 : (0 : Int) ≤ S := by omega
    have hSpz : (S : Int) ≤ p := by omega
    have HSG := hide hsg
    clear hp hS hsg
    go_enter Tryd.func17, Tryd.ntmps17
    have k0 := HK0.out.cell 0 _ rfl
    go_wp2_with fail
    clear k0
    refine (isGrp_any _ _ _ f true _ HN.out hb HBS.out (HRD.out.later HB0.out) ⟨fun _ => HG.out, fun _ => rfl⟩).mono ?_
    rintro e w1 ⟨rfl, hb1⟩
    have HB1 := hide (HB0.out.trans (hb1.mono HB0.out.size))
    have HK1 := hide (HK0.out.later hb1)
    clear hb1
    have k0 := HK1.out.cell 0 _ rfl
    go_wp2_with fail
    clear k0
    refine (whole_any _ n _ f _ HN.out HG.out (HRD.out.later HB1.out)).mono ?_
    rintro e w2 ⟨rfl, hb1⟩
    rw [HP.out]
    have HB2 := hide (HB1.out.trans (hb1.mono HB1.out.size))
    have HK2 := hide (HK1.out.later hb1)
    clear hb1
    have k0 := HK2.out.cell 0 _ rfl
    go_wp2_with fail
    clear k0
    refine (isSubG_any _ n _ f S false _ HN.out HG.out (HRD.out.later HB2.out) HS.out ⟨fun h => (by cases h), fun h => absurd h HSG.out⟩).mono ?_
    rintro e w3 ⟨rfl, hb1⟩
    have HB3 := hide (HB2.out.trans (hb1.mono HB2.out.size))
    have HK3 := hide (HK2.out.later hb1)
    clear hb1
    go_wp2_with fail
    go_ret2
    exact ⟨rfl, HB3.out⟩

end Go.Proofs.YtelildgngkajnaaDoor
namespace Go.Proofs.YtelildgngkajnaaDoor
open Go Go.RowKit
set_option maxHeartbeats 4000000

set_option maxRecDepth 100000 in
theorem subS_any (A : Option Addr) (n c : Nat) (f : List (List Int)) (x code : Int) (w : World) (hn : f.length = n) (hb : n ≤ 1048576) (hbs : ∀ i, i < f.length → (f.getD i []).length ≤ 1048576) (hr : Rd2 w A f) (hlo : -9223372036854775808 ≤ x) (hhi : x ≤ 9223372036854775807) (hres : SubC f x code) :
    Calls Tryd.prog 12 #[.agg #[.slice A n c], .int .i64 x] w (fun e w' => e = .returned (.int .i64 code) ∧ Below w.heap.size w w') := by
  have HN := hide hn
  have HRD := hide hr
  have HB0 := hide ((Below.refl _ w).alloc (Nat.le_refl _) (Obj.cells #[Value.slice A n c] 26))
  have HK0 := hide (Blk.new w 26 [.slice A n c])
  have HBS := hide hbs

  rcases hres with ⟨hg, ⟨S, rfl, hS, hsg⟩, rfl⟩ | ⟨hg, rfl⟩ | ⟨hg, hx, rfl⟩ | ⟨hg, ⟨S, rfl, hS, hsg⟩, rfl⟩
  · have HG := hide hg
    have HTB := hide hg.tbl
    have h1 : 1 ≤ n := (hg.pos HN.out).1
    have h12 : n ≤ 12 := (hg.pos HN.out).2
    clear hg hn hr hbs
    obtain ⟨p, hp⟩ : ∃ p, 2 ^ n = p := ⟨_, rfl⟩
    have hp12 : p ≤ 4096 := by rw [← hp]; exact pow_le n h12
    have hp1 : 1 ≤ p := by rw [← hp]; exact Nat.pos_of_ne_zero (by simp)
    have g1 : (2 : Int) ^ n = (p : Int) := by rw [← hp]; simp
    have g3 : IntKind.i64.wrap (p : Int) = (p : Int) := IntWalk.i64_in _ (by omega)
    have g4 : IntKind.u64.wrap (n : Int) = (n : Int) := by rw [IntKind.wrap_u64]; omega
    have hSp : S < p := by rw [← hp, ← HN.out]; exact hS
    have HS : Hid (S < 2 ^ n) := hide (by rw [← HN.out]; exact hS)
    have HSG := hide hsg
    clear hp hS hsg
    have hm : ((S : Int)).tmod 2 = 1 := by have h := (inb0 S).1 HSG.out.1; rw [show (S : Int).tmod 2 = ((S % 2 : Nat) : Int) from by rw [show ((2 : Int)) = ((2 : Nat) : Int) from rfl, Int.ofNat_tmod], h]; rfl
    go_enter Tryd.func12, Tryd.ntmps12
    have k0 := HK0.out.cell 0 _ rfl
    go_wp2_with fail
    clear k0
    refine (gq_below (isGrpS_any _ _ _ f true _ HN.out hb HBS.out (HRD.out.later HB0.out) ⟨fun _ => HG.out, fun _ => rfl⟩)).mono ?_
    rintro e w1 ⟨rfl, hb1⟩
    have HB1 := hide (HB0.out.trans (hb1.mono HB0.out.size))
    have HK1 := hide (HK0.out.later hb1)
    clear hb1
    have k0 := HK1.out.cell 0 _ rfl
    go_wp2_with fail
    clear k0
    refine (hp_below (in_any (S : Int) 0 _ true _ (by simp only [true_iff]; omega))).mono ?_
    rintro e w2 ⟨rfl, hb1⟩
    have HB2 := hide (HB1.out.trans (hb1.mono HB1.out.size))
    have HK2 := hide (HK1.out.later hb1)
    clear hb1
    have k0 := HK2.out.cell 0 _ rfl
    go_wp2_with fail
    clear k0
    refine (l04Closed_any _ n _ f S true _ HN.out HTB.out (HRD.out.later HB2.out) HS.out ⟨fun _ => HSG.out.2, fun _ => rfl⟩).mono ?_
    rintro e w3 ⟨rfl, hb1⟩
    have HB3 := hide (HB2.out.trans (hb1.mono HB2.out.size))
    have HK3 := hide (HK2.out.later hb1)
    clear hb1
    go_wp2_with fail
    go_ret
    exact ⟨rfl, HB3.out⟩
  · have HG := hide hg
    clear hg hn hr hbs
    go_enter Tryd.func12, Tryd.ntmps12
    have k0 := HK0.out.cell 0 _ rfl
    go_wp2_with fail
    clear k0
    refine (gq_below (isGrpS_any _ _ _ f false _ HN.out hb HBS.out (HRD.out.later HB0.out) ⟨fun h => (by cases h), fun h => absurd h HG.out⟩)).mono ?_
    rintro e w1 ⟨rfl, hb1⟩
    have HB1 := hide (HB0.out.trans (hb1.mono HB0.out.size))
    have HK1 := hide (HK0.out.later hb1)
    clear hb1
    go_wp2_with fail
    go_ret
    exact ⟨rfl, HB1.out⟩
  · rw [hn] at hx
    have HG := hide hg
    have HTB := hide hg.tbl
    have h1 : 1 ≤ n := (hg.pos HN.out).1
    have h12 : n ≤ 12 := (hg.pos HN.out).2
    clear hg hn hr hbs
    obtain ⟨p, hp⟩ : ∃ p, 2 ^ n = p := ⟨_, rfl⟩
    have hp12 : p ≤ 4096 := by rw [← hp]; exact pow_le n h12
    have hp1 : 1 ≤ p := by rw [← hp]; exact Nat.pos_of_ne_zero (by simp)
    have g1 : (2 : Int) ^ n = (p : Int) := by rw [← hp]; simp
    have g3 : IntKind.i64.wrap (p : Int) = (p : Int) := IntWalk.i64_in _ (by omega)
    have g4 : IntKind.u64.wrap (n : Int) = (n : Int) := by rw [IntKind.wrap_u64]; omega
    rw [hp] at hx
    clear hp
    go_enter Tryd.func12, Tryd.ntmps12
    have k0 := HK0.out.cell 0 _ rfl
    go_wp2_with fail
    clear k0
    refine (gq_below (isGrpS_any _ _ _ f true _ HN.out hb HBS.out (HRD.out.later HB0.out) ⟨fun _ => HG.out, fun _ => rfl⟩)).mono ?_
    rintro e w1 ⟨rfl, hb1⟩
    have HB1 := hide (HB0.out.trans (hb1.mono HB0.out.size))
    have HK1 := hide (HK0.out.later hb1)
    clear hb1
    have k0 := HK1.out.cell 0 _ rfl
    go_wp2_with fail
    clear k0
    refine (hp_below (in_any x 0 _ false _ (by simp only [Bool.false_eq_true, false_iff]; omega))).mono ?_
    rintro e w2 ⟨rfl, hb1⟩
    have HB2 := hide (HB1.out.trans (hb1.mono HB1.out.size))
    have HK2 := hide (HK1.out.later hb1)
    clear hb1
    clear hx
    go_wp2_with fail
    go_ret
    exact ⟨rfl, HB2.out⟩
  · have HG := hide hg
    have HTB := hide hg.tbl
    have h1 : 1 ≤ n := (hg.pos HN.out).1
    have h12 : n ≤ 12 := (hg.pos HN.out).2
    clear hg hn hr hbs
    obtain ⟨p, hp⟩ : ∃ p, 2 ^ n = p := ⟨_, rfl⟩
    have hp12 : p ≤ 4096 := by rw [← hp]; exact pow_le n h12
    have hp1 : 1 ≤ p := by rw [← hp]; exact Nat.pos_of_ne_zero (by simp)
    have g1 : (2 : Int) ^ n = (p : Int) := by rw [← hp]; simp
    have g3 : IntKind.i64.wrap (p : Int) = (p : Int) := IntWalk.i64_in _ (by omega)
    have g4 : IntKind.u64.wrap (n : Int) = (n : Int) := by rw [IntKind.wrap_u64]; omega
    have hSp : S < p := by rw [← hp, ← HN.out]; exact hS
    have HS : Hid (S < 2 ^ n) := hide (by rw [← HN.out]; exact hS)
    have HSG := hide hsg
    clear hp hS hsg
    by_cases hodd : S % 2 = 1
    · have hm : ((S : Int)).tmod 2 = 1 := by rw [show (S : Int).tmod 2 = ((S % 2 : Nat) : Int) from by rw [show ((2 : Int)) = ((2 : Nat) : Int) from rfl, Int.ofNat_tmod], hodd]; rfl
      have HNC : Hid (¬ ClosedF f S) := hide fun h => HSG.out ⟨(inb0 S).2 hodd, h⟩
      go_enter Tryd.func12, Tryd.ntmps12
      have k0 := HK0.out.cell 0 _ rfl
      go_wp2_with fail
      clear k0
      refine (gq_below (isGrpS_any _ _ _ f true _ HN.out hb HBS.out (HRD.out.later HB0.out) ⟨fun _ => HG.out, fun _ => rfl⟩)).mono ?_
      rintro e w1 ⟨rfl, hb1⟩
      have HB1 := hide (HB0.out.trans (hb1.mono HB0.out.size))
      have HK1 := hide (HK0.out.later hb1)
      clear hb1
      have k0 := HK1.out.cell 0 _ rfl
      go_wp2_with fail
      clear k0
      refine (hp_below (in_any (S : Int) 0 _ true _ (by simp only [true_iff]; omega))).mono ?_
      rintro e w2 ⟨rfl, hb1⟩
      have HB2 := hide (HB1.out.trans (hb1.mono HB1.out.size))
      have HK2 := hide (HK1.out.later hb1)
      clear hb1
      have k0 := HK2.out.cell 0 _ rfl
      go_wp2_with fail
      clear k0
      refine (l04Closed_any _ n _ f S false _ HN.out HTB.out (HRD.out.later HB2.out) HS.out ⟨fun h => (by cases h), fun h => absurd h HNC.out⟩).mono ?_
      rintro e w3 ⟨rfl, hb1⟩
      have HB3 := hide (HB2.out.trans (hb1.mono HB2.out.size))
      have HK3 := hide (HK2.out.later hb1)
      clear hb1
      go_wp2_with fail
      go_ret
      exact ⟨rfl, HB3.out⟩
    · have hm : ((S : Int)).tmod 2 = 0 := by rw [show (S : Int).tmod 2 = ((S % 2 : Nat) : Int) from by rw [show ((2 : Int)) = ((2 : Nat) : Int) from rfl, Int.ofNat_tmod], show S % 2 = 0 by omega]; rfl
      go_enter Tryd.func12, Tryd.ntmps12
      have k0 := HK0.out.cell 0 _ rfl
      go_wp2_with fail
      clear k0
      refine (gq_below (isGrpS_any _ _ _ f true _ HN.out hb HBS.out (HRD.out.later HB0.out) ⟨fun _ => HG.out, fun _ => rfl⟩)).mono ?_
      rintro e w1 ⟨rfl, hb1⟩
      have HB1 := hide (HB0.out.trans (hb1.mono HB0.out.size))
      have HK1 := hide (HK0.out.later hb1)
      clear hb1
      have k0 := HK1.out.cell 0 _ rfl
      go_wp2_with fail
      clear k0
      refine (hp_below (in_any (S : Int) 0 _ true _ (by simp only [true_iff]; omega))).mono ?_
      rintro e w2 ⟨rfl, hb1⟩
      have HB2 := hide (HB1.out.trans (hb1.mono HB1.out.size))
      have HK2 := hide (HK1.out.later hb1)
      clear hb1
      go_wp2_with fail
      go_ret
      exact ⟨rfl, HB2.out⟩

set_option maxRecDepth 100000 in
theorem normS_any (A : Option Addr) (n c : Nat) (f : List (List Int)) (S : Nat) (r : Bool) (w : World) (hn : f.length = n) (hg : Grp f) (hr : Rd2 w A f) (hS : S < 2 ^ n) (hres : r = true ↔ NrmF f S) :
    Calls Tryd.prog 13 #[.slice A n c, .int .i64 S] w fun e w' => e = .returned (.bool r) ∧ Below w.heap.size w w' := by
  have HN := hide hn
  have HG := hide hg
  have HTB := hide hg.tbl
  have HRD := hide hr
  have h1 : 1 ≤ n := (hg.pos hn).1
  have h12 : n ≤ 12 := (hg.pos hn).2
  have HRES := hide hres
  have hS12 : S < 4096 := Nat.lt_of_lt_of_le hS (pow_le n h12)
  have HS := hide hS
  clear hn hg hr hres hS
  go_enter Tryd.func13, Tryd.ntmps13
  go_wp2_with fail
  refine (innerS_any _ n _ f _ HN.out HG.out HRD.out).mono ?_
  rintro e w1 ⟨A1, c1, rfl, hb1, ho1⟩
  have HB1 := hide hb1
  have HJ : Hid (Tbl (cjL f n)) := hide (cjL_tbl HN.out HG.out)
  have HJL : Hid ((cjL f n).length = n) := hide (grid_length _ _)
  obtain ⟨b, o, hA, hbw, hc⟩ := HJ.out.cells ho1.rd HJL.out
  subst hA
  have HC := hide hc
  clear hb1 ho1 hc
  go_wp2_with fail
  go_loopw [6] (fun i wr => ∃ x : Nat, x ≤ n ∧ i = .int .i64 x ∧ Below w1.heap.size w1 wr ∧ ∀ x', x' < x → ∀ y, y < n → inb S y → inb S (cj f x' y)) (fun i _ => n - (intOf i).toNat)
  case atStart => exact ⟨0, Nat.zero_le _, rfl, Below.refl _ _, fun i hi => absurd hi (Nat.not_lt_zero _)⟩
  case round =>
    obtain ⟨x, hx, rfl, hbe, hall⟩ := hrel
    have HB := hide hbe
    have HALL := hide hall
    clear hbe hall
    by_cases hlt : x < n
    · have hxz : (x : Int) < n := by omega
      go_wp2_with fail
      go_loopw [7] (fun i wr => ∃ y : Nat, y ≤ n ∧ i = .int .i64 y ∧ Below w1.heap.size w1 wr ∧ ∀ y', y' < y → inb S y' → inb S (cj f x y')) (fun i _ => n - (intOf i).toNat)
      case atStart => exact ⟨0, Nat.zero_le _, rfl, HB.out, fun i hi => absurd hi (Nat.not_lt_zero _)⟩
      case round =>
        clear HB
        obtain ⟨y, hy, rfl, hbe, hall⟩ := hrel
        have HBI := hide hbe
        have HALLI := hide hall
        clear hbe hall
        by_cases hlty : y < n
        · have hyz : (y : Int) < n := by omega
          have g4 : IntKind.u64.wrap (y : Int) = (y : Int) := by rw [IntKind.wrap_u64]; omega
          by_cases iy : inb S y
          · have f1 := bt_in (by omega) iy
            obtain ⟨bx, ox, cx, r1, l1, g1⟩ := HC.out x hlt
            have r2 := g1 y hlty
            have hcj : ap (cjL f n) x y = cj f x y := cjL_at hlt hlty
            rw [hcj] at r2
            have hcn : cj f x y < n := HG.out.cj_lt HN.out hlt hlty
            obtain ⟨v, hv⟩ : ∃ v, cj f x y = v := ⟨_, rfl⟩
            rw [hv] at r2 hcn
            have HV := hide hv
            have HIY := hide iy
            have g5 : IntKind.u64.wrap (v : Int) = (v : Int) := by rw [IntKind.wrap_u64]; omega
            replace r1 := (HBI.out.cell (p := ⟨b, o + x, none⟩) hbw).trans r1
            replace r2 := (HBI.out.cell (p := ⟨bx, ox + y, none⟩) l1).trans r2
            clear g1 hv iy hcj
            by_cases iv : inb S v
            · have f2 := bt_in (by omega) iv
              have HIV := hide iv
              clear iv
              go_wp2_with fail
              go_roundw
              case rel => exact ⟨y + 1, by omega, by go_num, HBI.out, fun i hi => by
                by_cases e : i = y
                · rw [e, HV.out]; exact fun _ => HIV.out
                · exact HALLI.out i (by omega)⟩
              case measure => simp [intOf]; omega
            · have f2 := bt_out (by omega) iv
              have hrf : r = false := by
                cases r
                · rfl
                · exact absurd (by have h := HRES.out.1 rfl x y (by rw [HN.out]; exact hlt) HIY.out; rw [HV.out] at h; exact h) iv
              subst hrf
              clear iv
              go_wp2_with fail
              go_ret
              exact ⟨rfl, HB1.out.trans (HBI.out.mono HB1.out.size)⟩
          · have f1 := bt_out (by omega) iy
            have HIY := hide iy
            clear iy
            go_wp2_with fail
            go_roundw
            case rel => exact ⟨y + 1, by omega, by go_num, HBI.out, fun i hi => by
              by_cases e : i = y
              · rw [e]; exact fun h => absurd h HIY.out
              · exact HALLI.out i (by omega)⟩
            case measure => simp [intOf]; omega
        · have hyn : y = n := by omega
          subst hyn
          go_wp2_with fail
          go_roundw
          case rel => exact ⟨x + 1, by omega, by go_num, HBI.out, fun i hi => by
            by_cases e : i = x
            · rw [e]; exact HALLI.out
            · exact HALL.out i (by omega)⟩
          case measure => simp [intOf]; omega
    · have hxn : x = n := by omega
      subst hxn
      have hrt : r = true := HRES.out.2 fun i j hi hj => HALL.out i (by rw [HN.out] at hi; exact hi) j (inb_lt HS.out hj) hj
      subst hrt
      go_wp2_with fail
      go_ret
      exact ⟨rfl, HB1.out.trans (HB.out.mono HB1.out.size)⟩

end Go.Proofs.YtelildgngkajnaaDoor
