import Derived.Test.YtngfdkmiifpbgaaZk
import Derived.Test.YtngfdkmiifpbgaaZa
import Derived.Test.YtngfdkmiifpbgaaZe
import Derived.Test.YtngfdkmiifpbgaaZc
import Derived.Test.YtngfdkmiifpbgaaZg
import Derived.Test.YtngfdkmiifpbgaaZd
namespace Go.Proofs.Ytngfdkmiifpbgaa
open Go Go.RowKit
set_option maxHeartbeats 1000000

theorem gsize_any (A : Option Addr) (n c : Nat) (w : World) (_hn : n ≤ 1048576) :
    Calls Try.prog 91 #[.agg #[.slice A n c]] w fun e w' => e = .returned (.int .i64 n) ∧ Below w.heap.size w w' := by
  have HB0 := hide ((Below.refl _ w).alloc (Nat.le_refl _) (Obj.cells #[Value.slice A n c] 27))
  go_enter Try.func91, Try.ntmps91
  go_wp2_with fail
  go_ret
  exact ⟨rfl, HB0.out⟩

theorem gprod_any (A : Option Addr) (n c : Nat) (f : List (List Int)) (x y u : Nat) (w : World) (hn : f.length = n) (ht : Tbl f) (hr : Rd2 w A f) (hx : x < n) (hy : y < n) (hu : ap f x y = u) :
    Calls Try.prog 58 #[.agg #[.slice A n c], .int .i64 x, .int .i64 y] w fun e w' => e = .returned (.int .i64 u) ∧ Below w.heap.size w w' := by
  have h12 : n ≤ 12 := by rw [← hn]; exact ht.2.1
  obtain ⟨b, o, rfl, hb, hc⟩ := ht.cells hr hn
  obtain ⟨bx, ox, cx, h1, h2, h3⟩ := hc x hx
  have h4 := h3 y hy
  rw [hu] at h4
  have hbb := ((Below.refl _ w).alloc (Nat.le_refl _) (Obj.cells #[Value.slice (some ⟨b, o, none⟩) n c] 27))
  have HB0 := hide hbb
  have a4 := (hbb.cell (p := ⟨b, o + x, none⟩) hb).trans h1
  have a6 := (hbb.cell (p := ⟨bx, ox + y, none⟩) h2).trans h4
  have hxz : (x : Int) < n := by omega
  have hyz : (y : Int) < n := by omega
  have hxz0 : (0 : Int) ≤ x := by omega
  have hyz0 : (0 : Int) ≤ y := by omega
  clear hbb h1 h3 h4 hc hu hr ht hn
  go_enter Try.func58, Try.ntmps58
  go_wp2_with fail
  go_ret
  exact ⟨rfl, HB0.out⟩

set_option maxRecDepth 100000 in
/-- The product, over a block that is just the other factors. -/
theorem times_any (A : Option Addr) (n c : Nat) (f : List (List Int)) (x g k : Nat) (ys : List Nat) (w : World) (hn : f.length = n) (ht : Tbl f) (hr : Rd2 w A f) (hx : x < n) (hk : ys.length = k) (hys : ∀ y ∈ ys, y < n) (hb : Blk w g 2 (ints (natL ys))) (hk4 : k ≤ 4) :
    Calls Try.prog 111 #[.agg #[.slice A n c], .int .i64 x, .slice (some ⟨g, 0, none⟩) k k] w fun e w' => e = .returned (.int .i64 (tm f x ys)) ∧ Below w.heap.size w w' := by
  have h1 : 1 ≤ n := by rw [← hn]; exact ht.1
  have h12 : n ≤ 12 := by rw [← hn]; exact ht.2.1
  have HN := hide hn
  have HTB := hide ht
  have HR := hide hr
  have HK := hide hk
  have hgl := hb.lt
  have HB0 := hide ((Below.refl _ w).alloc (Nat.le_refl _) (Obj.cells #[Value.slice A n c] 27))
  have HK0 := hide (Blk.new w 27 [.slice A n c])
  have HG : Hid (∀ i, i < k → w.cell? ⟨g, i, none⟩ = some (.int .i64 (ys.getD i 0 : Nat)) ∧ ys.getD i 0 < n) := hide (fun i hi => by
    have hi2 : i < ys.length := by omega
    refine ⟨hb.cell i _ ?_, hys _ ?_⟩
    · simp [ints, natL, hi2]
    · simp [hi2])
  clear hn ht hr hk hys hb
  go_enter Try.func111, Try.ntmps111
  go_wp2_with fail
  go_loopw [1, 11] (fun s i wr => ∃ j : Nat, j ≤ k ∧ i = .int .i64 j ∧ s = .int .i64 (tm f x (ys.take j)) ∧ tm f x (ys.take j) < n ∧ Below w.heap.size w wr ∧ Blk wr w.heap.size 27 [.slice A n c]) (fun _ i _ => k - (intOf i).toNat)
  case atStart => exact ⟨0, Nat.zero_le _, rfl, rfl, hx, HB0.out, HK0.out⟩
  case round =>
    obtain ⟨j, hj, rfl, rfl, hvn, hbe, hkk⟩ := hrel
    have HB := hide hbe
    have HKK := hide hkk
    clear hbe hkk
    by_cases hlt : j < k
    · have hjz : (j : Int) < k := by omega
      have hst := tm_take f x ys j (by have := HK.out; omega)
      have hg := HG.out j hlt
      have c0 := (HB.out.cell (p := ⟨g, j, none⟩) hgl).trans hg.1
      have hyn := hg.2
      obtain ⟨v, hv⟩ : ∃ v, tm f x (ys.take j) = v := ⟨_, rfl⟩
      obtain ⟨y, hy⟩ : ∃ y, ys.getD j 0 = y := ⟨_, rfl⟩
      rw [hy] at c0 hyn hst
      rw [hv] at hvn hst ⊢
      have hu := HTB.out.ap_lt HN.out hvn hyn
      obtain ⟨u, hue⟩ : ∃ u, ap f v y = u := ⟨_, rfl⟩
      rw [hue] at hst hu
      have HST := hide hst
      have HUE := hide hue
      have k0 := HKK.out.cell 0 _ rfl
      clear hg hue hst hy hv
      go_wp2_with fail
      clear k0 c0
      refine (gprod_any _ n _ f v y u _ HN.out HTB.out (HR.out.later HB.out) hvn hyn HUE.out).mono ?_
      rintro e w5 ⟨rfl, hb5⟩
      have HB5 := hide (HB.out.trans (hb5.mono HB.out.size))
      have HK5 := hide (HKK.out.later hb5)
      clear hb5
      go_wp2_with fail
      go_roundw
      case rel => exact ⟨j + 1, by omega, by go_num, by rw [HST.out], by rw [HST.out]; exact hu, HB5.out, HK5.out⟩
      case measure => simp [intOf]; omega
    · have hjk : j = k := by omega
      subst hjk
      have hts : ys.take j = ys := List.take_of_length_le (by rw [HK.out]; exact Nat.le_refl _)
      rw [hts]
      obtain ⟨v, hv⟩ : ∃ v, tm f x ys = v := ⟨_, rfl⟩
      rw [hv]
      have HV := hide hv
      clear hts hv
      go_wp2_with fail
      go_ret
      exact ⟨by first | rfl | (rw [HV.out]; rfl), HB.out⟩

set_option maxRecDepth 100000 in
theorem ginv_any (A : Option Addr) (n c : Nat) (f : List (List Int)) (x : Nat) (w : World) (hn : f.length = n) (ht : Tbl f) (hp : AllPrm f) (hr : Rd2 w A f) (hx : x < n) :
    Calls Try.prog 57 #[.agg #[.slice A n c], .int .i64 x] w fun e w' => e = .returned (.int .i64 (bk f x)) ∧ Below w.heap.size w w' := by
  have h1 : 1 ≤ n := by rw [← hn]; exact ht.1
  have h12 : n ≤ 12 := by rw [← hn]; exact ht.2.1
  have hok := bk_ok hn ht hp hx
  obtain ⟨b, o, hA, hbw, hc⟩ := rd_rows ht hr hn
  subst hA
  obtain ⟨Bx, cx, r1, hrd⟩ := hc x hx
  have HRL : Hid ((f.getD x []).length = n) := hide (ht.row_len hn hx)
  obtain ⟨row, hrow⟩ : ∃ row, f.getD x [] = row := ⟨_, rfl⟩
  rw [hrow] at hok HRL hrd
  have HRD := hide hrd
  have HOK := hide hok.2
  obtain ⟨u, hu⟩ : ∃ u, bk f x = u := ⟨_, rfl⟩
  rw [hu] at HOK ⊢
  have hun : u < n := by rw [← hu]; exact hok.1
  have HB0 := hide ((Below.refl _ w).alloc (Nat.le_refl _) (Obj.cells #[Value.slice (some ⟨b, o, none⟩) n c] 27))
  have HK0 := hide (Blk.new w 27 [.slice (some ⟨b, o, none⟩) n c])
  replace r1 := (HB0.out.cell (p := ⟨b, o + x, none⟩) hbw).trans r1
  have hxz : (x : Int) < n := by omega
  have e1 : IntKind.i64.wrap (u : Int) = (u : Int) := IntWalk.i64_in _ (by omega)
  clear hn ht hp hr hc hrow hok hu hrd
  go_enter Try.func57, Try.ntmps57
  have k0 := HK0.out.cell 0 _ rfl
  go_wp2_with fail
  clear k0 r1
  refine (indexI_any _ n _ row 0 _ HRL.out (by omega) (HRD.out.later HB0.out)).mono ?_
  rintro e w1 ⟨rfl, hq⟩
  rw [HOK.out]
  have HB1 := hide (HB0.out.trans (hq.below _))
  clear hq
  go_wp2_with fail
  go_ret
  exact ⟨rfl, HB1.out⟩
end Go.Proofs.Ytngfdkmiifpbgaa
namespace Go.Proofs.Ytngfdkmiifpbgaa
open Go Go.RowKit
set_option maxHeartbeats 1000000
theorem Grp.tbl {f : List (List Int)} (h : Grp f) : Tbl f := h.1.1
theorem Grp.prm {f : List (List Int)} (h : Grp f) : AllPrm f := h.1.2
theorem Grp.pos {f : List (List Int)} {n : Nat} (hn : f.length = n) (h : Grp f) : 1 ≤ n ∧ n ≤ 12 := ⟨by rw [← hn]; exact h.tbl.1, by rw [← hn]; exact h.tbl.2.1⟩
theorem Grp.lt {f : List (List Int)} {n x y : Nat} (hn : f.length = n) (h : Grp f) (hx : x < n) (hy : y < n) : ap f x y < n := h.tbl.ap_lt hn hx hy
theorem Grp.assoc {f : List (List Int)} {n x y z : Nat} (hn : f.length = n) (h : Grp f) (hx : x < n) (hy : y < n) (hz : z < n) : ap f (ap f x y) z = ap f x (ap f y z) := h.2.2 x y z (by omega) (by omega) (by omega)
theorem Grp.idl {f : List (List Int)} {n x : Nat} (hn : f.length = n) (h : Grp f) (hx : x < n) : ap f 0 x = x := (h.2.1 x (by omega)).1
theorem Grp.idr {f : List (List Int)} {n x : Nat} (hn : f.length = n) (h : Grp f) (hx : x < n) : ap f x 0 = x := (h.2.1 x (by omega)).2
theorem Grp.bk_lt {f : List (List Int)} {n x : Nat} (hn : f.length = n) (h : Grp f) (hx : x < n) : bk f x < n := (bk_ok hn h.tbl h.prm hx).1
theorem Grp.bk_r {f : List (List Int)} {n x : Nat} (hn : f.length = n) (h : Grp f) (hx : x < n) : ap f x (bk f x) = 0 := by
  have h1 := h.bk_lt hn hx
  have hl : (f.getD x []).length = n := h.tbl.row_len hn hx
  unfold ap bk at *
  have h2 : (f.getD x []).idxOf 0 < (f.getD x []).length := by omega
  rw [List.getD_eq_getElem?_getD, List.getElem?_eq_getElem h2]
  simp
theorem Grp.bk_l {f : List (List Int)} {n x : Nat} (hn : f.length = n) (h : Grp f) (hx : x < n) : ap f (bk f x) x = 0 := by
  have h0 := (h.pos hn).1
  have hy := h.bk_lt hn hx
  have hz := h.bk_lt hn hy
  have e1 := h.bk_r hn hx
  have e2 := h.bk_r hn hy
  have hyx := h.lt hn hy hx
  have e3 : ap f (ap f (bk f x) x) (ap f (bk f x) (bk f (bk f x))) = 0 := by
    rw [h.assoc hn hy hx (h.lt hn hy hz), ← h.assoc hn hx hy hz, e1, h.idl hn hz, e2]
  rw [e2, h.idr hn hyx] at e3
  exact e3
theorem Grp.lcan {f : List (List Int)} {n x y z : Nat} (hn : f.length = n) (h : Grp f) (hx : x < n) (hy : y < n) (hz : z < n) (e : ap f x y = ap f x z) : y = z := by
  have hb := h.bk_lt hn hx
  have h1 := h.assoc hn hb hx hy
  have h2 := h.assoc hn hb hx hz
  rw [h.bk_l hn hx, h.idl hn hy] at h1
  rw [h.bk_l hn hx, h.idl hn hz] at h2
  rw [h1, h2, e]
theorem Grp.rcan {f : List (List Int)} {n x y z : Nat} (hn : f.length = n) (h : Grp f) (hx : x < n) (hy : y < n) (hz : z < n) (e : ap f y x = ap f z x) : y = z := by
  have hb := h.bk_lt hn hx
  have h1 := h.assoc hn hy hx hb
  have h2 := h.assoc hn hz hx hb
  rw [h.bk_r hn hx, h.idr hn hy] at h1
  rw [h.bk_r hn hx, h.idr hn hz] at h2
  rw [← h1, ← h2, e]
/-- x y times the inverse of x. -/
def cj (f : List (List Int)) (x y : Nat) : Nat := ap f (ap f x y) (bk f x)
theorem Grp.cj_lt {f : List (List Int)} {n x y : Nat} (hn : f.length = n) (h : Grp f) (hx : x < n) (hy : y < n) : cj f x y < n := h.lt hn (h.lt hn hx hy) (h.bk_lt hn hx)
theorem Grp.cj_eq {f : List (List Int)} {n x y : Nat} (hn : f.length = n) (h : Grp f) (hx : x < n) (hy : y < n) : cj f x y = y ↔ ap f x y = ap f y x := by
  have hb := h.bk_lt hn hx
  unfold cj
  constructor
  · intro e
    have h1 := h.assoc hn (h.lt hn hx hy) hb hx
    rw [h.bk_l hn hx, h.idr hn (h.lt hn hx hy), e] at h1
    exact h1.symm
  · intro e
    rw [e, h.assoc hn hy hx hb, h.bk_r hn hx, h.idr hn hy]
theorem Grp.cj_zero {f : List (List Int)} {n y : Nat} (hn : f.length = n) (h : Grp f) (hy : y < n) : cj f 0 y = y := by
  have h0 := (h.pos hn).1
  rw [h.cj_eq hn (by omega) hy, h.idl hn hy, h.idr hn hy]
/-- The set of all numbers below k with a property. -/
def setN (p : Nat → Bool) : Nat → Nat
  | 0 => 0
  | k + 1 => if p k = true then setN p k ||| 2 ^ k else setN p k
theorem inb_setN (p : Nat → Bool) (k x : Nat) : inb (setN p k) x ↔ x < k ∧ p x = true := by
  induction k with
  | zero => simp [setN, inb_zero]
  | succ k ih =>
    unfold setN
    by_cases h : p k = true
    · rw [if_pos h, inb_or, ih]
      constructor
      · rintro (⟨a, b⟩ | rfl)
        · exact ⟨by omega, b⟩
        · exact ⟨by omega, h⟩
      · rintro ⟨a, b⟩
        by_cases e : x = k
        · exact .inr e
        · exact .inl ⟨by omega, b⟩
    · rw [if_neg h, ih]
      constructor
      · rintro ⟨a, b⟩
        exact ⟨by omega, b⟩
      · rintro ⟨a, b⟩
        refine ⟨?_, b⟩
        by_cases e : x = k
        · subst e; exact absurd b h
        · omega
theorem setN_lt (p : Nat → Bool) (k : Nat) : setN p k < 2 ^ k := set_lt fun x h => ((inb_setN p k x).1 h).1
theorem inb_one (x t : Nat) : inb (2 ^ x) t ↔ t = x := by
  have := inb_or 0 x t
  rw [Nat.zero_or] at this
  rw [this]
  simp [inb_zero]
theorem inb_whole (n t : Nat) : inb (2 ^ n - 1) t ↔ t < n := by unfold inb; rw [Nat.testBit_two_pow_sub_one]; simp
/-- V has the conjugates of y by the elements below k. -/
def CjV (f : List (List Int)) (y k V : Nat) : Prop := ∀ t, inb V t ↔ ∃ x, x < k ∧ cj f x y = t
theorem CjV.start (f : List (List Int)) (y : Nat) : CjV f y 0 0 := fun t => ⟨fun h => absurd h (inb_zero t), fun ⟨_, h, _⟩ => absurd h (Nat.not_lt_zero _)⟩
theorem CjV.step {f : List (List Int)} {y k V v : Nat} (h : CjV f y k V) (hv : cj f k y = v) : CjV f y (k + 1) (V ||| 2 ^ v) := by
  intro t
  rw [inb_or, h t]
  constructor
  · rintro (⟨x, a, b⟩ | rfl)
    · exact ⟨x, by omega, b⟩
    · exact ⟨k, by omega, hv⟩
  · rintro ⟨x, a, b⟩
    by_cases e : x = k
    · subst e
      exact .inr (b.symm.trans hv)
    · exact .inl ⟨x, by omega, b⟩
/-- Whether x commutes with all elements. -/
def ctB (f : List (List Int)) (x : Nat) : Bool := decide (∀ y, y < f.length → ap f x y = ap f y x)
theorem ctB_iff (f : List (List Int)) (x : Nat) : ctB f x = true ↔ ∀ y, y < f.length → ap f x y = ap f y x := by simp [ctB]
def ctN (f : List (List Int)) (k : Nat) : Nat := setN (ctB f) k
theorem CjV.center {f : List (List Int)} {n x V : Nat} (hn : f.length = n) (h : Grp f) (hx : x < n) (hv : CjV f x n V) : V = 2 ^ x ↔ ctB f x = true := by
  have h0 := (h.pos hn).1
  rw [ctB_iff, hn]
  constructor
  · intro e y hy
    have h1 : inb V (cj f y x) := (hv _).2 ⟨y, hy, rfl⟩
    rw [e, inb_one, h.cj_eq hn hy hx] at h1
    exact h1.symm
  · intro e
    apply inb_eq
    intro t
    rw [inb_one, hv t]
    constructor
    · rintro ⟨y, hy, rfl⟩
      rw [h.cj_eq hn hy hx]
      exact (e y hy).symm
    · rintro rfl
      exact ⟨0, by omega, h.cj_zero hn hx⟩
/-- All elements commute. -/
def Abl (f : List (List Int)) : Prop := ∀ x y, x < f.length → y < f.length → ap f x y = ap f y x
theorem ctN_whole (f : List (List Int)) : ctN f f.length = 2 ^ f.length - 1 ↔ Abl f := by
  constructor
  · intro e x y hx hy
    have h1 : inb (ctN f f.length) x := by rw [e, inb_whole]; exact hx
    exact (ctB_iff f x).1 ((inb_setN _ _ _).1 h1).2 y hy
  · intro h
    apply inb_eq
    intro t
    rw [inb_whole]
    unfold ctN
    rw [inb_setN]
    exact ⟨fun h => h.1, fun ht => ⟨ht, (ctB_iff f t).2 fun y hy => h t y ht hy⟩⟩
/-- The order of an element. -/
theorem Grp.ord_ex {f : List (List Int)} {n x : Nat} (hn : f.length = n) (h : Grp f) (hx : x < n) : ∃ L, L ≤ n ∧ IsLen (fun y => ap f y x) 0 L := by
  have h0 := (h.pos hn).1
  exact isLen_ex (fun y hy => h.lt hn hy hx) (fun y z hy hz e => h.rcan hn hx hy hz e) 0 (by omega)
noncomputable def ordF (f : List (List Int)) (x : Nat) : Nat := Classical.epsilon fun L => L ≤ f.length ∧ IsLen (fun y => ap f y x) 0 L
theorem Grp.ord {f : List (List Int)} {n x : Nat} (hn : f.length = n) (h : Grp f) (hx : x < n) : ordF f x ≤ n ∧ IsLen (fun y => ap f y x) 0 (ordF f x) := by
  subst hn
  exact Classical.epsilon_spec (p := fun L => L ≤ f.length ∧ IsLen (fun y => ap f y x) 0 L) (h.ord_ex rfl hx)
/-- The power k + 1, as the loops make it. -/
def pwF (f : List (List Int)) (x k : Nat) : Nat := itf (fun y => ap f y x) (k + 1) 0
theorem Grp.pw_zero {f : List (List Int)} {n x : Nat} (hn : f.length = n) (h : Grp f) (hx : x < n) : pwF f x 0 = x := h.idl hn hx
theorem pw_succ (f : List (List Int)) (x k : Nat) : pwF f x (k + 1) = ap f (pwF f x k) x := rfl
theorem Grp.pw_lt {f : List (List Int)} {n x : Nat} (hn : f.length = n) (h : Grp f) (hx : x < n) (k : Nat) : pwF f x k < n := itf_lt (fun _ hy => h.lt hn hy hx) _ _ (by have := h.pos hn; omega)
theorem Grp.pw_end {f : List (List Int)} {n x : Nat} (hn : f.length = n) (h : Grp f) (hx : x < n) {k : Nat} (hk : k < ordF f x) : pwF f x k = 0 ↔ k + 1 = ordF f x := by
  have ho := (h.ord hn hx).2
  constructor
  · intro e
    by_cases hk2 : k + 1 < ordF f x
    · exact absurd e (ho.2.2 (k + 1) (by omega) hk2)
    · omega
  · intro e
    unfold pwF
    rw [e]
    exact ho.2.1
/-- The answers of functions of a group. -/
def ElC (f : List (List Int)) (x : Int) (code : Int) : Prop := (Grp f ∧ 0 ≤ x ∧ x < (f.length : Int) ∧ code = 0) ∨ (¬ Grp f ∧ code = 1) ∨ (Grp f ∧ ¬ (0 ≤ x ∧ x < (f.length : Int)) ∧ code = 2)
def ElRes (V : Nat → Nat) (f : List (List Int)) (x : Int) (v code : Int) : Prop := (Grp f ∧ (∃ u : Nat, u < f.length ∧ x = u ∧ v = (V u : Int)) ∧ code = 0) ∨ (code ≠ 0 ∧ v = 0 ∧ ElC f x code)
theorem ElRes.ex (V : Nat → Nat) (f : List (List Int)) (x : Int) : ∃ v code, ElRes V f x v code := by
  by_cases h : Grp f
  · by_cases h1 : 0 ≤ x ∧ x < (f.length : Int)
    · exact ⟨_, _, .inl ⟨h, ⟨x.toNat, by omega, by omega, rfl⟩, rfl⟩⟩
    · exact ⟨0, 2, .inr ⟨by decide, rfl, .inr (.inr ⟨h, h1, rfl⟩)⟩⟩
  · exact ⟨0, 1, .inr ⟨by decide, rfl, .inr (.inl ⟨h, rfl⟩)⟩⟩
def InvRes (f : List (List Int)) : Int → Int → Int → Prop := ElRes (bk f) f
def OrdRes (f : List (List Int)) : Int → Int → Int → Prop := ElRes (ordF f) f
theorem InvRes.ex (f : List (List Int)) (x : Int) : ∃ v code, InvRes f x v code := ElRes.ex _ _ _
theorem OrdRes.ex (f : List (List Int)) (x : Int) : ∃ v code, OrdRes f x v code := ElRes.ex _ _ _
def GrRes (f : List (List Int)) (r : Bool) : Prop := r = true ↔ Grp f
theorem GrRes.ex (f : List (List Int)) : ∃ r, GrRes f r := bool_of _
/-- A number, or that it is no group. -/
def GvRes (f : List (List Int)) (V : Nat) (v code : Int) : Prop := (Grp f ∧ v = V ∧ code = 0) ∨ (¬ Grp f ∧ v = 0 ∧ code = 1)
def GbRes (f : List (List Int)) (P : Prop) (r : Bool) (code : Int) : Prop := (Grp f ∧ (r = true ↔ P) ∧ code = 0) ∨ (¬ Grp f ∧ r = false ∧ code = 1)
def CtRes (f : List (List Int)) : Int → Int → Prop := GvRes f (ctN f f.length)
def AbRes (f : List (List Int)) : Bool → Int → Prop := GbRes f (Abl f)
theorem CtRes.ex (f : List (List Int)) : ∃ v code, CtRes f v code := by
  by_cases h : Grp f
  · exact ⟨_, _, .inl ⟨h, rfl, rfl⟩⟩
  · exact ⟨_, _, .inr ⟨h, rfl, rfl⟩⟩
theorem AbRes.ex (f : List (List Int)) : ∃ r code, AbRes f r code := by
  by_cases h : Grp f
  · obtain ⟨r, hr⟩ := bool_of (Abl f)
    exact ⟨r, 0, .inl ⟨h, hr, rfl⟩⟩
  · exact ⟨_, _, .inr ⟨h, rfl, rfl⟩⟩
end Go.Proofs.Ytngfdkmiifpbgaa
namespace Go.Proofs.Ytngfdkmiifpbgaa
open Go Go.RowKit
/-- Element number a of a set. -/
def mel (S a : Nat) : Nat := (mems 12 S).getD a 0
theorem mel_in {S a : Nat} (h : a < (mems 12 S).length) : inb S (mel S a) := by
  have : mel S a ∈ mems 12 S := by
    unfold mel
    rw [List.getD_eq_getElem?_getD, List.getElem?_eq_getElem h]
    exact List.getElem_mem h
  exact ((mems_mem _ _ _).1 this).2
theorem mel_of {S x : Nat} (hS : S < 4096) (h : inb S x) : ∃ a, a < (mems 12 S).length ∧ mel S a = x := by
  have hm : x ∈ mems 12 S := (mems_mem _ _ _).2 ⟨inb_lt (k := 12) (by simpa using hS) h, h⟩
  obtain ⟨a, ha, e⟩ := List.getElem_of_mem hm
  exact ⟨a, ha, by unfold mel; rw [List.getD_eq_getElem?_getD, List.getElem?_eq_getElem ha]; exact e⟩
theorem mel_getD {S a : Nat} (h : a < (mems 12 S).length) : (memL 12 S).getD a 0 = (mel S a : Int) := memL_getD _ _ _ h
/-- The set behind the pairs before (i, j). -/
def GrQ (f : List (List Int)) (S i j V : Nat) : Prop := ∀ t, inb V t ↔ inb S t ∨ ∃ a b, (a < i ∨ (a = i ∧ b < j)) ∧ a < (mems 12 S).length ∧ b < (mems 12 S).length ∧ ap f (mel S a) (mel S b) = t
theorem GrQ.start (f : List (List Int)) (S : Nat) : GrQ f S 0 0 S := fun t => ⟨.inl, fun h => by
  rcases h with h | ⟨a, b, h, _⟩
  · exact h
  · omega⟩
theorem GrQ.step {f : List (List Int)} {S i j V v : Nat} (h : GrQ f S i j V) (hi : i < (mems 12 S).length) (hj : j < (mems 12 S).length) (hv : ap f (mel S i) (mel S j) = v) : GrQ f S i (j + 1) (V ||| 2 ^ v) := by
  intro t
  rw [inb_or, h t]
  constructor
  · rintro ((h1 | ⟨a, b, h1, h2, h3, h4⟩) | rfl)
    · exact .inl h1
    · exact .inr ⟨a, b, by omega, h2, h3, h4⟩
    · exact .inr ⟨i, j, by omega, hi, hj, hv⟩
  · rintro (h1 | ⟨a, b, h1, h2, h3, h4⟩)
    · exact .inl (.inl h1)
    · by_cases e : a = i ∧ b = j
      · obtain ⟨rfl, rfl⟩ := e
        exact .inr (h4.symm.trans hv)
      · exact .inl (.inr ⟨a, b, by omega, h2, h3, h4⟩)
theorem GrQ.next {f : List (List Int)} {S i V : Nat} (h : GrQ f S i (mems 12 S).length V) : GrQ f S (i + 1) 0 V := by
  intro t
  rw [h t]
  constructor
  · rintro (h1 | ⟨a, b, h1, h2, h3, h4⟩)
    · exact .inl h1
    · exact .inr ⟨a, b, by omega, h2, h3, h4⟩
  · rintro (h1 | ⟨a, b, h1, h2, h3, h4⟩)
    · exact .inl h1
    · exact .inr ⟨a, b, by omega, h2, h3, h4⟩
theorem GrQ.done {f : List (List Int)} {S V : Nat} (hS : S < 4096) (h : GrQ f S (mems 12 S).length 0 V) : GrF f S V := by
  intro t
  rw [h t]
  constructor
  · rintro (h1 | ⟨a, b, h1, h2, h3, h4⟩)
    · exact .inl h1
    · exact .inr ⟨_, _, mel_in h2, mel_in h3, h4⟩
  · rintro (h1 | ⟨x, y, hx, hy, h4⟩)
    · exact .inl h1
    · obtain ⟨a, ha, rfl⟩ := mel_of hS hx
      obtain ⟨b, hb, rfl⟩ := mel_of hS hy
      exact .inr ⟨a, b, .inl ha, ha, hb, h4⟩
/-- A subrack, as a set. -/
def SubF (f : List (List Int)) (S : Nat) : Prop := S ≠ 0 ∧ ClosedF f S
theorem pow_le (n : Nat) (h : n ≤ 12) : 2 ^ n ≤ 4096 := Nat.pow_le_pow_right (n := 2) (by decide) h
end Go.Proofs.Ytngfdkmiifpbgaa
namespace Go.Proofs.Ytngfdkmiifpbgaa
open Go Go.RowKit
set_option maxHeartbeats 4000000

theorem gq_below {P : Program} {F : FuncId} {args : Array Value} {w : World} {v : Ending} (h : Calls P F args w fun e w' => e = v ∧ Quiet w w') : Calls P F args w fun e w' => e = v ∧ Below w.heap.size w w' := h.mono fun _ _ ⟨he, hq⟩ => ⟨he, hq.below _⟩
def GrX (f : List (List Int)) (n x : Nat) : Prop := ap f 0 x = x ∧ ap f x 0 = x ∧ Prm (f.getD x []) ∧ ∀ y, y < n → ∀ z, z < n → As3 f x y z
theorem grpX_all {f : List (List Int)} {n : Nat} (hn : f.length = n) (ht : Tbl f) (h : ∀ x, x < n → GrX f n x) : Grp f := by
  subst hn
  exact ⟨⟨ht, fun x hx => (h x hx).2.2.1⟩, fun x hx => ⟨(h x hx).1, (h x hx).2.1⟩, fun x y z hx hy hz => (h x hx).2.2.2 y hy z hz⟩
theorem grpX_of {f : List (List Int)} {n : Nat} (hn : f.length = n) (h : Grp f) (x : Nat) (hx : x < n) : GrX f n x := by
  subst hn
  exact ⟨(h.2.1 x hx).1, (h.2.1 x hx).2, h.1.2 x hx, fun y hy z hz => h.2.2 x y z hx hy hz⟩

set_option maxRecDepth 100000 in
theorem isGrpS_any (A : Option Addr) (n c : Nat) (f : List (List Int)) (r : Bool) (w : World) (hn : f.length = n) (hb : n ≤ 1048576) (hbs : ∀ i, i < f.length → (f.getD i []).length ≤ 1048576) (hr : Rd2 w A f) (hrc : r = true ↔ Grp f) :
    Calls Try.prog 50 #[.slice A n c] w fun e w' => e = .returned (.bool r) ∧ Quiet w w' := by
  have HN := hide hn
  have HBS := hide hbs
  have HRD := hide hr
  have HRC := hide hrc
  by_cases ht : Tbl f
  · have HTB := hide ht
    have h1 : 1 ≤ n := by rw [← hn]; exact ht.1
    have h12 : n ≤ 12 := by rw [← hn]; exact ht.2.1
    obtain ⟨b, o, hA, hb, hc⟩ := ht.cells hr hn
    have HRW : Hid (∀ x, x < n → ∀ B c, w.cell? ⟨b, o + x, none⟩ = some (.slice B n c) → Rd w B (f.getD x [])) := hide (by
      obtain ⟨b', o', hA', _, hc'⟩ := rd_rows ht hr hn
      rw [hA] at hA'
      cases hA'
      intro x hx B c hB
      obtain ⟨B', c', h3, h4⟩ := hc' x hx
      rw [hB] at h3
      cases h3
      exact h4)
    subst hA
    have HC := hide hc
    clear hn hbs hr hrc ht hc
    go_enter Try.func50, Try.ntmps50
    go_wp2_with fail
    refine (l01Table_any _ _ _ f true _ HN.out (by omega) (fun i hi => by have := HBS.out i hi; omega) HRD.out (by simp [HTB.out])).mono ?_
    rintro e w1 ⟨rfl, hq1⟩
    have HQ1 := hide hq1
    clear hq1
    go_wp2_with fail
    go_loopw [3] (fun i wr => ∃ x : Nat, x ≤ n ∧ i = .int .i64 x ∧ Quiet w wr ∧ ∀ i, i < x → GrX f n i) (fun i _ => n - (intOf i).toNat)
    case atStart => exact ⟨0, Nat.zero_le _, rfl, HQ1.out, fun i hi => absurd hi (Nat.not_lt_zero _)⟩
    case round =>
      obtain ⟨x, hx, rfl, hq, hall⟩ := hrel
      have HQ := hide hq
      have HALL := hide hall
      clear hq hall
      by_cases hlt : x < n
      · have hxz : (x : Int) < n := by omega
        obtain ⟨bx, ox, cx, r1, r2, r3⟩ := HC.out x hlt
        obtain ⟨b0, o0, c0, s1, s2, s3⟩ := HC.out 0 h1
        have e1 := s3 x hlt
        have e2 := r3 0 h1
        have HPX : Hid (Rd w (some ⟨bx, ox, none⟩) (f.getD x []) ∧ (f.getD x []).length = n) := hide ⟨HRW.out x hlt _ _ r1, HTB.out.row_len HN.out hlt⟩
        obtain ⟨a, ha⟩ : ∃ a, ap f 0 x = a := ⟨_, rfl⟩
        obtain ⟨a', ha'⟩ : ∃ a, ap f x 0 = a := ⟨_, rfl⟩
        rw [ha] at e1
        rw [ha'] at e2
        have HA := hide ha
        have HA' := hide ha'
        have hbl := HQ.out.below w.heap.size
        replace r1 := (hbl.cell (p := ⟨b, o + x, none⟩) hb).trans r1
        replace s1 := (hbl.cell (p := ⟨b, o + 0, none⟩) hb).trans s1
        replace e1 := (hbl.cell (p := ⟨b0, o0 + x, none⟩) s2).trans e1
        replace e2 := (hbl.cell (p := ⟨bx, ox + 0, none⟩) r2).trans e2
        rw [Nat.add_zero] at s1 e2
        clear hbl ha ha' r3 s3
        by_cases c1 : a = x
        · have HC1 := hide c1
          subst c1
          by_cases c2 : a' = a
          · have HC2 := hide c2
            subst c2
            by_cases c3 : Prm (f.getD a' [])
            · have HC3 := hide c3
              clear c3
              go_wp2_with fail
              refine (prmS_any _ n _ (f.getD a' []) true _ HPX.out.2 (by omega) (HQ.out.rd HPX.out.1) ⟨fun _ => HC3.out, fun _ => rfl⟩).mono ?_
              rintro e w2 ⟨rfl, hq2⟩
              have HQ2 := hide (HQ.out.trans hq2)
              clear hq2 r1 s1 e1 e2
              obtain ⟨x, hxe⟩ : ∃ x, a' = x := ⟨_, rfl⟩
              subst hxe
              go_wp2_with fail
              go_loopw [4] (fun i wi => ∃ y : Nat, y ≤ n ∧ i = .int .i64 y ∧ Quiet w wi ∧ ∀ y', y' < y → ∀ z, z < n → As3 f a' y' z) (fun i _ => n - (intOf i).toNat)
              case atStart => exact ⟨0, Nat.zero_le _, rfl, HQ2.out, fun i hi => absurd hi (Nat.not_lt_zero _)⟩
              case round =>
                obtain ⟨y, hy, rfl, hq, hall⟩ := hrel
                have HQI := hide hq
                have HALLI := hide hall
                clear hq hall
                by_cases hlty : y < n
                · have hyz : (y : Int) < n := by omega
                  go_wp2_with fail
                  go_loopw [5] (fun i wi => ∃ z : Nat, z ≤ n ∧ i = .int .i64 z ∧ Quiet w wi ∧ ∀ z', z' < z → As3 f a' y z') (fun i _ => n - (intOf i).toNat)
                  case atStart => exact ⟨0, Nat.zero_le _, rfl, HQI.out, fun i hi => absurd hi (Nat.not_lt_zero _)⟩
                  case round =>
                    obtain ⟨z, hzn, rfl, hq, hallj⟩ := hrel
                    have HQJ := hide hq
                    have HALLJ := hide hallj
                    clear hq hallj
                    by_cases hltz : z < n
                    · have hzz : (z : Int) < n := by omega
                      have hq1 := HTB.out.ap_lt HN.out hlt hlty
                      have hq2 := HTB.out.ap_lt HN.out hlty hltz
                      obtain ⟨q1, h_1⟩ : ∃ u, ap f a' y = u := ⟨_, rfl⟩
                      obtain ⟨q2, h_2⟩ : ∃ u, ap f y z = u := ⟨_, rfl⟩
                      have hat : As3 f a' y z ↔ ap f q1 z = ap f a' q2 := by unfold As3; rw [h_1, h_2]
                      rw [h_1] at hq1
                      rw [h_2] at hq2
                      obtain ⟨q3, h_3⟩ : ∃ u, ap f q1 z = u := ⟨_, rfl⟩
                      obtain ⟨q4, h_4⟩ : ∃ u, ap f a' q2 = u := ⟨_, rfl⟩
                      rw [h_3, h_4] at hat
                      have HAT := hide hat
                      obtain ⟨bx, ox, cx, r1, r2, r3⟩ := HC.out a' hlt
                      obtain ⟨by', oy, cy, s1, s2, s3⟩ := HC.out y hlty
                      obtain ⟨bq, oq, cq, t1, t2, t3⟩ := HC.out q1 hq1
                      have e1 := r3 y hlty
                      rw [h_1] at e1
                      have e2 := s3 z hltz
                      rw [h_2] at e2
                      have e3 := t3 z hltz
                      rw [h_3] at e3
                      have e4 := r3 q2 hq2
                      rw [h_4] at e4
                      have z1 : (q1 : Int) < n := by omega
                      have z2 : (q2 : Int) < n := by omega
                      have hbl := HQJ.out.below w.heap.size
                      replace r1 := (hbl.cell (p := ⟨b, o + a', none⟩) hb).trans r1
                      replace s1 := (hbl.cell (p := ⟨b, o + y, none⟩) hb).trans s1
                      replace t1 := (hbl.cell (p := ⟨b, o + q1, none⟩) hb).trans t1
                      replace e1 := (hbl.cell (p := ⟨bx, ox + y, none⟩) r2).trans e1
                      replace e2 := (hbl.cell (p := ⟨by', oy + z, none⟩) s2).trans e2
                      replace e3 := (hbl.cell (p := ⟨bq, oq + z, none⟩) t2).trans e3
                      replace e4 := (hbl.cell (p := ⟨bx, ox + q2, none⟩) r2).trans e4
                      clear hbl h_1 h_2 h_3 h_4 hat r3 s3 t3
                      by_cases hcs : q3 = q4
                      · have HGOOD := hide (HAT.out.2 hcs)
                        subst hcs
                        go_wp2_with fail
                        go_quiet (fail)
                        go_wp2_with fail
                        go_roundw
                        case rel => exact ⟨z + 1, by omega, by go_num, HQJ.out.drewN _, fun i hi => by
                          by_cases e : i = z
                          · rw [e]; exact HGOOD.out
                          · exact HALLJ.out i (by omega)⟩
                        case measure => simp [intOf]; omega
                      · have hcz : ¬ (q3 : Int) = q4 := by omega
                        have HBAD := hide (fun h => hcs (HAT.out.1 h))
                        have hrf : r = false := by
                          cases r
                          · rfl
                          · exact absurd (HRC.out.1 rfl) (fun h => HBAD.out (((grpX_of HN.out h a' hlt).2.2.2) y hlty z hltz))
                        subst hrf
                        go_wp2_with fail
                        go_quiet (fail)
                        go_wp2_with fail
                        go_ret
                        exact ⟨rfl, HQJ.out.drewN _⟩
                    · have hzn' : z = n := by omega
                      subst hzn'
                      go_wp2_with fail
                      go_roundw
                      case rel => exact ⟨y + 1, by omega, by go_num, HQJ.out, fun i hi => by
                        by_cases e : i = y
                        · rw [e]; exact HALLJ.out
                        · exact HALLI.out i (by omega)⟩
                      case measure => simp [intOf]; omega
                · have hyn' : y = n := by omega
                  subst hyn'
                  go_wp2_with fail
                  go_roundw
                  case rel => exact ⟨a' + 1, by omega, by go_num, HQI.out, fun i hi => by
                    by_cases e : i = a'
                    · rw [e]; exact ⟨HA.out, HA'.out, HC3.out, HALLI.out⟩
                    · exact HALL.out i (by omega)⟩
                  case measure => simp [intOf]; omega
            · have HC3 := hide c3
              clear c3
              have hrf : r = false := by
                cases r
                · rfl
                · exact absurd (HRC.out.1 rfl) (fun h => HC3.out (grpX_of HN.out h a' hlt).2.2.1)
              subst hrf
              go_wp2_with fail
              refine (prmS_any _ n _ (f.getD a' []) false _ HPX.out.2 (by omega) (HQ.out.rd HPX.out.1) ⟨fun h => (by cases h), fun h => absurd h HC3.out⟩).mono ?_
              rintro e w2 ⟨rfl, hq2⟩
              have HQ2 := hide (HQ.out.trans hq2)
              clear hq2 r1 s1 e1 e2
              go_wp2_with fail
              go_ret
              exact ⟨rfl, HQ2.out⟩
          · have HC2 := hide c2
            have hcz : ¬ (a' : Int) = (a : Int) := by omega
            have hrf : r = false := by
              cases r
              · rfl
              · exact absurd (HRC.out.1 rfl) (fun h => HC2.out (HA'.out.symm.trans (grpX_of HN.out h a hlt).2.1))
            subst hrf
            go_wp2_with fail
            go_ret
            exact ⟨rfl, HQ.out⟩
        · have HC1 := hide c1
          have hcz : ¬ (a : Int) = (x : Int) := by omega
          have hrf : r = false := by
            cases r
            · rfl
            · exact absurd (HRC.out.1 rfl) (fun h => HC1.out (HA.out.symm.trans (grpX_of HN.out h x hlt).1))
          subst hrf
          go_wp2_with fail
          go_ret
          exact ⟨rfl, HQ.out⟩
      · have hxn : x = n := by omega
        subst hxn
        have hrt : r = true := HRC.out.2 (grpX_all HN.out HTB.out HALL.out)
        subst hrt
        go_wp2_with fail
        go_ret
        exact ⟨rfl, HQ.out⟩
  · have HTB := hide ht
    have hrf : r = false := by
      cases r
      · rfl
      · exact absurd (HRC.out.1 rfl).1.1 ht
    subst hrf
    clear hn hbs hr hrc ht
    go_enter Try.func50, Try.ntmps50
    go_wp2_with fail
    refine (l01Table_any _ _ _ f false _ HN.out (by omega) (fun i hi => by have := HBS.out i hi; omega) HRD.out (by simp [HTB.out])).mono ?_
    rintro e w1 ⟨rfl, hq1⟩
    have HQ1 := hide hq1
    clear hq1
    go_wp2_with fail
    go_ret
    exact ⟨rfl, HQ1.out⟩
end Go.Proofs.Ytngfdkmiifpbgaa
