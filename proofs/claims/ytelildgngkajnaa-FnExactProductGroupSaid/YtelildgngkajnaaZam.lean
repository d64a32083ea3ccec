import Derived.Test.YtelildgngkajnaaZs
import Derived.Test.YtelildgngkajnaaZt
import Derived.Test.YtelildgngkajnaaZah
import Derived.Test.YtelildgngkajnaaZab
import Derived.Test.YtelildgngkajnaaZn
import Derived.Test.YtelildgngkajnaaZi
import Derived.Shelf.Abstract
import Derived.Shelf.Lay
import Derived.Deep.Cut
import Derived.Deep.RegionHeld3
namespace Go.Proofs.Ytelildgngkajnaa
open Go Go.RowKit
set_option maxHeartbeats 1000000
theorem Grp.tbl {f : List (List Int)} (h : Grp f) : Tbl f := h.1.1
theorem Grp.prm {f : List (List Int)} (h : Grp f) : AllPrm f := h.1.2
theorem Grp.pos {f : List (List Int)} {n : Nat} (hn : f.length = n) (h : Grp f) : 1 ≤ n ∧ n ≤ 12 := ⟨by rw [← hn]; exact h.tbl.1, by rw [← hn]; exact h.tbl.2.1⟩
theorem Grp.lt {f : List (List Int)} {n x y : Nat} (hn : f.length = n) (h : Grp f) (hx : x < n) (hy : y < n) : ap f x y < n := h.tbl.ap_lt hn hx hy
theorem Grp.assoc {f : List (List Int)} {n x y z : Nat} (hn : f.length = n) (h : Grp f) (hx : x < n) (hy : y < n) (hz : z < n) : ap f (ap f x y) z = ap f x (ap f y z) := h.2.2 x y z (by omega) (by omega) (by omega)
theorem Grp.idl {f : List (List Int)} {n x : Nat} (hn : f.length = n) (h : Grp f) (hx : x < n) : ap f 0 x = x := (h.2.1 x (by omega)).1
theorem Grp.idr {f : List (List Int)} {n x : Nat} (hn : f.length = n) (h : Grp f) (hx : x < n) : ap f x 0 = x := (h.2.1 x (by omega)).2
theorem Grp.bk_lt {f : List (List Int)} {n x : Nat} (hn : f.length = n) (h : Grp f) (hx : x < n) : bk f x < n := (bk_ok hn h.tbl h.prm hx).1
theorem Grp.bk_r {f : List (List Int)} {n x : Nat} (hn : f.length = n) (h : Grp f) (hx : x < n) : ap f x (bk f x) = 0 := by
  have h1 := h.bk_lt hn hx
  have hl : (f.getD x []).length = n := h.tbl.row_len hn hx
  unfold ap bk at *
  have h2 : (f.getD x []).idxOf 0 < (f.getD x []).length := by omega
  rw [List.getD_eq_getElem?_getD, List.getElem?_eq_getElem h2]
  simp
theorem Grp.bk_l {f : List (List Int)} {n x : Nat} (hn : f.length = n) (h : Grp f) (hx : x < n) : ap f (bk f x) x = 0 := by
  have h0 := (h.pos hn).1
  have hy := h.bk_lt hn hx
  have hz := h.bk_lt hn hy
  have e1 := h.bk_r hn hx
  have e2 := h.bk_r hn hy
  have hyx := h.lt hn hy hx
  have e3 : ap f (ap f (bk f x) x) (ap f (bk f x) (bk f (bk f x))) = 0 := by
    rw [h.assoc hn hy hx (h.lt hn hy hz), ← h.assoc hn hx hy hz, e1, h.idl hn hz, e2]
  rw [e2, h.idr hn hyx] at e3
  exact e3
theorem Grp.lcan {f : List (List Int)} {n x y z : Nat} (hn : f.length = n) (h : Grp f) (hx : x < n) (hy : y < n) (hz : z < n) (e : ap f x y = ap f x z) : y = z := by
  have hb := h.bk_lt hn hx
  have h1 := h.assoc hn hb hx hy
  have h2 := h.assoc hn hb hx hz
  rw [h.bk_l hn hx, h.idl hn hy] at h1
  rw [h.bk_l hn hx, h.idl hn hz] at h2
  rw [h1, h2, e]
theorem Grp.rcan {f : List (List Int)} {n x y z : Nat} (hn : f.length = n) (h : Grp f) (hx : x < n) (hy : y < n) (hz : z < n) (e : ap f y x = ap f z x) : y = z := by
  have hb := h.bk_lt hn hx
  have h1 := h.assoc hn hy hx hb
  have h2 := h.assoc hn hz hx hb
  rw [h.bk_r hn hx, h.idr hn hy] at h1
  rw [h.bk_r hn hx, h.idr hn hz] at h2
  rw [← h1, ← h2, e]
/-- x y times the inverse of x. -/
def cj (f : List (List Int)) (x y : Nat) : Nat := ap f (ap f x y) (bk f x)
theorem Grp.cj_lt {f : List (List Int)} {n x y : Nat} (hn : f.length = n) (h : Grp f) (hx : x < n) (hy : y < n) : cj f x y < n := h.lt hn (h.lt hn hx hy) (h.bk_lt hn hx)
theorem Grp.cj_eq {f : List (List Int)} {n x y : Nat} (hn : f.length = n) (h : Grp f) (hx : x < n) (hy : y < n) : cj f x y = y ↔ ap f x y = ap f y x := by
  have hb := h.bk_lt hn hx
  unfold cj
  constructor
  · intro e
    have h1 := h.assoc hn (h.lt hn hx hy) hb hx
    rw [h.bk_l hn hx, h.idr hn (h.lt hn hx hy), e] at h1
    exact h1.symm
  · intro e
    rw [e, h.assoc hn hy hx hb, h.bk_r hn hx, h.idr hn hy]
theorem Grp.cj_zero {f : List (List Int)} {n y : Nat} (hn : f.length = n) (h : Grp f) (hy : y < n) : cj f 0 y = y := by
  have h0 := (h.pos hn).1
  rw [h.cj_eq hn (by omega) hy, h.idl hn hy, h.idr hn hy]
/-- The set of all numbers below k with a property. -/
def setN (p : Nat → Bool) : Nat → Nat
  | 0 => 0
  | k + 1 => if p k = true then setN p k ||| 2 ^ k else setN p k
theorem inb_setN (p : Nat → Bool) (k x : Nat) : inb (setN p k) x ↔ x < k ∧ p x = true := by
  induction k with
  | zero => simp [setN, inb_zero]
  | succ k ih =>
    unfold setN
    by_cases h : p k = true
    · rw [if_pos h, inb_or, ih]
      constructor
      · rintro (⟨a, b⟩ | rfl)
        · exact ⟨by omega, b⟩
        · exact ⟨by omega, h⟩
      · rintro ⟨a, b⟩
        by_cases e : x = k
        · exact .inr e
        · exact .inl ⟨by omega, b⟩
    · rw [if_neg h, ih]
      constructor
      · rintro ⟨a, b⟩
        exact ⟨by omega, b⟩
      · rintro ⟨a, b⟩
        refine ⟨?_, b⟩
        by_cases e : x = k
        · subst e; exact absurd b h
        · omega
theorem setN_lt (p : Nat → Bool) (k : Nat) : setN p k < 2 ^ k := set_lt fun x h => ((inb_setN p k x).1 h).1
theorem inb_one (x t : Nat) : inb (2 ^ x) t ↔ t = x := by
  have := inb_or 0 x t
  rw [Nat.zero_or] at this
  rw [this]
  simp [inb_zero]
theorem inb_whole (n t : Nat) : inb (2 ^ n - 1) t ↔ t < n := by unfold inb; rw [Nat.testBit_two_pow_sub_one]; simp
/-- V has the conjugates of y by the elements below k. -/
def CjV (f : List (List Int)) (y k V : Nat) : Prop := ∀ t, inb V t ↔ ∃ x, x < k ∧ cj f x y = t
theorem CjV.start (f : List (List Int)) (y : Nat) : CjV f y 0 0 := fun t => ⟨fun h => absurd h (inb_zero t), fun ⟨_, h, _⟩ => absurd h (Nat.not_lt_zero _)⟩
theorem CjV.step {f : List (List Int)} {y k V v : Nat} (h : CjV f y k V) (hv : cj f k y = v) : CjV f y (k + 1) (V ||| 2 ^ v) := by
  intro t
  rw [inb_or, h t]
  constructor
  · rintro (⟨x, a, b⟩ | rfl)
    · exact ⟨x, by omega, b⟩
    · exact ⟨k, by omega, hv⟩
  · rintro ⟨x, a, b⟩
    by_cases e : x = k
    · subst e
      exact .inr (b.symm.trans hv)
    · exact .inl ⟨x, by omega, b⟩
/-- Whether x commutes with all elements. -/
def ctB (f : List (List Int)) (x : Nat) : Bool := decide (∀ y, y < f.length → ap f x y = ap f y x)
theorem ctB_iff (f : List (List Int)) (x : Nat) : ctB f x = true ↔ ∀ y, y < f.length → ap f x y = ap f y x := by simp [ctB]
def ctN (f : List (List Int)) (k : Nat) : Nat := setN (ctB f) k
theorem CjV.center {f : List (List Int)} {n x V : Nat} (hn : f.length = n) (h : Grp f) (hx : x < n) (hv : CjV f x n V) : V = 2 ^ x ↔ ctB f x = true := by
  have h0 := (h.pos hn).1
  rw [ctB_iff, hn]
  constructor
  · intro e y hy
    have h1 : inb V (cj f y x) := (hv _).2 ⟨y, hy, rfl⟩
    rw [e, inb_one, h.cj_eq hn hy hx] at h1
    exact h1.symm
  · intro e
    apply inb_eq
    intro t
    rw [inb_one, hv t]
    constructor
    · rintro ⟨y, hy, rfl⟩
      rw [h.cj_eq hn hy hx]
      exact (e y hy).symm
    · rintro rfl
      exact ⟨0, by omega, h.cj_zero hn hx⟩
/-- All elements commute. -/
def Abl (f : List (List Int)) : Prop := ∀ x y, x < f.length → y < f.length → ap f x y = ap f y x
theorem ctN_whole (f : List (List Int)) : ctN f f.length = 2 ^ f.length - 1 ↔ Abl f := by
  constructor
  · intro e x y hx hy
    have h1 : inb (ctN f f.length) x := by rw [e, inb_whole]; exact hx
    exact (ctB_iff f x).1 ((inb_setN _ _ _).1 h1).2 y hy
  · intro h
    apply inb_eq
    intro t
    rw [inb_whole]
    unfold ctN
    rw [inb_setN]
    exact ⟨fun h => h.1, fun ht => ⟨ht, (ctB_iff f t).2 fun y hy => h t y ht hy⟩⟩
/-- The order of an element. -/
theorem Grp.ord_ex {f : List (List Int)} {n x : Nat} (hn : f.length = n) (h : Grp f) (hx : x < n) : ∃ L, L ≤ n ∧ IsLen (fun y => ap f y x) 0 L := by
  have h0 := (h.pos hn).1
  exact isLen_ex (fun y hy => h.lt hn hy hx) (fun y z hy hz e => h.rcan hn hx hy hz e) 0 (by omega)
noncomputable def ordF (f : List (List Int)) (x : Nat) : Nat := Classical.epsilon fun L => L ≤ f.length ∧ IsLen (fun y => ap f y x) 0 L
theorem Grp.ord {f : List (List Int)} {n x : Nat} (hn : f.length = n) (h : Grp f) (hx : x < n) : ordF f x ≤ n ∧ IsLen (fun y => ap f y x) 0 (ordF f x) := by
  subst hn
  exact Classical.epsilon_spec (p := fun L => L ≤ f.length ∧ IsLen (fun y => ap f y x) 0 L) (h.ord_ex rfl hx)
/-- The power k + 1, as the loops make it. -/
def pwF (f : List (List Int)) (x k : Nat) : Nat := itf (fun y => ap f y x) (k + 1) 0
theorem Grp.pw_zero {f : List (List Int)} {n x : Nat} (hn : f.length = n) (h : Grp f) (hx : x < n) : pwF f x 0 = x := h.idl hn hx
theorem pw_succ (f : List (List Int)) (x k : Nat) : pwF f x (k + 1) = ap f (pwF f x k) x := rfl
theorem Grp.pw_lt {f : List (List Int)} {n x : Nat} (hn : f.length = n) (h : Grp f) (hx : x < n) (k : Nat) : pwF f x k < n := itf_lt (fun _ hy => h.lt hn hy hx) _ _ (by have := h.pos hn; omega)
theorem Grp.pw_end {f : List (List Int)} {n x : Nat} (hn : f.length = n) (h : Grp f) (hx : x < n) {k : Nat} (hk : k < ordF f x) : pwF f x k = 0 ↔ k + 1 = ordF f x := by
  have ho := (h.ord hn hx).2
  constructor
  · intro e
    by_cases hk2 : k + 1 < ordF f x
    · exact absurd e (ho.2.2 (k + 1) (by omega) hk2)
    · omega
  · intro e
    unfold pwF
    rw [e]
    exact ho.2.1
/-- The answers of functions of a group. -/
def ElC (f : List (List Int)) (x : Int) (code : Int) : Prop := (Grp f ∧ 0 ≤ x ∧ x < (f.length : Int) ∧ code = 0) ∨ (¬ Grp f ∧ code = 1) ∨ (Grp f ∧ ¬ (0 ≤ x ∧ x < (f.length : Int)) ∧ code = 2)
def ElRes (V : Nat → Nat) (f : List (List Int)) (x : Int) (v code : Int) : Prop := (Grp f ∧ (∃ u : Nat, u < f.length ∧ x = u ∧ v = (V u : Int)) ∧ code = 0) ∨ (code ≠ 0 ∧ v = 0 ∧ ElC f x code)
theorem ElRes.ex (V : Nat → Nat) (f : List (List Int)) (x : Int) : ∃ v code, ElRes V f x v code := by
  by_cases h : Grp f
  · by_cases h1 : 0 ≤ x ∧ x < (f.length : Int)
    · exact ⟨_, _, .inl ⟨h, ⟨x.toNat, by omega, by omega, rfl⟩, rfl⟩⟩
    · exact ⟨0, 2, .inr ⟨by decide, rfl, .inr (.inr ⟨h, h1, rfl⟩)⟩⟩
  · exact ⟨0, 1, .inr ⟨by decide, rfl, .inr (.inl ⟨h, rfl⟩)⟩⟩
def InvRes (f : List (List Int)) : Int → Int → Int → Prop := ElRes (bk f) f
def OrdRes (f : List (List Int)) : Int → Int → Int → Prop := ElRes (ordF f) f
theorem InvRes.ex (f : List (List Int)) (x : Int) : ∃ v code, InvRes f x v code := ElRes.ex _ _ _
theorem OrdRes.ex (f : List (List Int)) (x : Int) : ∃ v code, OrdRes f x v code := ElRes.ex _ _ _
def GrRes (f : List (List Int)) (r : Bool) : Prop := r = true ↔ Grp f
theorem GrRes.ex (f : List (List Int)) : ∃ r, GrRes f r := bool_of _
/-- A number, or that it is no group. -/
def GvRes (f : List (List Int)) (V : Nat) (v code : Int) : Prop := (Grp f ∧ v = V ∧ code = 0) ∨ (¬ Grp f ∧ v = 0 ∧ code = 1)
def GbRes (f : List (List Int)) (P : Prop) (r : Bool) (code : Int) : Prop := (Grp f ∧ (r = true ↔ P) ∧ code = 0) ∨ (¬ Grp f ∧ r = false ∧ code = 1)
def CtRes (f : List (List Int)) : Int → Int → Prop := GvRes f (ctN f f.length)
def AbRes (f : List (List Int)) : Bool → Int → Prop := GbRes f (Abl f)
theorem CtRes.ex (f : List (List Int)) : ∃ v code, CtRes f v code := by
  by_cases h : Grp f
  · exact ⟨_, _, .inl ⟨h, rfl, rfl⟩⟩
  · exact ⟨_, _, .inr ⟨h, rfl, rfl⟩⟩
theorem AbRes.ex (f : List (List Int)) : ∃ r code, AbRes f r code := by
  by_cases h : Grp f
  · obtain ⟨r, hr⟩ := bool_of (Abl f)
    exact ⟨r, 0, .inl ⟨h, hr, rfl⟩⟩
  · exact ⟨_, _, .inr ⟨h, rfl, rfl⟩⟩
end Go.Proofs.Ytelildgngkajnaa
namespace Go.Proofs.Ytelildgngkajnaa
open Go Go.RowKit
set_option maxHeartbeats 4000000

set_option maxRecDepth 100000 in
theorem idxP_any (g N c j : Nat) (a : Nat → Nat) (β : Nat → Nat) (w : World) (hN : N ≤ 1000) (hj : j < N) (hne : ∀ i, i < j → a i ≠ a j ∨ β i ≠ β j) (hp : PrsAt w g N (fun i => .int .i64 (a i : Nat)) (fun i => .int .i64 (β i : Nat))) :
    Calls Try.prog 143 #[.slice (some ⟨g, 0, none⟩) N c, .agg #[.int .i64 (a j : Nat), .int .i64 (β j : Nat)]] w fun e w' => e = .returned (.int .i64 j) ∧ Below w.heap.size w w' := by
  have HP := hide hp
  have HNE := hide hne
  obtain ⟨aj, haj⟩ : ∃ u, a j = u := ⟨_, rfl⟩
  obtain ⟨βj, hβj⟩ : ∃ u, β j = u := ⟨_, rfl⟩
  rw [haj, hβj]
  have HAJ := hide haj
  have HBJ := hide hβj
  have HB0 := hide ((Below.refl _ w).alloc (Nat.le_refl _) (Obj.cells #[Value.int IntKind.i64 (aj : Nat), .int .i64 (βj : Nat)] 117))
  have HK0 := hide (Blk.new w 117 [.int .i64 (aj : Nat), .int .i64 (βj : Nat)])
  clear hp hne haj hβj
  go_enter Try.func143, Try.ntmps143
  go_wp2_with fail
  go_loopw [8] (fun i wr => ∃ k : Nat, k ≤ j ∧ i = .int .i64 k ∧ Below w.heap.size w wr ∧ Blk wr w.heap.size 117 [.int .i64 (aj : Nat), .int .i64 (βj : Nat)]) (fun i _ => N - (intOf i).toNat)
  case atStart => exact ⟨0, Nat.zero_le _, rfl, HB0.out, HK0.out⟩
  case round =>
    obtain ⟨k, hk, rfl, hbe, hkk⟩ := hrel
    have HB := hide hbe
    have HK := hide hkk
    clear hbe hkk
    have hkz : (k : Int) < N := by omega
    have k0 := HK.out.cell 0 _ rfl
    have k1 := HK.out.cell 1 _ rfl
    obtain ⟨f0, f1⟩ := HP.out.2 k (by omega)
    replace f0 := (HB.out.cell (p := ⟨g, k * 2, none⟩) HP.out.1).trans f0
    replace f1 := (HB.out.cell (p := ⟨g, k * 2 + 1, none⟩) HP.out.1).trans f1
    obtain ⟨ak, hak⟩ : ∃ u, a k = u := ⟨_, rfl⟩
    obtain ⟨βk, hβk⟩ : ∃ u, β k = u := ⟨_, rfl⟩
    simp only [hak, hβk] at f0 f1
    have HAK := hide hak
    have HBK := hide hβk
    clear hak hβk
    by_cases h1 : ak = aj ∧ βk = βj
    · obtain ⟨h1a, h1b⟩ := h1
      have hkj : k = j := by
        by_cases e : k = j
        · exact e
        · exfalso
          rcases HNE.out k (by omega) with h | h
          · exact h (by rw [HAK.out, HAJ.out]; exact h1a)
          · exact h (by rw [HBK.out, HBJ.out]; exact h1b)
      subst hkj
      subst h1a
      subst h1b
      go_wp2_with fail
      go_quiet (fail)
      go_wp2_with fail
      go_ret
      exact ⟨rfl, bdrewN HB.out _⟩
    · have HNK : Hid (k < j) := hide (by
        by_cases e : k = j
        · subst e
          exact absurd ⟨HAK.out.symm.trans HAJ.out, HBK.out.symm.trans HBJ.out⟩ h1
        · omega)
      have hkj := HNK.out
      by_cases h2 : ak = aj
      · have h3 : βk ≠ βj := fun h => h1 ⟨h2, h⟩
        subst h2
        have g3 : ((βj : Int) == (βk : Int)) = false := by simpa using fun h => h3 (by omega)
        clear h1 h3
        go_wp2_with fail
        go_quiet (fail)
        go_wp2_with fail
        go_roundw
        case rel => exact ⟨k + 1, by omega, by go_num, bdrewN HB.out _, HK.out.drewN _⟩
        case measure => simp [intOf]; omega
      · have g2 : ((aj : Int) == (ak : Int)) = false := by simpa using fun h => h2 (by omega)
        clear h1 h2
        go_wp2_with fail
        go_quiet (fail)
        go_wp2_with fail
        go_roundw
        case rel => exact ⟨k + 1, by omega, by go_num, bdrewN HB.out _, HK.out.drewN _⟩
        case measure => simp [intOf]; omega

set_option maxRecDepth 100000 in
theorem grpCP_any (F : FuncId) (lb : Array Value) (g N c b : Nat) (a : Nat → Nat) (β : Nat → Nat) (h : Nat → Nat → Nat) (w : World) (eg : ∀ args w, (callFunc F args).run Try.prog w = .ok (.enter F args) w) (hN : N ≤ 1000) (hh : ∀ i k, i < N → k < N → h i k < N) (hne : ∀ i j, j < N → i < j → a i ≠ a j ∨ β i ≠ β j) (hp : PrsAt w g N (fun i => .int .i64 (a i : Nat)) (fun i => .int .i64 (β i : Nat))) (hm : MulFn Try.prog F lb N (fun i => .int .i64 (a i : Nat)) (fun i => .int .i64 (β i : Nat)) h w) (hk : Blk w b 120 [.slice (some ⟨g, 0, none⟩) N c, .func (.func F) #[] lb]) :
    CellFn Try.prog 142 #[.pointer (some ⟨b, 0, none⟩)] N (fun i k => (h i k : Nat)) w := by
  intro W x y hx hy hb
  have HK := hide (hk.later hb)
  have HP := hide (hp.later hb)
  have HM := hide (hm.later hb)
  have HNE := hide hne
  have heg := hide eg
  have hun := hh x y hx hy
  show Calls Try.prog 142 #[.int .i64 x, .int .i64 y, .pointer (some ⟨b, 0, none⟩)] W fun e w' => e = .returned (.int .i64 (h x y : Nat)) ∧ _
  clear hk hp hm hne hb eg hh
  obtain ⟨u, hu⟩ : ∃ u, h x y = u := ⟨_, rfl⟩
  rw [hu] at hun ⊢
  have HU := hide hu
  have hxz : (x : Int) < N := by omega
  have hyz : (y : Int) < N := by omega
  have HBc := hide (Below.refl W.heap.size W)
  obtain ⟨f0, f1⟩ := HP.out.2 x hx
  obtain ⟨f2, f3⟩ := HP.out.2 y hy
  obtain ⟨ax, hax⟩ : ∃ u, a x = u := ⟨_, rfl⟩
  obtain ⟨βx, hβx⟩ : ∃ u, β x = u := ⟨_, rfl⟩
  obtain ⟨ay, hay⟩ : ∃ u, a y = u := ⟨_, rfl⟩
  obtain ⟨βy, hβy⟩ : ∃ u, β y = u := ⟨_, rfl⟩
  have HX := hide (And.intro hax hβx)
  have HY := hide (And.intro hay hβy)
  simp only [hax, hβx, hay, hβy] at f0 f1 f2 f3
  clear hu hax hβx hay hβy
  have k0 := HK.out.cell 0 _ rfl
  have k1 := HK.out.cell 1 _ rfl
  have hegF := fun args => heg.out args
  go_enter Try.func142, Try.ntmps142
  go_wp2_with fail
  go_region_held3 (fun w' => w'.cell? ⟨b, 0, none⟩ = some (.slice (some ⟨g, 0, none⟩) N c) ∧ w'.cell? ⟨b, 1, none⟩ = some (.func (.func F) #[] lb) ∧ w'.cell? ⟨g, x * 2, none⟩ = some (.int .i64 (ax : Nat)) ∧ w'.cell? ⟨g, x * 2 + 1, none⟩ = some (.int .i64 (βx : Nat)) ∧ w'.cell? ⟨g, y * 2, none⟩ = some (.int .i64 (ay : Nat)) ∧ w'.cell? ⟨g, y * 2 + 1, none⟩ = some (.int .i64 (βy : Nat))) (first | exact ⟨k0, k1, f0, f1, f2, f3⟩ | go_keep) (first | (go_at_fn F; go_must (refine calls_gen fun wc hwc => ?_; (first | have hbx := drew_below hwc | have hbx := eq_below hwc); replace HBc := hide (HBc.out.trans (hbx.mono HBc.out.size)); clear hwc hbx; refine (cast (by dsimp only; rw [HX.out.1, HX.out.2, HY.out.1, HY.out.2, HU.out]) (HM.out wc x y hx hy HBc.out) : Calls Try.prog F (#[.agg #[.int .i64 (ax : Nat), .int .i64 (βx : Nat)], .agg #[.int .i64 (ay : Nat), .int .i64 (βy : Nat)]] ++ lb) wc fun e w' => e = .returned (.agg #[.int .i64 (a u : Nat), .int .i64 (β u : Nat)]) ∧ Below wc.heap.size wc w').mono ?_; rintro e wd ⟨rfl, hbd⟩; replace HBc := hide (HBc.out.trans (hbd.mono HBc.out.size)); clear hbd; have k0 := (HK.out.later HBc.out).cell 0 _ rfl; have k1 := (HK.out.later HBc.out).cell 1 _ rfl; have f0 : wd.cell? ⟨g, x * 2, none⟩ = some (.int .i64 (ax : Nat)) := (by rw [((HP.out.later HBc.out).2 x hx).1]; dsimp only; rw [HX.out.1]); have f1 : wd.cell? ⟨g, x * 2 + 1, none⟩ = some (.int .i64 (βx : Nat)) := (by rw [((HP.out.later HBc.out).2 x hx).2]; dsimp only; rw [HX.out.2]); have f2 : wd.cell? ⟨g, y * 2, none⟩ = some (.int .i64 (ay : Nat)) := (by rw [((HP.out.later HBc.out).2 y hy).1]; dsimp only; rw [HY.out.1]); have f3 : wd.cell? ⟨g, y * 2 + 1, none⟩ = some (.int .i64 (βy : Nat)) := (by rw [((HP.out.later HBc.out).2 y hy).2]; dsimp only; rw [HY.out.2]))) | (go_at_call 143; go_must (refine calls_gen fun wc hwc => ?_; (first | have hbx := drew_below hwc | have hbx := eq_below hwc); replace HBc := hide (HBc.out.trans (hbx.mono HBc.out.size)); clear hwc hbx; refine (idxP_any g N c u a β wc hN hun (fun i hi => HNE.out i u hun hi) (HP.out.later HBc.out)).mono ?_; rintro e wf ⟨rfl, hbd⟩; replace HBc := hide (HBc.out.trans (hbd.mono HBc.out.size)); clear hbd; have k0 := (HK.out.later HBc.out).cell 0 _ rfl; have k1 := (HK.out.later HBc.out).cell 1 _ rfl; have f0 : wf.cell? ⟨g, x * 2, none⟩ = some (.int .i64 (ax : Nat)) := (by rw [((HP.out.later HBc.out).2 x hx).1]; dsimp only; rw [HX.out.1]); have f1 : wf.cell? ⟨g, x * 2 + 1, none⟩ = some (.int .i64 (βx : Nat)) := (by rw [((HP.out.later HBc.out).2 x hx).2]; dsimp only; rw [HX.out.2]); have f2 : wf.cell? ⟨g, y * 2, none⟩ = some (.int .i64 (ay : Nat)) := (by rw [((HP.out.later HBc.out).2 y hy).1]; dsimp only; rw [HY.out.1]); have f3 : wf.cell? ⟨g, y * 2 + 1, none⟩ = some (.int .i64 (βy : Nat)) := (by rw [((HP.out.later HBc.out).2 y hy).2]; dsimp only; rw [HY.out.2]))))
  all_goals
    clear k0 k1 f0 f1 f2 f3
    go_wp2_with fail
    go_ret
    exact ⟨rfl, HBc.out⟩

set_option maxRecDepth 100000 in
theorem grpP_any (F : FuncId) (lb : Array Value) (g N c : Nat) (a : Nat → Nat) (β : Nat → Nat) (h : Nat → Nat → Nat) (w : World) (eg : ∀ args w, (callFunc F args).run Try.prog w = .ok (.enter F args) w) (h1 : 1 ≤ N) (h12 : N ≤ 12) (hh : ∀ i k, i < N → k < N → h i k < N) (hne : ∀ i j, j < N → i < j → a i ≠ a j ∨ β i ≠ β j) (hp : PrsAt w g N (fun i => .int .i64 (a i : Nat)) (fun i => .int .i64 (β i : Nat))) (hm : MulFn Try.prog F lb N (fun i => .int .i64 (a i : Nat)) (fun i => .int .i64 (β i : Nat)) h w) :
    Calls Try.prog 110 #[.agg #[.slice (some ⟨g, 0, none⟩) N c, .func (.func F) #[] lb]] w fun e w' => ∃ A' c', e = .returned (.agg #[.slice A' N c']) ∧ Below w.heap.size w w' ∧ Obj2 48 2 w.heap.size w'.heap.size w' A' (grid N (fun i k => (h i k : Nat))) := by
  have HB0 := hide (((Below.refl _ w).alloc (Nat.le_refl _) (Obj.cells #[Value.slice (some ⟨g, 0, none⟩) N c, .func (.func F) #[] lb] 120)).alloc (by simp) (Obj.cells #[.slice none 0 0] 24))
  have HP0 := hide ((Blk.new w 120 [.slice (some ⟨g, 0, none⟩) N c, .func (.func F) #[] lb]).alloc (Obj.cells #[.slice none 0 0] 24))
  have HK0 : Hid (Blk ((w.alloc (Obj.cells #[Value.slice (some ⟨g, 0, none⟩) N c, .func (.func F) #[] lb] 120)).alloc (Obj.cells #[.slice none 0 0] 24)) (w.heap.size + 1) 24 [.slice none 0 0]) := hide (by have h := Blk.new (w.alloc (Obj.cells #[Value.slice (some ⟨g, 0, none⟩) N c, .func (.func F) #[] lb] 120)) 24 [.slice none 0 0]; simpa using h)
  have HPR := hide hp
  have HM := hide hm
  have heg := hide eg
  have HH := hide hh
  have HNE := hide hne
  clear hp hm eg hh hne
  go_enter Try.func110, Try.ntmps110
  have p0 := HP0.out.cell 0 _ rfl
  go_wp2_with fail
  clear p0
  refine (tableOf_any 142 _ N (fun i k => (h i k : Nat)) _ (fun _ _ => rfl) h1 h12 (grpCP_any F lb g N c w.heap.size a β h _ heg.out (by omega) HH.out HNE.out (HPR.out.later HB0.out) (HM.out.later HB0.out) HP0.out)).mono ?_
  rintro e w3 ⟨A3, c3, rfl, hb3, ho3⟩
  have HB3 := hide (HB0.out.trans (hb3.mono HB0.out.size))
  have HK3 := hide (HK0.out.later hb3)
  have HO3 := hide ho3
  have hlow := HK0.out.lt
  clear hb3 ho3
  have k2 := HK3.out.cell 0 _ rfl
  have k3 := HK3.out.frozen 0
  go_wp2_with fail
  refine bp_gen fun wf hwf => ?_
  obtain ⟨q0, hbf, hof⟩ := kend hwf HK3.out (by omega) HB3.out HO3.out (by omega) hlow (Nat.le_refl _)
  clear hwf k2 k3
  exact bodyPost_ret (v := .agg #[.slice A3 N c3]) (by simp [results, Try.results110, go_sem, q0]) rfl ⟨_, _, rfl, hbf, hof⟩
end Go.Proofs.Ytelildgngkajnaa
