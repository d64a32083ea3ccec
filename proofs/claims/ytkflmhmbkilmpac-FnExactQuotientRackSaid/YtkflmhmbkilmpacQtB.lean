import Derived.Test.YtkflmhmbkilmpacRkF
import Derived.Test.YtkflmhmbkilmpacHeld
import Derived.Laws.BitsLemmas
import Derived.Test.YtkflmhmbkilmpacPMapF
import Derived.Test.YtkflmhmbkilmpacPairF
import Derived.Test.YtkflmhmbkilmpacRkA
import Derived.Test.YtkflmhmbkilmpacPairsI
import Derived.Test.YtkflmhmbkilmpacBlk
import Derived.Test.YtkflmhmbkilmpacIn
import Derived.Test.YtkflmhmbkilmpacRkSS
import Derived.Test.YtkflmhmbkilmpacReads
import Derived.Test.YtkflmhmbkilmpacPrm
import Derived.Test.YtkflmhmbkilmpacTabRes
import Derived.Test.YtkflmhmbkilmpacHas
import Derived.Test.YtkflmhmbkilmpacProg
import Derived.Test.YtkflmhmbkilmpacMem
import Derived.Test.YtkflmhmbkilmpacLst
import Derived.Test.YtkflmhmbkilmpacFmF
import Derived.Test.YtkflmhmbkilmpacRfI
import Derived.Test.YtkflmhmbkilmpacRkII
import Derived.Test.YtkflmhmbkilmpacLst1
import Derived.Deep.Cut
namespace Go.Proofs.Ytkflmhmbkilmpac
open Go Go.RowKit

/-- Element x is in the set. -/
def inb (S x : Nat) : Prop := S.testBit x = true
instance (S x : Nat) : Decidable (inb S x) := inferInstanceAs (Decidable (_ = _))
theorem inb_iff (S x : Nat) : inb S x ↔ S / 2 ^ x % 2 = 1 := by
  unfold inb
  rw [Nat.testBit_eq_decide_div_mod_eq]
  simp
theorem inb_eq {S T : Nat} (h : ∀ x, inb S x ↔ inb T x) : S = T := by
  apply Nat.eq_of_testBit_eq
  intro i
  have h1 := h i
  unfold inb at h1
  cases hs : S.testBit i <;> cases ht : T.testBit i <;> simp_all
theorem inb_zero (x : Nat) : ¬ inb 0 x := by simp [inb]
theorem inb_or (S p x : Nat) : inb (S ||| 2 ^ p) x ↔ inb S x ∨ x = p := by
  unfold inb
  rw [Nat.testBit_or, Nat.testBit_two_pow]
  simp
  constructor
  · rintro (h | h)
    · exact .inl h
    · exact .inr h.symm
  · rintro (h | h)
    · exact .inl h
    · exact .inr h.symm
theorem inb_lt {S x k : Nat} (hS : S < 2 ^ k) (h : inb S x) : x < k := by
  by_cases hx : x < k
  · exact hx
  · have : S.testBit x = false := Nat.testBit_lt_two_pow (Nat.lt_of_lt_of_le hS (Nat.pow_le_pow_right (by decide) (by omega)))
    unfold inb at h
    rw [this] at h
    cases h
theorem set_lt {S k : Nat} (h : ∀ x, inb S x → x < k) : S < 2 ^ k := by
  apply Nat.lt_pow_two_of_testBit
  intro i hi
  by_cases hb : S.testBit i = true
  · exact absurd (h i hb) (by omega)
  · simpa using hb
theorem or_lt {S p k : Nat} (h : S < 2 ^ k) (hp : p < k) : S ||| 2 ^ p < 2 ^ k := Nat.or_lt_two_pow h (Nat.pow_lt_pow_right (by decide) hp)
theorem set_sub_le {S T : Nat} (h : ∀ x, inb S x → inb T x) : S ≤ T := by
  have e : S &&& T = S := by
    apply Nat.eq_of_testBit_eq
    intro i
    rw [Nat.testBit_and]
    cases hs : S.testBit i
    · simp
    · have := h i hs
      unfold inb at this
      simp [this]
  rw [← e]
  exact Nat.and_le_right
theorem bt_shr (S x : Nat) (h : x ≤ 64) : (S : Int) / 2 ^ min x 64 = ((S / 2 ^ x : Nat) : Int) := by
  rw [Nat.min_eq_left h]; simp
theorem bt_one (q : Nat) (h : q < 4611686018427387904) : bits .and .i64 (q : Int) 1 = ((q % 2 : Nat) : Int) := by
  have h1 := (bits_nat .i64 62 (by decide) (fun n h0 h1 => by rw [IntKind.wrap_i64]; omega) q 1 (by simpa using h) (by decide)).1
  rw [show ((1 : Int)) = ((1 : Nat) : Int) by rfl, h1, Nat.and_one_is_mod]
theorem bt_in {S k : Nat} (h : S < 4611686018427387904) (hi : inb S k) : bits .and .i64 ((S : Int) / 2 ^ k) 1 = 1 := by
  have e : (S : Int) / 2 ^ k = ((S / 2 ^ k : Nat) : Int) := by simp
  rw [e, bt_one _ (Nat.lt_of_le_of_lt (Nat.div_le_self _ _) h), (inb_iff S k).1 hi]; rfl
theorem bt_out {S k : Nat} (h : S < 4611686018427387904) (hi : ¬ inb S k) : bits .and .i64 ((S : Int) / 2 ^ k) 1 = 0 := by
  have e : (S : Int) / 2 ^ k = ((S / 2 ^ k : Nat) : Int) := by simp
  have h2 : S / 2 ^ k % 2 = 0 := by
    rcases Nat.mod_two_eq_zero_or_one (S / 2 ^ k) with h2 | h2
    · exact h2
    · exact absurd ((inb_iff S k).2 h2) hi
  rw [e, bt_one _ (Nat.lt_of_le_of_lt (Nat.div_le_self _ _) h), h2]; rfl
theorem bt_or (S p : Nat) (h : S < 4611686018427387904) (hp : p < 4611686018427387904) : bits .or .i64 (S : Int) (p : Int) = ((S ||| p : Nat) : Int) :=
  (bits_nat .i64 62 (by decide) (fun n h0 h1 => by rw [IntKind.wrap_i64]; omega) S p (by simpa using h) (by simpa using hp)).2
theorem bt_shl (x : Nat) (h : x ≤ 64) : (2 : Int) ^ min x 64 = ((2 ^ x : Nat) : Int) := by
  rw [Nat.min_eq_left h]; simp

/-- A set that has x > y with any two of its elements. -/
def ClosedF (f : List (List Int)) (S : Nat) : Prop := ∀ x y, inb S x → inb S y → inb S (ap f x y)
/-- The set with all x > y. -/
def GrF (f : List (List Int)) (S V : Nat) : Prop := ∀ t, inb V t ↔ inb S t ∨ ∃ x y, inb S x ∧ inb S y ∧ ap f x y = t
theorem GrF.closed {f : List (List Int)} {S V : Nat} (h : GrF f S V) : V = S ↔ ClosedF f S := by
  constructor
  · rintro rfl x y hx hy
    exact (h _).2 (.inr ⟨x, y, hx, hy, rfl⟩)
  · intro hc
    apply inb_eq
    intro t
    rw [h t]
    constructor
    · rintro (h1 | ⟨x, y, hx, hy, rfl⟩)
      · exact h1
      · exact hc x y hx hy
    · exact .inl
/-- The elements of a set, in ascending order. -/
def mems (k S : Nat) : List Nat := (List.range k).filter fun x => S.testBit x
theorem mems_mem (k S x : Nat) : x ∈ mems k S ↔ x < k ∧ inb S x := by simp [mems, inb]
theorem mems_succ (k S : Nat) : mems (k + 1) S = if inb S k then mems k S ++ [k] else mems k S := by
  unfold mems
  rw [List.range_succ, List.filter_append]
  by_cases h : inb S k
  · have h2 : S.testBit k = true := h
    rw [if_pos h]; simp [h2]
  · have h2 : S.testBit k = false := by simpa [inb] using h
    rw [if_neg h]; simp [h2]
theorem mems_length (k S : Nat) : (mems k S).length ≤ k := by
  unfold mems
  have := List.length_filter_le (fun x => S.testBit x) (List.range k)
  simpa using this
theorem mems_more {S k : Nat} (hS : S < 2 ^ k) (j : Nat) (h : k ≤ j) : mems j S = mems k S := by
  induction j with
  | zero => have : k = 0 := by omega
            subst this; rfl
  | succ j ih =>
    by_cases e : k = j + 1
    · rw [e]
    · rw [mems_succ, if_neg (fun h2 => by have := inb_lt hS h2; omega), ih (by omega)]
def memL (k S : Nat) : List Int := (mems k S).map fun (x : Nat) => (x : Int)
theorem memL_length (k S : Nat) : (memL k S).length = (mems k S).length := by simp [memL]
theorem memL_getD (k S i : Nat) (h : i < (mems k S).length) : (memL k S).getD i 0 = ((mems k S).getD i 0 : Nat) := by simp [memL, h]
theorem memL_succ (k S : Nat) : ints (memL (k + 1) S) = if inb S k then ints (memL k S) ++ [.int .i64 k] else ints (memL k S) := by
  unfold memL
  rw [mems_succ]
  split
  · simp [ints]
  · rfl
end Go.Proofs.Ytkflmhmbkilmpac
namespace Go.Proofs.Ytkflmhmbkilmpac
open Go Go.RowKit
/-- The number that the next new class has to have, behind the first i elements. -/
def nxt (xs : List Int) : Nat → Nat
  | 0 => 0
  | i + 1 => if xs.getD i 0 = (nxt xs i : Int) then nxt xs i + 1 else nxt xs i
theorem nxt_le (xs : List Int) (i : Nat) : nxt xs i ≤ i := by
  induction i with
  | zero => exact Nat.le_refl _
  | succ i ih => unfold nxt; split <;> omega
theorem nxt_mono (xs : List Int) (i j : Nat) (h : i ≤ j) : nxt xs i ≤ nxt xs j := by
  induction j with
  | zero => have : i = 0 := by omega
            subst this; exact Nat.le_refl _
  | succ j ih =>
    by_cases e : i = j + 1
    · subst e; exact Nat.le_refl _
    · have h1 := ih (by omega)
      have h2 : nxt xs j ≤ nxt xs (j + 1) := by
        show nxt xs j ≤ if xs.getD j 0 = (nxt xs j : Int) then nxt xs j + 1 else nxt xs j
        split <;> omega
      omega
/-- The classes are numbered in the order of their first elements. -/
def Canon (xs : List Int) : Prop := ∀ i, i < xs.length → 0 ≤ xs.getD i 0 ∧ xs.getD i 0 ≤ (nxt xs i : Int)
def Part (f : List (List Int)) (xs : List Int) : Prop := xs.length = f.length ∧ Canon xs
theorem Canon.lt {xs : List Int} (h : Canon xs) {i : Nat} (hi : i < xs.length) : 0 ≤ xs.getD i 0 ∧ xs.getD i 0 < (xs.length : Int) := by
  have h1 := h i hi
  have h2 := nxt_le xs i
  omega
/-- The number of a class, as a natural number. -/
def cl (xs : List Int) (i : Nat) : Nat := (xs.getD i 0).toNat
theorem Canon.val {xs : List Int} (h : Canon xs) {i : Nat} (hi : i < xs.length) : xs.getD i 0 = (cl xs i : Int) ∧ cl xs i < xs.length := by
  have h1 := h.lt hi
  unfold cl
  omega
/-- One condition of a congruence. -/
def Cg3 (f : List (List Int)) (xs : List Int) (x z y : Nat) : Prop := cl xs (ap f x y) = cl xs (ap f z y) ∧ cl xs (ap f y x) = cl xs (ap f y z)
def Cg2 (f : List (List Int)) (xs : List Int) (x z : Nat) : Prop := cl xs x = cl xs z → ∀ y, y < f.length → Cg3 f xs x z y
def CgF (f : List (List Int)) (xs : List Int) : Prop := ∀ x, x < f.length → ∀ z, z < f.length → Cg2 f xs x z
/-- The code of a rack and a partition. -/
def CdRes (f : List (List Int)) (xs : List Int) (code : Int) : Prop := (Rck f ∧ Part f xs ∧ code = 0) ∨ (¬ (Rck f ∧ Part f xs) ∧ code = 1)
def CgRes (f : List (List Int)) (xs : List Int) : Bool → Int → Prop := BRes (Rck f ∧ Part f xs) (CgF f xs)
theorem CgRes.ex (f : List (List Int)) (xs : List Int) : ∃ r code, CgRes f xs r code := BRes.ex _ _
theorem cg_pairs {f : List (List Int)} {xs : List Int} {n : Nat} (hn : f.length = n) (h : ∀ i, i < n * n → Cg2 f xs (i / n) (i % n)) : CgF f xs := by
  intro x hx z hz
  rw [hn] at hx hz
  have h1 := h _ (pair_lt n x z hx hz)
  rw [pair_div n x z hz, pair_mod n x z hz] at h1
  exact h1
end Go.Proofs.Ytkflmhmbkilmpac
namespace Go.Proofs.Ytkflmhmbkilmpac
open Go Go.RowKit
set_option maxHeartbeats 4000000

set_option maxRecDepth 100000 in
theorem hasCg_any (A : Option Addr) (n c : Nat) (f : List (List Int)) (B : Option Addr) (m d : Nat) (xs : List Int) (r : Bool) (w : World) (hn : f.length = n) (ht : Tbl f) (hr : Rd2 w A f) (hm : xs.length = m) (hx : Rd w B xs) (hp : Part f xs) (hrc : r = true ↔ CgF f xs) :
    Calls Try.prog 72 #[.agg #[.slice A n c], .slice B m d] w fun e w' => e = .returned (.bool r) ∧ Below w.heap.size w w' := by
  have h1 : 1 ≤ n := by rw [← hn]; exact ht.1
  have h12 : n ≤ 12 := by rw [← hn]; exact ht.2.1
  have hmn : m = n := by rw [← hm, hp.1, hn]
  subst hmn
  obtain ⟨b, o, hB, hbw, hc⟩ := hx (by omega)
  subst hB
  have HC : Hid (∀ i : Nat, i < m → w.cell? ⟨b, o + i, none⟩ = some (.int .i64 (cl xs i)) ∧ cl xs i < m) := hide (fun i hi => by
    have h := hp.2.val (i := i) (by omega)
    rw [hm] at h
    exact ⟨by rw [← h.1]; exact hc i (by omega), h.2⟩)
  have HN := hide hn
  have HTB := hide ht
  have HR := hide hr
  have HRC := hide hrc
  obtain ⟨N, hN⟩ : ∃ N, m * m = N := ⟨_, rfl⟩
  have hN144 : N ≤ 144 := by rw [← hN]; exact sq_le m h12
  have HNN := hide hN
  have HB0 := hide ((Below.refl _ w).alloc (Nat.le_refl _) (Obj.cells #[Value.slice A m c] 26))
  have HK0 := hide (Blk.new w 26 [.slice A m c])
  clear hn ht hr hrc hN hm hp hc
  go_enter Try.func72, Try.ntmps72
  go_wp2_with fail
  refine (ksize_any _ _ _ _ (by omega)).mono ?_
  rintro e w2 ⟨rfl, hb2⟩
  have HB2 := hide (HB0.out.trans (hb2.mono HB0.out.size))
  have HK2 := hide (HK0.out.later hb2)
  clear hb2
  go_wp2_with fail
  refine (pairsOf_any m N _ h1 h12 HNN.out).mono ?_
  rintro e w3 ⟨g, rfl, hb3, hg3, hpa⟩
  have HB3 := hide (HB2.out.trans (hb3.mono HB2.out.size))
  have HK3 := hide (HK2.out.later hb3)
  have HPA3 := hide hpa
  clear hb3 hpa
  go_wp2_with fail

  go_loopw [14] (fun i wr => ∃ k : Nat, k ≤ N ∧ i = .int .i64 k ∧ Below w.heap.size w wr ∧ Blk wr w.heap.size 26 [.slice A m c] ∧ PairsAt wr g m ∧ ∀ i, i < k → Cg2 f xs (i / m) (i % m)) (fun i _ => N - (intOf i).toNat)
  case atStart => exact ⟨0, Nat.zero_le _, rfl, HB3.out, HK3.out, HPA3.out, fun i hi => absurd hi (Nat.not_lt_zero _)⟩
  case round =>
    obtain ⟨k, hk, rfl, hbe, hkk, hpa, hall⟩ := hrel
    have HB := hide hbe
    have HK := hide hkk
    have HPA := hide hpa
    have HALL := hide hall
    clear hbe hkk hpa hall
    by_cases hlt : k < N
    · have hkz : (k : Int) < N := by omega
      obtain ⟨p0, p1⟩ := HPA.out.2 k (by rw [HNN.out]; exact hlt)
      have hxn : k / m < m := div_lt_sq (by rw [HNN.out]; exact hlt)
      have hyn : k % m < m := mod_lt_sq (by rw [HNN.out]; exact hlt)
      obtain ⟨x, hx⟩ : ∃ x, k / m = x := ⟨_, rfl⟩
      obtain ⟨z, hz⟩ : ∃ z, k % m = z := ⟨_, rfl⟩
      rw [hx] at p0 hxn
      rw [hz] at p1 hyn
      have HX := hide hx
      have HZ := hide hz
      clear hx hz
      have hxz : (x : Int) < m := by omega
      have hzz : (z : Int) < m := by omega
      go_wp2_with fail
      refine wp_gen fun w4 hw4 => ?_
      obtain ⟨P, hPe⟩ : ∃ P, wr.heap.size = P := ⟨_, rfl⟩
      have HB4 : Hid (Below w.heap.size w w4) := hide (by rw [hw4]; exact HB.out.alloc HB.out.size _)
      have HK4 : Hid (Blk w4 w.heap.size 26 [.slice A m c]) := hide (by rw [hw4]; exact HK.out.alloc _)
      have HP4 : Hid (Blk w4 P 85 [.int .i64 x, .int .i64 z]) := hide (by rw [hw4, ← hPe]; exact Blk.new _ _ _)
      have HA4 : Hid (PairsAt w4 g m) := hide (by rw [hw4]; exact HPA.out.later ((Below.refl _ _).alloc (Nat.le_refl _) _))
      rw [hPe]
      clear hw4 p0 p1 hPe
      obtain ⟨a, ha⟩ : ∃ a, cl xs x = a := ⟨_, rfl⟩
      obtain ⟨a', ha'⟩ : ∃ a, cl xs z = a := ⟨_, rfl⟩
      have c0 := (HB4.out.cell (p := ⟨b, o + x, none⟩) hbw).trans (HC.out x hxn).1
      have c1 := (HB4.out.cell (p := ⟨b, o + z, none⟩) hbw).trans (HC.out z hyn).1
      rw [ha] at c0
      rw [ha'] at c1
      have p0 := HP4.out.cell 0 _ rfl
      have p1 := HP4.out.cell 1 _ rfl
      have HEQ : Hid (cl xs x = cl xs z ↔ a = a') := hide (by rw [ha, ha'])
      clear ha ha'
      by_cases hq : a = a'
      · have HYES := hide (HEQ.out.2 hq)
        subst hq
        go_region_held3 (fun w' => w'.cell? ⟨P, 0, none⟩ = some (.int .i64 x) ∧ w'.cell? ⟨P, 1, none⟩ = some (.int .i64 z) ∧ w'.cell? ⟨b, o + x, none⟩ = some (.int .i64 a) ∧ w'.cell? ⟨b, o + z, none⟩ = some (.int .i64 a)) (first | exact ⟨p0, p1, c0, c1⟩ | go_keep) (first | fail)
        all_goals
          clear p0 p1 c0 c1
          have k0 := HK4.out.drew.cell 0 _ rfl
          go_wp2_with fail
          clear k0
          refine (ksize_any _ m _ _ (by omega)).mono ?_
          rintro e w6 ⟨rfl, hb6⟩
          have HB6 := hide (HB4.out.drew.trans (hb6.mono HB4.out.drew.size))
          have HK6 := hide (Blk.later HK4.out.drew hb6)
          have HP6 := hide (Blk.later HP4.out.drew hb6)
          have HA6 := hide ((HA4.out.later ((Below.refl _ _).drew)).later hb6)
          clear hb6
          go_wp2_with fail
          go_loopw [31] (fun i wi => ∃ y : Nat, y ≤ m ∧ i = .int .i64 y ∧ Below w.heap.size w wi ∧ Blk wi w.heap.size 26 [.slice A m c] ∧ Blk wi P 85 [.int .i64 x, .int .i64 z] ∧ PairsAt wi g m ∧ ∀ y', y' < y → Cg3 f xs x z y') (fun i _ => m - (intOf i).toNat)
          case atStart => exact ⟨0, Nat.zero_le _, rfl, HB6.out, HK6.out, HP6.out, HA6.out, fun i hi => absurd hi (Nat.not_lt_zero _)⟩
          case round =>
            obtain ⟨y, hy, rfl, hbe, hkk, hpp, hpa, hall⟩ := hrel
            have HBc := hide hbe
            have HKc := hide hkk
            have HPc := hide hpp
            have HAc := hide hpa
            have HALLI := hide hall
            clear hbe hkk hpp hpa hall
            by_cases hlty : y < m
            · have hyz : (y : Int) < m := by omega
              have h1' := HTB.out.ap_lt HN.out hxn hlty
              have h2' := HTB.out.ap_lt HN.out hyn hlty
              have h3' := HTB.out.ap_lt HN.out hlty hxn
              have h4' := HTB.out.ap_lt HN.out hlty hyn
              obtain ⟨s1, e1⟩ : ∃ u, ap f x y = u := ⟨_, rfl⟩
              obtain ⟨s2, e2⟩ : ∃ u, ap f z y = u := ⟨_, rfl⟩
              obtain ⟨s3, e3⟩ : ∃ u, ap f y x = u := ⟨_, rfl⟩
              obtain ⟨s4, e4⟩ : ∃ u, ap f y z = u := ⟨_, rfl⟩
              rw [e1] at h1'
              rw [e2] at h2'
              rw [e3] at h3'
              rw [e4] at h4'
              have d1 := (HC.out s1 h1').1
              have d2 := (HC.out s2 h2').1
              have d3 := (HC.out s3 h3').1
              have d4 := (HC.out s4 h4').1
              have HAT : Hid (Cg3 f xs x z y ↔ cl xs s1 = cl xs s2 ∧ cl xs s3 = cl xs s4) := hide (by unfold Cg3; rw [e1, e2, e3, e4])
              obtain ⟨v1, f1⟩ : ∃ u, cl xs s1 = u := ⟨_, rfl⟩
              obtain ⟨v2, f2⟩ : ∃ u, cl xs s2 = u := ⟨_, rfl⟩
              obtain ⟨v3, f3⟩ : ∃ u, cl xs s3 = u := ⟨_, rfl⟩
              obtain ⟨v4, f4⟩ : ∃ u, cl xs s4 = u := ⟨_, rfl⟩
              rw [f1] at d1
              rw [f2] at d2
              rw [f3] at d3
              rw [f4] at d4
              rw [f1, f2, f3, f4] at HAT
              have U1 := hide e1
              have U2 := hide e2
              have U3 := hide e3
              have U4 := hide e4
              have D1 := hide d1
              have D2 := hide d2
              have D3 := hide d3
              have D4 := hide d4
              have z1 : (s1 : Int) < m := by omega
              have z2 : (s2 : Int) < m := by omega
              have z3 : (s3 : Int) < m := by omega
              have z4 : (s4 : Int) < m := by omega
              clear e1 e2 e3 e4 f1 f2 f3 f4 d1 d2 d3 d4
              by_cases hl : v1 = v2
              · by_cases hr' : v3 = v4
                · have HYY := hide (HAT.out.2 ⟨hl, hr'⟩)
                  subst hl
                  subst hr'
                  go_wp2_with fail
                  have tok0 : True := trivial
                  have k0 := HKc.out.cell 0 _ rfl
                  have p0 := HPc.out.cell 0 _ rfl
                  have p1 := HPc.out.cell 1 _ rfl
                  have c0 := (HBc.out.cell (p := ⟨b, o + s1, none⟩) hbw).trans D1.out
                  have c1 := (HBc.out.cell (p := ⟨b, o + s2, none⟩) hbw).trans D2.out
                  go_region_held3 (fun w' => w'.cell? ⟨w.heap.size, 0, none⟩ = some (.slice A m c) ∧ w'.cell? ⟨P, 0, none⟩ = some (.int .i64 x) ∧ w'.cell? ⟨P, 1, none⟩ = some (.int .i64 z) ∧ w'.cell? ⟨b, o + s1, none⟩ = some (.int .i64 v1) ∧ w'.cell? ⟨b, o + s2, none⟩ = some (.int .i64 v1)) (first | exact ⟨k0, p0, p1, c0, c1⟩ | go_keep) (first | (go_at_call 51; have _t := tok0; clear _t tok0; go_must (refine calls_gen fun wc hwc => ?_; (first | have hbx := drew_below hwc | have hbx := eq_below hwc); replace HBc := hide (HBc.out.trans (hbx.mono HBc.out.size)); replace HKc := hide (HKc.out.later hbx); replace HPc := hide (HPc.out.later hbx); replace HAc := hide (HAc.out.later hbx); clear hwc hbx; refine (act_any _ _ _ f x y s1 _ HN.out HTB.out (HR.out.later HBc.out) hxn hlty U1.out).mono ?_; rintro e wd ⟨rfl, hbd⟩; replace HBc := hide (HBc.out.trans (hbd.mono HBc.out.size)); replace HKc := hide (HKc.out.later hbd); replace HPc := hide (HPc.out.later hbd); replace HAc := hide (HAc.out.later hbd); clear hbd; have k0 := HKc.out.cell 0 _ rfl; have p0 := HPc.out.cell 0 _ rfl; have p1 := HPc.out.cell 1 _ rfl; have c0 := (HBc.out.cell (p := ⟨b, o + s1, none⟩) hbw).trans D1.out; have c1 := (HBc.out.cell (p := ⟨b, o + s2, none⟩) hbw).trans D2.out)) | (go_at_call 51; go_must (refine calls_gen fun wc hwc => ?_; (first | have hbx := drew_below hwc | have hbx := eq_below hwc); replace HBc := hide (HBc.out.trans (hbx.mono HBc.out.size)); replace HKc := hide (HKc.out.later hbx); replace HPc := hide (HPc.out.later hbx); replace HAc := hide (HAc.out.later hbx); clear hwc hbx; refine (act_any _ _ _ f z y s2 _ HN.out HTB.out (HR.out.later HBc.out) hyn hlty U2.out).mono ?_; rintro e wd ⟨rfl, hbd⟩; replace HBc := hide (HBc.out.trans (hbd.mono HBc.out.size)); replace HKc := hide (HKc.out.later hbd); replace HPc := hide (HPc.out.later hbd); replace HAc := hide (HAc.out.later hbd); clear hbd; have k0 := HKc.out.cell 0 _ rfl; have p0 := HPc.out.cell 0 _ rfl; have p1 := HPc.out.cell 1 _ rfl; have c0 := (HBc.out.cell (p := ⟨b, o + s1, none⟩) hbw).trans D1.out; have c1 := (HBc.out.cell (p := ⟨b, o + s2, none⟩) hbw).trans D2.out)))
                  clear k0 p0 p1 c0 c1
                  go_wp2_with fail
                  have tok0 : True := trivial
                  have k0 := HKc.out.cell 0 _ rfl
                  have p0 := HPc.out.cell 0 _ rfl
                  have p1 := HPc.out.cell 1 _ rfl
                  have c0 := (HBc.out.cell (p := ⟨b, o + s3, none⟩) hbw).trans D3.out
                  have c1 := (HBc.out.cell (p := ⟨b, o + s4, none⟩) hbw).trans D4.out
                  go_region_held3 (fun w' => w'.cell? ⟨w.heap.size, 0, none⟩ = some (.slice A m c) ∧ w'.cell? ⟨P, 0, none⟩ = some (.int .i64 x) ∧ w'.cell? ⟨P, 1, none⟩ = some (.int .i64 z) ∧ w'.cell? ⟨b, o + s3, none⟩ = some (.int .i64 v3) ∧ w'.cell? ⟨b, o + s4, none⟩ = some (.int .i64 v3)) (first | exact ⟨k0, p0, p1, c0, c1⟩ | go_keep) (first | (go_at_call 51; have _t := tok0; clear _t tok0; go_must (refine calls_gen fun wc hwc => ?_; (first | have hbx := drew_below hwc | have hbx := eq_below hwc); replace HBc := hide (HBc.out.trans (hbx.mono HBc.out.size)); replace HKc := hide (HKc.out.later hbx); replace HPc := hide (HPc.out.later hbx); replace HAc := hide (HAc.out.later hbx); clear hwc hbx; refine (act_any _ _ _ f y x s3 _ HN.out HTB.out (HR.out.later HBc.out) hlty hxn U3.out).mono ?_; rintro e wd ⟨rfl, hbd⟩; replace HBc := hide (HBc.out.trans (hbd.mono HBc.out.size)); replace HKc := hide (HKc.out.later hbd); replace HPc := hide (HPc.out.later hbd); replace HAc := hide (HAc.out.later hbd); clear hbd; have k0 := HKc.out.cell 0 _ rfl; have p0 := HPc.out.cell 0 _ rfl; have p1 := HPc.out.cell 1 _ rfl; have c0 := (HBc.out.cell (p := ⟨b, o + s3, none⟩) hbw).trans D3.out; have c1 := (HBc.out.cell (p := ⟨b, o + s4, none⟩) hbw).trans D4.out)) | (go_at_call 51; go_must (refine calls_gen fun wc hwc => ?_; (first | have hbx := drew_below hwc | have hbx := eq_below hwc); replace HBc := hide (HBc.out.trans (hbx.mono HBc.out.size)); replace HKc := hide (HKc.out.later hbx); replace HPc := hide (HPc.out.later hbx); replace HAc := hide (HAc.out.later hbx); clear hwc hbx; refine (act_any _ _ _ f y z s4 _ HN.out HTB.out (HR.out.later HBc.out) hlty hyn U4.out).mono ?_; rintro e wd ⟨rfl, hbd⟩; replace HBc := hide (HBc.out.trans (hbd.mono HBc.out.size)); replace HKc := hide (HKc.out.later hbd); replace HPc := hide (HPc.out.later hbd); replace HAc := hide (HAc.out.later hbd); clear hbd; have k0 := HKc.out.cell 0 _ rfl; have p0 := HPc.out.cell 0 _ rfl; have p1 := HPc.out.cell 1 _ rfl; have c0 := (HBc.out.cell (p := ⟨b, o + s3, none⟩) hbw).trans D3.out; have c1 := (HBc.out.cell (p := ⟨b, o + s4, none⟩) hbw).trans D4.out)))
                  clear k0 p0 p1 c0 c1
                  go_wp2_with fail
                  go_roundw
                  case rel => exact ⟨y + 1, by omega, by go_num, HBc.out, HKc.out, HPc.out, HAc.out, fun i hi => by
                    by_cases e : i = y
                    · rw [e]; exact HYY.out
                    · exact HALLI.out i (by omega)⟩
                  case measure => simp [intOf]; omega
                · have g3 : ((v3 : Int) == (v4 : Int)) = false := by simpa using fun h => hr' (by omega)
                  have g4 : ¬ (v3 : Int) = (v4 : Int) := fun h => hr' (by omega)
                  have hrf : r = false := by
                    cases r
                    · rfl
                    · exact absurd (HAT.out.1 (HRC.out.1 rfl x (by have := HN.out; omega) z (by have := HN.out; omega) HYES.out y (by have := HN.out; omega))) (fun h => hr' h.2)
                  subst hrf
                  subst hl
                  go_wp2_with fail
                  have tok0 : True := trivial
                  have k0 := HKc.out.cell 0 _ rfl
                  have p0 := HPc.out.cell 0 _ rfl
                  have p1 := HPc.out.cell 1 _ rfl
                  have c0 := (HBc.out.cell (p := ⟨b, o + s1, none⟩) hbw).trans D1.out
                  have c1 := (HBc.out.cell (p := ⟨b, o + s2, none⟩) hbw).trans D2.out
                  go_region_held3 (fun w' => w'.cell? ⟨w.heap.size, 0, none⟩ = some (.slice A m c) ∧ w'.cell? ⟨P, 0, none⟩ = some (.int .i64 x) ∧ w'.cell? ⟨P, 1, none⟩ = some (.int .i64 z) ∧ w'.cell? ⟨b, o + s1, none⟩ = some (.int .i64 v1) ∧ w'.cell? ⟨b, o + s2, none⟩ = some (.int .i64 v1)) (first | exact ⟨k0, p0, p1, c0, c1⟩ | go_keep) (first | (go_at_call 51; have _t := tok0; clear _t tok0; go_must (refine calls_gen fun wc hwc => ?_; (first | have hbx := drew_below hwc | have hbx := eq_below hwc); replace HBc := hide (HBc.out.trans (hbx.mono HBc.out.size)); replace HKc := hide (HKc.out.later hbx); replace HPc := hide (HPc.out.later hbx); replace HAc := hide (HAc.out.later hbx); clear hwc hbx; refine (act_any _ _ _ f x y s1 _ HN.out HTB.out (HR.out.later HBc.out) hxn hlty U1.out).mono ?_; rintro e wd ⟨rfl, hbd⟩; replace HBc := hide (HBc.out.trans (hbd.mono HBc.out.size)); replace HKc := hide (HKc.out.later hbd); replace HPc := hide (HPc.out.later hbd); replace HAc := hide (HAc.out.later hbd); clear hbd; have k0 := HKc.out.cell 0 _ rfl; have p0 := HPc.out.cell 0 _ rfl; have p1 := HPc.out.cell 1 _ rfl; have c0 := (HBc.out.cell (p := ⟨b, o + s1, none⟩) hbw).trans D1.out; have c1 := (HBc.out.cell (p := ⟨b, o + s2, none⟩) hbw).trans D2.out)) | (go_at_call 51; go_must (refine calls_gen fun wc hwc => ?_; (first | have hbx := drew_below hwc | have hbx := eq_below hwc); replace HBc := hide (HBc.out.trans (hbx.mono HBc.out.size)); replace HKc := hide (HKc.out.later hbx); replace HPc := hide (HPc.out.later hbx); replace HAc := hide (HAc.out.later hbx); clear hwc hbx; refine (act_any _ _ _ f z y s2 _ HN.out HTB.out (HR.out.later HBc.out) hyn hlty U2.out).mono ?_; rintro e wd ⟨rfl, hbd⟩; replace HBc := hide (HBc.out.trans (hbd.mono HBc.out.size)); replace HKc := hide (HKc.out.later hbd); replace HPc := hide (HPc.out.later hbd); replace HAc := hide (HAc.out.later hbd); clear hbd; have k0 := HKc.out.cell 0 _ rfl; have p0 := HPc.out.cell 0 _ rfl; have p1 := HPc.out.cell 1 _ rfl; have c0 := (HBc.out.cell (p := ⟨b, o + s1, none⟩) hbw).trans D1.out; have c1 := (HBc.out.cell (p := ⟨b, o + s2, none⟩) hbw).trans D2.out)))
                  clear k0 p0 p1 c0 c1
                  go_wp2_with fail
                  have tok0 : True := trivial
                  have k0 := HKc.out.cell 0 _ rfl
                  have p0 := HPc.out.cell 0 _ rfl
                  have p1 := HPc.out.cell 1 _ rfl
                  have c0 := (HBc.out.cell (p := ⟨b, o + s3, none⟩) hbw).trans D3.out
                  have c1 := (HBc.out.cell (p := ⟨b, o + s4, none⟩) hbw).trans D4.out
                  go_region_held3 (fun w' => w'.cell? ⟨w.heap.size, 0, none⟩ = some (.slice A m c) ∧ w'.cell? ⟨P, 0, none⟩ = some (.int .i64 x) ∧ w'.cell? ⟨P, 1, none⟩ = some (.int .i64 z) ∧ w'.cell? ⟨b, o + s3, none⟩ = some (.int .i64 v3) ∧ w'.cell? ⟨b, o + s4, none⟩ = some (.int .i64 v4)) (first | exact ⟨k0, p0, p1, c0, c1⟩ | go_keep) (first | (go_at_call 51; have _t := tok0; clear _t tok0; go_must (refine calls_gen fun wc hwc => ?_; (first | have hbx := drew_below hwc | have hbx := eq_below hwc); replace HBc := hide (HBc.out.trans (hbx.mono HBc.out.size)); replace HKc := hide (HKc.out.later hbx); replace HPc := hide (HPc.out.later hbx); replace HAc := hide (HAc.out.later hbx); clear hwc hbx; refine (act_any _ _ _ f y x s3 _ HN.out HTB.out (HR.out.later HBc.out) hlty hxn U3.out).mono ?_; rintro e wd ⟨rfl, hbd⟩; replace HBc := hide (HBc.out.trans (hbd.mono HBc.out.size)); replace HKc := hide (HKc.out.later hbd); replace HPc := hide (HPc.out.later hbd); replace HAc := hide (HAc.out.later hbd); clear hbd; have k0 := HKc.out.cell 0 _ rfl; have p0 := HPc.out.cell 0 _ rfl; have p1 := HPc.out.cell 1 _ rfl; have c0 := (HBc.out.cell (p := ⟨b, o + s3, none⟩) hbw).trans D3.out; have c1 := (HBc.out.cell (p := ⟨b, o + s4, none⟩) hbw).trans D4.out)) | (go_at_call 51; go_must (refine calls_gen fun wc hwc => ?_; (first | have hbx := drew_below hwc | have hbx := eq_below hwc); replace HBc := hide (HBc.out.trans (hbx.mono HBc.out.size)); replace HKc := hide (HKc.out.later hbx); replace HPc := hide (HPc.out.later hbx); replace HAc := hide (HAc.out.later hbx); clear hwc hbx; refine (act_any _ _ _ f y z s4 _ HN.out HTB.out (HR.out.later HBc.out) hlty hyn U4.out).mono ?_; rintro e wd ⟨rfl, hbd⟩; replace HBc := hide (HBc.out.trans (hbd.mono HBc.out.size)); replace HKc := hide (HKc.out.later hbd); replace HPc := hide (HPc.out.later hbd); replace HAc := hide (HAc.out.later hbd); clear hbd; have k0 := HKc.out.cell 0 _ rfl; have p0 := HPc.out.cell 0 _ rfl; have p1 := HPc.out.cell 1 _ rfl; have c0 := (HBc.out.cell (p := ⟨b, o + s3, none⟩) hbw).trans D3.out; have c1 := (HBc.out.cell (p := ⟨b, o + s4, none⟩) hbw).trans D4.out)))
                  clear k0 p0 p1 c0 c1
                  go_wp2_with fail
                  go_ret
                  exact ⟨rfl, HBc.out⟩
              · by_cases hr' : v3 = v4
                · have g1 : ((v1 : Int) == (v2 : Int)) = false := by simpa using fun h => hl (by omega)
                  have g2 : ¬ (v1 : Int) = (v2 : Int) := fun h => hl (by omega)
                  have hrf : r = false := by
                    cases r
                    · rfl
                    · exact absurd (HAT.out.1 (HRC.out.1 rfl x (by have := HN.out; omega) z (by have := HN.out; omega) HYES.out y (by have := HN.out; omega))) (fun h => hl h.1)
                  subst hrf
                  subst hr'
                  go_wp2_with fail
                  have tok0 : True := trivial
                  have k0 := HKc.out.cell 0 _ rfl
                  have p0 := HPc.out.cell 0 _ rfl
                  have p1 := HPc.out.cell 1 _ rfl
                  have c0 := (HBc.out.cell (p := ⟨b, o + s1, none⟩) hbw).trans D1.out
                  have c1 := (HBc.out.cell (p := ⟨b, o + s2, none⟩) hbw).trans D2.out
                  go_region_held3 (fun w' => w'.cell? ⟨w.heap.size, 0, none⟩ = some (.slice A m c) ∧ w'.cell? ⟨P, 0, none⟩ = some (.int .i64 x) ∧ w'.cell? ⟨P, 1, none⟩ = some (.int .i64 z) ∧ w'.cell? ⟨b, o + s1, none⟩ = some (.int .i64 v1) ∧ w'.cell? ⟨b, o + s2, none⟩ = some (.int .i64 v2)) (first | exact ⟨k0, p0, p1, c0, c1⟩ | go_keep) (first | (go_at_call 51; have _t := tok0; clear _t tok0; go_must (refine calls_gen fun wc hwc => ?_; (first | have hbx := drew_below hwc | have hbx := eq_below hwc); replace HBc := hide (HBc.out.trans (hbx.mono HBc.out.size)); replace HKc := hide (HKc.out.later hbx); replace HPc := hide (HPc.out.later hbx); replace HAc := hide (HAc.out.later hbx); clear hwc hbx; refine (act_any _ _ _ f x y s1 _ HN.out HTB.out (HR.out.later HBc.out) hxn hlty U1.out).mono ?_; rintro e wd ⟨rfl, hbd⟩; replace HBc := hide (HBc.out.trans (hbd.mono HBc.out.size)); replace HKc := hide (HKc.out.later hbd); replace HPc := hide (HPc.out.later hbd); replace HAc := hide (HAc.out.later hbd); clear hbd; have k0 := HKc.out.cell 0 _ rfl; have p0 := HPc.out.cell 0 _ rfl; have p1 := HPc.out.cell 1 _ rfl; have c0 := (HBc.out.cell (p := ⟨b, o + s1, none⟩) hbw).trans D1.out; have c1 := (HBc.out.cell (p := ⟨b, o + s2, none⟩) hbw).trans D2.out)) | (go_at_call 51; go_must (refine calls_gen fun wc hwc => ?_; (first | have hbx := drew_below hwc | have hbx := eq_below hwc); replace HBc := hide (HBc.out.trans (hbx.mono HBc.out.size)); replace HKc := hide (HKc.out.later hbx); replace HPc := hide (HPc.out.later hbx); replace HAc := hide (HAc.out.later hbx); clear hwc hbx; refine (act_any _ _ _ f z y s2 _ HN.out HTB.out (HR.out.later HBc.out) hyn hlty U2.out).mono ?_; rintro e wd ⟨rfl, hbd⟩; replace HBc := hide (HBc.out.trans (hbd.mono HBc.out.size)); replace HKc := hide (HKc.out.later hbd); replace HPc := hide (HPc.out.later hbd); replace HAc := hide (HAc.out.later hbd); clear hbd; have k0 := HKc.out.cell 0 _ rfl; have p0 := HPc.out.cell 0 _ rfl; have p1 := HPc.out.cell 1 _ rfl; have c0 := (HBc.out.cell (p := ⟨b, o + s1, none⟩) hbw).trans D1.out; have c1 := (HBc.out.cell (p := ⟨b, o + s2, none⟩) hbw).trans D2.out)))
                  clear k0 p0 p1 c0 c1
                  go_wp2_with fail
                  have tok0 : True := trivial
                  have k0 := HKc.out.cell 0 _ rfl
                  have p0 := HPc.out.cell 0 _ rfl
                  have p1 := HPc.out.cell 1 _ rfl
                  have c0 := (HBc.out.cell (p := ⟨b, o + s3, none⟩) hbw).trans D3.out
                  have c1 := (HBc.out.cell (p := ⟨b, o + s4, none⟩) hbw).trans D4.out
                  go_region_held3 (fun w' => w'.cell? ⟨w.heap.size, 0, none⟩ = some (.slice A m c) ∧ w'.cell? ⟨P, 0, none⟩ = some (.int .i64 x) ∧ w'.cell? ⟨P, 1, none⟩ = some (.int .i64 z) ∧ w'.cell? ⟨b, o + s3, none⟩ = some (.int .i64 v3) ∧ w'.cell? ⟨b, o + s4, none⟩ = some (.int .i64 v3)) (first | exact ⟨k0, p0, p1, c0, c1⟩ | go_keep) (first | (go_at_call 51; have _t := tok0; clear _t tok0; go_must (refine calls_gen fun wc hwc => ?_; (first | have hbx := drew_below hwc | have hbx := eq_below hwc); replace HBc := hide (HBc.out.trans (hbx.mono HBc.out.size)); replace HKc := hide (HKc.out.later hbx); replace HPc := hide (HPc.out.later hbx); replace HAc := hide (HAc.out.later hbx); clear hwc hbx; refine (act_any _ _ _ f y x s3 _ HN.out HTB.out (HR.out.later HBc.out) hlty hxn U3.out).mono ?_; rintro e wd ⟨rfl, hbd⟩; replace HBc := hide (HBc.out.trans (hbd.mono HBc.out.size)); replace HKc := hide (HKc.out.later hbd); replace HPc := hide (HPc.out.later hbd); replace HAc := hide (HAc.out.later hbd); clear hbd; have k0 := HKc.out.cell 0 _ rfl; have p0 := HPc.out.cell 0 _ rfl; have p1 := HPc.out.cell 1 _ rfl; have c0 := (HBc.out.cell (p := ⟨b, o + s3, none⟩) hbw).trans D3.out; have c1 := (HBc.out.cell (p := ⟨b, o + s4, none⟩) hbw).trans D4.out)) | (go_at_call 51; go_must (refine calls_gen fun wc hwc => ?_; (first | have hbx := drew_below hwc | have hbx := eq_below hwc); replace HBc := hide (HBc.out.trans (hbx.mono HBc.out.size)); replace HKc := hide (HKc.out.later hbx); replace HPc := hide (HPc.out.later hbx); replace HAc := hide (HAc.out.later hbx); clear hwc hbx; refine (act_any _ _ _ f y z s4 _ HN.out HTB.out (HR.out.later HBc.out) hlty hyn U4.out).mono ?_; rintro e wd ⟨rfl, hbd⟩; replace HBc := hide (HBc.out.trans (hbd.mono HBc.out.size)); replace HKc := hide (HKc.out.later hbd); replace HPc := hide (HPc.out.later hbd); replace HAc := hide (HAc.out.later hbd); clear hbd; have k0 := HKc.out.cell 0 _ rfl; have p0 := HPc.out.cell 0 _ rfl; have p1 := HPc.out.cell 1 _ rfl; have c0 := (HBc.out.cell (p := ⟨b, o + s3, none⟩) hbw).trans D3.out; have c1 := (HBc.out.cell (p := ⟨b, o + s4, none⟩) hbw).trans D4.out)))
                  clear k0 p0 p1 c0 c1
                  go_wp2_with fail
                  go_ret
                  exact ⟨rfl, HBc.out⟩
                · have g1 : ((v1 : Int) == (v2 : Int)) = false := by simpa using fun h => hl (by omega)
                  have g2 : ¬ (v1 : Int) = (v2 : Int) := fun h => hl (by omega)
                  have g3 : ((v3 : Int) == (v4 : Int)) = false := by simpa using fun h => hr' (by omega)
                  have g4 : ¬ (v3 : Int) = (v4 : Int) := fun h => hr' (by omega)
                  have hrf : r = false := by
                    cases r
                    · rfl
                    · exact absurd (HAT.out.1 (HRC.out.1 rfl x (by have := HN.out; omega) z (by have := HN.out; omega) HYES.out y (by have := HN.out; omega))) (fun h => hl h.1)
                  subst hrf
                  go_wp2_with fail
                  have tok0 : True := trivial
                  have k0 := HKc.out.cell 0 _ rfl
                  have p0 := HPc.out.cell 0 _ rfl
                  have p1 := HPc.out.cell 1 _ rfl
                  have c0 := (HBc.out.cell (p := ⟨b, o + s1, none⟩) hbw).trans D1.out
                  have c1 := (HBc.out.cell (p := ⟨b, o + s2, none⟩) hbw).trans D2.out
                  go_region_held3 (fun w' => w'.cell? ⟨w.heap.size, 0, none⟩ = some (.slice A m c) ∧ w'.cell? ⟨P, 0, none⟩ = some (.int .i64 x) ∧ w'.cell? ⟨P, 1, none⟩ = some (.int .i64 z) ∧ w'.cell? ⟨b, o + s1, none⟩ = some (.int .i64 v1) ∧ w'.cell? ⟨b, o + s2, none⟩ = some (.int .i64 v2)) (first | exact ⟨k0, p0, p1, c0, c1⟩ | go_keep) (first | (go_at_call 51; have _t := tok0; clear _t tok0; go_must (refine calls_gen fun wc hwc => ?_; (first | have hbx := drew_below hwc | have hbx := eq_below hwc); replace HBc := hide (HBc.out.trans (hbx.mono HBc.out.size)); replace HKc := hide (HKc.out.later hbx); replace HPc := hide (HPc.out.later hbx); replace HAc := hide (HAc.out.later hbx); clear hwc hbx; refine (act_any _ _ _ f x y s1 _ HN.out HTB.out (HR.out.later HBc.out) hxn hlty U1.out).mono ?_; rintro e wd ⟨rfl, hbd⟩; replace HBc := hide (HBc.out.trans (hbd.mono HBc.out.size)); replace HKc := hide (HKc.out.later hbd); replace HPc := hide (HPc.out.later hbd); replace HAc := hide (HAc.out.later hbd); clear hbd; have k0 := HKc.out.cell 0 _ rfl; have p0 := HPc.out.cell 0 _ rfl; have p1 := HPc.out.cell 1 _ rfl; have c0 := (HBc.out.cell (p := ⟨b, o + s1, none⟩) hbw).trans D1.out; have c1 := (HBc.out.cell (p := ⟨b, o + s2, none⟩) hbw).trans D2.out)) | (go_at_call 51; go_must (refine calls_gen fun wc hwc => ?_; (first | have hbx := drew_below hwc | have hbx := eq_below hwc); replace HBc := hide (HBc.out.trans (hbx.mono HBc.out.size)); replace HKc := hide (HKc.out.later hbx); replace HPc := hide (HPc.out.later hbx); replace HAc := hide (HAc.out.later hbx); clear hwc hbx; refine (act_any _ _ _ f z y s2 _ HN.out HTB.out (HR.out.later HBc.out) hyn hlty U2.out).mono ?_; rintro e wd ⟨rfl, hbd⟩; replace HBc := hide (HBc.out.trans (hbd.mono HBc.out.size)); replace HKc := hide (HKc.out.later hbd); replace HPc := hide (HPc.out.later hbd); replace HAc := hide (HAc.out.later hbd); clear hbd; have k0 := HKc.out.cell 0 _ rfl; have p0 := HPc.out.cell 0 _ rfl; have p1 := HPc.out.cell 1 _ rfl; have c0 := (HBc.out.cell (p := ⟨b, o + s1, none⟩) hbw).trans D1.out; have c1 := (HBc.out.cell (p := ⟨b, o + s2, none⟩) hbw).trans D2.out)))
                  clear k0 p0 p1 c0 c1
                  go_wp2_with fail
                  have tok0 : True := trivial
                  have k0 := HKc.out.cell 0 _ rfl
                  have p0 := HPc.out.cell 0 _ rfl
                  have p1 := HPc.out.cell 1 _ rfl
                  have c0 := (HBc.out.cell (p := ⟨b, o + s3, none⟩) hbw).trans D3.out
                  have c1 := (HBc.out.cell (p := ⟨b, o + s4, none⟩) hbw).trans D4.out
                  go_region_held3 (fun w' => w'.cell? ⟨w.heap.size, 0, none⟩ = some (.slice A m c) ∧ w'.cell? ⟨P, 0, none⟩ = some (.int .i64 x) ∧ w'.cell? ⟨P, 1, none⟩ = some (.int .i64 z) ∧ w'.cell? ⟨b, o + s3, none⟩ = some (.int .i64 v3) ∧ w'.cell? ⟨b, o + s4, none⟩ = some (.int .i64 v4)) (first | exact ⟨k0, p0, p1, c0, c1⟩ | go_keep) (first | (go_at_call 51; have _t := tok0; clear _t tok0; go_must (refine calls_gen fun wc hwc => ?_; (first | have hbx := drew_below hwc | have hbx := eq_below hwc); replace HBc := hide (HBc.out.trans (hbx.mono HBc.out.size)); replace HKc := hide (HKc.out.later hbx); replace HPc := hide (HPc.out.later hbx); replace HAc := hide (HAc.out.later hbx); clear hwc hbx; refine (act_any _ _ _ f y x s3 _ HN.out HTB.out (HR.out.later HBc.out) hlty hxn U3.out).mono ?_; rintro e wd ⟨rfl, hbd⟩; replace HBc := hide (HBc.out.trans (hbd.mono HBc.out.size)); replace HKc := hide (HKc.out.later hbd); replace HPc := hide (HPc.out.later hbd); replace HAc := hide (HAc.out.later hbd); clear hbd; have k0 := HKc.out.cell 0 _ rfl; have p0 := HPc.out.cell 0 _ rfl; have p1 := HPc.out.cell 1 _ rfl; have c0 := (HBc.out.cell (p := ⟨b, o + s3, none⟩) hbw).trans D3.out; have c1 := (HBc.out.cell (p := ⟨b, o + s4, none⟩) hbw).trans D4.out)) | (go_at_call 51; go_must (refine calls_gen fun wc hwc => ?_; (first | have hbx := drew_below hwc | have hbx := eq_below hwc); replace HBc := hide (HBc.out.trans (hbx.mono HBc.out.size)); replace HKc := hide (HKc.out.later hbx); replace HPc := hide (HPc.out.later hbx); replace HAc := hide (HAc.out.later hbx); clear hwc hbx; refine (act_any _ _ _ f y z s4 _ HN.out HTB.out (HR.out.later HBc.out) hlty hyn U4.out).mono ?_; rintro e wd ⟨rfl, hbd⟩; replace HBc := hide (HBc.out.trans (hbd.mono HBc.out.size)); replace HKc := hide (HKc.out.later hbd); replace HPc := hide (HPc.out.later hbd); replace HAc := hide (HAc.out.later hbd); clear hbd; have k0 := HKc.out.cell 0 _ rfl; have p0 := HPc.out.cell 0 _ rfl; have p1 := HPc.out.cell 1 _ rfl; have c0 := (HBc.out.cell (p := ⟨b, o + s3, none⟩) hbw).trans D3.out; have c1 := (HBc.out.cell (p := ⟨b, o + s4, none⟩) hbw).trans D4.out)))
                  clear k0 p0 p1 c0 c1
                  go_wp2_with fail
                  go_ret
                  exact ⟨rfl, HBc.out⟩
            · have hym : y = m := by omega
              subst hym
              go_wp2_with fail
              go_roundw
              case rel => exact ⟨k + 1, by omega, by go_num, HBc.out, HKc.out, HAc.out, fun i hi => by
                by_cases e : i = k
                · rw [e, HX.out, HZ.out]; exact fun _ y' hy' => HALLI.out y' (by have := HN.out; omega)
                · exact HALL.out i (by omega)⟩
              case measure => simp [intOf]; omega
      · have HNO := hide (fun h => hq (HEQ.out.1 h))
        have hqz : ((a : Int) == (a' : Int)) = false := by simpa using fun h => hq (by omega)
        have hqz2 : ((a : Int) != (a' : Int)) = true := by simpa using fun h => hq (by omega)
        go_region_held3 (fun w' => w'.cell? ⟨P, 0, none⟩ = some (.int .i64 x) ∧ w'.cell? ⟨P, 1, none⟩ = some (.int .i64 z) ∧ w'.cell? ⟨b, o + x, none⟩ = some (.int .i64 a) ∧ w'.cell? ⟨b, o + z, none⟩ = some (.int .i64 a')) (first | exact ⟨p0, p1, c0, c1⟩ | go_keep) (first | fail)
        all_goals
          clear p0 p1 c0 c1
          go_wp2_with fail
          go_roundw
          case rel => exact ⟨k + 1, by omega, by go_num, HB4.out.drew, HK4.out.drew, HA4.out.later ((Below.refl _ _).drew), fun i hi => by
            by_cases e : i = k
            · rw [e, HX.out, HZ.out]; exact fun h => absurd h HNO.out
            · exact HALL.out i (by omega)⟩
          case measure => simp [intOf]; omega
    · have hkn : k = N := by omega
      subst hkn
      have hrt : r = true := HRC.out.2 (cg_pairs HN.out (fun i hi => HALL.out i (by rw [← HNN.out]; exact hi)))
      subst hrt
      go_wp2_with fail
      go_ret
      exact ⟨rfl, HB.out⟩
end Go.Proofs.Ytkflmhmbkilmpac
namespace Go.Proofs.Ytkflmhmbkilmpac
open Go Go.RowKit
set_option maxHeartbeats 1000000

set_option maxRecDepth 100000 in
theorem l04Partition_any (N : Nat) (A : Option Addr) (n c : Nat) (xs : List Int) (r : Bool) (w : World) (hn : xs.length = n) (hb : n ≤ 1048576) (hN : N ≤ 1048576) (hr : Rd w A xs) (hres : r = true ↔ n = N ∧ Canon xs) :
    Calls Try.prog 87 #[.int .i64 N, .slice A n c] w fun e w' => e = .returned (.bool r) ∧ Below w.heap.size w w' := by
  have HN := hide hn
  have HRES := hide hres
  clear hn hres
  go_enter Try.func87, Try.ntmps87
  go_wp2_with fail
  go_loopw [5, 6] (fun v i wr => ∃ k : Nat, k ≤ n ∧ v = .int .i64 (nxt xs k) ∧ i = .int .i64 k ∧ Quiet w wr ∧ ∀ j, j < k → 0 ≤ xs.getD j 0 ∧ xs.getD j 0 ≤ (nxt xs j : Int)) (fun _ i _ => n - (intOf i).toNat)
  case atStart => exact ⟨0, Nat.zero_le _, rfl, rfl, Quiet.refl _, fun j hj => absurd hj (Nat.not_lt_zero _)⟩
  case round =>
    obtain ⟨k, hk, rfl, rfl, hq, hall⟩ := hrel
    have HQ := hide hq
    have HALL := hide hall
    clear hq hall
    by_cases hlt : k < n
    · obtain ⟨b, o, rfl, hbw, hc⟩ := HQ.out.rd hr (by have := HN.out; omega)
      have hc1 := hc k (by have := HN.out; omega)
      have hltz : (k : Int) < n := by omega
      have hnk := nxt_le xs k
      obtain ⟨x, hx⟩ : ∃ x, xs.getD k 0 = x := ⟨_, rfl⟩
      have hnx : nxt xs (k + 1) = if x = (nxt xs k : Int) then nxt xs k + 1 else nxt xs k := by rw [← hx]; rfl
      obtain ⟨m, hm⟩ : ∃ m, nxt xs k = m := ⟨_, rfl⟩
      rw [hx] at hc1
      rw [hm] at hnk hnx ⊢
      have HX := hide hx
      have HM := hide hm
      have HNX := hide hnx
      clear hx hm hc hnx
      by_cases hin : 0 ≤ x ∧ x ≤ (m : Int)
      · have HIN := hide hin
        clear hin
        by_cases he : x = (m : Int)
        · subst he
          have HN1 : Hid (nxt xs (k + 1) = m + 1) := hide (by rw [HNX.out]; simp)
          go_wp2_with fail
          refine (in_any _ _ _ true _ ⟨fun _ => HIN.out, fun _ => rfl⟩).mono ?_
          rintro e w1 ⟨rfl, hq1⟩
          have HQ1 := hide (HQ.out.trans hq1)
          replace hc1 := (Quiet.cell hq1 _).trans hc1
          clear hq1
          go_wp2_with fail
          go_roundw
          case rel => exact ⟨k + 1, by omega, by rw [HN1.out]; go_num, by go_num, HQ1.out, fun j hj => by
            by_cases e : j = k
            · rw [e, HX.out, HM.out]; exact HIN.out
            · exact HALL.out j (by omega)⟩
          case measure => simp [intOf]; omega
        · have hxb : (x == (m : Int)) = false := by simpa using he
          have HN1 : Hid (nxt xs (k + 1) = m) := hide (by rw [HNX.out, if_neg he])
          clear he
          go_wp2_with fail
          refine (in_any _ _ _ true _ ⟨fun _ => HIN.out, fun _ => rfl⟩).mono ?_
          rintro e w1 ⟨rfl, hq1⟩
          have HQ1 := hide (HQ.out.trans hq1)
          replace hc1 := (Quiet.cell hq1 _).trans hc1
          clear hq1
          go_wp2_with fail
          go_roundw
          case rel => exact ⟨k + 1, by omega, by rw [HN1.out], by go_num, HQ1.out, fun j hj => by
            by_cases e : j = k
            · rw [e, HX.out, HM.out]; exact HIN.out
            · exact HALL.out j (by omega)⟩
          case measure => simp [intOf]; omega
      · have hrf : r = false := by
          cases r
          · rfl
          · exact absurd (by have h := (HRES.out.1 rfl).2 k (by have := HN.out; omega); rw [HX.out, HM.out] at h; exact h) hin
        subst hrf
        have HIN := hide hin
        clear hin
        go_wp2_with fail
        refine (in_any _ _ _ false _ (by simpa using HIN.out)).mono ?_
        rintro e w1 ⟨rfl, hq1⟩
        have HQ1 := hide (HQ.out.trans hq1)
        clear hq1
        go_wp2_with fail
        go_ret
        exact ⟨rfl, HQ1.out.below _⟩
    · have hkn : k = n := by omega
      subst hkn
      by_cases he : k = N
      · subst he
        have hrt : r = true := HRES.out.2 ⟨rfl, fun i hi => HALL.out i (by have := HN.out; omega)⟩
        subst hrt
        go_wp2_with fail
        go_ret
        exact ⟨rfl, HQ.out.below _⟩
      · have hrf : r = false := by
          cases r
          · rfl
          · exact absurd (HRES.out.1 rfl).1 he
        subst hrf
        have hez : ((k : Int) == (N : Int)) = false := by simpa using fun h => he (by omega)
        go_wp2_with fail
        go_ret
        exact ⟨rfl, HQ.out.below _⟩
end Go.Proofs.Ytkflmhmbkilmpac
namespace Go.Proofs.Ytkflmhmbkilmpac
open Go Go.RowKit
set_option maxHeartbeats 4000000

set_option maxRecDepth 100000 in
theorem l04Cg_any (A : Option Addr) (n c : Nat) (f : List (List Int)) (B : Option Addr) (m d : Nat) (xs : List Int) (r : Bool) (w : World) (hn : f.length = n) (ht : Tbl f) (hr : Rd2 w A f) (hm : xs.length = m) (hx : Rd w B xs) (hp : Part f xs) (hrc : r = true ↔ CgF f xs) :
    Calls Try.prog 70 #[.slice A n c, .slice B m d] w fun e w' => e = .returned (.bool r) ∧ Below w.heap.size w w' := by
  have h1 : 1 ≤ n := by rw [← hn]; exact ht.1
  have h12 : n ≤ 12 := by rw [← hn]; exact ht.2.1
  have hmn : m = n := by rw [← hm, hp.1, hn]
  subst hmn
  obtain ⟨b, o, hB, hbw, hc⟩ := hx (by omega)
  subst hB
  obtain ⟨bt, ot, hA, hbt, hct⟩ := ht.cells hr hn
  subst hA
  have HC : Hid (∀ i : Nat, i < m → w.cell? ⟨b, o + i, none⟩ = some (.int .i64 (cl xs i)) ∧ cl xs i < m) := hide (fun i hi => by
    have h := hp.2.val (i := i) (by omega)
    rw [hm] at h
    exact ⟨by rw [← h.1]; exact hc i (by omega), h.2⟩)
  have HT := hide hct
  have HN := hide hn
  have HTB := hide ht
  have HRC := hide hrc
  clear hn ht hr hrc hm hp hc hct
  go_enter Try.func70, Try.ntmps70
  go_wp2_with fail
  go_loopw [6] (fun i wr => ∃ x : Nat, x ≤ m ∧ i = .int .i64 x ∧ Below w.heap.size w wr ∧ ∀ x', x' < x → ∀ z', z' < m → Cg2 f xs x' z') (fun i _ => m - (intOf i).toNat)
  case atStart => exact ⟨0, Nat.zero_le _, rfl, Below.refl _ _, fun i hi => absurd hi (Nat.not_lt_zero _)⟩
  case round =>
    obtain ⟨x, hxn', rfl, hbe, hall⟩ := hrel
    have HX := hide hbe
    have HALLX := hide hall
    clear hbe hall
    by_cases hltx : x < m
    · have hxz : (x : Int) < m := by omega
      go_wp2_with fail
      go_loopw [7] (fun i wr => ∃ z : Nat, z ≤ m ∧ i = .int .i64 z ∧ Below w.heap.size w wr ∧ ∀ z', z' < z → Cg2 f xs x z') (fun i _ => m - (intOf i).toNat)
      case atStart => exact ⟨0, Nat.zero_le _, rfl, HX.out, fun i hi => absurd hi (Nat.not_lt_zero _)⟩
      case round =>
        obtain ⟨z, hzn', rfl, hbe, hall⟩ := hrel
        have HZ := hide hbe
        have HALLZ := hide hall
        clear hbe hall
        by_cases hltz : z < m
        · have hzz : (z : Int) < m := by omega
          obtain ⟨a, ha⟩ : ∃ a, cl xs x = a := ⟨_, rfl⟩
          obtain ⟨a', ha'⟩ : ∃ a, cl xs z = a := ⟨_, rfl⟩
          have c0 := (HZ.out.cell (p := ⟨b, o + x, none⟩) hbw).trans (HC.out x hltx).1
          have c1 := (HZ.out.cell (p := ⟨b, o + z, none⟩) hbw).trans (HC.out z hltz).1
          rw [ha] at c0
          rw [ha'] at c1
          have HEQ : Hid (cl xs x = cl xs z ↔ a = a') := hide (by rw [ha, ha'])
          clear ha ha'
          by_cases hq : a = a'
          · have HYES := hide (HEQ.out.2 hq)
            subst hq
            go_wp2_with fail
            go_quiet (fail)
            go_wp2_with fail
            clear c0 c1
            refine wp_gen fun wz hwz => ?_
            have HZ2 : Hid (Below w.heap.size w wz) := hide (by rw [hwz]; exact HZ.out.trans ((Quiet.of _ _).below _))
            clear hwz
            go_loopw [8] (fun i wr => ∃ y : Nat, y ≤ m ∧ i = .int .i64 y ∧ Below w.heap.size w wr ∧ ∀ y', y' < y → Cg3 f xs x z y') (fun i _ => m - (intOf i).toNat)
            case atStart => exact ⟨0, Nat.zero_le _, rfl, HZ2.out, fun i hi => absurd hi (Nat.not_lt_zero _)⟩
            case round =>
              obtain ⟨y, hyn', rfl, hbe, hall⟩ := hrel
              have HY := hide hbe
              have HALLY := hide hall
              clear hbe hall
              by_cases hlty : y < m
              · have hyz : (y : Int) < m := by omega
                have h1' := HTB.out.ap_lt HN.out hltx hlty
                have h2' := HTB.out.ap_lt HN.out hltz hlty
                have h3' := HTB.out.ap_lt HN.out hlty hltx
                have h4' := HTB.out.ap_lt HN.out hlty hltz
                obtain ⟨s1, e1⟩ : ∃ u, ap f x y = u := ⟨_, rfl⟩
                obtain ⟨s2, e2⟩ : ∃ u, ap f z y = u := ⟨_, rfl⟩
                obtain ⟨s3, e3⟩ : ∃ u, ap f y x = u := ⟨_, rfl⟩
                obtain ⟨s4, e4⟩ : ∃ u, ap f y z = u := ⟨_, rfl⟩
                rw [e1] at h1'
                rw [e2] at h2'
                rw [e3] at h3'
                rw [e4] at h4'
                have d1 := (HY.out.cell (p := ⟨b, o + s1, none⟩) hbw).trans (HC.out s1 h1').1
                have d2 := (HY.out.cell (p := ⟨b, o + s2, none⟩) hbw).trans (HC.out s2 h2').1
                have d3 := (HY.out.cell (p := ⟨b, o + s3, none⟩) hbw).trans (HC.out s3 h3').1
                have d4 := (HY.out.cell (p := ⟨b, o + s4, none⟩) hbw).trans (HC.out s4 h4').1
                have HAT : Hid (Cg3 f xs x z y ↔ cl xs s1 = cl xs s2 ∧ cl xs s3 = cl xs s4) := hide (by unfold Cg3; rw [e1, e2, e3, e4])
                obtain ⟨v1, f1⟩ : ∃ u, cl xs s1 = u := ⟨_, rfl⟩
                obtain ⟨v2, f2⟩ : ∃ u, cl xs s2 = u := ⟨_, rfl⟩
                obtain ⟨v3, f3⟩ : ∃ u, cl xs s3 = u := ⟨_, rfl⟩
                obtain ⟨v4, f4⟩ : ∃ u, cl xs s4 = u := ⟨_, rfl⟩
                rw [f1] at d1
                rw [f2] at d2
                rw [f3] at d3
                rw [f4] at d4
                rw [f1, f2, f3, f4] at HAT
                obtain ⟨bx, ox, cx, rx, lx, gx⟩ := HT.out x hltx
                obtain ⟨by', oy, cy, ry, ly, gy⟩ := HT.out y hlty
                obtain ⟨bz, oz, cz, rz, lz, gz⟩ := HT.out z hltz
                replace rx := (HY.out.cell (p := ⟨bt, ot + x, none⟩) hbt).trans rx
                replace ry := (HY.out.cell (p := ⟨bt, ot + y, none⟩) hbt).trans ry
                replace rz := (HY.out.cell (p := ⟨bt, ot + z, none⟩) hbt).trans rz
                have t1 := gx y hlty
                have t2 := gz y hlty
                have t3 := gy x hltx
                have t4 := gy z hltz
                rw [e1] at t1
                rw [e2] at t2
                rw [e3] at t3
                rw [e4] at t4
                replace t1 := (HY.out.cell (p := ⟨bx, ox + y, none⟩) lx).trans t1
                replace t2 := (HY.out.cell (p := ⟨bz, oz + y, none⟩) lz).trans t2
                replace t3 := (HY.out.cell (p := ⟨by', oy + x, none⟩) ly).trans t3
                replace t4 := (HY.out.cell (p := ⟨by', oy + z, none⟩) ly).trans t4
                have z1 : (s1 : Int) < m := by omega
                have z2 : (s2 : Int) < m := by omega
                have z3 : (s3 : Int) < m := by omega
                have z4 : (s4 : Int) < m := by omega
                clear e1 e2 e3 e4 f1 f2 f3 f4 gx gy gz
                by_cases hl : v1 = v2
                · by_cases hr' : v3 = v4
                  · have HYY := hide (HAT.out.2 ⟨hl, hr'⟩)
                    subst hl
                    subst hr'
                    go_wp2_with fail
                    go_quiet (fail)
                    go_wp2_with fail
                    go_roundw
                    case rel => exact ⟨y + 1, by omega, by go_num, HY.out.trans ((Quiet.of _ _).below _), fun i hi => by
                      by_cases e : i = y
                      · rw [e]; exact HYY.out
                      · exact HALLY.out i (by omega)⟩
                    case measure => simp [intOf]; omega
                  · have g3 : ((v3 : Int) == (v4 : Int)) = false := by simpa using fun h => hr' (by omega)
                    have g4 : ¬ (v3 : Int) = (v4 : Int) := fun h => hr' (by omega)
                    have hrf : r = false := by
                      cases r
                      · rfl
                      · exact absurd (HAT.out.1 (HRC.out.1 rfl x (by have := HN.out; omega) z (by have := HN.out; omega) HYES.out y (by have := HN.out; omega))) (fun h => hr' h.2)
                    subst hrf
                    subst hl
                    go_wp2_with fail
                    go_quiet (fail)
                    go_wp2_with fail
                    go_ret
                    exact ⟨rfl, HY.out.trans ((Quiet.of _ _).below _)⟩
                · have g1 : ((v1 : Int) == (v2 : Int)) = false := by simpa using fun h => hl (by omega)
                  have g2 : ¬ (v1 : Int) = (v2 : Int) := fun h => hl (by omega)
                  have hrf : r = false := by
                    cases r
                    · rfl
                    · exact absurd (HAT.out.1 (HRC.out.1 rfl x (by have := HN.out; omega) z (by have := HN.out; omega) HYES.out y (by have := HN.out; omega))) (fun h => hl h.1)
                  subst hrf
                  go_wp2_with fail
                  go_quiet (fail)
                  go_wp2_with fail
                  go_ret
                  exact ⟨rfl, HY.out.trans ((Quiet.of _ _).below _)⟩
              · have hye : y = m := by omega
                subst hye
                go_wp2_with fail
                go_roundw
                case rel => exact ⟨z + 1, by omega, by go_num, HY.out, fun i hi => by
                  by_cases e : i = z
                  · rw [e]; exact fun _ y' hy' => HALLY.out y' (by have := HN.out; omega)
                  · exact HALLZ.out i (by omega)⟩
                case measure => simp [intOf]; omega
          · have HNO := hide (fun h => hq (HEQ.out.1 h))
            have hqz : ((a : Int) == (a' : Int)) = false := by simpa using fun h => hq (by omega)
            have hqz2 : ((a : Int) != (a' : Int)) = true := by simpa using fun h => hq (by omega)
            go_wp2_with fail
            go_quiet (fail)
            go_wp2_with fail
            go_roundw
            case rel => exact ⟨z + 1, by omega, by go_num, HZ.out.trans ((Quiet.of _ _).below _), fun i hi => by
              by_cases e : i = z
              · rw [e]; exact fun h => absurd h HNO.out
              · exact HALLZ.out i (by omega)⟩
            case measure => simp [intOf]; omega
        · have hze : z = m := by omega
          subst hze
          go_wp2_with fail
          go_roundw
          case rel => exact ⟨x + 1, by omega, by go_num, HZ.out, fun i hi => by
            by_cases e : i = x
            · rw [e]; exact HALLZ.out
            · exact HALLX.out i (by omega)⟩
          case measure => simp [intOf]; omega
    · have hxe : x = m := by omega
      subst hxe
      have hrt : r = true := HRC.out.2 (fun x hx z hz => HALLX.out x (by have := HN.out; omega) z (by have := HN.out; omega))
      subst hrt
      go_wp2_with fail
      go_ret
      exact ⟨rfl, HX.out⟩
end Go.Proofs.Ytkflmhmbkilmpac
namespace Go.Proofs.Ytkflmhmbkilmpac
open Go Go.RowKit
set_option maxHeartbeats 2000000

set_option maxRecDepth 100000 in
theorem l04Code_any (A : Option Addr) (n c : Nat) (f : List (List Int)) (B : Option Addr) (m d : Nat) (xs : List Int) (code : Int) (w : World) (hn : f.length = n) (hb : n ≤ 1048576) (hbs : ∀ i, i < f.length → (f.getD i []).length ≤ 1048576) (hr : Rd2 w A f) (hm : xs.length = m) (hbm : m ≤ 1048576) (hx : Rd w B xs) (hres : CdRes f xs code) :
    Calls Try.prog 69 #[.agg #[.slice A n c], .slice B m d] w fun e w' => e = .returned (.int .i64 code) ∧ Below w.heap.size w w' := by
  have HN := hide hn
  have HBS := hide hbs
  have HRD := hide hr
  have HM := hide hm
  have HX := hide hx
  have HB0 := hide ((Below.refl _ w).alloc (Nat.le_refl _) (Obj.cells #[Value.slice A n c] 26))
  have HK0 := hide (Blk.new w 26 [.slice A n c])
  by_cases h1 : Rck f
  · skip
    have HRK : Hid (RkRes f true) := hide (by unfold RkRes; simp [h1])
    by_cases h2 : Part f xs
    · obtain rfl : code = 0 := by
        rcases hres with h | h
        · exact h.2.2
        · exact absurd ⟨h1, h2⟩ h.1
      have HP : Hid (m = n ∧ Canon xs) := hide ⟨by rw [← hm, ← hn]; exact h2.1, h2.2⟩
      clear hres hn hbs hr hm hx h1 h2
      go_enter Try.func69, Try.ntmps69
      go_wp2_with fail
      refine (isRackS _ _ _ f true _ HN.out hb HBS.out (HRD.out.later HB0.out) HRK.out).mono ?_
      rintro e w1 ⟨rfl, hb1⟩
      have HB1 := hide (HB0.out.trans (hb1.mono HB0.out.size))
      have HK1 := hide (HK0.out.later hb1)
      clear hb1
      have k0 := HK1.out.cell 0 _ rfl
      go_wp2_with fail
      clear k0
      refine (l04Partition_any n _ _ _ xs true _ HM.out hbm hb (HX.out.later HB1.out) (by simp [HP.out.2]; exact HP.out.1)).mono ?_
      rintro e w2 ⟨rfl, hb2⟩
      have HB2 := hide (HB1.out.trans (hb2.mono HB1.out.size))
      have HK2 := hide (HK1.out.later hb2)
      clear hb2
      go_wp2_with fail
      go_ret
      exact ⟨rfl, HB2.out⟩
    · obtain rfl : code = 1 := by
        rcases hres with h | h
        · exact absurd h.2.1 h2
        · exact h.2
      have HP : Hid (¬ (m = n ∧ Canon xs)) := hide (fun h => h2 ⟨by rw [hm, hn]; exact h.1, h.2⟩)
      clear hres hn hbs hr hm hx h1 h2
      go_enter Try.func69, Try.ntmps69
      go_wp2_with fail
      refine (isRackS _ _ _ f true _ HN.out hb HBS.out (HRD.out.later HB0.out) HRK.out).mono ?_
      rintro e w1 ⟨rfl, hb1⟩
      have HB1 := hide (HB0.out.trans (hb1.mono HB0.out.size))
      have HK1 := hide (HK0.out.later hb1)
      clear hb1
      have k0 := HK1.out.cell 0 _ rfl
      go_wp2_with fail
      clear k0
      refine (l04Partition_any n _ _ _ xs false _ HM.out hbm hb (HX.out.later HB1.out) (by simpa using HP.out)).mono ?_
      rintro e w2 ⟨rfl, hb2⟩
      have HB2 := hide (HB1.out.trans (hb2.mono HB1.out.size))
      have HK2 := hide (HK1.out.later hb2)
      clear hb2
      go_wp2_with fail
      go_ret
      exact ⟨rfl, HB2.out⟩
  · obtain rfl : code = 1 := by
      rcases hres with h | h
      · exact absurd h.1 h1
      · exact h.2
    have HRK : Hid (RkRes f false) := hide (by unfold RkRes; simp [h1])
    clear hres hn hbs hr hm hx h1
    go_enter Try.func69, Try.ntmps69
    go_wp2_with fail
    refine (isRackS _ _ _ f false _ HN.out hb HBS.out (HRD.out.later HB0.out) HRK.out).mono ?_
    rintro e w1 ⟨rfl, hb1⟩
    have HB1 := hide (HB0.out.trans (hb1.mono HB0.out.size))
    have HK1 := hide (HK0.out.later hb1)
    clear hb1
    go_wp2_with fail
    go_ret
    exact ⟨rfl, HB1.out⟩

set_option maxRecDepth 100000 in
theorem cgS_any (A : Option Addr) (n c : Nat) (f : List (List Int)) (B : Option Addr) (m d : Nat) (xs : List Int) (r : Bool) (code : Int) (w : World) (hn : f.length = n) (hb : n ≤ 1048576) (hbs : ∀ i, i < f.length → (f.getD i []).length ≤ 1048576) (hr : Rd2 w A f) (hm : xs.length = m) (hbm : m ≤ 1048576) (hx : Rd w B xs) (hres : CgRes f xs r code) :
    Calls Try.prog 31 #[.agg #[.slice A n c], .slice B m d] w fun e w' => e = .returned (.tuple #[.bool r, .int .i64 code]) ∧ Below w.heap.size w w' := by
  have HN := hide hn
  have HBS := hide hbs
  have HRD := hide hr
  have HM := hide hm
  have HX := hide hx
  have HB0 := hide ((Below.refl _ w).alloc (Nat.le_refl _) (Obj.cells #[Value.slice A n c] 26))
  have HK0 := hide (Blk.new w 26 [.slice A n c])
  rcases hres with ⟨⟨h1, h2⟩, hrc, rfl⟩ | ⟨h1, rfl, rfl⟩
  · have HTB := hide h1.tbl
    have HP := hide h2
    have HRC := hide hrc
    have HCD : Hid (CdRes f xs 0) := hide (.inl ⟨h1, h2, rfl⟩)
    clear hn hbs hr hm hx h1 h2 hrc
    go_enter Try.func31, Try.ntmps31
    go_wp2_with fail
    refine (l04Code_any _ _ _ f _ _ _ xs 0 _ HN.out hb HBS.out (HRD.out.later HB0.out) HM.out hbm (HX.out.later HB0.out) HCD.out).mono ?_
    rintro e w1 ⟨rfl, hb1⟩
    have HB1 := hide (HB0.out.trans (hb1.mono HB0.out.size))
    have HK1 := hide (HK0.out.later hb1)
    clear hb1
    have k0 := HK1.out.cell 0 _ rfl
    go_wp2_with fail
    clear k0
    refine (l04Cg_any _ _ _ f _ _ _ xs r _ HN.out HTB.out (HRD.out.later HB1.out) HM.out (HX.out.later HB1.out) HP.out HRC.out).mono ?_
    rintro e w2 ⟨rfl, hb2⟩
    have HB2 := hide (HB1.out.trans (hb2.mono HB1.out.size))
    have HK2 := hide (HK1.out.later hb2)
    clear hb2
    go_wp2_with fail
    go_ret2
    exact ⟨rfl, HB2.out⟩
  · have HCD : Hid (CdRes f xs 1) := hide (.inr ⟨h1, rfl⟩)
    clear hn hbs hr hm hx h1
    go_enter Try.func31, Try.ntmps31
    go_wp2_with fail
    refine (l04Code_any _ _ _ f _ _ _ xs 1 _ HN.out hb HBS.out (HRD.out.later HB0.out) HM.out hbm (HX.out.later HB0.out) HCD.out).mono ?_
    rintro e w1 ⟨rfl, hb1⟩
    have HB1 := hide (HB0.out.trans (hb1.mono HB0.out.size))
    have HK1 := hide (HK0.out.later hb1)
    clear hb1
    go_wp2_with fail
    go_ret2
    exact ⟨rfl, HB1.out⟩
end Go.Proofs.Ytkflmhmbkilmpac
namespace Go.Proofs.Ytkflmhmbkilmpac
open Go Go.RowKit

/-- What a system is. -/
def Sys (n : Int) (rows : List (List Int)) : Prop := 1 ≤ n ∧ n ≤ 12 ∧ rows.length ≤ 16 ∧ ∀ i, i < rows.length → ((rows.getD i []).length : Int) = n ∧ Prm (rows.getD i [])
/-- A step of a system from an element to an element. -/
def stp (rows : List (List Int)) (x y : Nat) : Prop := ∃ i, i < rows.length ∧ ((rows.getD i []).getD x 0).toNat = y
inductive Rch (rows : List (List Int)) (x : Nat) : Nat → Prop
  | start : Rch rows x x
  | step {y z : Nat} : Rch rows x y → stp rows y z → Rch rows x z
end Go.Proofs.Ytkflmhmbkilmpac
namespace Go.Proofs.Ytkflmhmbkilmpac
open Go Go.RowKit

/-- The elements reached from x, the steps of the first i of them done. -/
structure OInv (rows : List (List Int)) (n x : Nat) (out : List Int) (i : Nat) : Prop where
  mem : (x : Int) ∈ out
  rng : ∀ v ∈ out, 0 ≤ v ∧ v < (n : Int)
  nd : out.Nodup
  rch : ∀ v ∈ out, Rch rows x v.toNat
  cl : ∀ j, j < i → ∀ r, r < rows.length → (rows.getD r []).getD (out.getD j 0).toNat 0 ∈ out
  le : i ≤ out.length

theorem nodup_le (out : List Int) (n : Nat) (hr : ∀ v ∈ out, 0 ≤ v ∧ v < (n : Int)) (hn : out.Nodup) : out.length ≤ n := by
  obtain ⟨l, hl⟩ := subset_perm out (Go.Proofs.Ytkflmhmbkilmpac.rng n) hn (fun a ha => (mem_rng n a).2 (hr a ha))
  have := hl.length_eq
  rw [rng_length, List.length_append] at this
  omega
theorem OInv.most {rows : List (List Int)} {n x : Nat} {out : List Int} {i : Nat} (h : OInv rows n x out i) : out.length ≤ n := nodup_le out n h.rng h.nd
theorem OInv.start (rows : List (List Int)) (n x : Nat) (hx : x < n) : OInv rows n x [(x : Int)] 0 :=
  ⟨by simp, fun v hv => by simp at hv; subst hv; omega, by simp, fun v hv => by simp at hv; subst hv; rw [Int.toNat_natCast]; exact .start, fun j hj => absurd hj (Nat.not_lt_zero _), by simp⟩
theorem OInv.push {rows : List (List Int)} {n x : Nat} {out : List Int} {i r : Nat} (h : OInv rows n x out i) (hi : i < out.length) (hr : r < rows.length) (v : Int) (hv : v = (rows.getD r []).getD (out.getD i 0).toNat 0) (h0 : 0 ≤ v) (hn : v < (n : Int)) (hno : v ∉ out) : OInv rows n x (out ++ [v]) i := by
  refine ⟨by simp [h.mem], fun u hu => ?_, ?_, fun u hu => ?_, fun j hj s hs => ?_, by have := h.le; simp; omega⟩
  · rcases List.mem_append.1 hu with hu | hu
    · exact h.rng u hu
    · simp at hu; subst hu; exact ⟨h0, hn⟩
  · rw [List.nodup_append]
    exact ⟨h.nd, by simp, fun a ha b hb e => hno (by simp at hb; subst hb; subst e; exact ha)⟩
  · rcases List.mem_append.1 hu with hu | hu
    · exact h.rch u hu
    · simp at hu
      have hm : out.getD i 0 ∈ out := by simp [hi]
      subst hu
      exact .step (h.rch _ hm) ⟨r, hr, by rw [hv]⟩
  · have e : (out ++ [v]).getD j 0 = out.getD j 0 := by
      have : j < out.length := by omega
      simp [List.getElem?_append, this]
    rw [e]
    exact List.mem_append_left _ (h.cl j hj s hs)
theorem OInv.on {rows : List (List Int)} {n x : Nat} {out : List Int} {i : Nat} (h : OInv rows n x out i) (hi : i < out.length) (hr : ∀ r, r < rows.length → (rows.getD r []).getD (out.getD i 0).toNat 0 ∈ out) : OInv rows n x out (i + 1) :=
  ⟨h.mem, h.rng, h.nd, h.rch, fun j hj r hrr => by
    by_cases e : j = i
    · subst e; exact hr r hrr
    · exact h.cl j (by omega) r hrr, by omega⟩
theorem OInv.done {rows : List (List Int)} {n x : Nat} {out : List Int} (h : OInv rows n x out out.length) (y : Nat) : (y : Int) ∈ out ↔ Rch rows x y := by
  constructor
  · intro hy
    have := h.rch _ hy
    rwa [Int.toNat_natCast] at this
  · intro hy
    induction hy with
    | start => exact h.mem
    | step _ hs ih =>
      obtain ⟨r, hr, hz⟩ := hs
      obtain ⟨j, hj, hjy⟩ := List.getElem_of_mem ih
      have e : out.getD j 0 = out[j] := by simp [hj]
      have hc := h.cl j hj r hr
      rw [e, hjy, Int.toNat_natCast] at hc
      have h0 := (h.rng _ hc).1
      rw [← hz, Int.toNat_of_nonneg h0]
      exact hc
end Go.Proofs.Ytkflmhmbkilmpac
namespace Go.Proofs.Ytkflmhmbkilmpac
open Go Go.RowKit
open Classical

theorem Rch.trans {rows : List (List Int)} {x y z : Nat} (h : Rch rows x y) (k : Rch rows y z) : Rch rows x z := by
  induction k with
  | start => exact h
  | step _ hs ih => exact .step ih hs

/-- The labels when the elements below k are done, and the number of the next orbit. -/
noncomputable def lab (rows : List (List Int)) : Nat → (Nat → Int) × Nat
  | 0 => (fun _ => -1, 0)
  | x + 1 => if 0 ≤ (lab rows x).1 x then lab rows x else (fun y => if Rch rows x y then ((lab rows x).2 : Int) else (lab rows x).1 y, (lab rows x).2 + 1)
noncomputable def labL (rows : List (List Int)) (n k : Nat) : List Int := (List.range n).map (lab rows k).1
theorem labL_length (rows : List (List Int)) (n k : Nat) : (labL rows n k).length = n := by simp [labL]
theorem labL_at (rows : List (List Int)) (n k y : Nat) (h : y < n) : (labL rows n k).getD y 0 = (lab rows k).1 y := by simp [labL, h]
theorem lab_le (rows : List (List Int)) (k : Nat) : (lab rows k).2 ≤ k := by
  induction k with
  | zero => simp [lab]
  | succ k ih =>
    unfold lab
    split
    · omega
    · show (lab rows k).2 + 1 ≤ k + 1; omega
theorem lab_lo (rows : List (List Int)) (k y : Nat) : -1 ≤ (lab rows k).1 y ∧ (lab rows k).1 y ≤ k := by
  induction k with
  | zero => simp [lab]
  | succ k ih =>
    unfold lab
    split
    · omega
    · have := lab_le rows k
      show -1 ≤ (if Rch rows k y then ((lab rows k).2 : Int) else (lab rows k).1 y) ∧ (if Rch rows k y then ((lab rows k).2 : Int) else (lab rows k).1 y) ≤ _
      split <;> omega

/-- Rows of permutations of n elements. -/
def Gens (rows : List (List Int)) (n : Nat) : Prop := ∀ r, r < rows.length → (rows.getD r []).length = n ∧ Prm (rows.getD r [])
theorem Gens.at {rows : List (List Int)} {n : Nat} (h : Gens rows n) {r v : Nat} (hr : r < rows.length) (hv : v < n) : 0 ≤ (rows.getD r []).getD v 0 ∧ (rows.getD r []).getD v 0 < (n : Int) := by
  obtain ⟨hl, hp⟩ := h r hr
  obtain ⟨p, hpe⟩ : ∃ p, p = rows.getD r [] := ⟨_, rfl⟩
  rw [← hpe] at hl hp ⊢
  have hm : p.getD v 0 ∈ p := by have : v < p.length := (by omega); simp [this]
  have := hp.2.2.1 _ hm
  rw [hl] at this
  exact this
theorem Gens.inj {rows : List (List Int)} {n : Nat} (h : Gens rows n) {r u v : Nat} (hr : r < rows.length) (hu : u < n) (hv : v < n) (e : ((rows.getD r []).getD u 0).toNat = ((rows.getD r []).getD v 0).toNat) : u = v := by
  have h1 := h.at hr hu
  have h2 := h.at hr hv
  obtain ⟨hl, hp⟩ := h r hr
  obtain ⟨p, hpe⟩ : ∃ p, p = rows.getD r [] := ⟨_, rfl⟩
  rw [← hpe] at hl hp e h1 h2
  have e2 : p.getD u 0 = p.getD v 0 := by omega
  have hul : u < p.length := by omega
  have hvl : v < p.length := by omega
  have e3 : p[u] = p[v] := by simpa [hul, hvl] using e2
  have hpw := List.pairwise_iff_getElem.1 hp.2.2.2
  rcases Nat.lt_trichotomy u v with h | h | h
  · exact absurd e3 (hpw u v hul hvl h)
  · exact h
  · exact absurd e3.symm (hpw v u hvl hul h)
theorem Gens.stay {rows : List (List Int)} {n : Nat} (h : Gens rows n) {x y : Nat} (hx : x < n) (hr : Rch rows x y) : y < n := by
  induction hr with
  | start => exact hx
  | step _ hs ih =>
    obtain ⟨r, hr, e⟩ := hs
    have := h.at hr ih
    omega
theorem Gens.back {rows : List (List Int)} {n : Nat} (h : Gens rows n) {x y z : Nat} (hx : x < n) (hy : y < n) (hs : stp rows y z) (hz : Rch rows x z) : Rch rows x y := by
  obtain ⟨r, hr, e⟩ := hs
  let l : List Nat := (List.range n).filter (fun v => decide (Rch rows x v))
  have hl : l.Nodup := List.Pairwise.filter _ List.nodup_range
  have hml : ∀ v, v ∈ l ↔ v < n ∧ Rch rows x v := fun v => by simp [l]
  let f : Nat → Nat := fun v => ((rows.getD r []).getD v 0).toNat
  have hnd : (l.map f).Nodup := by
    rw [List.nodup_iff_pairwise_ne, List.pairwise_map]
    refine List.Pairwise.imp_of_mem ?_ (List.nodup_iff_pairwise_ne.1 hl)
    intro a b ha hb hne e2
    exact hne (h.inj hr ((hml a).1 ha).1 ((hml b).1 hb).1 e2)
  have hsub : ∀ a ∈ l.map f, a ∈ l := by
    intro a ha
    obtain ⟨v, hv, rfl⟩ := List.mem_map.1 ha
    have hv' := (hml v).1 hv
    have hr' : Rch rows x (f v) := .step hv'.2 ⟨r, hr, rfl⟩
    exact (hml _).2 ⟨h.stay hx hr', hr'⟩
  obtain ⟨l', hl'⟩ := subset_perm (l.map f) l hnd hsub
  have hlen := hl'.length_eq
  rw [List.length_append, List.length_map] at hlen
  have h0 : l' = [] := List.eq_nil_of_length_eq_zero (by omega)
  subst h0
  rw [List.append_nil] at hl'
  have hzl : z ∈ l := (hml z).2 ⟨h.stay hx hz, hz⟩
  obtain ⟨y', hy', e'⟩ := List.mem_map.1 (hl'.mem_iff.1 hzl)
  have hy2 := (hml y').1 hy'
  have : y = y' := h.inj hr hy hy2.1 (by rw [e]; exact e'.symm)
  rw [this]
  exact hy2.2
theorem lab_closed {rows : List (List Int)} {n : Nat} (h : Gens rows n) (k : Nat) (hk : k ≤ n) (y z : Nat) (hy : y < n) (hs : stp rows y z) : 0 ≤ (lab rows k).1 y ↔ 0 ≤ (lab rows k).1 z := by
  induction k with
  | zero => simp [lab]
  | succ k ih =>
    have ih := ih (by omega)
    unfold lab
    split
    · exact ih
    · show 0 ≤ (if Rch rows k y then ((lab rows k).2 : Int) else (lab rows k).1 y) ↔ 0 ≤ (if Rch rows k z then ((lab rows k).2 : Int) else (lab rows k).1 z)
      by_cases h1 : Rch rows k y
      · rw [if_pos h1, if_pos (.step h1 hs)]
      · have h2 : ¬ Rch rows k z := fun h2 => h1 (h.back (by omega) hy hs h2)
        rw [if_neg h1, if_neg h2]
        exact ih
theorem Sys.gens {n : Nat} {rows : List (List Int)} (h : Sys (n : Int) rows) : Gens rows n := fun r hr => ⟨by have := (h.2.2.2 r hr).1; omega, (h.2.2.2 r hr).2⟩
def OrbRes (n : Int) (rows : List (List Int)) (zs : List Int) (code : Int) : Prop := (Sys n rows ∧ zs = labL rows n.toNat n.toNat ∧ code = 0) ∨ (¬ Sys n rows ∧ zs = [] ∧ code = 1)
theorem OrbRes.ex (n : Int) (rows : List (List Int)) : ∃ zs code, OrbRes n rows zs code ∧ zs.length ≤ 4194304 := by
  by_cases h : Sys n rows
  · exact ⟨_, _, .inl ⟨h, rfl, rfl⟩, by rw [labL_length]; have := h.2.1; omega⟩
  · exact ⟨_, _, .inr ⟨h, rfl, rfl⟩, by simp⟩
end Go.Proofs.Ytkflmhmbkilmpac
namespace Go.Proofs.Ytkflmhmbkilmpac
open Go Go.RowKit
def RkOrb (f : List (List Int)) (zs : List Int) (code : Int) : Prop := (Rck f ∧ zs = labL f f.length f.length ∧ code = 0) ∨ (¬ Rck f ∧ zs = [] ∧ code = 1)
theorem Rck.sys {f : List (List Int)} {n : Nat} (h : Rck f) (hn : f.length = n) : Sys (n : Int) f := by
  have h1 := h.tbl.1
  have h2 := h.tbl.2.1
  refine ⟨by omega, by omega, by omega, fun i hi => ⟨?_, h.prm i hi⟩⟩
  rw [h.tbl.rows i hi, hn]
theorem RkOrb.ex (f : List (List Int)) : ∃ zs code, RkOrb f zs code ∧ zs.length ≤ 1048576 := by
  by_cases h : Rck f
  · exact ⟨_, _, .inl ⟨h, rfl, rfl⟩, by rw [labL_length]; have := h.tbl.2.1; omega⟩
  · exact ⟨_, _, .inr ⟨h, rfl, rfl⟩, by simp⟩
end Go.Proofs.Ytkflmhmbkilmpac
namespace Go.Proofs.Ytkflmhmbkilmpac
open Go Go.RowKit
open Classical
def CnF (f : List (List Int)) : Prop := ∀ y, y < f.length → (labL f f.length f.length).getD y 0 = 0
def CnRes (f : List (List Int)) : Bool → Int → Prop := BRes (Rck f) (CnF f)
theorem CnRes.ex (f : List (List Int)) : ∃ r code, CnRes f r code := BRes.ex _ _
theorem lab_set (rows : List (List Int)) (k : Nat) : ∀ y, y < k → 0 ≤ (lab rows k).1 y := by
  induction k with
  | zero => intro y hy; omega
  | succ k ih =>
    intro y hy
    unfold lab
    by_cases h : 0 ≤ (lab rows k).1 k
    · rw [if_pos h]
      by_cases e : y = k
      · rw [e]; exact h
      · exact ih y (by omega)
    · rw [if_neg h]
      show 0 ≤ (if Rch rows k y then ((lab rows k).2 : Int) else (lab rows k).1 y)
      by_cases hr : Rch rows k y
      · rw [if_pos hr]; omega
      · rw [if_neg hr]
        by_cases e : y = k
        · subst e; exact absurd .start hr
        · exact ih y (by omega)
/-- The greatest number of a list. -/
def IsMax (xs : List Int) (m : Int) : Prop := (∃ i, i < xs.length ∧ xs.getD i 0 = m) ∧ ∀ i, i < xs.length → xs.getD i 0 ≤ m
theorem IsMax.ex (xs : List Int) (h : 1 ≤ xs.length) : ∃ m, IsMax xs m := by
  have key : ∀ k, 1 ≤ k → k ≤ xs.length → ∃ m, (∃ i, i < k ∧ xs.getD i 0 = m) ∧ ∀ i, i < k → xs.getD i 0 ≤ m := by
    intro k h1
    induction k with
    | zero => omega
    | succ k ih =>
      intro hk
      by_cases e : k = 0
      · subst e
        exact ⟨_, ⟨0, by omega, rfl⟩, fun i hi => by
          have e : i = 0 := by omega
          subst e
          exact Int.le_refl _⟩
      · obtain ⟨m, ⟨i, hi, hm⟩, hall⟩ := ih (by omega) (by omega)
        by_cases h2 : xs.getD k 0 ≤ m
        · exact ⟨m, ⟨i, by omega, hm⟩, fun j hj => by
            by_cases e : j = k
            · subst e; exact h2
            · exact hall j (by omega)⟩
        · exact ⟨xs.getD k 0, ⟨k, by omega, rfl⟩, fun j hj => by
            by_cases e : j = k
            · subst e; exact Int.le_refl _
            · have := hall j (by omega); omega⟩
  obtain ⟨m, ⟨i, hi, hm⟩, hall⟩ := key xs.length h (Nat.le_refl _)
  exact ⟨m, ⟨i, hi, hm⟩, hall⟩
theorem max_zero {f : List (List Int)} {m : Int} (h : IsMax (labL f f.length f.length) m) : m = 0 ↔ CnF f := by
  obtain ⟨⟨i, hi, hm⟩, hall⟩ := h
  rw [labL_length] at hi hall
  constructor
  · intro e y hy
    have h1 := hall y hy
    have h2 := lab_set f f.length y hy
    rw [← labL_at f f.length f.length y hy] at h2
    omega
  · intro hc
    rw [← hm, hc i hi]
end Go.Proofs.Ytkflmhmbkilmpac
namespace Go.Proofs.Ytkflmhmbkilmpac
open Go Go.RowKit
/-- Element number a of a set. -/
def mel (S a : Nat) : Nat := (mems 12 S).getD a 0
theorem mel_in {S a : Nat} (h : a < (mems 12 S).length) : inb S (mel S a) := by
  have : mel S a ∈ mems 12 S := by
    unfold mel
    rw [List.getD_eq_getElem?_getD, List.getElem?_eq_getElem h]
    exact List.getElem_mem h
  exact ((mems_mem _ _ _).1 this).2
theorem mel_of {S x : Nat} (hS : S < 4096) (h : inb S x) : ∃ a, a < (mems 12 S).length ∧ mel S a = x := by
  have hm : x ∈ mems 12 S := (mems_mem _ _ _).2 ⟨inb_lt (k := 12) (by simpa using hS) h, h⟩
  obtain ⟨a, ha, e⟩ := List.getElem_of_mem hm
  exact ⟨a, ha, by unfold mel; rw [List.getD_eq_getElem?_getD, List.getElem?_eq_getElem ha]; exact e⟩
theorem mel_getD {S a : Nat} (h : a < (mems 12 S).length) : (memL 12 S).getD a 0 = (mel S a : Int) := memL_getD _ _ _ h
/-- The set behind the pairs before (i, j). -/
def GrQ (f : List (List Int)) (S i j V : Nat) : Prop := ∀ t, inb V t ↔ inb S t ∨ ∃ a b, (a < i ∨ (a = i ∧ b < j)) ∧ a < (mems 12 S).length ∧ b < (mems 12 S).length ∧ ap f (mel S a) (mel S b) = t
theorem GrQ.start (f : List (List Int)) (S : Nat) : GrQ f S 0 0 S := fun t => ⟨.inl, fun h => by
  rcases h with h | ⟨a, b, h, _⟩
  · exact h
  · omega⟩
theorem GrQ.step {f : List (List Int)} {S i j V v : Nat} (h : GrQ f S i j V) (hi : i < (mems 12 S).length) (hj : j < (mems 12 S).length) (hv : ap f (mel S i) (mel S j) = v) : GrQ f S i (j + 1) (V ||| 2 ^ v) := by
  intro t
  rw [inb_or, h t]
  constructor
  · rintro ((h1 | ⟨a, b, h1, h2, h3, h4⟩) | rfl)
    · exact .inl h1
    · exact .inr ⟨a, b, by omega, h2, h3, h4⟩
    · exact .inr ⟨i, j, by omega, hi, hj, hv⟩
  · rintro (h1 | ⟨a, b, h1, h2, h3, h4⟩)
    · exact .inl (.inl h1)
    · by_cases e : a = i ∧ b = j
      · obtain ⟨rfl, rfl⟩ := e
        exact .inr (h4.symm.trans hv)
      · exact .inl (.inr ⟨a, b, by omega, h2, h3, h4⟩)
theorem GrQ.next {f : List (List Int)} {S i V : Nat} (h : GrQ f S i (mems 12 S).length V) : GrQ f S (i + 1) 0 V := by
  intro t
  rw [h t]
  constructor
  · rintro (h1 | ⟨a, b, h1, h2, h3, h4⟩)
    · exact .inl h1
    · exact .inr ⟨a, b, by omega, h2, h3, h4⟩
  · rintro (h1 | ⟨a, b, h1, h2, h3, h4⟩)
    · exact .inl h1
    · exact .inr ⟨a, b, by omega, h2, h3, h4⟩
theorem GrQ.done {f : List (List Int)} {S V : Nat} (hS : S < 4096) (h : GrQ f S (mems 12 S).length 0 V) : GrF f S V := by
  intro t
  rw [h t]
  constructor
  · rintro (h1 | ⟨a, b, h1, h2, h3, h4⟩)
    · exact .inl h1
    · exact .inr ⟨_, _, mel_in h2, mel_in h3, h4⟩
  · rintro (h1 | ⟨x, y, hx, hy, h4⟩)
    · exact .inl h1
    · obtain ⟨a, ha, rfl⟩ := mel_of hS hx
      obtain ⟨b, hb, rfl⟩ := mel_of hS hy
      exact .inr ⟨a, b, .inl ha, ha, hb, h4⟩
/-- A subrack, as a set. -/
def SubF (f : List (List Int)) (S : Nat) : Prop := S ≠ 0 ∧ ClosedF f S
theorem pow_le (n : Nat) (h : n ≤ 12) : 2 ^ n ≤ 4096 := Nat.pow_le_pow_right (n := 2) (by decide) h
end Go.Proofs.Ytkflmhmbkilmpac
namespace Go.Proofs.Ytkflmhmbkilmpac
open Go Go.RowKit
/-- All are elements. -/
def Els (n : Nat) (xs : List Int) : Prop := ∀ i, i < xs.length → 0 ≤ xs.getD i 0 ∧ xs.getD i 0 < (n : Int)
/-- An element of a list, as a natural number. -/
def el (xs : List Int) (i : Nat) : Nat := (xs.getD i 0).toNat
theorem Els.val {n : Nat} {xs : List Int} (h : Els n xs) {i : Nat} (hi : i < xs.length) : xs.getD i 0 = (el xs i : Int) ∧ el xs i < n := by
  have h1 := h i hi
  unfold el
  omega
/-- The set of the first k elements of a list. -/
def sN (xs : List Int) : Nat → Nat
  | 0 => 0
  | k + 1 => sN xs k ||| 2 ^ el xs k
theorem sN_in (xs : List Int) (k x : Nat) : inb (sN xs k) x ↔ ∃ i, i < k ∧ el xs i = x := by
  induction k with
  | zero => exact ⟨fun h => absurd h (inb_zero x), fun ⟨i, hi, _⟩ => by omega⟩
  | succ k ih =>
    show inb (sN xs k ||| 2 ^ el xs k) x ↔ _
    rw [inb_or, ih]
    constructor
    · rintro (⟨i, hi, e⟩ | rfl)
      · exact ⟨i, by omega, e⟩
      · exact ⟨k, by omega, rfl⟩
    · rintro ⟨i, hi, e⟩
      by_cases h : i = k
      · subst h; exact .inr e.symm
      · exact .inl ⟨i, by omega, e⟩
theorem sN_lt {n : Nat} {xs : List Int} (h : Els n xs) {k : Nat} (hk : k ≤ xs.length) : sN xs k < 2 ^ n :=
  set_lt (fun x hx => by
    obtain ⟨i, hi, rfl⟩ := (sN_in xs k x).1 hx
    exact (h.val (by omega)).2)
theorem sN_ne {xs : List Int} {k : Nat} (h : 0 < k) : sN xs k ≠ 0 := by
  intro e
  have h2 : inb (sN xs k) (el xs 0) := (sN_in xs k _).2 ⟨0, h, rfl⟩
  rw [e] at h2
  exact inb_zero _ h2

/-- A set of what holds, below n. -/
theorem set_of (P : Nat → Prop) (n : Nat) : ∃ V, V < 2 ^ n ∧ ∀ x, x < n → (inb V x ↔ P x) := by
  induction n with
  | zero => exact ⟨0, by simp, fun x hx => absurd hx (Nat.not_lt_zero _)⟩
  | succ n ih =>
    obtain ⟨V, hV, h⟩ := ih
    have hn : ¬ inb V n := fun h2 => by have := inb_lt hV h2; omega
    by_cases hp : P n
    · refine ⟨V ||| 2 ^ n, or_lt (Nat.lt_of_lt_of_le hV (Nat.pow_le_pow_right (by decide) (by omega))) (by omega), fun x hx => ?_⟩
      rw [inb_or]
      by_cases e : x = n
      · subst e; simp [hp]
      · rw [← h x (by omega)]; simp [e]
    · refine ⟨V, Nat.lt_of_lt_of_le hV (Nat.pow_le_pow_right (by decide) (by omega)), fun x hx => ?_⟩
      by_cases e : x = n
      · subst e; simp [hp, hn]
      · exact h x (by omega)
/-- V is in each set with S that is closed. -/
def Under (f : List (List Int)) (S V : Nat) : Prop := ∀ T, ClosedF f T → (∀ x, inb S x → inb T x) → ∀ x, inb V x → inb T x
/-- The least closed set with S. -/
structure LeastS (f : List (List Int)) (n S V : Nat) : Prop where
  lt : V < 2 ^ n
  closed : ClosedF f V
  up : ∀ x, inb S x → inb V x
  low : Under f S V
theorem LeastS.uniq {f : List (List Int)} {n S V V' : Nat} (h : LeastS f n S V) (h' : LeastS f n S V') : V = V' :=
  inb_eq (fun x => ⟨h.low V' h'.closed h'.up x, h'.low V h.closed h.up x⟩)
theorem LeastS.ex (f : List (List Int)) (n S : Nat) (hf : ∀ x y, x < n → y < n → ap f x y < n) (hS : S < 2 ^ n) : ∃ V, LeastS f n S V := by
  obtain ⟨V, hV, h⟩ := set_of (fun x => ∀ T, ClosedF f T → (∀ x, inb S x → inb T x) → inb T x) n
  refine ⟨V, hV, ?_, ?_, ?_⟩
  · intro x y hx hy
    have lx := inb_lt hV hx
    have ly := inb_lt hV hy
    refine (h _ (hf x y lx ly)).2 fun T hT hs => hT x y ((h x lx).1 hx T hT hs) ((h y ly).1 hy T hT hs)
  · intro x hx
    exact (h x (inb_lt hS hx)).2 fun T _ hs => hs x hx
  · intro T hT hs x hx
    exact (h x (inb_lt hV hx)).1 hx T hT hs
theorem Under.grow {f : List (List Int)} {S V W : Nat} (h : Under f S V) (hg : GrF f V W) : Under f S W := by
  intro T hT hs x hx
  rcases (hg x).1 hx with h1 | ⟨a, b, ha, hb, rfl⟩
  · exact h T hT hs x h1
  · exact hT a b (h T hT hs a ha) (h T hT hs b hb)
theorem Under.add {f : List (List Int)} {S V a b v : Nat} (h : Under f S V) (ha : inb V a) (hb : inb V b) (hv : ap f a b = v) : Under f S (V ||| 2 ^ v) := by
  intro T hT hs x hx
  rcases (inb_or V v x).1 hx with h1 | rfl
  · exact h T hT hs x h1
  · rw [← hv]; exact hT a b (h T hT hs a ha) (h T hT hs b hb)
def SfRes (f : List (List Int)) (xs : List Int) (zs : List Int) (code : Int) : Prop :=
  (∃ V, (Rck f ∧ Els f.length xs ∧ xs ≠ []) ∧ LeastS f f.length (sN xs xs.length) V ∧ zs = memL f.length V ∧ code = 0) ∨ (¬ Rck f ∧ zs = [] ∧ code = 1) ∨ (Rck f ∧ ¬ Els f.length xs ∧ zs = [] ∧ code = 2) ∨ (Rck f ∧ Els f.length xs ∧ xs = [] ∧ zs = [] ∧ code = 5)
theorem SfRes.ex (f : List (List Int)) (xs : List Int) : ∃ zs code, SfRes f xs zs code ∧ zs.length ≤ 1048576 := by
  by_cases h : Rck f
  · by_cases h2 : Els f.length xs
    · by_cases h3 : xs = []
      · exact ⟨_, _, .inr (.inr (.inr ⟨h, h2, h3, rfl, rfl⟩)), by simp⟩
      · obtain ⟨V, hV⟩ := LeastS.ex f f.length (sN xs xs.length) (fun x y hx hy => h.tbl.ap_lt rfl hx hy) (sN_lt h2 (Nat.le_refl _))
        refine ⟨_, _, .inl ⟨V, ⟨h, h2, h3⟩, hV, rfl, rfl⟩, ?_⟩
        have h4 := mems_length f.length V
        have h5 := h.tbl.2.1
        rw [memL_length]
        omega
    · exact ⟨_, _, .inr (.inr (.inl ⟨h, h2, rfl, rfl⟩)), by simp⟩
  · exact ⟨_, _, .inr (.inl ⟨h, rfl, rfl⟩), by simp⟩
end Go.Proofs.Ytkflmhmbkilmpac
namespace Go.Proofs.Ytkflmhmbkilmpac
open Go Go.RowKit
set_option maxHeartbeats 400000

theorem indexI_any (A : Option Addr) (n c : Nat) (xs : List Int) (v : Int) (w : World) (hn : xs.length = n) (hb : n ≤ 9223372036854775807) (hr : Rd w A xs) :
    Calls Try.prog 68 #[.slice A n c, .int .i64 v] w fun e w' => e = .returned (.int .i64 (ixOf xs v)) ∧ Quiet w w' := by
  have HN := hide hn
  clear hn
  go_enter Try.func68, Try.ntmps68
  go_wp2_with fail
  go_loopw [8] (fun i wr => ∃ k : Nat, k ≤ n ∧ i = .int .i64 k ∧ Quiet w wr ∧ v ∉ xs.take k) (fun i _ => n - (intOf i).toNat)
  case atStart => exact ⟨0, Nat.zero_le _, rfl, Quiet.refl _, by simp⟩
  case round =>
    obtain ⟨k, hk, rfl, hq, hno⟩ := hrel
    have HNO := hide hno
    have HQ := hide hq
    clear hno hq
    by_cases hlt : k < n
    · obtain ⟨b, o, rfl, hbw, hc⟩ := HQ.out.rd hr (by have := HN.out; omega)
      have hc1 := hc k (by have := HN.out; omega)
      have hl : k < xs.length := by have := HN.out; omega
      have HL := hide hl
      obtain ⟨x, hx⟩ : ∃ x, xs.getD k 0 = x := ⟨_, rfl⟩
      rw [hx] at hc1
      have HX := hide hx
      clear hx hc hl
      have hltz : (k : Int) < n := by omega
      by_cases hxv : x = v
      · have HXV := hide hxv
        have hxb : (v == x) = true := by simpa using hxv.symm
        clear hxv
        go_wp2_with fail
        go_ret
        have e := ixOf_at xs v k HL.out (HX.out.trans HXV.out) HNO.out
        exact ⟨by rw [e]; rfl, HQ.out⟩
      · have HXV := hide hxv
        have hxb : (v == x) = false := by simpa using fun h => hxv h.symm
        clear hxv
        go_wp2_with fail
        go_roundw
        case rel =>
          refine ⟨k + 1, by omega, by go_num, HQ.out, ?_⟩
          rw [List.take_succ_eq_append_getElem HL.out]
          intro h
          rcases List.mem_append.1 h with h | h
          · exact HNO.out h
          · have := HX.out
            have hl := HL.out
            simp [hl] at this
            simp [this] at h
            exact HXV.out h.symm
        case measure => simp [intOf]; omega
    · have hkn : k = n := by omega
      subst hkn
      go_wp2_with fail
      go_ret
      have h := HNO.out
      rw [List.take_of_length_le (by have := HN.out; omega)] at h
      exact ⟨by rw [ixOf_no xs v h]; rfl, HQ.out⟩

end Go.Proofs.Ytkflmhmbkilmpac
namespace Go.Proofs.Ytkflmhmbkilmpac
open Go Go.RowKit
set_option maxHeartbeats 1000000

theorem max_any (A : Option Addr) (n c : Nat) (xs : List Int) (m : Int) (w : World) (hn : xs.length = n) (h1 : 1 ≤ n) (hb : n ≤ 1048576) (hx : Rd w A xs) (hm : IsMax xs m) :
    Calls Try.prog 74 #[.slice A n c] w fun e w' => e = .returned (.int .i64 m) ∧ Below w.heap.size w w' := by
  have HN := hide hn
  have HM := hide hm
  obtain ⟨b, o, rfl, hbw, hc⟩ := hx (by omega)
  have HC := hide hc
  have hc0 := hc 0 (by omega)
  simp only [Nat.add_zero] at hc0
  obtain ⟨x0, hx0⟩ : ∃ v, xs.getD 0 0 = v := ⟨_, rfl⟩
  rw [hx0] at hc0
  have HX0 := hide hx0
  have h1z : ¬ ((n : Int) < 1) := by omega
  clear hn hx hm hc hx0
  go_enter Try.func74, Try.ntmps74
  go_wp2_with fail
  go_loopw [3, 4] (fun v i wr => ∃ (k : Nat) (u : Int), 1 ≤ k ∧ k ≤ n ∧ i = .int .i64 k ∧ v = .int .i64 u ∧ Below w.heap.size w wr ∧ (∃ j, j < k ∧ xs.getD j 0 = u) ∧ ∀ j, j < k → xs.getD j 0 ≤ u) (fun _ i _ => n - (intOf i).toNat)
  case atStart => exact ⟨1, x0, Nat.le_refl _, h1, rfl, rfl, Below.refl _ _, ⟨0, by omega, HX0.out⟩, fun j hj => by
    have e : j = 0 := by omega
    subst e
    rw [HX0.out]
    exact Int.le_refl _⟩
  case round =>
    obtain ⟨k, u, h1k, hk, rfl, rfl, hbe, hex, hall⟩ := hrel
    have HB := hide hbe
    have HEX := hide hex
    have HALL := hide hall
    clear hbe hex hall
    by_cases hlt : k < n
    · have hltz : (k : Int) < n := by omega
      have hck := HC.out k (by have := HN.out; omega)
      obtain ⟨y, hy⟩ : ∃ v, xs.getD k 0 = v := ⟨_, rfl⟩
      rw [hy] at hck
      replace hck := (HB.out.cell (p := ⟨b, o + k, none⟩) hbw).trans hck
      have HY := hide hy
      clear hy
      by_cases hlu : u < y
      · have hn2 : ¬ y < u := by omega
        go_wp2_with fail
        go_roundw
        case rel => exact ⟨k + 1, y, by omega, by omega, by go_num, rfl, HB.out, ⟨k, by omega, HY.out⟩, fun j hj => by
          by_cases e : j = k
          · subst e; rw [HY.out]; exact Int.le_refl _
          · have := HALL.out j (by omega); omega⟩
        case measure => simp [intOf]; omega
      · by_cases hyu : y < u
        · go_wp2_with fail
          go_roundw
          case rel => exact ⟨k + 1, u, by omega, by omega, by go_num, rfl, HB.out, by obtain ⟨j, h2, h3⟩ := HEX.out; exact ⟨j, by omega, h3⟩, fun j hj => by
            by_cases e : j = k
            · subst e; rw [HY.out]; omega
            · exact HALL.out j (by omega)⟩
          case measure => simp [intOf]; omega
        · have e : y = u := by omega
          subst e
          go_wp2_with fail
          go_roundw
          case rel => exact ⟨k + 1, y, by omega, by omega, by go_num, rfl, HB.out, ⟨k, by omega, HY.out⟩, fun j hj => by
            by_cases e : j = k
            · subst e; rw [HY.out]; exact Int.le_refl _
            · exact HALL.out j (by omega)⟩
          case measure => simp [intOf]; omega
    · have hkn : k = n := by omega
      subst hkn
      obtain ⟨j, h2, h3⟩ := HEX.out
      obtain ⟨⟨i, hi, hmi⟩, hml⟩ := HM.out
      have e : u = m := by
        have a := hml j (by have := HN.out; omega)
        have b := HALL.out i (by have := HN.out; omega)
        omega
      subst e
      clear h3 hmi hml
      go_wp2_with fail
      go_ret
      exact ⟨rfl, HB.out⟩
end Go.Proofs.Ytkflmhmbkilmpac
namespace Go.Proofs.Ytkflmhmbkilmpac
open Go Go.RowKit
theorem neInfo : (Try.prog.info? 2).map (fun i => (i.zero, i.size, i.bytes)) = some (some (.int .i64 0), 1, 8) := by kernel_rfl
theorem neInfo2 : (Try.prog.info? 33).map (fun i => (i.zero, i.size, i.bytes)) = some (some (.slice none 0 0), 1, 24) := by kernel_rfl
theorem ne_new {w : World} {v : Value} {t : TypeId} : ∀ j u, [v][j]? = some u → (w.alloc (.cells #[v] t)).cell? ((⟨w.heap.size, 0, none⟩ : Addr).add j) = some u := by
  intro j u hj
  match j, hj with
  | 0, hj => simp at hj; subst hj; simp [Addr.add, World.cell?_alloc_new]
theorem ne_empty (w : World) (t : TypeId) : (w.alloc (.cells #[] t)).ownsRow w.heap.size t 1 (.slice (some ⟨w.heap.size, 0, none⟩) 0 0) 0 [] :=
  ⟨by simp, .inr ⟨w.heap.size, 0, #[], rfl, Nat.le_refl _, heap_alloc_new _ _, Nat.le_refl _, by unfold maxLen; omega, by simp, by simp⟩⟩
/-- Row x of the table of a function. -/
def frow (n : Nat) (h : Nat → Nat → Int) (x : Nat) : List Int := (List.range n).map fun (b : Nat) => h x b
theorem frow_length (n : Nat) (h : Nat → Nat → Int) (x : Nat) : (frow n h x).length = n := by simp [frow]
theorem frow_take (n : Nat) (h : Nat → Nat → Int) (x y : Nat) (hy : y < n) : ints ((frow n h x).take y) ++ [.int .i64 (h x y)] = ints ((frow n h x).take (y + 1)) := by
  rw [List.take_succ_eq_append_getElem (by rw [frow_length]; exact hy)]
  simp [ints, frow]
theorem grid_take (n : Nat) (h : Nat → Nat → Int) (x : Nat) (hx : x < n) : (grid n h).take (x + 1) = (grid n h).take x ++ [frow n h x] := by
  rw [List.take_succ_eq_append_getElem (by rw [grid_length]; exact hx)]
  simp [grid, frow]
end Go.Proofs.Ytkflmhmbkilmpac
namespace Go.Proofs.Ytkflmhmbkilmpac
open Go Go.RowKit
set_option maxHeartbeats 1000000

set_option maxRecDepth 100000 in
theorem isPart_any (A : Option Addr) (n c : Nat) (B : Option Addr) (m d : Nat) (xs : List Int) (r : Bool) (w : World) (hn : n ≤ 1048576) (hm : xs.length = m) (hb : m ≤ 1048576) (hr : Rd w B xs) (hres : r = true ↔ m = n ∧ Canon xs) :
    Calls Try.prog 71 #[.agg #[.slice A n c], .slice B m d] w fun e w' => e = .returned (.bool r) ∧ Below w.heap.size w w' := by
  have HM := hide hm
  have HRES := hide hres
  have HR := hide hr
  have HB0 := hide ((Below.refl _ w).alloc (Nat.le_refl _) (Obj.cells #[Value.slice A n c] 26))
  clear hm hres hr
  by_cases hmn : m = n
  · subst hmn
    go_enter Try.func71, Try.ntmps71
    go_wp2_with fail
    go_loopw [5, 16] (fun v i wr => ∃ k : Nat, k ≤ m ∧ v = .int .i64 (nxt xs k) ∧ i = .int .i64 k ∧ Below w.heap.size w wr ∧ ∀ j, j < k → 0 ≤ xs.getD j 0 ∧ xs.getD j 0 ≤ (nxt xs j : Int)) (fun _ i _ => m - (intOf i).toNat)
    case atStart => exact ⟨0, Nat.zero_le _, rfl, rfl, HB0.out, fun j hj => absurd hj (Nat.not_lt_zero _)⟩
    case round =>
      obtain ⟨k, hk, rfl, rfl, hbe, hall⟩ := hrel
      have HB := hide hbe
      have HALL := hide hall
      clear hbe hall
      by_cases hlt : k < m
      · obtain ⟨b, o, rfl, hbw, hc⟩ := HR.out (by have := HM.out; omega)
        have hc1 := (HB.out.cell (p := ⟨b, o + k, none⟩) hbw).trans (hc k (by have := HM.out; omega))
        have hltz : (k : Int) < m := by omega
        have hnk := nxt_le xs k
        obtain ⟨x, hx⟩ : ∃ x, xs.getD k 0 = x := ⟨_, rfl⟩
        have hnx : nxt xs (k + 1) = if x = (nxt xs k : Int) then nxt xs k + 1 else nxt xs k := by rw [← hx]; rfl
        obtain ⟨q, hq⟩ : ∃ q, nxt xs k = q := ⟨_, rfl⟩
        rw [hx] at hc1
        rw [hq] at hnk hnx ⊢
        have HX := hide hx
        have HQ := hide hq
        have HNX := hide hnx
        clear hx hq hc hnx
        by_cases h1 : x < 0
        · have hrf : r = false := by
            cases r
            · rfl
            · exact absurd (by have h := (HRES.out.1 rfl).2 k (by have := HM.out; omega); rw [HX.out] at h; exact h.1) (by omega)
          subst hrf
          go_wp2_with fail
          go_ret
          exact ⟨rfl, HB.out⟩
        · by_cases h2 : (q : Int) < x
          · have hrf : r = false := by
              cases r
              · rfl
              · exact absurd (by have h := (HRES.out.1 rfl).2 k (by have := HM.out; omega); rw [HX.out, HQ.out] at h; exact h.2) (by omega)
            subst hrf
            go_wp2_with fail
            go_ret
            exact ⟨rfl, HB.out⟩
          · by_cases he : x = (q : Int)
            · subst he
              have HN1 : Hid (nxt xs (k + 1) = q + 1) := hide (by rw [HNX.out]; simp)
              go_wp2_with fail
              go_roundw
              case rel => exact ⟨k + 1, by omega, by rw [HN1.out]; go_num, by go_num, HB.out, fun j hj => by
                by_cases e : j = k
                · rw [e, HX.out, HQ.out]; omega
                · exact HALL.out j (by omega)⟩
              case measure => simp [intOf]; omega
            · have hxb : (x == (q : Int)) = false := by simpa using he
              have HN1 : Hid (nxt xs (k + 1) = q) := hide (by rw [HNX.out, if_neg he])
              clear he
              go_wp2_with fail
              go_roundw
              case rel => exact ⟨k + 1, by omega, by rw [HN1.out], by go_num, HB.out, fun j hj => by
                by_cases e : j = k
                · rw [e, HX.out, HQ.out]; omega
                · exact HALL.out j (by omega)⟩
              case measure => simp [intOf]; omega
      · have hkn : k = m := by omega
        subst hkn
        have hrt : r = true := HRES.out.2 ⟨by first | rfl | trivial, fun i hi => HALL.out i (by have := HM.out; omega)⟩
        subst hrt
        go_wp2_with fail
        go_ret
        exact ⟨rfl, HB.out⟩
  · have hrf : r = false := by
      cases r
      · rfl
      · exact absurd (HRES.out.1 rfl).1 hmn
    subst hrf
    have hez : ¬ (m : Int) = (n : Int) := by omega
    have hez2 : ((m : Int) != (n : Int)) = true := by simpa using hez
    go_enter Try.func71, Try.ntmps71
    go_wp2_with fail
    go_ret
    exact ⟨rfl, HB0.out⟩
end Go.Proofs.Ytkflmhmbkilmpac
namespace Go.Proofs.Ytkflmhmbkilmpac
open Go Go.RowKit
theorem nxt_succ (xs : List Int) (i : Nat) : nxt xs (i + 1) = if xs.getD i 0 = (nxt xs i : Int) then nxt xs i + 1 else nxt xs i := rfl
theorem nxt_new {xs : List Int} (h : Canon xs) {i : Nat} (hi : i < xs.length) (e : cl xs i = nxt xs i) : nxt xs (i + 1) = nxt xs i + 1 := by
  rw [nxt_succ, if_pos (by rw [(h.val hi).1, e])]
theorem nxt_old {xs : List Int} (h : Canon xs) {i : Nat} (hi : i < xs.length) (e : cl xs i ≠ nxt xs i) : nxt xs (i + 1) = nxt xs i ∧ cl xs i < nxt xs i := by
  have h1 := h.val hi
  have h2 := h i hi
  refine ⟨?_, by omega⟩
  rw [nxt_succ, if_neg (by rw [h1.1]; omega)]
theorem nxt_has {xs : List Int} (h : Canon xs) (i : Nat) (hi : i ≤ xs.length) (k : Nat) : k < nxt xs i ↔ ∃ j, j < i ∧ cl xs j = k := by
  induction i with
  | zero => exact ⟨fun h => absurd h (Nat.not_lt_zero _), fun ⟨j, hj, _⟩ => absurd hj (Nat.not_lt_zero _)⟩
  | succ i ih =>
    have ih := ih (by omega)
    by_cases e : cl xs i = nxt xs i
    · rw [nxt_new h (by omega) e]
      constructor
      · intro hk
        by_cases e2 : k = nxt xs i
        · exact ⟨i, by omega, by omega⟩
        · obtain ⟨j, hj, h2⟩ := ih.1 (by omega)
          exact ⟨j, by omega, h2⟩
      · rintro ⟨j, hj, h2⟩
        by_cases e2 : j = i
        · subst e2; omega
        · have := ih.2 ⟨j, by omega, h2⟩; omega
    · have ho := nxt_old h (by omega) e
      rw [ho.1]
      constructor
      · intro hk
        obtain ⟨j, hj, h2⟩ := ih.1 hk
        exact ⟨j, by omega, h2⟩
      · rintro ⟨j, hj, h2⟩
        by_cases e2 : j = i
        · subst e2; omega
        · exact ih.2 ⟨j, by omega, h2⟩
/-- The first element of a class. -/
def fstc (xs : List Int) (k : Nat) : Nat := xs.idxOf (k : Int)
theorem fstc_at {xs : List Int} (h : Canon xs) {i : Nat} (hi : i < xs.length) (hno : ∀ j, j < i → cl xs j ≠ cl xs i) : fstc xs (cl xs i) = i ∧ ixOf xs (cl xs i) = i := by
  have hv := (h.val hi).1
  have h1 := ixOf_at xs (cl xs i) i hi hv (by
    intro hm
    obtain ⟨j, hj, e⟩ := List.getElem_of_mem hm
    have hj2 : j < i := by rw [List.length_take] at hj; omega
    have e2 : xs.getD j 0 = (cl xs i : Int) := by
      rw [List.getElem_take] at e
      rw [← e]
      simp [show j < xs.length by omega]
    have h3 := (h.val (i := j) (by omega)).1
    exact hno j hj2 (by omega))
  refine ⟨?_, h1⟩
  unfold ixOf at h1
  have hm : ((cl xs i : Nat) : Int) ∈ xs := by rw [← hv]; simp [hi]
  rw [if_pos hm] at h1
  unfold fstc
  omega
theorem fstc_new {xs : List Int} (h : Canon xs) {i : Nat} (hi : i < xs.length) (e : cl xs i = nxt xs i) : fstc xs (nxt xs i) = i := by
  rw [← e]
  refine (fstc_at h hi fun j hj e2 => ?_).1
  have := (nxt_has h i (by omega) (cl xs i)).2 ⟨j, hj, e2⟩
  omega
theorem fstc_ok {xs : List Int} (h : Canon xs) {k : Nat} (hk : k < nxt xs xs.length) : fstc xs k < xs.length ∧ ixOf xs (k : Int) = fstc xs k := by
  obtain ⟨j, hj, e⟩ := (nxt_has h _ (Nat.le_refl _) k).1 hk
  have hm : ((k : Nat) : Int) ∈ xs := by
    have := (h.val hj).1
    rw [← e, ← this]; simp [hj]
  refine ⟨List.idxOf_lt_length_of_mem hm, ?_⟩
  unfold ixOf fstc
  rw [if_pos hm]
/-- The quotient. -/
def quH (f : List (List Int)) (xs : List Int) : Nat → Nat → Int := fun x y => (cl xs (ap f (fstc xs x) (fstc xs y)) : Int)
def QtRes (f : List (List Int)) (xs : List Int) (zs : List (List Int)) (code : Int) : Prop :=
  ((Rck f ∧ Part f xs) ∧ CgF f xs ∧ zs = grid (nxt xs xs.length) (quH f xs) ∧ code = 0) ∨ ((Rck f ∧ Part f xs) ∧ ¬ CgF f xs ∧ zs = [] ∧ code = 5) ∨ (¬ (Rck f ∧ Part f xs) ∧ zs = [] ∧ code = 1)
theorem QtRes.ex (f : List (List Int)) (xs : List Int) : ∃ zs code, QtRes f xs zs code ∧ zs.length ≤ 1048576 ∧ ∀ i, i < zs.length → (zs.getD i []).length ≤ 1048576 := by
  by_cases h1 : Rck f ∧ Part f xs
  · by_cases h2 : CgF f xs
    · have hl := nxt_le xs xs.length
      have h12 := h1.1.tbl.2.1
      have hp := h1.2.1
      refine ⟨_, _, .inl ⟨h1, h2, rfl, rfl⟩, by rw [grid_length]; omega, fun i hi => ?_⟩
      rw [grid_length] at hi
      rw [grid_row_length _ _ _ hi]; omega
    · exact ⟨_, _, .inr (.inl ⟨h1, h2, rfl, rfl⟩), by simp, by simp⟩
  · exact ⟨_, _, .inr (.inr ⟨h1, rfl, rfl⟩), by simp, by simp⟩
theorem nxt_pos {xs : List Int} (h : Canon xs) (h1 : 1 ≤ xs.length) : 1 ≤ nxt xs xs.length := by
  have := (nxt_has h _ (Nat.le_refl _) (cl xs 0)).2 ⟨0, by omega, rfl⟩
  omega
theorem nxt_max {xs : List Int} (h : Canon xs) (h1 : 1 ≤ xs.length) : IsMax xs ((nxt xs xs.length - 1 : Nat) : Int) := by
  have hp := nxt_pos h h1
  have mem : ∀ j, j < xs.length → cl xs j ≤ nxt xs xs.length - 1 := fun j hj => by
    have := (nxt_has h _ (Nat.le_refl _) (cl xs j)).2 ⟨j, hj, rfl⟩
    omega
  obtain ⟨j, hj, e⟩ := (nxt_has h _ (Nat.le_refl _) (nxt xs xs.length - 1)).1 (by omega)
  exact ⟨⟨j, hj, by rw [(h.val hj).1, e]⟩, fun i hi => by have h2 := mem i hi; have h3 := (h.val hi).1; omega⟩
end Go.Proofs.Ytkflmhmbkilmpac
namespace Go.Proofs.Ytkflmhmbkilmpac
open Go Go.RowKit
theorem quiet_below {P : Program} {F : FuncId} {args : Array Value} {w : World} {v : Ending} (h : Calls P F args w fun e w' => e = v ∧ Quiet w w') : Calls P F args w fun e w' => e = v ∧ Below w.heap.size w w' := h.mono fun _ _ ⟨he, hq⟩ => ⟨he, hq.below _⟩
/-- Strictly increasing. -/
def Incr (xs : List Int) : Prop := ∀ i, 1 ≤ i → i < xs.length → xs.getD (i - 1) 0 < xs.getD i 0
theorem Incr.ge {n : Nat} {xs : List Int} (h : Incr xs) (he : Els n xs) (i : Nat) (hi : i < xs.length) : (i : Int) ≤ xs.getD i 0 := by
  induction i with
  | zero => exact (he 0 hi).1
  | succ i ih =>
    have h1 := ih (by omega)
    have h2 := h (i + 1) (by omega) hi
    rw [show i + 1 - 1 = i by omega] at h2
    omega
theorem Incr.len {n : Nat} {xs : List Int} (h : Incr xs) (he : Els n xs) : xs.length ≤ n := by
  by_cases h0 : xs.length = 0
  · omega
  · have h1 := h.ge he (xs.length - 1) (by omega)
    have h2 := (he (xs.length - 1) (by omega)).2
    omega
def rtH (f : List (List Int)) (xs : List Int) : Nat → Nat → Int := fun x y => ixOf xs (ap f (el xs x) (el xs y) : Nat)
def RtRes (f : List (List Int)) (xs : List Int) (zs : List (List Int)) (code : Int) : Prop :=
  ((Rck f ∧ Els f.length xs ∧ Incr xs) ∧ SubF f (sN xs xs.length) ∧ zs = grid xs.length (rtH f xs) ∧ code = 0) ∨ ((Rck f ∧ Els f.length xs ∧ Incr xs) ∧ ¬ SubF f (sN xs xs.length) ∧ zs = [] ∧ code = 5) ∨ (Rck f ∧ ¬ Els f.length xs ∧ zs = [] ∧ code = 2) ∨ (Rck f ∧ Els f.length xs ∧ ¬ Incr xs ∧ zs = [] ∧ code = 2) ∨ (¬ Rck f ∧ zs = [] ∧ code = 1)
theorem RtRes.ex (f : List (List Int)) (xs : List Int) : ∃ zs code, RtRes f xs zs code ∧ zs.length ≤ 1048576 ∧ ∀ i, i < zs.length → (zs.getD i []).length ≤ 1048576 := by
  by_cases h1 : Rck f
  · by_cases h2 : Els f.length xs
    · by_cases h3 : Incr xs
      · by_cases h4 : SubF f (sN xs xs.length)
        · have hl := h3.len h2
          have h12 := h1.tbl.2.1
          refine ⟨_, _, .inl ⟨⟨h1, h2, h3⟩, h4, rfl, rfl⟩, by rw [grid_length]; omega, fun i hi => ?_⟩
          rw [grid_length] at hi
          rw [grid_row_length _ _ _ hi]; omega
        · exact ⟨_, _, .inr (.inl ⟨⟨h1, h2, h3⟩, h4, rfl, rfl⟩), by simp, by simp⟩
      · exact ⟨_, _, .inr (.inr (.inr (.inl ⟨h1, h2, h3, rfl, rfl⟩))), by simp, by simp⟩
    · exact ⟨_, _, .inr (.inr (.inl ⟨h1, h2, rfl, rfl⟩)), by simp, by simp⟩
  · exact ⟨_, _, .inr (.inr (.inr (.inr ⟨h1, rfl, rfl⟩))), by simp, by simp⟩
theorem ixOf_bounds (xs : List Int) (v : Int) (hn : xs.length ≤ 12) : -1 ≤ ixOf xs v ∧ ixOf xs v ≤ 12 := by
  unfold ixOf
  split
  · have := List.idxOf_le_length (a := v) (l := xs); omega
  · omega
theorem ixOf_ge (xs : List Int) (v : Int) : 0 ≤ ixOf xs v ↔ v ∈ xs := by
  unfold ixOf
  split
  · rename_i h; exact ⟨fun _ => h, fun _ => by omega⟩
  · rename_i h; exact ⟨fun h2 => by omega, fun h2 => absurd h2 h⟩
theorem ixOf_lt (xs : List Int) (v : Int) (h : v ∈ xs) : ixOf xs v < (xs.length : Int) := by
  unfold ixOf
  rw [if_pos h]
  have := List.idxOf_lt_length_of_mem h
  omega
theorem in_list {n : Nat} {xs : List Int} (he : Els n xs) (v : Nat) : (v : Int) ∈ xs ↔ inb (sN xs xs.length) v := by
  rw [sN_in]
  constructor
  · intro h
    obtain ⟨i, hi, e⟩ := List.getElem_of_mem h
    refine ⟨i, hi, ?_⟩
    have h2 := (he.val hi).1
    have h3 : xs.getD i 0 = (v : Int) := by simp [hi, e]
    omega
  · rintro ⟨i, hi, e⟩
    have h2 := (he.val hi).1
    have h3 : xs.getD i 0 = xs[i] := by simp [hi]
    rw [← e, ← h2, h3]
    exact List.getElem_mem hi
/-- The table of the part is a table exactly if the elements are a subrack. -/
theorem rt_iff {f : List (List Int)} {n : Nat} {xs : List Int} (he : Els n xs) (hi : Incr xs) (h12 : n ≤ 12) : Tbl (grid xs.length (rtH f xs)) ↔ SubF f (sN xs xs.length) := by
  have hl := hi.len he
  constructor
  · rintro ⟨h1, _, h3⟩
    rw [grid_length] at h1 h3
    refine ⟨sN_ne (by omega), fun a b ha hb => ?_⟩
    obtain ⟨i, hi', rfl⟩ := (sN_in _ _ _).1 ha
    obtain ⟨j, hj', rfl⟩ := (sN_in _ _ _).1 hb
    have h4 := (h3 i hi').2 j hj'
    rw [grid_at _ _ _ _ hi' hj'] at h4
    exact (in_list he _).1 ((ixOf_ge _ _).1 h4.1)
  · rintro ⟨h0, hc⟩
    have hpos : 1 ≤ xs.length := by
      by_cases e : xs.length = 0
      · rw [e] at h0; exact absurd rfl h0
      · omega
    refine ⟨by rw [grid_length]; exact hpos, by rw [grid_length]; omega, fun i hi' => ?_⟩
    rw [grid_length] at hi' ⊢
    refine ⟨grid_row_length _ _ _ hi', fun j hj => ?_⟩
    rw [grid_at _ _ _ _ hi' hj]
    have hm : ((ap f (el xs i) (el xs j) : Nat) : Int) ∈ xs := (in_list he _).2 (hc _ _ ((sN_in _ _ _).2 ⟨i, hi', rfl⟩) ((sN_in _ _ _).2 ⟨j, hj, rfl⟩))
    exact ⟨(ixOf_ge _ _).2 hm, ixOf_lt _ _ hm⟩
theorem rt_iff2 {f : List (List Int)} {n m : Nat} {xs : List Int} (he : Els n xs) (hi : Incr xs) (h12 : n ≤ 12) (hm : xs.length = m) : Tbl (grid m (rtH f xs)) ↔ SubF f (sN xs m) := by
  subst hm
  exact rt_iff he hi h12
end Go.Proofs.Ytkflmhmbkilmpac
namespace Go.Proofs.Ytkflmhmbkilmpac
open Go Go.RowKit
set_option maxHeartbeats 2000000

set_option maxRecDepth 100000 in
theorem qtC_any (A : Option Addr) (n c : Nat) (f : List (List Int)) (B : Option Addr) (m d : Nat) (xs : List Int) (ba bb : Nat) (w : World) (hn : f.length = n) (ht : Tbl f) (hr : Rd2 w A f) (hm : xs.length = m) (hmn : m = n) (hx : Rd w B xs) (hcn : Canon xs) (K : Nat) (hK : nxt xs m = K)
    (hk1 : Blk w ba 26 [.slice A n c]) (hk2 : Blk w bb 33 [.slice B m d]) :
    CellFn Try.prog 75 #[.pointer (some ⟨bb, 0, none⟩), .pointer (some ⟨ba, 0, none⟩)] K (quH f xs) w := by
  intro W x y hxm hym hb
  have h1 : 1 ≤ n := by rw [← hn]; exact ht.1
  have h12 : n ≤ 12 := by rw [← hn]; exact ht.2.1
  obtain ⟨b, o, hB, hbw, hc⟩ := hx (by omega)
  subst hB
  have HRA := hide (hr.later hb)
  have HKa := hide (hk1.later hb)
  have HKb := hide (hk2.later hb)
  have HT := hide ht
  have HN := hide hn
  have HM := hide hm
  have HRX : Hid (Rd W (some ⟨b, o, none⟩) xs) := hide (hx.later hb)
  have hbW : b < W.heap.size := Nat.lt_of_lt_of_le hbw hb.size
  have fx := fstc_ok hcn (k := x) (by rw [hm, hK]; exact hxm)
  have fy := fstc_ok hcn (k := y) (by rw [hm, hK]; exact hym)
  have hxK : x < m := Nat.lt_of_lt_of_le hxm (hK ▸ nxt_le xs m)
  have hyK : y < m := Nat.lt_of_lt_of_le hym (hK ▸ nxt_le xs m)
  unfold quH
  obtain ⟨xa, hxa⟩ : ∃ a, fstc xs x = a := ⟨_, rfl⟩
  obtain ⟨ya, hya⟩ : ∃ a, fstc xs y = a := ⟨_, rfl⟩
  rw [hxa] at fx ⊢
  rw [hya] at fy ⊢
  rw [hm] at fx fy
  have hxn : xa < n := by omega
  have hyn : ya < n := by omega
  have hvn := ht.ap_lt hn hxn hyn
  obtain ⟨v, hve⟩ : ∃ a, ap f xa ya = a := ⟨_, rfl⟩
  rw [hve] at hvn ⊢
  have HU := hide hve
  have hcv := hcn.val (i := v) (by omega)
  have c1 := (hb.cell (p := ⟨b, o + v, none⟩) hbw).trans (hc v (by omega))
  rw [hcv.1] at c1
  obtain ⟨u, hu⟩ : ∃ a, cl xs v = a := ⟨_, rfl⟩
  rw [hu] at c1 ⊢
  have HC1 := hide c1
  have HFX := hide fx.2
  have HFY := hide fy.2
  have hvz : (v : Int) < m := by omega
  have e1 : IntKind.i64.wrap (xa : Int) = (xa : Int) := IntWalk.i64_in _ (by omega)
  have e2 : IntKind.i64.wrap (ya : Int) = (ya : Int) := IntWalk.i64_in _ (by omega)
  have hm12 : m ≤ 12 := by omega
  clear hr hk1 hk2 hb hn hm ht hx hc hcn hve hxa hya fx fy hcv c1 hu hxm hym hK hmn
  show Calls Try.prog 75 #[.int .i64 x, .int .i64 y, .pointer (some ⟨bb, 0, none⟩), .pointer (some ⟨ba, 0, none⟩)] W _
  go_enter Try.func75, Try.ntmps75
  go_upto_region 1 with fail
  refine wp_gen fun w1 hw1 => ?_
  have HBc : Hid (Below W.heap.size W w1) := hide (by rw [hw1]; exact Below.refl _ _)
  replace HKa : Hid (Blk w1 ba 26 [.slice A n c]) := hide (by rw [hw1]; exact HKa.out)
  replace HKb : Hid (Blk w1 bb 33 [.slice (some ⟨b, o, none⟩) m d]) := hide (by rw [hw1]; exact HKb.out)
  clear hw1
  have k0 := HKa.out.cell 0 _ rfl
  have k1 := HKb.out.cell 0 _ rfl
  have c1 := (HBc.out.cell (p := ⟨b, o + v, none⟩) hbW).trans HC1.out
  have tok0 : True := trivial

  go_region_held3 (fun w' => w'.cell? ⟨bb, 0, none⟩ = some (.slice (some ⟨b, o, none⟩) m d)) (first | exact k1 | go_keep) (first | (go_at_call 68; have _t := tok0; clear _t tok0; go_must (refine calls_gen fun wc hwc => ?_; (first | have hbx := drew_below hwc | have hbx := eq_below hwc); replace HBc := hide (HBc.out.trans (hbx.mono HBc.out.size)); replace HKa := hide (HKa.out.later hbx); replace HKb := hide (HKb.out.later hbx); clear hwc hbx; refine (quiet_below (indexI_any _ m _ xs x _ HM.out (by omega) (HRX.out.later HBc.out))).mono ?_; rintro e wd ⟨rfl, hbd⟩; rw [HFX.out]; replace HBc := hide (HBc.out.trans (hbd.mono HBc.out.size)); replace HKa := hide (HKa.out.later hbd); replace HKb := hide (HKb.out.later hbd); clear hbd; have k0 := HKa.out.cell 0 _ rfl; have k1 := HKb.out.cell 0 _ rfl; have c1 := (HBc.out.cell (p := ⟨b, o + v, none⟩) hbW).trans HC1.out)) | (go_at_call 68; go_must (refine calls_gen fun wc hwc => ?_; (first | have hbx := drew_below hwc | have hbx := eq_below hwc); replace HBc := hide (HBc.out.trans (hbx.mono HBc.out.size)); replace HKa := hide (HKa.out.later hbx); replace HKb := hide (HKb.out.later hbx); clear hwc hbx; refine (quiet_below (indexI_any _ m _ xs y _ HM.out (by omega) (HRX.out.later HBc.out))).mono ?_; rintro e wd ⟨rfl, hbd⟩; rw [HFY.out]; replace HBc := hide (HBc.out.trans (hbd.mono HBc.out.size)); replace HKa := hide (HKa.out.later hbd); replace HKb := hide (HKb.out.later hbd); clear hbd; have k0 := HKa.out.cell 0 _ rfl; have k1 := HKb.out.cell 0 _ rfl; have c1 := (HBc.out.cell (p := ⟨b, o + v, none⟩) hbW).trans HC1.out)))
  all_goals
    clear k0 k1 c1
    go_upto_region 2 with fail
    have k0 := HKa.out.cell 0 _ rfl
    have k1 := HKb.out.cell 0 _ rfl
    have c1 := (HBc.out.cell (p := ⟨b, o + v, none⟩) hbW).trans HC1.out
    go_region_held3 (fun w' => w'.cell? ⟨ba, 0, none⟩ = some (.slice A n c) ∧ w'.cell? ⟨bb, 0, none⟩ = some (.slice (some ⟨b, o, none⟩) m d) ∧ w'.cell? ⟨b, o + v, none⟩ = some (.int .i64 u)) (first | exact ⟨k0, k1, c1⟩ | go_keep) (first | (go_at_call 51; go_must (refine calls_gen fun wc hwc => ?_; (first | have hbx := drew_below hwc | have hbx := eq_below hwc); replace HBc := hide (HBc.out.trans (hbx.mono HBc.out.size)); replace HKa := hide (HKa.out.later hbx); replace HKb := hide (HKb.out.later hbx); clear hwc hbx; refine (act_any _ _ _ f xa ya v _ HN.out HT.out (HRA.out.later HBc.out) hxn hyn HU.out).mono ?_; rintro e wd ⟨rfl, hbd⟩; replace HBc := hide (HBc.out.trans (hbd.mono HBc.out.size)); replace HKa := hide (HKa.out.later hbd); replace HKb := hide (HKb.out.later hbd); clear hbd; have k0 := HKa.out.cell 0 _ rfl; have k1 := HKb.out.cell 0 _ rfl; have c1 := (HBc.out.cell (p := ⟨b, o + v, none⟩) hbW).trans HC1.out)))
    all_goals clear k0 k1 c1
    all_goals go_wp2_with fail
    all_goals go_ret
    all_goals exact ⟨rfl, HBc.out⟩
end Go.Proofs.Ytkflmhmbkilmpac
namespace Go.Proofs.Ytkflmhmbkilmpac
open Go Go.RowKit
set_option maxHeartbeats 4000000

set_option maxRecDepth 100000 in
theorem l04Quot_any (A : Option Addr) (n c : Nat) (f : List (List Int)) (B : Option Addr) (m d : Nat) (xs : List Int) (w : World) (hn : f.length = n) (ht : Tbl f) (hr : Rd2 w A f) (hm : xs.length = m) (hx : Rd w B xs) (hp : Part f xs) (K : Nat) (hK : nxt xs m = K) :
    Calls Try.prog 73 #[.slice A n c, .slice B m d] w fun e w' => ∃ A' c', e = .returned (.slice A' K c') ∧ Below w.heap.size w w' ∧ Obj2 33 2 w.heap.size w'.heap.size w' A' (grid K (quH f xs)) := by
  have h1 : 1 ≤ n := by rw [← hn]; exact ht.1
  have h12 : n ≤ 12 := by rw [← hn]; exact ht.2.1
  have hmn : m = n := by rw [← hm, hp.1, hn]
  subst hmn
  obtain ⟨b, o, hB, hbw, hc⟩ := hx (by omega)
  subst hB
  obtain ⟨bt, ot, hA, hbt, hct⟩ := ht.cells hr hn
  subst hA
  have HC : Hid (∀ i : Nat, i < m → w.cell? ⟨b, o + i, none⟩ = some (.int .i64 (cl xs i)) ∧ cl xs i < m) := hide (fun i hi => by
    have h := hp.2.val (i := i) (by omega)
    rw [hm] at h
    exact ⟨by rw [← h.1]; exact hc i (by omega), h.2⟩)
  have HT := hide hct
  have HN := hide hn
  have HM := hide hm
  have HTB := hide ht
  have HCN := hide hp.2
  have hKm : K ≤ m := by rw [← hK]; exact nxt_le xs m
  have HK := hide hK
  obtain ⟨H, hH⟩ : ∃ H, quH f xs = H := ⟨_, rfl⟩
  rw [hH]
  have HH := hide hH
  clear hn ht hr hm hp hc hct hx hK hH
  have HNL : Hid (∀ i, i ≤ m → nxt xs i ≤ K) := hide (fun i hi => by rw [← HK.out]; exact nxt_mono xs i m hi)
  obtain ⟨i0, hi, hz0, hz1, hz2⟩ := info_parts neInfo
  obtain ⟨i2, hj, hy0, hy1, hy2⟩ := info_parts neInfo2
  go_enter Try.func73, Try.ntmps73
  go_wp2_with fail
  go_loopw [5, 6] (fun v i wr => ∃ (x : Nat) (vals : List Value), x ≤ m ∧ i = .int .i64 x ∧ Below w.heap.size w wr ∧ LstV 33 2 w.heap.size wr v ((grid K H).take (nxt xs x)) vals ∧ w.heap.size ≤ wr.heap.size) (fun _ i _ => m - (intOf i).toNat)
  case atStart => exact ⟨0, [], Nat.zero_le _, rfl, (Below.refl _ _).alloc (Nat.le_refl _) _, by simpa [nxt] using LstV.start w _ _, by simp⟩
  case round =>
    obtain ⟨x, vals, hx, rfl, hbe, hlst, hsz⟩ := hrel
    have HB := hide hbe
    have HL := hide hlst
    clear hbe hlst
    by_cases hlt : x < m
    · have hxz : (x : Int) < m := by omega
      have hkx := HNL.out x (by omega)
      have HTM : Hid (((grid K H).take (nxt xs x)).length = nxt xs x) := hide (by rw [List.length_take, grid_length]; omega)
      obtain ⟨Ao, co, hvo, _⟩ := HL.out.shape
      rw [HTM.out] at hvo
      subst hvo
      have hcx := (HC.out x hlt).1
      have hcm := (HC.out x hlt).2
      obtain ⟨a, ha⟩ : ∃ a, cl xs x = a := ⟨_, rfl⟩
      rw [ha] at hcx hcm
      have c0 := (HB.out.cell (p := ⟨b, o + x, none⟩) hbw).trans hcx
      have HA := hide ha
      have hnn : Hid (x < xs.length) := hide (by have := HM.out; omega)
      have hnew : a = nxt xs x → nxt xs (x + 1) = nxt xs x + 1 ∧ fstc xs (nxt xs x) = x := fun e => ⟨nxt_new HCN.out hnn.out (by rw [HA.out]; exact e), fstc_new HCN.out hnn.out (by rw [HA.out]; exact e)⟩
      have hold : a ≠ nxt xs x → nxt xs (x + 1) = nxt xs x ∧ a < nxt xs x := fun e => by have h := nxt_old HCN.out hnn.out (by rw [HA.out]; exact e); rw [HA.out] at h; exact h
      have hk1 := HNL.out (x + 1) (by omega)
      obtain ⟨q, hq⟩ : ∃ q, nxt xs x = q := ⟨_, rfl⟩
      rw [hq] at hnew hold hkx HTM HL ⊢
      have HQ := hide hq
      clear ha hcx hq
      by_cases he : a = q
      · have hn1 := (hnew he).1
        rw [hn1] at hk1
        have HN1 := hide hn1
        have HFS := hide (hnew he).2
        have hql : q < K := by omega
        have haz : ¬ (a : Int) < q := by omega
        clear hnew hold hn1 he
        go_wp2_with fail
        clear c0
        obtain ⟨wo, rfl⟩ : ∃ wo : World, wo = wr := ⟨_, rfl⟩
        go_loopw [7, 8] (fun v i wi => ∃ y : Nat, y ≤ m ∧ i = .int .i64 y ∧ Below wo.heap.size wo wi ∧ wo.heap.size < wi.heap.size ∧ wi.ownsRow wo.heap.size 2 1 v (nxt xs y) (ints ((frow K H q).take (nxt xs y)))) (fun _ i _ => m - (intOf i).toNat)
        case atStart => exact ⟨0, Nat.zero_le _, rfl, (Below.refl _ _).alloc (Nat.le_refl _) _, by simp, by simpa [ints, nxt] using ne_empty wo _⟩
        case round =>
          obtain ⟨y, hy, rfl, hbi, hsi2, hoi⟩ := hrel
          have HBI := hide hbi
          have HOI := hide hoi
          clear hbi hoi
          by_cases hlty : y < m
          · have hyz : (y : Int) < m := by omega
            have HBW := hide (HB.out.trans (HBI.out.mono HB.out.size))
            have hky := HNL.out y (by omega)
            have hky1 := HNL.out (y + 1) (by omega)
            obtain ⟨Ar, cr, hvr, _⟩ := own_shape HOI.out
            subst hvr
            have hcy := (HC.out y hlty).1
            obtain ⟨a2, ha2⟩ : ∃ a, cl xs y = a := ⟨_, rfl⟩
            rw [ha2] at hcy
            have c0 := (HBW.out.cell (p := ⟨b, o + y, none⟩) hbw).trans hcy
            have HA2 := hide ha2
            have hnn2 : Hid (y < xs.length) := hide (by have := HM.out; omega)
            have hnew : a2 = nxt xs y → nxt xs (y + 1) = nxt xs y + 1 ∧ fstc xs (nxt xs y) = y := fun e => ⟨nxt_new HCN.out hnn2.out (by rw [HA2.out]; exact e), fstc_new HCN.out hnn2.out (by rw [HA2.out]; exact e)⟩
            have hold : a2 ≠ nxt xs y → nxt xs (y + 1) = nxt xs y := fun e => (nxt_old HCN.out hnn2.out (by rw [HA2.out]; exact e)).1
            have hymx := nxt_le xs y
            obtain ⟨p, hpq⟩ : ∃ p, nxt xs y = p := ⟨_, rfl⟩
            rw [hpq] at hnew hold hky HOI hymx ⊢
            clear ha2 hcy hpq
            by_cases he2 : a2 = p
            · subst he2
              have hn2 := (hnew rfl).1
              have hf2 := (hnew rfl).2
              rw [hn2] at hky1
              have HN2 := hide hn2
              have hs1 := HTB.out.ap_lt HN.out hlt hlty
              obtain ⟨bx, ox, cx, rx, lx, gx⟩ := HT.out x hlt
              have t1 := gx y hlty
              obtain ⟨s1, e1⟩ : ∃ u, ap f x y = u := ⟨_, rfl⟩
              rw [e1] at t1 hs1
              have d1 := (HC.out s1 hs1).1
              have hpr : H q a2 = (cl xs s1 : Int) := by rw [← HH.out]; unfold quH; rw [HFS.out, hf2, e1]
              obtain ⟨v1, f1⟩ : ∃ u, cl xs s1 = u := ⟨_, rfl⟩
              rw [f1] at d1 hpr
              have HCELL := hide hpr
              replace rx := (HBW.out.cell (p := ⟨bt, ot + x, none⟩) hbt).trans rx
              replace t1 := (HBW.out.cell (p := ⟨bx, ox + y, none⟩) lx).trans t1
              replace d1 := (HBW.out.cell (p := ⟨b, o + s1, none⟩) hbw).trans d1
              have z1 : (s1 : Int) < m := by omega
              have hpl : a2 < K := by omega
              clear gx e1 f1 hpr hnew hold hf2 hn2
              go_wp2_with (at_builtin; refine wpList_append_own _ rfl _ _ 33 rfl wo.heap.size 2 i0 (.int .i64 0) 1 8 Try.underlying33 hi hz0 hz1 hz2 rfl (by decide) _ _ _ rfl (HOI.out.alloc _) ⟨wr.heap.size, 0, none⟩ 1 1 [.int .i64 (v1 : Int)] rfl rfl ?a1 ?a2 ?a3 ?a4 ?a5 ?_)
              try (case a1 => exact ne_new)
              try (case a2 => first | rfl | (intro u hu; simp at hu; subst hu; rfl))
              try (case a3 => first | omega | (unfold maxLen; omega))
              try (case a4 => omega)
              try (case a5 => first | omega | (simp; omega))
              intro v' w3 hown' hgrow _
              have HO3 := hide hown'
              have HB3 : Hid (Below wo.heap.size wo w3) := hide ((HBI.out.alloc HBI.out.size _).grown hgrow (by have := HBI.out.size; simp; omega) (fun g hg => ((HOI.out.alloc (.cells #[.int .i64 (v1 : Int)] 2)).lt g hg).1))
              have hs3 : wo.heap.size < w3.heap.size := by have := hgrow.size; simp at this; omega
              clear hown' hgrow
              go_wp2_with fail
              go_roundw
              case rel => exact ⟨y + 1, by omega, by go_num, HB3.out, hs3, by have h := HO3.out; rw [← HCELL.out, frow_take _ _ _ _ hpl] at h; rw [HN2.out]; exact h⟩
              case measure => simp [intOf]; omega
            · have hne : ((a2 : Int) == (p : Int)) = false := by simpa using fun h => he2 (by omega)
              have HN2 := hide (hold he2)
              clear hnew hold he2
              go_wp2_with fail
              go_roundw
              case rel => exact ⟨y + 1, by omega, by go_num, HBI.out, hsi2, by rw [HN2.out]; exact HOI.out⟩
              case measure => simp [intOf]; omega
          · have hyn : y = m := by omega
            subst hyn
            rw [HK.out] at HOI
            obtain ⟨A2, c2, hv2, hres2⟩ := own_shape HOI.out
            subst hv2
            have HRO := hide hres2.obj
            have HL3 := hide (HL.out.later HBI.out)
            have HRL : Hid ((frow K H q).length = K) := hide (frow_length _ _ _)
            have HTK : Hid ((frow K H q).take K = frow K H q) := hide (List.take_of_length_le (by rw [HRL.out]; exact Nat.le_refl _))
            have HOW2 : Hid (wr.ownsRow w.heap.size 33 1 (.slice Ao q co) q vals) := hide (by have h := HL3.out.own; rw [HTM.out] at h; exact h)
            have hs3 : w.heap.size ≤ wr.heap.size := by have := HBI.out.size; omega
            clear hres2
            go_wp2_with (at_builtin; refine wpList_append_own _ rfl _ _ 22 rfl w.heap.size 33 i2 (.slice none 0 0) 1 24 Try.underlying22 hj hy0 hy1 hy2 rfl (by decide) _ _ _ rfl (HOW2.out.alloc _) ⟨wr.heap.size, 0, none⟩ 1 1 [.slice A2 K c2] rfl rfl ?p1 ?p2 ?p3 ?p4 ?p5 ?_)
            try (case p1 => exact ne_new)
            try (case p2 => first | rfl | (intro u hu; simp at hu; subst hu; rfl))
            try (case p3 => first | omega | (unfold maxLen; omega))
            try (case p4 => omega)
            try (case p5 => first | omega | (simp; omega))
            intro v' w7 hown7 hgrow7 _
            have HO7 := hide hown7
            have HG7 := hide hgrow7
            clear hown7 hgrow7
            go_wp2_with fail
            go_roundw
            case rel =>
              have hB7 : Below w.heap.size w w7 := ((HB.out.trans (HBI.out.mono HB.out.size)).alloc hs3 _).grown HG7.out (by simp; omega) (fun g hg => (HOW2.out.alloc (.cells #[.slice A2 K c2] 33)).lt g hg |>.1)
              have hpush := LstV.push (tmp := .cells #[.slice A2 K c2] 33) (A := A2) (c := c2) (r := frow K H q) (w1 := w7) (v' := v') (by decide) hsz HL.out HBI.out (by have h := HRO.out; rw [HTK.out] at h; exact h) (by rw [HTM.out, HRL.out]; exact HO7.out) HG7.out
              refine ⟨x + 1, vals ++ [.slice A2 (frow K H q).length c2], by omega, by go_num, hB7, ?_, by have := hB7.size; omega⟩
              rw [HN1.out, grid_take _ _ _ hql]
              exact hpush
            case measure => simp [intOf]; omega
      · have ho := hold he
        have hn1 := ho.1
        have HN1 := hide hn1
        have haz : (a : Int) < q := by have := ho.2; omega
        clear hnew hold he ho hn1
        go_wp2_with fail
        go_roundw
        case rel => exact ⟨x + 1, vals, by omega, by go_num, HB.out, by rw [HN1.out]; exact HL.out, hsz⟩
        case measure => simp [intOf]; omega
    · have hxn : x = m := by omega
      subst hxn
      go_wp2_with fail
      have h := HL.out
      rw [HK.out, List.take_of_length_le (by rw [grid_length]; exact Nat.le_refl _)] at h
      go_ret
      obtain ⟨A', c', hv, hobj⟩ := h.shape
      rw [grid_length] at hv
      exact ⟨A', c', by rw [← hv]; rfl, HB.out, hobj⟩
end Go.Proofs.Ytkflmhmbkilmpac
namespace Go.Proofs.Ytkflmhmbkilmpac
open Go Go.RowKit
set_option maxHeartbeats 2000000

set_option maxRecDepth 100000 in
theorem qtI_any (A : Option Addr) (n c : Nat) (f : List (List Int)) (B : Option Addr) (m d : Nat) (xs : List Int) (zs : List (List Int)) (code : Int) (k : Nat) (w : World) (hn : f.length = n) (hb : n ≤ 1048576) (hbs : ∀ i, i < f.length → (f.getD i []).length ≤ 1048576) (hr : Rd2 w A f) (hm : xs.length = m) (hbm : m ≤ 1048576) (hx : Rd w B xs) (hres : QtRes f xs zs code) (hk : zs.length = k) :
    Calls Try.prog 34 #[.agg #[.slice A n c], .slice B m d] w (fun e w' => ∃ A' c', e = .returned (.tuple #[.agg #[.slice A' k c'], .int .i64 code]) ∧ Below w.heap.size w w' ∧ Obj2 33 2 w.heap.size w'.heap.size w' A' zs) := by
  have HN := hide hn
  have HBS := hide hbs
  have HRD := hide hr
  have HM := hide hm
  have HX := hide hx
  clear hbs hr hx
  rcases hres with ⟨⟨h1, h2⟩, h3, rfl, rfl⟩ | ⟨⟨h1, h2⟩, h3, rfl, rfl⟩ | ⟨hno, rfl, rfl⟩
  · have HTB := hide h1.tbl
    have h1n : 1 ≤ n := by rw [← hn]; exact h1.tbl.1
    have h12 : n ≤ 12 := by rw [← hn]; exact h1.tbl.2.1
    have HP := hide h2
    have hmn : m = n := by rw [← hm, h2.1, hn]
    have h1m : 1 ≤ m := by omega
    have h12m : m ≤ 12 := by omega
    have HMN := hide hmn
    have HPP : Hid (m = n ∧ Canon xs) := hide ⟨hmn, h2.2⟩
    have HCD : Hid (CdRes f xs 0) := hide (.inl ⟨h1, h2, rfl⟩)
    have HRK : Hid (RkRes f true) := hide (by unfold RkRes; simp [h1])
    have HCG := hide h3
    have hkk : nxt xs m = k := by rw [← hk, grid_length, hm]
    have hk1 : 1 ≤ k := by rw [← hkk, ← hm]; exact nxt_pos h2.2 (by omega)
    have hkm : k ≤ m := by rw [← hkk]; exact nxt_le xs m
    have HMX : Hid (IsMax xs ((k - 1 : Nat) : Int)) := hide (by rw [← hkk, ← hm]; exact nxt_max h2.2 (by omega))
    have hkz : ((k - 1 : Nat) : Int) + 1 = (k : Int) := by omega
    obtain ⟨k', hk'⟩ : ∃ a, k - 1 = a := ⟨_, rfl⟩
    rw [hk'] at HMX hkz
    rw [hm, hkk]
    have HKK := hide hkk
    clear hn hm hk h1 h2 h3 hk' hkk hmn
    go_enter Try.func34, Try.ntmps34
    go_wp2_with fail
    refine calls_gen fun wd hw0 => ?_
    have HB : Hid (Below w.heap.size w wd) := hide (by rw [hw0]; exact (((Below.refl _ _).alloc (Nat.le_refl _) _).alloc (by simp) _).alloc (by simp; omega) _)
    have HK : Hid (Blk wd w.heap.size 26 [.slice A n c]) := hide (by rw [hw0]; exact ((Blk.new _ _ _).alloc _).alloc _)
    have HL : Hid (Blk wd (w.heap.size + 1) 33 [.slice B m d]) := hide (by rw [hw0]; have h := (Blk.new (w.alloc (Obj.cells #[.slice A n c] 26)) 33 [.slice B m d]).alloc (Obj.cells #[.slice none 0 0] 26); simpa using h)
    have HR : Hid (Blk wd (w.heap.size + 1 + 1) 26 [.slice none 0 0]) := hide (by rw [hw0]; have h := Blk.new ((w.alloc (Obj.cells #[.slice A n c] 26)).alloc (Obj.cells #[.slice B m d] 33)) 26 [.slice none 0 0]; simpa using h)
    clear hw0
    refine (isRackI _ _ _ f true _ HN.out hb HBS.out (HRD.out.later HB.out) HRK.out).mono ?_
    rintro e wd ⟨rfl, hbd⟩
    replace HB := hide (HB.out.trans (hbd.mono HB.out.size))
    replace HK := hide (HK.out.later hbd)
    replace HL := hide (HL.out.later hbd)
    replace HR := hide (HR.out.later hbd)
    clear hbd
    have k0 := HK.out.cell 0 _ rfl
    have k1 := HL.out.cell 0 _ rfl
    go_wp2_with fail
    clear k0 k1
    refine (isPart_any _ n _ _ _ _ xs true _ hb HM.out hbm (HX.out.later HB.out) (by simp [HPP.out.2]; exact HPP.out.1)).mono ?_
    rintro e wd ⟨rfl, hbd⟩
    replace HB := hide (HB.out.trans (hbd.mono HB.out.size))
    replace HK := hide (HK.out.later hbd)
    replace HL := hide (HL.out.later hbd)
    replace HR := hide (HR.out.later hbd)
    clear hbd
    have k0 := HK.out.cell 0 _ rfl
    have k1 := HL.out.cell 0 _ rfl
    go_wp2_with fail
    clear k0 k1
    refine (hasCg_any _ _ _ f _ _ _ xs true _ HN.out HTB.out (HRD.out.later HB.out) HM.out (HX.out.later HB.out) HP.out (by simp [HCG.out])).mono ?_
    rintro e wd ⟨rfl, hbd⟩
    replace HB := hide (HB.out.trans (hbd.mono HB.out.size))
    replace HK := hide (HK.out.later hbd)
    replace HL := hide (HL.out.later hbd)
    replace HR := hide (HR.out.later hbd)
    clear hbd
    have k0 := HK.out.cell 0 _ rfl
    have k1 := HL.out.cell 0 _ rfl
    go_wp2_with fail
    clear k0 k1
    refine (max_any _ m _ xs (k' : Int) _ HM.out (by omega) hbm (HX.out.later HB.out) HMX.out).mono ?_
    rintro e wd ⟨rfl, hbd⟩
    replace HB := hide (HB.out.trans (hbd.mono HB.out.size))
    replace HK := hide (HK.out.later hbd)
    replace HL := hide (HL.out.later hbd)
    replace HR := hide (HR.out.later hbd)
    clear hbd
    go_wp2_with fail
    refine (rackOf_any 75 _ k (quH f xs) _ (enters_of Try.func75 (by kernel_rfl) rfl) hk1 (by omega) (qtC_any _ n _ f _ m _ xs w.heap.size (w.heap.size + 1) _ HN.out HTB.out (HRD.out.later HB.out) HM.out HMN.out (HX.out.later HB.out) HPP.out.2 k HKK.out HK.out HL.out)).mono ?_
    rintro e we ⟨A3, c3, rfl, hbd, ho3⟩
    have HO3 := hide ho3
    have hlow : w.heap.size + 1 + 1 < wd.heap.size := HR.out.lt
    replace HB := hide (HB.out.trans (hbd.mono HB.out.size))
    replace HR := hide (HR.out.later hbd)
    clear hbd ho3
    have k2 := fun o => (HR.out.alloc o).cell 0 _ rfl
    have k3 := fun o => (HR.out.alloc o).frozen 0
    go_wp2_with fail
    refine bp_gen fun wf hwf => ?_
    obtain ⟨q0, hbf, hof⟩ := kend hwf (HR.out.alloc _) (by omega) (HB.out.alloc HB.out.size _) (HO3.out.later ((Below.refl _ _).alloc (Nat.le_refl _) _)) (by omega) hlow (by simp)
    clear hwf k2 k3
    exact bodyPost_ret (v := .tuple #[.agg #[.slice A3 k c3], .int .i64 0]) (by simp [results, Try.results34, go_sem, q0]) rfl ⟨_, _, rfl, hbf, hof⟩
  · have HTB := hide h1.tbl
    have h1n : 1 ≤ n := by rw [← hn]; exact h1.tbl.1
    have h12 : n ≤ 12 := by rw [← hn]; exact h1.tbl.2.1
    have HP := hide h2
    have hmn : m = n := by rw [← hm, h2.1, hn]
    have h1m : 1 ≤ m := by omega
    have h12m : m ≤ 12 := by omega
    have HMN := hide hmn
    have HPP : Hid (m = n ∧ Canon xs) := hide ⟨hmn, h2.2⟩
    have HCD : Hid (CdRes f xs 0) := hide (.inl ⟨h1, h2, rfl⟩)
    have HRK : Hid (RkRes f true) := hide (by unfold RkRes; simp [h1])
    have hk0 : k = 0 := by rw [← hk]; rfl
    subst hk0
    have HCG := hide h3
    clear hn hm hk h1 h2 h3 hmn
    go_enter Try.func34, Try.ntmps34
    go_wp2_with fail
    refine calls_gen fun wd hw0 => ?_
    have HB : Hid (Below w.heap.size w wd) := hide (by rw [hw0]; exact (((Below.refl _ _).alloc (Nat.le_refl _) _).alloc (by simp) _).alloc (by simp; omega) _)
    have HK : Hid (Blk wd w.heap.size 26 [.slice A n c]) := hide (by rw [hw0]; exact ((Blk.new _ _ _).alloc _).alloc _)
    have HL : Hid (Blk wd (w.heap.size + 1) 33 [.slice B m d]) := hide (by rw [hw0]; have h := (Blk.new (w.alloc (Obj.cells #[.slice A n c] 26)) 33 [.slice B m d]).alloc (Obj.cells #[.slice none 0 0] 26); simpa using h)
    have HR : Hid (Blk wd (w.heap.size + 1 + 1) 26 [.slice none 0 0]) := hide (by rw [hw0]; have h := Blk.new ((w.alloc (Obj.cells #[.slice A n c] 26)).alloc (Obj.cells #[.slice B m d] 33)) 26 [.slice none 0 0]; simpa using h)
    clear hw0
    refine (isRackI _ _ _ f true _ HN.out hb HBS.out (HRD.out.later HB.out) HRK.out).mono ?_
    rintro e wd ⟨rfl, hbd⟩
    replace HB := hide (HB.out.trans (hbd.mono HB.out.size))
    replace HK := hide (HK.out.later hbd)
    replace HL := hide (HL.out.later hbd)
    replace HR := hide (HR.out.later hbd)
    clear hbd
    have k0 := HK.out.cell 0 _ rfl
    have k1 := HL.out.cell 0 _ rfl
    go_wp2_with fail
    clear k0 k1
    refine (isPart_any _ n _ _ _ _ xs true _ hb HM.out hbm (HX.out.later HB.out) (by simp [HPP.out.2]; exact HPP.out.1)).mono ?_
    rintro e wd ⟨rfl, hbd⟩
    replace HB := hide (HB.out.trans (hbd.mono HB.out.size))
    replace HK := hide (HK.out.later hbd)
    replace HL := hide (HL.out.later hbd)
    replace HR := hide (HR.out.later hbd)
    clear hbd
    have k0 := HK.out.cell 0 _ rfl
    have k1 := HL.out.cell 0 _ rfl
    go_wp2_with fail
    clear k0 k1
    refine (hasCg_any _ _ _ f _ _ _ xs false _ HN.out HTB.out (HRD.out.later HB.out) HM.out (HX.out.later HB.out) HP.out (by simp [HCG.out])).mono ?_
    rintro e wd ⟨rfl, hbd⟩
    replace HB := hide (HB.out.trans (hbd.mono HB.out.size))
    replace HK := hide (HK.out.later hbd)
    replace HL := hide (HL.out.later hbd)
    replace HR := hide (HR.out.later hbd)
    clear hbd
    have k2 := HR.out.cell 0 _ rfl
    have k3 := HR.out.frozen 0
    go_wp2_with fail
    refine bp_gen fun wf hwf => ?_
    have HRF : Blk wf (w.heap.size + 1 + 1) 26 [.slice none 0 0] := by rw [hwf]; first | exact HR.out | exact HR.out.set 0 _
    have hbf : Below w.heap.size w wf := by rw [hwf]; first | exact HB.out | exact HB.out.setCell (p := ⟨w.heap.size + 1 + 1, 0, none⟩) (by show w.heap.size ≤ w.heap.size + 1 + 1; omega) _
    have q0 := HRF.cell 0 _ rfl
    clear hwf k2 k3
    exact bodyPost_ret (v := .tuple #[.agg #[.slice none 0 0], .int .i64 5]) (by simp [results, Try.results34, go_sem, q0]) rfl ⟨_, _, rfl, hbf, .inl ⟨rfl, rfl⟩⟩
  · by_cases h1 : Rck f
    · have hk0 : k = 0 := by rw [← hk]; rfl
      subst hk0
      have HPP : Hid (¬ (m = n ∧ Canon xs)) := hide (fun h => hno ⟨h1, by rw [hm, hn]; exact h.1, h.2⟩)
      have HRK : Hid (RkRes f true) := hide (by unfold RkRes; simp [h1])
      clear hn hm hk h1 hno
      go_enter Try.func34, Try.ntmps34
      go_wp2_with fail
      refine calls_gen fun wd hw0 => ?_
      have HB : Hid (Below w.heap.size w wd) := hide (by rw [hw0]; exact (((Below.refl _ _).alloc (Nat.le_refl _) _).alloc (by simp) _).alloc (by simp; omega) _)
      have HK : Hid (Blk wd w.heap.size 26 [.slice A n c]) := hide (by rw [hw0]; exact ((Blk.new _ _ _).alloc _).alloc _)
      have HL : Hid (Blk wd (w.heap.size + 1) 33 [.slice B m d]) := hide (by rw [hw0]; have h := (Blk.new (w.alloc (Obj.cells #[.slice A n c] 26)) 33 [.slice B m d]).alloc (Obj.cells #[.slice none 0 0] 26); simpa using h)
      have HR : Hid (Blk wd (w.heap.size + 1 + 1) 26 [.slice none 0 0]) := hide (by rw [hw0]; have h := Blk.new ((w.alloc (Obj.cells #[.slice A n c] 26)).alloc (Obj.cells #[.slice B m d] 33)) 26 [.slice none 0 0]; simpa using h)
      clear hw0
      refine (isRackI _ _ _ f true _ HN.out hb HBS.out (HRD.out.later HB.out) HRK.out).mono ?_
      rintro e wd ⟨rfl, hbd⟩
      replace HB := hide (HB.out.trans (hbd.mono HB.out.size))
      replace HK := hide (HK.out.later hbd)
      replace HL := hide (HL.out.later hbd)
      replace HR := hide (HR.out.later hbd)
      clear hbd
      have k0 := HK.out.cell 0 _ rfl
      have k1 := HL.out.cell 0 _ rfl
      go_wp2_with fail
      clear k0 k1
      refine (isPart_any _ n _ _ _ _ xs false _ hb HM.out hbm (HX.out.later HB.out) (by simpa using HPP.out)).mono ?_
      rintro e wd ⟨rfl, hbd⟩
      replace HB := hide (HB.out.trans (hbd.mono HB.out.size))
      replace HK := hide (HK.out.later hbd)
      replace HL := hide (HL.out.later hbd)
      replace HR := hide (HR.out.later hbd)
      clear hbd
      have k2 := HR.out.cell 0 _ rfl
      have k3 := HR.out.frozen 0
      go_wp2_with fail
      refine bp_gen fun wf hwf => ?_
      have HRF : Blk wf (w.heap.size + 1 + 1) 26 [.slice none 0 0] := by rw [hwf]; first | exact HR.out | exact HR.out.set 0 _
      have hbf : Below w.heap.size w wf := by rw [hwf]; first | exact HB.out | exact HB.out.setCell (p := ⟨w.heap.size + 1 + 1, 0, none⟩) (by show w.heap.size ≤ w.heap.size + 1 + 1; omega) _
      have q0 := HRF.cell 0 _ rfl
      clear hwf k2 k3
      exact bodyPost_ret (v := .tuple #[.agg #[.slice none 0 0], .int .i64 1]) (by simp [results, Try.results34, go_sem, q0]) rfl ⟨_, _, rfl, hbf, .inl ⟨rfl, rfl⟩⟩
    · have hk0 : k = 0 := by rw [← hk]; rfl
      subst hk0
      have HRK : Hid (RkRes f false) := hide (by unfold RkRes; simp [h1])
      clear hn hm hk h1 hno
      go_enter Try.func34, Try.ntmps34
      go_wp2_with fail
      refine calls_gen fun wd hw0 => ?_
      have HB : Hid (Below w.heap.size w wd) := hide (by rw [hw0]; exact (((Below.refl _ _).alloc (Nat.le_refl _) _).alloc (by simp) _).alloc (by simp; omega) _)
      have HK : Hid (Blk wd w.heap.size 26 [.slice A n c]) := hide (by rw [hw0]; exact ((Blk.new _ _ _).alloc _).alloc _)
      have HL : Hid (Blk wd (w.heap.size + 1) 33 [.slice B m d]) := hide (by rw [hw0]; have h := (Blk.new (w.alloc (Obj.cells #[.slice A n c] 26)) 33 [.slice B m d]).alloc (Obj.cells #[.slice none 0 0] 26); simpa using h)
      have HR : Hid (Blk wd (w.heap.size + 1 + 1) 26 [.slice none 0 0]) := hide (by rw [hw0]; have h := Blk.new ((w.alloc (Obj.cells #[.slice A n c] 26)).alloc (Obj.cells #[.slice B m d] 33)) 26 [.slice none 0 0]; simpa using h)
      clear hw0
      refine (isRackI _ _ _ f false _ HN.out hb HBS.out (HRD.out.later HB.out) HRK.out).mono ?_
      rintro e wd ⟨rfl, hbd⟩
      replace HB := hide (HB.out.trans (hbd.mono HB.out.size))
      replace HK := hide (HK.out.later hbd)
      replace HL := hide (HL.out.later hbd)
      replace HR := hide (HR.out.later hbd)
      clear hbd
      have k2 := HR.out.cell 0 _ rfl
      have k3 := HR.out.frozen 0
      go_wp2_with fail
      refine bp_gen fun wf hwf => ?_
      have HRF : Blk wf (w.heap.size + 1 + 1) 26 [.slice none 0 0] := by rw [hwf]; first | exact HR.out | exact HR.out.set 0 _
      have hbf : Below w.heap.size w wf := by rw [hwf]; first | exact HB.out | exact HB.out.setCell (p := ⟨w.heap.size + 1 + 1, 0, none⟩) (by show w.heap.size ≤ w.heap.size + 1 + 1; omega) _
      have q0 := HRF.cell 0 _ rfl
      clear hwf k2 k3
      exact bodyPost_ret (v := .tuple #[.agg #[.slice none 0 0], .int .i64 1]) (by simp [results, Try.results34, go_sem, q0]) rfl ⟨_, _, rfl, hbf, .inl ⟨rfl, rfl⟩⟩

end Go.Proofs.Ytkflmhmbkilmpac
namespace Go.Proofs.Ytkflmhmbkilmpac
open Go Go.RowKit
set_option maxHeartbeats 2000000

set_option maxRecDepth 100000 in
theorem qtS_any (A : Option Addr) (n c : Nat) (f : List (List Int)) (B : Option Addr) (m d : Nat) (xs : List Int) (zs : List (List Int)) (code : Int) (k : Nat) (w : World) (hn : f.length = n) (hb : n ≤ 1048576) (hbs : ∀ i, i < f.length → (f.getD i []).length ≤ 1048576) (hr : Rd2 w A f) (hm : xs.length = m) (hbm : m ≤ 1048576) (hx : Rd w B xs) (hres : QtRes f xs zs code) (hk : zs.length = k) :
    Calls Try.prog 33 #[.agg #[.slice A n c], .slice B m d] w (fun e w' => ∃ A' c', e = .returned (.tuple #[.agg #[.slice A' k c'], .int .i64 code]) ∧ Below w.heap.size w w' ∧ Obj2 33 2 w.heap.size w'.heap.size w' A' zs) := by
  have HN := hide hn
  have HBS := hide hbs
  have HRD := hide hr
  have HM := hide hm
  have HX := hide hx
  clear hbs hr hx
  rcases hres with ⟨⟨h1, h2⟩, h3, rfl, rfl⟩ | ⟨⟨h1, h2⟩, h3, rfl, rfl⟩ | ⟨hno, rfl, rfl⟩
  · have HTB := hide h1.tbl
    have h1n : 1 ≤ n := by rw [← hn]; exact h1.tbl.1
    have h12 : n ≤ 12 := by rw [← hn]; exact h1.tbl.2.1
    have HP := hide h2
    have hmn : m = n := by rw [← hm, h2.1, hn]
    have h1m : 1 ≤ m := by omega
    have h12m : m ≤ 12 := by omega
    have HMN := hide hmn
    have HPP : Hid (m = n ∧ Canon xs) := hide ⟨hmn, h2.2⟩
    have HCD : Hid (CdRes f xs 0) := hide (.inl ⟨h1, h2, rfl⟩)
    have HCG := hide h3
    have hkk : nxt xs m = k := by rw [← hk, grid_length, hm]
    have hk1 : 1 ≤ k := by rw [← hkk, ← hm]; exact nxt_pos h2.2 (by omega)
    have hkm : k ≤ m := by rw [← hkk]; exact nxt_le xs m
    have HMX : Hid (IsMax xs ((k - 1 : Nat) : Int)) := hide (by rw [← hkk, ← hm]; exact nxt_max h2.2 (by omega))
    have hkz : ((k - 1 : Nat) : Int) + 1 = (k : Int) := by omega
    obtain ⟨k', hk'⟩ : ∃ a, k - 1 = a := ⟨_, rfl⟩
    rw [hk'] at HMX hkz
    rw [hm, hkk]
    have HKK := hide hkk
    clear hn hm hk h1 h2 h3 hk' hkk hmn
    skip
    skip
    skip
    skip
    go_enter Try.func33, Try.ntmps33
    go_wp2_with fail
    refine calls_gen fun wd hw0 => ?_
    have HB : Hid (Below w.heap.size w wd) := hide (by rw [hw0]; exact ((Below.refl _ _).alloc (Nat.le_refl _) _).alloc (by simp) _)
    have HK : Hid (Blk wd w.heap.size 26 [.slice A n c]) := hide (by rw [hw0]; exact (Blk.new _ _ _).alloc _)
    have HR : Hid (Blk wd (w.heap.size + 1) 26 [.slice none 0 0]) := hide (by rw [hw0]; have h := Blk.new (w.alloc (Obj.cells #[.slice A n c] 26)) 26 [.slice none 0 0]; simpa using h)
    clear hw0
    refine (l04Code_any _ _ _ f _ _ _ xs 0 _ HN.out hb HBS.out (HRD.out.later HB.out) HM.out hbm (HX.out.later HB.out) HCD.out).mono ?_
    rintro e wd ⟨rfl, hbd⟩
    replace HB := hide (HB.out.trans (hbd.mono HB.out.size))
    replace HK := hide (HK.out.later hbd)
    replace HR := hide (HR.out.later hbd)
    clear hbd
    have k0 := HK.out.cell 0 _ rfl
    go_wp2_with fail
    clear k0
    refine (l04Cg_any _ _ _ f _ _ _ xs true _ HN.out HTB.out (HRD.out.later HB.out) HM.out (HX.out.later HB.out) HP.out (by simp [HCG.out])).mono ?_
    rintro e wd ⟨rfl, hbd⟩
    replace HB := hide (HB.out.trans (hbd.mono HB.out.size))
    replace HK := hide (HK.out.later hbd)
    replace HR := hide (HR.out.later hbd)
    clear hbd
    have k0 := HK.out.cell 0 _ rfl
    go_wp2_with fail
    clear k0
    refine (l04Quot_any _ n _ f _ m _ xs _ HN.out HTB.out (HRD.out.later HB.out) HM.out (HX.out.later HB.out) HP.out k HKK.out).mono ?_
    rintro e we ⟨A3, c3, rfl, hbd, ho3⟩
    have HO3 := hide ho3
    have hlow : w.heap.size + 1 < wd.heap.size := HR.out.lt
    replace HB := hide (HB.out.trans (hbd.mono HB.out.size))
    replace HR := hide (HR.out.later hbd)
    clear hbd ho3
    have k2 := HR.out.cell 0 _ rfl
    have k3 := HR.out.frozen 0
    go_wp2_with fail
    refine bp_gen fun wf hwf => ?_
    obtain ⟨q0, hbf, hof⟩ := kend hwf HR.out (by omega) HB.out HO3.out (by omega) hlow (Nat.le_refl _)
    clear hwf k2 k3
    exact bodyPost_ret (v := .tuple #[.agg #[.slice A3 k c3], .int .i64 0]) (by simp [results, Try.results33, go_sem, q0]) rfl ⟨_, _, rfl, hbf, hof⟩
  · have HTB := hide h1.tbl
    have h1n : 1 ≤ n := by rw [← hn]; exact h1.tbl.1
    have h12 : n ≤ 12 := by rw [← hn]; exact h1.tbl.2.1
    have HP := hide h2
    have hmn : m = n := by rw [← hm, h2.1, hn]
    have h1m : 1 ≤ m := by omega
    have h12m : m ≤ 12 := by omega
    have HMN := hide hmn
    have HPP : Hid (m = n ∧ Canon xs) := hide ⟨hmn, h2.2⟩
    have HCD : Hid (CdRes f xs 0) := hide (.inl ⟨h1, h2, rfl⟩)
    have hk0 : k = 0 := by rw [← hk]; rfl
    subst hk0
    have HCG := hide h3
    clear hn hm hk h1 h2 h3 hmn
    skip
    skip
    skip
    skip
    go_enter Try.func33, Try.ntmps33
    go_wp2_with fail
    refine calls_gen fun wd hw0 => ?_
    have HB : Hid (Below w.heap.size w wd) := hide (by rw [hw0]; exact ((Below.refl _ _).alloc (Nat.le_refl _) _).alloc (by simp) _)
    have HK : Hid (Blk wd w.heap.size 26 [.slice A n c]) := hide (by rw [hw0]; exact (Blk.new _ _ _).alloc _)
    have HR : Hid (Blk wd (w.heap.size + 1) 26 [.slice none 0 0]) := hide (by rw [hw0]; have h := Blk.new (w.alloc (Obj.cells #[.slice A n c] 26)) 26 [.slice none 0 0]; simpa using h)
    clear hw0
    refine (l04Code_any _ _ _ f _ _ _ xs 0 _ HN.out hb HBS.out (HRD.out.later HB.out) HM.out hbm (HX.out.later HB.out) HCD.out).mono ?_
    rintro e wd ⟨rfl, hbd⟩
    replace HB := hide (HB.out.trans (hbd.mono HB.out.size))
    replace HK := hide (HK.out.later hbd)
    replace HR := hide (HR.out.later hbd)
    clear hbd
    have k0 := HK.out.cell 0 _ rfl
    go_wp2_with fail
    clear k0
    refine (l04Cg_any _ _ _ f _ _ _ xs false _ HN.out HTB.out (HRD.out.later HB.out) HM.out (HX.out.later HB.out) HP.out (by simp [HCG.out])).mono ?_
    rintro e wd ⟨rfl, hbd⟩
    replace HB := hide (HB.out.trans (hbd.mono HB.out.size))
    replace HK := hide (HK.out.later hbd)
    replace HR := hide (HR.out.later hbd)
    clear hbd
    have k2 := HR.out.cell 0 _ rfl
    have k3 := HR.out.frozen 0
    go_wp2_with fail
    refine bp_gen fun wf hwf => ?_
    have HRF : Blk wf (w.heap.size + 1) 26 [.slice none 0 0] := by rw [hwf]; first | exact HR.out | exact HR.out.set 0 _
    have hbf : Below w.heap.size w wf := by rw [hwf]; first | exact HB.out | exact HB.out.setCell (p := ⟨w.heap.size + 1, 0, none⟩) (by show w.heap.size ≤ w.heap.size + 1; omega) _
    have q0 := HRF.cell 0 _ rfl
    clear hwf k2 k3
    exact bodyPost_ret (v := .tuple #[.agg #[.slice none 0 0], .int .i64 5]) (by simp [results, Try.results33, go_sem, q0]) rfl ⟨_, _, rfl, hbf, .inl ⟨rfl, rfl⟩⟩
  · have hk0 : k = 0 := by rw [← hk]; rfl
    subst hk0
    have HCD : Hid (CdRes f xs 1) := hide (.inr ⟨hno, rfl⟩)
    clear hn hm hk hno
    skip
    skip
    skip
    skip
    go_enter Try.func33, Try.ntmps33
    go_wp2_with fail
    refine calls_gen fun wd hw0 => ?_
    have HB : Hid (Below w.heap.size w wd) := hide (by rw [hw0]; exact ((Below.refl _ _).alloc (Nat.le_refl _) _).alloc (by simp) _)
    have HK : Hid (Blk wd w.heap.size 26 [.slice A n c]) := hide (by rw [hw0]; exact (Blk.new _ _ _).alloc _)
    have HR : Hid (Blk wd (w.heap.size + 1) 26 [.slice none 0 0]) := hide (by rw [hw0]; have h := Blk.new (w.alloc (Obj.cells #[.slice A n c] 26)) 26 [.slice none 0 0]; simpa using h)
    clear hw0
    refine (l04Code_any _ _ _ f _ _ _ xs 1 _ HN.out hb HBS.out (HRD.out.later HB.out) HM.out hbm (HX.out.later HB.out) HCD.out).mono ?_
    rintro e wd ⟨rfl, hbd⟩
    replace HB := hide (HB.out.trans (hbd.mono HB.out.size))
    replace HK := hide (HK.out.later hbd)
    replace HR := hide (HR.out.later hbd)
    clear hbd
    have k2 := HR.out.cell 0 _ rfl
    have k3 := HR.out.frozen 0
    go_wp2_with fail
    refine bp_gen fun wf hwf => ?_
    have HRF : Blk wf (w.heap.size + 1) 26 [.slice none 0 0] := by rw [hwf]; first | exact HR.out | exact HR.out.set 0 _
    have hbf : Below w.heap.size w wf := by rw [hwf]; first | exact HB.out | exact HB.out.setCell (p := ⟨w.heap.size + 1, 0, none⟩) (by show w.heap.size ≤ w.heap.size + 1; omega) _
    have q0 := HRF.cell 0 _ rfl
    clear hwf k2 k3
    exact bodyPost_ret (v := .tuple #[.agg #[.slice none 0 0], .int .i64 1]) (by simp [results, Try.results33, go_sem, q0]) rfl ⟨_, _, rfl, hbf, .inl ⟨rfl, rfl⟩⟩

end Go.Proofs.Ytkflmhmbkilmpac
