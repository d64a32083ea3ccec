import Derived.Test.YthknnpkalhachaaZan
import Derived.Test.YthknnpkalhachaaZab
import Derived.Test.YthknnpkalhachaaZl
import Derived.Test.YthknnpkalhachaaZao
import Derived.Test.YthknnpkalhachaaZc
import Derived.Test.YthknnpkalhachaaZa
namespace Go.Proofs.Ythknnpkalhachaa
open Go Go.RowKit
/-- The number at a place of a list. -/
def elN (xs : List Int) (i : Nat) : Nat := (xs.getD i 0).toNat
/-- A tuple of elements of a set of n. -/
def Tup (n : Nat) (xs : List Int) : Prop := xs.length ≤ 12 ∧ ∀ j, j < xs.length → 0 ≤ xs.getD j 0 ∧ xs.getD j 0 < (n : Int)
theorem Tup.el {n : Nat} {xs : List Int} (h : Tup n xs) {j : Nat} (hj : j < xs.length) : xs.getD j 0 = (elN xs j : Int) ∧ elN xs j < n := by
  have := h.2 j hj
  unfold elN
  omega
/-- What forbids the guitar map. -/
def GuC (f s : List (List Int)) (xs : List Int) (code : Int) : Prop :=
  (SolF f s ∧ Tup f.length xs ∧ NonF f s ∧ code = 0) ∨ (SolF f s ∧ Tup f.length xs ∧ ¬ NonF f s ∧ code = 5) ∨ (SolF f s ∧ ¬ Tup f.length xs ∧ code = 2) ∨ (¬ SolF f s ∧ code = 1)
theorem GuC.ex (f s : List (List Int)) (xs : List Int) : ∃ code, GuC f s xs code := by
  by_cases h : SolF f s
  · by_cases h2 : Tup f.length xs
    · by_cases h3 : NonF f s
      · exact ⟨_, .inl ⟨h, h2, h3, rfl⟩⟩
      · exact ⟨_, .inr (.inl ⟨h, h2, h3, rfl⟩)⟩
    · exact ⟨_, .inr (.inr (.inl ⟨h, h2, rfl⟩))⟩
  · exact ⟨_, .inr (.inr (.inr ⟨h, rfl⟩))⟩
/-- What a function answers that the guitar map's faults forbid; L: the list where none is. -/
def GuL (L : List (List Int) → List Int → List Int) (f s : List (List Int)) (xs zs : List Int) (code : Int) : Prop :=
  GuC f s xs code ∧ ((code = 0 ∧ zs = L f xs) ∨ (code ≠ 0 ∧ zs = []))
/-- An element behind the undoing of the first j of bs. -/
def gbIn (f : List (List Int)) (bs : List Int) (x : Nat) : Nat → Nat
  | 0 => x
  | j + 1 => sol f (elN bs j) (gbIn f bs x j)
/-- The first k elements that the guitar map leads to xs. -/
def gbL (f : List (List Int)) (xs : List Int) : Nat → List Int
  | 0 => []
  | k + 1 => gbL f xs k ++ [((gbIn f (gbL f xs k) (elN xs k) k : Nat) : Int)]
theorem gbL_length (f : List (List Int)) (xs : List Int) (k : Nat) : (gbL f xs k).length = k := by
  induction k with
  | zero => rfl
  | succ k ih => simp [gbL, ih]
def gbA (f : List (List Int)) (xs : List Int) : List Int := gbL f xs xs.length
/-- An element behind the first t lambda, from that before it on. -/
def gmIn (f : List (List Int)) (xs : List Int) (i x : Nat) : Nat → Nat
  | 0 => x
  | t + 1 => ap f (elN xs (i - 1 - t)) (gmIn f xs i x t)
def gmL (f : List (List Int)) (xs : List Int) (k : Nat) : List Int := (List.range k).map fun i => ((gmIn f xs i (elN xs i) i : Nat) : Int)
theorem gmL_length (f : List (List Int)) (xs : List Int) (k : Nat) : (gmL f xs k).length = k := by simp [gmL]
theorem gmL_succ (f : List (List Int)) (xs : List Int) (k : Nat) : gmL f xs (k + 1) = gmL f xs k ++ [((gmIn f xs k (elN xs k) k : Nat) : Int)] := by simp [gmL, List.range_succ]
def gmA (f : List (List Int)) (xs : List Int) : List Int := gmL f xs xs.length
theorem gmA_length (f : List (List Int)) (xs : List Int) : (gmA f xs).length = xs.length := gmL_length _ _ _
theorem gbL_ok {f : List (List Int)} (ht : Tbl f) (hp : AllPrm f) {n : Nat} (hn : f.length = n) {xs : List Int} (hx : Tup n xs) : ∀ k, k ≤ xs.length → ∀ j, j < k → (gbL f xs k).getD j 0 = ((elN (gbL f xs k) j : Nat) : Int) ∧ elN (gbL f xs k) j < n := by
  intro k
  induction k with
  | zero => intro _ j hj; omega
  | succ k ih =>
    intro hk j hj
    have hin : ∀ t, t ≤ k → gbIn f (gbL f xs k) (elN xs k) t < n := by
      intro t
      induction t with
      | zero => intro _; exact (hx.el (by omega)).2
      | succ t iht => intro ht'; exact sol_lt ht hp hn (ih (by omega) t (by omega)).2 (iht (by omega))
    by_cases e : j = k
    · subst e
      have h1 : (gbL f xs (j + 1)).getD j 0 = ((gbIn f (gbL f xs j) (elN xs j) j : Nat) : Int) := by
        simp [gbL, gbL_length]
      have h2 : elN (gbL f xs (j + 1)) j = gbIn f (gbL f xs j) (elN xs j) j := by unfold elN; rw [h1]; simp [elN]
      rw [h1, h2]
      exact ⟨rfl, hin j (Nat.le_refl _)⟩
    · have h1 : (gbL f xs (k + 1)).getD j 0 = (gbL f xs k).getD j 0 := by
        have hl : j < (gbL f xs k).length := by rw [gbL_length]; omega
        simp only [gbL, List.getD_eq_getElem?_getD]
        rw [List.getElem?_append_left hl]
      have h2 : elN (gbL f xs (k + 1)) j = elN (gbL f xs k) j := by unfold elN; rw [h1]
      rw [h1, h2]
      exact ih (by omega) j (by omega)
theorem gbIn_lt {f : List (List Int)} (ht : Tbl f) (hp : AllPrm f) {n : Nat} (hn : f.length = n) {xs : List Int} (hx : Tup n xs) {k : Nat} (hk : k < xs.length) : ∀ t, t ≤ k → gbIn f (gbL f xs k) (elN xs k) t < n := by
  intro t
  induction t with
  | zero => intro _; exact (hx.el hk).2
  | succ t iht => intro ht'; exact sol_lt ht hp hn (gbL_ok ht hp hn hx k (by omega) t (by omega)).2 (iht (by omega))
theorem gmIn_lt {f : List (List Int)} (ht : Tbl f) {n : Nat} (hn : f.length = n) {xs : List Int} (hx : Tup n xs) {i : Nat} (hi : i < xs.length) : ∀ t, t ≤ i → gmIn f xs i (elN xs i) t < n := by
  intro t
  induction t with
  | zero => intro _; exact (hx.el hi).2
  | succ t iht => intro ht'; exact ht.ap_lt hn (hx.el (by omega)).2 (iht (by omega))
theorem GuL.ex (L : List (List Int) → List Int → List Int) (hL : ∀ f xs, (L f xs).length = xs.length) (f s : List (List Int)) (xs : List Int) : ∃ zs code, GuL L f s xs zs code ∧ zs.length ≤ 1048576 := by
  obtain ⟨code, h⟩ := GuC.ex f s xs
  by_cases hc : code = 0
  · refine ⟨_, _, ⟨h, .inl ⟨hc, rfl⟩⟩, ?_⟩
    rw [hL]
    rcases h with ⟨_, h, _⟩ | ⟨_, _, _, h⟩ | ⟨_, _, h⟩ | ⟨_, h⟩
    · have := h.1; omega
    · omega
    · omega
    · omega
  · exact ⟨_, _, ⟨h, .inr ⟨hc, rfl⟩⟩, by simp⟩
def GbRes := GuL gbA
def GmRes := GuL gmA
theorem GbRes.ex (f s : List (List Int)) (xs : List Int) : ∃ zs code, GbRes f s xs zs code ∧ zs.length ≤ 1048576 := GuL.ex gbA (fun f xs => gbL_length f xs _) f s xs
theorem GmRes.ex (f s : List (List Int)) (xs : List Int) : ∃ zs code, GmRes f s xs zs code ∧ zs.length ≤ 1048576 := GuL.ex gmA gmA_length f s xs
end Go.Proofs.Ythknnpkalhachaa
namespace Go.Proofs.Ythknnpkalhachaa
open Go Go.RowKit
set_option maxHeartbeats 1000000

set_option maxRecDepth 100000 in
theorem l04Elements_any (n : Nat) (B : Option Addr) (m d : Nat) (xs : List Int) (r : Bool) (w : World) (hn : n ≤ 1048576) (hm : xs.length = m) (hb : m ≤ 1048576) (hr : Rd w B xs) (hres : r = true ↔ Els n xs) :
    Calls Try.prog 139 #[.int .i64 n, .slice B m d] w fun e w' => e = .returned (.bool r) ∧ Below w.heap.size w w' := by
  have HM := hide hm
  have HRES := hide hres
  have HR := hide hr
  clear hm hres hr
  go_enter Try.func139, Try.ntmps139
  go_wp2_with fail
  go_loopw [5] (fun i wr => ∃ k : Nat, k ≤ m ∧ i = .int .i64 k ∧ Below w.heap.size w wr ∧ ∀ j, j < k → 0 ≤ xs.getD j 0 ∧ xs.getD j 0 < (n : Int)) (fun i _ => m - (intOf i).toNat)
  case atStart => exact ⟨0, Nat.zero_le _, rfl, Below.refl _ _, fun j hj => absurd hj (Nat.not_lt_zero _)⟩
  case round =>
    obtain ⟨k, hk, rfl, hbe, hall⟩ := hrel
    have HB := hide hbe
    have HALL := hide hall
    clear hbe hall
    by_cases hlt : k < m
    · obtain ⟨b, o, rfl, hbw, hc⟩ := HR.out (by have := HM.out; omega)
      have hc1 := (HB.out.cell (p := ⟨b, o + k, none⟩) hbw).trans (hc k (by have := HM.out; omega))
      have hltz : (k : Int) < m := by omega
      obtain ⟨x, hx⟩ : ∃ x, xs.getD k 0 = x := ⟨_, rfl⟩
      rw [hx] at hc1
      have HX := hide hx
      clear hx hc
      by_cases h1 : 0 ≤ x ∧ x < (n : Int)
      · have HIN := hide h1
        clear h1
        go_wp2_with fail
        refine (in_any x 0 ((n : Int) - 1) true _ ⟨fun _ => by have := HIN.out; omega, fun _ => rfl⟩).mono ?_
        rintro e w5 ⟨rfl, hq5⟩
        have HB5 := hide (HB.out.trans (hq5.below _))
        clear hq5
        go_wp2_with fail
        go_roundw
        case rel => exact ⟨k + 1, by omega, by go_num, HB5.out, fun j hj => by
          by_cases e : j = k
          · rw [e, HX.out]; exact HIN.out
          · exact HALL.out j (by omega)⟩
        case measure => simp [intOf]; omega
      · have hrf : r = false := by
          cases r
          · rfl
          · exact absurd (by have h := HRES.out.1 rfl k (by have := HM.out; omega); rw [HX.out] at h; exact h) h1
        subst hrf
        have HIN := hide h1
        clear h1
        go_wp2_with fail
        refine (in_any x 0 ((n : Int) - 1) false _ (by simp only [Bool.false_eq_true, false_iff]; have := HIN.out; omega)).mono ?_
        rintro e w5 ⟨rfl, hq5⟩
        have HB5 := hide (HB.out.trans (hq5.below _))
        clear hq5
        go_wp2_with fail
        go_ret
        exact ⟨rfl, HB5.out⟩
    · have hkn : k = m := by omega
      subst hkn
      have hrt : r = true := HRES.out.2 fun i hi => HALL.out i (by have := HM.out; omega)
      subst hrt
      go_wp2_with fail
      go_ret
      exact ⟨rfl, HB.out⟩
end Go.Proofs.Ythknnpkalhachaa
