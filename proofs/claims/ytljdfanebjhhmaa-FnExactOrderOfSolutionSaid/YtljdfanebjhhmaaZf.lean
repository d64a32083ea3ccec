import Derived.Test.YtljdfanebjhhmaaZb
import Derived.Test.YtljdfanebjhhmaaProg
namespace Go.Proofs.Ytljdfanebjhhmaa
open Go Go.RowKit

/-- The greatest i below k with p[i] ≤ p[i + 1]. -/
def scanI (p : List Int) : Nat → Option Nat
  | 0 => none
  | i + 1 => if p.getD (i + 1) 0 < p.getD i 0 then scanI p i else some i
/-- The greatest j of at most k with v ≤ p[j]. -/
def scanJ (p : List Int) (v : Int) : Nat → Nat
  | 0 => 0
  | j + 1 => if p.getD (j + 1) 0 < v then scanJ p v j else j + 1
/-- The list behind the exchange, its end reversed. -/
def advAt (p : List Int) (i j : Nat) : List Int :=
  ((p.set i (p.getD j 0)).set j (p.getD i 0)).take (i + 1) ++ (((p.set i (p.getD j 0)).set j (p.getD i 0)).drop (i + 1)).reverse
/-- The next permutation in lexicographic order. -/
def adv (p : List Int) : Option (List Int) :=
  match scanI p (p.length - 1) with
  | none => none
  | some i => some (advAt p i (scanJ p (p.getD i 0) (p.length - 1)))

theorem advAt_length (p : List Int) (i j : Nat) : (advAt p i j).length = p.length := by
  unfold advAt
  simp
  omega

theorem scanI_some (p : List Int) (k i : Nat) (h : scanI p k = some i) : i < k ∧ ¬ p.getD (i + 1) 0 < p.getD i 0 := by
  induction k with
  | zero => cases h
  | succ k ih =>
    unfold scanI at h
    split at h
    · have := ih h
      exact ⟨by omega, this.2⟩
    · injection h with h
      subst h
      exact ⟨by omega, by assumption⟩

/-- Between the rounds of a reversal: k at both ends are exchanged. -/
def revTo (p : List Int) (s : Nat) : Nat → List Int
  | 0 => p
  | k + 1 => ((revTo p s k).set (s + k) ((revTo p s k).getD (p.length - 1 - k) 0)).set (p.length - 1 - k) ((revTo p s k).getD (s + k) 0)
theorem revTo_length (p : List Int) (s k : Nat) : (revTo p s k).length = p.length := by
  induction k with
  | zero => rfl
  | succ k ih => simp [revTo, ih]

theorem revTo_at (p : List Int) (s k i : Nat) (hk : s + k + k ≤ p.length) : (revTo p s k)[i]? = if s ≤ i ∧ i < p.length ∧ (i < s + k ∨ p.length - k ≤ i) then p[s + p.length - 1 - i]? else p[i]? := by
  induction k generalizing i with
  | zero =>
    unfold revTo
    split
    · omega
    · rfl
  | succ k ih =>
    have hk' : s + k + k ≤ p.length := by omega
    have hl := revTo_length p s k
    have e1 : (revTo p s k).getD (p.length - 1 - k) 0 = p.getD (p.length - 1 - k) 0 := by
      rw [List.getD_eq_getElem?_getD, ih _ hk', if_neg (by omega), List.getD_eq_getElem?_getD]
    have e2 : (revTo p s k).getD (s + k) 0 = p.getD (s + k) 0 := by
      rw [List.getD_eq_getElem?_getD, ih _ hk', if_neg (by omega), List.getD_eq_getElem?_getD]
    unfold revTo
    rw [List.getElem?_set, List.getElem?_set, e1, e2, List.length_set, hl]
    by_cases h1 : p.length - 1 - k = i
    · subst h1
      rw [if_pos rfl, if_pos (by omega), if_pos (by omega)]
      have e : s + p.length - 1 - (p.length - 1 - k) = s + k := by omega
      rw [e]
      have hlt : s + k < p.length := by omega
      simp [hlt]
    · rw [if_neg h1]
      by_cases h2 : s + k = i
      · subst h2
        rw [if_pos rfl, if_pos (by omega), if_pos (by omega)]
        have e : s + p.length - 1 - (s + k) = p.length - 1 - k := by omega
        rw [e]
        have hlt : p.length - 1 - k < p.length := by omega
        simp [hlt]
      · rw [if_neg h2, ih i hk']
        by_cases h3 : s ≤ i ∧ i < p.length ∧ (i < s + k ∨ p.length - k ≤ i)
        · rw [if_pos h3, if_pos (by omega)]
        · rw [if_neg h3, if_neg (by omega)]

/-- .. and when the middle is reached the end is reversed. -/
theorem revTo_done (p : List Int) (s k : Nat) (hs : s ≤ p.length) (hk : s + k + k ≤ p.length) (hk2 : p.length ≤ s + k + k + 1) : revTo p s k = p.take s ++ (p.drop s).reverse := by
  apply List.ext_getElem?
  intro i
  rw [revTo_at p s k i hk]
  by_cases h0 : i < s
  · rw [if_neg (by omega), List.getElem?_append_left (by simp; omega), List.getElem?_take, if_pos h0]
  · rw [List.getElem?_append_right (by simp; omega)]
    have e : (p.take s).length = s := by simp; omega
    rw [e]
    by_cases h1 : i < p.length
    · rw [List.getElem?_reverse (by simp; omega), List.getElem?_drop]
      have e2 : s + ((p.drop s).length - 1 - (i - s)) = s + p.length - 1 - i := by simp; omega
      rw [e2]
      by_cases h2 : s ≤ i ∧ i < p.length ∧ (i < s + k ∨ p.length - k ≤ i)
      · rw [if_pos h2]
      · rw [if_neg h2]
        have e3 : s + p.length - 1 - i = i := by omega
        rw [e3]
    · rw [if_neg (by omega), List.getElem?_eq_none (by omega), List.getElem?_eq_none (by simp; omega)]
end Go.Proofs.Ytljdfanebjhhmaa
namespace Go.Proofs.Ytljdfanebjhhmaa
open Go Go.RowKit

def cmpL : List Int → List Int → Int
  | [], [] => 0
  | [], _ :: _ => -1
  | _ :: _, [] => 1
  | x :: xs, y :: ys => if x < y then -1 else if y < x then 1 else cmpL xs ys
def lessL : List Int → List Int → Bool
  | [], [] => false
  | [], _ :: _ => true
  | _ :: _, [] => false
  | x :: xs, y :: ys => if x = y then lessL xs ys else decide (x < y)
def cmpT : List (List Int) → List (List Int) → Int
  | [], [] => 0
  | [], _ :: _ => -1
  | _ :: _, [] => 1
  | x :: xs, y :: ys => if cmpL x y = 0 then cmpT xs ys else cmpL x y
def lessT : List (List Int) → List (List Int) → Bool
  | [], [] => false
  | [], _ :: _ => true
  | _ :: _, [] => false
  | x :: xs, y :: ys => if x = y then lessT xs ys else lessL x y

theorem cmpL_zero (xs ys : List Int) : cmpL xs ys = 0 ↔ xs = ys := by
  induction xs generalizing ys with
  | nil => cases ys <;> simp [cmpL]
  | cons x xs ih =>
    cases ys with
    | nil => simp [cmpL]
    | cons y ys =>
      unfold cmpL
      by_cases h1 : x < y
      · rw [if_pos h1]; simp; omega
      · by_cases h2 : y < x
        · rw [if_neg h1, if_pos h2]; simp; omega
        · rw [if_neg h1, if_neg h2, ih]
          have : x = y := by omega
          simp [this]
theorem cmpL_neg (xs ys : List Int) : cmpL xs ys < 0 ↔ lessL xs ys = true := by
  induction xs generalizing ys with
  | nil => cases ys <;> simp [cmpL, lessL]
  | cons x xs ih =>
    cases ys with
    | nil => simp [cmpL, lessL]
    | cons y ys =>
      unfold cmpL lessL
      by_cases h1 : x < y
      · rw [if_pos h1, if_neg (by omega)]; simp [h1]
      · by_cases h2 : y < x
        · rw [if_neg h1, if_pos h2, if_neg (by omega)]; simp [h1]
        · rw [if_neg h1, if_neg h2, if_pos (by omega), ih]
theorem cmpL_range (xs ys : List Int) : -1 ≤ cmpL xs ys ∧ cmpL xs ys ≤ 1 := by
  induction xs generalizing ys with
  | nil => cases ys <;> simp [cmpL]
  | cons x xs ih =>
    cases ys with
    | nil => simp [cmpL]
    | cons y ys =>
      unfold cmpL
      split
      · omega
      · split
        · omega
        · exact ih ys
theorem cmpT_neg (xs ys : List (List Int)) : cmpT xs ys < 0 ↔ lessT xs ys = true := by
  induction xs generalizing ys with
  | nil => cases ys <;> simp [cmpT, lessT]
  | cons x xs ih =>
    cases ys with
    | nil => simp [cmpT, lessT]
    | cons y ys =>
      unfold cmpT lessT
      by_cases h : x = y
      · rw [if_pos ((cmpL_zero x y).2 h), if_pos h, ih]
      · rw [if_neg (fun e => h ((cmpL_zero x y).1 e)), if_neg h, cmpL_neg]
theorem lessT_irrefl (xs : List (List Int)) : lessT xs xs = false := by
  induction xs with
  | nil => rfl
  | cons x xs ih => simp [lessT, ih]

theorem drop_cons (xs : List Int) (k : Nat) (h : k < xs.length) : xs.drop k = xs.getD k 0 :: xs.drop (k + 1) := by
  rw [List.drop_eq_getElem_cons h]
  simp [h]
theorem drop_cons2 (xs : List (List Int)) (k : Nat) (h : k < xs.length) : xs.drop k = xs.getD k [] :: xs.drop (k + 1) := by
  rw [List.drop_eq_getElem_cons h]
  simp [h]
end Go.Proofs.Ytljdfanebjhhmaa
namespace Go.Proofs.Ytljdfanebjhhmaa
open Go Go.RowKit
set_option maxHeartbeats 1000000

theorem idInfo : (Try.prog.info? 2).map (fun i => (i.zero, i.size, i.bytes)) = some (some (.int .i64 0), 1, 8) := by kernel_rfl
def unitL (n : Nat) : List Int := (List.range n).map fun (x : Nat) => Int.ofNat x
theorem unitL_length (n : Nat) : (unitL n).length = n := by simp [unitL]
theorem unitL_getD (n k : Nat) (h : k < n) : (unitL n).getD k 0 = (k : Int) := by simp [unitL, h]

theorem identityOf_any (n : Nat) (w : World) (hb : n ≤ 1048576) :
    Calls Try.prog 64 #[.int .i64 n] w fun e w' => e = .returned (.slice (some ⟨w.heap.size, 0, none⟩) n n) ∧ Below w.heap.size w w' ∧ Row 2 w' w.heap.size (unitL n) ∧ w'.heap.size = w.heap.size + 1 := by
  have hmk := run_make_row' (P := Try.prog) 76 2 (.int .i64 0) 8 Try.underlying76 idInfo rfl .i64 .i64 n (by omega) (by omega)
  go_enter Try.func64, Try.ntmps64
  go_wp2_with fail
  clear hmk
  go_loopw [9] (fun i wr => ∃ k : Nat, k ≤ n ∧ i = .int .i64 k ∧ Below w.heap.size w wr ∧ Row 2 wr w.heap.size ((unitL n).take k ++ List.replicate (n - k) 0) ∧ wr.heap.size = w.heap.size + 1) (fun i _ => n - (intOf i).toNat)
  case atStart => exact ⟨0, Nat.zero_le _, rfl, (Below.refl _ _).alloc (Nat.le_refl _) _, by simpa using Row.made 2 w n, by simp⟩
  case round =>
    obtain ⟨k, hk, rfl, hbe, hrow, hsz⟩ := hrel
    have HB := hide hbe
    have HROW := hide hrow
    have HSZ := hide hsz
    clear hbe hrow hsz
    have HU : Hid ((unitL n).length = n) := hide (unitL_length n)
    by_cases hlt : k < n
    · have h2 := HROW.out.cell (i := k) (by have := HU.out; simp; omega)
      have h3 := HROW.out.frozen k
      have hltz : (k : Int) < n := by omega
      go_wp2_with fail
      go_roundw
      case rel =>
        have hst := HROW.out.set k ((unitL n).getD k 0)
        rw [fill_step (unitL n) n k HU.out hlt, unitL_getD n k hlt] at hst
        exact ⟨k + 1, by omega, by go_num, HB.out.setCell (p := ⟨w.heap.size, k, none⟩) (Nat.le_refl _) _, hst, by have := HSZ.out; simpa [World.setCell] using this⟩
      case measure => simp [intOf]; omega
    · have hkn : k = n := by omega
      subst hkn
      go_wp2_with fail
      go_ret
      have h := HROW.out
      have hz := HU.out
      rw [Nat.sub_self, List.replicate_zero, List.append_nil, List.take_of_length_le (by omega)] at h
      exact ⟨rfl, HB.out, h, HSZ.out⟩
end Go.Proofs.Ytljdfanebjhhmaa
namespace Go.Proofs.Ytljdfanebjhhmaa
open Go Go.RowKit

theorem clInfo : (Try.prog.info? 2).map (fun i => (i.zero, i.size, i.bytes)) = some (some (.int .i64 0), 1, 8) := by kernel_rfl
theorem cl_empty (w : World) (t : TypeId) : (w.alloc (.cells #[] t)).ownsRow w.heap.size t 1 (.slice (some ⟨w.heap.size, 0, none⟩) 0 0) 0 [] :=
  ⟨by simp, .inr ⟨w.heap.size, 0, #[], rfl, Nat.le_refl _, heap_alloc_new _ _, Nat.le_refl _, by unfold maxLen; omega, by simp, by simp⟩⟩

theorem cl_cells {w : World} {b o : Nat} {xs : List Int} {obj : Obj} (hc : ∀ i, i < xs.length → w.cell? ⟨b, o + i, none⟩ = some (.int .i64 (xs.getD i 0))) (hb : b < w.heap.size) : ∀ j u, (ints xs)[j]? = some u → (w.alloc obj).cell? ((⟨b, o, none⟩ : Addr).add j) = some u := by
  intro j u hj
  have hl : j < xs.length := by
    have := (List.getElem?_eq_some_iff.1 hj).1
    rw [ints_length] at this
    exact this
  have e : (⟨b, o, none⟩ : Addr).add j = ⟨b, o + j, none⟩ := by
    unfold Addr.add
    by_cases h : j = 0
    · subst h; simp
    · simp [h]
  rw [e, World.cell?_alloc_lt w _ _ hb, hc j hl, ← hj]
  simp [ints, hl]
end Go.Proofs.Ytljdfanebjhhmaa
