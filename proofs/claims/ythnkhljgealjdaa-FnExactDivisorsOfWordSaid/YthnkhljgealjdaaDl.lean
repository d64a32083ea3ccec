import Derived.Test.YthnkhljgealjdaaDg
import Derived.Test.YthnkhljgealjdaaDk
import Derived.Test.YthnkhljgealjdaaDf
import Derived.Test.YthnkhljgealjdaaDc
import Derived.Test.YthnkhljgealjdaaDb
import Derived.Maps.AppendAt
import Derived.Deep.Cut
import Derived.Deep.RegionHeld3
import Derived.Deep.DeepCutAuto
import Derived.Test.YthnkhljgealjdaaDe
import Derived.Test.YthnkhljgealjdaaDa
import Derived.Test.YthnkhljgealjdaaDd
import Derived.StillTailTactics
import Derived.Test.YthnkhljgealjdaaDh
namespace Go.Proofs.Ythnkhljgealjdaa
open Go Go.RowKit
open Classical
set_option maxHeartbeats 4000000
theorem Qs.start {ts t : TypeId} {B : Nat} {w : World} {A : Option Addr} {c : Nat} {r : List Int} (hA : Obj1 t B w.heap.size w A r) (hB : B ≤ w.heap.size) :
    Qs ts t B ((w.alloc (.cells #[.slice A r.length c] ts)).alloc (.cells #[.slice A r.length c] ts)) (.slice (some ⟨w.heap.size, 0, none⟩) 1 1) (.slice (some ⟨w.heap.size + 1, 0, none⟩) 1 1) [r] [r] [.slice A r.length c] [.slice A r.length c] := by
  have h1 : Below w.heap.size w (w.alloc (.cells #[.slice A r.length c] ts)) := (Below.refl _ _).alloc (Nat.le_refl _) _
  have h2 : Below (w.alloc (.cells #[.slice A r.length c] ts)).heap.size (w.alloc (.cells #[.slice A r.length c] ts)) ((w.alloc (.cells #[.slice A r.length c] ts)).alloc (.cells #[.slice A r.length c] ts)) := (Below.refl _ _).alloc (Nat.le_refl _) _
  refine ⟨(LstV.single hA hB).later h2, ⟨rfl, .inr ⟨w.heap.size + 1, 1, #[.slice A r.length c], rfl, by omega, ?_, Nat.le_refl _, by unfold maxLen; omega, by simp, by simp⟩⟩, ⟨rfl, fun i hi => ?_⟩, fun g hg e => ?_⟩
  · have h := heap_alloc_new (w.alloc (.cells #[.slice A r.length c] ts)) (.cells #[.slice A r.length c] ts)
    simpa using h
  · simp at hi
    subst hi
    exact ⟨A, c, rfl, ((hA.later h1).later h2).mono (Nat.le_refl _) (by simp; omega)⟩
  · simp [Value.ownBlock] at hg e
    omega
theorem addr_add (g o j : Nat) : (⟨g, o, none⟩ : Addr).add j = ⟨g, o + j, none⟩ := by simp [Addr.add]
theorem own_low {ts : TypeId} {B B' n : Nat} {w : World} {v : Value} {xs : List Value} (h : w.ownsRow B ts 1 v n xs) (hB : B' ≤ B) : w.ownsRow B' ts 1 v n xs := by
  refine ⟨h.1, ?_⟩
  rcases h.2 with h3 | ⟨g, cap, cur, hv, hg, rest⟩
  · exact .inl h3
  · exact .inr ⟨g, cap, cur, hv, Nat.le_trans hB hg, rest⟩
theorem own_look {ts : TypeId} {B n : Nat} {w : World} {v : Value} {xs : List Value} (h : w.ownsRow B ts 1 v n xs) (h0 : 0 < n) : ∃ g c, v = .slice (some ⟨g, 0, none⟩) n c ∧ g < w.heap.size ∧ ∀ i u, xs[i]? = some u → w.cell? ⟨g, i, none⟩ = some u := by
  rcases h.2 with ⟨_, h2⟩ | ⟨g, cap, cur, hv, hg, hh, h1, h2, h3, h4⟩
  · omega
  · refine ⟨g, cap, hv, (Array.getElem?_eq_some_iff.1 hh).1, fun i u hu => ?_⟩
    rw [cell_of_row w g i cur ts (0, 0) hh]
    rw [← h4, List.getElem?_take] at hu
    by_cases e : i < n * 1
    · rw [if_pos e] at hu; simpa using hu
    · rw [if_neg e] at hu; cases hu
theorem own_self {ts : TypeId} {B n : Nat} {w : World} {v : Value} {xs : List Value} (h : w.ownsRow B ts 1 v n xs) : w.ownsRow B ts 1 v xs.length xs := by
  have e : xs.length = n := by have := h.1; omega
  rw [e]; exact h
theorem RowsV.one {t : TypeId} {B : Nat} {w : World} {rows : List (List Int)} {vals : List Value} (h : RowsV t B w rows vals) : ∀ u ∈ vals, u.oneCell' = true := by
  intro u hu
  obtain ⟨i, hi, e⟩ := List.getElem_of_mem hu
  obtain ⟨A, c, h1, _⟩ := h.2 i (by rw [← h.1]; exact hi)
  rw [List.getElem?_eq_getElem hi, e] at h1
  injection h1 with h1
  rw [h1]; rfl
/-- How the search stands, or that it has found too many. -/
def Wlk (n : Nat) (gs : List (List Int)) (M : Nat) (q : List (List Int)) (j k : Nat) : Prop := Srch n gs q j k ∨ (M < q.length ∧ q.Nodup ∧ ∀ y, y ∈ q → Gen n gs y)
theorem Wlk.nd {n M j k : Nat} {gs q : List (List Int)} (h : Wlk n gs M q j k) : q.Nodup := by
  rcases h with h | h
  · exact h.nd
  · exact h.2.1
theorem Wlk.gen {n M j k : Nat} {gs q : List (List Int)} (h : Wlk n gs M q j k) : ∀ y, y ∈ q → Gen n gs y := by
  rcases h with h | h
  · exact h.gen
  · exact h.2.2
theorem Wlk.srch {n M j k : Nat} {gs q : List (List Int)} (h : Wlk n gs M q j k) (hM : q.length ≤ M) : Srch n gs q j k := by
  rcases h with h | h
  · exact h
  · have := h.1; omega
theorem Wlk.over {n M j k : Nat} {gs q : List (List Int)} (h : Wlk n gs M q j k) (hM : M < q.length) (j' k' : Nat) : Wlk n gs M q j' k' := .inr ⟨hM, h.nd, h.gen⟩
theorem Wlk.many {n M j k : Nat} {gs q : List (List Int)} (h : Wlk n gs M q j k) (hM : M < q.length) : ¬ AtMost n gs M := by
  rintro ⟨L, hL, hl⟩
  have := nodup_sub h.nd (fun a ha => (hL.2 a).2 (h.gen a ha))
  omega
end Go.Proofs.Ythnkhljgealjdaa
namespace Go.Proofs.Ythnkhljgealjdaa
open Go Go.RowKit
/-- The number at a place of a list. -/
def elN (xs : List Int) (i : Nat) : Nat := (xs.getD i 0).toNat
/-- A tuple of elements of a set of n. -/
def Tup (n : Nat) (xs : List Int) : Prop := xs.length ≤ 12 ∧ ∀ j, j < xs.length → 0 ≤ xs.getD j 0 ∧ xs.getD j 0 < (n : Int)
theorem Tup.el {n : Nat} {xs : List Int} (h : Tup n xs) {j : Nat} (hj : j < xs.length) : xs.getD j 0 = (elN xs j : Int) ∧ elN xs j < n := by
  have := h.2 j hj
  unfold elN
  omega
/-- What forbids the guitar map. -/
def GuC (f s : List (List Int)) (xs : List Int) (code : Int) : Prop :=
  (SolF f s ∧ Tup f.length xs ∧ NonF f s ∧ code = 0) ∨ (SolF f s ∧ Tup f.length xs ∧ ¬ NonF f s ∧ code = 5) ∨ (SolF f s ∧ ¬ Tup f.length xs ∧ code = 2) ∨ (¬ SolF f s ∧ code = 1)
theorem GuC.ex (f s : List (List Int)) (xs : List Int) : ∃ code, GuC f s xs code := by
  by_cases h : SolF f s
  · by_cases h2 : Tup f.length xs
    · by_cases h3 : NonF f s
      · exact ⟨_, .inl ⟨h, h2, h3, rfl⟩⟩
      · exact ⟨_, .inr (.inl ⟨h, h2, h3, rfl⟩)⟩
    · exact ⟨_, .inr (.inr (.inl ⟨h, h2, rfl⟩))⟩
  · exact ⟨_, .inr (.inr (.inr ⟨h, rfl⟩))⟩
/-- What a function answers that the guitar map's faults forbid; L: the list where none is. -/
def GuL (L : List (List Int) → List Int → List Int) (f s : List (List Int)) (xs zs : List Int) (code : Int) : Prop :=
  GuC f s xs code ∧ ((code = 0 ∧ zs = L f xs) ∨ (code ≠ 0 ∧ zs = []))
/-- An element behind the undoing of the first j of bs. -/
def gbIn (f : List (List Int)) (bs : List Int) (x : Nat) : Nat → Nat
  | 0 => x
  | j + 1 => sol f (elN bs j) (gbIn f bs x j)
/-- The first k elements that the guitar map leads to xs. -/
def gbL (f : List (List Int)) (xs : List Int) : Nat → List Int
  | 0 => []
  | k + 1 => gbL f xs k ++ [((gbIn f (gbL f xs k) (elN xs k) k : Nat) : Int)]
theorem gbL_length (f : List (List Int)) (xs : List Int) (k : Nat) : (gbL f xs k).length = k := by
  induction k with
  | zero => rfl
  | succ k ih => simp [gbL, ih]
def gbA (f : List (List Int)) (xs : List Int) : List Int := gbL f xs xs.length
/-- An element behind the first t lambda, from that before it on. -/
def gmIn (f : List (List Int)) (xs : List Int) (i x : Nat) : Nat → Nat
  | 0 => x
  | t + 1 => ap f (elN xs (i - 1 - t)) (gmIn f xs i x t)
def gmL (f : List (List Int)) (xs : List Int) (k : Nat) : List Int := (List.range k).map fun i => ((gmIn f xs i (elN xs i) i : Nat) : Int)
theorem gmL_length (f : List (List Int)) (xs : List Int) (k : Nat) : (gmL f xs k).length = k := by simp [gmL]
theorem gmL_succ (f : List (List Int)) (xs : List Int) (k : Nat) : gmL f xs (k + 1) = gmL f xs k ++ [((gmIn f xs k (elN xs k) k : Nat) : Int)] := by simp [gmL, List.range_succ]
def gmA (f : List (List Int)) (xs : List Int) : List Int := gmL f xs xs.length
theorem gmA_length (f : List (List Int)) (xs : List Int) : (gmA f xs).length = xs.length := gmL_length _ _ _
theorem gbL_ok {f : List (List Int)} (ht : Tbl f) (hp : AllPrm f) {n : Nat} (hn : f.length = n) {xs : List Int} (hx : Tup n xs) : ∀ k, k ≤ xs.length → ∀ j, j < k → (gbL f xs k).getD j 0 = ((elN (gbL f xs k) j : Nat) : Int) ∧ elN (gbL f xs k) j < n := by
  intro k
  induction k with
  | zero => intro _ j hj; omega
  | succ k ih =>
    intro hk j hj
    have hin : ∀ t, t ≤ k → gbIn f (gbL f xs k) (elN xs k) t < n := by
      intro t
      induction t with
      | zero => intro _; exact (hx.el (by omega)).2
      | succ t iht => intro ht'; exact sol_lt ht hp hn (ih (by omega) t (by omega)).2 (iht (by omega))
    by_cases e : j = k
    · subst e
      have h1 : (gbL f xs (j + 1)).getD j 0 = ((gbIn f (gbL f xs j) (elN xs j) j : Nat) : Int) := by
        simp [gbL, gbL_length]
      have h2 : elN (gbL f xs (j + 1)) j = gbIn f (gbL f xs j) (elN xs j) j := by unfold elN; rw [h1]; simp [elN]
      rw [h1, h2]
      exact ⟨rfl, hin j (Nat.le_refl _)⟩
    · have h1 : (gbL f xs (k + 1)).getD j 0 = (gbL f xs k).getD j 0 := by
        have hl : j < (gbL f xs k).length := by rw [gbL_length]; omega
        simp only [gbL, List.getD_eq_getElem?_getD]
        rw [List.getElem?_append_left hl]
      have h2 : elN (gbL f xs (k + 1)) j = elN (gbL f xs k) j := by unfold elN; rw [h1]
      rw [h1, h2]
      exact ih (by omega) j (by omega)
theorem gbIn_lt {f : List (List Int)} (ht : Tbl f) (hp : AllPrm f) {n : Nat} (hn : f.length = n) {xs : List Int} (hx : Tup n xs) {k : Nat} (hk : k < xs.length) : ∀ t, t ≤ k → gbIn f (gbL f xs k) (elN xs k) t < n := by
  intro t
  induction t with
  | zero => intro _; exact (hx.el hk).2
  | succ t iht => intro ht'; exact sol_lt ht hp hn (gbL_ok ht hp hn hx k (by omega) t (by omega)).2 (iht (by omega))
theorem gmIn_lt {f : List (List Int)} (ht : Tbl f) {n : Nat} (hn : f.length = n) {xs : List Int} (hx : Tup n xs) {i : Nat} (hi : i < xs.length) : ∀ t, t ≤ i → gmIn f xs i (elN xs i) t < n := by
  intro t
  induction t with
  | zero => intro _; exact (hx.el hi).2
  | succ t iht => intro ht'; exact ht.ap_lt hn (hx.el (by omega)).2 (iht (by omega))
theorem GuL.ex (L : List (List Int) → List Int → List Int) (hL : ∀ f xs, (L f xs).length = xs.length) (f s : List (List Int)) (xs : List Int) : ∃ zs code, GuL L f s xs zs code ∧ zs.length ≤ 1048576 := by
  obtain ⟨code, h⟩ := GuC.ex f s xs
  by_cases hc : code = 0
  · refine ⟨_, _, ⟨h, .inl ⟨hc, rfl⟩⟩, ?_⟩
    rw [hL]
    rcases h with ⟨_, h, _⟩ | ⟨_, _, _, h⟩ | ⟨_, _, h⟩ | ⟨_, h⟩
    · have := h.1; omega
    · omega
    · omega
    · omega
  · exact ⟨_, _, ⟨h, .inr ⟨hc, rfl⟩⟩, by simp⟩
def GbRes := GuL gbA
def GmRes := GuL gmA
theorem GbRes.ex (f s : List (List Int)) (xs : List Int) : ∃ zs code, GbRes f s xs zs code ∧ zs.length ≤ 1048576 := GuL.ex gbA (fun f xs => gbL_length f xs _) f s xs
theorem GmRes.ex (f s : List (List Int)) (xs : List Int) : ∃ zs code, GmRes f s xs zs code ∧ zs.length ≤ 1048576 := GuL.ex gmA gmA_length f s xs
end Go.Proofs.Ythnkhljgealjdaa
namespace Go.Proofs.Ythnkhljgealjdaa
open Go Go.RowKit
set_option maxHeartbeats 2000000
theorem ivsInfo2 : (Try.prog.info? 25).map (fun i => (i.zero, i.size, i.bytes)) = some (some (.slice none 0 0), 1, 24) := by kernel_rfl

end Go.Proofs.Ythnkhljgealjdaa
namespace Go.Proofs.Ythnkhljgealjdaa
open Go Go.RowKit
/-! A list of rows that is shifted up in place. -/
/-- Of the older blocks only that of o is changed. -/
structure Chg (o : Nat) (w w' : World) : Prop where
  size : w.heap.size ≤ w'.heap.size
  block : ∀ k, k < w.heap.size → k ≠ o → w'.heap[k]? = w.heap[k]?
theorem Chg.refl (o : Nat) (w : World) : Chg o w w := ⟨Nat.le_refl _, fun _ _ _ => rfl⟩
theorem Chg.of_below {o : Nat} {w w' : World} (h : Below w.heap.size w w') : Chg o w w' := ⟨h.size, fun k hk _ => h.block k hk⟩
theorem Chg.trans {o : Nat} {a b c : World} (h : Chg o a b) (h2 : Chg o b c) : Chg o a c := ⟨Nat.le_trans h.size h2.size, fun k hk hne => (h2.block k (Nat.lt_of_lt_of_le hk h.size) hne).trans (h.block k hk hne)⟩
theorem Chg.store {o g i : Nat} {w w' : World} (h : Chg o w w') (hg : g = o ∨ w.heap.size ≤ g) (u : Value) : Chg o w (w'.setCell ⟨g, i, none⟩ u) :=
  ⟨by simpa [World.setCell] using h.size, fun k hk hne => (Below.heap_setCell w' ⟨g, i, none⟩ u k (by show k ≠ g; rcases hg with e | e <;> omega)).trans (h.block k hk hne)⟩
theorem Chg.grown {o : Nat} {w w1 w2 : World} {b : Option Nat} (h : Chg o w w1) (hg : w1.grownBy w2 b) (hb : b = some o ∨ b = none ∨ ∃ g, b = some g ∧ w.heap.size ≤ g) : Chg o w w2 :=
  ⟨Nat.le_trans h.size hg.size, fun k hk hne => (hg.block k (Nat.lt_of_lt_of_le hk h.size) (fun e => by
    rcases hb with e2 | e2 | ⟨g, e2, h2⟩
    · rw [e2] at e; injection e with e; exact hne e
    · rw [e2] at e; cases e
    · rw [e2] at e; injection e with e; omega)).trans (h.block k hk hne)⟩
theorem Chg.keepT {ts t : TypeId} {B o n : Nat} {w w' : World} {v : Value} {xs : List Value} (hne : ts ≠ t) (h : Chg o w w') (hv : v.ownBlock = some o) (hown : w.ownsRow B ts 1 v n xs) : KeepT t w w' := by
  intro k cur e
  refine (h.block k (Array.getElem?_eq_some_iff.1 e).1 (fun e2 => ?_)).trans e
  rcases hown.2 with ⟨h1, _⟩ | ⟨g, cap, cur2, h1, _, hh, _⟩
  · rw [h1] at hv; simp [Value.ownBlock] at hv
  · rw [h1] at hv
    simp [Value.ownBlock] at hv
    subst hv
    subst e2
    rw [hh] at e
    injection e with e
    injection e with _ e
    exact hne e
/-- A place of the row is written. -/
theorem own_set {ts : TypeId} {B n g cap i : Nat} {w : World} {xs : List Value} (h : w.ownsRow B ts 1 (.slice (some ⟨g, 0, none⟩) n cap) n xs) (u : Value) : (w.setCell ⟨g, i, none⟩ u).ownsRow B ts 1 (.slice (some ⟨g, 0, none⟩) n cap) n (xs.set i u) := by
  refine ⟨by simpa using h.1, ?_⟩
  rcases h.2 with ⟨h1, _⟩ | ⟨g', cap', cur, hv, hb, hh, h1, h2, h3, h4⟩
  · cases h1
  · injection hv with hv _ hc
    injection hv with hv
    injection hv with hv
    subst hv
    subst hc
    refine .inr ⟨g, cap, cur.set! i u, rfl, hb, ?_, h1, h2, by simpa using h3, ?_⟩
    · simp [World.setCell, Array.getElem?_modify, hh]
    · rw [← h4]
      simp [List.take_set]
theorem own_frozen {ts : TypeId} {B n g cap : Nat} {w : World} {xs : List Value} (h : w.ownsRow B ts 1 (.slice (some ⟨g, 0, none⟩) n cap) n xs) (i : Nat) : w.frozen? ⟨g, i, none⟩ = false := by
  rcases h.2 with ⟨h1, _⟩ | ⟨g', cap', cur, hv, hb, hh, _⟩
  · cases h1
  · injection hv with hv _ hc
    injection hv with hv
    injection hv with hv
    subst hv
    simp [World.frozen?, hh]
theorem own_cell {ts : TypeId} {B n g cap : Nat} {w : World} {xs : List Value} (h : w.ownsRow B ts 1 (.slice (some ⟨g, 0, none⟩) n cap) n xs) (i : Nat) (hi : i < n) : ∃ u, xs[i]? = some u ∧ w.cell? ⟨g, i, none⟩ = some u := by
  have hl : xs.length = n := by have := h.1; omega
  obtain ⟨g', c', hv, _, hc⟩ := own_look h (by omega)
  injection hv with hv _ _
  injection hv with hv
  injection hv with hv
  subst hv
  exact ⟨xs[i], List.getElem?_eq_getElem (by omega), hc i _ (List.getElem?_eq_getElem (by omega))⟩
/-- The places behind k hold what stood one place before. -/
structure Shf (vals : List Value) (m k : Nat) (xs : List Value) : Prop where
  len : xs.length = m + 1
  lo : ∀ i, i < k → xs[i]? = vals[i]?
  hi : ∀ i, k < i → i ≤ m → xs[i]? = vals[i - 1]?
theorem Shf.start {vals : List Value} {m : Nat} (h : vals.length = m) (u : Value) : Shf vals m m (vals ++ [u]) :=
  ⟨by simp [h], fun i hi => by rw [List.getElem?_append_left (by omega)], fun i h1 h2 => by omega⟩
theorem Shf.step {vals xs : List Value} {m k : Nat} (h : Shf vals m (k + 1) xs) (hk : k + 1 ≤ m) {u : Value} (hu : vals[k]? = some u) : Shf vals m k (xs.set (k + 1) u) :=
  ⟨by simpa using h.len, fun i hi => by rw [List.getElem?_set_ne (by omega)]; exact h.lo i (by omega), fun i h1 h2 => by
    by_cases e : i = k + 1
    · subst e
      rw [List.getElem?_set_self (by have := h.len; omega), show k + 1 - 1 = k by omega, hu]
    · rw [List.getElem?_set_ne (by omega)]; exact h.hi i (by omega) h2⟩
theorem Shf.fin {vals xs : List Value} {m k : Nat} (h : Shf vals m k xs) (hv : vals.length = m) (hk : k ≤ m) (u : Value) : xs.set k u = vals.take k ++ u :: vals.drop k := by
  apply List.ext_getElem?
  intro i
  rw [ins_at vals k u (by omega) i]
  by_cases h1 : i < k
  · rw [if_pos h1, List.getElem?_set_ne (by omega)]; exact h.lo i h1
  · rw [if_neg h1]
    by_cases e : i = k
    · subst e
      rw [if_pos rfl, List.getElem?_set_self (by have := h.len; omega)]
    · rw [if_neg e, List.getElem?_set_ne (by omega)]
      by_cases h2 : i ≤ m
      · exact h.hi i (by omega) h2
      · rw [List.getElem?_eq_none (by have := h.len; omega), List.getElem?_eq_none (by omega)]
end Go.Proofs.Ythnkhljgealjdaa
namespace Go.Proofs.Ythnkhljgealjdaa
open Go Go.RowKit
/-- A tuple behind a move. -/
def mvL (h1 h2 : Nat → Nat → Int) (xs : List Int) (k : Nat) : List Int := (xs.set k (h1 (elN xs k) (elN xs (k + 1)))).set (k + 1) (h2 (elN xs k) (elN xs (k + 1)))
theorem mvL_length (h1 h2 : Nat → Nat → Int) (xs : List Int) (k : Nat) : (mvL h1 h2 xs k).length = xs.length := by simp [mvL]
/-- What a move answers. -/
def MvR (n : Nat) (h1 h2 : Nat → Nat → Int) (xs : List Int) (k : Int) (zs : List Int) (code : Int) : Prop :=
  ((Tup n xs ∧ 0 ≤ k ∧ k + 2 ≤ (xs.length : Int)) ∧ zs = mvL h1 h2 xs k.toNat ∧ code = 0) ∨ (¬ (Tup n xs ∧ 0 ≤ k ∧ k + 2 ≤ (xs.length : Int)) ∧ zs = [] ∧ code = 2)
theorem MvR.ex (n : Nat) (h1 h2 : Nat → Nat → Int) (xs : List Int) (k : Int) : ∃ zs code, MvR n h1 h2 xs k zs code ∧ zs.length ≤ 1048576 := by
  by_cases h : Tup n xs ∧ 0 ≤ k ∧ k + 2 ≤ (xs.length : Int)
  · exact ⟨_, _, .inl ⟨h, rfl, rfl⟩, by rw [mvL_length]; have := h.1.1; omega⟩
  · exact ⟨_, _, .inr ⟨h, rfl, rfl⟩, by simp⟩
def GdR (good : Prop) (R : List Int → Int → Prop) (zs : List Int) (code : Int) : Prop := (good ∧ R zs code) ∨ (¬ good ∧ zs = [] ∧ code = 1)
theorem GdR.ex {good : Prop} {R : List Int → Int → Prop} (h : ∃ zs code, R zs code ∧ zs.length ≤ 1048576) : ∃ zs code, GdR good R zs code ∧ zs.length ≤ 1048576 := by
  by_cases hg : good
  · obtain ⟨zs, code, h1, h2⟩ := h
    exact ⟨zs, code, .inl ⟨hg, h1⟩, h2⟩
  · exact ⟨_, _, .inr ⟨hg, rfl, rfl⟩, by simp⟩
def leH (f : List (List Int)) : Nat → Nat → Int := fun x y => ((ap f x y : Nat) : Int)
def caH1 : Nat → Nat → Int := fun _ y => (y : Int)
def caH2 (f : List (List Int)) : Nat → Nat → Int := fun x y => ((ap f y x : Nat) : Int)
def TmRes (f s : List (List Int)) (xs : List Int) (k : Int) : List Int → Int → Prop := GdR (SolF f s) (MvR f.length (leH f) (leH s) xs k)
theorem TmRes.ex (f s : List (List Int)) (xs : List Int) (k : Int) : ∃ zs code, TmRes f s xs k zs code ∧ zs.length ≤ 1048576 := GdR.ex (MvR.ex _ _ _ _ _)
def RmRes (f : List (List Int)) (xs : List Int) (k : Int) : List Int → Int → Prop := GdR (Rck f) (MvR f.length caH1 (caH2 f) xs k)
theorem RmRes.ex (f : List (List Int)) (xs : List Int) (k : Int) : ∃ zs code, RmRes f xs k zs code ∧ zs.length ≤ 1048576 := GdR.ex (MvR.ex _ _ _ _ _)
end Go.Proofs.Ythnkhljgealjdaa
namespace Go.Proofs.Ythnkhljgealjdaa
open Go Go.RowKit
set_option maxHeartbeats 2000000

end Go.Proofs.Ythnkhljgealjdaa
namespace Go.Proofs.Ythnkhljgealjdaa
open Go Go.RowKit
set_option maxHeartbeats 4000000
set_option maxRecDepth 100000 in
theorem put_any (g m cap B n d : Nat) (P : Option Addr) (vals : List Value) (l : List (List Int)) (p : List Int) (w : World) (hown : w.ownsRow B 25 1 (.slice (some ⟨g, 0, none⟩) m cap) m vals) (hrv : RowsV 2 B w l vals) (hm : l.length = m) (h0 : 0 < m) (hmb : m ≤ 1048575) (hll : ∀ i, i < l.length → (l.getD i []).length = n) (hp : p.length = n) (hn : n ≤ 12) (hasc : Asc l) (hrp : Rd w P p) (hB : B ≤ w.heap.size) :
    Calls Try.prog 19 #[.slice (some ⟨g, 0, none⟩) m cap, .slice P n d] w fun e w' => ∃ k, Plc l p k k ∧ ((p ∈ l ∧ e = .returned (.tuple #[.slice (some ⟨g, 0, none⟩) m cap, .bool false]) ∧ Quiet w w') ∨ (p ∉ l ∧ ∃ g' cap', e = .returned (.tuple #[.slice (some ⟨g', 0, none⟩) (m + 1) cap', .bool true]) ∧ Below B w w' ∧ Chg g w w' ∧ (g' = g ∨ w.heap.size ≤ g') ∧ w'.ownsRow B 25 1 (.slice (some ⟨g', 0, none⟩) (m + 1) cap') (m + 1) (vals.take k ++ .slice P n d :: vals.drop k))) := by
  have HOW := hide hown
  have HRV := hide hrv
  have HM := hide hm
  have HLL := hide hll
  have HP := hide hp
  have HA := hide hasc
  have HRP := hide hrp
  obtain ⟨g0, c0, e0, hg, hcl⟩ := own_look hown h0
  injection e0 with e0 _ e1
  injection e0 with e0
  injection e0 with e0
  subst e0
  subst e1
  have HCL := hide hcl
  have hcap : m ≤ cap := by
    rcases hown.2 with ⟨e, _⟩ | ⟨_, cap', _, e, _, _, h1, _⟩
    · cases e
    · injection e with _ _ e; omega
  obtain ⟨i2, hj, hy0, hy1, hy2⟩ := info_parts neInfo2
  clear hown hrv hm hll hp hasc hrp hcl
  go_enter Try.func19, Try.ntmps19
  go_wp2_with fail
  go_loopw [6, 7] (fun v i wr => ∃ lo hi : Nat, v = .int .i64 lo ∧ i = .int .i64 hi ∧ Plc l p lo hi ∧ Quiet w wr) (fun v i _ => (intOf i).toNat - (intOf v).toNat)
  case atStart => exact ⟨0, m, rfl, rfl, by have h := Plc.start l p; rw [HM.out] at h; exact h, Quiet.refl w⟩
  case round =>
    obtain ⟨lo, hi, rfl, rfl, hpl, hq⟩ := hrel
    have hle := hpl.le
    have htop := hpl.top
    rw [HM.out] at htop
    have HPLC := hide hpl
    have HQ := hide hq
    clear hpl hq
    by_cases hlt : lo < hi
    · have hltz : (lo : Int) < hi := by omega
      obtain ⟨mid, hmid⟩ : ∃ mid, (lo + hi) / 2 = mid := ⟨_, rfl⟩
      have hhalf := half lo hi
      rw [hmid] at hhalf
      have hm1 : lo ≤ mid := by omega
      have hm2 : mid < hi := by omega
      clear hmid
      have hmidz : (mid : Int) < m := by omega
      obtain ⟨Am, cm, hvm, hom⟩ := HRV.out.2 mid (by rw [HM.out]; omega)
      rw [HLL.out mid (by rw [HM.out]; omega)] at hvm
      have hcm := (HQ.out.cell ⟨g, mid, none⟩).trans (HCL.out mid _ hvm)
      have HRM := hide (HQ.out.rd hom.rd)
      clear hvm hom
      go_wp2_with fail
      refine (less_any Am P n cm d (l.getD mid []) p _ (HLL.out mid (by rw [HM.out]; omega)) HP.out (by omega) HRM.out (HQ.out.rd HRP.out)).mono ?_
      rintro e w2 ⟨rfl, hq2⟩
      have HQ2 := hide (HQ.out.trans hq2)
      clear hq2
      cases hls : lessL (l.getD mid []) p with
      | true =>
        have HLS := hide hls
        clear hls
        go_wp2_with fail
        go_roundw
        case rel => exact ⟨mid + 1, hi, by go_num, rfl, HPLC.out.up HA.out ⟨hm1, hm2⟩ HLS.out, HQ2.out⟩
        case measure => simp [intOf]; omega
      | false =>
        have HLS := hide hls
        clear hls
        go_wp2_with fail
        go_roundw
        case rel => exact ⟨lo, mid, rfl, rfl, HPLC.out.down HA.out ⟨hm1, hm2⟩ HLS.out, HQ2.out⟩
        case measure => simp [intOf]; omega
    · have hee : lo = hi := by omega
      subst hee
      by_cases hin : p ∈ l
      · obtain ⟨hk, heq⟩ := (HPLC.out.mem HA.out).1 hin
        rw [HM.out] at hk
        have hkz : (lo : Int) < m := by omega
        obtain ⟨Am, cm, hvm, hom⟩ := HRV.out.2 lo (by rw [HM.out]; omega)
        rw [HLL.out lo (by rw [HM.out]; omega)] at hvm
        have hcm := (HQ.out.cell ⟨g, lo, none⟩).trans (HCL.out lo _ hvm)
        have HRM := hide (HQ.out.rd hom.rd)
        have HIN := hide hin
        have HEQ := hide heq
        clear hvm hom hin heq
        go_wp2_with fail
        refine (same_any Am P n cm n d (l.getD lo []) p true _ (HLL.out lo (by rw [HM.out]; exact hk)) HP.out (by omega) (by omega) HRM.out (HQ.out.rd HRP.out) ⟨fun _ => HEQ.out, fun _ => rfl⟩).mono ?_
        rintro e w2 ⟨rfl, hq2⟩
        have HQ2 := hide (HQ.out.trans hq2)
        clear hq2
        go_wp2_with fail
        go_ret2
        exact ⟨lo, HPLC.out, .inl ⟨HIN.out, rfl, HQ2.out⟩⟩
      · have HNIN := hide hin
        have hlom : lo ≤ m := by omega
        clear hin
        by_cases hk : lo < m
        · have hkz : (lo : Int) < m := by omega
          have hne : l.getD lo [] ≠ p := fun e => HNIN.out ((HPLC.out.mem HA.out).2 ⟨by rw [HM.out]; exact hk, e⟩)
          obtain ⟨Am, cm, hvm, hom⟩ := HRV.out.2 lo (by rw [HM.out]; omega)
          rw [HLL.out lo (by rw [HM.out]; omega)] at hvm
          have hcm := (HQ.out.cell ⟨g, lo, none⟩).trans (HCL.out lo _ hvm)
          have HRM := hide (HQ.out.rd hom.rd)
          have HNE := hide hne
          clear hvm hom hne
          go_wp2_with fail
          refine (same_any Am P n cm n d (l.getD lo []) p false _ (HLL.out lo (by rw [HM.out]; exact hk)) HP.out (by omega) (by omega) HRM.out (HQ.out.rd HRP.out) ⟨fun h => (Bool.noConfusion h), fun h => absurd h HNE.out⟩).mono ?_
          rintro e w2 ⟨rfl, hq2⟩
          have HQ2 := hide (HQ.out.trans hq2)
          clear hq2 hcm HRM HNE
          have HB2 := hide (HQ2.out.below w.heap.size)
          have hs2 := HB2.out.size
          have HOW2 := hide (ownsRow_below HOW.out HB2.out)
          have HON : Hid (∀ u ∈ [Value.slice P n d], u.oneCell' = true) := hide (by intro u hu; simp at hu; subst hu; rfl)
          go_wp2_with (at_builtin; refine wpList_append_own_at _ rfl _ _ 22 rfl B 25 i2 (.slice none 0 0) 1 24 Try.underlying22 hj hy0 hy1 hy2 rfl (by decide) _ _ _ rfl (HOW2.out.alloc _) ⟨w2.heap.size, 0, none⟩ 1 1 [.slice P n d] rfl rfl ?c1 ?c2 ?c3 ?c4 ?c5 ?_)
          case c1 => exact ne_new
          case c2 => exact HON.out
          case c3 => unfold maxLen; omega
          case c4 => omega
          case c5 => simp; omega
          intro v9 w9 hown9 hgrow9 _ hat9
          have HAL : Hid (Below w.heap.size w (w2.alloc (.cells #[.slice P n d] 25))) := hide (HB2.out.alloc hs2 _)
          have HCH9 : Hid (Chg g w w9) := hide ((Chg.of_below HAL.out).grown hgrow9 (.inl rfl))
          have HB9 : Hid (Below B w w9) := hide ((HAL.out.mono hB).grown hgrow9 (by simp; omega) (fun g hg => ((HOW2.out.alloc (.cells #[.slice P n d] 25)).lt g hg).1))
          have HO9 := hide hown9
          obtain ⟨g9, c9, hv9, hg9, hcl9⟩ := own_look hown9 (by omega)
          subst hv9
          have hgg : g9 = g ∨ w.heap.size ≤ g9 := by
            rcases hat9 with e | e
            · simp [Value.ownBlock] at e; exact .inl e
            · simp [Value.ownBlock] at e; exact .inr (by omega)
          have HSH : Hid (Shf vals m m (vals ++ [.slice P n d])) := hide (Shf.start (by rw [HRV.out.1, HM.out]) _)
          clear hown9 hgrow9 hat9 hcl9 HAL HB2 HOW2 HQ2
          go_wp2_with fail
          go_loopw [10] (fun i wr => ∃ (k : Nat) (xs : List Value), lo ≤ k ∧ k ≤ m ∧ i = .int .i64 k ∧ Shf vals m k xs ∧ wr.ownsRow B 25 1 (.slice (some ⟨g9, 0, none⟩) (m + 1) c9) (m + 1) xs ∧ Below B w wr ∧ Chg g w wr) (fun i _ => (intOf i).toNat)
          case atStart => exact ⟨m, _, hlom, Nat.le_refl _, by go_num, HSH.out, HO9.out, HB9.out, HCH9.out⟩
          case round =>
            obtain ⟨k, xs, hk1, hk2, rfl, hshf, hox, hbx, hcx⟩ := hrel
            have HSF := hide hshf
            have HOX := hide hox
            have HBX := hide hbx
            have HCX := hide hcx
            clear hshf hox hbx hcx HO9 HB9 HCH9 HSH
            by_cases hlk : lo < k
            · obtain ⟨k1, rfl⟩ : ∃ k1, k = k1 + 1 := ⟨k - 1, by omega⟩
              have hlkz : (lo : Int) < (k1 : Int) + 1 := by omega
              obtain ⟨u1, hu1, hcu1⟩ := own_cell HOX.out k1 (by omega)
              obtain ⟨u2, hu2, hcu2⟩ := own_cell HOX.out (k1 + 1) (by omega)
              have hfr := own_frozen HOX.out (k1 + 1)
              have hvu : vals[k1]? = some u1 := by rw [← HSF.out.lo k1 (by omega)]; exact hu1
              obtain ⟨Au, cu, hue, hou⟩ := HRV.out.2 k1 (by rw [HM.out]; omega)
              rw [HLL.out k1 (by rw [HM.out]; omega)] at hue
              have hvu2 := hvu
              rw [hue] at hvu2
              injection hvu2 with hvu2
              subst hvu2
              have HVU := hide hvu
              clear hu1 hu2 hou hue hvu
              go_wp2_with fail
              go_roundw
              case rel =>
                exact ⟨k1, _, by omega, by omega, by go_num, HSF.out.step hk2 HVU.out, own_set HOX.out _, HBX.out.setCell (p := ⟨g9, k1 + 1, none⟩) (own_lt HOX.out rfl).1 _, HCX.out.store hgg _⟩
              case measure => simp [intOf]
            · have hke : k = lo := by omega
              subst hke
              obtain ⟨u2, hu2, hcu2⟩ := own_cell HOX.out k (by omega)
              have hfr := own_frozen HOX.out k
              have hkz2 : (k : Int) < (m : Int) + 1 := by omega
              clear hu2
              go_wp2_with fail
              go_ret2
              refine ⟨k, HPLC.out, .inr ⟨HNIN.out, g9, c9, rfl, HBX.out.setCell (p := ⟨g9, k, none⟩) (own_lt HOX.out rfl).1 _, HCX.out.store hgg _, hgg, ?_⟩⟩
              have h := own_set (i := k) HOX.out (.slice P n d)
              rw [HSF.out.fin (by rw [HRV.out.1, HM.out]) (by omega)] at h
              exact h
        · have hgez : (m : Int) ≤ lo := by omega
          obtain ⟨w2, hw2⟩ : ∃ w2, w2 = wr := ⟨_, rfl⟩
          subst hw2
          have HQ2 := hide HQ.out
          have HB2 := hide (HQ2.out.below w.heap.size)
          have hs2 := HB2.out.size
          have HOW2 := hide (ownsRow_below HOW.out HB2.out)
          have HON : Hid (∀ u ∈ [Value.slice P n d], u.oneCell' = true) := hide (by intro u hu; simp at hu; subst hu; rfl)
          go_wp2_with (at_builtin; refine wpList_append_own_at _ rfl _ _ 22 rfl B 25 i2 (.slice none 0 0) 1 24 Try.underlying22 hj hy0 hy1 hy2 rfl (by decide) _ _ _ rfl (HOW2.out.alloc _) ⟨w2.heap.size, 0, none⟩ 1 1 [.slice P n d] rfl rfl ?c1 ?c2 ?c3 ?c4 ?c5 ?_)
          case c1 => exact ne_new
          case c2 => exact HON.out
          case c3 => unfold maxLen; omega
          case c4 => omega
          case c5 => simp; omega
          intro v9 w9 hown9 hgrow9 _ hat9
          have HAL : Hid (Below w.heap.size w (w2.alloc (.cells #[.slice P n d] 25))) := hide (HB2.out.alloc hs2 _)
          have HCH9 : Hid (Chg g w w9) := hide ((Chg.of_below HAL.out).grown hgrow9 (.inl rfl))
          have HB9 : Hid (Below B w w9) := hide ((HAL.out.mono hB).grown hgrow9 (by simp; omega) (fun g hg => ((HOW2.out.alloc (.cells #[.slice P n d] 25)).lt g hg).1))
          have HO9 := hide hown9
          obtain ⟨g9, c9, hv9, hg9, hcl9⟩ := own_look hown9 (by omega)
          subst hv9
          have hgg : g9 = g ∨ w.heap.size ≤ g9 := by
            rcases hat9 with e | e
            · simp [Value.ownBlock] at e; exact .inl e
            · simp [Value.ownBlock] at e; exact .inr (by omega)
          have HSH : Hid (Shf vals m m (vals ++ [.slice P n d])) := hide (Shf.start (by rw [HRV.out.1, HM.out]) _)
          clear hown9 hgrow9 hat9 hcl9 HAL HB2 HOW2 HQ2
          go_wp2_with fail
          go_loopw [10] (fun i wr => ∃ (k : Nat) (xs : List Value), lo ≤ k ∧ k ≤ m ∧ i = .int .i64 k ∧ Shf vals m k xs ∧ wr.ownsRow B 25 1 (.slice (some ⟨g9, 0, none⟩) (m + 1) c9) (m + 1) xs ∧ Below B w wr ∧ Chg g w wr) (fun i _ => (intOf i).toNat)
          case atStart => exact ⟨m, _, hlom, Nat.le_refl _, by go_num, HSH.out, HO9.out, HB9.out, HCH9.out⟩
          case round =>
            obtain ⟨k, xs, hk1, hk2, rfl, hshf, hox, hbx, hcx⟩ := hrel
            have HSF := hide hshf
            have HOX := hide hox
            have HBX := hide hbx
            have HCX := hide hcx
            clear hshf hox hbx hcx HO9 HB9 HCH9 HSH
            by_cases hlk : lo < k
            · exact absurd hlk (by omega)
            · have hke : k = lo := by omega
              subst hke
              obtain ⟨u2, hu2, hcu2⟩ := own_cell HOX.out k (by omega)
              have hfr := own_frozen HOX.out k
              have hkz2 : (k : Int) < (m : Int) + 1 := by omega
              clear hu2
              go_wp2_with fail
              go_ret2
              refine ⟨k, HPLC.out, .inr ⟨HNIN.out, g9, c9, rfl, HBX.out.setCell (p := ⟨g9, k, none⟩) (own_lt HOX.out rfl).1 _, HCX.out.store hgg _, hgg, ?_⟩⟩
              have h := own_set (i := k) HOX.out (.slice P n d)
              rw [HSF.out.fin (by rw [HRV.out.1, HM.out]) (by omega)] at h
              exact h
end Go.Proofs.Ythnkhljgealjdaa
namespace Go.Proofs.Ythnkhljgealjdaa
open Go Go.RowKit
/-! Moves of tuples by a bijection of pairs: what is reached by them, and a search for it. -/
theorem text_getD {xs ys : List Int} (hl : xs.length = ys.length) (h : ∀ j, j < xs.length → xs.getD j 0 = ys.getD j 0) : xs = ys := by
  refine List.ext_getElem hl fun i h1 h2 => ?_
  have := h i h1
  simpa [h1, h2] using this
/-- h leads pairs of elements of a set of n, and b leads them back. -/
structure PB (n : Nat) (h1 h2 b1 b2 : Nat → Nat → Int) : Prop where
  h1r : ∀ x y, x < n → y < n → 0 ≤ h1 x y ∧ h1 x y < (n : Int)
  h2r : ∀ x y, x < n → y < n → 0 ≤ h2 x y ∧ h2 x y < (n : Int)
  b1r : ∀ x y, x < n → y < n → 0 ≤ b1 x y ∧ b1 x y < (n : Int)
  b2r : ∀ x y, x < n → y < n → 0 ≤ b2 x y ∧ b2 x y < (n : Int)
  hb1 : ∀ x y, x < n → y < n → h1 (b1 x y).toNat (b2 x y).toNat = (x : Int)
  hb2 : ∀ x y, x < n → y < n → h2 (b1 x y).toNat (b2 x y).toNat = (y : Int)
  bh1 : ∀ x y, x < n → y < n → b1 (h1 x y).toNat (h2 x y).toNat = (x : Int)
  bh2 : ∀ x y, x < n → y < n → b2 (h1 x y).toNat (h2 x y).toNat = (y : Int)
section
variable {n : Nat} {h1 h2 b1 b2 : Nat → Nat → Int}
theorem PB.swap (h : PB n h1 h2 b1 b2) : PB n b1 b2 h1 h2 := ⟨h.b1r, h.b2r, h.h1r, h.h2r, h.bh1, h.bh2, h.hb1, h.hb2⟩
theorem mvL_at (xs : List Int) (k j : Nat) (hk : k + 1 < xs.length) : (mvL h1 h2 xs k).getD j 0 = if j = k + 1 then h2 (elN xs k) (elN xs (k + 1)) else if j = k then h1 (elN xs k) (elN xs (k + 1)) else xs.getD j 0 := by
  unfold mvL
  simp only [List.getD_eq_getElem?_getD, List.getElem?_set, List.length_set]
  by_cases e1 : j = k + 1
  · subst e1
    simp [hk]
  · rw [if_neg (Ne.symm e1), if_neg e1]
    by_cases e2 : j = k
    · subst e2
      have : j < xs.length := by omega
      simp [this]
    · rw [if_neg (Ne.symm e2), if_neg e2]
theorem mvL_tup (h : PB n h1 h2 b1 b2) {xs : List Int} (ht : Tup n xs) {k : Nat} (hk : k + 1 < xs.length) : Tup n (mvL h1 h2 xs k) := by
  have hx := (ht.el (j := k) (by omega)).2
  have hy := (ht.el (j := k + 1) hk).2
  refine ⟨by rw [mvL_length]; exact ht.1, fun j hj => ?_⟩
  rw [mvL_length] at hj
  rw [mvL_at xs k j hk]
  by_cases e1 : j = k + 1
  · rw [if_pos e1]; exact h.h2r _ _ hx hy
  · rw [if_neg e1]
    by_cases e2 : j = k
    · rw [if_pos e2]; exact h.h1r _ _ hx hy
    · rw [if_neg e2]; exact ht.2 j hj
theorem mvL_back (h : PB n h1 h2 b1 b2) {xs : List Int} (ht : Tup n xs) {k : Nat} (hk : k + 1 < xs.length) : mvL b1 b2 (mvL h1 h2 xs k) k = xs := by
  have ex := ht.el (j := k) (by omega)
  have ey := ht.el (j := k + 1) hk
  have hk2 : k + 1 < (mvL h1 h2 xs k).length := by rw [mvL_length]; exact hk
  have e1 : elN (mvL h1 h2 xs k) k = (h1 (elN xs k) (elN xs (k + 1))).toNat := by
    unfold elN
    rw [mvL_at xs k k hk, if_neg (by omega), if_pos rfl]
    rfl
  have e2 : elN (mvL h1 h2 xs k) (k + 1) = (h2 (elN xs k) (elN xs (k + 1))).toNat := by
    have h9 := mvL_at (h1 := h1) (h2 := h2) xs k (k + 1) hk
    rw [if_pos rfl] at h9
    show ((mvL h1 h2 xs k).getD (k + 1) 0).toNat = _
    rw [h9]
  refine text_getD (by rw [mvL_length, mvL_length]) fun j hj => ?_
  rw [mvL_at _ k j hk2, e1, e2, h.bh1 _ _ ex.2 ey.2, h.bh2 _ _ ex.2 ey.2, ← ex.1, ← ey.1]
  by_cases c1 : j = k + 1
  · rw [if_pos c1, c1]
  · rw [if_neg c1]
    by_cases c2 : j = k
    · rw [if_pos c2, c2]
    · rw [if_neg c2, mvL_at xs k j hk, if_neg c1, if_neg c2]
theorem mvL_inj (h : PB n h1 h2 b1 b2) {xs ys : List Int} (hx : Tup n xs) (hy : Tup n ys) {k : Nat} (hk : k + 1 < xs.length) (hk2 : k + 1 < ys.length) (e : mvL h1 h2 xs k = mvL h1 h2 ys k) : xs = ys := by
  rw [← mvL_back h hx hk, e, mvL_back h hy hk2]
/-- Moves lead from x to it. -/
inductive Tch (h1 h2 : Nat → Nat → Int) (x : List Int) : List Int → Prop
  | refl : Tch h1 h2 x x
  | step {y : List Int} {k : Nat} : Tch h1 h2 x y → k + 1 < x.length → Tch h1 h2 x (mvL h1 h2 y k)
theorem Tch.len {x y : List Int} (h : Tch h1 h2 x y) : y.length = x.length := by
  induction h with
  | refl => rfl
  | step _ _ ih => rw [mvL_length]; exact ih
theorem Tch.tup {x y : List Int} (hp : PB n h1 h2 b1 b2) (ht : Tup n x) (h : Tch h1 h2 x y) : Tup n y := by
  induction h with
  | refl => exact ht
  | step h9 hk ih => exact mvL_tup hp ih (by rw [h9.len]; exact hk)
theorem Tch.trans {x y z : List Int} (h : Tch h1 h2 x y) (k : Tch h1 h2 y z) : Tch h1 h2 x z := by
  induction k with
  | refl => exact h
  | step _ hk ih => exact .step ih (by rw [← h.len]; exact hk)
/-- All tuples. -/
def allT (n : Nat) : Nat → List (List Int)
  | 0 => [[]]
  | m + 1 => (allT n m).flatMap fun t => (List.range n).map fun v : Nat => (v : Int) :: t
theorem allT_mem {n : Nat} : ∀ (xs : List Int), (∀ v ∈ xs, 0 ≤ v ∧ v < (n : Int)) → xs ∈ allT n xs.length
  | [], _ => by simp [allT]
  | x :: xs, h => by
    have hx := h x (by simp)
    refine List.mem_flatMap.2 ⟨xs, allT_mem xs (fun v hv => h v (by simp [hv])), List.mem_map.2 ⟨x.toNat, List.mem_range.2 (by omega), ?_⟩⟩
    have : ((x.toNat : Nat) : Int) = x := by omega
    rw [this]
theorem Tup.mem {xs : List Int} (h : Tup n xs) : ∀ v ∈ xs, 0 ≤ v ∧ v < (n : Int) := fun v hv => by
  obtain ⟨i, hi, e⟩ := List.getElem_of_mem hv
  have := h.2 i hi
  rw [← e]
  simpa [hi] using this
theorem tdedup_ex {α : Type} [DecidableEq α] : ∀ l : List α, ∃ m : List α, m.Nodup ∧ ∀ x, x ∈ m ↔ x ∈ l
  | [] => ⟨[], by simp, fun _ => Iff.rfl⟩
  | a :: l => by
    obtain ⟨m, h, k⟩ := tdedup_ex l
    by_cases e : a ∈ m
    · refine ⟨m, h, fun x => ⟨fun hx => List.mem_cons_of_mem _ ((k x).1 hx), fun hx => ?_⟩⟩
      rcases List.mem_cons.1 hx with rfl | hx
      · exact e
      · exact (k x).2 hx
    · refine ⟨a :: m, List.nodup_cons.2 ⟨e, h⟩, fun x => ?_⟩
      rw [List.mem_cons, List.mem_cons, k x]
theorem tnodup_le {α : Type} [DecidableEq α] {l m : List α} (h : l.Nodup) (hs : ∀ a ∈ l, a ∈ m) : l.length ≤ m.length := by
  obtain ⟨k, hk⟩ := subset_perm l m h hs
  have := hk.length_eq
  simp at this
  omega
/-- A list of all that is reached, each once. -/
def Cls (h1 h2 : Nat → Nat → Int) (x : List Int) (L : List (List Int)) : Prop := L.Nodup ∧ ∀ y, y ∈ L ↔ Tch h1 h2 x y
open Classical in
theorem Cls.ex (hp : PB n h1 h2 b1 b2) {x : List Int} (ht : Tup n x) : ∃ L, Cls h1 h2 x L := by
  obtain ⟨L, h, k⟩ := tdedup_ex ((allT n x.length).filter fun y => decide (Tch h1 h2 x y))
  refine ⟨L, h, fun y => ?_⟩
  rw [k, List.mem_filter]
  refine ⟨fun hy => of_decide_eq_true hy.2, fun hy => ⟨?_, decide_eq_true hy⟩⟩
  rw [← hy.len]
  exact allT_mem y (hy.tup hp ht).mem
theorem Tch.back (hp : PB n h1 h2 b1 b2) {x y : List Int} (ht : Tup n x) (h : Tch h1 h2 x y) {k : Nat} (hk : k + 1 < x.length) : Tch h1 h2 x (mvL b1 b2 y k) := by
  obtain ⟨L, hn, hm⟩ := Cls.ex hp ht
  have hnd : (L.map fun z => mvL h1 h2 z k).Nodup := by
    rw [List.nodup_iff_pairwise_ne, List.pairwise_map]
    refine List.Pairwise.imp_of_mem ?_ (List.nodup_iff_pairwise_ne.1 hn)
    intro a b ha hb hab e
    have ra := (hm a).1 ha
    have rb := (hm b).1 hb
    exact hab (mvL_inj hp (ra.tup hp ht) (rb.tup hp ht) (by rw [ra.len]; exact hk) (by rw [rb.len]; exact hk) e)
  obtain ⟨l, hl⟩ := subset_perm _ L hnd (fun a ha => by
    obtain ⟨z, hz, rfl⟩ := List.mem_map.1 ha
    exact (hm _).2 (.step ((hm z).1 hz) hk))
  have hll := hl.length_eq
  simp at hll
  subst hll
  have hy := hl.mem_iff.1 ((hm y).2 h)
  rw [List.append_nil] at hy
  obtain ⟨z, hz, rfl⟩ := List.mem_map.1 hy
  have rz := (hm z).1 hz
  rw [mvL_back hp (rz.tup hp ht) (by rw [rz.len]; exact hk)]
  exact rz
theorem Tch.symm (hp : PB n h1 h2 b1 b2) {x y : List Int} (ht : Tup n x) (h : Tch h1 h2 x y) : Tch h1 h2 y x := by
  induction h with
  | refl => exact .refl
  | @step y k h9 hk ih =>
    have hty := h9.tup hp ht
    have hky : k + 1 < y.length := by rw [h9.len]; exact hk
    have h1' := Tch.back hp (x := mvL h1 h2 y k) (y := mvL h1 h2 y k) (mvL_tup hp hty hky) .refl (k := k) (by rw [mvL_length]; exact hky)
    rw [mvL_back hp hty hky] at h1'
    exact h1'.trans ih
theorem Cls.len {x : List Int} {L L' : List (List Int)} (h : Cls h1 h2 x L) (h' : Cls h1 h2 x L') : L.length = L'.length :=
  Nat.le_antisymm (tnodup_le h.1 fun a ha => (h'.2 a).2 ((h.2 a).1 ha)) (tnodup_le h'.1 fun a ha => (h.2 a).2 ((h'.2 a).1 ha))
/-- At most M are reached. -/
def FewT (h1 h2 : Nat → Nat → Int) (x : List Int) (M : Nat) : Prop := ∃ L, Cls h1 h2 x L ∧ L.length ≤ M
theorem not_few {x y : List Int} {found : List (List Int)} {M : Nat} (hd : found.Nodup) (hg : ∀ y, y ∈ found → Tch h1 h2 x y) (hy : Tch h1 h2 x y) (hn : y ∉ found) (hM : M ≤ found.length) : ¬ FewT h1 h2 x M := by
  rintro ⟨L, hL, hl⟩
  have := tnodup_le (l := y :: found) (m := L) (List.nodup_cons.2 ⟨hn, hd⟩) (fun a ha => by
    rcases List.mem_cons.1 ha with rfl | ha
    · exact (hL.2 _).2 hy
    · exact (hL.2 _).2 (hg _ ha))
  simp at this
  omega
theorem not_few2 {x : List Int} {found : List (List Int)} {M : Nat} (hd : found.Nodup) (hg : ∀ y, y ∈ found → Tch h1 h2 x y) (hM : M < found.length) : ¬ FewT h1 h2 x M := by
  rintro ⟨L, hL, hl⟩
  have := tnodup_le hd (fun a ha => (hL.2 a).2 (hg a ha))
  omega
theorem Cls.not_few {x : List Int} {L : List (List Int)} {M : Nat} (h : Cls h1 h2 x L) (hM : M < L.length) : ¬ FewT h1 h2 x M := not_few2 h.1 (fun y hy => (h.2 y).1 hy) hM
/-- How a search with a heap of what is still to be done stands: t has been taken from it, and its first k moves are done. -/
structure Stk (h1 h2 : Nat → Nat → Int) (x : List Int) (found todo : List (List Int)) (t : List Int) (k : Nat) : Prop where
  nd : found.Nodup
  rch : ∀ y, y ∈ found → Tch h1 h2 x y
  start : x ∈ found
  sub : ∀ y, y ∈ todo → y ∈ found
  tin : t ∈ found
  few : todo.length ≤ found.length
  done : ∀ y, y ∈ found → y ∉ todo → y ≠ t → ∀ j, j + 1 < x.length → mvL h1 h2 y j ∈ found
  part : ∀ j, j < k → mvL h1 h2 t j ∈ found
/-- The same between two of them. -/
structure Stk0 (h1 h2 : Nat → Nat → Int) (x : List Int) (found todo : List (List Int)) : Prop where
  nd : found.Nodup
  rch : ∀ y, y ∈ found → Tch h1 h2 x y
  start : x ∈ found
  sub : ∀ y, y ∈ todo → y ∈ found
  few : todo.length ≤ found.length
  done : ∀ y, y ∈ found → y ∉ todo → ∀ j, j + 1 < x.length → mvL h1 h2 y j ∈ found
theorem Stk0.begin (x : List Int) : Stk0 h1 h2 x [x] [x] where
  nd := by simp
  rch := fun y hy => by simp at hy; subst hy; exact .refl
  start := by simp
  sub := fun y hy => hy
  few := Nat.le_refl _
  done := fun y hy hn => absurd hy hn
theorem Stk0.take {x t : List Int} {found todo : List (List Int)} (h : Stk0 h1 h2 x found (todo ++ [t])) : Stk h1 h2 x found todo t 0 where
  nd := h.nd
  rch := h.rch
  start := h.start
  sub := fun y hy => h.sub y (by simp [hy])
  tin := h.sub t (by simp)
  few := by have := h.few; simp at this; omega
  done := fun y hy hn hne j hj => h.done y hy (by simp [hn, hne]) j hj
  part := fun j hj => by omega
theorem Stk.keep {x t : List Int} {found todo : List (List Int)} {k : Nat} (h : Stk h1 h2 x found todo t k) (hm : mvL h1 h2 t k ∈ found) : Stk h1 h2 x found todo t (k + 1) :=
  ⟨h.nd, h.rch, h.start, h.sub, h.tin, h.few, h.done, fun j hj => by
    by_cases e : j = k
    · rw [e]; exact hm
    · exact h.part j (by omega)⟩
theorem Stk.push {x t : List Int} {found todo : List (List Int)} {k : Nat} (h : Stk h1 h2 x found todo t k) (hk : k + 1 < x.length) (hn : mvL h1 h2 t k ∉ found) : Stk h1 h2 x (found ++ [mvL h1 h2 t k]) (todo ++ [mvL h1 h2 t k]) t (k + 1) where
  nd := List.nodup_append.2 ⟨h.nd, by simp, fun a ha b hb e => by simp at hb; subst hb; subst e; exact hn ha⟩
  rch := fun y hy => by
    rcases List.mem_append.1 hy with hy | hy
    · exact h.rch y hy
    · simp at hy; subst hy; exact .step (h.rch _ h.tin) hk
  start := List.mem_append.2 (.inl h.start)
  sub := fun y hy => by
    rcases List.mem_append.1 hy with hy | hy
    · exact List.mem_append.2 (.inl (h.sub y hy))
    · exact List.mem_append.2 (.inr hy)
  tin := List.mem_append.2 (.inl h.tin)
  few := by have := h.few; simp; omega
  done := fun y hy hny hne j hj => by
    rcases List.mem_append.1 hy with hy | hy
    · exact List.mem_append.2 (.inl (h.done y hy (fun e => hny (List.mem_append.2 (.inl e))) hne j hj))
    · exact absurd (List.mem_append.2 (.inr hy)) hny
  part := fun j hj => by
    by_cases e : j = k
    · rw [e]; exact List.mem_append.2 (.inr (by simp))
    · exact List.mem_append.2 (.inl (h.part j (by omega)))
theorem Stk.next {x t : List Int} {found todo : List (List Int)} {k : Nat} (h : Stk h1 h2 x found todo t k) (hk : x.length ≤ k + 1) : Stk0 h1 h2 x found todo :=
  ⟨h.nd, h.rch, h.start, h.sub, h.few, fun y hy hn j hj => by
    by_cases e : y = t
    · rw [e]; exact h.part j (by omega)
    · exact h.done y hy hn e j hj⟩
theorem Stk0.fin {x : List Int} {found : List (List Int)} (h : Stk0 h1 h2 x found []) : Cls h1 h2 x found :=
  ⟨h.nd, fun y => ⟨h.rch y, fun hy => by
    induction hy with
    | refl => exact h.start
    | step _ hk ih => exact h.done _ ih (by simp) _ hk⟩⟩
/-- How a search with a queue stands: the first i that were found are done. -/
structure Que (h1 h2 : Nat → Nat → Int) (x : List Int) (found : List (List Int)) (i k : Nat) : Prop where
  nd : found.Nodup
  rch : ∀ y, y ∈ found → Tch h1 h2 x y
  start : x ∈ found
  done : ∀ a, a < i → ∀ j, j + 1 < x.length → mvL h1 h2 (found.getD a []) j ∈ found
  part : ∀ j, j < k → mvL h1 h2 (found.getD i []) j ∈ found
theorem Que.begin (x : List Int) : Que h1 h2 x [x] 0 0 where
  nd := by simp
  rch := fun y hy => by simp at hy; subst hy; exact .refl
  start := by simp
  done := fun a ha => by omega
  part := fun j hj => by omega
theorem tgetD_mem {α : Type} (l : List α) (i : Nat) (d : α) (h : i < l.length) : l.getD i d ∈ l := by simp [h]
theorem tgetD_app {α : Type} (l : List α) (v : α) (i : Nat) (d : α) (h : i < l.length) : (l ++ [v]).getD i d = l.getD i d := by
  simp only [List.getD_eq_getElem?_getD]
  rw [List.getElem?_append_left h]
/-- Something that is reached is put at the end. -/
theorem Que.add {x y : List Int} {found : List (List Int)} {i k : Nat} (h : Que h1 h2 x found i k) (hi : i < found.length) (hy : Tch h1 h2 x y) (hn : y ∉ found) : Que h1 h2 x (found ++ [y]) i k where
  nd := List.nodup_append.2 ⟨h.nd, by simp, fun a ha b hb e => by simp at hb; subst hb; subst e; exact hn ha⟩
  rch := fun z hz => by
    rcases List.mem_append.1 hz with hz | hz
    · exact h.rch z hz
    · simp at hz; subst hz; exact hy
  start := List.mem_append.2 (.inl h.start)
  done := fun a ha j hj => by rw [tgetD_app _ _ _ _ (by omega)]; exact List.mem_append.2 (.inl (h.done a ha j hj))
  part := fun j hj => by rw [tgetD_app _ _ _ _ hi]; exact List.mem_append.2 (.inl (h.part j hj))
theorem Que.keep {x : List Int} {found : List (List Int)} {i k : Nat} (h : Que h1 h2 x found i k) (hm : mvL h1 h2 (found.getD i []) k ∈ found) : Que h1 h2 x found i (k + 1) :=
  ⟨h.nd, h.rch, h.start, h.done, fun j hj => by
    by_cases e : j = k
    · rw [e]; exact hm
    · exact h.part j (by omega)⟩
theorem Que.next {x : List Int} {found : List (List Int)} {i k : Nat} (h : Que h1 h2 x found i k) (hk : x.length ≤ k + 1) : Que h1 h2 x found (i + 1) 0 :=
  ⟨h.nd, h.rch, h.start, fun a ha j hj => by
    by_cases e : a = i
    · rw [e]; exact h.part j (by omega)
    · exact h.done a (by omega) j hj, fun j hj => by omega⟩
theorem Que.fin {x : List Int} {found : List (List Int)} {k : Nat} (h : Que h1 h2 x found found.length k) : Cls h1 h2 x found :=
  ⟨h.nd, fun y => ⟨h.rch y, fun hy => by
    induction hy with
    | refl => exact h.start
    | @step z j _ hk ih =>
      obtain ⟨a, ha, e⟩ := List.getElem_of_mem ih
      have h9 := h.done a ha j hk
      have e9 : found.getD a [] = z := by rw [← e]; simp [ha]
      rw [e9] at h9
      exact h9⟩⟩
theorem Que.at {x : List Int} {found : List (List Int)} {i k : Nat} (h : Que h1 h2 x found i k) (hi : i < found.length) : Tch h1 h2 x (found.getD i []) := h.rch _ (tgetD_mem _ _ _ hi)
end
/-- A solution is such a bijection. -/
theorem SolF.pb {f s : List (List Int)} {n : Nat} (h : SolF f s) (hn : f.length = n) : PB n (leH f) (leH s) (bk1 f s n) (bk2 f s n) := by
  have hp := h.1
  have hc := h.2.1
  rw [hn] at hc
  have hs : s.length = n := by rw [← hp.2.2]; exact hn
  have hbk : ∀ x y, x < n → y < n → bk f s n x y / n < n ∧ bk f s n x y % n < n := fun x y hx hy => by
    have hk := (bk_spec hp hn hc hx hy).1
    exact ⟨Nat.div_lt_of_lt_mul hk, Nat.mod_lt _ (by omega)⟩
  have hled : ∀ x y, x < n → y < n → ledK f s n (x * n + y) = (ap f x y, ap s x y) := fun x y hx hy => by
    unfold ledK
    rw [pair_div n x y hy, pair_mod n x y hy]
  have hfb : ∀ x y, x < n → y < n → bk f s n (ap f x y) (ap s x y) = x * n + y := fun x y hx hy => bk_led hc (pair_lt n x y hx hy) (hled x y hx hy)
  refine ⟨fun x y hx hy => ?_, fun x y hx hy => ?_, fun x y hx hy => ?_, fun x y hx hy => ?_, fun x y hx hy => ?_, fun x y hx hy => ?_, fun x y hx hy => ?_, fun x y hx hy => ?_⟩
  · have := hp.1.ap_lt hn hx hy; unfold leH; omega
  · have := hp.2.1.ap_lt hs hx hy; unfold leH; omega
  · have h9 := (hbk x y hx hy).1; exact ⟨Int.natCast_nonneg _, by unfold bk1; exact_mod_cast h9⟩
  · have h9 := (hbk x y hx hy).2; exact ⟨Int.natCast_nonneg _, by unfold bk2; exact_mod_cast h9⟩
  · have h9 := (bk_spec hp hn hc hx hy).2
    have e := congrArg Prod.fst h9
    have e2 : ap f (bk f s n x y / n) (bk f s n x y % n) = x := e
    unfold leH bk1 bk2
    simp only [Int.toNat_natCast]
    rw [e2]
  · have h9 := (bk_spec hp hn hc hx hy).2
    have e := congrArg Prod.snd h9
    have e2 : ap s (bk f s n x y / n) (bk f s n x y % n) = y := e
    unfold leH bk1 bk2
    simp only [Int.toNat_natCast]
    rw [e2]
  · unfold leH bk1
    simp only [Int.toNat_natCast]
    rw [hfb x y hx hy, pair_div n x y hy]
  · unfold leH bk2
    simp only [Int.toNat_natCast]
    rw [hfb x y hx hy, pair_mod n x y hy]
end Go.Proofs.Ythnkhljgealjdaa
