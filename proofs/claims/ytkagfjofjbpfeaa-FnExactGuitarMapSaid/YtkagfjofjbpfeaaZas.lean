import Derived.Test.YtkagfjofjbpfeaaZan
import Derived.Test.YtkagfjofjbpfeaaZr
import Derived.Test.YtkagfjofjbpfeaaZb
import Derived.Shelf.Abstract
import Derived.Shelf.Lay
import Derived.Test.YtkagfjofjbpfeaaProg
import Derived.Test.YtkagfjofjbpfeaaZd
import Derived.Test.YtkagfjofjbpfeaaZy
import Derived.Test.YtkagfjofjbpfeaaZi
namespace Go.Proofs.Ytkagfjofjbpfeaa
open Go Go.RowKit
/-- The condition of racks at the list of number T. -/
def Rk3 (f : List (List Int)) (n T : Nat) : Prop := ap f (trip n T).1 (ap f (trip n T).2.1 (trip n T).2.2) = ap f (ap f (trip n T).1 (trip n T).2.1) (ap f (trip n T).1 (trip n T).2.2)
def FirstK (f : List (List Int)) (n T : Nat) : Prop := (∀ i, i < T → Rk3 f n i) ∧ T ≤ n * n * n ∧ (T < n * n * n → ¬ Rk3 f n T)
theorem FirstK.ex (f : List (List Int)) (n : Nat) : ∃ T, FirstK f n T := by
  have h : ∀ k, k ≤ n * n * n → (∀ i, i < k → Rk3 f n i) ∨ ∃ T, FirstK f n T := by
    intro k
    induction k with
    | zero => intro _; exact .inl (fun i hi => absurd hi (Nat.not_lt_zero _))
    | succ k ih =>
      intro hk
      rcases ih (by omega) with h | h
      · by_cases e : Rk3 f n k
        · refine .inl (fun i hi => ?_)
          by_cases e2 : i = k
          · subst e2; exact e
          · exact h i (by omega)
        · exact .inr ⟨k, h, by omega, fun _ => e⟩
      · exact .inr h
  rcases h _ (Nat.le_refl _) with h | h
  · exact ⟨_, h, Nat.le_refl _, fun h2 => absurd h2 (by omega)⟩
  · exact h
theorem FirstK.bad {f : List (List Int)} {n T k : Nat} (h : FirstK f n T) (h1 : ∀ i, i < k → Rk3 f n i) (hk : k < n * n * n) (h2 : ¬ Rk3 f n k) : T = k := by
  have a : ¬ k < T := fun h3 => h2 (h.1 k h3)
  have b : ¬ T < k := fun h3 => h.2.2 (by omega) (h1 T h3)
  omega
theorem FirstK.all {f : List (List Int)} {n T : Nat} (h : FirstK f n T) (h1 : ∀ i, i < n * n * n → Rk3 f n i) : T = n * n * n := by
  have a := h.2.1
  have b : ¬ T < n * n * n := fun h3 => h.2.2 h3 (h1 T h3)
  omega
theorem FirstK.iff {f : List (List Int)} {n T : Nat} (h : FirstK f n T) : T = n * n * n ↔ ∀ i, i < n * n * n → Rk3 f n i :=
  ⟨fun e i hi => h.1 i (by omega), h.all⟩
theorem Rk3.at {f : List (List Int)} {n x y z : Nat} (hy : y < n) (hz : z < n) : Rk3 f n ((x * n + y) * n + z) ↔ ap f x (ap f y z) = ap f (ap f x y) (ap f x z) := by
  unfold Rk3
  rw [trip_of hy hz]
/-- What a rack is. -/
def Rck (f : List (List Int)) : Prop := (Tbl f ∧ AllPrm f) ∧ ∀ i, i < f.length * f.length * f.length → Rk3 f f.length i
def RkRes (f : List (List Int)) (r : Bool) : Prop := r = true ↔ Rck f
theorem RkRes.ex (f : List (List Int)) : ∃ r, RkRes f r := bool_of _
def RkFRes (f : List (List Int)) (zs : List Int) (code : Int) : Prop :=
  (∃ T, (Tbl f ∧ AllPrm f) ∧ FirstK f f.length T ∧ ((T < f.length * f.length * f.length ∧ zs = lst3 (trip f.length T) ∧ code = 0) ∨ (T = f.length * f.length * f.length ∧ zs = [] ∧ code = 4))) ∨ (Tbl f ∧ ¬ AllPrm f ∧ zs = [] ∧ code = 5) ∨ (¬ Tbl f ∧ zs = [] ∧ code = 1)
theorem RkFRes.ex (f : List (List Int)) : ∃ zs code, RkFRes f zs code ∧ zs.length ≤ 1048576 := by
  by_cases h : Tbl f
  · by_cases h1 : AllPrm f
    · obtain ⟨T, hT⟩ := FirstK.ex f f.length
      by_cases h2 : T < f.length * f.length * f.length
      · exact ⟨_, _, .inl ⟨T, ⟨h, h1⟩, hT, .inl ⟨h2, rfl, rfl⟩⟩, by simp [lst3]⟩
      · exact ⟨_, _, .inl ⟨T, ⟨h, h1⟩, hT, .inr ⟨by have := hT.2.1; omega, rfl, rfl⟩⟩, by simp⟩
    · exact ⟨_, _, .inr (.inl ⟨h, h1, rfl, rfl⟩), by simp⟩
  · exact ⟨_, _, .inr (.inr ⟨h, rfl, rfl⟩), by simp⟩
theorem Rck.tbl {f : List (List Int)} (h : Rck f) : Tbl f := h.1.1
theorem Rck.prm {f : List (List Int)} (h : Rck f) : AllPrm f := h.1.2
end Go.Proofs.Ytkagfjofjbpfeaa
namespace Go.Proofs.Ytkagfjofjbpfeaa
open Go Go.RowKit

/-- What is asked of the function value: for each three elements, in each later world, it says whether they are as asked, and leaves what there was. -/
def BoolFn3 (P : Program) (F : FuncId) (lb : Array Value) (n : Nat) (q : Nat → Nat → Nat → Bool) (w : World) : Prop :=
  ∀ (W : World) (x y z : Nat), x < n → y < n → z < n → Below w.heap.size w W → Calls P F (#[.int .i64 x, .int .i64 y, .int .i64 z] ++ lb) W fun e w' => e = .returned (.bool (q x y z)) ∧ Below W.heap.size W w'
theorem BoolFn3.later {P : Program} {F : FuncId} {lb : Array Value} {n : Nat} {q : Nat → Nat → Nat → Bool} {w w' : World} (hc : BoolFn3 P F lb n q w) (hb : Below w.heap.size w w') : BoolFn3 P F lb n q w' :=
  fun W x y z hx hy hz hw => hc W x y z hx hy hz (hb.trans (hw.mono hb.size))

/-- What is said of the list of number T. -/
def qAt (q : Nat → Nat → Nat → Bool) (n T : Nat) : Bool := q (trip n T).1 (trip n T).2.1 (trip n T).2.2
theorem qAt_at {q : Nat → Nat → Nat → Bool} {n x y z : Nat} (hy : y < n) (hz : z < n) : qAt q n ((x * n + y) * n + z) = q x y z := by
  unfold qAt
  rw [trip_of hy hz]
/-- T is the first that is as asked, or behind all. -/
def FirstQ (q : Nat → Nat → Nat → Bool) (n T : Nat) : Prop := (∀ i, i < T → qAt q n i = false) ∧ T ≤ n * n * n ∧ (T < n * n * n → qAt q n T = true)
theorem FirstQ.bad {q : Nat → Nat → Nat → Bool} {n T k : Nat} (h : FirstQ q n T) (h1 : ∀ i, i < k → qAt q n i = false) (hk : k < n * n * n) (h2 : qAt q n k = true) : T = k := by
  have a : ¬ k < T := fun h3 => by have := h.1 k h3; rw [h2] at this; exact absurd this (by simp)
  have b : ¬ T < k := fun h3 => by have := h1 T h3; rw [h.2.2 (by omega)] at this; exact absurd this (by simp)
  omega
theorem FirstQ.all {q : Nat → Nat → Nat → Bool} {n T : Nat} (h : FirstQ q n T) (h1 : ∀ i, i < n * n * n → qAt q n i = false) : T = n * n * n := by
  have a := h.2.1
  have b : ¬ T < n * n * n := fun h3 => by have := h1 T h3; rw [h.2.2 h3] at this; exact absurd this (by simp)
  omega
theorem FirstQ.ex (q : Nat → Nat → Nat → Bool) (n : Nat) : ∃ T, FirstQ q n T := by
  have h : ∀ k, k ≤ n * n * n → (∀ i, i < k → qAt q n i = false) ∨ ∃ T, FirstQ q n T := by
    intro k
    induction k with
    | zero => intro _; exact .inl (fun i hi => absurd hi (Nat.not_lt_zero _))
    | succ k ih =>
      intro hk
      rcases ih (by omega) with h | h
      · rcases e : qAt q n k with _ | _
        · refine .inl (fun i hi => ?_)
          by_cases e2 : i = k
          · subst e2; exact e
          · exact h i (by omega)
        · exact .inr ⟨k, h, by omega, fun _ => e⟩
      · exact .inr h
  rcases h _ (Nat.le_refl _) with h | h
  · exact ⟨_, h, Nat.le_refl _, fun h2 => absurd h2 (by omega)⟩
  · exact h
theorem FirstQ.iff {q : Nat → Nat → Nat → Bool} {n T : Nat} (h : FirstQ q n T) : T = n * n * n ↔ ∀ i, i < n * n * n → qAt q n i = false :=
  ⟨fun e i hi => h.1 i (by omega), h.all⟩
end Go.Proofs.Ytkagfjofjbpfeaa
namespace Go.Proofs.Ytkagfjofjbpfeaa
open Go Go.RowKit
open Classical
set_option maxHeartbeats 2000000

theorem liInfo : (Try.prog.info? 2).map (fun i => (i.zero, i.size, i.bytes)) = some (some (.int .i64 0), 1, 8) := by kernel_rfl
theorem li_new {w : World} {v : Value} : ∀ j u, [v][j]? = some u → (w.alloc (.cells #[v] 2)).cell? ((⟨w.heap.size, 0, none⟩ : Addr).add j) = some u := by
  intro j u hj
  match j, hj with
  | 0, hj => simp at hj; subst hj; simp [Addr.add, World.cell?_alloc_new]
theorem li_one (w : World) (t : TypeId) (v : Value) : (w.alloc (.cells #[v] t)).ownsRow w.heap.size t 1 (.slice (some ⟨w.heap.size, 0, none⟩) 1 1) 1 [v] :=
  ⟨by simp, .inr ⟨w.heap.size, 1, #[v], rfl, Nat.le_refl _, heap_alloc_new _ _, Nat.le_refl _, by unfold maxLen; omega, by simp, by simp⟩⟩
/-- What is left of a row when its last element is cut off. -/
theorem own_front {w : World} {B n c : Nat} {t : TypeId} {A : Option Addr} {xs : List Value} (h : w.ownsRow B t 1 (.slice A (n + 1) c) (n + 1) xs) : w.ownsRow B t 1 (.slice A n c) n (xs.take n) := by
  obtain ⟨hl, h | ⟨g, cap, cur, hv, hb, hg, hn, hcap, hsz, hxs⟩⟩ := h
  · exact absurd h.2 (by omega)
  · injection hv with h1 h2 h3
    subst h1 h3
    refine ⟨by simp; omega, .inr ⟨g, c, cur, rfl, hb, hg, by omega, hcap, hsz, ?_⟩⟩
    rw [← hxs, List.take_take]
    congr 1
    omega
theorem own_setFar {w : World} {B n g j : Nat} {t : TypeId} {v u : Value} {xs : List Value} (h : w.ownsRow B t 1 v n xs) (hg : g < B) : (w.setCell ⟨g, j, none⟩ u).ownsRow B t 1 v n xs := by
  obtain ⟨hl, h | ⟨g', cap, cur, hv, hb, hg', hn, hcap, hsz, hxs⟩⟩ := h
  · exact ⟨hl, .inl h⟩
  · exact ⟨hl, .inr ⟨g', cap, cur, hv, hb, (Below.heap_setCell _ _ _ _ (by show g' ≠ g; omega)).trans hg', hn, hcap, hsz, hxs⟩⟩

/-- In the midst of a search: D have the label; those of D that wait are in the work; of x (none: n) the first r steps are done. -/
structure WInv (rows : List (List Int)) (n x0 : Nat) (f0 : Nat → Int) (D : List Nat) (work : List Int) (x : Nat) (r : Nat) : Prop where
  nd : D.Nodup
  rng : ∀ d ∈ D, d < n
  mem : x0 ∈ D
  rch : ∀ d ∈ D, Rch rows x0 d
  neg : ∀ d ∈ D, f0 d < 0
  wk : ∀ u ∈ work, ∃ d ∈ D, u = (d : Int)
  cl : ∀ d ∈ D, (d : Int) ∉ work → d ≠ x → ∀ s, s < rows.length → ((rows.getD s []).getD d 0).toNat ∈ D
  cx : x ∈ D → ∀ s, s < r → s < rows.length → ((rows.getD s []).getD x 0).toNat ∈ D

theorem natnd_le (D : List Nat) (n : Nat) (hr : ∀ v ∈ D, v < n) (hn : D.Nodup) : D.length ≤ n := by
  obtain ⟨l, hl⟩ := subset_perm D (List.range n) hn (fun a ha => List.mem_range.2 (hr a ha))
  have := hl.length_eq
  rw [List.length_range, List.length_append] at this
  omega
theorem WInv.most {rows : List (List Int)} {n x0 x r : Nat} {f0 : Nat → Int} {D : List Nat} {work : List Int} (h : WInv rows n x0 f0 D work x r) : D.length ≤ n := natnd_le D n h.rng h.nd
theorem WInv.start (rows : List (List Int)) (n x0 : Nat) (f0 : Nat → Int) (h : x0 < n) (h0 : f0 x0 < 0) : WInv rows n x0 f0 [x0] [(x0 : Int)] n 0 :=
  ⟨by simp, fun d hd => by simp at hd; omega, by simp, fun d hd => by simp at hd; subst hd; exact .start, fun d hd => by simp at hd; subst hd; exact h0, fun u hu => ⟨x0, by simp, by simpa using hu⟩, fun d hd hno => by simp at hd; subst hd; exact absurd (by simp) hno, fun hx => by simp at hx; omega⟩
theorem WInv.pop {rows : List (List Int)} {n x0 : Nat} {f0 : Nat → Int} {D : List Nat} {work : List Int} {x : Nat} (h : WInv rows n x0 f0 D (work ++ [(x : Int)]) n 0) : x ∈ D ∧ WInv rows n x0 f0 D work x 0 := by
  have hx : x ∈ D := by
    obtain ⟨d, hd, e⟩ := h.wk (x : Int) (by simp)
    have : x = d := by omega
    rw [this]; exact hd
  refine ⟨hx, h.nd, h.rng, h.mem, h.rch, h.neg, fun u hu => h.wk u (by simp [hu]), fun d hd hno hne => h.cl d hd ?_ (by have := h.rng d hd; omega), fun _ s hs => by omega⟩
  intro hm
  rcases List.mem_append.1 hm with hm | hm
  · exact hno hm
  · simp at hm; omega
theorem WInv.seen {rows : List (List Int)} {n x0 : Nat} {f0 : Nat → Int} {D : List Nat} {work : List Int} {x r : Nat} (h : WInv rows n x0 f0 D work x r) (hs : ((rows.getD r []).getD x 0).toNat ∈ D) : WInv rows n x0 f0 D work x (r + 1) :=
  ⟨h.nd, h.rng, h.mem, h.rch, h.neg, h.wk, h.cl, fun hx s hs2 hs3 => by
    by_cases e : s = r
    · subst e; exact hs
    · exact h.cx hx s (by omega) hs3⟩
theorem WInv.push {rows : List (List Int)} {n x0 : Nat} {f0 : Nat → Int} {D : List Nat} {work : List Int} {x r : Nat} (h : WInv rows n x0 f0 D work x r) (hx : x ∈ D) (hr : r < rows.length) (z : Nat) (hz : ((rows.getD r []).getD x 0).toNat = z) (hzn : z < n) (hno : z ∉ D) (hneg : f0 z < 0) : WInv rows n x0 f0 (D ++ [z]) (work ++ [(z : Int)]) x (r + 1) := by
  have hzx : z ≠ x := fun e => hno (e ▸ hx)
  refine ⟨?_, fun d hd => ?_, by simp [h.mem], fun d hd => ?_, fun d hd => ?_, fun u hu => ?_, fun d hd hnw hne s hs => ?_, fun _ s hs hs2 => ?_⟩
  · rw [List.nodup_append]
    exact ⟨h.nd, by simp, fun a ha b hb e => hno (by simp at hb; subst hb; subst e; exact ha)⟩
  · rcases List.mem_append.1 hd with hd | hd
    · exact h.rng d hd
    · simp at hd; omega
  · rcases List.mem_append.1 hd with hd | hd
    · exact h.rch d hd
    · simp at hd; subst hd; exact .step (h.rch x hx) ⟨r, hr, hz⟩
  · rcases List.mem_append.1 hd with hd | hd
    · exact h.neg d hd
    · simp at hd; subst hd; exact hneg
  · rcases List.mem_append.1 hu with hu | hu
    · obtain ⟨d, hd, e⟩ := h.wk u hu
      exact ⟨d, by simp [hd], e⟩
    · exact ⟨z, by simp, by simpa using hu⟩
  · rcases List.mem_append.1 hd with hd | hd
    · exact List.mem_append_left _ (h.cl d hd (fun e => hnw (by simp [e])) hne s hs)
    · simp at hd; subst hd; exact absurd (by simp) hnw
  · by_cases e : s = r
    · subst e; rw [hz]; simp
    · refine List.mem_append_left _ (h.cx hx s (by omega) hs2)
theorem WInv.next {rows : List (List Int)} {n x0 : Nat} {f0 : Nat → Int} {D : List Nat} {work : List Int} {x : Nat} (h : WInv rows n x0 f0 D work x rows.length) : WInv rows n x0 f0 D work n 0 :=
  ⟨h.nd, h.rng, h.mem, h.rch, h.neg, h.wk, fun d hd hno _ s hs => by
    by_cases e : d = x
    · subst e; exact h.cx hd s hs hs
    · exact h.cl d hd hno e s hs, fun _ s hs => by omega⟩
theorem WInv.done {rows : List (List Int)} {n x0 : Nat} {f0 : Nat → Int} {D : List Nat} (h : WInv rows n x0 f0 D [] n 0) (y : Nat) : y ∈ D ↔ Rch rows x0 y := by
  constructor
  · exact h.rch y
  · intro hy
    induction hy with
    | start => exact h.mem
    | step _ hs ih =>
      obtain ⟨r, hr, hz⟩ := hs
      rw [← hz]
      exact h.cl _ ih (by simp) (by have := h.rng _ ih; omega) r hr

/-- The labels when D have got theirs. -/
noncomputable def putD (f : Nat → Int) (D : List Nat) (l : Int) : Nat → Int := fun y => if y ∈ D then l else f y
theorem putD_step (f : Nat → Int) (D : List Nat) (l : Int) (n z : Nat) : ((List.range n).map (putD f D l)).set z l = (List.range n).map (putD f (D ++ [z]) l) := by
  apply List.ext_getElem
  · simp
  · intro y h1 h2
    rw [List.getElem_set]
    simp only [List.getElem_map, List.getElem_range]
    unfold putD
    by_cases e : z = y
    · subst e; simp
    · have e2 : ¬ y = z := fun h => e h.symm
      simp [e, e2]
end Go.Proofs.Ytkagfjofjbpfeaa
namespace Go.Proofs.Ytkagfjofjbpfeaa
open Go Go.RowKit
open Classical
set_option maxHeartbeats 2000000

/-- What is written when i elements of an orbit have got a number. -/
noncomputable def putTo (f : Nat → Int) (xs : List Int) (i : Nat) (num : Int) : Nat → Int := fun y => if (y : Int) ∈ xs.take i then num else f y
theorem putTo_step (f : Nat → Int) (xs : List Int) (i : Nat) (num : Int) (n j : Nat) (hi : i < xs.length) (hj : xs.getD i 0 = (j : Int)) : ((List.range n).map (putTo f xs i num)).set j num = (List.range n).map (putTo f xs (i + 1) num) := by
  apply List.ext_getElem
  · simp
  · intro y h1 h2
    have hy : y < n := by simpa using h2
    rw [List.getElem_set]
    simp only [List.getElem_map, List.getElem_range]
    unfold putTo
    rw [take_succ_getD xs i hi, hj]
    by_cases e : j = y
    · subst e; simp
    · have e2 : ¬ (y : Int) = (j : Int) := by omega
      simp [e, e2]

theorem l01Orbits_any (A : Option Addr) (m c n : Nat) (rows : List (List Int)) (w : World) (hm : rows.length = m) (hb : m ≤ 64) (h1n : 1 ≤ n) (hn : n ≤ 12) (hg : Gens rows n) (hr : Rd2 w A rows) :
    Calls Try.prog 82 #[.int .i64 n, .slice A m c] w fun e w' => ∃ A' c', e = .returned (.slice A' n c') ∧ Below w.heap.size w w' ∧ Res 2 w.heap.size w' A' (labL rows n n) := by
  have HM := hide hm
  have HG := hide hg
  have hls : ∀ i, i < m → (rows.getD i []).length = n := fun i hi => (hg i (by omega)).1
  have hin : ∀ i j, i < m → j < n → 0 ≤ (rows.getD i []).getD j 0 ∧ (rows.getD i []).getD j 0 < (n : Int) := fun i j hi hj => hg.at (by omega) hj
  have HLS := hide hls
  have HIN := hide hin
  clear hm hg hls hin
  obtain ⟨i0, hi, hz0, hz1, hz2⟩ := info_parts orInfo
  go_enter Try.func82, Try.ntmps82
  go_wp2_with fail
  go_loopw [5, 6] (fun v i wr => ∃ k : Nat, k ≤ n ∧ i = .int .i64 k ∧ Below w.heap.size w wr ∧ w.heap.size ≤ wr.heap.size ∧ wr.ownsRow w.heap.size 2 1 v k (ints (List.replicate k (-1)))) (fun _ i _ => n - (intOf i).toNat)
  case atStart => exact ⟨0, Nat.zero_le _, rfl, (Below.refl _ _).alloc (Nat.le_refl _) _, by simp, ⟨by simp [ints], .inr ⟨w.heap.size, 0, #[], rfl, Nat.le_refl _, heap_alloc_new _ _, Nat.le_refl _, by unfold maxLen; omega, by simp, by simp [ints]⟩⟩⟩
  case round =>
    obtain ⟨k, hk, rfl, hbe, hsz, hown⟩ := hrel
    have HB := hide hbe
    have HO := hide hown
    clear hbe hown
    by_cases hlt : k < n
    · have hltz : (k : Int) < n := by omega
      go_wp2_with (at_builtin; refine wpList_append_own _ rfl _ _ 31 rfl w.heap.size 2 i0 (.int .i64 0) 1 8 Try.underlying31 hi hz0 hz1 hz2 rfl (by decide) _ _ _ rfl (HO.out.alloc _) ⟨wr.heap.size, 0, none⟩ 1 1 [.int .i64 (-1)] rfl rfl ?c1 ?c2 ?c3 ?c4 ?c5 ?_)
      case c1 => exact or_new
      case c2 => intro u hu; simp at hu; subst hu; rfl
      case c3 => unfold maxLen; omega
      case c4 => omega
      case c5 => simp; omega
      intro v' w1 hown' hgrow _
      have HO' := hide hown'
      have HGR := hide hgrow
      clear hown' hgrow
      go_wp2_with fail
      go_roundw
      case rel =>
        have hB1 : Below w.heap.size w w1 := (HB.out.alloc hsz _).grown HGR.out (by simp; omega) (fun g hg => (HO.out.alloc (.cells #[.int .i64 (-1)] 2)).lt g hg |>.1)
        refine ⟨k + 1, by omega, by go_num, hB1, by have := hB1.size; omega, ?_⟩
        rw [List.replicate_succ']
        have h := HO'.out
        have e : ints (List.replicate k (-1)) ++ [.int .i64 (-1)] = ints (List.replicate k (-1) ++ [-1]) := by simp [ints]
        rw [e] at h
        exact h
      case measure => simp [intOf]; omega
    · have hkn : k = n := by omega
      subst hkn
      obtain ⟨A1, c1, hv, hres⟩ := own_shape HO.out
      have hobj := hres.obj
      rcases hobj with ⟨_, e⟩ | ⟨g, rfl, hg1, hg2, cur, hcur, hcells⟩
      · have := congrArg List.length e; simp at this; omega
      subst hv
      have hown0 : OwnB 2 wr g (labL rows k 0) := by
        refine ⟨cur, hcur, fun i hi => ?_⟩
        rw [labL_length] at hi
        rw [hcells i (by simpa using hi), labL_at rows k 0 i hi]
        simp [hi, lab]
      have HO0 := hide hown0
      clear HO hres hcur hcells hown0
      go_wp2_with fail
      clear hi hz0 hz1 hz2
      go_loopw [7, 8] (fun nm i wr => ∃ x : Nat, x ≤ k ∧ i = .int .i64 x ∧ nm = .int .i64 (lab rows x).2 ∧ Below w.heap.size w wr ∧ g < wr.heap.size ∧ OwnB 2 wr g (labL rows k x)) (fun _ i _ => k - (intOf i).toNat)
      case atStart => exact ⟨0, Nat.zero_le _, rfl, rfl, HB.out, hg2, HO0.out⟩
      case round =>
        clear HO0 HB hsz hg2 cur
        obtain ⟨x, hxk, rfl, rfl, hbe, hg2, hown⟩ := hrel
        have HB := hide hbe
        have HO := hide hown
        clear hbe hown
        by_cases hlt : x < k
        · have hltz : (x : Int) < k := by omega
          have hcell := HO.out.cell (i := x) (by rw [labL_length]; exact hlt)
          rw [labL_at rows k x x hlt] at hcell
          have hnum := lab_le rows x
          obtain ⟨num, hnm⟩ : ∃ num, (lab rows x).2 = num := ⟨_, rfl⟩
          rw [hnm] at hnum ⊢
          have HNM := hide hnm
          obtain ⟨v, hv⟩ : ∃ v, (lab rows x).1 x = v := ⟨_, rfl⟩
          rw [hv] at hcell
          have HV := hide hv
          clear hv hnm
          by_cases hv0 : 0 ≤ v
          · have hst : lab rows (x + 1) = lab rows x := by
              rw [lab, if_pos (by rw [HV.out]; exact hv0)]
            have HST := hide hst
            clear hst
            go_wp2_with fail
            go_roundw
            case rel => exact ⟨x + 1, by omega, by go_num, by rw [HST.out, HNM.out], HB.out, hg2, by unfold labL; rw [HST.out]; exact HO.out⟩
            case measure => simp [intOf]; omega
          · have hst : lab rows (x + 1) = (fun y => if Rch rows x y then (num : Int) else (lab rows x).1 y, num + 1) := by
              rw [lab, if_neg (by rw [HV.out]; exact hv0), HNM.out]
            have HST := hide hst
            have hsz : w.heap.size ≤ wr.heap.size := HB.out.size
            clear hst
            go_wp2_with fail
            refine (l01Orbit_any _ m _ k x rows _ HM.out hb hn hlt HLS.out HIN.out (hr.later HB.out)).mono ?_
            rintro e w2 ⟨A2, c2, out, rfl, hb2, hres2, hinv⟩
            have hpos : 0 < out.length := by have := hinv.mem; exact List.length_pos_of_mem this
            have hmost := hinv.most
            have hrng := hinv.rng
            have HINV := hide hinv
            have HRNG := hide hrng
            rcases hres2.obj with ⟨_, e⟩ | ⟨g2, rfl, hga, hgb, how2⟩
            · rw [e] at hpos; simp at hpos
            have HO2 := hide how2
            have HO1 := hide (HO.out.later hb2 hg2)
            have HB2 := hide (HB.out.trans (hb2.mono hsz))
            have hs2 := hb2.size
            have hbase : (List.range k).map (putTo (lab rows x).1 out 0 num) = labL rows k x := by
              unfold labL
              refine List.map_congr_left (fun y _ => ?_)
              unfold putTo
              simp
            have HBASE := hide hbase
            obtain ⟨L, hL⟩ : ∃ L, out.length = L := ⟨_, rfl⟩
            have HL := hide hL
            rw [hL] at hpos hmost ⊢
            clear hL hinv hrng hres2 how2 hb2 hcell hbase
            go_wp2_with fail
            go_loopw [10] (fun i wi => ∃ q : Nat, q ≤ L ∧ i = .int .i64 q ∧ Below w.heap.size w wi ∧ g < wi.heap.size ∧ OwnB 2 wi g ((List.range k).map (putTo (lab rows x).1 out q num)) ∧ OwnB 2 wi g2 out) (fun i _ => L - (intOf i).toNat)
            case atStart => exact ⟨0, Nat.zero_le _, rfl, HB2.out, by omega, by rw [HBASE.out]; exact HO1.out, HO2.out⟩
            case round =>
              clear HO1 HO2 HB2 HBASE
              obtain ⟨q, hq, rfl, hbe, hgs, ho1, ho2⟩ := hrel
              have HB3 := hide hbe
              have HO1 := hide ho1
              have HO2 := hide ho2
              clear hbe ho1 ho2
              by_cases hltq : q < L
              · have hltqz : (q : Int) < L := by omega
                have hc2 := HO2.out.cell (i := q) (by have := HL.out; omega)
                have hm2 : out.getD q 0 ∈ out := by have : q < out.length := (by have := HL.out; omega); simp [this]
                have hrg := HRNG.out _ hm2
                obtain ⟨j, hj⟩ := Int.eq_ofNat_of_zero_le hrg.1
                rw [hj] at hc2 hrg
                have HJ := hide hj
                have hjk : j < k := by have := hrg.2; omega
                have hjz : (j : Int) < k := by omega
                have hc1 := HO1.out.cell (i := j) (by simpa using hjk)
                have hf1 := HO1.out.frozen j
                obtain ⟨old, hold⟩ : ∃ old, ((List.range k).map (putTo (lab rows x).1 out q num)).getD j 0 = old := ⟨_, rfl⟩
                rw [hold] at hc1
                clear hold hj hm2 hrg
                go_wp2_with fail
                go_roundw
                case rel =>
                  refine ⟨q + 1, by omega, by go_num, HB3.out.setCell (by show _ ≤ g; exact hg1) _, by simpa [World.setCell] using hgs, ?_, HO2.out.far (by show g2 ≠ g; omega) _⟩
                  have h := HO1.out.set j num (by simpa using hjk)
                  rw [putTo_step _ _ _ _ _ _ (by have := HL.out; omega) HJ.out] at h
                  exact h
                case measure => simp [intOf]; omega
              · have hqL : q = L := by omega
                subst hqL
                have hfin : (List.range k).map (putTo (lab rows x).1 out out.length num) = labL rows k (x + 1) := by
                  unfold labL
                  rw [HST.out]
                  refine List.map_congr_left (fun y _ => ?_)
                  unfold putTo
                  have h := HINV.out.done y
                  rw [List.take_length]
                  show _ = (if Rch rows x y then (num : Int) else (lab rows x).1 y)
                  by_cases hy : Rch rows x y
                  · rw [if_pos (h.2 hy), if_pos hy]
                  · rw [if_neg (fun e => hy (h.1 e)), if_neg hy]
                have HFIN := hide hfin
                clear hfin
                go_wp2_with fail
                go_roundw
                case rel => exact ⟨x + 1, by omega, by go_num, by rw [HST.out]; go_num, HB3.out, hgs, by rw [← HFIN.out, HL.out]; exact HO1.out⟩
                case measure => simp [intOf]; omega
        · have hxk' : x = k := by omega
          subst hxk'
          go_wp2_with fail
          go_ret
          exact ⟨_, _, rfl, HB.out, .inr ⟨g, rfl, hg1, HO.out⟩⟩
end Go.Proofs.Ytkagfjofjbpfeaa
