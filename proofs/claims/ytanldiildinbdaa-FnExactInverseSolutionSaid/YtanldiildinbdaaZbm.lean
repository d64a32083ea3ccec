import Derived.Test.YtanldiildinbdaaZbh
import Derived.Test.YtanldiildinbdaaZb
import Derived.Test.YtanldiildinbdaaZab
namespace Go.Proofs.Ytanldiildinbdaa
open Go Go.RowKit
set_option maxHeartbeats 1000000
/-- The number of the pair that is led to (x, y). -/
def bk (f s : List (List Int)) (n x y : Nat) : Nat := ((List.range (n * n)).find? (fun k => decide (ledK f s n k = (x, y)))).getD 0
theorem led_lt {f s : List (List Int)} {n : Nat} (hp : PMap f s) (hn : f.length = n) {k : Nat} (hk : k < n * n) : (ledK f s n k).1 < n ∧ (ledK f s n k).2 < n := by
  have hn0 : 0 < n := by rcases Nat.eq_zero_or_pos n with e | e; (subst e; simp at hk); exact e
  have hx : k / n < n := Nat.div_lt_of_lt_mul hk
  have hy : k % n < n := Nat.mod_lt _ hn0
  exact ⟨hp.1.ap_lt hn hx hy, hp.2.1.ap_lt (by rw [← hp.2.2]; exact hn) hx hy⟩
theorem bk_led {f s : List (List Int)} {n : Nat} (hc : NoCol f s n) {k x y : Nat} (hk : k < n * n) (h : ledK f s n k = (x, y)) : bk f s n x y = k := by
  unfold bk
  cases e : (List.range (n * n)).find? (fun k => decide (ledK f s n k = (x, y))) with
  | none =>
    rw [List.find?_eq_none] at e
    exact absurd h (by simpa using e k (List.mem_range.2 hk))
  | some j =>
    have h1 := List.find?_some e
    have h2 := List.mem_range.1 (List.mem_of_find?_eq_some e)
    simp at h1
    show j = k
    refine Classical.byContradiction (fun hne => hc j k h2 hk hne ?_)
    rw [h1, h]
theorem bk_spec {f s : List (List Int)} {n : Nat} (hp : PMap f s) (hn : f.length = n) (hc : NoCol f s n) {x y : Nat} (hx : x < n) (hy : y < n) : bk f s n x y < n * n ∧ ledK f s n (bk f s n x y) = (x, y) := by
  have hnd : ((List.range (n * n)).map fun k => (ledK f s n k).1 * n + (ledK f s n k).2).Nodup := by
    rw [List.nodup_iff_pairwise_ne, List.pairwise_map]
    refine List.Pairwise.imp_of_mem ?_ List.pairwise_lt_range
    intro a b ha hb hab e
    have ha := List.mem_range.1 ha
    have hb := List.mem_range.1 hb
    have la := led_lt hp hn ha
    have lb := led_lt hp hn hb
    refine hc a b ha hb (by omega) ?_
    have e1 : ((ledK f s n a).1 * n + (ledK f s n a).2) / n = (ledK f s n a).1 := pair_div n _ _ la.2
    have e2 : ((ledK f s n b).1 * n + (ledK f s n b).2) / n = (ledK f s n b).1 := pair_div n _ _ lb.2
    have e3 : ((ledK f s n a).1 * n + (ledK f s n a).2) % n = (ledK f s n a).2 := pair_mod n _ _ la.2
    have e4 : ((ledK f s n b).1 * n + (ledK f s n b).2) % n = (ledK f s n b).2 := pair_mod n _ _ lb.2
    rw [e] at e1 e3
    exact Prod.ext (e1.symm.trans e2) (e3.symm.trans e4)
  have hrow : ∀ a b, a < n → b < n → a * n + b < n * n := fun a b ha hb => by
    have h9 := Nat.mul_le_mul_right n (show a + 1 ≤ n from ha)
    rw [Nat.add_mul, Nat.one_mul] at h9
    omega
  obtain ⟨l, hl⟩ := subset_perm _ (List.range (n * n)) hnd (fun a ha => by
    obtain ⟨k, hk, e⟩ := List.mem_map.1 ha
    have hk := List.mem_range.1 hk
    have la := led_lt hp hn hk
    rw [← e]
    exact List.mem_range.2 (hrow _ _ la.1 la.2))
  have hll := hl.length_eq
  simp at hll
  subst hll
  have hm : x * n + y ∈ ((List.range (n * n)).map fun k => (ledK f s n k).1 * n + (ledK f s n k).2) := by
    have h := hl.mem_iff.1 (List.mem_range.2 (hrow x y hx hy))
    simpa using h
  obtain ⟨k, hk, e⟩ := List.mem_map.1 hm
  have hk := List.mem_range.1 hk
  have la := led_lt hp hn hk
  have e1 : ((ledK f s n k).1 * n + (ledK f s n k).2) / n = (ledK f s n k).1 := pair_div n _ _ la.2
  have e3 : ((ledK f s n k).1 * n + (ledK f s n k).2) % n = (ledK f s n k).2 := pair_mod n _ _ la.2
  rw [e, pair_div n x y hy] at e1
  rw [e, pair_mod n x y hy] at e3
  have hxy : ledK f s n k = (x, y) := Prod.ext e1.symm e3.symm
  rw [bk_led hc hk hxy]
  exact ⟨hk, hxy⟩
def bk1 (f s : List (List Int)) (n : Nat) : Nat → Nat → Int := fun x y => ((bk f s n x y / n : Nat) : Int)
def bk2 (f s : List (List Int)) (n : Nat) : Nat → Nat → Int := fun x y => ((bk f s n x y % n : Nat) : Int)
def BkRes (f s : List (List Int)) : List (List Int) → List (List Int) → Int → Prop := GRes (SolF f s) f.length (bk1 f s f.length) (bk2 f s f.length) 1
theorem BkRes.ex (f s : List (List Int)) : ∃ zf zg code, BkRes f s zf zg code ∧ ZSz 1048576 zf zf.length zg zg.length := GRes.ex _ _ _ _ _ (fun h => by have := h.1.1.2.1; omega)
end Go.Proofs.Ytanldiildinbdaa
