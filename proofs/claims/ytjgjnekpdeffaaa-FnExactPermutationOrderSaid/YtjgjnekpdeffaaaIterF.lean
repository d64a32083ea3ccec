import Derived.Test.YtjgjnekpdeffaaaCycI
namespace Go.Proofs.Ytjgjnekpdeffaaa
open Go Go.RowKit
open Classical

/-- Where k times p lead y. -/
def it (p : List Int) : Nat → Nat → Nat
  | 0, y => y
  | k + 1, y => (p.getD (it p k y) 0).toNat
theorem it_add (p : List Int) (a b y : Nat) : it p (a + b) y = it p a (it p b y) := by
  induction a with
  | zero => rw [Nat.zero_add]; rfl
  | succ a ih => rw [Nat.succ_add]; unfold it; rw [ih]
theorem it_lt {p : List Int} {n : Nat} (hg : Gens [p] n) (k y : Nat) (hy : y < n) : it p k y < n := by
  induction k with
  | zero => exact hy
  | succ k ih =>
    have h := hg.at (r := 0) (v := it p k y) (by simp) ih
    have e : ([p].getD 0 []) = p := rfl
    rw [e] at h
    unfold it
    omega
theorem it_inj {p : List Int} {n : Nat} (hg : Gens [p] n) (k y z : Nat) (hy : y < n) (hz : z < n) (h : it p k y = it p k z) : y = z := by
  induction k with
  | zero => exact h
  | succ k ih =>
    unfold it at h
    exact ih (hg.inj (r := 0) (by simp) (it_lt hg k y hy) (it_lt hg k z hz) h)
theorem it_rch (p : List Int) (k y : Nat) : Rch [p] y (it p k y) := by
  induction k with
  | zero => exact .start
  | succ k ih => exact .step ih (stp_one p _)
theorem rch_it {p : List Int} {y u : Nat} (h : Rch [p] y u) : ∃ k, it p k y = u := by
  induction h with
  | start => exact ⟨0, rfl⟩
  | step _ hs ih =>
    obtain ⟨k, e⟩ := ih
    refine ⟨k + 1, ?_⟩
    unfold it
    rw [e]
    exact stp_of hs
theorem it_back {p : List Int} {n : Nat} (hg : Gens [p] n) (y i j : Nat) (hy : y < n) (hij : i ≤ j) (h : it p i y = it p j y) : it p (j - i) y = y := by
  have e : j = i + (j - i) := by omega
  rw [e, it_add] at h
  exact (it_inj hg i y _ hy (it_lt hg _ y hy) h).symm
/-- Some number of times leads back. -/
theorem it_some {p : List Int} {n : Nat} (hg : Gens [p] n) (y : Nat) (hy : y < n) : ∃ k, 1 ≤ k ∧ it p k y = y := by
  by_cases h : ∃ i j, i < j ∧ it p i y = it p j y
  · obtain ⟨i, j, hij, e⟩ := h
    exact ⟨j - i, by omega, it_back hg y i j hy (by omega) e⟩
  · have hnd : ((List.range (n + 1)).map fun k => it p k y).Nodup := by
      rw [List.nodup_iff_pairwise_ne, List.pairwise_map]
      refine List.Pairwise.imp ?_ List.pairwise_lt_range
      intro a b hab e
      exact h ⟨a, b, hab, e⟩
    have := natnd_le _ n (fun v hv => by
      obtain ⟨k, _, e⟩ := List.mem_map.1 hv
      rw [← e]
      exact it_lt hg k y hy) hnd
    simp at this
    omega
theorem least_ex (P : Nat → Prop) : ∀ m, P m → ∃ l, P l ∧ ∀ j, j < l → ¬ P j := by
  intro m
  induction m using Nat.strongRecOn with
  | _ m ih =>
    intro hm
    by_cases h : ∃ j, j < m ∧ P j
    · obtain ⟨j, hj, hp⟩ := h
      exact ih j hj hp
    · exact ⟨m, hm, fun j hj hp => h ⟨j, hj, hp⟩⟩
/-- The cycle of an element: its length divides just the numbers of times that lead back. -/
theorem it_cycle {p : List Int} {n : Nat} (hg : Gens [p] n) (y : Nat) (hy : y < n) : ∃ V : List Nat, V.Nodup ∧ (∀ u, u ∈ V ↔ Rch [p] y u) ∧ ∀ k, it p k y = y ↔ V.length ∣ k := by
  obtain ⟨k0, hk0, e0⟩ := it_some hg y hy
  obtain ⟨L, ⟨hL1, hLe⟩, hLm⟩ := least_ex (fun k => 1 ≤ k ∧ it p k y = y) k0 ⟨hk0, e0⟩
  have hmod : ∀ k, it p k y = it p (k % L) y := by
    intro k
    have hq : ∀ q r, it p (r + q * L) y = it p r y := by
      intro q
      induction q with
      | zero => intro r; simp
      | succ q ih =>
        intro r
        have e : r + (q + 1) * L = (r + q * L) + L := by rw [Nat.succ_mul]; omega
        rw [e, it_add, hLe, ih]
    have := hq (k / L) (k % L)
    rw [Nat.mod_add_div' k L] at this
    exact this
  refine ⟨(List.range L).map fun k => it p k y, ?_, fun u => ?_, fun k => ?_⟩
  · rw [List.nodup_iff_pairwise_ne, List.pairwise_map]
    refine List.Pairwise.imp_of_mem ?_ (List.pairwise_lt_range (n := L))
    intro a b _ hb hab e
    have hb' := List.mem_range.1 hb
    exact hLm (b - a) (by omega) ⟨by omega, it_back hg y a b hy (by omega) e⟩
  · constructor
    · intro hu
      obtain ⟨k, _, e⟩ := List.mem_map.1 hu
      rw [← e]
      exact it_rch p k y
    · intro hu
      obtain ⟨k, e⟩ := rch_it hu
      rw [← e, hmod k]
      exact List.mem_map.2 ⟨k % L, List.mem_range.2 (Nat.mod_lt _ (by omega)), rfl⟩
  · rw [List.length_map, List.length_range]
    constructor
    · intro h
      rw [hmod k] at h
      have hlt : k % L < L := Nat.mod_lt _ (by omega)
      by_cases h0 : k % L = 0
      · exact Nat.dvd_of_mod_eq_zero h0
      · exact absurd ⟨by omega, h⟩ (hLm (k % L) hlt)
    · intro h
      rw [hmod k, Nat.mod_eq_zero_of_dvd h]
      rfl

theorem rch_symm {rows : List (List Int)} {n : Nat} (hg : Gens rows n) {x y : Nat} (hx : x < n) (h : Rch rows x y) : Rch rows y x := by
  induction h with
  | start => exact .start
  | @step a b h1 hs ih =>
    have ha := hg.stay hx h1
    have hb : b < n := hg.stay hx (.step h1 hs)
    exact (hg.back hb ha hs .start).trans ih
theorem lab_same {rows : List (List Int)} {n : Nat} (hg : Gens rows n) (k : Nat) (hk : k ≤ n) (y u : Nat) (hy : y < n) (h0 : 0 ≤ (lab rows k).1 y) : (lab rows k).1 u = (lab rows k).1 y ↔ Rch rows y u := by
  induction k with
  | zero => simp [lab] at h0
  | succ k ih =>
    have ih := ih (by omega)
    by_cases hl : 0 ≤ (lab rows k).1 k
    · have e : lab rows (k + 1) = lab rows k := by rw [lab, if_pos hl]
      rw [e] at h0 ⊢
      exact ih h0
    · have e : lab rows (k + 1) = (fun y => if Rch rows k y then ((lab rows k).2 : Int) else (lab rows k).1 y, (lab rows k).2 + 1) := by rw [lab, if_neg hl]
      have hok := lab_ok rows n k hg (by omega)
      rw [e] at h0 ⊢
      have h0' : 0 ≤ (if Rch rows k y then ((lab rows k).2 : Int) else (lab rows k).1 y) := h0
      show (if Rch rows k u then ((lab rows k).2 : Int) else (lab rows k).1 u) = (if Rch rows k y then ((lab rows k).2 : Int) else (lab rows k).1 y) ↔ Rch rows y u
      by_cases hry : Rch rows k y
      · rw [if_pos hry]
        by_cases hru : Rch rows k u
        · rw [if_pos hru]
          exact ⟨fun _ => (rch_symm hg (by omega) hry).trans hru, fun _ => rfl⟩
        · rw [if_neg hru]
          have := hok.lt u
          exact ⟨fun h => by omega, fun h => absurd (hry.trans h) hru⟩
      · rw [if_neg hry] at h0' ⊢
        by_cases hru : Rch rows k u
        · rw [if_pos hru]
          have := hok.lt y
          refine ⟨fun h => by omega, fun h => absurd (hru.trans (rch_symm hg hy h)) hry⟩
        · rw [if_neg hru]
          exact ih h0'
/-- The numbers of times that lead all elements back are the multiples of all lengths. -/
theorem it_all {p : List Int} {n : Nat} (hg : Gens [p] n) (k : Nat) : (∀ y, y < n → it p k y = y) ↔ ∀ v ∈ cyc [p] n n, v.toNat ∣ k := by
  have hok := lab_ok [p] n n hg (Nat.le_refl _)
  have hcnt : ∀ y, y < n → ∀ o : Nat, (lab [p] n).1 y = (o : Int) → (it p k y = y ↔ cnt (lab [p] n).1 n o ∣ k) := by
    intro y hy o ho
    obtain ⟨V, h1, h2, h3⟩ := it_cycle hg y hy
    rw [h3 k, cnt_list _ n o V h1 (fun u => ?_)]
    rw [h2 u, ← lab_same hg n (Nat.le_refl _) y u hy (by omega), ho]
    constructor
    · intro h
      have hr := (lab_same hg n (Nat.le_refl _) y u hy (by omega)).1 (by rw [h, ho])
      exact ⟨hg.stay hy hr, h⟩
    · exact fun h => h.2
  unfold cyc
  constructor
  · intro h v hv
    obtain ⟨o, ho, e⟩ := List.mem_map.1 hv
    obtain ⟨y, hy, hyo⟩ := hok.onto o (List.mem_range.1 ho)
    rw [← e, Int.toNat_natCast]
    exact (hcnt y hy o hyo).1 (h y hy)
  · intro h y hy
    have h0 := hok.all y hy
    have hlt := hok.lt y
    obtain ⟨o, ho⟩ := Int.eq_ofNat_of_zero_le h0
    refine (hcnt y hy o ho).2 ?_
    have := h ((cnt (lab [p] n).1 n o : Nat) : Int) (List.mem_map.2 ⟨o, List.mem_range.2 (by omega), rfl⟩)
    rwa [Int.toNat_natCast] at this
end Go.Proofs.Ytjgjnekpdeffaaa
