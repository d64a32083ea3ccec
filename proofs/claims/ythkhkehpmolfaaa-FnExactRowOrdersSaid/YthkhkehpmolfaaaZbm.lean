import Derived.Test.YthkhkehpmolfaaaZbi
import Derived.Test.YthkhkehpmolfaaaZak
namespace Go.Proofs.Ythkhkehpmolfaaa
open Go Go.RowKit
open Classical

/-- Where k times p lead y. -/
def it (p : List Int) : Nat → Nat → Nat
  | 0, y => y
  | k + 1, y => (p.getD (it p k y) 0).toNat
theorem it_add (p : List Int) (a b y : Nat) : it p (a + b) y = it p a (it p b y) := by
  induction a with
  | zero => rw [Nat.zero_add]; rfl
  | succ a ih => rw [Nat.succ_add]; unfold it; rw [ih]
theorem it_lt {p : List Int} {n : Nat} (hg : Gens [p] n) (k y : Nat) (hy : y < n) : it p k y < n := by
  induction k with
  | zero => exact hy
  | succ k ih =>
    have h := hg.at (r := 0) (v := it p k y) (by simp) ih
    have e : ([p].getD 0 []) = p := rfl
    rw [e] at h
    unfold it
    omega
theorem it_inj {p : List Int} {n : Nat} (hg : Gens [p] n) (k y z : Nat) (hy : y < n) (hz : z < n) (h : it p k y = it p k z) : y = z := by
  induction k with
  | zero => exact h
  | succ k ih =>
    unfold it at h
    exact ih (hg.inj (r := 0) (by simp) (it_lt hg k y hy) (it_lt hg k z hz) h)
theorem it_rch (p : List Int) (k y : Nat) : Rch [p] y (it p k y) := by
  induction k with
  | zero => exact .start
  | succ k ih => exact .step ih (stp_one p _)
theorem rch_it {p : List Int} {y u : Nat} (h : Rch [p] y u) : ∃ k, it p k y = u := by
  induction h with
  | start => exact ⟨0, rfl⟩
  | step _ hs ih =>
    obtain ⟨k, e⟩ := ih
    refine ⟨k + 1, ?_⟩
    unfold it
    rw [e]
    exact stp_of hs
theorem it_back {p : List Int} {n : Nat} (hg : Gens [p] n) (y i j : Nat) (hy : y < n) (hij : i ≤ j) (h : it p i y = it p j y) : it p (j - i) y = y := by
  have e : j = i + (j - i) := by omega
  rw [e, it_add] at h
  exact (it_inj hg i y _ hy (it_lt hg _ y hy) h).symm
/-- Some number of times leads back. -/
theorem it_some {p : List Int} {n : Nat} (hg : Gens [p] n) (y : Nat) (hy : y < n) : ∃ k, 1 ≤ k ∧ it p k y = y := by
  by_cases h : ∃ i j, i < j ∧ it p i y = it p j y
  · obtain ⟨i, j, hij, e⟩ := h
    exact ⟨j - i, by omega, it_back hg y i j hy (by omega) e⟩
  · have hnd : ((List.range (n + 1)).map fun k => it p k y).Nodup := by
      rw [List.nodup_iff_pairwise_ne, List.pairwise_map]
      refine List.Pairwise.imp ?_ List.pairwise_lt_range
      intro a b hab e
      exact h ⟨a, b, hab, e⟩
    have := natnd_le _ n (fun v hv => by
      obtain ⟨k, _, e⟩ := List.mem_map.1 hv
      rw [← e]
      exact it_lt hg k y hy) hnd
    simp at this
    omega
theorem least_ex (P : Nat → Prop) : ∀ m, P m → ∃ l, P l ∧ ∀ j, j < l → ¬ P j := by
  intro m
  induction m using Nat.strongRecOn with
  | _ m ih =>
    intro hm
    by_cases h : ∃ j, j < m ∧ P j
    · obtain ⟨j, hj, hp⟩ := h
      exact ih j hj hp
    · exact ⟨m, hm, fun j hj hp => h ⟨j, hj, hp⟩⟩
/-- The cycle of an element: its length divides just the numbers of times that lead back. -/
theorem it_cycle {p : List Int} {n : Nat} (hg : Gens [p] n) (y : Nat) (hy : y < n) : ∃ V : List Nat, V.Nodup ∧ (∀ u, u ∈ V ↔ Rch [p] y u) ∧ ∀ k, it p k y = y ↔ V.length ∣ k := by
  obtain ⟨k0, hk0, e0⟩ := it_some hg y hy
  obtain ⟨L, ⟨hL1, hLe⟩, hLm⟩ := least_ex (fun k => 1 ≤ k ∧ it p k y = y) k0 ⟨hk0, e0⟩
  have hmod : ∀ k, it p k y = it p (k % L) y := by
    intro k
    have hq : ∀ q r, it p (r + q * L) y = it p r y := by
      intro q
      induction q with
      | zero => intro r; simp
      | succ q ih =>
        intro r
        have e : r + (q + 1) * L = (r + q * L) + L := by rw [Nat.succ_mul]; omega
        rw [e, it_add, hLe, ih]
    have := hq (k / L) (k % L)
    rw [Nat.mod_add_div' k L] at this
    exact this
  refine ⟨(List.range L).map fun k => it p k y, ?_, fun u => ?_, fun k => ?_⟩
  · rw [List.nodup_iff_pairwise_ne, List.pairwise_map]
    refine List.Pairwise.imp_of_mem ?_ (List.pairwise_lt_range (n := L))
    intro a b _ hb hab e
    have hb' := List.mem_range.1 hb
    exact hLm (b - a) (by omega) ⟨by omega, it_back hg y a b hy (by omega) e⟩
  · constructor
    · intro hu
      obtain ⟨k, _, e⟩ := List.mem_map.1 hu
      rw [← e]
      exact it_rch p k y
    · intro hu
      obtain ⟨k, e⟩ := rch_it hu
      rw [← e, hmod k]
      exact List.mem_map.2 ⟨k % L, List.mem_range.2 (Nat.mod_lt _ (by omega)), rfl⟩
  · rw [List.length_map, List.length_range]
    constructor
    · intro h
      rw [hmod k] at h
      have hlt : k % L < L := Nat.mod_lt _ (by omega)
      by_cases h0 : k % L = 0
      · exact Nat.dvd_of_mod_eq_zero h0
      · exact absurd ⟨by omega, h⟩ (hLm (k % L) hlt)
    · intro h
      rw [hmod k, Nat.mod_eq_zero_of_dvd h]
      rfl

theorem rch_symm {rows : List (List Int)} {n : Nat} (hg : Gens rows n) {x y : Nat} (hx : x < n) (h : Rch rows x y) : Rch rows y x := by
  induction h with
  | start => exact .start
  | @step a b h1 hs ih =>
    have ha := hg.stay hx h1
    have hb : b < n := hg.stay hx (.step h1 hs)
    exact (hg.back hb ha hs .start).trans ih
theorem lab_same {rows : List (List Int)} {n : Nat} (hg : Gens rows n) (k : Nat) (hk : k ≤ n) (y u : Nat) (hy : y < n) (h0 : 0 ≤ (lab rows k).1 y) : (lab rows k).1 u = (lab rows k).1 y ↔ Rch rows y u := by
  induction k with
  | zero => simp [lab] at h0
  | succ k ih =>
    have ih := ih (by omega)
    by_cases hl : 0 ≤ (lab rows k).1 k
    · have e : lab rows (k + 1) = lab rows k := by rw [lab, if_pos hl]
      rw [e] at h0 ⊢
      exact ih h0
    · have e : lab rows (k + 1) = (fun y => if Rch rows k y then ((lab rows k).2 : Int) else (lab rows k).1 y, (lab rows k).2 + 1) := by rw [lab, if_neg hl]
      have hok := lab_ok rows n k hg (by omega)
      rw [e] at h0 ⊢
      have h0' : 0 ≤ (if Rch rows k y then ((lab rows k).2 : Int) else (lab rows k).1 y) := h0
      show (if Rch rows k u then ((lab rows k).2 : Int) else (lab rows k).1 u) = (if Rch rows k y then ((lab rows k).2 : Int) else (lab rows k).1 y) ↔ Rch rows y u
      by_cases hry : Rch rows k y
      · rw [if_pos hry]
        by_cases hru : Rch rows k u
        · rw [if_pos hru]
          exact ⟨fun _ => (rch_symm hg (by omega) hry).trans hru, fun _ => rfl⟩
        · rw [if_neg hru]
          have := hok.lt u
          exact ⟨fun h => by omega, fun h => absurd (hry.trans h) hru⟩
      · rw [if_neg hry] at h0' ⊢
        by_cases hru : Rch rows k u
        · rw [if_pos hru]
          have := hok.lt y
          refine ⟨fun h => by omega, fun h => absurd (hru.trans (rch_symm hg hy h)) hry⟩
        · rw [if_neg hru]
          exact ih h0'
/-- The numbers of times that lead all elements back are the multiples of all lengths. -/
theorem it_all {p : List Int} {n : Nat} (hg : Gens [p] n) (k : Nat) : (∀ y, y < n → it p k y = y) ↔ ∀ v ∈ cyc [p] n n, v.toNat ∣ k := by
  have hok := lab_ok [p] n n hg (Nat.le_refl _)
  have hcnt : ∀ y, y < n → ∀ o : Nat, (lab [p] n).1 y = (o : Int) → (it p k y = y ↔ cnt (lab [p] n).1 n o ∣ k) := by
    intro y hy o ho
    obtain ⟨V, h1, h2, h3⟩ := it_cycle hg y hy
    rw [h3 k, cnt_list _ n o V h1 (fun u => ?_)]
    rw [h2 u, ← lab_same hg n (Nat.le_refl _) y u hy (by omega), ho]
    constructor
    · intro h
      have hr := (lab_same hg n (Nat.le_refl _) y u hy (by omega)).1 (by rw [h, ho])
      exact ⟨hg.stay hy hr, h⟩
    · exact fun h => h.2
  unfold cyc
  constructor
  · intro h v hv
    obtain ⟨o, ho, e⟩ := List.mem_map.1 hv
    obtain ⟨y, hy, hyo⟩ := hok.onto o (List.mem_range.1 ho)
    rw [← e, Int.toNat_natCast]
    exact (hcnt y hy o hyo).1 (h y hy)
  · intro h y hy
    have h0 := hok.all y hy
    have hlt := hok.lt y
    obtain ⟨o, ho⟩ := Int.eq_ofNat_of_zero_le h0
    refine (hcnt y hy o ho).2 ?_
    have := h ((cnt (lab [p] n).1 n o : Nat) : Int) (List.mem_map.2 ⟨o, List.mem_range.2 (by omega), rfl⟩)
    rwa [Int.toNat_natCast] at this
end Go.Proofs.Ythkhkehpmolfaaa
namespace Go.Proofs.Ythkhkehpmolfaaa
open Go Go.RowKit
open Classical
set_option maxHeartbeats 1000000

/-- The least common multiple of the first i of a list. -/
def ordTo (ys : List Int) : Nat → Nat
  | 0 => 1
  | i + 1 => Nat.lcm (ordTo ys i) (ys.getD i 0).toNat
theorem ordTo_range (ys : List Int) (i : Nat) (hi : i ≤ ys.length) (h : ∀ y ∈ ys, 1 ≤ y ∧ y ≤ 12) : 1 ≤ ordTo ys i ∧ ordTo ys i ≤ 12 ^ i := by
  induction i with
  | zero => simp [ordTo]
  | succ i ih =>
    have ih := ih (by omega)
    have hm : ys.getD i 0 ∈ ys := by have : i < ys.length := (by omega); simp [this]
    have hy := h _ hm
    unfold ordTo
    have hp : 0 < Nat.lcm (ordTo ys i) (ys.getD i 0).toNat := Nat.lcm_pos (by omega) (by omega)
    refine ⟨hp, ?_⟩
    have h1 : Nat.lcm (ordTo ys i) (ys.getD i 0).toNat ≤ ordTo ys i * (ys.getD i 0).toNat := Nat.div_le_self _ _
    have h2 : ordTo ys i * (ys.getD i 0).toNat ≤ 12 ^ i * 12 := Nat.mul_le_mul ih.2 (by omega)
    rw [Nat.pow_succ]
    omega
theorem ordTo_dvd (ys : List Int) (k i : Nat) : ordTo ys i ∣ k ↔ ∀ j, j < i → (ys.getD j 0).toNat ∣ k := by
  induction i with
  | zero => simp [ordTo]
  | succ i ih =>
    unfold ordTo
    rw [Nat.lcm_dvd_iff, ih]
    constructor
    · rintro ⟨h1, h2⟩ j hj
      by_cases e : j = i
      · subst e; exact h2
      · exact h1 j (by omega)
    · intro h
      exact ⟨fun j hj => h j (by omega), h i (by omega)⟩
theorem cyc_range (p : List Int) (n : Nat) (h12 : n ≤ 12) (hg : Gens [p] n) : ∀ y ∈ cyc [p] n n, 1 ≤ y ∧ y ≤ 12 := by
  intro v hv
  have hok := lab_ok [p] n n hg (Nat.le_refl _)
  unfold cyc at hv
  obtain ⟨o, ho, e⟩ := List.mem_map.1 hv
  have hol := List.mem_range.1 ho
  obtain ⟨y, hy, hyo⟩ := hok.onto o hol
  have h1 : cnt (lab [p] n).1 n o ≤ n := by
    unfold cnt
    have := List.countP_le_length (p := fun y => (lab [p] n).1 y == (o : Int)) (l := List.range n)
    simpa using this
  have h2 : 0 < cnt (lab [p] n).1 n o := by
    unfold cnt
    rw [List.countP_pos_iff]
    exact ⟨y, List.mem_range.2 hy, by simp [hyo]⟩
  omega

theorem order_any (A : Option Addr) (n c : Nat) (p : List Int) (w : World) (hn : p.length = n) (hp : Prm p) (hr : Rd w A p) :
    Calls Try.prog 81 #[.slice A n c] w fun e w' => ∃ ys : List Int, ys.Perm (cyc [p] n n) ∧ e = .returned (.int .i64 (ordTo ys ys.length)) ∧ Below w.heap.size w w' := by
  have h12 : n ≤ 12 := by have := hp.2.1; omega
  have hcr := cyc_range p n h12 (gens_one hn hp)
  have HCR := hide hcr
  have hcl : (cyc [p] n n).length ≤ 12 := by
    unfold cyc
    have := lab_le [p] n
    simp
    omega
  clear hcr
  go_enter Try.func81, Try.ntmps81
  go_wp2_with fail
  refine (cycles_any _ n _ p _ hn hp hr).mono ?_
  rintro e w2 ⟨A2, c2, ys, rfl, hb2, hres, hpe, hso⟩
  have hrange : ∀ y ∈ ys, 1 ≤ y ∧ y ≤ 12 := fun y hy => HCR.out y (hpe.mem_iff.1 hy)
  have hl := hpe.length_eq
  rw [← hl] at hcl ⊢
  obtain ⟨L, hL⟩ : ∃ L, ys.length = L := ⟨_, rfl⟩
  have HL := hide hL
  rw [hL] at hcl ⊢
  have HRG := hide hrange
  have HB := hide hb2
  have HRD := hide hres.rd
  have HPE := hide hpe
  clear hb2 hres hpe hso hrange hl hL
  go_wp2_with fail
  go_loopw [3, 9] (fun o i wr => ∃ k : Nat, k ≤ L ∧ i = .int .i64 k ∧ o = .int .i64 (ordTo ys k) ∧ Quiet w2 wr) (fun _ i _ => L - (intOf i).toNat)
  case atStart => exact ⟨0, Nat.zero_le _, rfl, rfl, Quiet.refl _⟩
  case round =>
    obtain ⟨k, hk, rfl, rfl, hq⟩ := hrel
    have HQ := hide hq
    clear hq
    have hrk := ordTo_range ys k (by have := HL.out; omega) HRG.out
    have hpow : 12 ^ k ≤ 12 ^ 12 := Nat.pow_le_pow_right (by omega) (by omega)
    by_cases hlt : k < L
    · have hltz : (k : Int) < L := by omega
      obtain ⟨b, o, rfl, _, hc⟩ := HQ.out.rd HRD.out (by have := HL.out; omega)
      have hc1 := hc k (by have := HL.out; omega)
      have hm : ys.getD k 0 ∈ ys := by have : k < ys.length := (by have := HL.out; omega); simp [this]
      have hy := HRG.out _ hm
      have hs : ordTo ys (k + 1) = Nat.lcm (ordTo ys k) (ys.getD k 0).toNat := rfl
      obtain ⟨y, hye⟩ := Int.eq_ofNat_of_zero_le (show 0 ≤ ys.getD k 0 by omega)
      rw [hye] at hc1 hy hs
      rw [Int.toNat_natCast] at hs
      obtain ⟨m, hme⟩ : ∃ m, ordTo ys k = m := ⟨_, rfl⟩
      rw [hme] at hs hrk ⊢
      have HS := hide hs
      have hmb : m ≤ 8916100448256 := by have : (12 : Nat) ^ 12 = 8916100448256 := (by decide); omega
      have hprod : m * y ≤ 1000000000000000000 := by
        have := Nat.mul_le_mul hmb (show y ≤ 12 by omega)
        omega
      clear hc hm hye hme hs hpow
      go_wp2_with fail
      refine (lcm_any m y _ hrk.1 (by omega) hprod).mono ?_
      rintro e w3 ⟨rfl, hq3⟩
      have HQ3 := hide (HQ.out.trans hq3)
      clear hq3
      go_wp2_with fail
      go_roundw
      case rel => exact ⟨k + 1, by omega, by go_num, by rw [HS.out], HQ3.out⟩
      case measure => simp [intOf]; omega
    · have hkL : k = L := by omega
      subst hkL
      go_wp2_with fail
      go_ret
      exact ⟨ys, HPE.out, by rw [HL.out]; rfl, HB.out.trans (HQ.out.below _)⟩
end Go.Proofs.Ythkhkehpmolfaaa
