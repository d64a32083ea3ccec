import Derived.Test.YtjgjnekpdeffaaaLcmI
import Derived.Test.YtjgjnekpdeffaaaCycI
namespace Go.Proofs.Ytjgjnekpdeffaaa
open Go Go.RowKit
open Classical
set_option maxHeartbeats 1000000

/-- The least common multiple of the first i of a list. -/
def ordTo (ys : List Int) : Nat → Nat
  | 0 => 1
  | i + 1 => Nat.lcm (ordTo ys i) (ys.getD i 0).toNat
theorem ordTo_range (ys : List Int) (i : Nat) (hi : i ≤ ys.length) (h : ∀ y ∈ ys, 1 ≤ y ∧ y ≤ 12) : 1 ≤ ordTo ys i ∧ ordTo ys i ≤ 12 ^ i := by
  induction i with
  | zero => simp [ordTo]
  | succ i ih =>
    have ih := ih (by omega)
    have hm : ys.getD i 0 ∈ ys := by have : i < ys.length := (by omega); simp [this]
    have hy := h _ hm
    unfold ordTo
    have hp : 0 < Nat.lcm (ordTo ys i) (ys.getD i 0).toNat := Nat.lcm_pos (by omega) (by omega)
    refine ⟨hp, ?_⟩
    have h1 : Nat.lcm (ordTo ys i) (ys.getD i 0).toNat ≤ ordTo ys i * (ys.getD i 0).toNat := Nat.div_le_self _ _
    have h2 : ordTo ys i * (ys.getD i 0).toNat ≤ 12 ^ i * 12 := Nat.mul_le_mul ih.2 (by omega)
    rw [Nat.pow_succ]
    omega
theorem ordTo_dvd (ys : List Int) (k i : Nat) : ordTo ys i ∣ k ↔ ∀ j, j < i → (ys.getD j 0).toNat ∣ k := by
  induction i with
  | zero => simp [ordTo]
  | succ i ih =>
    unfold ordTo
    rw [Nat.lcm_dvd_iff, ih]
    constructor
    · rintro ⟨h1, h2⟩ j hj
      by_cases e : j = i
      · subst e; exact h2
      · exact h1 j (by omega)
    · intro h
      exact ⟨fun j hj => h j (by omega), h i (by omega)⟩
theorem cyc_range (p : List Int) (n : Nat) (h12 : n ≤ 12) (hg : Gens [p] n) : ∀ y ∈ cyc [p] n n, 1 ≤ y ∧ y ≤ 12 := by
  intro v hv
  have hok := lab_ok [p] n n hg (Nat.le_refl _)
  unfold cyc at hv
  obtain ⟨o, ho, e⟩ := List.mem_map.1 hv
  have hol := List.mem_range.1 ho
  obtain ⟨y, hy, hyo⟩ := hok.onto o hol
  have h1 : cnt (lab [p] n).1 n o ≤ n := by
    unfold cnt
    have := List.countP_le_length (p := fun y => (lab [p] n).1 y == (o : Int)) (l := List.range n)
    simpa using this
  have h2 : 0 < cnt (lab [p] n).1 n o := by
    unfold cnt
    rw [List.countP_pos_iff]
    exact ⟨y, List.mem_range.2 hy, by simp [hyo]⟩
  omega

theorem order_any (A : Option Addr) (n c : Nat) (p : List Int) (w : World) (hn : p.length = n) (hp : Prm p) (hr : Rd w A p) :
    Calls Try.prog 47 #[.slice A n c] w fun e w' => ∃ ys : List Int, ys.Perm (cyc [p] n n) ∧ e = .returned (.int .i64 (ordTo ys ys.length)) ∧ Below w.heap.size w w' := by
  have h12 : n ≤ 12 := by have := hp.2.1; omega
  have hcr := cyc_range p n h12 (gens_one hn hp)
  have HCR := hide hcr
  have hcl : (cyc [p] n n).length ≤ 12 := by
    unfold cyc
    have := lab_le [p] n
    simp
    omega
  clear hcr
  go_enter Try.func47, Try.ntmps47
  go_wp2_with fail
  refine (cycles_any _ n _ p _ hn hp hr).mono ?_
  rintro e w2 ⟨A2, c2, ys, rfl, hb2, hres, hpe, hso⟩
  have hrange : ∀ y ∈ ys, 1 ≤ y ∧ y ≤ 12 := fun y hy => HCR.out y (hpe.mem_iff.1 hy)
  have hl := hpe.length_eq
  rw [← hl] at hcl ⊢
  obtain ⟨L, hL⟩ : ∃ L, ys.length = L := ⟨_, rfl⟩
  have HL := hide hL
  rw [hL] at hcl ⊢
  have HRG := hide hrange
  have HB := hide hb2
  have HRD := hide hres.rd
  have HPE := hide hpe
  clear hb2 hres hpe hso hrange hl hL
  go_wp2_with fail
  go_loopw [3, 9] (fun o i wr => ∃ k : Nat, k ≤ L ∧ i = .int .i64 k ∧ o = .int .i64 (ordTo ys k) ∧ Quiet w2 wr) (fun _ i _ => L - (intOf i).toNat)
  case atStart => exact ⟨0, Nat.zero_le _, rfl, rfl, Quiet.refl _⟩
  case round =>
    obtain ⟨k, hk, rfl, rfl, hq⟩ := hrel
    have HQ := hide hq
    clear hq
    have hrk := ordTo_range ys k (by have := HL.out; omega) HRG.out
    have hpow : 12 ^ k ≤ 12 ^ 12 := Nat.pow_le_pow_right (by omega) (by omega)
    by_cases hlt : k < L
    · have hltz : (k : Int) < L := by omega
      obtain ⟨b, o, rfl, _, hc⟩ := HQ.out.rd HRD.out (by have := HL.out; omega)
      have hc1 := hc k (by have := HL.out; omega)
      have hm : ys.getD k 0 ∈ ys := by have : k < ys.length := (by have := HL.out; omega); simp [this]
      have hy := HRG.out _ hm
      have hs : ordTo ys (k + 1) = Nat.lcm (ordTo ys k) (ys.getD k 0).toNat := rfl
      obtain ⟨y, hye⟩ := Int.eq_ofNat_of_zero_le (show 0 ≤ ys.getD k 0 by omega)
      rw [hye] at hc1 hy hs
      rw [Int.toNat_natCast] at hs
      obtain ⟨m, hme⟩ : ∃ m, ordTo ys k = m := ⟨_, rfl⟩
      rw [hme] at hs hrk ⊢
      have HS := hide hs
      have hmb : m ≤ 8916100448256 := by have : (12 : Nat) ^ 12 = 8916100448256 := (by decide); omega
      have hprod : m * y ≤ 1000000000000000000 := by
        have := Nat.mul_le_mul hmb (show y ≤ 12 by omega)
        omega
      clear hc hm hye hme hs hpow
      go_wp2_with fail
      refine (lcm_any m y _ hrk.1 (by omega) hprod).mono ?_
      rintro e w3 ⟨rfl, hq3⟩
      have HQ3 := hide (HQ.out.trans hq3)
      clear hq3
      go_wp2_with fail
      go_roundw
      case rel => exact ⟨k + 1, by omega, by go_num, by rw [HS.out], HQ3.out⟩
      case measure => simp [intOf]; omega
    · have hkL : k = L := by omega
      subst hkL
      go_wp2_with fail
      go_ret
      exact ⟨ys, HPE.out, by rw [HL.out]; rfl, HB.out.trans (HQ.out.below _)⟩
end Go.Proofs.Ytjgjnekpdeffaaa
