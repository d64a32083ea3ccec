import Derived.Test.YthkhkehpmolfaaaZbm
import Derived.Test.YthkhkehpmolfaaaZae
import Derived.Test.YthkhkehpmolfaaaZai
import Derived.Test.YthkhkehpmolfaaaZad
import Derived.Test.YthkhkehpmolfaaaZd
import Derived.Test.YthkhkehpmolfaaaZaj
namespace Go.Proofs.Ythkhkehpmolfaaa
open Go Go.RowKit
open Classical
set_option maxHeartbeats 2000000

def itL (p : List Int) (n k : Nat) : List Int := (List.range n).map fun (y : Nat) => ((it p k y : Nat) : Int)
theorem itL_length (p : List Int) (n k : Nat) : (itL p n k).length = n := by simp [itL]
theorem itL_unit (p : List Int) (n k : Nat) : itL p n k = unitN n ↔ ∀ y, y < n → it p k y = y := by
  unfold itL unitN
  constructor
  · intro h y hy
    have e := congrArg (fun l => l.getD y 0) h
    simp [hy] at e
    omega
  · intro h
    refine List.map_congr_left (fun y hy => ?_)
    rw [h y (List.mem_range.1 hy)]
theorem itL_next {p : List Int} {n : Nat} (hg : Gens [p] n) (k : Nat) : thenL (itL p n k) p = itL p n (k + 1) := by
  unfold thenL itL
  rw [List.map_map]
  refine List.map_congr_left (fun y hy => ?_)
  have hlt := it_lt hg k y (List.mem_range.1 hy)
  have h := hg.at (r := 0) (v := it p k y) (by simp) hlt
  have e : ([p].getD 0 []) = p := rfl
  rw [e] at h
  show p.getD ((it p k y : Nat) : Int).toNat 0 = ((it p (k + 1) y : Nat) : Int)
  rw [Int.toNat_natCast]
  show _ = (((p.getD (it p k y) 0).toNat : Nat) : Int)
  omega
theorem itL_one {p : List Int} {n : Nat} (hn : p.length = n) (hg : Gens [p] n) : itL p n 1 = p := by
  apply List.ext_getElem
  · rw [itL_length, hn]
  · intro y h1 h2
    rw [itL_length] at h1
    have h := hg.at (r := 0) (v := y) (by simp) h1
    have e : ([p].getD 0 []) = p := rfl
    rw [e] at h
    have e2 : p.getD y 0 = p[y] := by simp [h2]
    simp only [itL, List.getElem_map, List.getElem_range, it]
    rw [e2] at h ⊢
    omega
theorem itL_range {p : List Int} {n : Nat} (hg : Gens [p] n) (k : Nat) : ∀ x ∈ itL p n k, 0 ≤ x ∧ x < (n : Int) := by
  intro x hx
  obtain ⟨y, hy, e⟩ := List.mem_map.1 hx
  have := it_lt hg k y (List.mem_range.1 hy)
  omega

def OrdRes (p : List Int) (v : Int) (code : Int) : Prop := (Prm p ∧ (∃ m : Nat, v = (m : Int) ∧ 1 ≤ m ∧ m ≤ 12 ^ 12 ∧ ∀ k, (∀ y, y < p.length → it p k y = y) ↔ m ∣ k) ∧ code = 0) ∨ (¬ Prm p ∧ v = 0 ∧ code = 1)
theorem ord_of (p ys : List Int) (n : Nat) (hn : p.length = n) (hp : Prm p) (h : ys.Perm (cyc [p] n n)) : 1 ≤ ordTo ys ys.length ∧ ordTo ys ys.length ≤ 12 ^ 12 ∧ ∀ k, (∀ y, y < n → it p k y = y) ↔ ordTo ys ys.length ∣ k := by
  have hg := gens_one hn hp
  have h12 : n ≤ 12 := by have := hp.2.1; omega
  have hcr := cyc_range p n h12 hg
  have hcl : ys.length ≤ 12 := by
    rw [h.length_eq]
    unfold cyc
    have := lab_le [p] n
    simp
    omega
  have hr := ordTo_range ys ys.length (Nat.le_refl _) (fun y hy => hcr y (h.mem_iff.1 hy))
  refine ⟨hr.1, Nat.le_trans hr.2 (Nat.pow_le_pow_right (by omega) hcl), fun k => ?_⟩
  rw [it_all hg k, ordTo_dvd]
  constructor
  · intro hk j hj
    exact hk _ (h.mem_iff.1 (by simp [hj]))
  · intro hk v hv
    obtain ⟨j, hj, e⟩ := List.getElem_of_mem (h.mem_iff.2 hv)
    have := hk j hj
    simp [hj, e] at this
    exact this
theorem OrdRes.ex (p : List Int) : ∃ v code, OrdRes p v code := by
  by_cases h : Prm p
  · have := ord_of p (cyc [p] p.length p.length) p.length rfl h (List.Perm.refl _)
    exact ⟨_, _, .inl ⟨h, ⟨_, rfl, this.1, this.2.1, this.2.2⟩, rfl⟩⟩
  · exact ⟨_, _, .inr ⟨h, rfl, rfl⟩⟩

theorem l01Order_any (A : Option Addr) (n c : Nat) (p : List Int) (m : Nat) (w : World) (hn : p.length = n) (hp : Prm p) (hr : Rd w A p) (hm1 : 1 ≤ m) (hm2 : m ≤ 12 ^ 12) (hm : ∀ k, (∀ y, y < n → it p k y = y) ↔ m ∣ k) :
    Calls Try.prog 80 #[.slice A n c] w fun e w' => e = .returned (.int .i64 m) ∧ Below w.heap.size w w' := by
  have h1n : 1 ≤ n := by have := hp.1; omega
  have h12 : n ≤ 12 := by have := hp.2.1; omega
  have hm3 : m ≤ 8916100448256 := by have : (12 : Nat) ^ 12 = 8916100448256 := (by decide); omega
  have HN := hide hn
  have HG := hide (gens_one hn hp)
  have HM := hide hm
  have HONE := hide (itL_one hn (gens_one hn hp))
  clear hn hp hm hm2
  go_enter Try.func80, Try.ntmps80
  go_wp2_with fail
  refine (l01Unit_any n _ (by omega)).mono ?_
  rintro e w1 ⟨A1, c1, rfl, hb1, hres1⟩
  have HB1 := hide hb1
  have HU1 := hide hres1.rd
  clear hb1 hres1
  obtain ⟨b, o, rfl, hbw, hc⟩ := hr (by have := HN.out; omega)
  have hs1 := HB1.out.size
  have HC := hide hc
  clear hc
  go_wp2_with fail
  refine (ownA_any b o n c p _ HN.out (by omega) (by omega) (fun i hi => (HB1.out.cell (p := ⟨b, o + i, none⟩) hbw).trans (HC.out i hi))).mono ?_
  rintro e w2 ⟨v2, rfl, hb2, how2⟩
  obtain ⟨A2, c2, hv2, hres2⟩ := own_shape how2
  subst hv2
  have HB2 := hide (HB1.out.trans (hb2.mono hs1))
  have HU2 := hide (HU1.out.later hb2)
  have HW2 := hide hres2.rd
  clear hb2 how2 hres2
  go_wp2_with fail
  go_loopw [4, 5] (fun v kk wr => ∃ (k : Nat) (A' : Option Addr) (c' : Nat), 1 ≤ k ∧ k ≤ m ∧ kk = .int .i64 k ∧ v = .slice A' n c' ∧ Below w.heap.size w wr ∧ Rd wr A' (itL p n k) ∧ Rd wr A1 (unitN n)) (fun _ kk _ => m - (intOf kk).toNat)
  case atStart => exact ⟨1, A2, c2, Nat.le_refl _, hm1, by first | rfl | go_num, rfl, HB2.out, by rw [HONE.out]; exact HW2.out, HU2.out⟩
  case round =>
    clear HB2 HU2 HW2
    obtain ⟨k, A', c', hk1, hkm, rfl, rfl, hbe, hrd, hun⟩ := hrel
    have HB := hide hbe
    have HRD := hide hrd
    have HUN := hide hun
    have hs := hbe.size
    clear hbe hrd hun
    by_cases hlast : m ∣ k
    · have hkm' : k = m := Nat.le_antisymm hkm (Nat.le_of_dvd (by omega) hlast)
      have heq : itL p n k = unitN n := (itL_unit p n k).2 ((HM.out k).2 hlast)
      have HEQ := hide heq
      clear heq hlast
      subst hkm'
      go_wp2_with fail
      refine (same_any _ _ n _ n _ (itL p n k) (unitN n) true _ (itL_length _ _ _) (unitN_length _) (by omega) (by omega) HRD.out HUN.out (by simp [HEQ.out])).mono ?_
      rintro e w3 ⟨rfl, hq3⟩
      have HQ3 := hide hq3
      clear hq3
      go_wp2_with fail
      go_ret
      exact ⟨rfl, HB.out.trans (HQ3.out.below _)⟩
    · have hne : itL p n k ≠ unitN n := fun h => hlast ((HM.out k).1 ((itL_unit p n k).1 h))
      have hkm' : k < m := by
        rcases Nat.lt_or_ge k m with h | h
        · exact h
        · exact absurd (by have : k = m := (by omega); rw [this]; exact Nat.dvd_refl m) hlast
      have HNE := hide hne
      clear hne hlast
      go_wp2_with fail
      refine (same_any _ _ n _ n _ (itL p n k) (unitN n) false _ (itL_length _ _ _) (unitN_length _) (by omega) (by omega) HRD.out HUN.out (by simp [HNE.out])).mono ?_
      rintro e w3 ⟨rfl, hq3⟩
      have HB3 := hide (HB.out.trans (hq3.below _))
      have HRD3 := hide (HRD.out.later (hq3.below _))
      have HUN3 := hide (HUN.out.later (hq3.below _))
      have hs3 := HB3.out.size
      clear hq3
      go_wp2_with fail
      refine (l01Then_any _ _ n _ n _ (itL p n k) p _ (itL_length _ _ _) HN.out (by omega) (by omega) HRD3.out (hr.later HB3.out) (itL_range HG.out k)).mono ?_
      rintro e w4 ⟨A4, c4, rfl, hb4, hres4⟩
      have HB4 := hide (HB3.out.trans (hb4.mono hs3))
      have HUN4 := hide (HUN3.out.later hb4)
      have hrd4 := hres4.rd
      rw [itL_next HG.out k] at hrd4
      have HRD4 := hide hrd4
      clear hb4 hres4 hrd4
      go_wp2_with fail
      go_roundw
      case rel => exact ⟨k + 1, A4, c4, by omega, by omega, by go_num, rfl, HB4.out, HRD4.out, HUN4.out⟩
      case measure => simp [intOf]; omega

end Go.Proofs.Ythkhkehpmolfaaa
