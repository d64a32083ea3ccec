import Derived.Test.YtgmloaemnbnbgaaZv
import Derived.Test.YtgmloaemnbnbgaaZac
import Derived.Test.YtgmloaemnbnbgaaZe
namespace Go.Proofs.Ytgmloaemnbnbgaa
open Go Go.RowKit
open Classical
/-! The series of retracts. -/
noncomputable def rtP (z : SolV) : SolV := (rt1 z.1 z.2, rt2 z.1 z.2)
noncomputable def ser (f s : List (List Int)) : Nat → SolV
  | 0 => (f, s)
  | k + 1 => rtP (ser f s k)
noncomputable def siz (f s : List (List Int)) (k : Nat) : Nat := (ser f s k).1.length
section
variable {f s : List (List Int)}
theorem ser_nds (hg : NdS f s) (k : Nat) : NdS (ser f s k).1 (ser f s k).2 := by
  induction k with
  | zero => exact hg
  | succ k ih => exact rt_nds ih
theorem siz_zero (f s : List (List Int)) : siz f s 0 = f.length := rfl
theorem siz_succ (f s : List (List Int)) (k : Nat) : siz f s (k + 1) = alN (ser f s k).1 (ser f s k).2 := rt1_length _ _
theorem siz_le (f s : List (List Int)) (k : Nat) : siz f s (k + 1) ≤ siz f s k := by rw [siz_succ]; exact alN_le rfl
theorem siz_pos (hg : NdS f s) (k : Nat) : 1 ≤ siz f s k := ((ser_nds hg k).sizes rfl).1
theorem siz_12 (hg : NdS f s) (k : Nat) : siz f s k ≤ 12 := ((ser_nds hg k).sizes rfl).2.1
theorem siz_snd (hg : NdS f s) (k : Nat) : (ser f s k).2.length = siz f s k := ((ser_nds hg k).sizes rfl).2.2
/-- The index of the last solution of the series. -/
noncomputable def serK (f s : List (List Int)) : Nat := lstTo (fun k => siz f s (k + 1) = siz f s k) 12
theorem serK_not {k : Nat} (h : k < serK f s) : siz f s (k + 1) < siz f s k := by
  have h1 := lstTo_none (fun k => siz f s (k + 1) = siz f s k) 12 k h
  have h2 := siz_le f s k
  have h3 : ¬ siz f s (k + 1) = siz f s k := h1
  omega
theorem serK_lt (hg : NdS f s) : serK f s < 12 := by
  have h1 := lstTo_le (fun k => siz f s (k + 1) = siz f s k) 12
  rcases Nat.lt_or_ge (serK f s) 12 with h | h
  · exact h
  · have e : ∀ k, k ≤ 12 → siz f s k + k ≤ siz f s 0 := by
      intro k
      induction k with
      | zero => intro _; omega
      | succ k ih =>
        intro hk
        have h2 := ih (by omega)
        have h3 := serK_not (f := f) (s := s) (k := k) (by omega)
        omega
    have h4 := e 12 (Nat.le_refl _)
    have h5 := siz_12 hg 0
    have h6 := siz_pos hg 12
    omega
theorem serK_end (hg : NdS f s) : siz f s (serK f s + 1) = siz f s (serK f s) := lstTo_hit (fun k => siz f s (k + 1) = siz f s k) 12 (serK_lt hg)
theorem serK_iff (hg : NdS f s) {k : Nat} (h : k ≤ serK f s) : siz f s (k + 1) = siz f s k ↔ k = serK f s := by
  constructor
  · intro e
    rcases Nat.lt_or_ge k (serK f s) with h1 | h1
    · have := serK_not h1; omega
    · omega
  · intro e; rw [e]; exact serK_end hg
/-- The element of the solution with index k to which each element belongs. -/
noncomputable def sLb (f s : List (List Int)) : Nat → List Int
  | 0 => unitN f.length
  | k + 1 => (sLb f s k).map fun l => (alC (ser f s k).1 (ser f s k).2).getD l.toNat 0
theorem sLb_length (f s : List (List Int)) (k : Nat) : (sLb f s k).length = f.length := by
  induction k with
  | zero => exact unitN_length _
  | succ k ih => show ((sLb f s k).map _).length = _; rw [List.length_map, ih]
theorem sLb_rng (f s : List (List Int)) (k : Nat) : ∀ x, x < f.length → 0 ≤ (sLb f s k).getD x 0 ∧ (sLb f s k).getD x 0 < (siz f s k : Int) := by
  induction k with
  | zero =>
    intro x hx
    have e : (sLb f s 0).getD x 0 = (x : Int) := by simp [sLb, unitN, hx]
    rw [e, siz_zero]
    omega
  | succ k ih =>
    intro x hx
    have h1 := ih x hx
    have hl := sLb_length f s k
    have e : (sLb f s (k + 1)).getD x 0 = (alC (ser f s k).1 (ser f s k).2).getD ((sLb f s k).getD x 0).toNat 0 := by
      have hx' : x < (sLb f s k).length := by omega
      simp [sLb, hx']
    have h2 : ((sLb f s k).getD x 0).toNat < siz f s k := by omega
    rw [e, alC_at rfl h2, siz_succ]
    have := cl8_lt (f := (ser f s k).1) (s := (ser f s k).2) rfl h2
    omega
theorem sLb_at (f s : List (List Int)) (k : Nat) {x : Nat} (hx : x < f.length) : (sLb f s (k + 1)).getD x 0 = (alC (ser f s k).1 (ser f s k).2).getD ((sLb f s k).getD x 0).toNat 0 := by
  have hl := sLb_length f s k
  have hx' : x < (sLb f s k).length := by omega
  simp [sLb, hx']
/-- The sizes of the solutions of the series. -/
noncomputable def szL (f s : List (List Int)) (k : Nat) : List Int := (List.range k).map fun (i : Nat) => ((siz f s i : Nat) : Int)
theorem szL_length (f s : List (List Int)) (k : Nat) : (szL f s k).length = k := by simp [szL]
theorem szL_succ (f s : List (List Int)) (k : Nat) : szL f s (k + 1) = szL f s k ++ [((siz f s k : Nat) : Int)] := by simp [szL, List.range_succ]
theorem szL_at (f s : List (List Int)) {k i : Nat} (h : i < k) : (szL f s k).getD i 0 = ((siz f s i : Nat) : Int) := by simp [szL, h]
end
/-- What RetractSizes answers. -/
def SzRes (f s : List (List Int)) : List Int → Int → Prop := RRes7 (NdS f s) (szL f s (serK f s + 1))
theorem SzRes.ex (f s : List (List Int)) : ∃ zs code, SzRes f s zs code ∧ zs.length ≤ 1048576 := RRes7.ex _ _ (fun h => by rw [szL_length]; have := serK_lt h; omega)
def LvRes (f s : List (List Int)) (v code : Int) : Prop := (NdS f s ∧ siz f s (serK f s) = 1 ∧ v = (serK f s : Int) ∧ code = 0) ∨ (NdS f s ∧ ¬ siz f s (serK f s) = 1 ∧ v = 0 ∧ code = 4) ∨ (¬ NdS f s ∧ v = 0 ∧ code = 1)
theorem LvRes.ex (f s : List (List Int)) : ∃ v code, LvRes f s v code := by
  by_cases h : NdS f s
  · by_cases h2 : siz f s (serK f s) = 1
    · exact ⟨_, _, .inl ⟨h, h2, rfl, rfl⟩⟩
    · exact ⟨_, _, .inr (.inl ⟨h, h2, rfl, rfl⟩)⟩
  · exact ⟨_, _, .inr (.inr ⟨h, rfl, rfl⟩)⟩
def IrF (f s : List (List Int)) : Prop := 2 ≤ f.length ∧ alN f s = f.length
def IrRes (f s : List (List Int)) : Bool → Int → Prop := BRes (NdS f s) (IrF f s)
theorem IrRes.ex (f s : List (List Int)) : ∃ r code, IrRes f s r code := BRes.ex _ _
theorem ir_iff {f s : List (List Int)} (hg : NdS f s) : serK f s = 0 ↔ alN f s = f.length := by
  have h := serK_iff hg (k := 0) (Nat.zero_le _)
  rw [siz_succ, siz_zero] at h
  constructor
  · intro e; exact h.2 e.symm
  · intro e; exact (h.1 e).symm
def LaRes (f s : List (List Int)) (zf zg : List (List Int)) (code : Int) : Prop := (NdS f s ∧ zf = (ser f s (serK f s)).1 ∧ zg = (ser f s (serK f s)).2 ∧ code = 0) ∨ (¬ NdS f s ∧ zf = [] ∧ zg = [] ∧ code = 1)
def SlRes (f s : List (List Int)) (k : Int) (zs : List Int) (code : Int) : Prop := (NdS f s ∧ (0 ≤ k ∧ k ≤ (serK f s : Int)) ∧ zs = sLb f s k.toNat ∧ code = 0) ∨ (NdS f s ∧ ¬ (0 ≤ k ∧ k ≤ (serK f s : Int)) ∧ zs = [] ∧ code = 4) ∨ (¬ NdS f s ∧ zs = [] ∧ code = 1)
theorem SlRes.ex (f s : List (List Int)) (k : Int) : ∃ zs code, SlRes f s k zs code ∧ zs.length ≤ 1048576 := by
  by_cases h : NdS f s
  · by_cases h2 : 0 ≤ k ∧ k ≤ (serK f s : Int)
    · exact ⟨_, _, .inl ⟨h, h2, rfl, rfl⟩, by rw [sLb_length]; have := (h.sizes rfl).2.1; omega⟩
    · exact ⟨_, _, .inr (.inl ⟨h, h2, rfl, rfl⟩), by simp⟩
  · exact ⟨_, _, .inr (.inr ⟨h, rfl, rfl⟩), by simp⟩
theorem LaRes.ex (f s : List (List Int)) : ∃ zf zg code, LaRes f s zf zg code ∧ ZSz 1048576 zf zf.length zg zg.length := by
  by_cases h : NdS f s
  · have hn := ser_nds h (serK f s)
    have h1 := (hn.sizes rfl).2.1
    have h2 := (hn.sizes rfl).2.2
    exact ⟨_, _, _, .inl ⟨h, rfl, rfl, rfl⟩, ⟨rfl, by omega, fun i hi => by rw [hn.map.1.rows i hi]; omega, rfl, by omega, fun i hi => by rw [hn.map.2.1.rows i hi]; omega⟩⟩
  · exact ⟨_, _, _, .inr ⟨h, rfl, rfl, rfl⟩, nil_sz⟩
end Go.Proofs.Ytgmloaemnbnbgaa
