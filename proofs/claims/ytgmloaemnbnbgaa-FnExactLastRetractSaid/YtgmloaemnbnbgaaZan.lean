import Derived.Test.YtgmloaemnbnbgaaZam
namespace Go.Proofs.Ytgmloaemnbnbgaa
open Go Go.RowKit
open Classical
/-- The places below k with a number o. -/
def memTo (xs : List Int) (o : Int) (k : Nat) : List Int := ((List.range k).filter (fun y => xs.getD y 0 == o)).map (fun y : Nat => (y : Int))
theorem memTo_zero (xs : List Int) (o : Int) : memTo xs o 0 = [] := by simp [memTo]
theorem memTo_hit (xs : List Int) (o : Int) (k : Nat) (h : xs.getD k 0 = o) : memTo xs o (k + 1) = memTo xs o k ++ [(k : Int)] := by
  unfold memTo
  rw [List.range_succ, List.filter_append, List.map_append]
  have h2 : (xs.getD k 0 == o) = true := by simpa using h
  rw [List.filter_cons_of_pos (p := fun y => xs.getD y 0 == o) h2]
  rfl
theorem memTo_miss (xs : List Int) (o : Int) (k : Nat) (h : ¬ xs.getD k 0 = o) : memTo xs o (k + 1) = memTo xs o k := by
  unfold memTo
  have h2 : ¬ (xs.getD k 0 == o) = true := by simpa using h
  rw [List.range_succ, List.filter_append, List.map_append, List.filter_cons_of_neg (p := fun y => xs.getD y 0 == o) h2]
  simp
theorem memTo_le (xs : List Int) (o : Int) (k : Nat) : (memTo xs o k).length ≤ k := by
  unfold memTo
  rw [List.length_map]
  have h := List.length_filter_le (fun y => xs.getD y 0 == o) (List.range k)
  rwa [List.length_range] at h
theorem memTo_mem (xs : List Int) (o : Int) (k y : Nat) : (y : Int) ∈ memTo xs o k ↔ y < k ∧ xs.getD y 0 = o := by
  unfold memTo
  rw [List.mem_map]
  constructor
  · intro h
    obtain ⟨z, hz, e⟩ := h
    have e2 : z = y := by omega
    subst e2
    have h2 := List.mem_filter.1 hz
    exact ⟨List.mem_range.1 h2.1, by simpa using h2.2⟩
  · intro h
    exact ⟨y, List.mem_filter.2 ⟨List.mem_range.2 h.1, by simpa using h.2⟩, rfl⟩
theorem memTo_nat (xs : List Int) (o : Int) (k : Nat) (v : Int) (h : v ∈ memTo xs o k) : ∃ y : Nat, v = (y : Int) := by
  obtain ⟨z, _, e⟩ := List.mem_map.1 h
  exact ⟨z, e.symm⟩
theorem memTo_nd (xs : List Int) (o : Int) (k : Nat) : (memTo xs o k).Nodup := by
  unfold memTo
  rw [List.nodup_iff_pairwise_ne, List.pairwise_map]
  exact List.Pairwise.imp (fun h e => h (by omega)) (List.nodup_iff_pairwise_ne.1 (List.Pairwise.filter _ List.nodup_range))
/-- The only elements of orbits of one element, of the first o orbits. -/
def sngTo (xs : List Int) : Nat → List Int
  | 0 => []
  | o + 1 => if (memTo xs (o : Int) xs.length).length = 1 then sngTo xs o ++ [(memTo xs (o : Int) xs.length).getD 0 0] else sngTo xs o
theorem sngTo_le (xs : List Int) (o : Nat) : (sngTo xs o).length ≤ o := by
  induction o with
  | zero => simp [sngTo]
  | succ o ih =>
    unfold sngTo
    split
    · simp; omega
    · omega
section
variable {rows : List (List Int)} {n : Nat}
theorem fix_fwd {x z : Nat} (hf : FixAt rows x) (h : Rch rows x z) : z = x := by
  induction h with
  | start => rfl
  | step _ hs ih =>
    obtain ⟨i, hi, e⟩ := hs
    rw [ih, hf i hi] at e
    omega
theorem fix_back (hg : Gens rows n) {x x' z : Nat} (hx : x < n) (hx' : x' < n) (hf : FixAt rows x) (h : Rch rows x' z) (hz : z = x) : x' = x := by
  induction h with
  | start => exact hz
  | step h2 hs ih =>
    obtain ⟨i, hi, e⟩ := hs
    refine ih (hg.inj hi (hg.stay hx' h2) hx ?_)
    rw [hf i hi, e, hz]
    omega
theorem lab_from {k : Nat} (y : Nat) (h : 0 ≤ (lab rows k).1 y) : ∃ x, x < k ∧ Rch rows x y := by
  induction k with
  | zero => simp [lab] at h
  | succ k ih =>
    unfold lab at h
    split at h
    · obtain ⟨x, hx, hr⟩ := ih h
      exact ⟨x, by omega, hr⟩
    · by_cases hr : Rch rows k y
      · exact ⟨k, by omega, hr⟩
      · have h2 : 0 ≤ (if Rch rows k y then ((lab rows k).2 : Int) else (lab rows k).1 y) := h
        rw [if_neg hr] at h2
        obtain ⟨x, hx, hr2⟩ := ih h2
        exact ⟨x, by omega, hr2⟩
/-- What is numbered keeps its number. -/
theorem lab_keep (hg : Gens rows n) {k : Nat} (j : Nat) (hj : k + j ≤ n) : (lab rows k).2 ≤ (lab rows (k + j)).2 ∧ ∀ y, y < n → ∀ o, o < (lab rows k).2 → ((lab rows (k + j)).1 y = (o : Int) ↔ (lab rows k).1 y = (o : Int)) := by
  induction j with
  | zero => exact ⟨Nat.le_refl _, fun y _ o _ => Iff.rfl⟩
  | succ j ih =>
    obtain ⟨h1, h2⟩ := ih (by omega)
    have e : lab rows (k + (j + 1)) = if 0 ≤ (lab rows (k + j)).1 (k + j) then lab rows (k + j) else (fun y => if Rch rows (k + j) y then ((lab rows (k + j)).2 : Int) else (lab rows (k + j)).1 y, (lab rows (k + j)).2 + 1) := rfl
    by_cases h0 : 0 ≤ (lab rows (k + j)).1 (k + j)
    · rw [if_pos h0] at e
      rw [e]
      exact ⟨h1, h2⟩
    · rw [if_neg h0] at e
      rw [e]
      refine ⟨by show _ ≤ (lab rows (k + j)).2 + 1; omega, fun y hy o ho => ?_⟩
      show (if Rch rows (k + j) y then ((lab rows (k + j)).2 : Int) else (lab rows (k + j)).1 y) = (o : Int) ↔ _
      by_cases hr : Rch rows (k + j) y
      · rw [if_pos hr]
        constructor
        · intro h; omega
        · intro h
          exfalso
          have h3 := (h2 y hy o ho).2 h
          have hun : (lab rows (k + j)).1 y < 0 := by
            have hkn : k + j < n := by omega
            clear h h3 hy
            induction hr with
            | start => omega
            | @step a b h1' hs ih2 =>
              have ha := hg.stay hkn h1'
              have := lab_closed hg (k + j) (by omega) a b ha hs
              omega
          omega
      · rw [if_neg hr]
        exact h2 y hy o ho
theorem sng_fix (hg : Gens rows n) (x : Nat) (hx : x ≤ n) : sngTo (labL rows n n) (lab rows x).2 = fixTo rows x := by
  induction x with
  | zero => simp [lab, sngTo, fixTo]
  | succ x ih =>
    have ih := ih (by omega)
    have e : lab rows (x + 1) = if 0 ≤ (lab rows x).1 x then lab rows x else (fun y => if Rch rows x y then ((lab rows x).2 : Int) else (lab rows x).1 y, (lab rows x).2 + 1) := rfl
    by_cases h0 : 0 ≤ (lab rows x).1 x
    · rw [if_pos h0] at e
      rw [e, ih, fixTo, if_neg]
      intro hf
      obtain ⟨x', hx', hr⟩ := lab_from x h0
      have := fix_back hg (by omega) (by omega) hf hr rfl
      omega
    · rw [if_neg h0] at e
      have hk := lab_keep (rows := rows) hg (k := x + 1) (n - (x + 1)) (by omega)
      rw [show x + 1 + (n - (x + 1)) = n by omega] at hk
      have hmem : ∀ y, y < n → ((labL rows n n).getD y 0 = ((lab rows x).2 : Int) ↔ Rch rows x y) := by
        intro y hy
        rw [labL_at _ _ _ _ hy, hk.2 y hy (lab rows x).2 (by rw [e]; show _ < (lab rows x).2 + 1; omega), e]
        show (if Rch rows x y then ((lab rows x).2 : Int) else (lab rows x).1 y) = _ ↔ _
        have hlt := (lab_ok rows n x hg (by omega)).lt y
        by_cases hr : Rch rows x y
        · rw [if_pos hr]; exact ⟨fun _ => hr, fun _ => rfl⟩
        · rw [if_neg hr]; exact ⟨fun h => by omega, fun h => absurd h hr⟩
      have e2 : (lab rows (x + 1)).2 = (lab rows x).2 + 1 := by rw [e]
      rw [e2, sngTo, ih, labL_length, fixTo]
      obtain ⟨M, hM⟩ : ∃ M, memTo (labL rows n n) ((lab rows x).2 : Int) n = M := ⟨_, rfl⟩
      have hxm : (x : Int) ∈ M := by rw [← hM, memTo_mem]; exact ⟨by omega, (hmem x (by omega)).2 .start⟩
      have hall : ∀ y : Nat, (y : Int) ∈ M ↔ y < n ∧ Rch rows x y := by
        intro y
        rw [← hM, memTo_mem]
        exact ⟨fun h => ⟨h.1, (hmem y h.1).1 h.2⟩, fun h => ⟨h.1, (hmem y h.1).2 h.2⟩⟩
      have hnat : ∀ v ∈ M, ∃ y : Nat, v = (y : Int) := by intro v hv; rw [← hM] at hv; exact memTo_nat _ _ _ _ hv
      have hnd : M.Nodup := by rw [← hM]; exact memTo_nd _ _ _
      rw [hM]
      by_cases hf : FixAt rows x
      · have hone : ∀ v ∈ M, v = (x : Int) := by
          intro v hv
          obtain ⟨y, rfl⟩ := hnat v hv
          have := fix_fwd hf ((hall y).1 hv).2
          omega
        have hM1 : M = [(x : Int)] := by
          cases M with
          | nil => simp at hxm
          | cons a t =>
            have ha := hone a (by simp)
            cases t with
            | nil => rw [ha]
            | cons b t =>
              have hb := hone b (by simp)
              rw [ha, hb] at hnd
              simp at hnd
        rw [if_pos hf, if_pos (by rw [hM1]; rfl), hM1]
        rfl
      · rw [if_neg hf, if_neg]
        intro hl
        refine hf fun i hi => ?_
        have hz := hg.at hi (show x < n by omega)
        have hzm : (((rows.getD i []).getD x 0).toNat : Int) ∈ M := (hall _).2 ⟨by omega, .step .start ⟨i, hi, rfl⟩⟩
        cases M with
        | nil => simp at hl
        | cons a t =>
          cases t with
          | nil =>
            have e1 := List.mem_singleton.1 hxm
            have e2 := List.mem_singleton.1 hzm
            omega
          | cons b t => simp at hl
end
end Go.Proofs.Ytgmloaemnbnbgaa
