import Derived.Test.YtaejgmdeiemhcaaZbr
import Derived.Test.YtaejgmdeiemhcaaZan
import Derived.Test.YtaejgmdeiemhcaaZbs
import Derived.Test.YtaejgmdeiemhcaaZbt
import Derived.Test.YtaejgmdeiemhcaaZba
namespace Go.Proofs.Ytaejgmdeiemhcaa
open Go Go.RowKit
open Classical
/-- An element and where a row leads it are in one orbit. -/
theorem lab_same {rows : List (List Int)} {n : Nat} (h : Gens rows n) (k : Nat) (hk : k ≤ n) (y z : Nat) (hy : y < n) (hs : stp rows y z) : (lab rows k).1 y = (lab rows k).1 z := by
  induction k with
  | zero => rfl
  | succ k ih =>
    have e := ih (by omega)
    show (if 0 ≤ (lab rows k).1 k then lab rows k else (fun y => if Rch rows k y then ((lab rows k).2 : Int) else (lab rows k).1 y, (lab rows k).2 + 1)).1 y = (if 0 ≤ (lab rows k).1 k then lab rows k else (fun y => if Rch rows k y then ((lab rows k).2 : Int) else (lab rows k).1 y, (lab rows k).2 + 1)).1 z
    by_cases h0 : 0 ≤ (lab rows k).1 k
    · rw [if_pos h0]; exact e
    · rw [if_neg h0]
      show (if Rch rows k y then ((lab rows k).2 : Int) else (lab rows k).1 y) = (if Rch rows k z then ((lab rows k).2 : Int) else (lab rows k).1 z)
      by_cases h1 : Rch rows k y
      · rw [if_pos h1, if_pos (Rch.step h1 hs)]
      · rw [if_neg h1, if_neg (fun h2 => h1 (h.back (by omega) hy hs h2))]
        exact e
theorem memTo_iff (xs : List Int) (o : Int) (n : Nat) (v : Int) : v ∈ memTo xs o n ↔ ∃ j : Nat, j < n ∧ v = (j : Int) ∧ xs.getD j 0 = o := by
  induction n with
  | zero => simp [memTo]
  | succ n ih =>
    by_cases e : xs.getD n 0 = o
    · rw [memTo_hit xs o n e, List.mem_append, ih]
      constructor
      · rintro (⟨j, h1, h2, h3⟩ | h)
        · exact ⟨j, by omega, h2, h3⟩
        · exact ⟨n, by omega, by simpa using h, e⟩
      · rintro ⟨j, h1, h2, h3⟩
        by_cases e2 : j = n
        · subst e2; right; simp [h2]
        · left; exact ⟨j, by omega, h2, h3⟩
    · rw [memTo_miss xs o n e, ih]
      constructor
      · rintro ⟨j, h1, h2, h3⟩; exact ⟨j, by omega, h2, h3⟩
      · rintro ⟨j, h1, h2, h3⟩
        by_cases e2 : j = n
        · subst e2; exact absurd h3 e
        · exact ⟨j, by omega, h2, h3⟩
theorem memTo_inc (xs : List Int) (o : Int) (n : Nat) : (memTo xs o n).Pairwise (· < ·) := by
  induction n with
  | zero => simp [memTo]
  | succ n ih =>
    by_cases e : xs.getD n 0 = o
    · rw [memTo_hit xs o n e, List.pairwise_append]
      refine ⟨ih, by simp, fun a ha b hb => ?_⟩
      obtain ⟨j, h1, h2, _⟩ := (memTo_iff xs o n a).1 ha
      have : b = (n : Int) := by simpa using hb
      omega
    · rw [memTo_miss xs o n e]; exact ih
/-- The elements of an orbit. -/
noncomputable def orbE (f s : List (List Int)) (o : Nat) : List Int := memTo (orbS f s) (o : Int) f.length
theorem getD_mem0 {xs : List Int} {i : Nat} (h : i < xs.length) : xs.getD i 0 ∈ xs := by simp [h]
theorem orbE_set {f s : List (List Int)} (hg : NdS f s) {o : Nat} (ho : o < orbN f s) : IncSet f.length (orbE f s o) := by
  refine ⟨fun i hi => ⟨?_, fun h0 => ?_⟩, ?_⟩
  · obtain ⟨j, h1, h2, _⟩ := (memTo_iff _ _ _ _).1 (getD_mem0 hi)
    show 0 ≤ (orbE f s o).getD i 0 ∧ _
    have e : (orbE f s o).getD i 0 = (j : Int) := h2
    omega
  · have hp := memTo_inc (orbS f s) (o : Int) f.length
    have h3 := List.pairwise_iff_getElem.1 hp (i - 1) i (by unfold orbE at hi; omega) hi (by omega)
    unfold orbE at hi ⊢
    simpa [hi, show i - 1 < (memTo (orbS f s) (o : Int) f.length).length by omega] using h3
  · obtain ⟨j, h1, h2⟩ := orb_onto hg o ho
    have hm : (j : Int) ∈ orbE f s o := (memTo_iff _ _ _ _).2 ⟨j, h1, rfl, h2⟩
    exact List.length_pos_of_mem hm
theorem orbE_closed {f s : List (List Int)} (hg : NdS f s) (o : Nat) : ClF f s (orbE f s o) := by
  intro i k hi hk
  obtain ⟨a, a1, a2, a3⟩ := (memTo_iff _ _ _ _).1 (getD_mem0 hi)
  obtain ⟨b, b1, b2, b3⟩ := (memTo_iff _ _ _ _).1 (getD_mem0 hk)
  have ea : (orbE f s o).getD i 0 = (a : Int) := a2
  have eb : (orbE f s o).getD k 0 = (b : Int) := b2
  rw [ea, eb]
  simp only [Int.toNat_natCast]
  have hgen := hg.both rfl
  have hsl := (hg.sizes rfl).2.2
  have hbl := bothL_length (f := f) (s := s) rfl hsl
  have tbf := hg.map.1
  have tbs := hg.map.2.1
  have same : ∀ y z, y < f.length → z < f.length → stp (bothL f s) y z → (orbS f s).getD y 0 = (o : Int) → ((z : Nat) : Int) ∈ orbE f s o := by
    intro y z hy hz hst h
    refine (memTo_iff _ _ _ _).2 ⟨z, hz, rfl, ?_⟩
    rw [← h]
    unfold orbS
    rw [labL_at _ _ _ _ hz, labL_at _ _ _ _ hy]
    exact (lab_same hgen f.length (Nat.le_refl _) y z hy hst).symm
  constructor
  · refine same b _ b1 (tbf.ap_lt rfl a1 b1) ⟨a, by omega, ?_⟩ b3
    rw [bothL_fst rfl a a1]
    rfl
  · refine same a _ a1 (tbs.ap_lt hsl a1 b1) ⟨f.length + b, by omega, ?_⟩ a3
    rw [bothL_snd rfl]
    unfold turnL
    rw [grid_at _ _ _ _ (by omega) (by omega)]
    rfl
/-- The solutions on the orbits. -/
noncomputable def osZ (f s : List (List Int)) (o : Nat) : SolV := (grid (orbE f s o).length (sb1 f (orbE f s o)), grid (orbE f s o).length (sb1 s (orbE f s o)))
noncomputable def osL (f s : List (List Int)) (k : Nat) : List SolV := (List.range k).map (osZ f s)
theorem osL_length (f s : List (List Int)) (k : Nat) : (osL f s k).length = k := by simp [osL]
theorem osL_at (f s : List (List Int)) (k i : Nat) (h : i < k) : qz (osL f s k) i = osZ f s i := by simp [qz, osL, h]
theorem orbE_le (f s : List (List Int)) (o : Nat) : (orbE f s o).length ≤ f.length := memTo_le _ _ _
theorem osL_sz {f s : List (List Int)} (hg : NdS f s) : QSz (osL f s (orbN f s)) := by
  have h1 := (hg.sizes rfl).2.1
  have h2 := @orb_le f s
  have hl := osL_length f s (orbN f s)
  refine ⟨by omega, fun i hi => ?_, fun i hi => ?_, fun i hi j hj => ?_, fun i hi j hj => ?_⟩
  all_goals
    have h3 := orbE_le f s i
    rw [osL_at f s _ i (by omega)] at *
  · show (grid _ _).length ≤ 12
    rw [grid_length]; omega
  · show (grid _ _).length ≤ 12
    rw [grid_length]; omega
  · have hj' : j < (grid (orbE f s i).length (sb1 f (orbE f s i))).length := hj
    rw [grid_length] at hj'
    show ((grid _ _).getD j []).length ≤ 12
    rw [grid_row_length _ _ _ hj']; omega
  · have hj' : j < (grid (orbE f s i).length (sb1 s (orbE f s i))).length := hj
    rw [grid_length] at hj'
    show ((grid _ _).getD j []).length ≤ 12
    rw [grid_row_length _ _ _ hj']; omega
def OsoRes (f s : List (List Int)) (zs : List SolV) (code : Int) : Prop := (NdS f s ∧ zs = osL f s (orbN f s) ∧ code = 0) ∨ (¬ NdS f s ∧ zs = [] ∧ code = 1)
theorem OsoRes.ex (f s : List (List Int)) : ∃ zs code, OsoRes f s zs code ∧ QSz zs := by
  by_cases h : NdS f s
  · exact ⟨_, _, .inl ⟨h, rfl, rfl⟩, osL_sz h⟩
  · exact ⟨_, _, .inr ⟨h, rfl, rfl⟩, ⟨by simp, fun i hi => by simp at hi, fun i hi => by simp at hi, fun i hi => by simp at hi, fun i hi => by simp at hi⟩⟩
end Go.Proofs.Ytaejgmdeiemhcaa
