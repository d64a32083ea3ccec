import Derived.Test.YtljdfanebjhhmaaZx
namespace Go.Proofs.Ytljdfanebjhhmaa
open Go Go.RowKit
open Classical

theorem Rch.trans {rows : List (List Int)} {x y z : Nat} (h : Rch rows x y) (k : Rch rows y z) : Rch rows x z := by
  induction k with
  | start => exact h
  | step _ hs ih => exact .step ih hs

/-- The labels when the elements below k are done, and the number of the next orbit. -/
noncomputable def lab (rows : List (List Int)) : Nat → (Nat → Int) × Nat
  | 0 => (fun _ => -1, 0)
  | x + 1 => if 0 ≤ (lab rows x).1 x then lab rows x else (fun y => if Rch rows x y then ((lab rows x).2 : Int) else (lab rows x).1 y, (lab rows x).2 + 1)
noncomputable def labL (rows : List (List Int)) (n k : Nat) : List Int := (List.range n).map (lab rows k).1
theorem labL_length (rows : List (List Int)) (n k : Nat) : (labL rows n k).length = n := by simp [labL]
theorem labL_at (rows : List (List Int)) (n k y : Nat) (h : y < n) : (labL rows n k).getD y 0 = (lab rows k).1 y := by simp [labL, h]
theorem lab_le (rows : List (List Int)) (k : Nat) : (lab rows k).2 ≤ k := by
  induction k with
  | zero => simp [lab]
  | succ k ih =>
    unfold lab
    split
    · omega
    · show (lab rows k).2 + 1 ≤ k + 1; omega
theorem lab_lo (rows : List (List Int)) (k y : Nat) : -1 ≤ (lab rows k).1 y ∧ (lab rows k).1 y ≤ k := by
  induction k with
  | zero => simp [lab]
  | succ k ih =>
    unfold lab
    split
    · omega
    · have := lab_le rows k
      show -1 ≤ (if Rch rows k y then ((lab rows k).2 : Int) else (lab rows k).1 y) ∧ (if Rch rows k y then ((lab rows k).2 : Int) else (lab rows k).1 y) ≤ _
      split <;> omega

/-- Rows of permutations of n elements. -/
def Gens (rows : List (List Int)) (n : Nat) : Prop := ∀ r, r < rows.length → (rows.getD r []).length = n ∧ Prm (rows.getD r [])
theorem Gens.at {rows : List (List Int)} {n : Nat} (h : Gens rows n) {r v : Nat} (hr : r < rows.length) (hv : v < n) : 0 ≤ (rows.getD r []).getD v 0 ∧ (rows.getD r []).getD v 0 < (n : Int) := by
  obtain ⟨hl, hp⟩ := h r hr
  obtain ⟨p, hpe⟩ : ∃ p, p = rows.getD r [] := ⟨_, rfl⟩
  rw [← hpe] at hl hp ⊢
  have hm : p.getD v 0 ∈ p := by have : v < p.length := (by omega); simp [this]
  have := hp.2.2.1 _ hm
  rw [hl] at this
  exact this
theorem Gens.inj {rows : List (List Int)} {n : Nat} (h : Gens rows n) {r u v : Nat} (hr : r < rows.length) (hu : u < n) (hv : v < n) (e : ((rows.getD r []).getD u 0).toNat = ((rows.getD r []).getD v 0).toNat) : u = v := by
  have h1 := h.at hr hu
  have h2 := h.at hr hv
  obtain ⟨hl, hp⟩ := h r hr
  obtain ⟨p, hpe⟩ : ∃ p, p = rows.getD r [] := ⟨_, rfl⟩
  rw [← hpe] at hl hp e h1 h2
  have e2 : p.getD u 0 = p.getD v 0 := by omega
  have hul : u < p.length := by omega
  have hvl : v < p.length := by omega
  have e3 : p[u] = p[v] := by simpa [hul, hvl] using e2
  have hpw := List.pairwise_iff_getElem.1 hp.2.2.2
  rcases Nat.lt_trichotomy u v with h | h | h
  · exact absurd e3 (hpw u v hul hvl h)
  · exact h
  · exact absurd e3.symm (hpw v u hvl hul h)
theorem Gens.stay {rows : List (List Int)} {n : Nat} (h : Gens rows n) {x y : Nat} (hx : x < n) (hr : Rch rows x y) : y < n := by
  induction hr with
  | start => exact hx
  | step _ hs ih =>
    obtain ⟨r, hr, e⟩ := hs
    have := h.at hr ih
    omega
theorem Gens.back {rows : List (List Int)} {n : Nat} (h : Gens rows n) {x y z : Nat} (hx : x < n) (hy : y < n) (hs : stp rows y z) (hz : Rch rows x z) : Rch rows x y := by
  obtain ⟨r, hr, e⟩ := hs
  let l : List Nat := (List.range n).filter (fun v => decide (Rch rows x v))
  have hl : l.Nodup := List.Pairwise.filter _ List.nodup_range
  have hml : ∀ v, v ∈ l ↔ v < n ∧ Rch rows x v := fun v => by simp [l]
  let f : Nat → Nat := fun v => ((rows.getD r []).getD v 0).toNat
  have hnd : (l.map f).Nodup := by
    rw [List.nodup_iff_pairwise_ne, List.pairwise_map]
    refine List.Pairwise.imp_of_mem ?_ (List.nodup_iff_pairwise_ne.1 hl)
    intro a b ha hb hne e2
    exact hne (h.inj hr ((hml a).1 ha).1 ((hml b).1 hb).1 e2)
  have hsub : ∀ a ∈ l.map f, a ∈ l := by
    intro a ha
    obtain ⟨v, hv, rfl⟩ := List.mem_map.1 ha
    have hv' := (hml v).1 hv
    have hr' : Rch rows x (f v) := .step hv'.2 ⟨r, hr, rfl⟩
    exact (hml _).2 ⟨h.stay hx hr', hr'⟩
  obtain ⟨l', hl'⟩ := subset_perm (l.map f) l hnd hsub
  have hlen := hl'.length_eq
  rw [List.length_append, List.length_map] at hlen
  have h0 : l' = [] := List.eq_nil_of_length_eq_zero (by omega)
  subst h0
  rw [List.append_nil] at hl'
  have hzl : z ∈ l := (hml z).2 ⟨h.stay hx hz, hz⟩
  obtain ⟨y', hy', e'⟩ := List.mem_map.1 (hl'.mem_iff.1 hzl)
  have hy2 := (hml y').1 hy'
  have : y = y' := h.inj hr hy hy2.1 (by rw [e]; exact e'.symm)
  rw [this]
  exact hy2.2
theorem lab_closed {rows : List (List Int)} {n : Nat} (h : Gens rows n) (k : Nat) (hk : k ≤ n) (y z : Nat) (hy : y < n) (hs : stp rows y z) : 0 ≤ (lab rows k).1 y ↔ 0 ≤ (lab rows k).1 z := by
  induction k with
  | zero => simp [lab]
  | succ k ih =>
    have ih := ih (by omega)
    unfold lab
    split
    · exact ih
    · show 0 ≤ (if Rch rows k y then ((lab rows k).2 : Int) else (lab rows k).1 y) ↔ 0 ≤ (if Rch rows k z then ((lab rows k).2 : Int) else (lab rows k).1 z)
      by_cases h1 : Rch rows k y
      · rw [if_pos h1, if_pos (.step h1 hs)]
      · have h2 : ¬ Rch rows k z := fun h2 => h1 (h.back (by omega) hy hs h2)
        rw [if_neg h1, if_neg h2]
        exact ih
theorem Sys.gens {n : Nat} {rows : List (List Int)} (h : Sys (n : Int) rows) : Gens rows n := fun r hr => ⟨by have := (h.2.2.2 r hr).1; omega, (h.2.2.2 r hr).2⟩
def OrbRes (n : Int) (rows : List (List Int)) (zs : List Int) (code : Int) : Prop := (Sys n rows ∧ zs = labL rows n.toNat n.toNat ∧ code = 0) ∨ (¬ Sys n rows ∧ zs = [] ∧ code = 1)
theorem OrbRes.ex (n : Int) (rows : List (List Int)) : ∃ zs code, OrbRes n rows zs code ∧ zs.length ≤ 4194304 := by
  by_cases h : Sys n rows
  · exact ⟨_, _, .inl ⟨h, rfl, rfl⟩, by rw [labL_length]; have := h.2.1; omega⟩
  · exact ⟨_, _, .inr ⟨h, rfl, rfl⟩, by simp⟩
end Go.Proofs.Ytljdfanebjhhmaa
