import Derived.Test.YtkflmhmbkilmpabDoorRdF
import Derived.Test.YtkflmhmbkilmpabDoorPMapF
import Derived.Lib.Split
namespace Go.Proofs.YtkflmhmbkilmpabDoor
open Go Go.RowKit

/-- The parts of a list between the bytes c, with what is read before them. -/
def prtA (c : UInt8) : List UInt8 → List UInt8 → List (List UInt8)
  | acc, [] => [acc]
  | acc, x :: l => if x = c then acc :: prtA c [] l else prtA c (acc ++ [x]) l
theorem pre_one (c b : UInt8) (l : List UInt8) : [c].isPrefixOf (b :: l) = true ↔ c = b := by simp [List.isPrefixOf]
theorem index_cons0 (c b : UInt8) (l : List UInt8) : Lib.index (b :: l) [c] = if [c].isPrefixOf (b :: l) then 0 else if Lib.index l [c] == -1 then -1 else Lib.index l [c] + 1 := rfl
theorem index_cons (c b : UInt8) (l : List UInt8) : Lib.index (b :: l) [c] = if c = b then 0 else if Lib.index l [c] = -1 then -1 else Lib.index l [c] + 1 := by
  rw [index_cons0]
  by_cases h : c = b
  · rw [if_pos ((pre_one c b l).2 h), if_pos h]
  · rw [if_neg (fun e => h ((pre_one c b l).1 e)), if_neg h]
    by_cases h2 : Lib.index l [c] = -1
    · rw [if_pos (by simpa using h2), if_pos h2]
    · rw [if_neg (by simpa using h2), if_neg h2]
theorem prtA_miss (c : UInt8) : ∀ (l acc : List UInt8), Lib.index l [c] = -1 → prtA c acc l = [acc ++ l] := by
  intro l
  induction l with
  | nil => intro acc _; simp [prtA]
  | cons b l ih =>
    intro acc h
    rw [index_cons] at h
    by_cases hc : c = b
    · rw [if_pos hc] at h; exact absurd h (by decide)
    · rw [if_neg hc] at h
      have h2 : Lib.index l [c] = -1 := by
        by_cases h3 : Lib.index l [c] = -1
        · exact h3
        · rw [if_neg h3] at h; have := Lib.index_ge l [c]; omega
      rw [prtA, if_neg (fun e => hc e.symm), ih _ h2]
      simp
theorem prtA_hit (c : UInt8) : ∀ (l acc : List UInt8) (i : Nat), Lib.index l [c] = i → prtA c acc l = (acc ++ l.take i) :: prtA c [] (l.drop (i + 1)) := by
  intro l
  induction l with
  | nil => intro acc i h; exact absurd h (by simp [Lib.index])
  | cons b l ih =>
    intro acc i h
    rw [index_cons] at h
    by_cases hc : c = b
    · rw [if_pos hc] at h
      have hi : i = 0 := by omega
      subst hi
      rw [prtA, if_pos hc.symm]
      simp
    · rw [if_neg hc] at h
      by_cases h3 : Lib.index l [c] = -1
      · rw [if_pos h3] at h; omega
      · rw [if_neg h3] at h
        obtain ⟨j, rfl⟩ : ∃ j, i = j + 1 := ⟨i - 1, by have := Lib.index_ge l [c]; omega⟩
        rw [prtA, if_neg (fun e => hc e.symm), ih _ j (by omega)]
        simp
theorem splitK_prt (c : UInt8) : ∀ (n : Nat) (l : List UInt8), l.length ≤ n → Lib.splitK [c] 0 (Lib.count l [c]) l = prtA c [] l := by
  intro n
  induction n with
  | zero =>
    intro l h
    have : l = [] := List.eq_nil_of_length_eq_zero (by omega)
    subst this
    have h0 : Lib.index ([] : List UInt8) [c] = -1 := by simp [Lib.index]
    rw [Lib.count_miss h0]
    rfl
  | succ n ih =>
    intro l h
    by_cases hm : Lib.index l [c] = -1
    · rw [Lib.count_miss hm, prtA_miss c l [] hm]; rfl
    · obtain ⟨i, hi⟩ : ∃ i : Nat, Lib.index l [c] = i := ⟨(Lib.index l [c]).toNat, by have := Lib.index_ge l [c]; omega⟩
      have hne : l ≠ [] := by
        rintro rfl
        exact hm (by simp [Lib.index])
      have hl : 1 ≤ l.length := List.length_pos_iff.2 hne
      rw [Lib.count_hit (by simp) hi, Nat.add_comm, prtA_hit c l [] i hi, Lib.splitK, if_neg (by simpa using hm), hi]
      have := ih (l.drop (i + 1)) (by rw [List.length_drop]; omega)
      simpa using this
/-- The parts of a text between the bytes c. -/
def parts (c : UInt8) (s : ByteArray) : List ByteArray := (prtA c [] s.data.toList).map fun l => ⟨l.toArray⟩
theorem bytes_ext : ∀ (a b : List ByteArray), a.map (·.data.toList) = b.map (·.data.toList) → a = b := by
  intro a
  induction a with
  | nil => intro b h; cases b <;> simp_all
  | cons x a ih =>
    intro b h
    cases b with
    | nil => simp at h
    | cons y b =>
      simp at h
      rw [ih b (by simpa using h.2), show x = y from ByteArray.ext (by first | exact h.1 | exact Array.toList_inj.1 h.1)]
theorem parts_data (c : UInt8) (s : ByteArray) : (parts c s).map (·.data.toList) = prtA c [] s.data.toList := by
  unfold parts
  rw [List.map_map]
  have : ((fun x : ByteArray => x.data.toList) ∘ fun l : List UInt8 => (⟨l.toArray⟩ : ByteArray)) = id := by funext l; simp
  rw [this, List.map_id]
theorem splitB_parts (c : UInt8) (s : ByteArray) : Lib.splitB ⟨#[c]⟩ 0 (Lib.countB s ⟨#[c]⟩) s = parts c s := by
  apply bytes_ext
  rw [Lib.splitB_data, parts_data]
  have := splitK_prt c s.data.toList.length s.data.toList (Nat.le_refl _)
  simpa [Lib.countB] using this
theorem prtA_len (c : UInt8) : ∀ (l acc : List UInt8), 1 ≤ (prtA c acc l).length ∧ ((prtA c acc l).map List.length).sum + (prtA c acc l).length = acc.length + l.length + 1 := by
  intro l
  induction l with
  | nil => intro acc; simp [prtA]
  | cons b l ih =>
    intro acc
    rw [prtA]
    by_cases hc : b = c
    · rw [if_pos hc]
      have h := ih []
      simp at h ⊢
      omega
    · rw [if_neg hc]
      have h := ih (acc ++ [b])
      simp at h ⊢
      omega
def rowsL (s : ByteArray) : List (List Int) := (parts 47 s).map readL
def AllP (s : ByteArray) : Prop := ∀ p ∈ parts 47 s, AllDig p
def PtRes (s : ByteArray) (zs : List (List Int)) (code : Int) : Prop := ((AllP s ∧ Tbl (rowsL s)) ∧ zs = rowsL s ∧ code = 0) ∨ (¬ (AllP s ∧ Tbl (rowsL s)) ∧ zs = [] ∧ code = 6)
theorem PtRes.ex (s : ByteArray) : ∃ zs code, PtRes s zs code ∧ zs.length ≤ 1048576 ∧ ∀ i, i < zs.length → (zs.getD i []).length ≤ 1048576 := by
  by_cases h : AllP s ∧ Tbl (rowsL s)
  · refine ⟨_, _, .inl ⟨h, rfl, rfl⟩, by have := h.2.2.1; omega, fun i hi => ?_⟩
    have h1 := h.2.row_len rfl hi
    have := h.2.2.1
    omega
  · exact ⟨_, _, .inr ⟨h, rfl, rfl⟩, by simp, fun i hi => by simp at hi⟩
theorem sum_bound (B : Nat) : ∀ (l : List Nat), (∀ x ∈ l, x ≤ B) → l.sum ≤ l.length * B := by
  intro l
  induction l with
  | nil => intro _; simp
  | cons a l ih =>
    intro h
    have h1 := ih fun x hx => h x (by simp [hx])
    have h2 := h a (by simp)
    simp [Nat.add_mul]
    omega
theorem tbl_short {s : ByteArray} (h : Tbl (rowsL s)) : s.size ≤ 155 := by
  have h1 := prtA_len 47 s.data.toList []
  have hl : (rowsL s).length = (prtA 47 [] s.data.toList).length := by unfold rowsL parts; simp
  have h12 := h.2.1
  have hs : ((prtA 47 [] s.data.toList).map List.length).sum ≤ (prtA 47 [] s.data.toList).length * 12 := by
    have := sum_bound 12 ((prtA 47 [] s.data.toList).map List.length) (fun x hx => by
      obtain ⟨l, hl2, rfl⟩ := List.mem_map.1 hx
      obtain ⟨i, hi, rfl⟩ := List.mem_iff_getElem.1 hl2
      have hi' : i < (rowsL s).length := by rw [hl]; exact hi
      have h3 := h.row_len rfl hi'
      have e : (rowsL s).getD i [] = readL ⟨((prtA 47 [] s.data.toList)[i]).toArray⟩ := by
        unfold rowsL parts
        simp [List.getD_eq_getElem?_getD, hi]
      rw [e, readL_length] at h3
      have e2 : (⟨((prtA 47 [] s.data.toList)[i]).toArray⟩ : ByteArray).size = ((prtA 47 [] s.data.toList)[i]).length := by simp [ByteArray.size]
      rw [e2] at h3
      omega)
    simpa using this
  have e3 : s.data.toList.length = s.size := Array.length_toList
  rw [hl] at h12
  simp at h1
  have e4 : s.data.size = s.size := rfl
  omega
theorem parts_pos (c : UInt8) (s : ByteArray) : 1 ≤ (parts c s).length := by
  unfold parts
  rw [List.length_map]
  exact (prtA_len c s.data.toList []).1
theorem le_sum_mem : ∀ (l : List Nat) (x : Nat), x ∈ l → x ≤ l.sum := by
  intro l
  induction l with
  | nil => intro x h; simp at h
  | cons a l ih =>
    intro x h
    rcases List.mem_cons.1 h with rfl | h
    · simp
    · have := ih x h; simp; omega
theorem parts_sz (c : UInt8) (s : ByteArray) : (parts c s).length ≤ s.size + 1 ∧ ∀ p ∈ parts c s, p.size ≤ s.size := by
  have h := prtA_len c s.data.toList []
  have e : s.data.toList.length = s.size := Array.length_toList
  rw [e] at h
  simp at h
  constructor
  · unfold parts; rw [List.length_map]; omega
  · intro p hp
    unfold parts at hp
    obtain ⟨l, hl, rfl⟩ := List.mem_map.1 hp
    have h2 : l.length ≤ ((prtA c [] s.data.toList).map List.length).sum := le_sum_mem _ _ (List.mem_map.2 ⟨l, hl, rfl⟩)
    have e2 : (⟨l.toArray⟩ : ByteArray).size = l.length := by simp [ByteArray.size]
    rw [e2]
    have h3 := h.1
    omega
theorem rowsL_at {s : ByteArray} {i : Nat} (hi : i < (parts 47 s).length) : (rowsL s).getD i [] = readL ((parts 47 s).getD i ByteArray.empty) ∧ (rowsL s).length = (parts 47 s).length := by
  unfold rowsL
  simp [List.getD_eq_getElem?_getD, hi]
theorem rowsL_take {s : ByteArray} {i : Nat} (hi : i < (parts 47 s).length) : (rowsL s).take (i + 1) = (rowsL s).take i ++ [readL ((parts 47 s).getD i ByteArray.empty)] := by
  obtain ⟨h1, h2⟩ := rowsL_at hi
  have hi2 : i < (rowsL s).length := by rw [h2]; exact hi
  have e : (rowsL s)[i] = readL ((parts 47 s).getD i ByteArray.empty) := by rw [← h1]; simp [List.getD_eq_getElem?_getD, hi2]
  rw [List.take_succ_eq_append_getElem hi2, e]
theorem allP_iff {s : ByteArray} (N : Nat) (hN : (parts 47 s).length = N) : AllP s ↔ ∀ i, i < N → AllDig ((parts 47 s).getD i ByteArray.empty) := by
  subst hN
  constructor
  · intro h i hi
    exact h _ (by simp [List.getD_eq_getElem?_getD, hi])
  · intro h p hp
    obtain ⟨i, hi, rfl⟩ := List.mem_iff_getElem.1 hp
    have := h i hi
    simpa [List.getD_eq_getElem?_getD, hi] using this

end Go.Proofs.YtkflmhmbkilmpabDoor
