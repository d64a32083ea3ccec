import Derived.Test.YtpkfcjpppncbiaaZd
import Derived.Test.YtpkfcjpppncbiaaZh
import Derived.Lib.Join
namespace Go.Proofs.Ytpkfcjpppncbiaa
open Go Go.RowKit

/-- The text of a table, as bytes. -/
def tabT (rows : List (List Int)) : List UInt8 := Lib.join (rows.map fun r => (lineS r).data.toList) [47]
def tabS (rows : List (List Int)) : ByteArray := ⟨(tabT rows).toArray⟩

theorem tabT_step (rows : List (List Int)) (k : Nat) (h : k < rows.length) : tabT (rows.take (k + 1)) = (if k = 0 then [] else tabT (rows.take k) ++ [47]) ++ (lineS (rows.getD k [])).data.toList := by
  cases rows with
  | nil => simp at h
  | cons r rest =>
    cases k with
    | zero => simp [tabT, Lib.join_one]
    | succ k =>
      have h' : k < rest.length := by simpa using h
      have e1 : (r :: rest).take (k + 1 + 1) = r :: rest.take (k + 1) := rfl
      have e2 : (r :: rest).take (k + 1) = r :: rest.take k := rfl
      have hk : (rest.map fun r => (lineS r).data.toList)[k]? = some (lineS (rest.getD k [])).data.toList := by simp [h']
      have h3 := Lib.joinTail_take_succ [47] (rest.map fun r => (lineS r).data.toList) k _ hk
      rw [e1, e2]
      unfold tabT
      rw [List.map_cons, List.map_cons, Lib.join_cons, Lib.join_cons, List.map_take, List.map_take, h3]
      simp

theorem tabS_step (rows : List (List Int)) (k : Nat) (h : k < rows.length) (h0 : k ≠ 0) : (tabS (rows.take k) ++ ⟨#[47]⟩) ++ lineS (rows.getD k []) = tabS (rows.take (k + 1)) := by
  unfold tabS
  rw [tabT_step rows k h, if_neg h0]
  apply ByteArray.ext
  simp
theorem tabS_first (rows : List (List Int)) (h : 0 < rows.length) : (⟨#[]⟩ : ByteArray) ++ lineS (rows.getD 0 []) = tabS (rows.take 1) := by
  unfold tabS
  rw [tabT_step rows 0 h, if_pos rfl]
  apply ByteArray.ext
  simp
theorem tabS_size (rows : List (List Int)) (n : Nat) (hr : ∀ i, i < rows.length → (rows.getD i []).length ≤ n) : ∀ k, k ≤ rows.length → (tabS (rows.take k)).size ≤ k * (n + 1) := by
  intro k
  induction k with
  | zero => intro _; simp [tabS, tabT, Lib.join_nil, ByteArray.size]
  | succ k ih =>
    intro hk
    have h1 := ih (by omega)
    have h2 := hr k hk
    have h3 := lineS_size (rows.getD k [])
    have e : (k + 1) * (n + 1) = k * (n + 1) + (n + 1) := Nat.succ_mul k (n + 1)
    have h4 : (tabS (rows.take (k + 1))).size = (tabT (rows.take (k + 1))).length := by simp [tabS, ByteArray.size]
    have h5 : (tabS (rows.take k)).size = (tabT (rows.take k)).length := by simp [tabS, ByteArray.size]
    have h6 : (lineS (rows.getD k [])).data.toList.length = (rows.getD k []).length := by rw [← h3]; exact Array.length_toList
    rw [h4, tabT_step rows k hk, List.length_append, h6]
    split
    · simp only [List.length_nil]; omega
    · simp only [List.length_append, List.length_singleton]
      omega

theorem getD_at (r : List Int) (j : Nat) (h : j < r.length) : r.getD j 0 = r[j] := by simp [h]

def TTextRes (rows : List (List Int)) (s : ByteArray) (code : Int) : Prop := (Tbl rows ∧ s = tabS rows ∧ code = 0) ∨ (¬ Tbl rows ∧ s = ⟨#[]⟩ ∧ code = 1)
theorem TTextRes.ex (rows : List (List Int)) : ∃ s code, TTextRes rows s code := by
  by_cases h : Tbl rows
  · exact ⟨_, _, .inl ⟨h, rfl, rfl⟩⟩
  · exact ⟨_, _, .inr ⟨h, rfl, rfl⟩⟩
theorem Tbl.dig {rows : List (List Int)} (h : Tbl rows) : ∀ i, i < rows.length → ∀ x ∈ rows.getD i [], 0 ≤ x ∧ x < 12 := fun i hi x hx => by
  obtain ⟨j, hj, rfl⟩ := List.mem_iff_getElem.1 hx
  have hl := h.rows i hi
  have h1 := (h.2.2 i hi).2 j (by omega)
  rw [← getD_at (rows.getD i []) j hj]
  have := h.2.1
  omega
end Go.Proofs.Ytpkfcjpppncbiaa
