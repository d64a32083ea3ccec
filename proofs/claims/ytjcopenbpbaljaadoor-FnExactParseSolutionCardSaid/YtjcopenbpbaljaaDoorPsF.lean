import Derived.Test.YtjcopenbpbaljaaDoorSpF
import Derived.Test.YtjcopenbpbaljaaDoorZArg
namespace Go.Proofs.YtjcopenbpbaljaaDoor
open Go Go.RowKit
theorem index_mem (c : UInt8) : ∀ (l : List UInt8), Lib.index l [c] ≠ -1 → c ∈ l := by
  intro l
  induction l with
  | nil => intro h; exact absurd (by simp [Lib.index]) h
  | cons b l ih =>
    intro h
    rw [index_cons] at h
    by_cases hc : c = b
    · rw [hc]; simp
    · rw [if_neg hc] at h
      by_cases h3 : Lib.index l [c] = -1
      · rw [if_pos h3] at h; exact absurd rfl h
      · exact List.mem_cons_of_mem _ (ih h3)
theorem prtA_mem (c x : UInt8) (hx : x ≠ c) : ∀ (l acc : List UInt8), (x ∈ l ∨ x ∈ acc) → ∃ p ∈ prtA c acc l, x ∈ p := by
  intro l
  induction l with
  | nil =>
    intro acc h
    rcases h with h | h
    · simp at h
    · exact ⟨acc, by simp [prtA], h⟩
  | cons b l ih =>
    intro acc h
    rw [prtA]
    by_cases hb : b = c
    · rw [if_pos hb]
      rcases h with h | h
      · rcases List.mem_cons.1 h with h | h
        · exact absurd (h.trans hb) hx
        · obtain ⟨p, hp, hxp⟩ := ih [] (.inl h)
          exact ⟨p, by simp [hp], hxp⟩
      · exact ⟨acc, by simp, h⟩
    · rw [if_neg hb]
      refine ih _ ?_
      rcases h with h | h
      · rcases List.mem_cons.1 h with h | h
        · exact .inr (by simp [h])
        · exact .inl h
      · exact .inr (by simp [h])
theorem prtA_one (c : UInt8) (l acc : List UInt8) (h : (prtA c acc l).length = 1) : prtA c acc l = [acc ++ l] := by
  by_cases hm : Lib.index l [c] = -1
  · exact prtA_miss c l acc hm
  · obtain ⟨i, hi⟩ : ∃ i : Nat, Lib.index l [c] = i := ⟨(Lib.index l [c]).toNat, by have := Lib.index_ge l [c]; omega⟩
    rw [prtA_hit c l acc i hi] at h
    have h2 := (prtA_len c (l.drop (i + 1)) []).1
    rw [List.length_cons] at h
    omega
theorem allP_no {t : ByteArray} (h : AllP t) : Lib.index t.data.toList [124] = -1 := by
  by_cases hm : Lib.index t.data.toList [124] = -1
  · exact hm
  · have h1 := index_mem _ _ hm
    obtain ⟨p, hp, hxp⟩ := prtA_mem 47 124 (by decide) t.data.toList [] (.inl h1)
    have hd := h (⟨p.toArray⟩ : ByteArray) (List.mem_map.2 ⟨p, hp, rfl⟩)
    obtain ⟨k, hk, hkx⟩ := List.mem_iff_getElem.1 hxp
    have hks : k < (⟨p.toArray⟩ : ByteArray).size := by simpa [ByteArray.size] using hk
    have h2 := hd k hks
    rw [readL_getD _ _ hks] at h2
    have e : (⟨p.toArray⟩ : ByteArray)[k] = 124 := by
      have : (⟨p.toArray⟩ : ByteArray)[k] = p[k] := by rfl
      rw [this, hkx]
    rw [e] at h2
    exact absurd h2 (by decide)
def cutF (s : ByteArray) : ByteArray := ⟨(Lib.cut s.data.toList [124]).1.toArray⟩
def cutB (s : ByteArray) : ByteArray := ⟨(Lib.cut s.data.toList [124]).2.1.toArray⟩
theorem mk_size (l : List UInt8) : (⟨l.toArray⟩ : ByteArray).size = l.length := by simp [ByteArray.size]
theorem cut_size (s : ByteArray) : (cutF s).size ≤ s.size ∧ (cutB s).size ≤ s.size := by
  have e3 : s.data.toList.length = s.size := Array.length_toList
  unfold cutF cutB
  rw [mk_size (Lib.cut s.data.toList [124]).1, mk_size (Lib.cut s.data.toList [124]).2.1, ← e3]
  unfold Lib.cut
  split
  · exact ⟨by rw [List.length_take]; exact Nat.min_le_right _ _, by rw [List.length_drop]; exact Nat.sub_le _ _⟩
  · exact ⟨Nat.le_refl _, Nat.zero_le _⟩
theorem cut_miss {s : ByteArray} (h : Lib.index s.data.toList [124] = -1) : cutF s = s ∧ cutB s = ⟨#[]⟩ := by
  unfold cutF cutB Lib.cut
  rw [if_neg (by omega)]
  simp
theorem cut_hit {s : ByteArray} {i : Nat} (h : Lib.index s.data.toList [124] = i) : (cutF s).data.toList = s.data.toList.take i ∧ (cutB s).data.toList = s.data.toList.drop (i + 1) := by
  unfold cutF cutB Lib.cut
  rw [if_pos (by omega), h]
  simp
theorem parts_miss {s : ByteArray} (h : Lib.index s.data.toList [124] = -1) : (parts 124 s).length = 1 := by
  unfold parts
  rw [prtA_miss 124 _ [] h]
  simp
theorem parts_hit {s : ByteArray} {i : Nat} (h : Lib.index s.data.toList [124] = i) : parts 124 s = cutF s :: parts 124 (cutB s) := by
  obtain ⟨h1, h2⟩ := cut_hit h
  apply bytes_ext
  rw [parts_data, List.map_cons, parts_data, h1, h2, prtA_hit 124 _ [] i h]
  simp
theorem no_rows : ¬ Tbl (rowsL ⟨#[]⟩) := by
  intro h
  have e : rowsL ⟨#[]⟩ = [[]] := by simp [rowsL, parts, prtA, readL]
  rw [e] at h
  have h1 := h.row_len (n := 1) (a := 0) rfl (by decide)
  exact absurd h1 (by decide)
def PsG (s : ByteArray) : Prop := AllP (cutF s) ∧ AllP (cutB s) ∧ PMap (rowsL (cutF s)) (rowsL (cutB s))
theorem psG_parts {s : ByteArray} (h : PsG s) : parts 124 s = [cutF s, cutB s] := by
  by_cases hm : Lib.index s.data.toList [124] = -1
  · have := h.2.2.2.1
    rw [(cut_miss hm).2] at this
    exact absurd this no_rows
  · obtain ⟨i, hi⟩ : ∃ i : Nat, Lib.index s.data.toList [124] = i := ⟨(Lib.index s.data.toList [124]).toNat, by have := Lib.index_ge s.data.toList [124]; omega⟩
    rw [parts_hit hi]
    have h2 := allP_no h.2.1
    have e : parts 124 (cutB s) = [cutB s] := by
      apply bytes_ext
      rw [parts_data, prtA_miss 124 _ [] h2]
      simp
    rw [e]
theorem parts_two {s : ByteArray} (h : (parts 124 s).length = 2) : parts 124 s = [cutF s, cutB s] := by
  by_cases hm : Lib.index s.data.toList [124] = -1
  · rw [parts_miss hm] at h; omega
  · obtain ⟨i, hi⟩ : ∃ i : Nat, Lib.index s.data.toList [124] = i := ⟨(Lib.index s.data.toList [124]).toNat, by have := Lib.index_ge s.data.toList [124]; omega⟩
    rw [parts_hit hi] at h ⊢
    have h1 : (prtA 124 [] (cutB s).data.toList).length = 1 := by
      simp [parts] at h
      exact h
    have e : parts 124 (cutB s) = [cutB s] := by
      apply bytes_ext
      rw [parts_data, prtA_one 124 _ [] h1]
      simp
    rw [e]
def PsRes (s : ByteArray) (zf zg : List (List Int)) (code : Int) : Prop := (PsG s ∧ zf = rowsL (cutF s) ∧ zg = rowsL (cutB s) ∧ code = 0) ∨ (¬ PsG s ∧ zf = [] ∧ zg = [] ∧ code = 6)
theorem tbl_small {f : List (List Int)} (h : Tbl f) : f.length ≤ 1048576 ∧ ∀ i, i < f.length → (f.getD i []).length ≤ 1048576 := by
  have h2 := h.2.1
  exact ⟨by omega, fun i hi => by have := h.row_len rfl hi; omega⟩
theorem PsRes.ex (s : ByteArray) : ∃ zf zg code, PsRes s zf zg code ∧ ZSz 1048576 zf zf.length zg zg.length := by
  by_cases h : PsG s
  · have a := tbl_small h.2.2.1
    have b := tbl_small h.2.2.2.1
    exact ⟨_, _, _, .inl ⟨h, rfl, rfl, rfl⟩, ⟨rfl, a.1, a.2, rfl, b.1, b.2⟩⟩
  · exact ⟨_, _, _, .inr ⟨h, rfl, rfl, rfl⟩, ⟨rfl, by simp, fun i hi => by simp at hi, rfl, by simp, fun i hi => by simp at hi⟩⟩
theorem nil_not_map (g : List (List Int)) : ¬ PMap [] g := fun h => by have := h.1.1; simp at this
theorem not_map_nil (f : List (List Int)) : ¬ PMap f [] := fun h => by have := h.2.1.1; simp at this
/-- What the two parses tell of the pair map. -/
theorem psG_iff {a b : ByteArray} {f g : List (List Int)} {c1 c2 : Int} (hf : PtRes a f c1) (hg : PtRes b g c2) : PMap f g ↔ (AllP a ∧ AllP b ∧ PMap (rowsL a) (rowsL b)) := by
  rcases hf with ⟨h1, rfl, _⟩ | ⟨h1, rfl, _⟩
  · rcases hg with ⟨h2, rfl, _⟩ | ⟨h2, rfl, _⟩
    · exact ⟨fun h => ⟨h1.1, h2.1, h⟩, fun h => h.2.2⟩
    · exact ⟨fun h => absurd h (not_map_nil _), fun h => absurd ⟨h.2.1, h.2.2.2.1⟩ h2⟩
  · exact ⟨fun h => absurd h (nil_not_map _), fun h => absurd ⟨h.1, h.2.2.1⟩ h1⟩
theorem psG_eq {a b : ByteArray} {f g : List (List Int)} {c1 c2 : Int} (hf : PtRes a f c1) (hg : PtRes b g c2) (h : AllP a ∧ AllP b ∧ PMap (rowsL a) (rowsL b)) : f = rowsL a ∧ c1 = 0 ∧ g = rowsL b ∧ c2 = 0 := by
  rcases hf with ⟨_, h3, h4⟩ | ⟨h1, _, _⟩
  · rcases hg with ⟨_, h5, h6⟩ | ⟨h2, _, _⟩
    · exact ⟨h3, h4, h5, h6⟩
    · exact absurd ⟨h.2.1, h.2.2.2.1⟩ h2
  · exact absurd ⟨h.1, h.2.2.1⟩ h1
end Go.Proofs.YtjcopenbpbaljaaDoor
