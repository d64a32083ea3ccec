import Derived.Test.YtpkfcjpppncbiaaZa
import Derived.WalkKit
import Derived.ProofKit
import Derived.OpenShut
import Derived.ShutString
import Derived.ChangeOld
import Derived.Below
import Derived.Deep.Matrix
namespace Go.Proofs.Ytpkfcjpppncbiaa
open Go Go.RowKit Go.ChangeShapes Go.WideShapes Go.ChangeAt

theorem addr_bare {w : World} {a : Addr} {v : Value} (h : w.cell? a = some v) : ∃ b o, a = ⟨b, o, none⟩ := by
  obtain ⟨b, o, s⟩ := a
  have hs : s = none := by simpa using World.cell?_spot h
  subst hs
  exact ⟨b, o, rfl⟩

theorem bounds_of_wf {x : Int} (h : (Lit.int .i64 x).wf = true) : -9223372036854775808 ≤ x ∧ x ≤ 9223372036854775807 := by
  simpa [Lit.wf, IntKind.min, IntKind.max, IntKind.signed, IntKind.bits] using h

/-- A slice of numbers that came in, as the walks are told of it. -/
theorem open_row {H : Type} {enc : TypeId × Value → H} {P : Program} {w : World} {base : Nat} {t e : TypeId} {a : Option Addr} {n c : Nat} {d : DataW H} {p : List MemPlace}
    (ht : P.underlying t = some (.slice e)) (he : P.underlying e = some (.int .i64)) (ce : P.cellsOf e = 1)
    (h : DataW.Trod enc P w base (fun _ => true) true t (.slice a n c) d p) :
    ∃ xs : List Int, xs.length = n ∧ n ≤ 9223372036854775807 ∧ Rd w a xs ∧ (∀ x ∈ xs, (Lit.int .i64 x).wf = true) := by
  obtain ⟨fuel, hf⟩ := h
  rcases open_ints ht he ce hf with ⟨hcs, _⟩ | ⟨x, l, c', zs, hcs, _, hl, hm, hz, _, hcell, hwz⟩
  · simp [Value.cells] at hcs
    obtain ⟨rfl, rfl, rfl⟩ := hcs
    exact ⟨[], rfl, by omega, Rd.nil, by simp⟩
  · simp [Value.cells] at hcs
    obtain ⟨rfl, rfl, rfl⟩ := hcs
    simp at hz
    unfold maxLen at hm
    have hlen : (zs.take n).length = n := by simp; omega
    refine ⟨zs.take n, hlen, by omega, fun h0 => ?_, fun y hy => hwz y (List.mem_of_mem_take hy)⟩
    obtain ⟨b, o, rfl⟩ := addr_bare (hcell 0 (by omega))
    have h1 := hcell 0 (by omega)
    have hlt := block_lt_of_cell h1
    refine ⟨b, o, rfl, by simpa [Addr.add] using hlt, fun i hi => ?_⟩
    have h2 := hcell i (by omega)
    rw [hlen] at hi
    have e1 : (⟨b, o, none⟩ : Addr).add i = ⟨b, o + i, none⟩ := by
      unfold Addr.add
      by_cases h : i = 0
      · subst h; simp
      · simp [h]
    rw [e1] at h2
    rw [h2]
    simp [hi]

/-- A slice of slices of numbers that came in. -/
theorem open_table {H : Type} {enc : TypeId × Value → H} {P : Program} {w : World} {base : Nat} {t e q : TypeId} {a : Option Addr} {n c : Nat} {d : DataW H} {p : List MemPlace}
    (ht : P.underlying t = some (.slice e)) (he : P.underlying e = some (.slice q)) (hq : P.underlying q = some (.int .i64)) (ce : P.cellsOf e = 1) (cq : P.cellsOf q = 1)
    (h : DataW.Trod enc P w base (fun _ => true) true t (.slice a n c) d p) :
    ∃ rows : List (List Int), rows.length = n ∧ n ≤ 9223372036854775807 ∧ (∀ i, i < rows.length → (rows.getD i []).length ≤ 9223372036854775807) ∧ Rd2 w a rows ∧ (∀ r ∈ rows, ∀ x ∈ r, (Lit.int .i64 x).wf = true) := by
  obtain ⟨fuel, hf⟩ := h
  rcases Go.Deep.open_int_rows ht he hq ce cq hf with ⟨hcs, _⟩ | ⟨x, l, c', A, L, C, Z, hcs, _, hl, hm, _, hall⟩
  · simp [Value.cells] at hcs
    obtain ⟨rfl, rfl, rfl⟩ := hcs
    exact ⟨[], rfl, by omega, by simp, fun h => absurd h (by simp), by simp⟩
  · simp [Value.cells] at hcs
    obtain ⟨rfl, rfl, rfl⟩ := hcs
    unfold maxLen at hm
    have hget : ∀ i, i < n → ((List.range n).map fun r => (Z r).take (L r)).getD i [] = (Z i).take (L i) := fun i hi => by simp [hi]
    have hlen : ∀ i, i < n → ((Z i).take (L i)).length = L i := fun i hi => by
      obtain ⟨_, h2, _, h4, _⟩ := hall i (by omega)
      simp; omega
    refine ⟨(List.range n).map fun r => (Z r).take (L r), by simp, by omega, fun i hi => ?_, fun h0 => ?_, fun r hr y hy => ?_⟩
    · simp at hi
      rw [hget i hi, hlen i hi]
      obtain ⟨_, h2, h3, _⟩ := hall i (by omega)
      unfold maxLen at h3
      omega
    · simp at h0
      obtain ⟨b, o, rfl⟩ := addr_bare (hall 0 (by omega)).1
      have hlt := block_lt_of_cell (hall 0 (by omega)).1
      refine ⟨b, o, rfl, by simpa [Addr.add] using hlt, fun i hi => ?_⟩
      simp at hi
      rw [hget i hi, hlen i hi]
      obtain ⟨h1, h2, h3, h4, h5, h6, h7⟩ := hall i (by omega)
      have e1 : (⟨b, o, none⟩ : Addr).add i = ⟨b, o + i, none⟩ := by
        unfold Addr.add
        by_cases h : i = 0
        · subst h; simp
        · simp [h]
      rw [e1] at h1
      refine ⟨A i, C i, h1, fun hp => ?_⟩
      rw [hlen i hi] at hp
      cases hA : A i with
      | none => have := h6 hA; omega
      | some a' =>
        obtain ⟨_, h8⟩ := h7 a' hA
        obtain ⟨b', o', rfl⟩ := addr_bare (h8 0 (by omega))
        have hlt' := block_lt_of_cell (h8 0 (by omega))
        refine ⟨b', o', rfl, by simpa [Addr.add] using hlt', fun j hj => ?_⟩
        rw [hlen i hi] at hj
        have h9 := h8 j (by omega)
        have e2 : (⟨b', o', none⟩ : Addr).add j = ⟨b', o' + j, none⟩ := by
          unfold Addr.add
          by_cases h : j = 0
          · subst h; simp
          · simp [h]
        rw [e2] at h9
        rw [h9]
        simp [hj]
    · simp at hr
      obtain ⟨i, hi, rfl⟩ := hr
      exact (hall i (by omega)).2.2.2.2.1 y (List.mem_of_mem_take hy)
end Go.Proofs.Ytpkfcjpppncbiaa
