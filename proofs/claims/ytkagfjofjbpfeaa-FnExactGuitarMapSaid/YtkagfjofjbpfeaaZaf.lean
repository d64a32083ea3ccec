import Derived.Test.YtkagfjofjbpfeaaZw
import Derived.Test.YtkagfjofjbpfeaaZy
import Derived.Test.YtkagfjofjbpfeaaZm
namespace Go.Proofs.Ytkagfjofjbpfeaa
open Go Go.RowKit

theorem pair_div (n x y : Nat) (hy : y < n) : (x * n + y) / n = x := by
  rw [Nat.mul_comm, Nat.mul_add_div (by omega), Nat.div_eq_of_lt hy, Nat.add_zero]
theorem pair_mod (n x y : Nat) (hy : y < n) : (x * n + y) % n = y := by
  rw [Nat.mul_comm, Nat.mul_add_mod, Nat.mod_eq_of_lt hy]
theorem pair_lt (n x y : Nat) (hx : x < n) (hy : y < n) : x * n + y < n * n := by
  have h : (x + 1) * n ≤ n * n := Nat.mul_le_mul_right n hx
  rw [Nat.add_mul, Nat.one_mul] at h
  omega
theorem div_lt_sq {n k : Nat} (hk : k < n * n) : k / n < n := Nat.div_lt_of_lt_mul hk
theorem mod_lt_sq {n k : Nat} (hk : k < n * n) : k % n < n := by
  rcases Nat.eq_zero_or_pos n with rfl | h
  · simp at hk
  · exact Nat.mod_lt _ h
theorem pair_eta (n k : Nat) : k / n * n + k % n = k := Nat.div_add_mod' k n
theorem sq_le (n : Nat) (h : n ≤ 12) : n * n ≤ 144 := Nat.mul_le_mul h h
end Go.Proofs.Ytkagfjofjbpfeaa
namespace Go.Proofs.Ytkagfjofjbpfeaa
open Go Go.RowKit

/-- The elements reached from x, the steps of the first i of them done. -/
structure OInv (rows : List (List Int)) (n x : Nat) (out : List Int) (i : Nat) : Prop where
  mem : (x : Int) ∈ out
  rng : ∀ v ∈ out, 0 ≤ v ∧ v < (n : Int)
  nd : out.Nodup
  rch : ∀ v ∈ out, Rch rows x v.toNat
  cl : ∀ j, j < i → ∀ r, r < rows.length → (rows.getD r []).getD (out.getD j 0).toNat 0 ∈ out
  le : i ≤ out.length

theorem nodup_le (out : List Int) (n : Nat) (hr : ∀ v ∈ out, 0 ≤ v ∧ v < (n : Int)) (hn : out.Nodup) : out.length ≤ n := by
  obtain ⟨l, hl⟩ := subset_perm out (Go.Proofs.Ytkagfjofjbpfeaa.rng n) hn (fun a ha => (mem_rng n a).2 (hr a ha))
  have := hl.length_eq
  rw [rng_length, List.length_append] at this
  omega
theorem OInv.most {rows : List (List Int)} {n x : Nat} {out : List Int} {i : Nat} (h : OInv rows n x out i) : out.length ≤ n := nodup_le out n h.rng h.nd
theorem OInv.start (rows : List (List Int)) (n x : Nat) (hx : x < n) : OInv rows n x [(x : Int)] 0 :=
  ⟨by simp, fun v hv => by simp at hv; subst hv; omega, by simp, fun v hv => by simp at hv; subst hv; rw [Int.toNat_natCast]; exact .start, fun j hj => absurd hj (Nat.not_lt_zero _), by simp⟩
theorem OInv.push {rows : List (List Int)} {n x : Nat} {out : List Int} {i r : Nat} (h : OInv rows n x out i) (hi : i < out.length) (hr : r < rows.length) (v : Int) (hv : v = (rows.getD r []).getD (out.getD i 0).toNat 0) (h0 : 0 ≤ v) (hn : v < (n : Int)) (hno : v ∉ out) : OInv rows n x (out ++ [v]) i := by
  refine ⟨by simp [h.mem], fun u hu => ?_, ?_, fun u hu => ?_, fun j hj s hs => ?_, by have := h.le; simp; omega⟩
  · rcases List.mem_append.1 hu with hu | hu
    · exact h.rng u hu
    · simp at hu; subst hu; exact ⟨h0, hn⟩
  · rw [List.nodup_append]
    exact ⟨h.nd, by simp, fun a ha b hb e => hno (by simp at hb; subst hb; subst e; exact ha)⟩
  · rcases List.mem_append.1 hu with hu | hu
    · exact h.rch u hu
    · simp at hu
      have hm : out.getD i 0 ∈ out := by simp [hi]
      subst hu
      exact .step (h.rch _ hm) ⟨r, hr, by rw [hv]⟩
  · have e : (out ++ [v]).getD j 0 = out.getD j 0 := by
      have : j < out.length := by omega
      simp [List.getElem?_append, this]
    rw [e]
    exact List.mem_append_left _ (h.cl j hj s hs)
theorem OInv.on {rows : List (List Int)} {n x : Nat} {out : List Int} {i : Nat} (h : OInv rows n x out i) (hi : i < out.length) (hr : ∀ r, r < rows.length → (rows.getD r []).getD (out.getD i 0).toNat 0 ∈ out) : OInv rows n x out (i + 1) :=
  ⟨h.mem, h.rng, h.nd, h.rch, fun j hj r hrr => by
    by_cases e : j = i
    · subst e; exact hr r hrr
    · exact h.cl j (by omega) r hrr, by omega⟩
theorem OInv.done {rows : List (List Int)} {n x : Nat} {out : List Int} (h : OInv rows n x out out.length) (y : Nat) : (y : Int) ∈ out ↔ Rch rows x y := by
  constructor
  · intro hy
    have := h.rch _ hy
    rwa [Int.toNat_natCast] at this
  · intro hy
    induction hy with
    | start => exact h.mem
    | step _ hs ih =>
      obtain ⟨r, hr, hz⟩ := hs
      obtain ⟨j, hj, hjy⟩ := List.getElem_of_mem ih
      have e : out.getD j 0 = out[j] := by simp [hj]
      have hc := h.cl j hj r hr
      rw [e, hjy, Int.toNat_natCast] at hc
      have h0 := (h.rng _ hc).1
      rw [← hz, Int.toNat_of_nonneg h0]
      exact hc
end Go.Proofs.Ytkagfjofjbpfeaa
namespace Go.Proofs.Ytkagfjofjbpfeaa
open Go Go.RowKit
set_option maxHeartbeats 1000000

theorem isSystem_any (N : Int) (A : Option Addr) (n c : Nat) (rows : List (List Int)) (r : Bool) (w : World) (hlo : -9223372036854775808 ≤ N) (hhi : N ≤ 9223372036854775807) (hn : rows.length = n) (hb : n ≤ 1048576) (hbs : ∀ i, i < rows.length → (rows.getD i []).length ≤ 1048576) (hr : Rd2 w A rows) (hrr : r = true ↔ Sys N rows) :
    Calls Try.prog 116 #[.int .i64 N, .slice A n c] w fun e w' => e = .returned (.bool r) ∧ Below w.heap.size w w' := by
  have HN := hide hn
  have HR := hide hrr
  clear hn hrr
  have hno : ¬ Sys N rows → r = false := fun h => by
    cases r
    · rfl
    · exact absurd (HR.out.1 rfl) h
  have HNO := hide hno
  clear hno
  by_cases h1 : N < 1
  · have hf := HNO.out (fun h => by have := h.1; omega)
    subst hf
    go_enter Try.func116, Try.ntmps116
    go_wp2_with fail
    go_ret
    exact ⟨rfl, Below.refl _ _⟩
  · by_cases h12 : 12 < N
    · have hf := HNO.out (fun h => by have := h.2.1; omega)
      subst hf
      go_enter Try.func116, Try.ntmps116
      go_wp2_with fail
      go_ret
      exact ⟨rfl, Below.refl _ _⟩
    · by_cases h16 : 16 < n
      · have hf := HNO.out (fun h => by have := h.2.2.1; have := HN.out; omega)
        subst hf
        have h16z : (16 : Int) < (n : Int) := by omega
        go_enter Try.func116, Try.ntmps116
        go_wp2_with fail
        go_ret
        exact ⟨rfl, Below.refl _ _⟩
      · have h16z : ¬ (16 : Int) < (n : Int) := by omega
        go_enter Try.func116, Try.ntmps116
        go_wp2_with fail
        go_loopw [20] (fun i wr => ∃ k : Nat, k ≤ n ∧ i = .int .i64 k ∧ Below w.heap.size w wr ∧ ∀ i, i < k → ((rows.getD i []).length : Int) = N) (fun i _ => n - (intOf i).toNat)
        case atStart => exact ⟨0, Nat.zero_le _, rfl, Below.refl _ _, fun i hi => absurd hi (Nat.not_lt_zero _)⟩
        case round =>
          obtain ⟨k, hk, rfl, hbe, hall⟩ := hrel
          have HB := hide hbe
          have HALL := hide hall
          clear hbe hall
          by_cases hlt : k < n
          · obtain ⟨b, o, rfl, _, hc⟩ := (hr.later HB.out) (by have := HN.out; omega)
            obtain ⟨Ak, ck, hcell, hrd⟩ := hc k (by have := HN.out; omega)
            have hbk := hbs k (by have := HN.out; omega)
            obtain ⟨x, hx⟩ : ∃ x, x = rows.getD k [] := ⟨_, rfl⟩
            obtain ⟨m, hm⟩ : ∃ m, x.length = m := ⟨_, rfl⟩
            rw [← hx] at hcell hbk
            rw [hm] at hcell hbk
            have HX := hide hx
            have HM := hide hm
            clear hx hm hc hbs hrd
            have hltz : (k : Int) < n := by omega
            by_cases hmn : (m : Int) = N
            · have hne : ((m : Int) != N) = false := by simp [hmn]
              have HMN := hide hmn
              clear hmn
              go_wp2_with fail
              go_roundw
              case rel =>
                refine ⟨k + 1, by omega, by go_num, HB.out, fun i hi => ?_⟩
                by_cases e : i = k
                · subst e; rw [← HX.out, HM.out]; exact HMN.out
                · exact HALL.out i (by omega)
              case measure => simp [intOf]; omega
            · have hne : ((m : Int) != N) = true := by simpa using hmn
              have hf := HNO.out (fun h => by have := (h.2.2.2 k (by have := HN.out; omega)).1; rw [← HX.out, HM.out] at this; exact hmn this)
              subst hf
              have HMN := hide hmn
              clear hmn
              go_wp2_with fail
              go_ret
              exact ⟨rfl, HB.out⟩
          · have hkn : k = n := by omega
            subst hkn
            go_wp2_with fail
            refine (rowsI_any _ _ _ rows r _ HN.out hb hbs (hr.later HB.out) ?_).mono ?_
            · constructor
              · intro h
                exact fun i hi => ((HR.out.1 h).2.2.2 i hi).2
              · intro h
                exact HR.out.2 ⟨by omega, by omega, by have := HN.out; omega, fun i hi => ⟨HALL.out i (by have := HN.out; omega), h i hi⟩⟩
            rintro e w1 ⟨rfl, hq1⟩
            have HQ1 := hide hq1
            clear hq1
            go_wp2_with fail
            go_ret
            exact ⟨rfl, HB.out.trans (HQ1.out.mono HB.out.size)⟩
end Go.Proofs.Ytkagfjofjbpfeaa
