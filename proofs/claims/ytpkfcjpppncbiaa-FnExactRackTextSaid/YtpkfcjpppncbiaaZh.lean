import Derived.Test.YtpkfcjpppncbiaaZf
import Derived.Test.YtpkfcjpppncbiaaZb
import Derived.Test.YtpkfcjpppncbiaaProg
import Derived.Test.YtpkfcjpppncbiaaZd
namespace Go.Proofs.Ytpkfcjpppncbiaa
open Go Go.RowKit

/-- The sizes of two tables, at most K. -/
structure ZSz (K : Nat) (f : List (List Int)) (n : Nat) (s : List (List Int)) (m : Nat) : Prop where
  fl : f.length = n
  nb : n ≤ K
  nr : ∀ i, i < f.length → (f.getD i []).length ≤ K
  sl : s.length = m
  mb : m ≤ K
  mr : ∀ i, i < s.length → (s.getD i []).length ≤ K

/-- Two tables that are read in a world. -/
structure ZArg (K : Nat) (w : World) (A : Option Addr) (n : Nat) (f : List (List Int)) (B : Option Addr) (m : Nat) (s : List (List Int)) : Prop where
  sz : ZSz K f n s m
  fst : Rd2 w A f
  snd : Rd2 w B s

theorem ZArg.later {K : Nat} {w w' : World} {A : Option Addr} {n : Nat} {f : List (List Int)} {B : Option Addr} {m : Nat} {s : List (List Int)} (h : ZArg K w A n f B m s) (hb : Below w.heap.size w w') : ZArg K w' A n f B m s :=
  ⟨h.sz, h.fst.later hb, h.snd.later hb⟩

theorem ZSz.tots {f s : List (List Int)} {n m : Nat} (h : ZSz 1048576 f n s m) : tot f + tot s ≤ 2199023255552 := by
  have h1 := tot_bound f (by rw [h.fl]; exact h.nb) h.nr
  have h2 := tot_bound s (by rw [h.sl]; exact h.mb) h.mr
  omega
theorem ZSz.totf {f s : List (List Int)} {n m : Nat} (h : ZSz 1048576 f n s m) : tot f ≤ 1099511627776 := tot_bound f (by rw [h.fl]; exact h.nb) h.nr
theorem ZSz.totg {f s : List (List Int)} {n m : Nat} (h : ZSz 1048576 f n s m) : tot s ≤ 1099511627776 := tot_bound s (by rw [h.sl]; exact h.mb) h.mr
end Go.Proofs.Ytpkfcjpppncbiaa
namespace Go.Proofs.Ytpkfcjpppncbiaa
open Go Go.RowKit

theorem Tbl.rows {rows : List (List Int)} (h : Tbl rows) : ∀ i, i < rows.length → (rows.getD i []).length = rows.length := fun i hi => (h.2.2 i hi).1
theorem Tbl.le {rows : List (List Int)} (h : Tbl rows) : ∀ i, i < rows.length → (rows.getD i []).length ≤ 1048576 := fun i hi => by
  have h1 := h.rows i hi
  have h2 := h.2.1
  omega

theorem bool_of (p : Prop) : ∃ r : Bool, r = true ↔ p := by
  by_cases h : p
  · exact ⟨true, by simp [h]⟩
  · exact ⟨false, by simp [h]⟩

def AllPrm (rows : List (List Int)) : Prop := ∀ i, i < rows.length → Prm (rows.getD i [])

def RowsRes (rows : List (List Int)) (r : Bool) (code : Int) : Prop := (Tbl rows ∧ (r = true ↔ AllPrm rows) ∧ code = 0) ∨ (¬ Tbl rows ∧ r = false ∧ code = 1)
theorem RowsRes.ex (rows : List (List Int)) : ∃ r code, RowsRes rows r code := by
  by_cases h : Tbl rows
  · obtain ⟨r, hr⟩ := bool_of (AllPrm rows)
    exact ⟨r, _, .inl ⟨h, hr, rfl⟩⟩
  · exact ⟨_, _, .inr ⟨h, rfl, rfl⟩⟩

def LatinRes (rows : List (List Int)) (r : Bool) (code : Int) : Prop := (Tbl rows ∧ (r = true ↔ AllPrm rows ∧ AllPrm (turnL rows)) ∧ code = 0) ∨ (¬ Tbl rows ∧ r = false ∧ code = 1)
theorem LatinRes.ex (rows : List (List Int)) : ∃ r code, LatinRes rows r code := by
  by_cases h : Tbl rows
  · obtain ⟨r, hr⟩ := bool_of (AllPrm rows ∧ AllPrm (turnL rows))
    exact ⟨r, _, .inl ⟨h, hr, rfl⟩⟩
  · exact ⟨_, _, .inr ⟨h, rfl, rfl⟩⟩

def TurnRes (rows zs : List (List Int)) (code : Int) : Prop := (Tbl rows ∧ zs = turnL rows ∧ code = 0) ∨ (¬ Tbl rows ∧ zs = [] ∧ code = 1)
theorem TurnRes.ex (rows : List (List Int)) : ∃ zs code, TurnRes rows zs code ∧ zs.length ≤ 1048576 ∧ ∀ i, i < zs.length → (zs.getD i []).length ≤ 1048576 := by
  by_cases h : Tbl rows
  · refine ⟨_, _, .inl ⟨h, rfl, rfl⟩, by rw [turnL_length]; have := h.2.1; omega, fun i hi => ?_⟩
    rw [turnL_length] at hi
    unfold turnL
    rw [grid_row_length _ _ _ hi]
    have := h.2.1
    omega
  · exact ⟨_, _, .inr ⟨h, rfl, rfl⟩, by simp, fun i hi => by simp at hi⟩
end Go.Proofs.Ytpkfcjpppncbiaa
namespace Go.Proofs.Ytpkfcjpppncbiaa
open Go Go.RowKit
set_option maxHeartbeats 1000000

theorem byInfo : (Try.prog.info? 5).map (fun i => (i.zero, i.size, i.bytes)) = some (some (.int .u8 0), 1, 1) := by kernel_rfl

theorem dgAt (j : Nat) (h : j < (⟨#[48, 49, 50, 51, 52, 53, 54, 55, 56, 57, 97, 98]⟩ : ByteArray).size) : (((⟨#[48, 49, 50, 51, 52, 53, 54, 55, 56, 57, 97, 98]⟩ : ByteArray)[j]'h).toNat : Int) = dg (j : Int) := by
  have h12 : j < 12 := h
  match j, h12 with
  | 0, _ | 1, _ | 2, _ | 3, _ | 4, _ | 5, _ | 6, _ | 7, _ | 8, _ | 9, _ | 10, _ | 11, _ => rfl

theorem digitsOf_any (A : Option Addr) (n c : Nat) (xs : List Int) (w : World) (hn : xs.length = n) (hb : n ≤ 1048576) (hx : Rd w A xs) (hin : ∀ x ∈ xs, 0 ≤ x ∧ x < 12) :
    Calls Try.prog 41 #[.slice A n c] w fun e w' => e = .returned (.string (lineS xs)) ∧ Below w.heap.size w w' := by
  have hmk := run_make_row' (P := Try.prog) 73 5 (.int .u8 0) 1 Try.underlying73 byInfo rfl .i64 .i64 n (by omega) (by omega)
  have HN := hide hn
  have HIN := hide hin
  clear hn hin
  go_enter Try.func41, Try.ntmps41
  go_wp2_with fail
  clear hmk
  go_loopw [11] (fun i wr => ∃ k : Nat, k ≤ n ∧ i = .int .i64 k ∧ Below w.heap.size w wr ∧ PreIs wr w.heap.size 5 n (fun j => .int .u8 (if j < k then dg (xs.getD j 0) else 0))) (fun i _ => n - (intOf i).toNat)
  case atStart => exact ⟨0, Nat.zero_le _, rfl, (Below.refl _ _).alloc (Nat.le_refl _) _, .of_row ((World.rowIs_made w _ n _).congr (fun j _ => by simp))⟩
  case round =>
    obtain ⟨k, hk, rfl, hbe, hpre⟩ := hrel
    have HB := hide hbe
    have HP := hide hpre
    clear hbe hpre
    by_cases hlt : k < n
    · obtain ⟨b, o, rfl, hbw, hc⟩ := hx (by have := HN.out; omega)
      have hc1 : wr.cell? ⟨b, o + k, none⟩ = some (.int .i64 (xs.getD k 0)) := (HB.out.cell (p := ⟨b, o + k, none⟩) hbw).trans (hc k (by have := HN.out; omega))
      have hl : k < xs.length := by have := HN.out; omega
      have hr := HIN.out (xs.getD k 0) (by simp [hl])
      have HL := hide hl
      obtain ⟨x, hx'⟩ : ∃ x, xs.getD k 0 = x := ⟨_, rfl⟩
      rw [hx'] at hc1 hr
      have HX := hide hx'
      clear hx' hc hl
      obtain ⟨j, rfl⟩ := Int.eq_ofNat_of_zero_le hr.1
      have hj : j < 12 := by omega
      clear hr
      have h2 := HP.out.cell hlt
      simp only [Nat.lt_irrefl, if_false] at h2
      have h3 := HP.out.frozen k
      have hltz : (k : Int) < n := by omega
      have hjz : (j : Int) < 12 := by omega
      go_wp2_with fail
      go_roundw
      case rel =>
        refine ⟨k + 1, by omega, by go_num, HB.out.setCell (p := ⟨w.heap.size, k, none⟩) (Nat.le_refl _) _, (HP.out.set k _).congr (fun i hi => ?_)⟩
        by_cases e : i = k
        · subst e
          rw [if_pos rfl, if_pos (by omega), HX.out, dgAt]
        · rw [if_neg e]
          by_cases e2 : i < k
          · rw [if_pos e2, if_pos (by omega)]
          · rw [if_neg e2, if_neg (by omega)]
      case measure => simp [intOf]; omega
    · have hkn : k = n := by omega
      subst hkn
      have hcv := run_convert_bytes_arg (P := Try.prog) wr 73 5 Try.underlying73 Try.underlying5 w.heap.size 0 k k (lineL xs) ((lineL_length xs).trans HN.out)
        (fun i hi => by
          rw [Nat.zero_add, HP.out.cell hi, if_pos hi]
          have hl : i < xs.length := by have := HN.out; omega
          simp [lineL, hl]) 9 Try.underlying9
      go_wp2_with fail
      go_ret
      exact ⟨rfl, HB.out⟩
end Go.Proofs.Ytpkfcjpppncbiaa
