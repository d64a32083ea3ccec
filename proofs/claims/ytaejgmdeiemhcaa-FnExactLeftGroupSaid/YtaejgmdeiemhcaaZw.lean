import Derived.Test.YtaejgmdeiemhcaaZb
import Derived.Laws.BytesArg
import Derived.Test.YtaejgmdeiemhcaaProg
namespace Go.Proofs.Ytaejgmdeiemhcaa
open Go Go.RowKit

/-- The digit of an element, as a byte. -/
def dg (x : Int) : Int := if x < 10 then 48 + x else 87 + x
theorem dg_range (x : Int) (h0 : 0 ≤ x) (h1 : x < 12) : 48 ≤ dg x ∧ dg x < 123 := by unfold dg; split <;> omega
/-- The digits of a list. -/
def lineL (xs : List Int) : List Int := xs.map dg
theorem lineL_length (xs : List Int) : (lineL xs).length = xs.length := by simp [lineL]
def lineS (xs : List Int) : ByteArray := strOfNums (lineL xs)
theorem lineS_size (xs : List Int) : (lineS xs).size = xs.length := by unfold lineS; rw [strOfNums_size, lineL_length]
theorem lineS_snoc (xs : List Int) (x : Int) : lineS xs ++ lineS [x] = lineS (xs ++ [x]) := by
  unfold lineS strOfNums lineL
  apply ByteArray.ext
  simp
theorem lineS_nil : lineS [] = ⟨#[]⟩ := rfl

def PTextRes (p : List Int) (s : ByteArray) (code : Int) : Prop := (Prm p ∧ s = lineS p ∧ code = 0) ∨ (¬ Prm p ∧ s = ⟨#[]⟩ ∧ code = 1)
theorem PTextRes.ex (p : List Int) : ∃ s code, PTextRes p s code := by
  by_cases h : Prm p
  · exact ⟨_, _, .inl ⟨h, rfl, rfl⟩⟩
  · exact ⟨_, _, .inr ⟨h, rfl, rfl⟩⟩
theorem Prm.dig {p : List Int} (h : Prm p) : ∀ x ∈ p, 0 ≤ x ∧ x < 12 := fun x hx => by
  have h1 := h.2.2.1 x hx
  have h2 := h.2.1
  omega
end Go.Proofs.Ytaejgmdeiemhcaa
namespace Go.Proofs.Ytaejgmdeiemhcaa
open Go Go.RowKit
set_option maxHeartbeats 1000000

theorem idInfo : (Try.prog.info? 2).map (fun i => (i.zero, i.size, i.bytes)) = some (some (.int .i64 0), 1, 8) := by kernel_rfl
def unitL (n : Nat) : List Int := (List.range n).map fun (x : Nat) => Int.ofNat x
theorem unitL_length (n : Nat) : (unitL n).length = n := by simp [unitL]
theorem unitL_getD (n k : Nat) (h : k < n) : (unitL n).getD k 0 = (k : Int) := by simp [unitL, h]

theorem identityOf_any (n : Nat) (w : World) (hb : n ≤ 1048576) :
    Calls Try.prog 118 #[.int .i64 n] w fun e w' => e = .returned (.slice (some ⟨w.heap.size, 0, none⟩) n n) ∧ Below w.heap.size w w' ∧ Row 2 w' w.heap.size (unitL n) ∧ w'.heap.size = w.heap.size + 1 := by
  have hmk := run_make_row' (P := Try.prog) 83 2 (.int .i64 0) 8 Try.underlying83 idInfo rfl .i64 .i64 n (by omega) (by omega)
  go_enter Try.func118, Try.ntmps118
  go_wp2_with fail
  clear hmk
  go_loopw [9] (fun i wr => ∃ k : Nat, k ≤ n ∧ i = .int .i64 k ∧ Below w.heap.size w wr ∧ Row 2 wr w.heap.size ((unitL n).take k ++ List.replicate (n - k) 0) ∧ wr.heap.size = w.heap.size + 1) (fun i _ => n - (intOf i).toNat)
  case atStart => exact ⟨0, Nat.zero_le _, rfl, (Below.refl _ _).alloc (Nat.le_refl _) _, by simpa using Row.made 2 w n, by simp⟩
  case round =>
    obtain ⟨k, hk, rfl, hbe, hrow, hsz⟩ := hrel
    have HB := hide hbe
    have HROW := hide hrow
    have HSZ := hide hsz
    clear hbe hrow hsz
    have HU : Hid ((unitL n).length = n) := hide (unitL_length n)
    by_cases hlt : k < n
    · have h2 := HROW.out.cell (i := k) (by have := HU.out; simp; omega)
      have h3 := HROW.out.frozen k
      have hltz : (k : Int) < n := by omega
      go_wp2_with fail
      go_roundw
      case rel =>
        have hst := HROW.out.set k ((unitL n).getD k 0)
        rw [fill_step (unitL n) n k HU.out hlt, unitL_getD n k hlt] at hst
        exact ⟨k + 1, by omega, by go_num, HB.out.setCell (p := ⟨w.heap.size, k, none⟩) (Nat.le_refl _) _, hst, by have := HSZ.out; simpa [World.setCell] using this⟩
      case measure => simp [intOf]; omega
    · have hkn : k = n := by omega
      subst hkn
      go_wp2_with fail
      go_ret
      have h := HROW.out
      have hz := HU.out
      rw [Nat.sub_self, List.replicate_zero, List.append_nil, List.take_of_length_le (by omega)] at h
      exact ⟨rfl, HB.out, h, HSZ.out⟩
end Go.Proofs.Ytaejgmdeiemhcaa
