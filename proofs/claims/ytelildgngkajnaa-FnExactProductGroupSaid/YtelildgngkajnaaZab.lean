import Derived.Test.YtelildgngkajnaaZf
import Derived.Test.YtelildgngkajnaaProg
import Derived.Test.YtelildgngkajnaaZa
import Derived.Deep.OwnRows
namespace Go.Proofs.Ytelildgngkajnaa
open Go Go.RowKit
set_option maxHeartbeats 1000000
/-- A list of structs of two cells. -/
def PrsAt (w : World) (g N : Nat) (p q : Nat → Value) : Prop := g < w.heap.size ∧ ∀ i, i < N → w.cell? ⟨g, i * 2, none⟩ = some (p i) ∧ w.cell? ⟨g, i * 2 + 1, none⟩ = some (q i)
theorem PrsAt.later {w w' : World} {g N : Nat} {p q : Nat → Value} (h : PrsAt w g N p q) (hb : Below w.heap.size w w') : PrsAt w' g N p q :=
  ⟨Nat.lt_of_lt_of_le h.1 hb.size, fun k hk => ⟨(hb.cell (p := ⟨g, k * 2, none⟩) h.1).trans (h.2 k hk).1, (hb.cell (p := ⟨g, k * 2 + 1, none⟩) h.1).trans (h.2 k hk).2⟩⟩
/-- A function value that multiplies these structs as the numbers of a table. -/
def MulFn (P : Program) (F : FuncId) (lb : Array Value) (N : Nat) (p q : Nat → Value) (h : Nat → Nat → Nat) (w : World) : Prop :=
  ∀ (W : World) (i k : Nat), i < N → k < N → Below w.heap.size w W → Calls P F (#[.agg #[p i, q i], .agg #[p k, q k]] ++ lb) W fun e w' => e = .returned (.agg #[p (h i k), q (h i k)]) ∧ Below W.heap.size W w'
theorem MulFn.later {P : Program} {F : FuncId} {lb : Array Value} {N : Nat} {p q : Nat → Value} {h : Nat → Nat → Nat} {w w' : World} (hm : MulFn P F lb N p q h w) (hb : Below w.heap.size w w') : MulFn P F lb N p q h w' := fun W i k hi hk hW => hm W i k hi hk (hb.trans (hW.mono hb.size))
end Go.Proofs.Ytelildgngkajnaa
namespace Go.Proofs.Ytelildgngkajnaa
open Go Go.RowKit
set_option maxHeartbeats 1000000
theorem rem_val (a n : Int) (h1 : 1 ≤ n) : (a.tmod n + n).tmod n = a % n := by
  have h0 : -n < a.tmod n ∧ a.tmod n < n := by
    have := Int.tmod_lt_of_pos a (by omega : 0 < n)
    have h2 := Int.lt_tmod_of_pos a (by omega : 0 < n)
    omega
  rw [Int.tmod_eq_emod_of_nonneg (by omega), Int.add_emod_right, Int.tmod_def, Int.sub_emod, Int.mul_emod_right, Int.sub_zero, Int.emod_emod]
theorem remainder_any (a : Int) (n : Nat) (w : World) (h1 : 1 ≤ n) (h2 : n ≤ 1000) (_ha : -1000 ≤ a) (_hb : a ≤ 1000) :
    Calls Try.prog 134 #[.int .i64 a, .int .i64 n] w fun e w' => e = .returned (.int .i64 (a % (n : Int))) ∧ Below w.heap.size w w' := by
  have hv := rem_val a n (by omega)
  have hq : -(n : Int) < a.tmod n ∧ a.tmod n < (n : Int) := by
    have := Int.tmod_lt_of_pos a (by omega : (0 : Int) < n)
    have h2 := Int.lt_tmod_of_pos a (by omega : (0 : Int) < n)
    omega
  have hm := Int.emod_nonneg a (by omega : (n : Int) ≠ 0)
  have hm2 := Int.emod_lt_of_pos a (by omega : (0 : Int) < n)
  obtain ⟨q, hqe⟩ : ∃ q, a.tmod (n : Int) = q := ⟨_, rfl⟩
  obtain ⟨r, hre⟩ : ∃ r, a % (n : Int) = r := ⟨_, rfl⟩
  rw [hqe, hre] at hv
  rw [hqe] at hq
  rw [hre] at hm hm2 ⊢
  have hn0 : ¬ (n : Int) = 0 := by omega
  have hn1 : ¬ (n : Int) = -1 := by omega
  clear hre
  go_enter Try.func134, Try.ntmps134
  go_wp2_with fail
  go_ret
  exact ⟨rfl, Below.refl _ _⟩
end Go.Proofs.Ytelildgngkajnaa
namespace Go.Proofs.Ytelildgngkajnaa
open Go Go.RowKit
set_option maxHeartbeats 1000000
theorem made2_at (a b : Value) (n i : Nat) (h : i < n) : (madeCells #[a, b] n)[i]? = some (if i % 2 = 0 then a else b) := by
  unfold madeCells
  rw [Array.getElem?_map, Array.getElem?_range, if_pos h]
  simp only [Option.map_some]
  congr 1
  rcases Nat.mod_two_eq_zero_or_one i with e | e <;> simp [e]
theorem make2 (P : Program) (t e : TypeId) (a b : Value) (i : TypeInfo) (z : Value) (ht : P.underlying t = some (.slice e)) (hi : P.info? e = some i) (hz : i.zero = some z) (hs : i.size = 2) (hb : i.bytes = 16) (hc : z.cells = #[a, b]) (n : Nat) (hn : n ≤ 4096) (w : World) :
    (Instr.makeSlice t (.int .i64 (n : Int)) (.int .i64 (n : Int))).run P w = .ok (.slice (some ⟨w.heap.size, 0, none⟩) n n) (w.alloc (.cells (madeCells #[a, b] (n * 2)) e)) := by
  have hr := run_make (P := P) w t e i z ht hi hz .i64 .i64 n n (by omega) (Int.le_refl _) (by rw [hb]; omega) (by omega)
  simp only [Int.toNat_natCast, hs, hc] at hr
  exact hr
theorem made2_row (w : World) (t : TypeId) (a b : Value) (n : Nat) : (w.alloc (.cells (madeCells #[a, b] (n * 2)) t)).rowIs w.heap.size t (n * 2) (fun i => if i % 2 = 0 then a else b) :=
  ⟨_, heap_alloc_new _ _, size_madeCells _ _, fun i hi => made2_at a b _ i hi⟩
end Go.Proofs.Ytelildgngkajnaa
