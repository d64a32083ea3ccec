import Derived.Test.YtaejgmdeiemhcaaZa
import Derived.Deep.OwnRows
namespace Go.Proofs.Ytaejgmdeiemhcaa
open Go Go.RowKit
theorem made2_at (a b : Value) (n i : Nat) (h : i < n) : (madeCells #[a, b] n)[i]? = some (if i % 2 = 0 then a else b) := by
  unfold madeCells
  rw [Array.getElem?_map, Array.getElem?_range, if_pos h]
  simp only [Option.map_some]
  congr 1
  rcases Nat.mod_two_eq_zero_or_one i with e | e <;> simp [e]
theorem make2b (P : Program) (t e : TypeId) (a b : Value) (i : TypeInfo) (z : Value) (ht : P.underlying t = some (.slice e)) (hi : P.info? e = some i) (hz : i.zero = some z) (hs : i.size = 2) (hb : i.bytes = 48) (hc : z.cells = #[a, b]) (n : Nat) (hn : n ≤ 4096) (w : World) :
    (Instr.makeSlice t (.int .i64 (n : Int)) (.int .i64 (n : Int))).run P w = .ok (.slice (some ⟨w.heap.size, 0, none⟩) n n) (w.alloc (.cells (madeCells #[a, b] (n * 2)) e)) := by
  have hr := run_make (P := P) w t e i z ht hi hz .i64 .i64 n n (by omega) (Int.le_refl _) (by rw [hb]; omega) (by omega)
  simp only [Int.toNat_natCast, hs, hc] at hr
  exact hr
theorem made2_row (w : World) (t : TypeId) (a b : Value) (n : Nat) : (w.alloc (.cells (madeCells #[a, b] (n * 2)) t)).rowIs w.heap.size t (n * 2) (fun i => if i % 2 = 0 then a else b) :=
  ⟨_, heap_alloc_new _ _, size_madeCells _ _, fun i hi => made2_at a b _ i hi⟩
end Go.Proofs.Ytaejgmdeiemhcaa
