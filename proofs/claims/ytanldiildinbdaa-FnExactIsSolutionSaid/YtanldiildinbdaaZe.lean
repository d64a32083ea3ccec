import Derived.Test.YtanldiildinbdaaProg
import Derived.Test.YtanldiildinbdaaZa
import Derived.ChangeKeysEq
namespace Go.Proofs.Ytanldiildinbdaa
open Go Go.RowKit
theorem e3Info : (Try.prog.info? 2).map (fun i => (i.zero, i.size, i.bytes)) = some (some (.int .i64 0), 1, 8) := by kernel_rfl
theorem eq3_run (a b c a' b' c' : Int) (w : World) : (Op.equalIn 10000 49 (.agg #[.int .i64 a, .int .i64 b, .int .i64 c]) (.agg #[.int .i64 a', .int .i64 b', .int .i64 c'])).run Try.prog w = .ok (decide (a = a' ∧ b = b' ∧ c = c')) w := by
  obtain ⟨i0, hi, hz0, hz1, hz2⟩ := info_parts e3Info
  have hc : Try.prog.cellsOf 2 = 1 := by kernel_rfl
  have hp : Try.prog.plainKey 2 = true := by kernel_rfl
  have hu := Try.underlying2
  rw [run_equalIn_array _ 9999 _ _ Try.underlying49 hi, hc]
  have h3 : List.range 3 = [0, 1, 2] := rfl
  rw [h3]
  have pa : ∀ (x y z : Int) (i : Nat) (v : Value), (#[Value.int .i64 x, .int .i64 y, .int .i64 z])[i]? = some v → (part 2 #[Value.int .i64 x, .int .i64 y, .int .i64 z] i).run Try.prog w = .ok v w := fun x y z i v h => run_part_plain w hp h
  have e : ∀ x y : Int, (Op.equalIn 9999 2 (.int .i64 x) (.int .i64 y)).run Try.prog w = .ok (x == y) w := fun x y => run_equalIn_int w 9998 _ .i64 .i64 x y hu
  have p0 := fun x y z => pa x y z 0 _ rfl
  have p1 := fun x y z => pa x y z 1 _ rfl
  have p2 := fun x y z => pa x y z 2 _ rfl
  have ie : ∀ x y : Int, (x == y) = decide (x = y) := fun x y => rfl
  by_cases h1 : a = a'
  · by_cases h2 : b = b'
    · by_cases h3 : c = c'
      · simp [Op.eqItems, Sem.run_bind, h1, h2, h3, p0, p1, p2, e]
      · simp [Op.eqItems, Sem.run_bind, h1, h2, h3, p0, p1, p2, e, ie]
    · simp [Op.eqItems, Sem.run_bind, h1, h2, p0, p1, e, ie]
  · simp [Op.eqItems, Sem.run_bind, h1, p0, e, ie]
end Go.Proofs.Ytanldiildinbdaa
