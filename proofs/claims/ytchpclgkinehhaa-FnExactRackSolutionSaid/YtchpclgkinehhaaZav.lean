import Derived.Test.YtchpclgkinehhaaProg
import Derived.Test.YtchpclgkinehhaaZb
import Derived.Test.YtchpclgkinehhaaZar
namespace Go.Proofs.Ytchpclgkinehhaa
open Go Go.RowKit
set_option maxHeartbeats 1000000

theorem own_any (b o : Nat) (n c : Nat) (xs : List Int) (w : World) (hn : xs.length = n) (hbn : n ≤ 1048576) (hb : b < w.heap.size) (hc : ∀ i, i < xs.length → w.cell? ⟨b, o + i, none⟩ = some (.int .i64 (xs.getD i 0))) :
    Calls Try.prog 110 #[.slice (some ⟨b, o, none⟩) n c] w fun e w' => ∃ v, e = .returned v ∧ Below w.heap.size w w' ∧ w'.ownsRow w.heap.size 2 1 v n (ints xs) := by
  have HN := hide hn
  have hcc := cl_cells (obj := .cells #[] 2) hc hb
  have HC := hide hcc
  clear hn hc hcc
  obtain ⟨i0, hi, hz0, hz1, hz2⟩ := info_parts clInfo
  go_enter Try.func110, Try.ntmps110
  go_wp2_with (at_builtin; refine wpList_append_own _ rfl _ _ 31 rfl w.heap.size 2 i0 (.int .i64 0) 1 8 Try.underlying31 hi hz0 hz1 hz2 rfl (by decide) _ _ _ rfl (cl_empty w 2) ⟨b, o, none⟩ n c (ints xs) rfl ?c1 HC.out ?c2 ?c3 ?c4 ?c5 ?_)
  case c1 => rw [ints_length]; have := HN.out; omega
  case c2 => intro u hu; simp [ints] at hu; obtain ⟨_, _, rfl⟩ := hu; rfl
  case c3 => unfold maxLen; omega
  case c4 => omega
  case c5 => simp
  intro v' w1 hown' hgrow _
  have HO' := hide hown'
  have HG := hide hgrow
  clear hown' hgrow
  go_wp2_with fail
  go_ret
  have h := HO'.out
  have hB : Below w.heap.size w w1 := ((Below.refl _ _).alloc (Nat.le_refl _) _).grown HG.out (by simp) (fun g hg => ((cl_empty w 2).lt g hg).1)
  exact ⟨v', rfl, hB, h⟩
end Go.Proofs.Ytchpclgkinehhaa
