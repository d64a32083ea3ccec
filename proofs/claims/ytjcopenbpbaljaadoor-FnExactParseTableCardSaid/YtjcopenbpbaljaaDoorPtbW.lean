import Derived.Test.YtjcopenbpbaljaaDoorPtbS
import Derived.Test.YtjcopenbpbaljaaDoorPtbI
namespace Go.Proofs.YtjcopenbpbaljaaDoor
open Go Go.RowKit
set_option maxHeartbeats 1000000

set_option maxRecDepth 100000 in
theorem parseTableS (s : ByteArray) (zs : List (List Int)) (code : Int) (k : Nat) (w : World) (hb : s.size ≤ 1048576) (hres : PtRes s zs code) (hk : zs.length = k) :
    Calls Tryd.prog 6 #[.string s] w (fun e w' => ∃ A' c', e = .returned (.tuple #[.slice A' k c', .int .i64 code]) ∧ Below w.heap.size w w' ∧ Obj2 44 2 w.heap.size w'.heap.size w' A' zs) := by
  have HRES := hide hres
  have HKK := hide hk
  clear hk
  rcases hres with ⟨hg, rfl, rfl⟩ | ⟨hg, rfl, rfl⟩
  · clear hg
    go_enter Tryd.func6, Tryd.ntmps6
    go_wp2_with fail
    refine (l01Parse_any s _ 0 true k _ hb HRES.out (by simp) HKK.out).mono ?_
    rintro e w1 ⟨A1, c1, rfl, hb1, ho1⟩
    have HB1 := hide hb1
    have HO1 := hide ho1
    clear hb1 ho1
    go_wp2_with fail
    exact bodyPost_ret (v := .tuple #[.slice A1 k c1, .int .i64 0]) (by simp [results, Tryd.results6, go_sem]) rfl ⟨_, _, rfl, HB1.out, HO1.out⟩
  · clear hg
    go_enter Tryd.func6, Tryd.ntmps6
    go_wp2_with fail
    refine (l01Parse_any s _ 6 false k _ hb HRES.out (by simp) HKK.out).mono ?_
    rintro e w1 ⟨A1, c1, rfl, hb1, ho1⟩
    have HB1 := hide hb1
    have hk0 : k = 0 := by rw [← HKK.out]; rfl
    subst hk0
    clear hb1 ho1
    go_wp2_with fail
    exact bodyPost_ret (v := .tuple #[.slice none 0 0, .int .i64 6]) (by simp [results, Tryd.results6, go_sem]) rfl ⟨none, 0, rfl, HB1.out, .inl ⟨rfl, rfl⟩⟩
end Go.Proofs.YtjcopenbpbaljaaDoor
