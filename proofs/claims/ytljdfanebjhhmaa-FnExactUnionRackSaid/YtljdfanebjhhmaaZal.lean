import Derived.Test.YtljdfanebjhhmaaZaf
import Derived.Test.YtljdfanebjhhmaaZu
namespace Go.Proofs.Ytljdfanebjhhmaa
open Go Go.RowKit
set_option maxHeartbeats 1000000

set_option maxRecDepth 100000 in
theorem rackOf_any (F : FuncId) (lb : Array Value) (n : Nat) (h : Nat → Nat → Int) (w : World) (eg : ∀ args w, (callFunc F args).run Try.prog w = .ok (.enter F args) w) (h0 : 1 ≤ n) (h12 : n ≤ 12) (hp : CellFn Try.prog F lb n h w) :
    Calls Try.prog 43 #[.int .i64 n, .func (.func F) #[] lb] w fun e w' => ∃ A c, e = .returned (.agg #[.slice A n c]) ∧ Below w.heap.size w w' ∧ Obj2 33 2 w.heap.size w'.heap.size w' A (grid n h) := by
  have HPF := hide hp
  clear hp
  go_enter Try.func43, Try.ntmps43
  go_wp2_with fail
  refine calls_gen fun w0 hw0 => ?_
  have HB0 : Hid (Below w.heap.size w w0) := hide (by rw [hw0]; exact (Below.refl _ _).alloc (Nat.le_refl _) _)
  have HK0 : Hid (Blk w0 w.heap.size 26 [.slice none 0 0]) := hide (by rw [hw0]; exact Blk.new _ _ _)
  clear hw0
  refine (tableOf_any F lb n h _ eg h0 h12 (HPF.out.later HB0.out)).mono ?_
  rintro e w2 ⟨A2, c2, rfl, hb2, ho2⟩
  have HB2 := hide (HB0.out.trans (hb2.mono HB0.out.size))
  have HK2 := hide (HK0.out.later hb2)
  have HO2 := hide ho2
  have hlow : w.heap.size < w0.heap.size := HK0.out.lt
  clear hb2 ho2
  have k2 := HK2.out.cell 0 _ rfl
  have k3 := HK2.out.frozen 0
  go_wp2_with fail
  refine bp_gen fun wf hwf => ?_
  obtain ⟨q0, hbf, hof⟩ := kend hwf HK2.out (Nat.le_refl _) HB2.out HO2.out (by omega) hlow (Nat.le_refl _)
  clear hwf k2 k3
  exact bodyPost_ret (v := .agg #[.slice A2 n c2]) (by simp [results, Try.results43, go_sem, q0]) rfl ⟨_, _, rfl, hbf, hof⟩
end Go.Proofs.Ytljdfanebjhhmaa
