import Derived.Test.YthknnpkalhachaaZal
import Derived.Test.YthknnpkalhachaaZq
import Derived.Test.YthknnpkalhachaaZaq
import Derived.Test.YthknnpkalhachaaZt
import Derived.Test.YthknnpkalhachaaZa
import Derived.Deep.Cut
namespace Go.Proofs.Ythknnpkalhachaa
open Go Go.RowKit
set_option maxHeartbeats 2000000
set_option maxRecDepth 100000 in
theorem zcycle_any (A B : Option Addr) (n c m d : Nat) (f : List (List Int)) (w : World) (hn : f.length = n) (ht : Tbl f) (hp : AllPrm f) (hr : Rd2 w A f) :
    Calls Try.prog 71 #[.agg #[.slice A n c, .slice B m d]] w fun e w' => ∃ A' c', e = .returned (.agg #[.slice A' n c']) ∧ Below w.heap.size w w' ∧ Obj2 43 2 w.heap.size w'.heap.size w' A' (dualL f) := by
  have HN := hide hn
  have HTB := hide ht
  have HPM := hide hp
  have HRD := hide hr
  have HB0 := hide (((Below.refl _ w).alloc (Nat.le_refl _) (Obj.cells #[Value.slice A n c, Value.slice B m d] 27)).alloc (by simp) (Obj.cells #[.slice none 0 0] 49))
  have HK0 := hide ((Blk.new w 27 [.slice A n c, .slice B m d]).alloc (Obj.cells #[.slice none 0 0] 49))
  have HR0 : Hid (Blk ((w.alloc (Obj.cells #[Value.slice A n c, Value.slice B m d] 27)).alloc (Obj.cells #[.slice none 0 0] 49)) (w.heap.size + 1) 49 [.slice none 0 0]) := hide (by have h := Blk.new (w.alloc (Obj.cells #[Value.slice A n c, Value.slice B m d] 27)) 49 [.slice none 0 0]; simpa using h)
  clear hn ht hp hr
  go_enter Try.func71, Try.ntmps71
  go_upto_region 1 with fail
  refine wp_gen fun w1 hw1 => ?_
  have HB1 : Hid (Below w.heap.size w w1) := hide (by rw [hw1]; exact HB0.out)
  have HK1 : Hid (Blk w1 w.heap.size 27 [.slice A n c, .slice B m d]) := hide (by rw [hw1]; exact HK0.out)
  have HR1 : Hid (Blk w1 (w.heap.size + 1) 49 [.slice none 0 0]) := hide (by rw [hw1]; exact HR0.out)
  clear hw1
  have k0 := HK1.out.cell 0 _ rfl
  go_wp2_with fail
  refine (inverses_any A n c f _ HN.out HTB.out HPM.out (HRD.out.later HB1.out)).mono ?_
  rintro e w2 ⟨A2, c2, rfl, hb2, ho2⟩
  have HB2 := hide (HB1.out.trans (hb2.mono HB1.out.size))
  have HR2 := hide (HR1.out.later hb2)
  have HO2 := hide ho2
  have hl1 := HR1.out.lt
  have hs1 := HB1.out.size
  clear hb2 ho2 k0
  have k0 := HR2.out.cell 0 _ rfl
  have k1 := HR2.out.frozen 0
  go_wp2_with fail
  refine bp_gen fun wf hwf => ?_
  obtain ⟨q0, hbf, hof⟩ := kend hwf HR2.out (by omega) HB2.out HO2.out hs1 hl1 (Nat.le_refl _)
  clear hwf k0 k1
  exact bodyPost_ret (v := .agg #[.slice A2 n c2]) (by simp [results, Try.results71, go_sem, q0]) rfl ⟨_, _, rfl, hbf, hof⟩
end Go.Proofs.Ythknnpkalhachaa
