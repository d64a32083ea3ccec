import Derived.Test.YtpkfcjpppncbiaaZh
import Derived.Test.YtpkfcjpppncbiaaZf
import Derived.Test.YtpkfcjpppncbiaaZd
import Derived.Test.YtpkfcjpppncbiaaZj
namespace Go.Proofs.Ytpkfcjpppncbiaa
open Go Go.RowKit
set_option maxHeartbeats 1000000

theorem szK_any (A : Option Addr) (n c : Nat) (f : List (List Int)) (L : Int) (w : World) (hn : f.length = n) (hb : n ≤ 9223372036854775807) (hbs : ∀ i, i < f.length → (f.getD i []).length ≤ 9223372036854775807) (h0 : 0 ≤ L) (h1 : L ≤ 1048576) (hr : Rd2 w A f) :
    Calls Try.prog 6 #[.agg #[.slice A n c], .int .i64 L] w fun e w' => ∃ r, Szd L f r ∧ e = .returned (.int .i64 r) ∧ Below w.heap.size w w' := by
  have HN := hide hn
  have HBS := hide hbs
  clear hn hbs
  go_enter Try.func6, Try.ntmps6
  go_wp2_with fail
  have HB0 := hide ((Below.refl _ w).alloc (Nat.le_refl _) (Obj.cells #[Value.slice A n c] 24))
  refine (szz_any _ _ _ f L _ HN.out hb HBS.out h0 h1 (hr.later HB0.out)).mono ?_
  rintro e w1 ⟨l, hsz, rfl, rfl⟩
  rcases hsz with rfl | ⟨p, q, u, y⟩
  · go_wp2_with fail
    go_ret
    exact ⟨-1, .inl rfl, rfl, HB0.out⟩
  · have U := hide u
    have Y := hide y
    clear u y
    go_wp2_with fail
    go_ret
    exact ⟨l, .inr ⟨p, q, U.out, Y.out⟩, rfl, HB0.out⟩

theorem copyK (A : Option Addr) (n c : Nat) (f : List (List Int)) (w : World) (hn : f.length = n) (hb : n ≤ 1048576) (hbs : ∀ i, i < f.length → (f.getD i []).length ≤ 1048576) (hr : Rd2 w A f) :
    Calls Try.prog 8 #[.agg #[.slice A n c]] w fun e w' => ∃ A' c', e = .returned (.agg #[.slice A' n c']) ∧ Below w.heap.size w w' ∧ Obj2 56 2 w.heap.size w'.heap.size w' A' f := by
  have HN := hide hn
  have HBS := hide hbs
  clear hn hbs
  go_enter Try.func8, Try.ntmps8
  go_wp2_with fail
  have HB0 := hide (((((Below.refl _ w).alloc (Nat.le_refl _) (Obj.cells #[Value.slice A n c] 24)).alloc (by simp) (Obj.cells #[Value.slice none 0 0] 28)).alloc (by simp; omega) (Obj.cells #[Value.slice none 0 0] 28)))
  have HK0 := hide (Blk.new ((w.alloc (Obj.cells #[Value.slice A n c] 24)).alloc (Obj.cells #[Value.slice none 0 0] 28)) 28 [.slice none 0 0])
  have HR0 := hide ((Blk.new (w.alloc (Obj.cells #[Value.slice A n c] 24)) 28 [.slice none 0 0]).alloc (Obj.cells #[Value.slice none 0 0] 28))
  refine (copyT _ _ _ f _ HN.out hb HBS.out (hr.later HB0.out)).mono ?_
  rintro e w1 ⟨A1, rfl, hb1, ho1⟩
  have hs1 := hb1.size
  simp at hs1
  have HB1 := hide (HB0.out.trans (hb1.mono (by simp; omega)))
  have HO1 := hide ho1
  have HK1 := hide (HK0.out.later hb1)
  have HR1 := hide (HR0.out.later hb1)
  clear hb1 ho1 HK0 HR0
  simp at HK1 HR1
  have k0 := HK1.out.cell 0 _ rfl
  have k1 := HK1.out.frozen 0
  have k3 := HR1.out.cell 0 _ rfl
  have k5 := HR1.out.frozen 0
  go_wp2_with fail
  refine bp_gen fun wf hwf => ?_
  have HRF : Hid (Blk wf (w.heap.size + 1) 28 [.slice A1 n n]) := hide (by rw [hwf]; exact (HR1.out.far (by simp) _).set 0 _)
  have HBF : Hid (Below w.heap.size w wf) := hide (by rw [hwf]; exact (HB1.out.setCell (by simp; omega) _).setCell (by simp) _)
  have HOF : Hid (Obj2 56 2 w.heap.size wf.heap.size wf A1 f) := hide (by rw [hwf]; exact (((HO1.out.set (by simp) _).set (by simp) _).mono (by simp; omega) (by simp [World.setCell])))
  have q0 := HRF.out.cell 0 _ rfl
  clear hwf k0 k1 k3 k5
  exact bodyPost_ret (v := .agg #[.slice A1 n n]) (by simp [results, Try.results8, go_sem, q0]) rfl ⟨_, _, rfl, HBF.out, HOF.out⟩

end Go.Proofs.Ytpkfcjpppncbiaa
