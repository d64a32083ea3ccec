import Derived.Test.YthkhkehpmolfaaaZbb
import Derived.Test.YthkhkehpmolfaaaZbf
import Derived.Test.YthkhkehpmolfaaaZn
import Derived.Test.YthkhkehpmolfaaaZa
namespace Go.Proofs.Ythkhkehpmolfaaa
open Go Go.RowKit
set_option maxHeartbeats 2000000

set_option maxRecDepth 100000 in
theorem dlI_any (A : Option Addr) (n c : Nat) (f : List (List Int)) (zs : List (List Int)) (code : Int) (k : Nat) (w : World) (hn : f.length = n) (hb : n ≤ 1048576) (hbs : ∀ i, i < f.length → (f.getD i []).length ≤ 1048576) (hr : Rd2 w A f) (hres : LeastRes f zs code) (hk : zs.length = k) :
    Calls Try.prog 46 #[.agg #[.slice A n c]] w (fun e w' => ∃ A' c', e = .returned (.tuple #[.agg #[.slice A' k c'], .int .i64 code]) ∧ Below w.heap.size w w' ∧ Obj2 31 2 w.heap.size w'.heap.size w' A' zs) := by
  have HN := hide hn
  have HBS := hide hbs
  have HRD := hide hr
  have HB0 := hide (((Below.refl _ w).alloc (Nat.le_refl _) (Obj.cells #[Value.slice A n c] 27)).alloc (by simp) (Obj.cells #[.slice none 0 0] 27))
  have HK0 := hide ((Blk.new w 27 [.slice A n c]).alloc (Obj.cells #[.slice none 0 0] 27))
  have HR0 : Hid (Blk ((w.alloc (Obj.cells #[Value.slice A n c] 27)).alloc (Obj.cells #[.slice none 0 0] 27)) (w.heap.size + 1) 27 [.slice none 0 0]) := hide (by have h := Blk.new (w.alloc (Obj.cells #[Value.slice A n c] 27)) 27 [.slice none 0 0]; simpa using h)
  have HRES := hide hres
  have HKZ := hide hk
  clear hn hbs hr hres hk
  go_enter Try.func46, Try.ntmps46
  go_wp2_with fail
  refine (leastI_any _ _ _ f zs code k _ HN.out hb HBS.out (HRD.out.later HB0.out) HRES.out HKZ.out).mono ?_
  rintro e w2 ⟨A2, c2, rfl, hb2, ho2⟩
  have HB2 := hide (HB0.out.trans (hb2.mono HB0.out.size))
  have HR2 := hide (HR0.out.later hb2)
  have HO2 := hide ho2
  clear hb2 ho2
  have k2 := HR2.out.cell 0 _ rfl
  have k3 := HR2.out.frozen 0
  go_wp2_with fail
  refine bp_gen fun wf hwf => ?_
  obtain ⟨q0, hbf, hof⟩ := kend hwf HR2.out (by omega) HB2.out HO2.out (by simp; omega) (by simp) (Nat.le_refl _)
  clear hwf k2 k3
  exact bodyPost_ret (v := .tuple #[.agg #[.slice A2 k c2], .int .i64 code]) (by simp [results, Try.results46, go_sem, q0]) rfl ⟨_, _, rfl, hbf, hof⟩
set_option maxRecDepth 100000 in
theorem dlS_any (A : Option Addr) (n c : Nat) (f : List (List Int)) (zs : List (List Int)) (code : Int) (k : Nat) (w : World) (hn : f.length = n) (hb : n ≤ 1048576) (hbs : ∀ i, i < f.length → (f.getD i []).length ≤ 1048576) (hr : Rd2 w A f) (hres : LeastRes f zs code) (hk : zs.length = k) :
    Calls Try.prog 45 #[.agg #[.slice A n c]] w (fun e w' => ∃ A' c', e = .returned (.tuple #[.agg #[.slice A' k c'], .int .i64 code]) ∧ Below w.heap.size w w' ∧ Obj2 31 2 w.heap.size w'.heap.size w' A' zs) := by
  have HN := hide hn
  have HBS := hide hbs
  have HRD := hide hr
  have HB0 := hide (((Below.refl _ w).alloc (Nat.le_refl _) (Obj.cells #[Value.slice A n c] 27)).alloc (by simp) (Obj.cells #[.slice none 0 0] 27))
  have HK0 := hide ((Blk.new w 27 [.slice A n c]).alloc (Obj.cells #[.slice none 0 0] 27))
  have HR0 : Hid (Blk ((w.alloc (Obj.cells #[Value.slice A n c] 27)).alloc (Obj.cells #[.slice none 0 0] 27)) (w.heap.size + 1) 27 [.slice none 0 0]) := hide (by have h := Blk.new (w.alloc (Obj.cells #[Value.slice A n c] 27)) 27 [.slice none 0 0]; simpa using h)
  have HRES := hide hres
  have HKZ := hide hk
  clear hn hbs hr hres hk
  go_enter Try.func45, Try.ntmps45
  go_wp2_with fail
  refine (leastS_any _ _ _ f zs code k _ HN.out hb HBS.out (HRD.out.later HB0.out) HRES.out HKZ.out).mono ?_
  rintro e w2 ⟨A2, c2, rfl, hb2, ho2⟩
  have HB2 := hide (HB0.out.trans (hb2.mono HB0.out.size))
  have HR2 := hide (HR0.out.later hb2)
  have HO2 := hide ho2
  clear hb2 ho2
  have k2 := HR2.out.cell 0 _ rfl
  have k3 := HR2.out.frozen 0
  by_cases hz : code = 0
  · subst hz
    go_wp2_with fail
    refine bp_gen fun wf hwf => ?_
    obtain ⟨q0, hbf, hof⟩ := kend hwf HR2.out (by omega) HB2.out HO2.out (by simp; omega) (by simp) (Nat.le_refl _)
    clear hwf k2 k3
    exact bodyPost_ret (v := .tuple #[.agg #[.slice A2 k c2], .int .i64 0]) (by simp [results, Try.results45, go_sem, q0]) rfl ⟨_, _, rfl, hbf, hof⟩
  · obtain rfl : zs = [] := by
      rcases HRES.out with ⟨_, _, _, h⟩ | ⟨_, _, h, _⟩ | ⟨_, h, _⟩
      · exact absurd h hz
      · exact h
      · exact h
    have hk0 : k = 0 := by rw [← HKZ.out]; rfl
    subst hk0
    go_wp2_with fail
    refine bp_gen fun wf hwf => ?_
    have HRF : Blk wf (w.heap.size + 1) 27 [.slice none 0 0] := by rw [hwf]; first | exact HR2.out | exact HR2.out.set 0 _
    have hbf : Below w.heap.size w wf := by rw [hwf]; first | exact HB2.out | exact HB2.out.setCell (p := ⟨w.heap.size + 1, 0, none⟩) (by show w.heap.size ≤ w.heap.size + 1; omega) _
    have q0 := HRF.cell 0 _ rfl
    clear hwf k2 k3
    exact bodyPost_ret (v := .tuple #[.agg #[.slice none 0 0], .int .i64 code]) (by simp [results, Try.results45, go_sem, q0]) rfl ⟨_, _, rfl, hbf, .inl ⟨rfl, rfl⟩⟩
end Go.Proofs.Ythkhkehpmolfaaa
