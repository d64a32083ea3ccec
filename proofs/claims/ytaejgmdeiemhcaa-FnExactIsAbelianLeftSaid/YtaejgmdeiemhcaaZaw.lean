import Derived.Test.YtaejgmdeiemhcaaZh
namespace Go.Proofs.Ytaejgmdeiemhcaa
open Go Go.RowKit
set_option maxHeartbeats 1000000
/-- As copyZ, with the capacities. -/
theorem copyZc (A : Option Addr) (n c : Nat) (f : List (List Int)) (B : Option Addr) (m d : Nat) (s : List (List Int)) (w : World) (hz : ZArg 1048576 w A n f B m s) :
    Calls Try.prog 17 #[.agg #[.slice A n c, .slice B m d]] w fun e w' => ∃ A' c' B' d', e = .returned (.agg #[.slice A' n c', .slice B' m d']) ∧ n ≤ c' ∧ m ≤ d' ∧ Below w.heap.size w w' ∧ ObjZ 37 2 w.heap.size w'.heap.size w' A' f B' s := by
  have HZ := hide hz
  clear hz
  go_enter Try.func17, Try.ntmps17
  go_wp2_with fail
  have HB0 := hide (((((Below.refl _ w).alloc (Nat.le_refl _) (Obj.cells #[Value.slice A n c, Value.slice B m d] 24)).alloc (by simp) (Obj.cells #[Value.slice none 0 0, Value.slice none 0 0] 28)).alloc (by simp; omega) (Obj.cells #[Value.slice none 0 0, Value.slice none 0 0] 28)))
  have HK0 := hide (Blk.new ((w.alloc (Obj.cells #[Value.slice A n c, Value.slice B m d] 24)).alloc (Obj.cells #[Value.slice none 0 0, Value.slice none 0 0] 28)) 28 [.slice none 0 0, .slice none 0 0])
  have HL0 := hide (((Blk.new w 24 [.slice A n c, .slice B m d]).alloc (Obj.cells #[Value.slice none 0 0, Value.slice none 0 0] 28)).alloc (Obj.cells #[Value.slice none 0 0, Value.slice none 0 0] 28))
  have HR0 := hide ((Blk.new (w.alloc (Obj.cells #[Value.slice A n c, Value.slice B m d] 24)) 28 [.slice none 0 0, .slice none 0 0]).alloc (Obj.cells #[Value.slice none 0 0, Value.slice none 0 0] 28))
  refine (copyT _ _ _ f _ HZ.out.sz.fl HZ.out.sz.nb HZ.out.sz.nr (HZ.out.fst.later HB0.out)).mono ?_
  rintro e w1 ⟨A1, rfl, hb1, ho1⟩
  have hs1 := hb1.size
  simp at hs1
  have HB1 := hide (HB0.out.trans (hb1.mono (by simp; omega)))
  have HO1 := hide ho1
  have HK1 := hide (HK0.out.later hb1)
  have HL1 := hide (HL0.out.later hb1)
  have HR1 := hide (HR0.out.later hb1)
  clear hb1 ho1 HK0 HL0 HR0
  simp at HK1 HR1
  have k0 := HK1.out.cell 0 _ rfl
  have k1 := HK1.out.frozen 0
  have k2 := HL1.out.cell 1 _ rfl
  go_wp2_with fail
  clear k0 k1 k2
  have HK2 := hide (HK1.out.set 0 (.slice A1 n n))
  have HB2 := hide (HB1.out.setCell (p := ⟨w.heap.size + 1 + 1, 0, none⟩) (by simp; omega) (Value.slice A1 n n))
  refine (copyT _ _ _ s _ HZ.out.sz.sl HZ.out.sz.mb HZ.out.sz.mr (HZ.out.snd.later HB2.out)).mono ?_
  rintro e w2 ⟨A2, rfl, hb2, ho2⟩
  have hs2 := hb2.size
  simp [World.setCell] at hs2
  have HB3 := hide (HB2.out.trans (hb2.mono HB2.out.size))
  have HO3 := hide (((HO1.out.set (p := ⟨w.heap.size + 1 + 1, 0, none⟩) (by simp) (Value.slice A1 n n)).later hb2))
  have HO2 := hide ho2
  have HK3 := hide (HK2.out.later hb2)
  have HR3 := hide ((HR1.out.far (p := ⟨w.heap.size + 1 + 1, 0, none⟩) (by simp) (Value.slice A1 n n)).later hb2)
  clear hb2 ho2 HK1 HK2
  have k0 := HK3.out.cell 0 _ rfl
  have k1 := HK3.out.cell 1 _ rfl
  have k2 := HK3.out.frozen 1
  have k3 := HR3.out.cell 0 _ rfl
  have k4 := HR3.out.cell 1 _ rfl
  have k5 := HR3.out.frozen 0
  have k6 := HR3.out.frozen 1
  go_wp2_with fail
  refine bp_gen fun wf hwf => ?_
  have HRF : Hid (Blk wf (w.heap.size + 1) 28 [.slice A1 n n, .slice A2 m m]) := hide (by rw [hwf]; exact ((HR3.out.far (by simp) _).set 0 _).set 1 _)
  have HBF : Hid (Below w.heap.size w wf) := hide (by rw [hwf]; exact ((HB3.out.setCell (by simp; omega) _).setCell (by simp) _).setCell (by simp) _)
  have HOF : Hid (Obj2 37 2 w.heap.size w1.heap.size wf A1 f) := hide (by rw [hwf]; exact ((((HO3.out.set (by simp) _).set (by simp) _).set (by simp) _).mono (by simp; omega) (Nat.le_refl _)))
  have HPF : Hid (Obj2 37 2 w1.heap.size wf.heap.size wf A2 s) := hide (by rw [hwf]; exact ((((HO2.out.set (by simp [World.setCell]; omega) _).set (by simp [World.setCell]; omega) _).set (by simp [World.setCell]; omega) _).mono (by simp [World.setCell]) (by simp [World.setCell])))
  have q0 := HRF.out.cell 0 _ rfl
  have q1 := HRF.out.cell 1 _ rfl
  have hsf : w1.heap.size ≤ wf.heap.size := by rw [hwf]; simp [World.setCell]; omega
  clear hwf k0 k1 k2 k3 k4 k5 k6
  exact bodyPost_ret (v := .agg #[.slice A1 n n, .slice A2 m m]) (by simp [results, Try.results17, go_sem, q0, q1]) rfl ⟨_, _, _, _, rfl, Nat.le_refl _, Nat.le_refl _, HBF.out, w1.heap.size, by omega, hsf, HOF.out, HPF.out⟩
end Go.Proofs.Ytaejgmdeiemhcaa
