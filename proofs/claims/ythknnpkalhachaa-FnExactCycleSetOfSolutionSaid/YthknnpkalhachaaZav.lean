import Derived.Test.YthknnpkalhachaaZat
import Derived.Test.YthknnpkalhachaaZap
import Derived.Test.YthknnpkalhachaaZan
import Derived.Test.YthknnpkalhachaaZw
import Derived.Test.YthknnpkalhachaaZaa
import Derived.Test.YthknnpkalhachaaZz
import Derived.Test.YthknnpkalhachaaZx
namespace Go.Proofs.Ythknnpkalhachaa
open Go Go.RowKit
set_option maxHeartbeats 2000000

set_option maxRecDepth 100000 in
theorem zcI_any (A : Option Addr) (n c : Nat) (f : List (List Int)) (B : Option Addr) (m d : Nat) (s : List (List Int))  (zs : List (List Int)) (code : Int) (k : Nat) (w : World) (hz : ZArg 1048576 w A n f B m s)  (hres : ZcRes f s zs code) (hk : zs.length = k) :
    Calls Try.prog 33 #[.agg #[.slice A n c, .slice B m d]] w (fun e w' => ∃ A' c', e = .returned (.tuple #[.agg #[.slice A' k c'], .int .i64 code]) ∧ Below w.heap.size w w' ∧ Obj2 43 2 w.heap.size w'.heap.size w' A' zs) := by
  have HZ := hide hz
  have HN := hide hz.sz.fl
  have HB0 := hide (((Below.refl _ w).alloc (Nat.le_refl _) (Obj.cells #[Value.slice A n c, Value.slice B m d] 27)).alloc (by simp) (Obj.cells #[.slice none 0 0] 49))
  have HK0 := hide ((Blk.new w 27 [.slice A n c, .slice B m d]).alloc (Obj.cells #[.slice none 0 0] 49))
  have HR0 : Hid (Blk ((w.alloc (Obj.cells #[Value.slice A n c, Value.slice B m d] 27)).alloc (Obj.cells #[.slice none 0 0] 49)) (w.heap.size + 1) 49 [.slice none 0 0]) := hide (by have h := Blk.new (w.alloc (Obj.cells #[Value.slice A n c, Value.slice B m d] 27)) 49 [.slice none 0 0]; simpa using h)

  by_cases hs : SolF f s
  · have HS := hide hs
    have HP : Hid (PMap f s) := hide hs.1
    obtain rfl := (hz.same hs.1).symm
    obtain ⟨r1, hr1⟩ : ∃ r : Bool, r = true ↔ NonF f s := bool_of _
    obtain ⟨r2, hr2⟩ : ∃ r : Bool, r = true ↔ InvF f s := bool_of _
    have HR1_ := hide hr1
    have HR2_ := hide hr2
    have HTF : Hid (IsRes f s true) := hide ⟨fun _ => HS.out, fun _ => rfl⟩
    have HRES : Hid (ZcRes f s zs code) := hide hres
    have HKZ := hide hk
    clear hz hres hk hs hr1 hr2
    go_enter Try.func33, Try.ntmps33
    have k0 := HK0.out.cell 0 _ rfl
    have k1 := HK0.out.cell 1 _ rfl
    go_wp2_with fail
    refine (isI_any _ _ _ f _ _ _ s true _ (HZ.out.later HB0.out) HTF.out).mono ?_
    rintro e w1 ⟨rfl, hb1⟩
    have HB1 := hide (HB0.out.trans (hb1.mono HB0.out.size))
    have HK1 := hide (HK0.out.later hb1)
    have HR1 := hide (HR0.out.later hb1)
    clear hb1 k0 k1
    have k0 := HK1.out.cell 0 _ rfl
    have k1 := HK1.out.cell 1 _ rfl
    go_wp2_with fail
    refine (nonZ_any A n c f B d s r1 _ (HZ.out.later HB1.out) HP.out HR1_.out).mono ?_
    rintro e w2 ⟨rfl, hb2⟩
    have HB2 := hide (HB1.out.trans (hb2.mono HB1.out.size))
    have HK2 := hide (HK1.out.later hb2)
    have HR2 := hide (HR1.out.later hb2)
    clear hb2 k0 k1
    rcases r1 with _ | _
    · skip
      obtain ⟨rfl, rfl⟩ : zs = [] ∧ code = 5 := by
        rcases HRES.out with ⟨_, h, _⟩ | ⟨_, _, h⟩ | ⟨h, _⟩
        · exact absurd (HR1_.out.2 h.1) (by simp)
        · exact h
        · exact absurd HS.out h
      obtain rfl : k = 0 := by rw [← HKZ.out]; rfl
      have k2 := HR2.out.cell 0 _ rfl
      have k3 := HR2.out.frozen 0
      go_wp2_with fail
      refine bp_gen fun wf hwf => ?_
      have HRF : Blk wf (w.heap.size + 1) 49 [.slice none 0 0] := by rw [hwf]; first | exact HR2.out | exact HR2.out.set 0 _
      have hbf : Below w.heap.size w wf := by rw [hwf]; first | exact HB2.out | exact HB2.out.setCell (p := ⟨w.heap.size + 1, 0, none⟩) (by show w.heap.size ≤ w.heap.size + 1; omega) _
      have q0 := HRF.cell 0 _ rfl
      clear hwf k2 k3
      exact bodyPost_ret (v := .tuple #[.agg #[.slice none 0 0], .int .i64 5]) (by simp [results, Try.results33, go_sem, q0]) rfl ⟨_, _, rfl, hbf, .inl ⟨rfl, rfl⟩⟩
    have k0 := HK2.out.cell 0 _ rfl
    have k1 := HK2.out.cell 1 _ rfl
    go_wp2_with fail
    refine (invZ_any A n c f B d s r2 _ (HZ.out.later HB2.out) HP.out HR2_.out).mono ?_
    rintro e w3 ⟨rfl, hb3⟩
    have HB3 := hide (HB2.out.trans (hb3.mono HB2.out.size))
    have HK3 := hide (HK2.out.later hb3)
    have HR3 := hide (HR2.out.later hb3)
    clear hb3 k0 k1
    rcases r2 with _ | _
    · skip
      obtain ⟨rfl, rfl⟩ : zs = [] ∧ code = 5 := by
        rcases HRES.out with ⟨_, h, _⟩ | ⟨_, _, h⟩ | ⟨h, _⟩
        · exact absurd (HR2_.out.2 h.2) (by simp)
        · exact h
        · exact absurd HS.out h
      obtain rfl : k = 0 := by rw [← HKZ.out]; rfl
      have k2 := HR3.out.cell 0 _ rfl
      have k3 := HR3.out.frozen 0
      go_wp2_with fail
      refine bp_gen fun wf hwf => ?_
      have HRF : Blk wf (w.heap.size + 1) 49 [.slice none 0 0] := by rw [hwf]; first | exact HR3.out | exact HR3.out.set 0 _
      have hbf : Below w.heap.size w wf := by rw [hwf]; first | exact HB3.out | exact HB3.out.setCell (p := ⟨w.heap.size + 1, 0, none⟩) (by show w.heap.size ≤ w.heap.size + 1; omega) _
      have q0 := HRF.cell 0 _ rfl
      clear hwf k2 k3
      exact bodyPost_ret (v := .tuple #[.agg #[.slice none 0 0], .int .i64 5]) (by simp [results, Try.results33, go_sem, q0]) rfl ⟨_, _, rfl, hbf, .inl ⟨rfl, rfl⟩⟩
    obtain ⟨rfl, rfl⟩ : zs = dualL f ∧ code = 0 := by
      rcases HRES.out with ⟨_, _, h⟩ | ⟨_, h, _⟩ | ⟨h, _⟩
      · exact h
      · exact absurd ⟨HR1_.out.1 (by simp), HR2_.out.1 (by simp)⟩ h
      · exact absurd HS.out h
    obtain rfl : k = n := by rw [← HKZ.out, dualL, rowsL_length]; exact HN.out
    have k0 := HK3.out.cell 0 _ rfl
    have k1 := HK3.out.cell 1 _ rfl
    go_wp2_with fail
    refine (zcycle_any _ _ _ _ _ _ f _ HN.out HP.out.1 (HR1_.out.1 (by simp)).1 (HZ.out.later HB3.out).fst).mono ?_
    rintro e w4 ⟨A4, c4, rfl, hb4, ho4⟩
    have HB4 := hide (HB3.out.trans (hb4.mono HB3.out.size))
    have HK4 := hide (HK3.out.later hb4)
    have HR4 := hide (HR3.out.later hb4)
    have HO4 := hide ho4
    have HLO := hide HB3.out.size
    have HLT := hide HR3.out.lt
    clear ho4
    clear hb4 k0 k1
    have k2 := HR4.out.cell 0 _ rfl
    have k3 := HR4.out.frozen 0
    go_wp2_with fail
    refine bp_gen fun wf hwf => ?_
    obtain ⟨q0, hbf, hof⟩ := kend hwf HR4.out (by omega) HB4.out HO4.out HLO.out HLT.out (Nat.le_refl _)
    clear hwf k2 k3
    exact bodyPost_ret (v := .tuple #[.agg #[.slice A4 k c4], .int .i64 0]) (by simp [results, Try.results33, go_sem, q0]) rfl ⟨_, _, rfl, hbf, hof⟩
  · obtain ⟨rfl, rfl⟩ : zs = [] ∧ code = 1 := by
      rcases hres with ⟨h, _⟩ | ⟨h, _⟩ | ⟨_, h⟩
      · exact absurd h hs
      · exact absurd h hs
      · exact h
    obtain rfl : k = 0 := by rw [← hk]; rfl
    have HTF : Hid (IsRes f s false) := hide ⟨fun h => (by cases h), fun h => absurd h hs⟩
    clear hz hres hk hs
    go_enter Try.func33, Try.ntmps33
    have k0 := HK0.out.cell 0 _ rfl
    have k1 := HK0.out.cell 1 _ rfl
    go_wp2_with fail
    refine (isI_any _ _ _ f _ _ _ s false _ (HZ.out.later HB0.out) HTF.out).mono ?_
    rintro e w1 ⟨rfl, hb1⟩
    have HB1 := hide (HB0.out.trans (hb1.mono HB0.out.size))
    have HK1 := hide (HK0.out.later hb1)
    have HR1 := hide (HR0.out.later hb1)
    clear hb1 k0 k1
    have k2 := HR1.out.cell 0 _ rfl
    have k3 := HR1.out.frozen 0
    go_wp2_with fail
    refine bp_gen fun wf hwf => ?_
    have HRF : Blk wf (w.heap.size + 1) 49 [.slice none 0 0] := by rw [hwf]; first | exact HR1.out | exact HR1.out.set 0 _
    have hbf : Below w.heap.size w wf := by rw [hwf]; first | exact HB1.out | exact HB1.out.setCell (p := ⟨w.heap.size + 1, 0, none⟩) (by show w.heap.size ≤ w.heap.size + 1; omega) _
    have q0 := HRF.cell 0 _ rfl
    clear hwf k2 k3
    exact bodyPost_ret (v := .tuple #[.agg #[.slice none 0 0], .int .i64 1]) (by simp [results, Try.results33, go_sem, q0]) rfl ⟨_, _, rfl, hbf, .inl ⟨rfl, rfl⟩⟩

set_option maxRecDepth 100000 in
theorem zcS_any (A : Option Addr) (n c : Nat) (f : List (List Int)) (B : Option Addr) (m d : Nat) (s : List (List Int))  (zs : List (List Int)) (code : Int) (k : Nat) (w : World) (hz : ZArg 1048576 w A n f B m s)  (hres : ZcRes f s zs code) (hk : zs.length = k) :
    Calls Try.prog 32 #[.agg #[.slice A n c, .slice B m d]] w (fun e w' => ∃ A' c', e = .returned (.tuple #[.agg #[.slice A' k c'], .int .i64 code]) ∧ Below w.heap.size w w' ∧ Obj2 43 2 w.heap.size w'.heap.size w' A' zs) := by
  have HZ := hide hz
  have HN := hide hz.sz.fl
  have HB0 := hide (((Below.refl _ w).alloc (Nat.le_refl _) (Obj.cells #[Value.slice A n c, Value.slice B m d] 27)).alloc (by simp) (Obj.cells #[.slice none 0 0] 49))
  have HK0 := hide ((Blk.new w 27 [.slice A n c, .slice B m d]).alloc (Obj.cells #[.slice none 0 0] 49))
  have HR0 : Hid (Blk ((w.alloc (Obj.cells #[Value.slice A n c, Value.slice B m d] 27)).alloc (Obj.cells #[.slice none 0 0] 49)) (w.heap.size + 1) 49 [.slice none 0 0]) := hide (by have h := Blk.new (w.alloc (Obj.cells #[Value.slice A n c, Value.slice B m d] 27)) 49 [.slice none 0 0]; simpa using h)

  by_cases hs : SolF f s
  · have HS := hide hs
    have HP : Hid (PMap f s) := hide hs.1
    obtain ⟨r1, hr1⟩ : ∃ r : Bool, r = true ↔ NonF f s := bool_of _
    obtain ⟨r2, hr2⟩ : ∃ r : Bool, r = true ↔ InvF f s := bool_of _
    have HR1_ := hide hr1
    have HR2_ := hide hr2
    have HTF : Hid (IsRes f s true) := hide ⟨fun _ => HS.out, fun _ => rfl⟩
    have HRES : Hid (ZcRes f s zs code) := hide hres
    have HKZ := hide hk
    clear hz hres hk hs hr1 hr2
    go_enter Try.func32, Try.ntmps32
    have k0 := HK0.out.cell 0 _ rfl
    have k1 := HK0.out.cell 1 _ rfl
    go_wp2_with fail
    refine (isS_any _ _ _ f _ _ _ s true _ (HZ.out.later HB0.out) HTF.out).mono ?_
    rintro e w1 ⟨rfl, hb1⟩
    have HB1 := hide (HB0.out.trans (hb1.mono HB0.out.size))
    have HK1 := hide (HK0.out.later hb1)
    have HR1 := hide (HR0.out.later hb1)
    clear hb1 k0 k1
    have k0 := HK1.out.cell 0 _ rfl
    have k1 := HK1.out.cell 1 _ rfl
    go_wp2_with fail
    refine (goodS_any _ _ _ f _ _ _ s r1 _ (HZ.out.later HB1.out) HP.out HR1_.out).mono ?_
    rintro e w2 ⟨rfl, hb2⟩
    have HB2 := hide (HB1.out.trans (hb2.mono HB1.out.size))
    have HK2 := hide (HK1.out.later hb2)
    have HR2 := hide (HR1.out.later hb2)
    clear hb2 k0 k1
    rcases r1 with _ | _
    · skip
      obtain ⟨rfl, rfl⟩ : zs = [] ∧ code = 5 := by
        rcases HRES.out with ⟨_, h, _⟩ | ⟨_, _, h⟩ | ⟨h, _⟩
        · exact absurd (HR1_.out.2 h.1) (by simp)
        · exact h
        · exact absurd HS.out h
      obtain rfl : k = 0 := by rw [← HKZ.out]; rfl
      have k2 := HR2.out.cell 0 _ rfl
      have k3 := HR2.out.frozen 0
      go_wp2_with fail
      refine bp_gen fun wf hwf => ?_
      have HRF : Blk wf (w.heap.size + 1) 49 [.slice none 0 0] := by rw [hwf]; first | exact HR2.out | exact HR2.out.set 0 _
      have hbf : Below w.heap.size w wf := by rw [hwf]; first | exact HB2.out | exact HB2.out.setCell (p := ⟨w.heap.size + 1, 0, none⟩) (by show w.heap.size ≤ w.heap.size + 1; omega) _
      have q0 := HRF.cell 0 _ rfl
      clear hwf k2 k3
      exact bodyPost_ret (v := .tuple #[.agg #[.slice none 0 0], .int .i64 5]) (by simp [results, Try.results32, go_sem, q0]) rfl ⟨_, _, rfl, hbf, .inl ⟨rfl, rfl⟩⟩
    have k0 := HK2.out.cell 0 _ rfl
    have k1 := HK2.out.cell 1 _ rfl
    go_wp2_with fail
    refine (twiceS_any _ _ _ f _ _ _ s r2 _ (HZ.out.later HB2.out) HP.out HR2_.out).mono ?_
    rintro e w3 ⟨rfl, hb3⟩
    have HB3 := hide (HB2.out.trans (hb3.mono HB2.out.size))
    have HK3 := hide (HK2.out.later hb3)
    have HR3 := hide (HR2.out.later hb3)
    clear hb3 k0 k1
    rcases r2 with _ | _
    · skip
      obtain ⟨rfl, rfl⟩ : zs = [] ∧ code = 5 := by
        rcases HRES.out with ⟨_, h, _⟩ | ⟨_, _, h⟩ | ⟨h, _⟩
        · exact absurd (HR2_.out.2 h.2) (by simp)
        · exact h
        · exact absurd HS.out h
      obtain rfl : k = 0 := by rw [← HKZ.out]; rfl
      have k2 := HR3.out.cell 0 _ rfl
      have k3 := HR3.out.frozen 0
      go_wp2_with fail
      refine bp_gen fun wf hwf => ?_
      have HRF : Blk wf (w.heap.size + 1) 49 [.slice none 0 0] := by rw [hwf]; first | exact HR3.out | exact HR3.out.set 0 _
      have hbf : Below w.heap.size w wf := by rw [hwf]; first | exact HB3.out | exact HB3.out.setCell (p := ⟨w.heap.size + 1, 0, none⟩) (by show w.heap.size ≤ w.heap.size + 1; omega) _
      have q0 := HRF.cell 0 _ rfl
      clear hwf k2 k3
      exact bodyPost_ret (v := .tuple #[.agg #[.slice none 0 0], .int .i64 5]) (by simp [results, Try.results32, go_sem, q0]) rfl ⟨_, _, rfl, hbf, .inl ⟨rfl, rfl⟩⟩
    obtain ⟨rfl, rfl⟩ : zs = dualL f ∧ code = 0 := by
      rcases HRES.out with ⟨_, _, h⟩ | ⟨_, h, _⟩ | ⟨h, _⟩
      · exact h
      · exact absurd ⟨HR1_.out.1 (by simp), HR2_.out.1 (by simp)⟩ h
      · exact absurd HS.out h
    obtain rfl : k = n := by rw [← HKZ.out, dualL, rowsL_length]; exact HN.out
    have k0 := HK3.out.cell 0 _ rfl
    have k1 := HK3.out.cell 1 _ rfl
    go_wp2_with fail
    refine (cycleS_any _ _ _ _ _ _ f _ HN.out HP.out.1 (HR1_.out.1 (by simp)).1 (HZ.out.later HB3.out).fst).mono ?_
    rintro e w4 ⟨A4, c4, rfl, hb4, ho4⟩
    have HB4 := hide (HB3.out.trans (hb4.mono HB3.out.size))
    have HK4 := hide (HK3.out.later hb4)
    have HR4 := hide (HR3.out.later hb4)
    have HO4 := hide ho4
    have HLO := hide HB3.out.size
    have HLT := hide HR3.out.lt
    clear ho4
    clear hb4 k0 k1
    have k2 := HR4.out.cell 0 _ rfl
    have k3 := HR4.out.frozen 0
    go_wp2_with fail
    refine bp_gen fun wf hwf => ?_
    obtain ⟨q0, hbf, hof⟩ := kend hwf HR4.out (by omega) HB4.out HO4.out HLO.out HLT.out (Nat.le_refl _)
    clear hwf k2 k3
    exact bodyPost_ret (v := .tuple #[.agg #[.slice A4 k c4], .int .i64 0]) (by simp [results, Try.results32, go_sem, q0]) rfl ⟨_, _, rfl, hbf, hof⟩
  · obtain ⟨rfl, rfl⟩ : zs = [] ∧ code = 1 := by
      rcases hres with ⟨h, _⟩ | ⟨h, _⟩ | ⟨_, h⟩
      · exact absurd h hs
      · exact absurd h hs
      · exact h
    obtain rfl : k = 0 := by rw [← hk]; rfl
    have HTF : Hid (IsRes f s false) := hide ⟨fun h => (by cases h), fun h => absurd h hs⟩
    clear hz hres hk hs
    go_enter Try.func32, Try.ntmps32
    have k0 := HK0.out.cell 0 _ rfl
    have k1 := HK0.out.cell 1 _ rfl
    go_wp2_with fail
    refine (isS_any _ _ _ f _ _ _ s false _ (HZ.out.later HB0.out) HTF.out).mono ?_
    rintro e w1 ⟨rfl, hb1⟩
    have HB1 := hide (HB0.out.trans (hb1.mono HB0.out.size))
    have HK1 := hide (HK0.out.later hb1)
    have HR1 := hide (HR0.out.later hb1)
    clear hb1 k0 k1
    have k2 := HR1.out.cell 0 _ rfl
    have k3 := HR1.out.frozen 0
    go_wp2_with fail
    refine bp_gen fun wf hwf => ?_
    have HRF : Blk wf (w.heap.size + 1) 49 [.slice none 0 0] := by rw [hwf]; first | exact HR1.out | exact HR1.out.set 0 _
    have hbf : Below w.heap.size w wf := by rw [hwf]; first | exact HB1.out | exact HB1.out.setCell (p := ⟨w.heap.size + 1, 0, none⟩) (by show w.heap.size ≤ w.heap.size + 1; omega) _
    have q0 := HRF.cell 0 _ rfl
    clear hwf k2 k3
    exact bodyPost_ret (v := .tuple #[.agg #[.slice none 0 0], .int .i64 1]) (by simp [results, Try.results32, go_sem, q0]) rfl ⟨_, _, rfl, hbf, .inl ⟨rfl, rfl⟩⟩

end Go.Proofs.Ythknnpkalhachaa
