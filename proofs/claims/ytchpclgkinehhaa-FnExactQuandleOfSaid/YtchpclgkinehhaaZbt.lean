import Derived.Test.YtchpclgkinehhaaZbm
import Derived.Test.YtchpclgkinehhaaZaa
import Derived.Test.YtchpclgkinehhaaZaw
import Derived.Test.YtchpclgkinehhaaZbj
import Derived.Test.YtchpclgkinehhaaZat
import Derived.Test.YtchpclgkinehhaaZbc
import Derived.Test.YtchpclgkinehhaaZab
namespace Go.Proofs.Ytchpclgkinehhaa
open Go Go.RowKit
set_option maxHeartbeats 2000000

/-- The function that does a row, then the list behind its pointer. -/
theorem qoC_any (pb : Nat) (C : Option Addr) (n c : Nat) (f : List (List Int)) (q : List Int) (w : World) (hn : f.length = n) (ht : Tbl f) (hq : q.length = n) (hp : Blk w pb 67 [.slice C n c]) (hrq : Rd w C q) :
    RowFn Try.prog 2 82 #[.pointer (some ⟨pb, 0, none⟩)] w n f (fun i => thenL (f.getD i []) q) := by
  intro W x B d hx hbe hrd
  show Calls Try.prog 82 #[.slice B n d, .pointer (some ⟨pb, 0, none⟩)] W _
  have h12 : n ≤ 12 := by rw [← hn]; exact ht.2.1
  have HL := hide (ht.row_len hn hx)
  have HTL : Hid ((thenL (f.getD x []) q).length = n) := hide ((thenL_length _ _).trans (ht.row_len hn hx))
  have HIN : Hid (∀ y ∈ f.getD x [], 0 ≤ y ∧ y < (n : Int)) := hide (fun y hy => by
    obtain ⟨i, hi, rfl⟩ := List.getElem_of_mem hy
    have h := (ht.2.2 x (by omega)).2 i (by have := HL.out; omega)
    rw [hn] at h
    have e9 : (f.getD x []).getD i 0 = (f.getD x [])[i] := by rw [List.getD_eq_getElem?_getD, List.getElem?_eq_getElem hi]; rfl
    rw [e9] at h
    exact h)
  have HQ := hide (hrq.later hbe)
  have HQL := hide hq
  have HRD := hide hrd
  have k0 := (hp.later hbe).cell 0 _ rfl
  clear hn ht hq hp hrq hrd hbe
  go_enter Try.func82, Try.ntmps82
  go_wp2_with fail
  refine (then_any _ _ _ _ _ _ (f.getD x []) q _ HL.out HQL.out (by omega) (by omega) HRD.out HQ.out HIN.out).mono ?_
  rintro e w1 ⟨rfl, hb1, hrow⟩
  have HB1 := hide hb1
  have HO := hide hrow.own
  clear hb1 hrow k0
  go_wp2_with fail
  go_ret
  exact ⟨some ⟨W.heap.size, 0, none⟩, n, by rw [HTL.out]; rfl, HB1.out, .inr ⟨_, rfl, Nat.le_refl _, HO.out⟩⟩

set_option maxRecDepth 100000 in
theorem qoI_any (A : Option Addr) (n c : Nat) (f : List (List Int)) (zs : List (List Int)) (code : Int) (k : Nat) (w : World) (hn : f.length = n) (hb : n ≤ 1048576) (hbs : ∀ i, i < f.length → (f.getD i []).length ≤ 1048576) (hr : Rd2 w A f) (hres : QoRes f zs code) (hk : zs.length = k) :
    Calls Try.prog 47 #[.agg #[.slice A n c]] w (fun e w' => ∃ A' c', e = .returned (.tuple #[.agg #[.slice A' k c'], .int .i64 code]) ∧ Below w.heap.size w w' ∧ Obj2 31 2 w.heap.size w'.heap.size w' A' zs) := by
  have HN := hide hn
  have HBS := hide hbs
  have HRD := hide hr
  have HB0 := hide (((Below.refl _ w).alloc (Nat.le_refl _) (Obj.cells #[Value.slice A n c] 27)).alloc (by simp) (Obj.cells #[.slice none 0 0] 27))
  have HK0 := hide ((Blk.new w 27 [.slice A n c]).alloc (Obj.cells #[.slice none 0 0] 27))
  have HR0 : Hid (Blk ((w.alloc (Obj.cells #[Value.slice A n c] 27)).alloc (Obj.cells #[.slice none 0 0] 27)) (w.heap.size + 1) 27 [.slice none 0 0]) := hide (by have h := Blk.new (w.alloc (Obj.cells #[Value.slice A n c] 27)) 27 [.slice none 0 0]; simpa using h)
  rcases hres with ⟨hp, rfl, rfl⟩ | ⟨hp, rfl, rfl⟩
  · have hk2 : k = n := by rw [← hk, qoL, rowsL_length, hn]
    subst hk2
    have HTB := hide hp.tbl
    have HPM := hide hp.prm
    have h12 : k ≤ 12 := by rw [← hn]; exact hp.tbl.2.1
    clear hk
    have HRK : Hid (RkRes f true) := hide (by unfold RkRes; simp [hp])
    have HP := hide hp
    clear hn hbs hr hp
    go_enter Try.func47, Try.ntmps47
    go_wp2_with fail
    refine (isRackI _ _ _ f true _ HN.out hb HBS.out (HRD.out.later HB0.out) HRK.out).mono ?_
    rintro e w1 ⟨rfl, hb1⟩
    have HB1 := hide (HB0.out.trans (hb1.mono HB0.out.size))
    have HK1 := hide (HK0.out.later hb1)
    have HR1 := hide (HR0.out.later hb1)
    clear hb1
    have HKL : Hid ((kinkL f).length = k) := hide ((kinkL_length f).trans HN.out)
    have HBKL : Hid ((backTo (kinkL f) f.length).length = k) := hide ((backTo_length _ _).trans HKL.out)
    have HFL : Hid (∀ i, i < k → (thenL (f.getD i []) (backTo (kinkL f) f.length)).length = k) := hide (fun i hi => by rw [thenL_length]; exact HTB.out.row_len HN.out hi)
    have k0 := HK1.out.cell 0 _ rfl
    go_wp2_with fail
    clear k0
    refine (kink_any _ _ _ f _ HN.out HTB.out (HRD.out.later HB1.out)).mono ?_
    rintro e w5 ⟨g, rfl, hb5, hg, ho⟩
    have HB5 := hide (HB1.out.trans (hb5.mono HB1.out.size))
    have HK5 := hide (HK1.out.later hb5)
    have HR5 := hide (HR1.out.later hb5)
    have HO5 := hide ho
    clear hb5 ho
    have k0 := HK5.out.cell 0 _ rfl
    go_wp2_with fail
    clear k0
    refine (inverse_any _ k _ (kinkL f) _ HKL.out (by omega) HO5.out.rd (kink_in HTB.out HN.out)).mono ?_
    rintro e w6 ⟨A6, c6, rfl, hb6, hres6⟩
    have HB6 := hide (HB5.out.trans (hb6.mono HB5.out.size))
    have HK6 := hide (HK5.out.later hb6)
    have HR6 := hide (HR5.out.later hb6)
    have HQ6 : Hid (Rd w6 A6 (backTo (kinkL f) f.length)) := hide (by rw [HN.out]; exact hres6.rd)
    have kc := fun o => (HK6.out.alloc o).cell 0 _ rfl
    clear hb6 hres6
    have k0 := HK6.out.cell 0 _ rfl
    go_wp2_with fail
    clear k0
    refine calls_gen fun w7 hw7 => ?_
    obtain ⟨pb, hpb⟩ : ∃ pb, w6.heap.size = pb := ⟨_, rfl⟩
    have hbx : Below w6.heap.size w6 w7 := by rw [hw7]; exact (Below.refl _ _).alloc (Nat.le_refl _) _
    have HP7 : Hid (Blk w7 pb 67 [.slice A6 k c6]) := hide (by rw [hw7, ← hpb]; exact Blk.new _ _ _)
    have HB7 := hide (HB6.out.trans (hbx.mono HB6.out.size))
    have HR7 := hide (HR6.out.later hbx)
    have HQ7 := hide (HQ6.out.later hbx)
    rw [hpb]
    clear hw7 hbx hpb
    refine (withRows_any 82 #[.pointer (some ⟨pb, 0, none⟩)] (fun i => thenL (f.getD i []) (backTo (kinkL f) f.length)) _ _ _ f _ (enters_of Try.func82 (by kernel_rfl) rfl) HN.out HTB.out (HRD.out.later HB7.out) HFL.out (qoC_any pb A6 k c6 f (backTo (kinkL f) f.length) _ HN.out HTB.out HBKL.out HP7.out HQ7.out)).mono ?_
    rintro e w2 ⟨A2, c2, rfl, hb2, ho2⟩
    have HB2 := hide (HB7.out.trans (hb2.mono HB7.out.size))
    have HR2 := hide (HR7.out.later hb2)
    have HO2 := hide ho2
    have hlow : w.heap.size + 1 < w7.heap.size := HR7.out.lt
    clear hb2 ho2
    have k2 := HR2.out.cell 0 _ rfl
    have k3 := HR2.out.frozen 0
    go_wp2_with fail
    refine bp_gen fun wf hwf => ?_
    obtain ⟨q0, hbf, hof⟩ := kend hwf HR2.out (by omega) HB2.out HO2.out (by omega) hlow (Nat.le_refl _)
    clear hwf k2 k3
    exact bodyPost_ret (v := .tuple #[.agg #[.slice A2 k c2], .int .i64 0]) (by simp [results, Try.results47, go_sem, q0]) rfl ⟨_, _, rfl, hbf, hof⟩
  · have hk0 : k = 0 := by rw [← hk]; rfl
    subst hk0
    clear hk
    have HRK : Hid (RkRes f false) := hide (by unfold RkRes; simp [hp])
    have HP := hide hp
    clear hn hbs hr hp
    go_enter Try.func47, Try.ntmps47
    go_wp2_with fail
    refine (isRackI _ _ _ f false _ HN.out hb HBS.out (HRD.out.later HB0.out) HRK.out).mono ?_
    rintro e w1 ⟨rfl, hb1⟩
    have HB1 := hide (HB0.out.trans (hb1.mono HB0.out.size))
    have HK1 := hide (HK0.out.later hb1)
    have HR1 := hide (HR0.out.later hb1)
    clear hb1
    have k2 := HR1.out.cell 0 _ rfl
    have k3 := HR1.out.frozen 0
    go_wp2_with fail
    refine bp_gen fun wf hwf => ?_
    have HRF : Blk wf (w.heap.size + 1) 27 [.slice none 0 0] := by rw [hwf]; first | exact HR1.out | exact HR1.out.set 0 _ | exact (HR1.out.set 0 _).set 1 _
    have hbf : Below w.heap.size w wf := by rw [hwf]; first | exact HB1.out | exact HB1.out.setCell (p := ⟨w.heap.size + 1, 0, none⟩) (by show w.heap.size ≤ w.heap.size + 1; omega) _ | exact (HB1.out.setCell (p := ⟨w.heap.size + 1, 0, none⟩) (by show w.heap.size ≤ w.heap.size + 1; omega) _).setCell (p := ⟨w.heap.size + 1, 1, none⟩) (by show w.heap.size ≤ w.heap.size + 1; omega) _
    have q0 := HRF.cell 0 _ rfl
    clear hwf k2 k3
    exact bodyPost_ret (v := .tuple #[.agg #[.slice none 0 0], .int .i64 1]) (by simp [results, Try.results47, go_sem, q0]) rfl ⟨_, _, rfl, hbf, .inl ⟨rfl, rfl⟩⟩

end Go.Proofs.Ytchpclgkinehhaa
