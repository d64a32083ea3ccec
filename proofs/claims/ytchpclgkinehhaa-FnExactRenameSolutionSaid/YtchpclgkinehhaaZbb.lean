import Derived.Test.YtchpclgkinehhaaZj
import Derived.Test.YtchpclgkinehhaaZh
import Derived.Test.YtchpclgkinehhaaZc
namespace Go.Proofs.Ytchpclgkinehhaa
open Go Go.RowKit
set_option maxHeartbeats 1000000

theorem copyZ (A : Option Addr) (n c : Nat) (f : List (List Int)) (B : Option Addr) (m d : Nat) (s : List (List Int)) (w : World) (hz : ZArg 1048576 w A n f B m s) :
    Calls Try.prog 50 #[.agg #[.slice A n c, .slice B m d]] w fun e w' => ∃ A' c' B' d', e = .returned (.agg #[.slice A' n c', .slice B' m d']) ∧ Below w.heap.size w w' ∧ ObjZ 31 2 w.heap.size w'.heap.size w' A' f B' s := by
  have HZ := hide hz
  clear hz
  go_enter Try.func50, Try.ntmps50
  go_wp2_with fail
  have HB0 := hide (((((Below.refl _ w).alloc (Nat.le_refl _) (Obj.cells #[Value.slice A n c, Value.slice B m d] 47)).alloc (by simp) (Obj.cells #[Value.slice none 0 0, Value.slice none 0 0] 40)).alloc (by simp; omega) (Obj.cells #[Value.slice none 0 0, Value.slice none 0 0] 40)))
  have HK0 := hide (Blk.new ((w.alloc (Obj.cells #[Value.slice A n c, Value.slice B m d] 47)).alloc (Obj.cells #[Value.slice none 0 0, Value.slice none 0 0] 40)) 40 [.slice none 0 0, .slice none 0 0])
  have HL0 := hide (((Blk.new w 47 [.slice A n c, .slice B m d]).alloc (Obj.cells #[Value.slice none 0 0, Value.slice none 0 0] 40)).alloc (Obj.cells #[Value.slice none 0 0, Value.slice none 0 0] 40))
  have HR0 := hide ((Blk.new (w.alloc (Obj.cells #[Value.slice A n c, Value.slice B m d] 47)) 40 [.slice none 0 0, .slice none 0 0]).alloc (Obj.cells #[Value.slice none 0 0, Value.slice none 0 0] 40))
  refine (copyT _ _ _ f _ HZ.out.sz.fl HZ.out.sz.nb HZ.out.sz.nr (HZ.out.fst.later HB0.out)).mono ?_
  rintro e w1 ⟨A1, rfl, hb1, ho1⟩
  have hs1 := hb1.size
  simp at hs1
  have HB1 := hide (HB0.out.trans (hb1.mono (by simp; omega)))
  have HO1 := hide ho1
  have HK1 := hide (HK0.out.later hb1)
  have HL1 := hide (HL0.out.later hb1)
  have HR1 := hide (HR0.out.later hb1)
  clear hb1 ho1 HK0 HL0 HR0
  simp at HK1 HR1
  have k0 := HK1.out.cell 0 _ rfl
  have k1 := HK1.out.frozen 0
  have k2 := HL1.out.cell 1 _ rfl
  go_wp2_with fail
  clear k0 k1 k2
  have HK2 := hide (HK1.out.set 0 (.slice A1 n n))
  have HB2 := hide (HB1.out.setCell (p := ⟨w.heap.size + 1 + 1, 0, none⟩) (by simp; omega) (Value.slice A1 n n))
  refine (copyT _ _ _ s _ HZ.out.sz.sl HZ.out.sz.mb HZ.out.sz.mr (HZ.out.snd.later HB2.out)).mono ?_
  rintro e w2 ⟨A2, rfl, hb2, ho2⟩
  have hs2 := hb2.size
  simp [World.setCell] at hs2
  have HB3 := hide (HB2.out.trans (hb2.mono HB2.out.size))
  have HO3 := hide (((HO1.out.set (p := ⟨w.heap.size + 1 + 1, 0, none⟩) (by simp) (Value.slice A1 n n)).later hb2))
  have HO2 := hide ho2
  have HK3 := hide (HK2.out.later hb2)
  have HR3 := hide ((HR1.out.far (p := ⟨w.heap.size + 1 + 1, 0, none⟩) (by simp) (Value.slice A1 n n)).later hb2)
  clear hb2 ho2 HK1 HK2
  have k0 := HK3.out.cell 0 _ rfl
  have k1 := HK3.out.cell 1 _ rfl
  have k2 := HK3.out.frozen 1
  have k3 := HR3.out.cell 0 _ rfl
  have k4 := HR3.out.cell 1 _ rfl
  have k5 := HR3.out.frozen 0
  have k6 := HR3.out.frozen 1
  go_wp2_with fail
  refine bp_gen fun wf hwf => ?_
  have HRF : Hid (Blk wf (w.heap.size + 1) 40 [.slice A1 n n, .slice A2 m m]) := hide (by rw [hwf]; exact ((HR3.out.far (by simp) _).set 0 _).set 1 _)
  have HBF : Hid (Below w.heap.size w wf) := hide (by rw [hwf]; exact ((HB3.out.setCell (by simp; omega) _).setCell (by simp) _).setCell (by simp) _)
  have HOF : Hid (Obj2 31 2 w.heap.size w1.heap.size wf A1 f) := hide (by rw [hwf]; exact ((((HO3.out.set (by simp) _).set (by simp) _).set (by simp) _).mono (by simp; omega) (Nat.le_refl _)))
  have HPF : Hid (Obj2 31 2 w1.heap.size wf.heap.size wf A2 s) := hide (by rw [hwf]; exact ((((HO2.out.set (by simp [World.setCell]; omega) _).set (by simp [World.setCell]; omega) _).set (by simp [World.setCell]; omega) _).mono (by simp [World.setCell]) (by simp [World.setCell])))
  have q0 := HRF.out.cell 0 _ rfl
  have q1 := HRF.out.cell 1 _ rfl
  have hsf : w1.heap.size ≤ wf.heap.size := by rw [hwf]; simp [World.setCell]; omega
  clear hwf k0 k1 k2 k3 k4 k5 k6
  exact bodyPost_ret (v := .agg #[.slice A1 n n, .slice A2 m m]) (by simp [results, Try.results50, go_sem, q0, q1]) rfl ⟨_, _, _, _, rfl, HBF.out, w1.heap.size, by omega, hsf, HOF.out, HPF.out⟩
end Go.Proofs.Ytchpclgkinehhaa
namespace Go.Proofs.Ytchpclgkinehhaa
open Go Go.RowKit
set_option maxHeartbeats 1000000

def SzZ (L : Int) (f : List (List Int)) (n : Nat) (s : List (List Int)) (m : Nat) (r : Int) : Prop := r = -1 ∨ (0 ≤ r ∧ r ≤ L ∧ ZSz 1048576 f n s m)
def SzZPost (L : Int) (f : List (List Int)) (n : Nat) (s : List (List Int)) (m : Nat) (w : World) (e : Ending) (w' : World) : Prop := ∃ r, SzZ L f n s m r ∧ e = .returned (.int .i64 r) ∧ Below w.heap.size w w'

theorem szZ_any (A : Option Addr) (n c : Nat) (f : List (List Int)) (B : Option Addr) (m d : Nat) (s : List (List Int)) (L : Int) (w : World) (hz : ZArg 9223372036854775807 w A n f B m s) (h0 : 0 ≤ L) (h1 : L ≤ 1048576) :
    Calls Try.prog 48 #[.agg #[.slice A n c, .slice B m d], .int .i64 L] w (SzZPost L f n s m w) := by
  have HZ := hide hz
  clear hz
  go_enter Try.func48, Try.ntmps48
  go_wp2_with fail
  have HB0 := hide ((Below.refl _ w).alloc (Nat.le_refl _) (Obj.cells #[Value.slice A n c, Value.slice B m d] 47))
  have HK0 := hide (Blk.new w 47 [.slice A n c, .slice B m d])
  refine (szz_any _ _ _ f L _ HZ.out.sz.fl HZ.out.sz.nb HZ.out.sz.nr h0 h1 (HZ.out.fst.later HB0.out)).mono ?_
  rintro e w1 ⟨l, hsz, rfl, rfl⟩
  have k1 := HK0.out.cell 1 _ rfl
  rcases hsz with rfl | ⟨p, q, u, y⟩
  · go_wp2_with fail
    go_ret
    exact ⟨-1, .inl rfl, rfl, HB0.out⟩
  · have U := hide u
    have Y := hide y
    clear u y
    go_wp2_with fail
    refine (szz_any _ _ _ s l _ HZ.out.sz.sl HZ.out.sz.mb HZ.out.sz.mr p (by omega) (HZ.out.snd.later HB0.out)).mono ?_
    rintro e w1 ⟨l2, hsz, rfl, rfl⟩
    rcases hsz with rfl | ⟨p2, q2, u2, y2⟩
    · go_wp2_with fail
      go_ret
      exact ⟨-1, .inl rfl, rfl, HB0.out⟩
    · have U2 := hide u2
      have Y2 := hide y2
      clear u2 y2
      go_wp2_with fail
      go_ret
      refine ⟨l2, .inr ⟨p2, by omega, ⟨HZ.out.sz.fl, ?_, fun i hi => ?_, HZ.out.sz.sl, ?_, fun i hi => ?_⟩⟩, rfl, HB0.out⟩
      · have := U.out; have := HZ.out.sz.fl; omega
      · have := Y.out i hi; omega
      · have := U2.out; have := HZ.out.sz.sl; omega
      · have := Y2.out i hi; omega
end Go.Proofs.Ytchpclgkinehhaa
namespace Go.Proofs.Ytchpclgkinehhaa
open Go Go.RowKit

/-- One row of a table renamed by p, written into what is there, after y values. -/
def renRow (rows : List (List Int)) (p : List Int) (x : Nat) : Nat → (Nat → Nat → Int) → Nat → Nat → Int
  | 0, f => f
  | y + 1, f => fun a b => if a = (p.getD x 0).toNat ∧ b = (p.getD y 0).toNat then p.getD ((rows.getD x []).getD y 0).toNat 0 else renRow rows p x y f a b
/-- .. and after x rows of n values. -/
def renTo (rows : List (List Int)) (p : List Int) (n : Nat) : Nat → (Nat → Nat → Int) → Nat → Nat → Int
  | 0, f => f
  | x + 1, f => renRow rows p x n (renTo rows p n x f)
/-- The table renamed. -/
def renL (rows : List (List Int)) (p : List Int) : List (List Int) := grid rows.length (renTo rows p rows.length rows.length fun _ _ => 0)
theorem renL_length (rows : List (List Int)) (p : List Int) : (renL rows p).length = rows.length := grid_length _ _

theorem elem_range {p : List Int} {n : Nat} (h : ∀ x ∈ p, 0 ≤ x ∧ x < (n : Int)) {i : Nat} (hi : i < p.length) : ∃ j : Nat, p.getD i 0 = (j : Int) ∧ j < n := by
  have h1 := h (p.getD i 0) (by simp [hi])
  obtain ⟨j, hj⟩ := Int.eq_ofNat_of_zero_le h1.1
  exact ⟨j, hj, by omega⟩

def RenRes (rows : List (List Int)) (p : List Int) (zs : List (List Int)) (code : Int) : Prop :=
  (Tbl rows ∧ Prm p ∧ rows.length = p.length ∧ zs = renL rows p ∧ code = 0) ∨ (¬ (Tbl rows ∧ Prm p ∧ rows.length = p.length) ∧ zs = [] ∧ code = 1)
theorem RenRes.ex (rows : List (List Int)) (p : List Int) : ∃ zs code, RenRes rows p zs code ∧ zs.length ≤ 1048576 ∧ ∀ i, i < zs.length → (zs.getD i []).length ≤ 1048576 := by
  by_cases h : Tbl rows ∧ Prm p ∧ rows.length = p.length
  · refine ⟨_, _, .inl ⟨h.1, h.2.1, h.2.2, rfl, rfl⟩, by rw [renL_length]; have := h.1.2.1; omega, fun i hi => ?_⟩
    rw [renL_length] at hi
    unfold renL
    rw [grid_row_length _ _ _ hi]
    have := h.1.2.1
    omega
  · exact ⟨_, _, .inr ⟨h, rfl, rfl⟩, by simp, fun i hi => by simp at hi⟩
end Go.Proofs.Ytchpclgkinehhaa
