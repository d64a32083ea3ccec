import Derived.Test.YtpnlmmilnglmkaaZg
import Derived.Test.YtpnlmmilnglmkaaZe
import Derived.Test.YtpnlmmilnglmkaaZc
import Derived.Test.YtpnlmmilnglmkaaZaf
namespace Go.Proofs.Ytpnlmmilnglmkaa
open Go Go.RowKit
set_option maxHeartbeats 1000000

theorem szK_any (A : Option Addr) (n c : Nat) (f : List (List Int)) (L : Int) (w : World) (hn : f.length = n) (hb : n ≤ 9223372036854775807) (hbs : ∀ i, i < f.length → (f.getD i []).length ≤ 9223372036854775807) (h0 : 0 ≤ L) (h1 : L ≤ 1048576) (hr : Rd2 w A f) :
    Calls Try.prog 29 #[.agg #[.slice A n c], .int .i64 L] w fun e w' => ∃ r, Szd L f r ∧ e = .returned (.int .i64 r) ∧ Below w.heap.size w w' := by
  have HN := hide hn
  have HBS := hide hbs
  clear hn hbs
  go_enter Try.func29, Try.ntmps29
  go_wp2_with fail
  have HB0 := hide ((Below.refl _ w).alloc (Nat.le_refl _) (Obj.cells #[Value.slice A n c] 44))
  refine (szz_any _ _ _ f L _ HN.out hb HBS.out h0 h1 (hr.later HB0.out)).mono ?_
  rintro e w1 ⟨l, hsz, rfl, rfl⟩
  rcases hsz with rfl | ⟨p, q, u, y⟩
  · go_wp2_with fail
    go_ret
    exact ⟨-1, .inl rfl, rfl, HB0.out⟩
  · have U := hide u
    have Y := hide y
    clear u y
    go_wp2_with fail
    go_ret
    exact ⟨l, .inr ⟨p, q, U.out, Y.out⟩, rfl, HB0.out⟩

theorem copyK (A : Option Addr) (n c : Nat) (f : List (List Int)) (w : World) (hn : f.length = n) (hb : n ≤ 1048576) (hbs : ∀ i, i < f.length → (f.getD i []).length ≤ 1048576) (hr : Rd2 w A f) :
    Calls Try.prog 31 #[.agg #[.slice A n c]] w fun e w' => ∃ A' c', e = .returned (.agg #[.slice A' n c']) ∧ Below w.heap.size w w' ∧ Obj2 37 2 w.heap.size w'.heap.size w' A' f := by
  have HN := hide hn
  have HBS := hide hbs
  clear hn hbs
  go_enter Try.func31, Try.ntmps31
  go_wp2_with fail
  have HB0 := hide (((((Below.refl _ w).alloc (Nat.le_refl _) (Obj.cells #[Value.slice A n c] 44)).alloc (by simp) (Obj.cells #[Value.slice none 0 0] 27)).alloc (by simp; omega) (Obj.cells #[Value.slice none 0 0] 27)))
  have HK0 := hide (Blk.new ((w.alloc (Obj.cells #[Value.slice A n c] 44)).alloc (Obj.cells #[Value.slice none 0 0] 27)) 27 [.slice none 0 0])
  have HR0 := hide ((Blk.new (w.alloc (Obj.cells #[Value.slice A n c] 44)) 27 [.slice none 0 0]).alloc (Obj.cells #[Value.slice none 0 0] 27))
  refine (copyT _ _ _ f _ HN.out hb HBS.out (hr.later HB0.out)).mono ?_
  rintro e w1 ⟨A1, rfl, hb1, ho1⟩
  have hs1 := hb1.size
  simp at hs1
  have HB1 := hide (HB0.out.trans (hb1.mono (by simp; omega)))
  have HO1 := hide ho1
  have HK1 := hide (HK0.out.later hb1)
  have HR1 := hide (HR0.out.later hb1)
  clear hb1 ho1 HK0 HR0
  simp at HK1 HR1
  have k0 := HK1.out.cell 0 _ rfl
  have k1 := HK1.out.frozen 0
  have k3 := HR1.out.cell 0 _ rfl
  have k5 := HR1.out.frozen 0
  go_wp2_with fail
  refine bp_gen fun wf hwf => ?_
  have HRF : Hid (Blk wf (w.heap.size + 1) 27 [.slice A1 n n]) := hide (by rw [hwf]; exact (HR1.out.far (by simp) _).set 0 _)
  have HBF : Hid (Below w.heap.size w wf) := hide (by rw [hwf]; exact (HB1.out.setCell (by simp; omega) _).setCell (by simp) _)
  have HOF : Hid (Obj2 37 2 w.heap.size wf.heap.size wf A1 f) := hide (by rw [hwf]; exact (((HO1.out.set (by simp) _).set (by simp) _).mono (by simp; omega) (by simp [World.setCell])))
  have q0 := HRF.out.cell 0 _ rfl
  clear hwf k0 k1 k3 k5
  exact bodyPost_ret (v := .agg #[.slice A1 n n]) (by simp [results, Try.results31, go_sem, q0]) rfl ⟨_, _, rfl, HBF.out, HOF.out⟩

end Go.Proofs.Ytpnlmmilnglmkaa
namespace Go.Proofs.Ytpnlmmilnglmkaa
open Go Go.RowKit

/-- One row of a table renamed by p, written into what is there, after y values. -/
def renRow (rows : List (List Int)) (p : List Int) (x : Nat) : Nat → (Nat → Nat → Int) → Nat → Nat → Int
  | 0, f => f
  | y + 1, f => fun a b => if a = (p.getD x 0).toNat ∧ b = (p.getD y 0).toNat then p.getD ((rows.getD x []).getD y 0).toNat 0 else renRow rows p x y f a b
/-- .. and after x rows of n values. -/
def renTo (rows : List (List Int)) (p : List Int) (n : Nat) : Nat → (Nat → Nat → Int) → Nat → Nat → Int
  | 0, f => f
  | x + 1, f => renRow rows p x n (renTo rows p n x f)
/-- The table renamed. -/
def renL (rows : List (List Int)) (p : List Int) : List (List Int) := grid rows.length (renTo rows p rows.length rows.length fun _ _ => 0)
theorem renL_length (rows : List (List Int)) (p : List Int) : (renL rows p).length = rows.length := grid_length _ _

theorem elem_range {p : List Int} {n : Nat} (h : ∀ x ∈ p, 0 ≤ x ∧ x < (n : Int)) {i : Nat} (hi : i < p.length) : ∃ j : Nat, p.getD i 0 = (j : Int) ∧ j < n := by
  have h1 := h (p.getD i 0) (by simp [hi])
  obtain ⟨j, hj⟩ := Int.eq_ofNat_of_zero_le h1.1
  exact ⟨j, hj, by omega⟩

def RenRes (rows : List (List Int)) (p : List Int) (zs : List (List Int)) (code : Int) : Prop :=
  (Tbl rows ∧ Prm p ∧ rows.length = p.length ∧ zs = renL rows p ∧ code = 0) ∨ (¬ (Tbl rows ∧ Prm p ∧ rows.length = p.length) ∧ zs = [] ∧ code = 1)
theorem RenRes.ex (rows : List (List Int)) (p : List Int) : ∃ zs code, RenRes rows p zs code ∧ zs.length ≤ 1048576 ∧ ∀ i, i < zs.length → (zs.getD i []).length ≤ 1048576 := by
  by_cases h : Tbl rows ∧ Prm p ∧ rows.length = p.length
  · refine ⟨_, _, .inl ⟨h.1, h.2.1, h.2.2, rfl, rfl⟩, by rw [renL_length]; have := h.1.2.1; omega, fun i hi => ?_⟩
    rw [renL_length] at hi
    unfold renL
    rw [grid_row_length _ _ _ hi]
    have := h.1.2.1
    omega
  · exact ⟨_, _, .inr ⟨h, rfl, rfl⟩, by simp, fun i hi => by simp at hi⟩
end Go.Proofs.Ytpnlmmilnglmkaa
namespace Go.Proofs.Ytpnlmmilnglmkaa
open Go Go.RowKit
set_option maxHeartbeats 1000000
set_option maxRecDepth 100000 in
theorem same2_any (A B : Option Addr) (n c d : Nat) (xs ys : List (List Int)) (r : Bool) (w : World) (hn : xs.length = n) (hm : ys.length = n) (hb : n ≤ 1048576) (hxs : ∀ i, i < xs.length → (xs.getD i []).length = n) (hys : ∀ i, i < ys.length → (ys.getD i []).length = n) (hx : Rd2 w A xs) (hy : Rd2 w B ys) (hr : r = true ↔ xs = ys) :
    Calls Try.prog 82 #[.slice A n c, .slice B n d] w fun e w' => e = .returned (.bool r) ∧ Quiet w w' := by
  have HN := hide hn
  have HM := hide hm
  have HR := hide hr
  have hne : ((n : Int) != (n : Int)) = false := by simp
  clear hn hm hr
  go_enter Try.func82, Try.ntmps82
  go_wp2_with fail
  go_loopw [5] (fun i wr => ∃ k : Nat, k ≤ n ∧ i = .int .i64 k ∧ Quiet w wr ∧ xs.take k = ys.take k) (fun i _ => n - (intOf i).toNat)
  case atStart => exact ⟨0, Nat.zero_le _, rfl, Quiet.refl w, by simp⟩
  case round =>
    obtain ⟨k, hk, rfl, hq, hall⟩ := hrel
    have HQ := hide hq
    have HALL := hide hall
    clear hq hall
    by_cases hlt : k < n
    · obtain ⟨b, o, rfl, _, hc⟩ := HQ.out.rd2 hx (by have := HN.out; omega)
      obtain ⟨b2, o2, rfl, _, hc2⟩ := HQ.out.rd2 hy (by have := HM.out; omega)
      obtain ⟨A1, c1, h1, r1⟩ := hc k (by have := HN.out; omega)
      obtain ⟨A2, c2, h2, r2⟩ := hc2 k (by have := HM.out; omega)
      have l1 := hxs k (by have := HN.out; omega)
      have l2 := hys k (by have := HM.out; omega)
      obtain ⟨x, hx⟩ : ∃ x, xs.getD k [] = x := ⟨_, rfl⟩
      obtain ⟨y, hy⟩ : ∃ y, ys.getD k [] = y := ⟨_, rfl⟩
      rw [hx] at h1 r1 l1
      rw [hy] at h2 r2 l2
      rw [l1] at h1
      rw [l2] at h2
      have HX := hide hx
      have HY := hide hy
      have L1 := hide l1
      have L2 := hide l2
      have R1 := hide r1
      have R2 := hide r2
      clear hx hy hc hc2 l1 l2 hxs hys r1 r2
      have hltz : (k : Int) < n := by omega
      by_cases hxy : x = y
      · subst hxy
        go_wp2_with fail
        go_quiet ((go_at_call 131; exact quiet_call (same_any _ _ _ _ _ _ x x true _ L1.out L1.out (by omega) (by omega) R1.out R2.out (by simp))))
        go_wp2_with fail
        go_roundw
        case rel =>
          refine ⟨k + 1, by omega, by go_num, HQ.out.drewN _, ?_⟩
          have e1 : k < xs.length := by have := HN.out; omega
          have e2 : k < ys.length := by have := HM.out; omega
          have q1 := HX.out
          have q2 := HY.out
          rw [List.getD_eq_getElem?_getD, List.getElem?_eq_getElem e1] at q1
          rw [List.getD_eq_getElem?_getD, List.getElem?_eq_getElem e2] at q2
          rw [List.take_succ_eq_append_getElem e1, List.take_succ_eq_append_getElem e2, HALL.out, show xs[k] = _ from q1, show ys[k] = _ from q2]
        case measure => simp [intOf]; omega
      · have HNE := hide hxy
        have hrf : r = false := by
          cases r
          · rfl
          · exact absurd (by rw [← HX.out, ← HY.out, HR.out.1 rfl]) hxy
        subst hrf
        clear hxy
        go_wp2_with fail
        go_quiet ((go_at_call 131; exact quiet_call (same_any _ _ _ _ _ _ x y false _ L1.out L2.out (by omega) (by omega) R1.out R2.out (by simp [HNE.out]))))
        go_wp2_with fail
        go_ret
        exact ⟨rfl, HQ.out.drewN _⟩
    · have hkn : k = n := by omega
      subst hkn
      have hrt : r = true := HR.out.2 (by
        have h := HALL.out
        rw [List.take_of_length_le (by have := HN.out; omega), List.take_of_length_le (by have := HM.out; omega)] at h
        exact h)
      subst hrt
      go_wp2_with fail
      go_ret
      exact ⟨rfl, HQ.out⟩
end Go.Proofs.Ytpnlmmilnglmkaa
