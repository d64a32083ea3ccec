import Derived.Test.YtchpclgkinehhaaZr
import Derived.Test.YtchpclgkinehhaaZt
import Derived.Test.YtchpclgkinehhaaZe
import Derived.Test.YtchpclgkinehhaaZl
import Derived.Test.YtchpclgkinehhaaZs
namespace Go.Proofs.Ytchpclgkinehhaa
open Go Go.RowKit
def QuF (f : List (List Int)) : Prop := ∀ x, x < f.length → ap f x x = x
def QuRes (f : List (List Int)) : Bool → Int → Prop := BRes (Rck f) (QuF f)
theorem QuRes.ex (f : List (List Int)) : ∃ r code, QuRes f r code := BRes.ex _ _
theorem kink_unit (f : List (List Int)) : kinkL f = unitL f.length ↔ QuF f := by
  constructor
  · intro h x hx
    have h1 := kinkL_getD f x hx
    rw [h, unitL_getD _ _ hx] at h1
    omega
  · intro h
    unfold kinkL unitL
    apply List.map_congr_left
    intro x hx
    have hx := List.mem_range.1 hx
    rw [h x hx]
    rfl
end Go.Proofs.Ytchpclgkinehhaa
namespace Go.Proofs.Ytchpclgkinehhaa
open Go Go.RowKit
set_option maxHeartbeats 1000000

set_option maxRecDepth 100000 in
theorem kink_any (A : Option Addr) (n c : Nat) (f : List (List Int)) (w : World) (hn : f.length = n) (ht : Tbl f) (hr : Rd2 w A f) :
    Calls Try.prog 80 #[.agg #[.slice A n c]] w fun e w' => ∃ g, e = .returned (.slice (some ⟨g, 0, none⟩) n n) ∧ Below w.heap.size w w' ∧ w.heap.size ≤ g ∧ OwnB 2 w' g (kinkL f) := by
  have h1 : 1 ≤ n := by rw [← hn]; exact ht.1
  have h12 : n ≤ 12 := by rw [← hn]; exact ht.2.1
  have HN := hide hn
  have HTB := hide ht
  have HR := hide hr
  have HZ : Hid ((kinkL f).length = n) := hide ((kinkL_length f).trans hn)
  have HB0 := hide ((Below.refl _ w).alloc (Nat.le_refl _) (Obj.cells #[Value.slice A n c] 27))
  have HK0 := hide (Blk.new w 27 [.slice A n c])
  have hmk := run_make_row' (P := Try.prog) 67 2 (.int .i64 0) 8 Try.underlying67 kqInfo rfl .i64 .i64 n (by omega) (by omega)
  clear hn ht hr
  go_enter Try.func80, Try.ntmps80
  go_wp2_with fail
  clear hmk
  refine calls_gen fun w1 hw1 => ?_
  have HB1 : Hid (Below w.heap.size w w1) := hide (by rw [hw1]; exact HB0.out.alloc (by simp) _)
  have HK1 : Hid (Blk w1 w.heap.size 27 [.slice A n c]) := hide (by rw [hw1]; exact HK0.out.alloc _)
  have HROW1 : Hid (Row 2 w1 (w.heap.size + 1) (List.replicate n 0)) := hide (by rw [hw1]; simpa using Row.made 2 (w.alloc (Obj.cells #[Value.slice A n c] 27)) n)
  clear hw1
  refine (ksize_any _ _ _ _ (by omega)).mono ?_
  rintro e w2 ⟨rfl, hb2⟩
  have HB2 := hide (HB1.out.trans (hb2.mono HB1.out.size))
  have HK2 := hide (HK1.out.later hb2)
  have HROW2 := hide (HROW1.out.own.later hb2 HROW1.out.own.lt)
  clear hb2
  go_wp2_with fail
  go_loopw [11] (fun i wr => ∃ k : Nat, k ≤ n ∧ i = .int .i64 k ∧ Below w.heap.size w wr ∧ Blk wr w.heap.size 27 [.slice A n c] ∧ OwnB 2 wr (w.heap.size + 1) ((kinkL f).take k ++ List.replicate (n - k) 0)) (fun i _ => n - (intOf i).toNat)
  case atStart => exact ⟨0, Nat.zero_le _, rfl, HB2.out, HK2.out, by simpa using HROW2.out⟩
  case round =>
    obtain ⟨k, hk, rfl, hbe, hkk, hrow⟩ := hrel
    have HBc := hide hbe
    have HKc := hide hkk
    have HOc := hide hrow
    clear hbe hkk hrow
    by_cases hlt : k < n
    · have hltz : (k : Int) < n := by omega
      have k0 := HKc.out.cell 0 _ rfl
      obtain ⟨u, hu⟩ : ∃ u, ap f k k = u := ⟨_, rfl⟩
      have HU := hide hu
      have hl : ((kinkL f).take k ++ List.replicate (n - k) 0).length = n := by have := HZ.out; simp; omega
      have HL := hide hl
      clear hu hl
      go_wp2_with fail
      clear k0
      refine (act_any _ _ _ f k k u _ HN.out HTB.out (HR.out.later HBc.out) hlt hlt HU.out).mono ?_
      rintro e wd ⟨rfl, hbd⟩
      have HBd := hide (HBc.out.trans (hbd.mono HBc.out.size))
      have HKd := hide (HKc.out.later hbd)
      have HOd := hide (HOc.out.later hbd HOc.out.lt)
      clear hbd
      have h2 := HOd.out.cell (i := k) (by have := HL.out; omega)
      have h3 := HOd.out.frozen k
      go_wp2_with fail
      go_roundw
      case rel =>
        have hst := HOd.out.set k (u : Int) (by have := HL.out; omega)
        have hg : (kinkL f).getD k 0 = (u : Int) := by rw [kinkL_getD f k (by have := HN.out; omega), HU.out]
        rw [← hg, kq_fill (kinkL f) n k HZ.out hlt, hg] at hst
        exact ⟨k + 1, by omega, by go_num, HBd.out.setCell (p := ⟨w.heap.size + 1, k, none⟩) (by show w.heap.size ≤ w.heap.size + 1; omega) _, HKd.out.far (p := ⟨w.heap.size + 1, k, none⟩) (by show w.heap.size ≠ w.heap.size + 1; omega) _, hst⟩
      case measure => simp [intOf]; omega
    · have hkn : k = n := by omega
      subst hkn
      go_wp2_with fail
      go_ret
      have h := HOc.out
      have hz := HZ.out
      rw [Nat.sub_self, List.replicate_zero, List.append_nil, List.take_of_length_le (by omega)] at h
      exact ⟨_, rfl, HBc.out, by omega, h⟩
end Go.Proofs.Ytchpclgkinehhaa
