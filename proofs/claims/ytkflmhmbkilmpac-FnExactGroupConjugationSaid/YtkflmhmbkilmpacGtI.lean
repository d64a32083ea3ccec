import Derived.Test.YtkflmhmbkilmpacGpF
import Derived.Test.YtkflmhmbkilmpacHeld
import Derived.Test.YtkflmhmbkilmpacBlk
import Derived.Test.YtkflmhmbkilmpacIxI
import Derived.Test.YtkflmhmbkilmpacWr
namespace Go.Proofs.Ytkflmhmbkilmpac
open Go Go.RowKit
set_option maxHeartbeats 1000000

theorem gsize_any (A : Option Addr) (n c : Nat) (w : World) (_hn : n ≤ 1048576) :
    Calls Try.prog 91 #[.agg #[.slice A n c]] w fun e w' => e = .returned (.int .i64 n) ∧ Below w.heap.size w w' := by
  have HB0 := hide ((Below.refl _ w).alloc (Nat.le_refl _) (Obj.cells #[Value.slice A n c] 48))
  go_enter Try.func91, Try.ntmps91
  go_wp2_with fail
  go_ret
  exact ⟨rfl, HB0.out⟩

set_option maxRecDepth 100000 in
/-- The product, over a block that is just the other factors. -/
theorem times_any (A : Option Addr) (n c : Nat) (f : List (List Int)) (x g k : Nat) (ys : List Nat) (w : World) (hn : f.length = n) (ht : Tbl f) (hr : Rd2 w A f) (hx : x < n) (hk : ys.length = k) (hys : ∀ y ∈ ys, y < n) (hb : Blk w g 2 (ints (natL ys))) (hk4 : k ≤ 4) :
    Calls Try.prog 102 #[.agg #[.slice A n c], .int .i64 x, .slice (some ⟨g, 0, none⟩) k k] w fun e w' => e = .returned (.int .i64 (tm f x ys)) ∧ Below w.heap.size w w' := by
  have h1 : 1 ≤ n := by rw [← hn]; exact ht.1
  have h12 : n ≤ 12 := by rw [← hn]; exact ht.2.1
  obtain ⟨b, o, rfl, hbw, hc⟩ := ht.cells hr hn
  have HC := hide hc
  have HN := hide hn
  have HTB := hide ht
  have HK := hide hk
  have HY := hide hys
  have hgl := hb.lt
  have HB0 := hide ((Below.refl _ w).alloc (Nat.le_refl _) (Obj.cells #[Value.slice (some ⟨b, o, none⟩) n c] 48))
  have HK0 := hide (Blk.new w 48 [.slice (some ⟨b, o, none⟩) n c])
  have HG : Hid (∀ i, i < k → w.cell? ⟨g, i, none⟩ = some (.int .i64 (ys.getD i 0 : Nat)) ∧ ys.getD i 0 < n) := hide (fun i hi => by
    have hi2 : i < ys.length := by omega
    refine ⟨hb.cell i _ ?_, hys _ ?_⟩
    · simp [ints, natL, hi2]
    · simp [hi2])
  clear hc hn ht hr hk hys hb
  go_enter Try.func102, Try.ntmps102
  go_wp2_with fail
  go_loopw [1, 11] (fun s i wr => ∃ j : Nat, j ≤ k ∧ i = .int .i64 j ∧ s = .int .i64 (tm f x (ys.take j)) ∧ tm f x (ys.take j) < n ∧ Below w.heap.size w wr ∧ Blk wr w.heap.size 48 [.slice (some ⟨b, o, none⟩) n c]) (fun _ i _ => k - (intOf i).toNat)
  case atStart => exact ⟨0, Nat.zero_le _, rfl, rfl, hx, HB0.out, HK0.out⟩
  case round =>
    obtain ⟨j, hj, rfl, rfl, hvn, hbe, hkk⟩ := hrel
    have HB := hide hbe
    have HKK := hide hkk
    clear hbe hkk
    by_cases hlt : j < k
    · have hjz : (j : Int) < k := by omega
      have hst := tm_take f x ys j (by have := HK.out; omega)
      have hg := HG.out j hlt
      have c0 := (HB.out.cell (p := ⟨g, j, none⟩) hgl).trans hg.1
      have hyn := hg.2
      obtain ⟨v, hv⟩ : ∃ v, tm f x (ys.take j) = v := ⟨_, rfl⟩
      obtain ⟨y, hy⟩ : ∃ y, ys.getD j 0 = y := ⟨_, rfl⟩
      rw [hy] at c0 hyn hst
      rw [hv] at hvn hst ⊢
      have hu := HTB.out.ap_lt HN.out hvn hyn
      obtain ⟨bx, ox, cx, r1, l1, g1⟩ := HC.out v hvn
      have r2 := g1 y hyn
      obtain ⟨u, hue⟩ : ∃ u, ap f v y = u := ⟨_, rfl⟩
      rw [hue] at r2 hst hu
      replace r1 := (HB.out.cell (p := ⟨b, o + v, none⟩) hbw).trans r1
      replace r2 := (HB.out.cell (p := ⟨bx, ox + y, none⟩) l1).trans r2
      have HST := hide hst
      have hvz : (v : Int) < n := by omega
      have hyz : (y : Int) < n := by omega
      have k0 := HKK.out.cell 0 _ rfl
      clear hg g1 hue hst hy hv
      go_wp2_with fail
      go_roundw
      case rel => exact ⟨j + 1, by omega, by go_num, by rw [HST.out], by rw [HST.out]; exact hu, HB.out, HKK.out⟩
      case measure => simp [intOf]; omega
    · have hjk : j = k := by omega
      subst hjk
      have hts : ys.take j = ys := List.take_of_length_le (by rw [HK.out]; exact Nat.le_refl _)
      rw [hts]
      obtain ⟨v, hv⟩ : ∃ v, tm f x ys = v := ⟨_, rfl⟩
      rw [hv]
      have HV := hide hv
      clear hts hv
      go_wp2_with fail
      go_ret
      exact ⟨by first | rfl | (rw [HV.out]; rfl), HB.out⟩

set_option maxRecDepth 100000 in
theorem ginv_any (A : Option Addr) (n c : Nat) (f : List (List Int)) (x : Nat) (w : World) (hn : f.length = n) (ht : Tbl f) (hp : AllPrm f) (hr : Rd2 w A f) (hx : x < n) :
    Calls Try.prog 110 #[.agg #[.slice A n c], .int .i64 x] w fun e w' => e = .returned (.int .i64 (bk f x)) ∧ Below w.heap.size w w' := by
  have h1 : 1 ≤ n := by rw [← hn]; exact ht.1
  have h12 : n ≤ 12 := by rw [← hn]; exact ht.2.1
  have hok := bk_ok hn ht hp hx
  obtain ⟨b, o, hA, hbw, hc⟩ := rd_rows ht hr hn
  subst hA
  obtain ⟨Bx, cx, r1, hrd⟩ := hc x hx
  have HRL : Hid ((f.getD x []).length = n) := hide (ht.row_len hn hx)
  obtain ⟨row, hrow⟩ : ∃ row, f.getD x [] = row := ⟨_, rfl⟩
  rw [hrow] at hok HRL hrd
  have HRD := hide hrd
  have HOK := hide hok.2
  obtain ⟨u, hu⟩ : ∃ u, bk f x = u := ⟨_, rfl⟩
  rw [hu] at HOK ⊢
  have hun : u < n := by rw [← hu]; exact hok.1
  have HB0 := hide ((Below.refl _ w).alloc (Nat.le_refl _) (Obj.cells #[Value.slice (some ⟨b, o, none⟩) n c] 48))
  have HK0 := hide (Blk.new w 48 [.slice (some ⟨b, o, none⟩) n c])
  replace r1 := (HB0.out.cell (p := ⟨b, o + x, none⟩) hbw).trans r1
  have hxz : (x : Int) < n := by omega
  have e1 : IntKind.i64.wrap (u : Int) = (u : Int) := IntWalk.i64_in _ (by omega)
  clear hn ht hp hr hc hrow hok hu hrd
  go_enter Try.func110, Try.ntmps110
  have k0 := HK0.out.cell 0 _ rfl
  go_wp2_with fail
  clear k0 r1
  refine (indexI_any _ n _ row 0 _ HRL.out (by omega) (HRD.out.later HB0.out)).mono ?_
  rintro e w1 ⟨rfl, hq⟩
  rw [HOK.out]
  have HB1 := hide (HB0.out.trans (hq.below _))
  clear hq
  go_wp2_with fail
  go_ret
  exact ⟨rfl, HB1.out⟩
end Go.Proofs.Ytkflmhmbkilmpac
