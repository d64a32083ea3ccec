import Derived.Test.YtaejgmdeiemhcabZbf
import Derived.Test.YtaejgmdeiemhcabZbe
import Derived.Test.YtaejgmdeiemhcabZab
import Derived.Test.YtaejgmdeiemhcabZaz
import Derived.Test.YtaejgmdeiemhcabZbd
import Derived.Test.YtaejgmdeiemhcabZas
import Derived.Shelf.Abstract
import Derived.Shelf.Lay
namespace Go.Proofs.Ytaejgmdeiemhcab
open Go Go.RowKit
open Classical
set_option maxHeartbeats 4000000
set_option maxRecDepth 100000 in
theorem bsI_any (A : Option Addr) (n c : Nat) (f : List (List Int)) (B : Option Addr) (d : Nat) (s : List (List Int)) (x y : Nat) (w : World) (hz : ZArg 1048576 w A n f B n s) (hg : NdS f s) (hx : x < n) (hy : y < n) :
    Calls Try.prog 51 #[.agg #[.slice A n c, .slice B n d], .agg #[.int .i64 (x : Int), .int .i64 (y : Int)]] w fun e w' => ∃ g c', e = .returned (.slice (some ⟨g, 0, none⟩) n c') ∧ Below w.heap.size w w' ∧ w.heap.size ≤ g ∧ OwnB 2 w' g (blL f s x y) := by
  have hfn := hz.sz.fl
  have h12 := (hz.small hg.map).2
  have h1 : 1 ≤ n := (hz.small hg.map).1
  have hK := bothL_length (f := f) (s := s) hfn (hg.sizes hfn).2.2
  have hgens := hg.both hfn
  have HMP := hide (both_lt hg hfn)
  have HNN := hide (both_nonneg hg hfn)
  have HFN := hide hfn
  have HZ := hide hz
  have HG := hide hg
  have HKL := hide hK
  have HRL : Hid (∀ i, i < n + n → ((bothL f s).getD i []).length = n) := hide (fun i hi => (hgens i (by rw [hK]; exact hi)).1)
  have hbb : Below w.heap.size w ((w.alloc (.cells #[.slice A n c, .slice B n d] 35)).alloc (.cells #[.int .i64 (x : Int), .int .i64 (y : Int)] 71)) := ((Below.refl _ _).alloc (Nat.le_refl _) _).alloc (by simp) _
  have HK0 := hide ((Blk.new w 35 [.slice A n c, .slice B n d]).alloc (.cells #[.int .i64 (x : Int), .int .i64 (y : Int)] 71))
  have HP0 : Hid (Blk ((w.alloc (.cells #[.slice A n c, .slice B n d] 35)).alloc (.cells #[.int .i64 (x : Int), .int .i64 (y : Int)] 71)) (w.heap.size + 1) 71 [.int .i64 (x : Int), .int .i64 (y : Int)]) := hide (by have h := Blk.new (w.alloc (.cells #[.slice A n c, .slice B n d] 35)) 71 [.int .i64 (x : Int), .int .i64 (y : Int)]; simpa using h)
  obtain ⟨wst, hws⟩ : ∃ wst, wst = ((w.alloc (.cells #[.slice A n c, .slice B n d] 35)).alloc (.cells #[.int .i64 (x : Int), .int .i64 (y : Int)] 71)) := ⟨_, rfl⟩
  rw [← hws] at HK0 HP0 hbb
  have HB0 := hide hbb
  clear hbb hz hg hfn hK hgens
  go_enter Try.func51, Try.ntmps51
  go_upto_region 1 with fail
  rw [← hws]
  clear hws
  have k0 := HK0.out.cell 0 _ rfl
  have k1 := HK0.out.cell 1 _ rfl
  go_wp2_with fail
  refine (wsyZ_any _ n _ f _ _ s _ (HZ.out.later HB0.out) HG.out.map).mono ?_
  rintro e w1 ⟨A7, c7, rfl, hb1, hl1⟩
  have HB1 := hide (HB0.out.trans (hb1.mono HB0.out.size))
  have HK1 := hide (HK0.out.later hb1)
  have HP1 := hide (HP0.out.later hb1)
  have HL1 := hide hl1
  clear hb1 hl1 k0 k1 HB0 HK0 HP0
  go_upto_region 2 with fail
  refine wp_gen fun w2 hw2 => ?_
  obtain ⟨bx, hbx⟩ : ∃ bx, w1.heap.size = bx := ⟨_, rfl⟩
  have hb2 : Below w1.heap.size w1 w2 := by rw [hw2]; exact (Below.refl _ _).alloc (Nat.le_refl _) _
  have HX2 : Hid (Blk w2 bx 22 [.slice A7 (n + n) c7]) := hide (by rw [hw2, ← hbx]; exact Blk.new _ _ _)
  have HB2 := hide (HB1.out.trans (hb2.mono HB1.out.size))
  have HK2 := hide (HK1.out.later hb2)
  have HP2 := hide (HP1.out.later hb2)
  have HL2 := hide (HL1.out.later hb2)
  rw [hbx]
  clear hw2 hb2 HB1 HK1 HP1 HL1 hbx
  have k0 := HK2.out.cell 0 _ rfl
  have k1 := HK2.out.cell 1 _ rfl
  go_wp2_with fail
  refine (size_any _ _ _ _ _ _ _ (by omega)).mono ?_
  rintro e w3 ⟨rfl, hb3⟩
  have HB3 := hide (HB2.out.trans (hb3.mono HB2.out.size))
  have HX3 := hide (HX2.out.later hb3)
  have HP3 := hide (HP2.out.later hb3)
  have HL3 := hide (HL2.out.later hb3)
  clear hb3 k0 k1 HB2 HK2 HP2 HL2 HX2
  go_wp2_with fail
  refine (newFr_any n _ h12).mono ?_
  rintro e w4 ⟨rfl, hb4, hfm⟩
  obtain ⟨g, hge⟩ : ∃ g, w3.heap.size = g := ⟨_, rfl⟩
  have HB43 : Hid (Below w3.heap.size w3 w4) := hide hb4
  have HB4 := hide (HB3.out.trans (hb4.mono HB3.out.size))
  have HP4 := hide (HP3.out.later hb4)
  have HF4 : Hid (FrM 130 w4 g n (fun _ => none)) := hide (by rw [← hge]; exact hfm)
  rw [hge]
  clear hb4 hfm
  have hgw : w.heap.size ≤ g := by rw [← hge]; exact HB3.out.size
  have hg4 := HF4.out.lt
  obtain ⟨mp, hmp⟩ : ∃ mp, ap (bothL f s) = mp := ⟨_, rfl⟩
  obtain ⟨K, hKe⟩ : ∃ K, n + n = K := ⟨_, rfl⟩
  have hcells := rows_cells (n := n) (K := K) HL3.out (by rw [← hKe]; exact HKL.out) h1 (by rw [← hKe]; exact HRL.out) (by rw [← hKe]; exact HNN.out) (by omega)
  rw [hmp] at hcells
  have HMPE := hide hmp
  have HKE := hide hKe
  have HML : Hid (∀ i a, i < K → a < n → mp i a < n) := hide (by rw [← hmp, ← hKe]; exact HMP.out)
  have hK24 : K ≤ 24 := by omega
  have hK1 : 1 ≤ K := by omega
  rw [hKe] at HX3
  obtain ⟨bt, ot, hA7, hbt, hrows⟩ := hcells
  subst hA7
  have HRW := hide hrows
  have HJ0 : Hid (JnS mp K n x y (rtL n (fun x => x)) [(x, y)]) := hide (.start (rtL_length n _) hx hy (fun a b ha hb e => by rw [rtL_lb ha, rtL_lb hb] at e; omega) (fun v hv => by
    obtain ⟨a, ha, rfl⟩ := List.mem_map.1 hv
    have := List.mem_range.1 ha
    show 0 ≤ (a : Int) ∧ (a : Int) < n
    omega))
  clear hmp hKe hrows HMP HNN HKL HRL HL3
  have p0 := HP4.out.cell 0 _ rfl
  have p1 := HP4.out.cell 1 _ rfl
  go_wp2_with fail
  refine (joinFrom_any 85 #[.slice (some ⟨g, 0, none⟩) n n] #[] 86 #[] #[.pointer (some ⟨bx, 0, none⟩)] n K x y g (g + 1) mp (frSt 130 g n) w3 w4 (rtL n (fun x => x)) (enters_of Try.func85 (by kernel_rfl) rfl) (enters_of Try.func86 (by kernel_rfl) rfl) h12 (by omega) (by omega) hx hy HML.out HB43.out (by omega) (by omega) ⟨_, _, _, Frs.new n, HF4.out, rfl⟩ HJ0.out (frSt.keep ⟨Nat.le_refl _, Nat.lt_succ_self _⟩) (frJoin_any n g n g (g + 1) h12 ⟨Nat.le_refl _, Nat.lt_succ_self _⟩) (led_any bx bt ot n K c7 mp w3 (by omega) HX3.out hbt HRW.out)).mono ?_
  rintro e w5 ⟨rfl, ht5, L, hst5, hj5⟩
  have HB5 := hide (Touch.below HB4.out ht5 HB4.out.size hgw)
  have HST := hide hst5
  have hbl := MgS.blL (f := f) (s := s) HFN.out HG.out (by rw [HMPE.out, HKE.out]; exact hj5.s) hx hy
  have HBL := hide hbl
  clear ht5 hst5 hj5 hbl p0 p1
  go_wp2_with fail
  refine (frNum_any n g n L _ h12 HST.out).mono ?_
  rintro e w6 ⟨c6, rfl, hb6, ho6⟩
  have HB6 := hide (HB5.out.trans (hb6.mono HB5.out.size))
  have HO6 := hide ho6
  have hs6 : w.heap.size ≤ w5.heap.size := HB5.out.size
  clear hb6 ho6
  go_wp2_with fail
  go_ret
  refine ⟨_, _, rfl, HB6.out, hs6, ?_⟩
  rw [← HBL.out]
  exact HO6.out
end Go.Proofs.Ytaejgmdeiemhcab
