import Derived.Test.YtkflmhmbkilmpabDoorPrkF
import Derived.Test.YtkflmhmbkilmpabDoorPtbI
import Derived.Test.YtkflmhmbkilmpabDoorRkII
import Derived.Test.YtkflmhmbkilmpabDoorLst1
namespace Go.Proofs.YtkflmhmbkilmpabDoor
open Go Go.RowKit
set_option maxHeartbeats 4000000

set_option maxRecDepth 100000 in
theorem parseRackI (s : ByteArray) (zs : List (List Int)) (code : Int) (k : Nat) (w : World) (hb : s.size ≤ 1048576) (hmx : MaxL w) (hres : PrRes s zs code) (hk : zs.length = k) :
    Calls Tryd.prog 5 #[.string s] w (fun e w' => ∃ A' c', e = .returned (.tuple #[.agg #[.slice A' k c'], .int .i64 code]) ∧ Below w.heap.size w w' ∧ Obj2 39 2 w.heap.size w'.heap.size w' A' zs) := by
  obtain ⟨rows, code0, hpt, hl0, hrl0⟩ := PtRes.ex s
  obtain ⟨n, hn⟩ : ∃ n, rows.length = n := ⟨_, rfl⟩
  have HPT := hide hpt
  have HN := hide hn
  have HRL := hide hrl0
  have HMX := hide hmx
  rw [hn] at hl0
  have HB0 := hide ((Below.refl _ w).alloc (Nat.le_refl _) (Obj.cells #[.slice none 0 0] 24))
  have HK0 := hide (Blk.new w 24 [.slice none 0 0])
  rcases hres with ⟨hg, rfl, rfl⟩ | ⟨hg, rfl, rfl⟩
  · obtain ⟨hz, hc0⟩ := hpt.eq hg
    have hkn : n = k := by rw [← hn, ← hk, hz]
    subst hkn
    subst hc0
    have HRK : Hid (RkRes rows true) := hide ⟨fun _ => hpt.rck.2 hg, fun _ => rfl⟩
    rw [← hz]
    clear hg hz hpt hn hrl0 hmx hk
    go_enter Tryd.func5, Tryd.ntmps5
    go_wp2_with fail
    refine calls_gen fun wp hwp => ?_
    replace HB0 : Hid (Below w.heap.size w wp) := hide (by rw [hwp]; exact HB0.out)
    replace HK0 : Hid (Blk wp w.heap.size 24 [.slice none 0 0]) := hide (by rw [hwp]; exact HK0.out)
    clear hwp
    refine (parseTableI s rows 0 n _ hb (HMX.out.later HB0.out) HPT.out HN.out).mono ?_
    rintro e w1 ⟨A1, c1, rfl, hb1, ho1⟩
    have HLOW : Hid (w.heap.size < wp.heap.size) := hide HK0.out.lt
    have HLO : Hid (w.heap.size ≤ wp.heap.size) := hide (Nat.le_of_lt HLOW.out)
    have HB1 := hide (HB0.out.trans (hb1.mono HB0.out.size))
    have HK1 := hide (HK0.out.later hb1)
    have HO1 := hide ho1
    clear hb1 ho1
    go_wp2_with fail
    refine calls_gen fun w2 hw2 => ?_
    have hb2 : Below w1.heap.size w1 w2 := by rw [hw2]; exact (Below.refl _ _).alloc (Nat.le_refl _) _
    have HB2 := hide (HB1.out.trans (hb2.mono HB1.out.size))
    have HK2 := hide (HK1.out.later hb2)
    have HO2 := hide (HO1.out.later hb2)
    have HR2 : Hid (Blk w2 w1.heap.size 24 [.slice A1 n c1]) := hide (by rw [hw2]; exact Blk.new _ _ _)
    have hs2 := hb2.size
    clear hw2 hb2
    refine (isRackI _ n _ rows true _ HN.out (by omega) HRL.out HO2.out.rd HRK.out).mono ?_
    rintro e w3 ⟨rfl, hb3⟩
    have HB3 := hide (HB2.out.trans (hb3.mono HB2.out.size))
    have HK3 := hide (HK2.out.later hb3)
    have HO3 := hide (HO2.out.later hb3)
    have HR3 := hide (HR2.out.later hb3)
    have hs3 := hb3.size
    clear hb3
    have k0 := HR3.out.cell 0 _ rfl
    have k2 := HK3.out.cell 0 _ rfl
    have k3 := HK3.out.frozen 0
    have hlow : w.heap.size < w1.heap.size := HK1.out.lt
    go_wp2_with fail
    refine bp_gen fun wf hwf => ?_
    obtain ⟨q0, hbf, hof⟩ := kend hwf HK3.out (Nat.le_refl _) HB3.out (HO3.out) HLO.out HLOW.out (by omega)
    clear hwf k0 k2 k3
    exact bodyPost_ret (v := .tuple #[.agg #[.slice A1 n c1], .int .i64 0]) (by simp [results, Tryd.results5, go_sem, q0]) rfl ⟨_, _, rfl, hbf, hof⟩
  · have hk0 : k = 0 := by rw [← hk]; rfl
    subst hk0
    have HRK : Hid (RkRes rows false) := hide ⟨fun h => (by cases h), fun h => absurd (hpt.rck.1 h) hg⟩
    clear hg hpt hn hrl0 hmx hk
    go_enter Tryd.func5, Tryd.ntmps5
    go_wp2_with fail
    refine calls_gen fun wp hwp => ?_
    replace HB0 : Hid (Below w.heap.size w wp) := hide (by rw [hwp]; exact HB0.out)
    replace HK0 : Hid (Blk wp w.heap.size 24 [.slice none 0 0]) := hide (by rw [hwp]; exact HK0.out)
    clear hwp
    refine (parseTableI s rows code0 n _ hb (HMX.out.later HB0.out) HPT.out HN.out).mono ?_
    rintro e w1 ⟨A1, c1, rfl, hb1, ho1⟩
    have HLOW : Hid (w.heap.size < wp.heap.size) := hide HK0.out.lt
    have HLO : Hid (w.heap.size ≤ wp.heap.size) := hide (Nat.le_of_lt HLOW.out)
    have HB1 := hide (HB0.out.trans (hb1.mono HB0.out.size))
    have HK1 := hide (HK0.out.later hb1)
    have HO1 := hide ho1
    clear hb1 ho1
    go_wp2_with fail
    refine calls_gen fun w2 hw2 => ?_
    have hb2 : Below w1.heap.size w1 w2 := by rw [hw2]; exact (Below.refl _ _).alloc (Nat.le_refl _) _
    have HB2 := hide (HB1.out.trans (hb2.mono HB1.out.size))
    have HK2 := hide (HK1.out.later hb2)
    have HO2 := hide (HO1.out.later hb2)
    have HR2 : Hid (Blk w2 w1.heap.size 24 [.slice A1 n c1]) := hide (by rw [hw2]; exact Blk.new _ _ _)
    have hs2 := hb2.size
    clear hw2 hb2
    refine (isRackI _ n _ rows false _ HN.out (by omega) HRL.out HO2.out.rd HRK.out).mono ?_
    rintro e w3 ⟨rfl, hb3⟩
    have HB3 := hide (HB2.out.trans (hb3.mono HB2.out.size))
    have HK3 := hide (HK2.out.later hb3)
    have HO3 := hide (HO2.out.later hb3)
    have HR3 := hide (HR2.out.later hb3)
    have hs3 := hb3.size
    clear hb3
    have k2 := HK3.out.cell 0 _ rfl
    have k3 := HK3.out.frozen 0
    go_wp2_with fail
    refine bp_gen fun wf hwf => ?_
    have HRF : Blk wf w.heap.size 24 [.slice none 0 0] := by rw [hwf]; first | exact HK3.out | exact HK3.out.set 0 _
    have hbf : Below w.heap.size w wf := by rw [hwf]; first | exact HB3.out | exact HB3.out.setCell (p := ⟨w.heap.size, 0, none⟩) (Nat.le_refl _) _
    have q0 := HRF.cell 0 _ rfl
    clear hwf k2 k3
    exact bodyPost_ret (v := .tuple #[.agg #[.slice none 0 0], .int .i64 6]) (by simp [results, Tryd.results5, go_sem, q0]) rfl ⟨_, _, rfl, hbf, .inl ⟨rfl, rfl⟩⟩
end Go.Proofs.YtkflmhmbkilmpabDoor
