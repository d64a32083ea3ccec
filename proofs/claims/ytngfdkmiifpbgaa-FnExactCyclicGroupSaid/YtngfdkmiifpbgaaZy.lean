import Derived.Test.YtngfdkmiifpbgaaZw
import Derived.Test.YtngfdkmiifpbgaaZx
import Derived.Test.YtngfdkmiifpbgaaZq
import Derived.Test.YtngfdkmiifpbgaaZb
import Derived.Test.YtngfdkmiifpbgaaZu
import Derived.Test.YtngfdkmiifpbgaaZp
namespace Go.Proofs.Ytngfdkmiifpbgaa
open Go Go.RowKit
set_option maxHeartbeats 2000000

set_option maxRecDepth 100000 in
theorem gcyC_any (n b : Nat) (w : World) (h1 : 1 ≤ n) (h12 : n ≤ 12) (hk : Blk w b 2 [.int .i64 n]) : CellFn Try.prog 94 #[.pointer (some ⟨b, 0, none⟩)] n (gcyH n) w := by
  intro W x y hx hy hb
  have HK := hide (hk.later hb)
  have HV : Hid (((x : Int) + (y : Int)) % (n : Int) = gcyH n x y) := hide (by unfold gcyH; simp)
  obtain ⟨u, hu⟩ : ∃ u, gcyH n x y = u := ⟨_, rfl⟩
  rw [hu] at HV ⊢
  show Calls Try.prog 94 #[.int .i64 x, .int .i64 y, .pointer (some ⟨b, 0, none⟩)] W _
  clear hu hk hb
  go_enter Try.func94, Try.ntmps94
  have k0 := HK.out.cell 0 _ rfl
  go_wp2_with fail
  clear k0
  refine (remainder_any ((x : Int) + (y : Int)) n _ h1 (by omega) (by omega) (by omega)).mono ?_
  rintro e wd ⟨rfl, hbd⟩
  rw [HV.out]
  have HB1 := hide hbd
  clear hbd
  go_wp2_with fail
  go_ret
  exact ⟨rfl, HB1.out⟩

set_option maxRecDepth 100000 in
theorem cycI_any (n : Nat) (w : World) (h1 : 1 ≤ n) (h12 : n ≤ 12) :
    Calls Try.prog 62 #[.int .i64 n] w fun e w' => ∃ A' c', e = .returned (.agg #[.slice A' n c']) ∧ Below w.heap.size w w' ∧ Obj2 42 2 w.heap.size w'.heap.size w' A' (grid n (gcyH n)) := by
  have HB0 := hide (((Below.refl _ w).alloc (Nat.le_refl _) (Obj.cells #[Value.int IntKind.i64 n] 2)).alloc (by simp) (Obj.cells #[.slice none 0 0] 27))
  have HP0 := hide ((Blk.new w 2 [.int .i64 n]).alloc (Obj.cells #[.slice none 0 0] 27))
  have HK0 : Hid (Blk ((w.alloc (Obj.cells #[Value.int IntKind.i64 n] 2)).alloc (Obj.cells #[.slice none 0 0] 27)) (w.heap.size + 1) 27 [.slice none 0 0]) := hide (by have h := Blk.new (w.alloc (Obj.cells #[Value.int IntKind.i64 n] 2)) 27 [.slice none 0 0]; simpa using h)
  go_enter Try.func62, Try.ntmps62
  have p0 := HP0.out.cell 0 _ rfl
  go_wp2_with fail
  clear p0
  refine (tableOf_any 94 _ n (gcyH n) _ (fun _ _ => rfl) h1 h12 (gcyC_any n w.heap.size _ h1 h12 HP0.out)).mono ?_
  rintro e w3 ⟨A3, c3, rfl, hb3, ho3⟩
  have HB3 := hide (HB0.out.trans (hb3.mono HB0.out.size))
  have HK3 := hide (HK0.out.later hb3)
  have HO3 := hide ho3
  have hlow := HK0.out.lt
  clear hb3 ho3
  have k2 := HK3.out.cell 0 _ rfl
  have k3 := HK3.out.frozen 0
  go_wp2_with fail
  refine bp_gen fun wf hwf => ?_
  obtain ⟨q0, hbf, hof⟩ := kend hwf HK3.out (by omega) HB3.out HO3.out (by omega) hlow (Nat.le_refl _)
  clear hwf k2 k3
  exact bodyPost_ret (v := .agg #[.slice A3 n c3]) (by simp [results, Try.results62, go_sem, q0]) rfl ⟨_, _, rfl, hbf, hof⟩

set_option maxRecDepth 100000 in
theorem nwGcyI (x : Int) (zs : List (List Int)) (code : Int) (k : Nat) (w : World) (hlo : -9223372036854775808 ≤ x) (hhi : x ≤ 9223372036854775807) (hres : GcyRes x zs code) (hk : zs.length = k) :
    Calls Try.prog 24 #[.int .i64 x] w (fun e w' => ∃ A' c', e = .returned (.tuple #[.agg #[.slice A' k c'], .int .i64 code]) ∧ Below w.heap.size w w' ∧ Obj2 42 2 w.heap.size w'.heap.size w' A' zs) := by
  rcases hres with ⟨hg, rfl, rfl⟩ | ⟨hg, rfl, rfl⟩
  · obtain ⟨n, rfl⟩ : ∃ n : Nat, x = (n : Int) := ⟨x.toNat, by omega⟩
    have h1 : 1 ≤ n := by omega
    have h12 : n ≤ 12 := by omega
    have hkn : k = n := by rw [← hk, grid_length]; simp
    subst hkn
    obtain ⟨n, hnk⟩ : ∃ n, k = n := ⟨_, rfl⟩
    subst hnk
    clear hk
    rw [show ((k : Int)).toNat = k by simp]
    have HB0 := hide ((Below.refl _ w).alloc (Nat.le_refl _) (Obj.cells #[.slice none 0 0] 27))
    have HK0 := hide (Blk.new w 27 [.slice none 0 0])
    go_enter Try.func24, Try.ntmps24
    go_wp2_with fail
    refine (isSize_any _ true _ (by simp; omega)).mono ?_
    rintro e w1 ⟨rfl, hq1⟩
    have HB1 := hide (HB0.out.trans (hq1.below _))
    have HK1 := hide (HK0.out.later (hq1.below _))
    clear hq1 HB0 HK0
    go_wp2_with fail
    refine (cycI_any k _ h1 h12).mono ?_
    rintro e w3 ⟨A3, c3, rfl, hb3, ho3⟩
    have HB3 := hide (HB1.out.trans (hb3.mono HB1.out.size))
    have HK3 := hide (HK1.out.later hb3)
    have HO3 := hide ho3
    have hlow : w.heap.size < w1.heap.size := HK1.out.lt
    clear hb3 ho3
    have k2 := HK3.out.cell 0 _ rfl
    have k3 := HK3.out.frozen 0
    go_wp2_with fail
    refine bp_gen fun wf hwf => ?_
    obtain ⟨q0, hbf, hof⟩ := kend hwf HK3.out (Nat.le_refl _) HB3.out HO3.out (by omega) hlow (Nat.le_refl _)
    clear hwf k2 k3
    exact bodyPost_ret (v := .tuple #[.agg #[.slice A3 k c3], .int .i64 0]) (by simp [results, Try.results24, go_sem, q0]) rfl ⟨_, _, rfl, hbf, hof⟩
  · have hk0 : k = 0 := by rw [← hk]; rfl
    subst hk0
    clear hk
    have HB0 := hide ((Below.refl _ w).alloc (Nat.le_refl _) (Obj.cells #[.slice none 0 0] 27))
    have HK0 := hide (Blk.new w 27 [.slice none 0 0])
    go_enter Try.func24, Try.ntmps24
    go_wp2_with fail
    refine (isSize_any _ false _ (by simp; omega)).mono ?_
    rintro e w1 ⟨rfl, hq1⟩
    have HB1 := hide (HB0.out.trans (hq1.below _))
    have HK1 := hide (HK0.out.later (hq1.below _))
    clear hq1 HB0 HK0
    have k2 := HK1.out.cell 0 _ rfl
    have k3 := HK1.out.frozen 0
    go_wp2_with fail
    refine bp_gen fun wf hwf => ?_
    have HRF : Blk wf w.heap.size 27 [.slice none 0 0] := by rw [hwf]; first | exact HK1.out | exact HK1.out.set 0 _
    have hbf : Below w.heap.size w wf := by rw [hwf]; first | exact HB1.out | exact HB1.out.setCell (p := ⟨w.heap.size, 0, none⟩) (Nat.le_refl _) _
    have q0 := HRF.cell 0 _ rfl
    clear hwf k2 k3
    exact bodyPost_ret (v := .tuple #[.agg #[.slice none 0 0], .int .i64 2]) (by simp [results, Try.results24, go_sem, q0]) rfl ⟨_, _, rfl, hbf, .inl ⟨rfl, rfl⟩⟩

set_option maxRecDepth 100000 in
theorem nwGcyS (x : Int) (zs : List (List Int)) (code : Int) (k : Nat) (w : World) (hlo : -9223372036854775808 ≤ x) (hhi : x ≤ 9223372036854775807) (hres : GcyRes x zs code) (hk : zs.length = k) :
    Calls Try.prog 23 #[.int .i64 x] w (fun e w' => ∃ A' c', e = .returned (.tuple #[.agg #[.slice A' k c'], .int .i64 code]) ∧ Below w.heap.size w w' ∧ Obj2 42 2 w.heap.size w'.heap.size w' A' zs) := by
  rcases hres with ⟨hg, rfl, rfl⟩ | ⟨hg, rfl, rfl⟩
  · obtain ⟨n, rfl⟩ : ∃ n : Nat, x = (n : Int) := ⟨x.toNat, by omega⟩
    have h1 : 1 ≤ n := by omega
    have h12 : n ≤ 12 := by omega
    have hkn : k = n := by rw [← hk, grid_length]; simp
    subst hkn
    obtain ⟨n, hnk⟩ : ∃ n, k = n := ⟨_, rfl⟩
    subst hnk
    clear hk
    rw [show ((k : Int)).toNat = k by simp]
    have HB0 := hide ((Below.refl _ w).alloc (Nat.le_refl _) (Obj.cells #[.slice none 0 0] 27))
    have HK0 := hide (Blk.new w 27 [.slice none 0 0])
    go_enter Try.func23, Try.ntmps23
    go_wp2_with fail
    refine (in_any _ 1 12 true _ (by simp; omega)).mono ?_
    rintro e w1 ⟨rfl, hq1⟩
    have HB1 := hide (HB0.out.trans (hq1.below _))
    have HK1 := hide (HK0.out.later (hq1.below _))
    clear hq1 HB0 HK0
    go_wp2_with fail
    refine (cycG_any k _ h1 h12).mono ?_
    rintro e w3 ⟨A3, c3, rfl, hb3, ho3⟩
    have HB3 := hide (HB1.out.trans (hb3.mono HB1.out.size))
    have HK3 := hide (HK1.out.later hb3)
    have HO3 := hide ho3
    have hlow : w.heap.size < w1.heap.size := HK1.out.lt
    clear hb3 ho3
    have k2 := HK3.out.cell 0 _ rfl
    have k3 := HK3.out.frozen 0
    go_wp2_with fail
    refine bp_gen fun wf hwf => ?_
    obtain ⟨q0, hbf, hof⟩ := kend hwf HK3.out (Nat.le_refl _) HB3.out HO3.out (by omega) hlow (Nat.le_refl _)
    clear hwf k2 k3
    exact bodyPost_ret (v := .tuple #[.agg #[.slice A3 k c3], .int .i64 0]) (by simp [results, Try.results23, go_sem, q0]) rfl ⟨_, _, rfl, hbf, hof⟩
  · have hk0 : k = 0 := by rw [← hk]; rfl
    subst hk0
    clear hk
    have HB0 := hide ((Below.refl _ w).alloc (Nat.le_refl _) (Obj.cells #[.slice none 0 0] 27))
    have HK0 := hide (Blk.new w 27 [.slice none 0 0])
    go_enter Try.func23, Try.ntmps23
    go_wp2_with fail
    refine (in_any _ 1 12 false _ (by simp; omega)).mono ?_
    rintro e w1 ⟨rfl, hq1⟩
    have HB1 := hide (HB0.out.trans (hq1.below _))
    have HK1 := hide (HK0.out.later (hq1.below _))
    clear hq1 HB0 HK0
    have k2 := HK1.out.cell 0 _ rfl
    have k3 := HK1.out.frozen 0
    go_wp2_with fail
    refine bp_gen fun wf hwf => ?_
    have HRF : Blk wf w.heap.size 27 [.slice none 0 0] := by rw [hwf]; first | exact HK1.out | exact HK1.out.set 0 _
    have hbf : Below w.heap.size w wf := by rw [hwf]; first | exact HB1.out | exact HB1.out.setCell (p := ⟨w.heap.size, 0, none⟩) (Nat.le_refl _) _
    have q0 := HRF.cell 0 _ rfl
    clear hwf k2 k3
    exact bodyPost_ret (v := .tuple #[.agg #[.slice none 0 0], .int .i64 2]) (by simp [results, Try.results23, go_sem, q0]) rfl ⟨_, _, rfl, hbf, .inl ⟨rfl, rfl⟩⟩

end Go.Proofs.Ytngfdkmiifpbgaa
