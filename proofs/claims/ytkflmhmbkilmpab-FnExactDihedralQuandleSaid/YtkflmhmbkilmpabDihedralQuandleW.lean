import Derived.Test.YtkflmhmbkilmpabFmF
import Derived.Test.YtkflmhmbkilmpabByI
import Derived.Test.YtkflmhmbkilmpabRmI
import Derived.Test.YtkflmhmbkilmpabAlx
import Derived.Test.YtkflmhmbkilmpabIn
import Derived.Test.YtkflmhmbkilmpabLst1
namespace Go.Proofs.Ytkflmhmbkilmpab
open Go Go.RowKit
set_option maxHeartbeats 2000000

set_option maxRecDepth 100000 in
theorem dh_form (n : Nat) (a : Int) (A B : Option Addr) (n1 c1 n2 c2 : Nat) (w : World) (h1 : 1 ≤ n) (h12 : n ≤ 12) : FormFn 106 (.agg #[.int .i64 n, .int .i64 a, .slice A n1 c1, .slice B n2 c2]) n (dhH n) w := by
  intro W x y hx hy hb
  have HB0 := hide ((Below.refl _ W).alloc (Nat.le_refl _) (Obj.cells #[.int .i64 n, .int .i64 a, .slice A n1 c1, .slice B n2 c2] 68))
  have HK0 := hide (Blk.new W 68 [.int .i64 n, .int .i64 a, .slice A n1 c1, .slice B n2 c2])
  have HV := hide (dh_eq n x y h1)
  obtain ⟨u, hu⟩ : ∃ u, dhH n x y = u := ⟨_, rfl⟩
  rw [hu] at HV ⊢
  clear hu
  go_enter Try.func106, Try.ntmps106
  have k0 := HK0.out.cell 0 _ rfl
  go_wp2_with fail
  refine (remainder_any (2 * (x : Int) - (y : Int)) n _ h1 (by omega) (by omega) (by omega)).mono ?_
  rintro e wd ⟨rfl, hbd⟩
  rw [HV.out]
  have HB1 := hide (HB0.out.trans (hbd.mono HB0.out.size))
  clear hbd
  go_wp2_with fail
  go_ret
  exact ⟨rfl, HB1.out⟩

set_option maxRecDepth 100000 in
theorem nwDhI (x : Int) (zs : List (List Int)) (code : Int) (k : Nat) (w : World) (hlo : -9223372036854775808 ≤ x) (hhi : x ≤ 9223372036854775807) (hres : DhRes x zs code) (hk : zs.length = k) :
    Calls Try.prog 36 #[.int .i64 x] w (fun e w' => ∃ A' c', e = .returned (.tuple #[.agg #[.slice A' k c'], .int .i64 code]) ∧ Below w.heap.size w w' ∧ Obj2 33 2 w.heap.size w'.heap.size w' A' zs) := by
  rcases hres with ⟨hg, rfl, rfl⟩ | ⟨hg, rfl, rfl⟩
  · obtain ⟨n, rfl⟩ : ∃ n : Nat, x = (n : Int) := ⟨x.toNat, by omega⟩
    have h1 : 1 ≤ n := by omega
    have h12 : n ≤ 12 := by omega
    have hkn : k = n := by rw [← hk, grid_length]; simp
    subst hkn
    obtain ⟨n, hnk⟩ : ∃ n, k = n := ⟨_, rfl⟩
    subst hnk
    clear hk
    rw [show ((k : Int)).toNat = k by simp]
    have HB0 := hide ((Below.refl _ w).alloc (Nat.le_refl _) (Obj.cells #[.slice none 0 0] 26))
    have HK0 := hide (Blk.new w 26 [.slice none 0 0])
    go_enter Try.func36, Try.ntmps36
    go_wp2_with fail
    refine (isSize_any _ true _ (by simp; omega)).mono ?_
    rintro e w1 ⟨rfl, hq1⟩
    have HB1 := hide (HB0.out.trans (hq1.below _))
    have HK1 := hide (HK0.out.later (hq1.below _))
    clear hq1 HB0 HK0
    go_wp2_with fail
    refine (byFormula_any 2 106 k 0 none none 0 0 0 0 (dhH k) _ (enters_of Try.func106 (by kernel_rfl) rfl) h1 h12 (fun W => formulaOf2_any W) (dh_form _ _ _ _ _ _ _ _ _ h1 h12)).mono ?_
    rintro e w3 ⟨A3, c3, rfl, hb3, ho3⟩
    have HB3 := hide (HB1.out.trans (hb3.mono HB1.out.size))
    have HK3 := hide (HK1.out.later hb3)
    have HO3 := hide ho3
    have hlow : w.heap.size < w1.heap.size := HK1.out.lt
    clear hb3 ho3
    have k2 := HK3.out.cell 0 _ rfl
    have k3 := HK3.out.frozen 0
    go_wp2_with fail
    refine bp_gen fun wf hwf => ?_
    obtain ⟨q0, hbf, hof⟩ := kend hwf HK3.out (Nat.le_refl _) HB3.out HO3.out (by omega) hlow (Nat.le_refl _)
    clear hwf k2 k3
    exact bodyPost_ret (v := .tuple #[.agg #[.slice A3 k c3], .int .i64 0]) (by simp [results, Try.results36, go_sem, q0]) rfl ⟨_, _, rfl, hbf, hof⟩
  · have hk0 : k = 0 := by rw [← hk]; rfl
    subst hk0
    clear hk
    have HB0 := hide ((Below.refl _ w).alloc (Nat.le_refl _) (Obj.cells #[.slice none 0 0] 26))
    have HK0 := hide (Blk.new w 26 [.slice none 0 0])
    go_enter Try.func36, Try.ntmps36
    go_wp2_with fail
    refine (isSize_any _ false _ (by simp; omega)).mono ?_
    rintro e w1 ⟨rfl, hq1⟩
    have HB1 := hide (HB0.out.trans (hq1.below _))
    have HK1 := hide (HK0.out.later (hq1.below _))
    clear hq1 HB0 HK0
    have k2 := HK1.out.cell 0 _ rfl
    have k3 := HK1.out.frozen 0
    go_wp2_with fail
    refine bp_gen fun wf hwf => ?_
    have HRF : Blk wf w.heap.size 26 [.slice none 0 0] := by rw [hwf]; first | exact HK1.out | exact HK1.out.set 0 _
    have hbf : Below w.heap.size w wf := by rw [hwf]; first | exact HB1.out | exact HB1.out.setCell (p := ⟨w.heap.size, 0, none⟩) (Nat.le_refl _) _
    have q0 := HRF.cell 0 _ rfl
    clear hwf k2 k3
    exact bodyPost_ret (v := .tuple #[.agg #[.slice none 0 0], .int .i64 2]) (by simp [results, Try.results36, go_sem, q0]) rfl ⟨_, _, rfl, hbf, .inl ⟨rfl, rfl⟩⟩

set_option maxRecDepth 100000 in
theorem nwDhS (x : Int) (zs : List (List Int)) (code : Int) (k : Nat) (w : World) (hlo : -9223372036854775808 ≤ x) (hhi : x ≤ 9223372036854775807) (hres : DhRes x zs code) (hk : zs.length = k) :
    Calls Try.prog 35 #[.int .i64 x] w (fun e w' => ∃ A' c', e = .returned (.tuple #[.agg #[.slice A' k c'], .int .i64 code]) ∧ Below w.heap.size w w' ∧ Obj2 33 2 w.heap.size w'.heap.size w' A' zs) := by
  rcases hres with ⟨hg, rfl, rfl⟩ | ⟨hg, rfl, rfl⟩
  · obtain ⟨n, rfl⟩ : ∃ n : Nat, x = (n : Int) := ⟨x.toNat, by omega⟩
    have h1 : 1 ≤ n := by omega
    have h12 : n ≤ 12 := by omega
    have hkn : k = n := by rw [← hk, grid_length]; simp
    subst hkn
    obtain ⟨n, hnk⟩ : ∃ n, k = n := ⟨_, rfl⟩
    subst hnk
    clear hk
    rw [show ((k : Int)).toNat = k by simp]
    have HB0 := hide ((Below.refl _ w).alloc (Nat.le_refl _) (Obj.cells #[.slice none 0 0] 26))
    have HK0 := hide (Blk.new w 26 [.slice none 0 0])
    go_enter Try.func35, Try.ntmps35
    go_wp2_with fail
    refine (in_any _ 1 12 true _ (by simp; omega)).mono ?_
    rintro e w1 ⟨rfl, hq1⟩
    have HB1 := hide (HB0.out.trans (hq1.below _))
    have HK1 := hide (HK0.out.later (hq1.below _))
    clear hq1 HB0 HK0
    have hr : (2 : Int).tmod (k : Int) = ((2 % k : Nat) : Int) := by rw [Int.ofNat_tmod]; rfl
    have hr12 : 2 % k ≤ 12 := Nat.le_trans (Nat.mod_le _ _) (by omega)
    obtain ⟨r, hre⟩ : ∃ r, 2 % k = r := ⟨_, rfl⟩
    rw [hre] at hr hr12
    have HRE := hide hre
    have hk0 : ¬ (k : Int) = 0 := by omega
    obtain ⟨m, hm⟩ : ∃ m, k - 1 = m := ⟨_, rfl⟩
    have HM := hide hm
    have hmz : (k : Int) - 1 = (m : Int) := by omega
    have hm12 : m ≤ 12 := by omega
    clear hre hm
    go_wp2_with fail
    refine (alx_any k m r _ h1 h12 hm12 hr12).mono ?_
    rw [show grid k (alxH k _ _) = grid k (dhH k) from grid_congr _ _ _ (fun a b ha hb => by unfold alxH dhH; rw [← HRE.out, ← HM.out, alx_mod])]
    rintro e w3 ⟨A3, c3, rfl, hb3, ho3⟩
    have HB3 := hide (HB1.out.trans (hb3.mono HB1.out.size))
    have HK3 := hide (HK1.out.later hb3)
    have HO3 := hide ho3
    have hlow : w.heap.size < w1.heap.size := HK1.out.lt
    clear hb3 ho3
    have k2 := HK3.out.cell 0 _ rfl
    have k3 := HK3.out.frozen 0
    go_wp2_with fail
    refine bp_gen fun wf hwf => ?_
    obtain ⟨q0, hbf, hof⟩ := kend hwf HK3.out (Nat.le_refl _) HB3.out HO3.out (by omega) hlow (Nat.le_refl _)
    clear hwf k2 k3
    exact bodyPost_ret (v := .tuple #[.agg #[.slice A3 k c3], .int .i64 0]) (by simp [results, Try.results35, go_sem, q0]) rfl ⟨_, _, rfl, hbf, hof⟩
  · have hk0 : k = 0 := by rw [← hk]; rfl
    subst hk0
    clear hk
    have HB0 := hide ((Below.refl _ w).alloc (Nat.le_refl _) (Obj.cells #[.slice none 0 0] 26))
    have HK0 := hide (Blk.new w 26 [.slice none 0 0])
    go_enter Try.func35, Try.ntmps35
    go_wp2_with fail
    refine (in_any _ 1 12 false _ (by simp; omega)).mono ?_
    rintro e w1 ⟨rfl, hq1⟩
    have HB1 := hide (HB0.out.trans (hq1.below _))
    have HK1 := hide (HK0.out.later (hq1.below _))
    clear hq1 HB0 HK0
    have k2 := HK1.out.cell 0 _ rfl
    have k3 := HK1.out.frozen 0
    go_wp2_with fail
    refine bp_gen fun wf hwf => ?_
    have HRF : Blk wf w.heap.size 26 [.slice none 0 0] := by rw [hwf]; first | exact HK1.out | exact HK1.out.set 0 _
    have hbf : Below w.heap.size w wf := by rw [hwf]; first | exact HB1.out | exact HB1.out.setCell (p := ⟨w.heap.size, 0, none⟩) (Nat.le_refl _) _
    have q0 := HRF.cell 0 _ rfl
    clear hwf k2 k3
    exact bodyPost_ret (v := .tuple #[.agg #[.slice none 0 0], .int .i64 2]) (by simp [results, Try.results35, go_sem, q0]) rfl ⟨_, _, rfl, hbf, .inl ⟨rfl, rfl⟩⟩

end Go.Proofs.Ytkflmhmbkilmpab
