import Derived.Test.YtkflmhmbkilmpabAxF
import Derived.Test.YtkflmhmbkilmpabByI
import Derived.Test.YtkflmhmbkilmpabRmI
import Derived.Test.YtkflmhmbkilmpabGcI
import Derived.Test.YtkflmhmbkilmpabLst1
namespace Go.Proofs.Ytkflmhmbkilmpab
open Go Go.RowKit
set_option maxHeartbeats 2000000
set_option maxRecDepth 100000 in
theorem ax_form (n a : Nat) (A B : Option Addr) (n1 c1 n2 c2 : Nat) (w : World) (h1 : 1 ≤ n) (h12 : n ≤ 12) (han : a < n) : FormFn 108 (.agg #[.int .i64 n, .int .i64 a, .slice A n1 c1, .slice B n2 c2]) n (axH n a) w := by
  intro W x y hx hy hb
  have HB0 := hide ((Below.refl _ W).alloc (Nat.le_refl _) (Obj.cells #[.int .i64 n, .int .i64 a, .slice A n1 c1, .slice B n2 c2] 68))
  have HK0 := hide (Blk.new W 68 [.int .i64 n, .int .i64 a, .slice A n1 c1, .slice B n2 c2])
  have HV := hide (ax_eq n a x y han)
  obtain ⟨u, hu⟩ : ∃ u, axH n a x y = u := ⟨_, rfl⟩
  rw [hu] at HV ⊢
  clear hu
  obtain ⟨p, hp⟩ : ∃ p, (1 - (a : Int)) * (x : Int) = p := ⟨_, rfl⟩
  obtain ⟨q, hq⟩ : ∃ q, (a : Int) * (y : Int) = q := ⟨_, rfl⟩
  have hp1 : -144 ≤ p ∧ p ≤ 12 := by
    rw [← hp, Int.sub_mul, Int.one_mul]
    have h2 : a * x ≤ 144 := Nat.le_trans (Nat.mul_le_mul (by omega : a ≤ 12) (by omega : x ≤ 12)) (Nat.le_refl _)
    have h3 : (a : Int) * (x : Int) = ((a * x : Nat) : Int) := by simp
    omega
  have hq1 : 0 ≤ q ∧ q ≤ 144 := by
    rw [← hq]
    have h2 : a * y ≤ 144 := Nat.le_trans (Nat.mul_le_mul (by omega : a ≤ 12) (by omega : y ≤ 12)) (Nat.le_refl _)
    have h3 : (a : Int) * (y : Int) = ((a * y : Nat) : Int) := by simp
    omega
  rw [hp, hq] at HV
  go_enter Try.func108, Try.ntmps108
  have k0 := HK0.out.cell 0 _ rfl
  have k1 := HK0.out.cell 1 _ rfl
  go_wp2_with fail
  refine (remainder_any (p + q) n _ h1 (by omega) (by omega) (by omega)).mono ?_
  rintro e wd ⟨rfl, hbd⟩
  rw [HV.out]
  have HB1 := hide (HB0.out.trans (hbd.mono HB0.out.size))
  clear hbd
  go_wp2_with fail
  go_ret
  exact ⟨rfl, HB1.out⟩
set_option maxRecDepth 100000 in
theorem axI_any (x y : Int) (zs : List (List Int)) (code : Int) (k : Nat) (w : World) (hlo : -9223372036854775808 ≤ x) (hhi : x ≤ 9223372036854775807) (hlo2 : -9223372036854775808 ≤ y) (hhi2 : y ≤ 9223372036854775807) (hres : AxRes x y zs code) (hk : zs.length = k) :
    Calls Try.prog 38 #[.int .i64 x, .int .i64 y] w (fun e w' => ∃ A' c', e = .returned (.tuple #[.agg #[.slice A' k c'], .int .i64 code]) ∧ Below w.heap.size w w' ∧ Obj2 33 2 w.heap.size w'.heap.size w' A' zs) := by
  rcases hres with ⟨⟨hx, hy⟩, hg, rfl, rfl⟩ | ⟨⟨hx, hy⟩, hg, rfl, rfl⟩ | ⟨hno, rfl, rfl⟩
  · obtain ⟨n, rfl⟩ : ∃ n : Nat, x = (n : Int) := ⟨x.toNat, by omega⟩
    obtain ⟨a, rfl⟩ : ∃ a : Nat, y = (a : Int) := ⟨y.toNat, by omega⟩
    have h1 : 1 ≤ n := by omega
    have h12 : n ≤ 12 := by omega
    have han : a < n := by omega
    have hyn : (a : Int) < (n : Int) := by omega
    rw [show ((n : Int)).toNat = n by simp, show ((a : Int)).toNat = a by simp] at hg
    have hkn : n = k := by rw [← hk, grid_length]; simp
    subst hkn
    rw [show ((n : Int)).toNat = n by simp, show ((a : Int)).toNat = a by simp]
    clear hk
    obtain ⟨g, hgg⟩ : ∃ g, Nat.gcd a n = g := ⟨_, rfl⟩
    rw [hgg] at hg
    have hgz : ¬ (1 : Int) < (g : Int) := by omega
    have HG := hide hgg
    clear hgg
    have HB0 := hide ((Below.refl _ w).alloc (Nat.le_refl _) (Obj.cells #[.slice none 0 0] 26))
    have HK0 := hide (Blk.new w 26 [.slice none 0 0])
    go_enter Try.func38, Try.ntmps38
    go_wp2_with fail
    refine (isSize_any _ true _ (by simp; omega)).mono ?_
    rintro e w1 ⟨rfl, hq⟩
    have HB1 := hide (HB0.out.trans (hq.below _))
    have HK1 := hide (HK0.out.later (hq.below _))
    clear hq
    go_wp2_with fail
    refine (gcd_any a n _ (by omega) (by omega)).mono ?_
    rintro e w2 ⟨rfl, hq⟩
    have HB2 := hide (HB1.out.trans (hq.below _))
    have HK2 := hide (HK1.out.later (hq.below _))
    clear hq
    rw [HG.out]
    go_wp2_with fail
    refine (byFormula_any 3 108 n a none none 0 0 0 0 (axH n a) _ (enters_of Try.func108 (by kernel_rfl) rfl) h1 h12 (fun W => formulaOf3_any W) (ax_form _ _ _ _ _ _ _ _ _ h1 h12 han)).mono ?_
    rintro e w3 ⟨A3, c3, rfl, hb3, ho3⟩
    have HB3 := hide (HB2.out.trans (hb3.mono HB2.out.size))
    have HK3 := hide (HK2.out.later hb3)
    have HO3 := hide ho3
    have hlow : w.heap.size < w2.heap.size := HK2.out.lt
    clear hb3 ho3
    have k2 := HK3.out.cell 0 _ rfl
    have k3 := HK3.out.frozen 0
    go_wp2_with fail
    refine bp_gen fun wf hwf => ?_
    obtain ⟨q0, hbf, hof⟩ := kend hwf HK3.out (Nat.le_refl _) HB3.out HO3.out (by omega) hlow (Nat.le_refl _)
    clear hwf k2 k3
    exact bodyPost_ret (v := .tuple #[.agg #[.slice A3 n c3], .int .i64 0]) (by simp [results, Try.results38, go_sem, q0]) rfl ⟨_, _, rfl, hbf, hof⟩
  · obtain ⟨n, rfl⟩ : ∃ n : Nat, x = (n : Int) := ⟨x.toNat, by omega⟩
    obtain ⟨a, rfl⟩ : ∃ a : Nat, y = (a : Int) := ⟨y.toNat, by omega⟩
    have h1 : 1 ≤ n := by omega
    have h12 : n ≤ 12 := by omega
    have han : a < n := by omega
    have hyn : (a : Int) < (n : Int) := by omega
    rw [show ((n : Int)).toNat = n by simp, show ((a : Int)).toNat = a by simp] at hg
    have hk0 : k = 0 := by rw [← hk]; rfl
    subst hk0
    clear hk
    obtain ⟨g, hgg⟩ : ∃ g, Nat.gcd a n = g := ⟨_, rfl⟩
    rw [hgg] at hg
    have hgz : (1 : Int) < (g : Int) := by omega
    have HG := hide hgg
    clear hgg
    have HB0 := hide ((Below.refl _ w).alloc (Nat.le_refl _) (Obj.cells #[.slice none 0 0] 26))
    have HK0 := hide (Blk.new w 26 [.slice none 0 0])
    go_enter Try.func38, Try.ntmps38
    go_wp2_with fail
    refine (isSize_any _ true _ (by simp; omega)).mono ?_
    rintro e w1 ⟨rfl, hq⟩
    have HB1 := hide (HB0.out.trans (hq.below _))
    have HK1 := hide (HK0.out.later (hq.below _))
    clear hq
    go_wp2_with fail
    refine (gcd_any a n _ (by omega) (by omega)).mono ?_
    rintro e w2 ⟨rfl, hq⟩
    have HB2 := hide (HB1.out.trans (hq.below _))
    have HK2 := hide (HK1.out.later (hq.below _))
    clear hq
    rw [HG.out]
    have k2 := HK2.out.cell 0 _ rfl
    have k3 := HK2.out.frozen 0
    go_wp2_with fail
    refine bp_gen fun wf hwf => ?_
    have HRF : Blk wf w.heap.size 26 [.slice none 0 0] := by rw [hwf]; first | exact HK2.out | exact HK2.out.set 0 _
    have hbf : Below w.heap.size w wf := by rw [hwf]; first | exact HB2.out | exact HB2.out.setCell (p := ⟨w.heap.size, 0, none⟩) (Nat.le_refl _) _
    have q0 := HRF.cell 0 _ rfl
    clear hwf k2 k3
    exact bodyPost_ret (v := .tuple #[.agg #[.slice none 0 0], .int .i64 5]) (by simp [results, Try.results38, go_sem, q0]) rfl ⟨_, _, rfl, hbf, .inl ⟨rfl, rfl⟩⟩
  · have hk0 : k = 0 := by rw [← hk]; rfl
    subst hk0
    clear hk
    by_cases hx : 1 ≤ x ∧ x ≤ 12
    · by_cases hy : y < 0
      · skip
        have HB0 := hide ((Below.refl _ w).alloc (Nat.le_refl _) (Obj.cells #[.slice none 0 0] 26))
        have HK0 := hide (Blk.new w 26 [.slice none 0 0])
        go_enter Try.func38, Try.ntmps38
        go_wp2_with fail
        refine (isSize_any _ true _ (by simp; omega)).mono ?_
        rintro e w1 ⟨rfl, hq⟩
        have HB1 := hide (HB0.out.trans (hq.below _))
        have HK1 := hide (HK0.out.later (hq.below _))
        clear hq
        have k2 := HK1.out.cell 0 _ rfl
        have k3 := HK1.out.frozen 0
        go_wp2_with fail
        refine bp_gen fun wf hwf => ?_
        have HRF : Blk wf w.heap.size 26 [.slice none 0 0] := by rw [hwf]; first | exact HK1.out | exact HK1.out.set 0 _
        have hbf : Below w.heap.size w wf := by rw [hwf]; first | exact HB1.out | exact HB1.out.setCell (p := ⟨w.heap.size, 0, none⟩) (Nat.le_refl _) _
        have q0 := HRF.cell 0 _ rfl
        clear hwf k2 k3
        exact bodyPost_ret (v := .tuple #[.agg #[.slice none 0 0], .int .i64 2]) (by simp [results, Try.results38, go_sem, q0]) rfl ⟨_, _, rfl, hbf, .inl ⟨rfl, rfl⟩⟩
      · have hy2 : ¬ y < x := by omega
        have HB0 := hide ((Below.refl _ w).alloc (Nat.le_refl _) (Obj.cells #[.slice none 0 0] 26))
        have HK0 := hide (Blk.new w 26 [.slice none 0 0])
        go_enter Try.func38, Try.ntmps38
        go_wp2_with fail
        refine (isSize_any _ true _ (by simp; omega)).mono ?_
        rintro e w1 ⟨rfl, hq⟩
        have HB1 := hide (HB0.out.trans (hq.below _))
        have HK1 := hide (HK0.out.later (hq.below _))
        clear hq
        have k2 := HK1.out.cell 0 _ rfl
        have k3 := HK1.out.frozen 0
        go_wp2_with fail
        refine bp_gen fun wf hwf => ?_
        have HRF : Blk wf w.heap.size 26 [.slice none 0 0] := by rw [hwf]; first | exact HK1.out | exact HK1.out.set 0 _
        have hbf : Below w.heap.size w wf := by rw [hwf]; first | exact HB1.out | exact HB1.out.setCell (p := ⟨w.heap.size, 0, none⟩) (Nat.le_refl _) _
        have q0 := HRF.cell 0 _ rfl
        clear hwf k2 k3
        exact bodyPost_ret (v := .tuple #[.agg #[.slice none 0 0], .int .i64 2]) (by simp [results, Try.results38, go_sem, q0]) rfl ⟨_, _, rfl, hbf, .inl ⟨rfl, rfl⟩⟩
    · skip
      have HB0 := hide ((Below.refl _ w).alloc (Nat.le_refl _) (Obj.cells #[.slice none 0 0] 26))
      have HK0 := hide (Blk.new w 26 [.slice none 0 0])
      go_enter Try.func38, Try.ntmps38
      go_wp2_with fail
      refine (isSize_any _ false _ (by simp; omega)).mono ?_
      rintro e w1 ⟨rfl, hq⟩
      have HB1 := hide (HB0.out.trans (hq.below _))
      have HK1 := hide (HK0.out.later (hq.below _))
      clear hq
      have k2 := HK1.out.cell 0 _ rfl
      have k3 := HK1.out.frozen 0
      go_wp2_with fail
      refine bp_gen fun wf hwf => ?_
      have HRF : Blk wf w.heap.size 26 [.slice none 0 0] := by rw [hwf]; first | exact HK1.out | exact HK1.out.set 0 _
      have hbf : Below w.heap.size w wf := by rw [hwf]; first | exact HB1.out | exact HB1.out.setCell (p := ⟨w.heap.size, 0, none⟩) (Nat.le_refl _) _
      have q0 := HRF.cell 0 _ rfl
      clear hwf k2 k3
      exact bodyPost_ret (v := .tuple #[.agg #[.slice none 0 0], .int .i64 2]) (by simp [results, Try.results38, go_sem, q0]) rfl ⟨_, _, rfl, hbf, .inl ⟨rfl, rfl⟩⟩
end Go.Proofs.Ytkflmhmbkilmpab
