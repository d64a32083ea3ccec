import Derived.Test.YtkflmhmbkilmpabPrF
import Derived.Test.YtkflmhmbkilmpabByI
import Derived.Test.YtkflmhmbkilmpabPrm
import Derived.Test.YtkflmhmbkilmpabLst1
namespace Go.Proofs.Ytkflmhmbkilmpab
open Go Go.RowKit
set_option maxHeartbeats 2000000
set_option maxRecDepth 100000 in
theorem pr_form (n : Nat) (a : Int) (A B : Option Addr) (xs : List Int) (c1 n2 c2 : Nat) (w : World) (hn : xs.length = n) (h12 : n ≤ 12) (hr : Rd w A xs) : FormFn 105 (.agg #[.int .i64 n, .int .i64 a, .slice A n c1, .slice B n2 c2]) n (prH xs) w := by
  intro W x y hx hy hb
  obtain ⟨b, o, rfl, hbw, hc⟩ := hr (by omega)
  have e1 := (hb.cell (p := ⟨b, o + y, none⟩) hbw).trans (hc y (by omega))
  have HB0 := hide ((Below.refl _ W).alloc (Nat.le_refl _) (Obj.cells #[.int .i64 n, .int .i64 a, .slice (some ⟨b, o, none⟩) n c1, .slice B n2 c2] 68))
  have HK0 := hide (Blk.new W 68 [.int .i64 n, .int .i64 a, .slice (some ⟨b, o, none⟩) n c1, .slice B n2 c2])
  have e2 := (HB0.out.cell (p := ⟨b, o + y, none⟩) (Nat.lt_of_lt_of_le hbw hb.size)).trans e1
  have hyz : (y : Int) < n := by omega
  unfold prH
  obtain ⟨u, hu⟩ : ∃ u, xs.getD y 0 = u := ⟨_, rfl⟩
  rw [hu] at e2 ⊢
  clear hu e1 hc hr hn hb
  go_enter Try.func105, Try.ntmps105
  have k0 := HK0.out.cell 2 _ rfl
  go_wp2_with fail
  go_ret
  exact ⟨rfl, HB0.out⟩

set_option maxRecDepth 100000 in
theorem prwI (A : Option Addr) (n c : Nat) (xs : List Int) (zs : List (List Int)) (code : Int) (k : Nat) (w : World) (hn : xs.length = n) (hb : n ≤ 1048576) (hr : Rd w A xs) (hres : PrRes xs zs code) (hk : zs.length = k) :
    Calls Try.prog 34 #[.slice A n c] w (fun e w' => ∃ A' c', e = .returned (.tuple #[.agg #[.slice A' k c'], .int .i64 code]) ∧ Below w.heap.size w w' ∧ Obj2 33 2 w.heap.size w'.heap.size w' A' zs) := by
  have HN := hide hn
  rcases hres with ⟨hg, rfl, rfl⟩ | ⟨hg, rfl, rfl⟩
  · have h1 : 1 ≤ n := by rw [← hn]; exact hg.1
    have h12 : n ≤ 12 := by rw [← hn]; exact hg.2.1
    have hkn : k = n := by rw [← hk, grid_length, hn]
    subst hkn
    clear hk hn
    rw [HN.out]
    have HB0 := hide ((Below.refl _ w).alloc (Nat.le_refl _) (Obj.cells #[.slice none 0 0] 26))
    have HK0 := hide (Blk.new w 26 [.slice none 0 0])
    have HRD := hide hr
    have HP := hide hg
    clear hr hg
    go_enter Try.func34, Try.ntmps34
    go_wp2_with fail
    refine (isPerm_any _ _ _ xs true _ HN.out (by omega) (HRD.out.later HB0.out) (by simp [HP.out])).mono ?_
    rintro e w1 ⟨rfl, hq1⟩
    have HB1 := hide (HB0.out.trans (hq1.mono HB0.out.size))
    have HK1 := hide (HK0.out.later hq1)
    clear hq1 HB0 HK0
    go_wp2_with fail
    refine (byFormula_any 1 105 k 0 A none k c 0 0 (prH xs) _ (enters_of Try.func105 (by kernel_rfl) rfl) h1 h12 (fun W => formulaOf1_any W) (pr_form _ _ _ _ xs _ _ _ _ HN.out h12 (HRD.out.later HB1.out))).mono ?_
    rintro e w3 ⟨A3, c3, rfl, hb3, ho3⟩
    have HB3 := hide (HB1.out.trans (hb3.mono HB1.out.size))
    have HK3 := hide (HK1.out.later hb3)
    have HO3 := hide ho3
    have hlow : w.heap.size < w1.heap.size := HK1.out.lt
    clear hb3 ho3
    have k2 := HK3.out.cell 0 _ rfl
    have k3 := HK3.out.frozen 0
    go_wp2_with fail
    refine bp_gen fun wf hwf => ?_
    obtain ⟨q0, hbf, hof⟩ := kend hwf HK3.out (Nat.le_refl _) HB3.out HO3.out (by omega) hlow (Nat.le_refl _)
    clear hwf k2 k3
    exact bodyPost_ret (v := .tuple #[.agg #[.slice A3 k c3], .int .i64 0]) (by simp [results, Try.results34, go_sem, q0]) rfl ⟨_, _, rfl, hbf, hof⟩
  · have hk0 : k = 0 := by rw [← hk]; rfl
    subst hk0
    clear hk
    have HB0 := hide ((Below.refl _ w).alloc (Nat.le_refl _) (Obj.cells #[.slice none 0 0] 26))
    have HK0 := hide (Blk.new w 26 [.slice none 0 0])
    have HRD := hide hr
    have HP := hide hg
    clear hr hg
    go_enter Try.func34, Try.ntmps34
    go_wp2_with fail
    refine (isPerm_any _ _ _ xs false _ HN.out (by omega) (HRD.out.later HB0.out) (by simp [HP.out])).mono ?_
    rintro e w1 ⟨rfl, hq1⟩
    have HB1 := hide (HB0.out.trans (hq1.mono HB0.out.size))
    have HK1 := hide (HK0.out.later hq1)
    clear hq1 HB0 HK0
    have k2 := HK1.out.cell 0 _ rfl
    have k3 := HK1.out.frozen 0
    go_wp2_with fail
    refine bp_gen fun wf hwf => ?_
    have HRF : Blk wf w.heap.size 26 [.slice none 0 0] := by rw [hwf]; first | exact HK1.out | exact HK1.out.set 0 _
    have hbf : Below w.heap.size w wf := by rw [hwf]; first | exact HB1.out | exact HB1.out.setCell (p := ⟨w.heap.size, 0, none⟩) (Nat.le_refl _) _
    have q0 := HRF.cell 0 _ rfl
    clear hwf k2 k3
    exact bodyPost_ret (v := .tuple #[.agg #[.slice none 0 0], .int .i64 1]) (by simp [results, Try.results34, go_sem, q0]) rfl ⟨_, _, rfl, hbf, .inl ⟨rfl, rfl⟩⟩

end Go.Proofs.Ytkflmhmbkilmpab
