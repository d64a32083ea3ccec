import Derived.Test.YtljdfanebjhhmaaZav
import Derived.Test.YtljdfanebjhhmaaZba
import Derived.Test.YtljdfanebjhhmaaZam
import Derived.Test.YtljdfanebjhhmaaZal
import Derived.Test.YtljdfanebjhhmaaZe
import Derived.Test.YtljdfanebjhhmaaZaq
import Derived.Test.YtljdfanebjhhmaaZu
import Derived.Deep.Cut
import Derived.Test.YtljdfanebjhhmaaZax
namespace Go.Proofs.Ytljdfanebjhhmaa
open Go Go.RowKit
set_option maxHeartbeats 2000000

set_option maxRecDepth 100000 in
theorem qtC_any (A : Option Addr) (n c : Nat) (f : List (List Int)) (B : Option Addr) (m d : Nat) (xs : List Int) (ba bb : Nat) (w : World) (hn : f.length = n) (ht : Tbl f) (hr : Rd2 w A f) (hm : xs.length = m) (hmn : m = n) (hx : Rd w B xs) (hcn : Canon xs) (K : Nat) (hK : nxt xs m = K)
    (hk1 : Blk w ba 26 [.slice A n c]) (hk2 : Blk w bb 33 [.slice B m d]) :
    CellFn Try.prog 56 #[.pointer (some ⟨bb, 0, none⟩), .pointer (some ⟨ba, 0, none⟩)] K (quH f xs) w := by
  intro W x y hxm hym hb
  have h1 : 1 ≤ n := by rw [← hn]; exact ht.1
  have h12 : n ≤ 12 := by rw [← hn]; exact ht.2.1
  obtain ⟨b, o, hB, hbw, hc⟩ := hx (by omega)
  subst hB
  have HRA := hide (hr.later hb)
  have HKa := hide (hk1.later hb)
  have HKb := hide (hk2.later hb)
  have HT := hide ht
  have HN := hide hn
  have HM := hide hm
  have HRX : Hid (Rd W (some ⟨b, o, none⟩) xs) := hide (hx.later hb)
  have hbW : b < W.heap.size := Nat.lt_of_lt_of_le hbw hb.size
  have fx := fstc_ok hcn (k := x) (by rw [hm, hK]; exact hxm)
  have fy := fstc_ok hcn (k := y) (by rw [hm, hK]; exact hym)
  have hxK : x < m := Nat.lt_of_lt_of_le hxm (hK ▸ nxt_le xs m)
  have hyK : y < m := Nat.lt_of_lt_of_le hym (hK ▸ nxt_le xs m)
  unfold quH
  obtain ⟨xa, hxa⟩ : ∃ a, fstc xs x = a := ⟨_, rfl⟩
  obtain ⟨ya, hya⟩ : ∃ a, fstc xs y = a := ⟨_, rfl⟩
  rw [hxa] at fx ⊢
  rw [hya] at fy ⊢
  rw [hm] at fx fy
  have hxn : xa < n := by omega
  have hyn : ya < n := by omega
  have hvn := ht.ap_lt hn hxn hyn
  obtain ⟨v, hve⟩ : ∃ a, ap f xa ya = a := ⟨_, rfl⟩
  rw [hve] at hvn ⊢
  have HU := hide hve
  have hcv := hcn.val (i := v) (by omega)
  have c1 := (hb.cell (p := ⟨b, o + v, none⟩) hbw).trans (hc v (by omega))
  rw [hcv.1] at c1
  obtain ⟨u, hu⟩ : ∃ a, cl xs v = a := ⟨_, rfl⟩
  rw [hu] at c1 ⊢
  have HC1 := hide c1
  have HFX := hide fx.2
  have HFY := hide fy.2
  have hvz : (v : Int) < m := by omega
  have e1 : IntKind.i64.wrap (xa : Int) = (xa : Int) := IntWalk.i64_in _ (by omega)
  have e2 : IntKind.i64.wrap (ya : Int) = (ya : Int) := IntWalk.i64_in _ (by omega)
  have hm12 : m ≤ 12 := by omega
  clear hr hk1 hk2 hb hn hm ht hx hc hcn hve hxa hya fx fy hcv c1 hu hxm hym hK hmn
  show Calls Try.prog 56 #[.int .i64 x, .int .i64 y, .pointer (some ⟨bb, 0, none⟩), .pointer (some ⟨ba, 0, none⟩)] W _
  go_enter Try.func56, Try.ntmps56
  go_upto_region 1 with fail
  refine wp_gen fun w1 hw1 => ?_
  have HBc : Hid (Below W.heap.size W w1) := hide (by rw [hw1]; exact Below.refl _ _)
  replace HKa : Hid (Blk w1 ba 26 [.slice A n c]) := hide (by rw [hw1]; exact HKa.out)
  replace HKb : Hid (Blk w1 bb 33 [.slice (some ⟨b, o, none⟩) m d]) := hide (by rw [hw1]; exact HKb.out)
  clear hw1
  have k0 := HKa.out.cell 0 _ rfl
  have k1 := HKb.out.cell 0 _ rfl
  have c1 := (HBc.out.cell (p := ⟨b, o + v, none⟩) hbW).trans HC1.out
  have tok0 : True := trivial

  go_region_held3 (fun w' => w'.cell? ⟨bb, 0, none⟩ = some (.slice (some ⟨b, o, none⟩) m d)) (first | exact k1 | go_keep) (first | (go_at_call 57; have _t := tok0; clear _t tok0; go_must (refine calls_gen fun wc hwc => ?_; (first | have hbx := drew_below hwc | have hbx := eq_below hwc); replace HBc := hide (HBc.out.trans (hbx.mono HBc.out.size)); replace HKa := hide (HKa.out.later hbx); replace HKb := hide (HKb.out.later hbx); clear hwc hbx; refine (quiet_below (indexI_any _ m _ xs x _ HM.out (by omega) (HRX.out.later HBc.out))).mono ?_; rintro e wd ⟨rfl, hbd⟩; rw [HFX.out]; replace HBc := hide (HBc.out.trans (hbd.mono HBc.out.size)); replace HKa := hide (HKa.out.later hbd); replace HKb := hide (HKb.out.later hbd); clear hbd; have k0 := HKa.out.cell 0 _ rfl; have k1 := HKb.out.cell 0 _ rfl; have c1 := (HBc.out.cell (p := ⟨b, o + v, none⟩) hbW).trans HC1.out)) | (go_at_call 57; go_must (refine calls_gen fun wc hwc => ?_; (first | have hbx := drew_below hwc | have hbx := eq_below hwc); replace HBc := hide (HBc.out.trans (hbx.mono HBc.out.size)); replace HKa := hide (HKa.out.later hbx); replace HKb := hide (HKb.out.later hbx); clear hwc hbx; refine (quiet_below (indexI_any _ m _ xs y _ HM.out (by omega) (HRX.out.later HBc.out))).mono ?_; rintro e wd ⟨rfl, hbd⟩; rw [HFY.out]; replace HBc := hide (HBc.out.trans (hbd.mono HBc.out.size)); replace HKa := hide (HKa.out.later hbd); replace HKb := hide (HKb.out.later hbd); clear hbd; have k0 := HKa.out.cell 0 _ rfl; have k1 := HKb.out.cell 0 _ rfl; have c1 := (HBc.out.cell (p := ⟨b, o + v, none⟩) hbW).trans HC1.out)))
  all_goals
    clear k0 k1 c1
    go_upto_region 2 with fail
    have k0 := HKa.out.cell 0 _ rfl
    have k1 := HKb.out.cell 0 _ rfl
    have c1 := (HBc.out.cell (p := ⟨b, o + v, none⟩) hbW).trans HC1.out
    go_region_held3 (fun w' => w'.cell? ⟨ba, 0, none⟩ = some (.slice A n c) ∧ w'.cell? ⟨bb, 0, none⟩ = some (.slice (some ⟨b, o, none⟩) m d) ∧ w'.cell? ⟨b, o + v, none⟩ = some (.int .i64 u)) (first | exact ⟨k0, k1, c1⟩ | go_keep) (first | (go_at_call 45; go_must (refine calls_gen fun wc hwc => ?_; (first | have hbx := drew_below hwc | have hbx := eq_below hwc); replace HBc := hide (HBc.out.trans (hbx.mono HBc.out.size)); replace HKa := hide (HKa.out.later hbx); replace HKb := hide (HKb.out.later hbx); clear hwc hbx; refine (act_any _ _ _ f xa ya v _ HN.out HT.out (HRA.out.later HBc.out) hxn hyn HU.out).mono ?_; rintro e wd ⟨rfl, hbd⟩; replace HBc := hide (HBc.out.trans (hbd.mono HBc.out.size)); replace HKa := hide (HKa.out.later hbd); replace HKb := hide (HKb.out.later hbd); clear hbd; have k0 := HKa.out.cell 0 _ rfl; have k1 := HKb.out.cell 0 _ rfl; have c1 := (HBc.out.cell (p := ⟨b, o + v, none⟩) hbW).trans HC1.out)))
    all_goals clear k0 k1 c1
    all_goals go_wp2_with fail
    all_goals go_ret
    all_goals exact ⟨rfl, HBc.out⟩
end Go.Proofs.Ytljdfanebjhhmaa
namespace Go.Proofs.Ytljdfanebjhhmaa
open Go Go.RowKit
set_option maxHeartbeats 2000000

set_option maxRecDepth 100000 in
theorem qtS_any (A : Option Addr) (n c : Nat) (f : List (List Int)) (B : Option Addr) (m d : Nat) (xs : List Int) (zs : List (List Int)) (code : Int) (k : Nat) (w : World) (hn : f.length = n) (hb : n ≤ 1048576) (hbs : ∀ i, i < f.length → (f.getD i []).length ≤ 1048576) (hr : Rd2 w A f) (hm : xs.length = m) (hbm : m ≤ 1048576) (hx : Rd w B xs) (hres : QtRes f xs zs code) (hk : zs.length = k) :
    Calls Try.prog 23 #[.agg #[.slice A n c], .slice B m d] w (fun e w' => ∃ A' c', e = .returned (.tuple #[.agg #[.slice A' k c'], .int .i64 code]) ∧ Below w.heap.size w w' ∧ Obj2 33 2 w.heap.size w'.heap.size w' A' zs) := by
  have HN := hide hn
  have HBS := hide hbs
  have HRD := hide hr
  have HM := hide hm
  have HX := hide hx
  clear hbs hr hx
  rcases hres with ⟨⟨h1, h2⟩, h3, rfl, rfl⟩ | ⟨⟨h1, h2⟩, h3, rfl, rfl⟩ | ⟨hno, rfl, rfl⟩
  · have HTB := hide h1.tbl
    have h1n : 1 ≤ n := by rw [← hn]; exact h1.tbl.1
    have h12 : n ≤ 12 := by rw [← hn]; exact h1.tbl.2.1
    have HP := hide h2
    have hmn : m = n := by rw [← hm, h2.1, hn]
    have h1m : 1 ≤ m := by omega
    have h12m : m ≤ 12 := by omega
    have HMN := hide hmn
    have HPP : Hid (m = n ∧ Canon xs) := hide ⟨hmn, h2.2⟩
    have HCD : Hid (CdRes f xs 0) := hide (.inl ⟨h1, h2, rfl⟩)
    have HCG := hide h3
    have hkk : nxt xs m = k := by rw [← hk, grid_length, hm]
    have hk1 : 1 ≤ k := by rw [← hkk, ← hm]; exact nxt_pos h2.2 (by omega)
    have hkm : k ≤ m := by rw [← hkk]; exact nxt_le xs m
    have HMX : Hid (IsMax xs ((k - 1 : Nat) : Int)) := hide (by rw [← hkk, ← hm]; exact nxt_max h2.2 (by omega))
    have hkz : ((k - 1 : Nat) : Int) + 1 = (k : Int) := by omega
    obtain ⟨k', hk'⟩ : ∃ a, k - 1 = a := ⟨_, rfl⟩
    rw [hk'] at HMX hkz
    rw [hm, hkk]
    have HKK := hide hkk
    clear hn hm hk h1 h2 h3 hk' hkk hmn
    skip
    skip
    skip
    skip
    go_enter Try.func23, Try.ntmps23
    go_wp2_with fail
    refine calls_gen fun wd hw0 => ?_
    have HB : Hid (Below w.heap.size w wd) := hide (by rw [hw0]; exact ((Below.refl _ _).alloc (Nat.le_refl _) _).alloc (by simp) _)
    have HK : Hid (Blk wd w.heap.size 26 [.slice A n c]) := hide (by rw [hw0]; exact (Blk.new _ _ _).alloc _)
    have HR : Hid (Blk wd (w.heap.size + 1) 26 [.slice none 0 0]) := hide (by rw [hw0]; have h := Blk.new (w.alloc (Obj.cells #[.slice A n c] 26)) 26 [.slice none 0 0]; simpa using h)
    clear hw0
    refine (l04Code_any _ _ _ f _ _ _ xs 0 _ HN.out hb HBS.out (HRD.out.later HB.out) HM.out hbm (HX.out.later HB.out) HCD.out).mono ?_
    rintro e wd ⟨rfl, hbd⟩
    replace HB := hide (HB.out.trans (hbd.mono HB.out.size))
    replace HK := hide (HK.out.later hbd)
    replace HR := hide (HR.out.later hbd)
    clear hbd
    have k0 := HK.out.cell 0 _ rfl
    go_wp2_with fail
    clear k0
    refine (l04Cg_any _ _ _ f _ _ _ xs true _ HN.out HTB.out (HRD.out.later HB.out) HM.out (HX.out.later HB.out) HP.out (by simp [HCG.out])).mono ?_
    rintro e wd ⟨rfl, hbd⟩
    replace HB := hide (HB.out.trans (hbd.mono HB.out.size))
    replace HK := hide (HK.out.later hbd)
    replace HR := hide (HR.out.later hbd)
    clear hbd
    have k0 := HK.out.cell 0 _ rfl
    go_wp2_with fail
    clear k0
    refine (l04Quot_any _ n _ f _ m _ xs _ HN.out HTB.out (HRD.out.later HB.out) HM.out (HX.out.later HB.out) HP.out k HKK.out).mono ?_
    rintro e we ⟨A3, c3, rfl, hbd, ho3⟩
    have HO3 := hide ho3
    have hlow : w.heap.size + 1 < wd.heap.size := HR.out.lt
    replace HB := hide (HB.out.trans (hbd.mono HB.out.size))
    replace HR := hide (HR.out.later hbd)
    clear hbd ho3
    have k2 := HR.out.cell 0 _ rfl
    have k3 := HR.out.frozen 0
    go_wp2_with fail
    refine bp_gen fun wf hwf => ?_
    obtain ⟨q0, hbf, hof⟩ := kend hwf HR.out (by omega) HB.out HO3.out (by omega) hlow (Nat.le_refl _)
    clear hwf k2 k3
    exact bodyPost_ret (v := .tuple #[.agg #[.slice A3 k c3], .int .i64 0]) (by simp [results, Try.results23, go_sem, q0]) rfl ⟨_, _, rfl, hbf, hof⟩
  · have HTB := hide h1.tbl
    have h1n : 1 ≤ n := by rw [← hn]; exact h1.tbl.1
    have h12 : n ≤ 12 := by rw [← hn]; exact h1.tbl.2.1
    have HP := hide h2
    have hmn : m = n := by rw [← hm, h2.1, hn]
    have h1m : 1 ≤ m := by omega
    have h12m : m ≤ 12 := by omega
    have HMN := hide hmn
    have HPP : Hid (m = n ∧ Canon xs) := hide ⟨hmn, h2.2⟩
    have HCD : Hid (CdRes f xs 0) := hide (.inl ⟨h1, h2, rfl⟩)
    have hk0 : k = 0 := by rw [← hk]; rfl
    subst hk0
    have HCG := hide h3
    clear hn hm hk h1 h2 h3 hmn
    skip
    skip
    skip
    skip
    go_enter Try.func23, Try.ntmps23
    go_wp2_with fail
    refine calls_gen fun wd hw0 => ?_
    have HB : Hid (Below w.heap.size w wd) := hide (by rw [hw0]; exact ((Below.refl _ _).alloc (Nat.le_refl _) _).alloc (by simp) _)
    have HK : Hid (Blk wd w.heap.size 26 [.slice A n c]) := hide (by rw [hw0]; exact (Blk.new _ _ _).alloc _)
    have HR : Hid (Blk wd (w.heap.size + 1) 26 [.slice none 0 0]) := hide (by rw [hw0]; have h := Blk.new (w.alloc (Obj.cells #[.slice A n c] 26)) 26 [.slice none 0 0]; simpa using h)
    clear hw0
    refine (l04Code_any _ _ _ f _ _ _ xs 0 _ HN.out hb HBS.out (HRD.out.later HB.out) HM.out hbm (HX.out.later HB.out) HCD.out).mono ?_
    rintro e wd ⟨rfl, hbd⟩
    replace HB := hide (HB.out.trans (hbd.mono HB.out.size))
    replace HK := hide (HK.out.later hbd)
    replace HR := hide (HR.out.later hbd)
    clear hbd
    have k0 := HK.out.cell 0 _ rfl
    go_wp2_with fail
    clear k0
    refine (l04Cg_any _ _ _ f _ _ _ xs false _ HN.out HTB.out (HRD.out.later HB.out) HM.out (HX.out.later HB.out) HP.out (by simp [HCG.out])).mono ?_
    rintro e wd ⟨rfl, hbd⟩
    replace HB := hide (HB.out.trans (hbd.mono HB.out.size))
    replace HK := hide (HK.out.later hbd)
    replace HR := hide (HR.out.later hbd)
    clear hbd
    have k2 := HR.out.cell 0 _ rfl
    have k3 := HR.out.frozen 0
    go_wp2_with fail
    refine bp_gen fun wf hwf => ?_
    have HRF : Blk wf (w.heap.size + 1) 26 [.slice none 0 0] := by rw [hwf]; first | exact HR.out | exact HR.out.set 0 _
    have hbf : Below w.heap.size w wf := by rw [hwf]; first | exact HB.out | exact HB.out.setCell (p := ⟨w.heap.size + 1, 0, none⟩) (by show w.heap.size ≤ w.heap.size + 1; omega) _
    have q0 := HRF.cell 0 _ rfl
    clear hwf k2 k3
    exact bodyPost_ret (v := .tuple #[.agg #[.slice none 0 0], .int .i64 5]) (by simp [results, Try.results23, go_sem, q0]) rfl ⟨_, _, rfl, hbf, .inl ⟨rfl, rfl⟩⟩
  · have hk0 : k = 0 := by rw [← hk]; rfl
    subst hk0
    have HCD : Hid (CdRes f xs 1) := hide (.inr ⟨hno, rfl⟩)
    clear hn hm hk hno
    skip
    skip
    skip
    skip
    go_enter Try.func23, Try.ntmps23
    go_wp2_with fail
    refine calls_gen fun wd hw0 => ?_
    have HB : Hid (Below w.heap.size w wd) := hide (by rw [hw0]; exact ((Below.refl _ _).alloc (Nat.le_refl _) _).alloc (by simp) _)
    have HK : Hid (Blk wd w.heap.size 26 [.slice A n c]) := hide (by rw [hw0]; exact (Blk.new _ _ _).alloc _)
    have HR : Hid (Blk wd (w.heap.size + 1) 26 [.slice none 0 0]) := hide (by rw [hw0]; have h := Blk.new (w.alloc (Obj.cells #[.slice A n c] 26)) 26 [.slice none 0 0]; simpa using h)
    clear hw0
    refine (l04Code_any _ _ _ f _ _ _ xs 1 _ HN.out hb HBS.out (HRD.out.later HB.out) HM.out hbm (HX.out.later HB.out) HCD.out).mono ?_
    rintro e wd ⟨rfl, hbd⟩
    replace HB := hide (HB.out.trans (hbd.mono HB.out.size))
    replace HK := hide (HK.out.later hbd)
    replace HR := hide (HR.out.later hbd)
    clear hbd
    have k2 := HR.out.cell 0 _ rfl
    have k3 := HR.out.frozen 0
    go_wp2_with fail
    refine bp_gen fun wf hwf => ?_
    have HRF : Blk wf (w.heap.size + 1) 26 [.slice none 0 0] := by rw [hwf]; first | exact HR.out | exact HR.out.set 0 _
    have hbf : Below w.heap.size w wf := by rw [hwf]; first | exact HB.out | exact HB.out.setCell (p := ⟨w.heap.size + 1, 0, none⟩) (by show w.heap.size ≤ w.heap.size + 1; omega) _
    have q0 := HRF.cell 0 _ rfl
    clear hwf k2 k3
    exact bodyPost_ret (v := .tuple #[.agg #[.slice none 0 0], .int .i64 1]) (by simp [results, Try.results23, go_sem, q0]) rfl ⟨_, _, rfl, hbf, .inl ⟨rfl, rfl⟩⟩

end Go.Proofs.Ytljdfanebjhhmaa
