import Derived.Test.YtgmloaemnbnbgaaZv
import Derived.Test.YtgmloaemnbnbgaaZar
import Derived.Test.YtgmloaemnbnbgaaZak
import Derived.Test.YtgmloaemnbnbgaaZab
import Derived.Test.YtgmloaemnbnbgaaZg
import Derived.Deep.Cut
import Derived.Deep.DeepCutAuto
import Derived.Deep.RegionHeld3
namespace Go.Proofs.Ytgmloaemnbnbgaa
open Go Go.RowKit
set_option maxHeartbeats 4000000
theorem elC_any (A : Option Addr) (n c : Nat) (xs : List Int) (o : Int) (E : List Int) (le : Nat) (w : World) (hn : xs.length = n) (hb : n ≤ 4096) (hE : memTo xs o n = E) (hle : E.length = le) (hr : Rd w A xs) :
    Calls Try.prog 69 #[.slice A n c, .int .i64 o] w fun e w' => ∃ A' c', e = .returned (.slice A' le c') ∧ Below w.heap.size w w' ∧ Res 2 w.heap.size w' A' E := by
  subst hE
  subst hle
  exact elL_any A n c xs o w hn hb hr
set_option maxRecDepth 100000 in
theorem clwI (A : Option Addr) (n c : Nat) (f : List (List Int)) (B : Option Addr) (m d : Nat) (s : List (List Int)) (cls : Int) (zf zg : List (List Int)) (code : Int) (kz kw : Nat) (w : World) (hz : ZArg 1048576 w A n f B m s) (_hx0 : -9223372036854775808 ≤ cls) (_hx1 : cls ≤ 9223372036854775807) (hr : ClRes f s cls zf zg code) (hk : ZSz 1048576 zf kz zg kw) :
    Calls Try.prog 38 #[.agg #[.slice A n c, .slice B m d], .int .i64 cls] w (ZPost 26 2 kz kw zf zg code w) := by
  have HZ := hide hz
  have HFL := hide hz.sz.fl
  rcases hr with ⟨hp, hne, hcl, rfl, rfl, rfl⟩ | ⟨hp, hno, rfl, rfl, rfl⟩ | ⟨hp, rfl, rfl, rfl⟩
  · have HNE := hne
    obtain rfl := hz.same hp.map
    have h1 := (hp.sizes hz.sz.fl).1
    have h12 := (hp.sizes hz.sz.fl).2.1
    have HG := hide hp
    have HCL : Hid ((alC f s).length = m) := hide (by rw [alC_length]; exact hz.sz.fl)
    have hel := clE_le f s cls
    rw [hz.sz.fl] at hel
    obtain ⟨E, hE⟩ : ∃ E, clE f s cls = E := ⟨_, rfl⟩
    obtain ⟨le, hle⟩ : ∃ l, E.length = l := ⟨_, rfl⟩
    rw [hE] at hel HNE
    rw [hle] at hel
    have HE : Hid (memTo (alC f s) cls m = E) := hide (by rw [← hE, ← hz.sz.fl]; rfl)
    have HLE := hide hle
    rw [hE] at hcl hk ⊢
    rw [hle] at hk HNE ⊢
    obtain rfl : le = kz := by rw [← hk.fl, grid_length]
    obtain rfl : kw = le := by rw [← hk.sl, grid_length]
    have HGS := hide hk
    have HINC : Hid (IncSet f.length E) := hide (by have h := memTo_set (xs := alC f s) (o := cls) (n := f.length) (by rw [hz.sz.fl, HE.out, hle]; exact HNE); rw [hz.sz.fl, HE.out] at h; rw [hz.sz.fl]; exact h)
    have HCLF := hide hcl
    clear hp hz hk hcl hne hle hE
    go_enter Try.func38, Try.ntmps38
    go_wp2_with fail
    refine calls_gen fun w0 hw0 => ?_
    have hb0 : Below w.heap.size w w0 := by rw [hw0]; exact ((Below.refl _ _).alloc (Nat.le_refl _) _).alloc (by simp) _
    have HB0 := hide hb0
    have HK0 : Hid (Blk w0 w.heap.size 29 [.slice A m c, .slice B m d]) := hide (by rw [hw0]; exact (Blk.new _ _ _).alloc _)
    have HR0 : Hid (Blk w0 (w.heap.size + 1) 29 [.slice none 0 0, .slice none 0 0]) := hide (by rw [hw0]; have h := Blk.new (w.alloc (Obj.cells #[Value.slice A m c, Value.slice B m d] 29)) 29 [.slice none 0 0, .slice none 0 0]; simpa using h)
    clear hw0 hb0
    refine (nd7I _ _ _ f _ _ _ s true _ (HZ.out.later HB0.out) (by simp [HG.out])).mono ?_
    rintro e w1 ⟨rfl, hb1⟩
    have HB1 := hide (HB0.out.trans (hb1.mono HB0.out.size))
    have HK1 := hide (HK0.out.later hb1)
    have HR1 := hide (HR0.out.later hb1)
    clear hb1
    have HF : Hid (FB w w1 (w1.heap.size - 1) [(w.heap.size + 1, 29, [.slice none 0 0, .slice none 0 0]), (w.heap.size, 29, [.slice A m c, .slice B m d])]) := hide (FB.of HB1.out HK1.out.lt (by simp only [List.forall_mem_cons]; exact ⟨HR1.out, HK1.out, fun q hq => absurd hq (List.not_mem_nil)⟩))
    have k0 := HK1.out.cell 0 _ rfl
    have k1 := HK1.out.cell 1 _ rfl
    go_wp2_with fail
    clear k0 k1
    go_cut [6, 7] (fun vv v7 wx => ∃ L A3 c3 B3 d3, vv = .pointer (some ⟨L, 0, none⟩) ∧ v7 = .int .i64 0 ∧ FB w wx L ((L, 29, [.slice A3 kw c3, .slice B3 kw d3]) :: [(w.heap.size + 1, 29, [.slice none 0 0, .slice none 0 0]), (w.heap.size, 29, [.slice A m c, .slice B m d])]) ∧ ∃ lo hi, w.heap.size + 1 < lo ∧ hi ≤ wx.heap.size ∧ ObjZ 26 2 lo hi wx A3 (grid kw (sb1 f E)) B3 (grid kw (sb1 s E)))
    case first =>
      have HPB : Hid True := hide trivial
      have k0 := (HF.out.blk (b := w.heap.size) (t := 29) (cs := [.slice A m c, .slice B m d]) (by simp)).cell 0 _ rfl
      have k1 := (HF.out.blk (b := w.heap.size) (t := 29) (cs := [.slice A m c, .slice B m d]) (by simp)).cell 1 _ rfl
      have gn0 : w1.heap.size ≠ w.heap.size := (by have h1 := HF.out.sz; have h2 := HF.out.le (b := w.heap.size) (t := 29) (cs := [.slice A m c, .slice B m d]) (by simp); omega)
      have gm0 := gn0.symm
      go_region_held3 (fun w' => w'.cell? ⟨w.heap.size, 0, none⟩ = some (.slice A m c) ∧ w'.cell? ⟨w.heap.size, 1, none⟩ = some (.slice B m d)) (first | exact ⟨k0, k1⟩ | go_keep) (first | (go_at_call 49; go_must (refine calls_gen fun wc hwc => ?_; (first | (have hbx := al_drew_below hwc; have HPB := hide (And.intro (blk_al_drew hwc) HF.out.sz)) | (have hbx := al_below hwc; have HPB := hide (And.intro (blk_al hwc) HF.out.sz)) | (have hbx := drew_below hwc; (first | replace HPB := hide (And.intro (HPB.out.1.later hbx) HPB.out.2) | skip)) | (have hbx := eq_below hwc; (first | replace HPB := hide (And.intro (HPB.out.1.later hbx) HPB.out.2) | skip))); replace HF := hide (HF.out.later hbx); clear hwc hbx; skip; refine (alikeI_any _ _ _ f _ _ s _ (HZ.out.later HF.out.below) HG.out).mono ?_; rintro e wd ⟨g2, c2, rfl, hbd, hg2, hobj⟩; replace HF := hide (HF.out.later hbd); (first | replace HPB := hide (And.intro (HPB.out.1.later hbd) HPB.out.2) | skip); have HLS := hide hobj.rd; clear hobj; clear hbd; have gn0 : wd.heap.size ≠ w.heap.size := (by have h1 := HF.out.sz; have h2 := HF.out.le (b := w.heap.size) (t := 29) (cs := [.slice A m c, .slice B m d]) (by simp); omega); have gm0 := gn0.symm; have k0 := (HF.out.blk (b := w.heap.size) (t := 29) (cs := [.slice A m c, .slice B m d]) (by simp)).cell 0 _ rfl; have k1 := (HF.out.blk (b := w.heap.size) (t := 29) (cs := [.slice A m c, .slice B m d]) (by simp)).cell 1 _ rfl; (first | (have bb0 := HPB.out.1.cell 0 _ rfl; have bb1 := HPB.out.1.cell 1 _ rfl; have bf0 := HPB.out.1.frozen 0; have bf1 := HPB.out.1.frozen 1) | skip))) | (go_at_call 69; go_must (refine calls_gen fun wc hwc => ?_; (first | (have hbx := al_drew_below hwc; have HPB := hide (And.intro (blk_al_drew hwc) HF.out.sz)) | (have hbx := al_below hwc; have HPB := hide (And.intro (blk_al hwc) HF.out.sz)) | (have hbx := drew_below hwc; (first | replace HPB := hide (And.intro (HPB.out.1.later hbx) HPB.out.2) | skip)) | (have hbx := eq_below hwc; (first | replace HPB := hide (And.intro (HPB.out.1.later hbx) HPB.out.2) | skip))); replace HF := hide (HF.out.later hbx); replace HLS := hide (HLS.out.later hbx); clear hwc hbx; skip; refine (elC_any _ m _ (alC f s) cls E kw _ HCL.out (by omega) HE.out HLE.out HLS.out).mono ?_; rintro e wd ⟨A2, c2, rfl, hbd, hres⟩; replace HF := hide (HF.out.later hbd); (first | replace HPB := hide (And.intro (HPB.out.1.later hbd) HPB.out.2) | skip); replace HLS := hide (HLS.out.later hbd); have HES := hide hres.rd; clear hres; clear hbd; have gn0 : wd.heap.size ≠ w.heap.size := (by have h1 := HF.out.sz; have h2 := HF.out.le (b := w.heap.size) (t := 29) (cs := [.slice A m c, .slice B m d]) (by simp); omega); have gm0 := gn0.symm; have k0 := (HF.out.blk (b := w.heap.size) (t := 29) (cs := [.slice A m c, .slice B m d]) (by simp)).cell 0 _ rfl; have k1 := (HF.out.blk (b := w.heap.size) (t := 29) (cs := [.slice A m c, .slice B m d]) (by simp)).cell 1 _ rfl; (first | (have bb0 := HPB.out.1.cell 0 _ rfl; have bb1 := HPB.out.1.cell 1 _ rfl; have bf0 := HPB.out.1.frozen 0; have bf1 := HPB.out.1.frozen 1) | skip))) | (go_at_call 68; go_must (refine calls_gen fun wc hwc => ?_; (first | (have hbx := al_drew_below hwc; have HPB := hide (And.intro (blk_al_drew hwc) HF.out.sz)) | (have hbx := al_below hwc; have HPB := hide (And.intro (blk_al hwc) HF.out.sz)) | (have hbx := drew_below hwc; (first | replace HPB := hide (And.intro (HPB.out.1.later hbx) HPB.out.2) | skip)) | (have hbx := eq_below hwc; (first | replace HPB := hide (And.intro (HPB.out.1.later hbx) HPB.out.2) | skip))); replace HF := hide (HF.out.later hbx); replace HES := hide (HES.out.later hbx); clear hwc hbx; (first | have HLL := hide HPB.out.1.lt | have HLL : Hid True := hide trivial); have HLO : Hid (w.heap.size + 1 < wc.heap.size) := hide (by have h1 := HF.out.sz; have h2 := HF.out.le (b := w.heap.size + 1) (t := 29) (cs := [.slice none 0 0, .slice none 0 0]) (by simp); omega); refine (sbI_any _ m _ f _ m _ s _ kw _ E (grid kw (sb1 f E)) (grid kw (sb1 s E)) 0 kw kw _ (HZ.out.later HF.out.below) HLE.out (by omega) HES.out (.inl ⟨HG.out.map, HINC.out, HCLF.out, by rw [HLE.out], by rw [HLE.out], rfl⟩) HGS.out).mono ?_; rintro e wd ⟨A3, c3, B3, d3, rfl, hbd, hob⟩; replace HF := hide (HF.out.later hbd); (first | replace HPB := hide (And.intro (HPB.out.1.later hbd) HPB.out.2) | skip); replace HES := hide (HES.out.later hbd); have HO3 := hide hob; clear hob; clear hbd; have gn0 : wd.heap.size ≠ w.heap.size := (by have h1 := HF.out.sz; have h2 := HF.out.le (b := w.heap.size) (t := 29) (cs := [.slice A m c, .slice B m d]) (by simp); omega); have gm0 := gn0.symm; have k0 := (HF.out.blk (b := w.heap.size) (t := 29) (cs := [.slice A m c, .slice B m d]) (by simp)).cell 0 _ rfl; have k1 := (HF.out.blk (b := w.heap.size) (t := 29) (cs := [.slice A m c, .slice B m d]) (by simp)).cell 1 _ rfl; (first | (have bb0 := HPB.out.1.cell 0 _ rfl; have bb1 := HPB.out.1.cell 1 _ rfl; have bf0 := HPB.out.1.frozen 0; have bf1 := HPB.out.1.frozen 1) | skip))))
      all_goals go_wp2_with fail
      all_goals go_meet
      all_goals refine ⟨_, A3, c3, B3, d3, rfl, rfl, ?_, ?_⟩
      all_goals first | exact HF.out.new _ _ | exact ((HF.out.set (p := ⟨_, 0, none⟩) HPB.out.2 _).set (p := ⟨_, 1, none⟩) HPB.out.2 _).push ((HPB.out.1.set 0 _).set 1 _) HPB.out.2 | exact ⟨_, _, HLO.out, by simp, HO3.out.later ((Below.refl _ _).alloc (Nat.le_refl _) _)⟩ | exact ⟨_, _, HLO.out, by simp [World.setCell], (HO3.out.set (p := ⟨_, 0, none⟩) (.inl HLL.out) _).set (p := ⟨_, 1, none⟩) (.inl HLL.out) _⟩
    case rest =>
      obtain ⟨L1, A3, c3, B3, d3, rfl, rfl, hfk, lo, hi, hlo, hhi, hob⟩ := hcut
      have HF2 := hide hfk
      have HO2 := hide hob
      clear hfk hob
      have l0 := (HF2.out.blk (b := L1) (t := 29) (cs := [.slice A3 kw c3, .slice B3 kw d3]) (by simp)).cell 0 _ rfl
      have l1 := (HF2.out.blk (b := L1) (t := 29) (cs := [.slice A3 kw c3, .slice B3 kw d3]) (by simp)).cell 1 _ rfl
      have HRF := hide (HF2.out.blk (b := w.heap.size + 1) (t := 29) (cs := [.slice none 0 0, .slice none 0 0]) (by simp))
      have r0 := HRF.out.cell 0 _ rfl
      have r1 := HRF.out.cell 1 _ rfl
      have r2 := HRF.out.frozen 0
      have r3 := HRF.out.frozen 1
      go_wp2_with fail
      refine bp_gen fun wf hwf => ?_
      obtain ⟨q0, q1, hbf, hof⟩ := zend3 hwf HRF.out (by omega) hlo HF2.out.below hhi HO2.out
      clear hwf r0 r1 r2 r3 l0 l1
      exact bodyPost_ret (v := .tuple #[.agg #[.slice A3 kw c3, .slice B3 kw d3], .int .i64 0]) (by simp [results, Try.results38, go_sem, q0, q1]) rfl ⟨_, _, _, _, rfl, hbf, hof⟩
  · have HNE := hno
    obtain rfl : kz = 0 := by simpa using hk.fl.symm
    obtain rfl : kw = 0 := by simpa using hk.sl.symm
    obtain rfl := hz.same hp.map
    have h1 := (hp.sizes hz.sz.fl).1
    have h12 := (hp.sizes hz.sz.fl).2.1
    have HG := hide hp
    have HCL : Hid ((alC f s).length = m) := hide (by rw [alC_length]; exact hz.sz.fl)
    have hel := clE_le f s cls
    rw [hz.sz.fl] at hel
    obtain ⟨E, hE⟩ : ∃ E, clE f s cls = E := ⟨_, rfl⟩
    obtain ⟨le, hle⟩ : ∃ l, E.length = l := ⟨_, rfl⟩
    rw [hE] at hel HNE
    rw [hle] at hel
    have HE : Hid (memTo (alC f s) cls m = E) := hide (by rw [← hE, ← hz.sz.fl]; rfl)
    have HLE := hide hle
    rw [hle] at HNE
    by_cases hne : 0 < le
    · have HINC : Hid (IncSet f.length E) := hide (by have h := memTo_set (xs := alC f s) (o := cls) (n := f.length) (by rw [hz.sz.fl, HE.out, hle]; exact hne); rw [hz.sz.fl, HE.out] at h; rw [hz.sz.fl]; exact h)
      have HCLF : Hid (¬ ClF f s E) := hide (fun h => HNE ⟨hne, h⟩)
      clear hp hz hk hno hle hE HNE
      go_enter Try.func38, Try.ntmps38
      go_wp2_with fail
      refine calls_gen fun w0 hw0 => ?_
      have hb0 : Below w.heap.size w w0 := by rw [hw0]; exact ((Below.refl _ _).alloc (Nat.le_refl _) _).alloc (by simp) _
      have HB0 := hide hb0
      have HK0 : Hid (Blk w0 w.heap.size 29 [.slice A m c, .slice B m d]) := hide (by rw [hw0]; exact (Blk.new _ _ _).alloc _)
      have HR0 : Hid (Blk w0 (w.heap.size + 1) 29 [.slice none 0 0, .slice none 0 0]) := hide (by rw [hw0]; have h := Blk.new (w.alloc (Obj.cells #[Value.slice A m c, Value.slice B m d] 29)) 29 [.slice none 0 0, .slice none 0 0]; simpa using h)
      clear hw0 hb0
      refine (nd7I _ _ _ f _ _ _ s true _ (HZ.out.later HB0.out) (by simp [HG.out])).mono ?_
      rintro e w1 ⟨rfl, hb1⟩
      have HB1 := hide (HB0.out.trans (hb1.mono HB0.out.size))
      have HK1 := hide (HK0.out.later hb1)
      have HR1 := hide (HR0.out.later hb1)
      clear hb1
      have HF : Hid (FB w w1 (w1.heap.size - 1) [(w.heap.size + 1, 29, [.slice none 0 0, .slice none 0 0]), (w.heap.size, 29, [.slice A m c, .slice B m d])]) := hide (FB.of HB1.out HK1.out.lt (by simp only [List.forall_mem_cons]; exact ⟨HR1.out, HK1.out, fun q hq => absurd hq (List.not_mem_nil)⟩))
      have k0 := HK1.out.cell 0 _ rfl
      have k1 := HK1.out.cell 1 _ rfl
      go_wp2_with fail
      clear k0 k1
      go_cut [6, 7] (fun vv v7 wx => ∃ L A3 c3 B3 d3, vv = .pointer (some ⟨L, 0, none⟩) ∧ v7 = .int .i64 5 ∧ FB w wx L ((L, 29, [.slice A3 0 c3, .slice B3 0 d3]) :: [(w.heap.size + 1, 29, [.slice none 0 0, .slice none 0 0]), (w.heap.size, 29, [.slice A m c, .slice B m d])]) ∧ ∃ lo hi, w.heap.size + 1 < lo ∧ hi ≤ wx.heap.size ∧ ObjZ 26 2 lo hi wx A3 [] B3 [])
      case first =>
        have HPB : Hid True := hide trivial
        have k0 := (HF.out.blk (b := w.heap.size) (t := 29) (cs := [.slice A m c, .slice B m d]) (by simp)).cell 0 _ rfl
        have k1 := (HF.out.blk (b := w.heap.size) (t := 29) (cs := [.slice A m c, .slice B m d]) (by simp)).cell 1 _ rfl
        have gn0 : w1.heap.size ≠ w.heap.size := (by have h1 := HF.out.sz; have h2 := HF.out.le (b := w.heap.size) (t := 29) (cs := [.slice A m c, .slice B m d]) (by simp); omega)
        have gm0 := gn0.symm
        go_region_held3 (fun w' => w'.cell? ⟨w.heap.size, 0, none⟩ = some (.slice A m c) ∧ w'.cell? ⟨w.heap.size, 1, none⟩ = some (.slice B m d)) (first | exact ⟨k0, k1⟩ | go_keep) (first | (go_at_call 49; go_must (refine calls_gen fun wc hwc => ?_; (first | (have hbx := al_drew_below hwc; have HPB := hide (And.intro (blk_al_drew hwc) HF.out.sz)) | (have hbx := al_below hwc; have HPB := hide (And.intro (blk_al hwc) HF.out.sz)) | (have hbx := drew_below hwc; (first | replace HPB := hide (And.intro (HPB.out.1.later hbx) HPB.out.2) | skip)) | (have hbx := eq_below hwc; (first | replace HPB := hide (And.intro (HPB.out.1.later hbx) HPB.out.2) | skip))); replace HF := hide (HF.out.later hbx); clear hwc hbx; skip; refine (alikeI_any _ _ _ f _ _ s _ (HZ.out.later HF.out.below) HG.out).mono ?_; rintro e wd ⟨g2, c2, rfl, hbd, hg2, hobj⟩; replace HF := hide (HF.out.later hbd); (first | replace HPB := hide (And.intro (HPB.out.1.later hbd) HPB.out.2) | skip); have HLS := hide hobj.rd; clear hobj; clear hbd; have gn0 : wd.heap.size ≠ w.heap.size := (by have h1 := HF.out.sz; have h2 := HF.out.le (b := w.heap.size) (t := 29) (cs := [.slice A m c, .slice B m d]) (by simp); omega); have gm0 := gn0.symm; have k0 := (HF.out.blk (b := w.heap.size) (t := 29) (cs := [.slice A m c, .slice B m d]) (by simp)).cell 0 _ rfl; have k1 := (HF.out.blk (b := w.heap.size) (t := 29) (cs := [.slice A m c, .slice B m d]) (by simp)).cell 1 _ rfl; (first | (have bb0 := HPB.out.1.cell 0 _ rfl; have bb1 := HPB.out.1.cell 1 _ rfl; have bf0 := HPB.out.1.frozen 0; have bf1 := HPB.out.1.frozen 1) | skip))) | (go_at_call 69; go_must (refine calls_gen fun wc hwc => ?_; (first | (have hbx := al_drew_below hwc; have HPB := hide (And.intro (blk_al_drew hwc) HF.out.sz)) | (have hbx := al_below hwc; have HPB := hide (And.intro (blk_al hwc) HF.out.sz)) | (have hbx := drew_below hwc; (first | replace HPB := hide (And.intro (HPB.out.1.later hbx) HPB.out.2) | skip)) | (have hbx := eq_below hwc; (first | replace HPB := hide (And.intro (HPB.out.1.later hbx) HPB.out.2) | skip))); replace HF := hide (HF.out.later hbx); replace HLS := hide (HLS.out.later hbx); clear hwc hbx; skip; refine (elC_any _ m _ (alC f s) cls E le _ HCL.out (by omega) HE.out HLE.out HLS.out).mono ?_; rintro e wd ⟨A2, c2, rfl, hbd, hres⟩; replace HF := hide (HF.out.later hbd); (first | replace HPB := hide (And.intro (HPB.out.1.later hbd) HPB.out.2) | skip); replace HLS := hide (HLS.out.later hbd); have HES := hide hres.rd; clear hres; clear hbd; have gn0 : wd.heap.size ≠ w.heap.size := (by have h1 := HF.out.sz; have h2 := HF.out.le (b := w.heap.size) (t := 29) (cs := [.slice A m c, .slice B m d]) (by simp); omega); have gm0 := gn0.symm; have k0 := (HF.out.blk (b := w.heap.size) (t := 29) (cs := [.slice A m c, .slice B m d]) (by simp)).cell 0 _ rfl; have k1 := (HF.out.blk (b := w.heap.size) (t := 29) (cs := [.slice A m c, .slice B m d]) (by simp)).cell 1 _ rfl; (first | (have bb0 := HPB.out.1.cell 0 _ rfl; have bb1 := HPB.out.1.cell 1 _ rfl; have bf0 := HPB.out.1.frozen 0; have bf1 := HPB.out.1.frozen 1) | skip))) | (go_at_call 68; go_must (refine calls_gen fun wc hwc => ?_; (first | (have hbx := al_drew_below hwc; have HPB := hide (And.intro (blk_al_drew hwc) HF.out.sz)) | (have hbx := al_below hwc; have HPB := hide (And.intro (blk_al hwc) HF.out.sz)) | (have hbx := drew_below hwc; (first | replace HPB := hide (And.intro (HPB.out.1.later hbx) HPB.out.2) | skip)) | (have hbx := eq_below hwc; (first | replace HPB := hide (And.intro (HPB.out.1.later hbx) HPB.out.2) | skip))); replace HF := hide (HF.out.later hbx); replace HES := hide (HES.out.later hbx); clear hwc hbx; (first | have HLL := hide HPB.out.1.lt | have HLL : Hid True := hide trivial); have HLO : Hid (w.heap.size + 1 < wc.heap.size) := hide (by have h1 := HF.out.sz; have h2 := HF.out.le (b := w.heap.size + 1) (t := 29) (cs := [.slice none 0 0, .slice none 0 0]) (by simp); omega); refine (sbI_any _ m _ f _ m _ s _ le _ E [] [] 5 0 0 _ (HZ.out.later HF.out.below) HLE.out (by omega) HES.out (.inr (.inl ⟨HG.out.map, HINC.out, HCLF.out, rfl, rfl, rfl⟩)) nil_sz).mono ?_; rintro e wd ⟨A3, c3, B3, d3, rfl, hbd, hob⟩; replace HF := hide (HF.out.later hbd); (first | replace HPB := hide (And.intro (HPB.out.1.later hbd) HPB.out.2) | skip); replace HES := hide (HES.out.later hbd); have HO3 := hide hob; clear hob; clear hbd; have gn0 : wd.heap.size ≠ w.heap.size := (by have h1 := HF.out.sz; have h2 := HF.out.le (b := w.heap.size) (t := 29) (cs := [.slice A m c, .slice B m d]) (by simp); omega); have gm0 := gn0.symm; have k0 := (HF.out.blk (b := w.heap.size) (t := 29) (cs := [.slice A m c, .slice B m d]) (by simp)).cell 0 _ rfl; have k1 := (HF.out.blk (b := w.heap.size) (t := 29) (cs := [.slice A m c, .slice B m d]) (by simp)).cell 1 _ rfl; (first | (have bb0 := HPB.out.1.cell 0 _ rfl; have bb1 := HPB.out.1.cell 1 _ rfl; have bf0 := HPB.out.1.frozen 0; have bf1 := HPB.out.1.frozen 1) | skip))))
        all_goals go_wp2_with fail
        all_goals go_meet
        all_goals refine ⟨_, A3, c3, B3, d3, rfl, rfl, ?_, ?_⟩
        all_goals first | exact HF.out.new _ _ | exact ((HF.out.set (p := ⟨_, 0, none⟩) HPB.out.2 _).set (p := ⟨_, 1, none⟩) HPB.out.2 _).push ((HPB.out.1.set 0 _).set 1 _) HPB.out.2 | exact ⟨_, _, HLO.out, by simp, HO3.out.later ((Below.refl _ _).alloc (Nat.le_refl _) _)⟩ | exact ⟨_, _, HLO.out, by simp [World.setCell], (HO3.out.set (p := ⟨_, 0, none⟩) (.inl HLL.out) _).set (p := ⟨_, 1, none⟩) (.inl HLL.out) _⟩
      case rest =>
        obtain ⟨L1, A3, c3, B3, d3, rfl, rfl, hfk, lo, hi, hlo, hhi, hob⟩ := hcut
        have HF2 := hide hfk
        have HO2 := hide hob
        clear hfk hob
        have l0 := (HF2.out.blk (b := L1) (t := 29) (cs := [.slice A3 0 c3, .slice B3 0 d3]) (by simp)).cell 0 _ rfl
        have l1 := (HF2.out.blk (b := L1) (t := 29) (cs := [.slice A3 0 c3, .slice B3 0 d3]) (by simp)).cell 1 _ rfl
        have HRF := hide (HF2.out.blk (b := w.heap.size + 1) (t := 29) (cs := [.slice none 0 0, .slice none 0 0]) (by simp))
        have r0 := HRF.out.cell 0 _ rfl
        have r1 := HRF.out.cell 1 _ rfl
        have r2 := HRF.out.frozen 0
        have r3 := HRF.out.frozen 1
        go_wp2_with fail
        refine bp_gen fun wf hwf => ?_
        obtain ⟨q0, q1, hbf, hof⟩ := zend3 (ts := 26) (t := 2) (lo := w.heap.size + 1 + 1) (hi := w.heap.size + 1 + 1) hwf HRF.out (by omega) (by omega) HF2.out.below HRF.out.lt (ObjZ.empty (Nat.le_refl _))
        clear hwf r0 r1 r2 r3 l0 l1
        exact bodyPost_ret (v := .tuple #[.agg #[.slice none 0 0, .slice none 0 0], .int .i64 4]) (by simp [results, Try.results38, go_sem, q0, q1]) rfl ⟨_, _, _, _, rfl, hbf, hof⟩
    · have HINC : Hid (¬ IncSet f.length E) := hide (fun h => by have := h.2; omega)
      clear hp hz hk hno hle hE HNE
      go_enter Try.func38, Try.ntmps38
      go_wp2_with fail
      refine calls_gen fun w0 hw0 => ?_
      have hb0 : Below w.heap.size w w0 := by rw [hw0]; exact ((Below.refl _ _).alloc (Nat.le_refl _) _).alloc (by simp) _
      have HB0 := hide hb0
      have HK0 : Hid (Blk w0 w.heap.size 29 [.slice A m c, .slice B m d]) := hide (by rw [hw0]; exact (Blk.new _ _ _).alloc _)
      have HR0 : Hid (Blk w0 (w.heap.size + 1) 29 [.slice none 0 0, .slice none 0 0]) := hide (by rw [hw0]; have h := Blk.new (w.alloc (Obj.cells #[Value.slice A m c, Value.slice B m d] 29)) 29 [.slice none 0 0, .slice none 0 0]; simpa using h)
      clear hw0 hb0
      refine (nd7I _ _ _ f _ _ _ s true _ (HZ.out.later HB0.out) (by simp [HG.out])).mono ?_
      rintro e w1 ⟨rfl, hb1⟩
      have HB1 := hide (HB0.out.trans (hb1.mono HB0.out.size))
      have HK1 := hide (HK0.out.later hb1)
      have HR1 := hide (HR0.out.later hb1)
      clear hb1
      have HF : Hid (FB w w1 (w1.heap.size - 1) [(w.heap.size + 1, 29, [.slice none 0 0, .slice none 0 0]), (w.heap.size, 29, [.slice A m c, .slice B m d])]) := hide (FB.of HB1.out HK1.out.lt (by simp only [List.forall_mem_cons]; exact ⟨HR1.out, HK1.out, fun q hq => absurd hq (List.not_mem_nil)⟩))
      have k0 := HK1.out.cell 0 _ rfl
      have k1 := HK1.out.cell 1 _ rfl
      go_wp2_with fail
      clear k0 k1
      go_cut [6, 7] (fun vv v7 wx => ∃ L A3 c3 B3 d3, vv = .pointer (some ⟨L, 0, none⟩) ∧ v7 = .int .i64 2 ∧ FB w wx L ((L, 29, [.slice A3 0 c3, .slice B3 0 d3]) :: [(w.heap.size + 1, 29, [.slice none 0 0, .slice none 0 0]), (w.heap.size, 29, [.slice A m c, .slice B m d])]) ∧ ∃ lo hi, w.heap.size + 1 < lo ∧ hi ≤ wx.heap.size ∧ ObjZ 26 2 lo hi wx A3 [] B3 [])
      case first =>
        have HPB : Hid True := hide trivial
        have k0 := (HF.out.blk (b := w.heap.size) (t := 29) (cs := [.slice A m c, .slice B m d]) (by simp)).cell 0 _ rfl
        have k1 := (HF.out.blk (b := w.heap.size) (t := 29) (cs := [.slice A m c, .slice B m d]) (by simp)).cell 1 _ rfl
        have gn0 : w1.heap.size ≠ w.heap.size := (by have h1 := HF.out.sz; have h2 := HF.out.le (b := w.heap.size) (t := 29) (cs := [.slice A m c, .slice B m d]) (by simp); omega)
        have gm0 := gn0.symm
        go_region_held3 (fun w' => w'.cell? ⟨w.heap.size, 0, none⟩ = some (.slice A m c) ∧ w'.cell? ⟨w.heap.size, 1, none⟩ = some (.slice B m d)) (first | exact ⟨k0, k1⟩ | go_keep) (first | (go_at_call 49; go_must (refine calls_gen fun wc hwc => ?_; (first | (have hbx := al_drew_below hwc; have HPB := hide (And.intro (blk_al_drew hwc) HF.out.sz)) | (have hbx := al_below hwc; have HPB := hide (And.intro (blk_al hwc) HF.out.sz)) | (have hbx := drew_below hwc; (first | replace HPB := hide (And.intro (HPB.out.1.later hbx) HPB.out.2) | skip)) | (have hbx := eq_below hwc; (first | replace HPB := hide (And.intro (HPB.out.1.later hbx) HPB.out.2) | skip))); replace HF := hide (HF.out.later hbx); clear hwc hbx; skip; refine (alikeI_any _ _ _ f _ _ s _ (HZ.out.later HF.out.below) HG.out).mono ?_; rintro e wd ⟨g2, c2, rfl, hbd, hg2, hobj⟩; replace HF := hide (HF.out.later hbd); (first | replace HPB := hide (And.intro (HPB.out.1.later hbd) HPB.out.2) | skip); have HLS := hide hobj.rd; clear hobj; clear hbd; have gn0 : wd.heap.size ≠ w.heap.size := (by have h1 := HF.out.sz; have h2 := HF.out.le (b := w.heap.size) (t := 29) (cs := [.slice A m c, .slice B m d]) (by simp); omega); have gm0 := gn0.symm; have k0 := (HF.out.blk (b := w.heap.size) (t := 29) (cs := [.slice A m c, .slice B m d]) (by simp)).cell 0 _ rfl; have k1 := (HF.out.blk (b := w.heap.size) (t := 29) (cs := [.slice A m c, .slice B m d]) (by simp)).cell 1 _ rfl; (first | (have bb0 := HPB.out.1.cell 0 _ rfl; have bb1 := HPB.out.1.cell 1 _ rfl; have bf0 := HPB.out.1.frozen 0; have bf1 := HPB.out.1.frozen 1) | skip))) | (go_at_call 69; go_must (refine calls_gen fun wc hwc => ?_; (first | (have hbx := al_drew_below hwc; have HPB := hide (And.intro (blk_al_drew hwc) HF.out.sz)) | (have hbx := al_below hwc; have HPB := hide (And.intro (blk_al hwc) HF.out.sz)) | (have hbx := drew_below hwc; (first | replace HPB := hide (And.intro (HPB.out.1.later hbx) HPB.out.2) | skip)) | (have hbx := eq_below hwc; (first | replace HPB := hide (And.intro (HPB.out.1.later hbx) HPB.out.2) | skip))); replace HF := hide (HF.out.later hbx); replace HLS := hide (HLS.out.later hbx); clear hwc hbx; skip; refine (elC_any _ m _ (alC f s) cls E le _ HCL.out (by omega) HE.out HLE.out HLS.out).mono ?_; rintro e wd ⟨A2, c2, rfl, hbd, hres⟩; replace HF := hide (HF.out.later hbd); (first | replace HPB := hide (And.intro (HPB.out.1.later hbd) HPB.out.2) | skip); replace HLS := hide (HLS.out.later hbd); have HES := hide hres.rd; clear hres; clear hbd; have gn0 : wd.heap.size ≠ w.heap.size := (by have h1 := HF.out.sz; have h2 := HF.out.le (b := w.heap.size) (t := 29) (cs := [.slice A m c, .slice B m d]) (by simp); omega); have gm0 := gn0.symm; have k0 := (HF.out.blk (b := w.heap.size) (t := 29) (cs := [.slice A m c, .slice B m d]) (by simp)).cell 0 _ rfl; have k1 := (HF.out.blk (b := w.heap.size) (t := 29) (cs := [.slice A m c, .slice B m d]) (by simp)).cell 1 _ rfl; (first | (have bb0 := HPB.out.1.cell 0 _ rfl; have bb1 := HPB.out.1.cell 1 _ rfl; have bf0 := HPB.out.1.frozen 0; have bf1 := HPB.out.1.frozen 1) | skip))) | (go_at_call 68; go_must (refine calls_gen fun wc hwc => ?_; (first | (have hbx := al_drew_below hwc; have HPB := hide (And.intro (blk_al_drew hwc) HF.out.sz)) | (have hbx := al_below hwc; have HPB := hide (And.intro (blk_al hwc) HF.out.sz)) | (have hbx := drew_below hwc; (first | replace HPB := hide (And.intro (HPB.out.1.later hbx) HPB.out.2) | skip)) | (have hbx := eq_below hwc; (first | replace HPB := hide (And.intro (HPB.out.1.later hbx) HPB.out.2) | skip))); replace HF := hide (HF.out.later hbx); replace HES := hide (HES.out.later hbx); clear hwc hbx; (first | have HLL := hide HPB.out.1.lt | have HLL : Hid True := hide trivial); have HLO : Hid (w.heap.size + 1 < wc.heap.size) := hide (by have h1 := HF.out.sz; have h2 := HF.out.le (b := w.heap.size + 1) (t := 29) (cs := [.slice none 0 0, .slice none 0 0]) (by simp); omega); refine (sbI_any _ m _ f _ m _ s _ le _ E [] [] 2 0 0 _ (HZ.out.later HF.out.below) HLE.out (by omega) HES.out (.inr (.inr (.inl ⟨HG.out.map, HINC.out, rfl, rfl, rfl⟩))) nil_sz).mono ?_; rintro e wd ⟨A3, c3, B3, d3, rfl, hbd, hob⟩; replace HF := hide (HF.out.later hbd); (first | replace HPB := hide (And.intro (HPB.out.1.later hbd) HPB.out.2) | skip); replace HES := hide (HES.out.later hbd); have HO3 := hide hob; clear hob; clear hbd; have gn0 : wd.heap.size ≠ w.heap.size := (by have h1 := HF.out.sz; have h2 := HF.out.le (b := w.heap.size) (t := 29) (cs := [.slice A m c, .slice B m d]) (by simp); omega); have gm0 := gn0.symm; have k0 := (HF.out.blk (b := w.heap.size) (t := 29) (cs := [.slice A m c, .slice B m d]) (by simp)).cell 0 _ rfl; have k1 := (HF.out.blk (b := w.heap.size) (t := 29) (cs := [.slice A m c, .slice B m d]) (by simp)).cell 1 _ rfl; (first | (have bb0 := HPB.out.1.cell 0 _ rfl; have bb1 := HPB.out.1.cell 1 _ rfl; have bf0 := HPB.out.1.frozen 0; have bf1 := HPB.out.1.frozen 1) | skip))))
        all_goals go_wp2_with fail
        all_goals go_meet
        all_goals refine ⟨_, A3, c3, B3, d3, rfl, rfl, ?_, ?_⟩
        all_goals first | exact HF.out.new _ _ | exact ((HF.out.set (p := ⟨_, 0, none⟩) HPB.out.2 _).set (p := ⟨_, 1, none⟩) HPB.out.2 _).push ((HPB.out.1.set 0 _).set 1 _) HPB.out.2 | exact ⟨_, _, HLO.out, by simp, HO3.out.later ((Below.refl _ _).alloc (Nat.le_refl _) _)⟩ | exact ⟨_, _, HLO.out, by simp [World.setCell], (HO3.out.set (p := ⟨_, 0, none⟩) (.inl HLL.out) _).set (p := ⟨_, 1, none⟩) (.inl HLL.out) _⟩
      case rest =>
        obtain ⟨L1, A3, c3, B3, d3, rfl, rfl, hfk, lo, hi, hlo, hhi, hob⟩ := hcut
        have HF2 := hide hfk
        have HO2 := hide hob
        clear hfk hob
        have l0 := (HF2.out.blk (b := L1) (t := 29) (cs := [.slice A3 0 c3, .slice B3 0 d3]) (by simp)).cell 0 _ rfl
        have l1 := (HF2.out.blk (b := L1) (t := 29) (cs := [.slice A3 0 c3, .slice B3 0 d3]) (by simp)).cell 1 _ rfl
        have HRF := hide (HF2.out.blk (b := w.heap.size + 1) (t := 29) (cs := [.slice none 0 0, .slice none 0 0]) (by simp))
        have r0 := HRF.out.cell 0 _ rfl
        have r1 := HRF.out.cell 1 _ rfl
        have r2 := HRF.out.frozen 0
        have r3 := HRF.out.frozen 1
        go_wp2_with fail
        refine bp_gen fun wf hwf => ?_
        obtain ⟨q0, q1, hbf, hof⟩ := zend3 (ts := 26) (t := 2) (lo := w.heap.size + 1 + 1) (hi := w.heap.size + 1 + 1) hwf HRF.out (by omega) (by omega) HF2.out.below HRF.out.lt (ObjZ.empty (Nat.le_refl _))
        clear hwf r0 r1 r2 r3 l0 l1
        exact bodyPost_ret (v := .tuple #[.agg #[.slice none 0 0, .slice none 0 0], .int .i64 4]) (by simp [results, Try.results38, go_sem, q0, q1]) rfl ⟨_, _, _, _, rfl, hbf, hof⟩
  · have HG := hide hp
    obtain rfl : kz = 0 := by simpa using hk.fl.symm
    obtain rfl : kw = 0 := by simpa using hk.sl.symm
    clear hp hz hk
    go_enter Try.func38, Try.ntmps38
    go_wp2_with fail
    refine calls_gen fun w0 hw0 => ?_
    have hb0 : Below w.heap.size w w0 := by rw [hw0]; exact ((Below.refl _ _).alloc (Nat.le_refl _) _).alloc (by simp) _
    have HB0 := hide hb0
    have HK0 : Hid (Blk w0 w.heap.size 29 [.slice A n c, .slice B m d]) := hide (by rw [hw0]; exact (Blk.new _ _ _).alloc _)
    have HR0 : Hid (Blk w0 (w.heap.size + 1) 29 [.slice none 0 0, .slice none 0 0]) := hide (by rw [hw0]; have h := Blk.new (w.alloc (Obj.cells #[Value.slice A n c, Value.slice B m d] 29)) 29 [.slice none 0 0, .slice none 0 0]; simpa using h)
    clear hw0 hb0
    refine (nd7I _ _ _ f _ _ _ s false _ (HZ.out.later HB0.out) (by simp [HG.out])).mono ?_
    rintro e w1 ⟨rfl, hb1⟩
    have HB1 := hide (HB0.out.trans (hb1.mono HB0.out.size))
    have HK1 := hide (HK0.out.later hb1)
    have HR1 := hide (HR0.out.later hb1)
    clear hb1
    have k2 := HR1.out.cell 0 _ rfl
    have k3 := HR1.out.cell 1 _ rfl
    have k4 := HR1.out.frozen 0
    have k5 := HR1.out.frozen 1
    go_wp2_with fail
    refine bp_gen fun wf hwf => ?_
    obtain ⟨q0, q1, hbf, hof⟩ := zend (ts := 26) (t := 2) (w2 := w1) hwf HR1.out (by omega) HR1.out.lt HB1.out HB1.out.size (ObjZ.empty (Nat.le_refl _))
    clear hwf k2 k3 k4 k5
    exact bodyPost_ret (v := .tuple #[.agg #[.slice none 0 0, .slice none 0 0], .int .i64 1]) (by simp [results, Try.results38, go_sem, q0, q1]) rfl ⟨_, _, _, _, rfl, hbf, hof⟩

end Go.Proofs.Ytgmloaemnbnbgaa
