import Derived.Test.YtgmloaemnbnbgaaZv
import Derived.Test.YtgmloaemnbnbgaaZw
import Derived.Test.YtgmloaemnbnbgaaZar
import Derived.Test.YtgmloaemnbnbgaaZaq
import Derived.Test.YtgmloaemnbnbgaaZaf
import Derived.Test.YtgmloaemnbnbgaaZai
import Derived.Test.YtgmloaemnbnbgaaZg
import Derived.Deep.Cut
namespace Go.Proofs.Ytgmloaemnbnbgaa
open Go Go.RowKit
set_option maxHeartbeats 4000000
theorem meC_any (A : Option Addr) (n c : Nat) (xs : List Int) (o : Int) (E : List Int) (le : Nat) (w : World) (hn : xs.length = n) (hb : n ≤ 4096) (hE : memTo xs o n = E) (hle : E.length = le) (hr : Rd w A xs) :
    Calls Try.prog 65 #[.slice A n c, .int .i64 o] w fun e w' => ∃ A' c', e = .returned (.slice A' le c') ∧ Below w.heap.size w w' ∧ Res 2 w.heap.size w' A' E := by
  subst hE
  subst hle
  exact members_any A n c xs o w hn hb hr
set_option maxRecDepth 100000 in
theorem clwS (A : Option Addr) (n c : Nat) (f : List (List Int)) (B : Option Addr) (m d : Nat) (s : List (List Int)) (cls : Int) (zf zg : List (List Int)) (code : Int) (kz kw : Nat) (w : World) (hz : ZArg 1048576 w A n f B m s) (_hx0 : -9223372036854775808 ≤ cls) (_hx1 : cls ≤ 9223372036854775807) (hr : ClRes f s cls zf zg code) (hk : ZSz 1048576 zf kz zg kw) :
    Calls Try.prog 37 #[.agg #[.slice A n c, .slice B m d], .int .i64 cls] w (WPost 26 2 kz kw zf zg code w) := by
  have HZ := hide hz
  have HFL := hide hz.sz.fl
  rcases hr with ⟨hp, hne, hcl, rfl, rfl, rfl⟩ | ⟨hp, hno, rfl, rfl, rfl⟩ | ⟨hp, rfl, rfl, rfl⟩
  · have HNE := hne
    obtain rfl := hz.same hp.map
    have h1 := (hp.sizes hz.sz.fl).1
    have h12 := (hp.sizes hz.sz.fl).2.1
    have HG := hide hp
    have HCL : Hid ((alC f s).length = m) := hide (by rw [alC_length]; exact hz.sz.fl)
    have hel := clE_le f s cls
    rw [hz.sz.fl] at hel
    obtain ⟨E, hE⟩ : ∃ E, clE f s cls = E := ⟨_, rfl⟩
    obtain ⟨le, hle⟩ : ∃ l, E.length = l := ⟨_, rfl⟩
    rw [hE] at hel HNE
    rw [hle] at hel
    have HE : Hid (memTo (alC f s) cls m = E) := hide (by rw [← hE, ← hz.sz.fl]; rfl)
    have HLE := hide hle
    rw [hE] at hcl hk ⊢
    rw [hle] at hk HNE ⊢
    obtain rfl : le = kz := by rw [← hk.fl, grid_length]
    obtain rfl : kw = le := by rw [← hk.sl, grid_length]
    have HINCM : Hid (IncSet m E) := hide (by have h := memTo_set (xs := alC f s) (o := cls) (n := m) (by rw [HE.out, hle]; exact HNE); rw [HE.out] at h; exact h)
    have HCLF := hide hcl
    have hl0 : ¬ kw = 0 := by omega
    have hl0z : ((kw : Int) == 0) = false := by simpa using hl0
    clear hp hz hk hcl hne hle hE
    go_enter Try.func37, Try.ntmps37
    go_wp2_with fail
    refine calls_gen fun w0 hw0 => ?_
    have hb0 : Below w.heap.size w w0 := by rw [hw0]; exact ((Below.refl _ _).alloc (Nat.le_refl _) _).alloc (by simp) _
    have HB0 := hide hb0
    have HK0 : Hid (Blk w0 w.heap.size 29 [.slice A m c, .slice B m d]) := hide (by rw [hw0]; exact (Blk.new _ _ _).alloc _)
    have HR0 : Hid (Blk w0 (w.heap.size + 1) 29 [.slice none 0 0, .slice none 0 0]) := hide (by rw [hw0]; have h := Blk.new (w.alloc (Obj.cells #[Value.slice A m c, Value.slice B m d] 29)) 29 [.slice none 0 0, .slice none 0 0]; simpa using h)
    clear hw0 hb0
    refine (nd7S _ _ _ f _ _ _ s true _ (HZ.out.later HB0.out) (by simp [HG.out])).mono ?_
    rintro e w1 ⟨rfl, hb1⟩
    have HB1 := hide (HB0.out.trans (hb1.mono HB0.out.size))
    have HK1 := hide (HK0.out.later hb1)
    have HR1 := hide (HR0.out.later hb1)
    clear hb1
    have k0 := HK1.out.cell 0 _ rfl
    have k1 := HK1.out.cell 1 _ rfl
    go_wp2_with fail
    refine (alikeS_any _ _ _ f _ _ s _ (HZ.out.later HB1.out) HG.out).mono ?_
    rintro e w2 ⟨A2, c2, rfl, hb2, hobj⟩
    have HB2 := hide (HB1.out.trans (hb2.mono HB1.out.size))
    have HK2 := hide (HK1.out.later hb2)
    have HR2 := hide (HR1.out.later hb2)
    have HLS := hide hobj.rd
    clear hb2 hobj k0 k1
    go_wp2_with fail
    refine (meC_any _ m _ (alC f s) cls E kw _ HCL.out (by omega) HE.out HLE.out HLS.out).mono ?_
    rintro e w3 ⟨A3, c3, rfl, hb3, hres⟩
    have HB3 := hide (HB2.out.trans (hb3.mono HB2.out.size))
    have HK3 := hide (HK2.out.later hb3)
    have HR3 := hide (HR2.out.later hb3)
    have HES := hide hres.rd
    clear hb3 hres
    have k0 := HK3.out.cell 0 _ rfl
    have k1 := HK3.out.cell 1 _ rfl
    go_wp2_with fail
    refine (l02Closed_any _ m _ f _ m _ s _ kw _ E true _ (HZ.out.later HB3.out) HG.out.map HLE.out HINCM.out HES.out ⟨fun _ => HCLF.out, fun _ => rfl⟩).mono ?_
    rintro e w4 ⟨rfl, hq4⟩
    have HB4 := hide (HB3.out.trans (hq4.mono HB3.out.size))
    have HK4 := hide (HK3.out.later hq4)
    have HR4 := hide (HR3.out.later hq4)
    have HES4 := hide (HES.out.later hq4)
    clear hq4 k0 k1
    have k0 := HK4.out.cell 0 _ rfl
    have k1 := HK4.out.cell 1 _ rfl
    go_wp2_with fail
    refine (subS_any _ m _ f _ m _ s _ kw _ E _ (HZ.out.later HB4.out) HG.out.map HLE.out HINCM.out HCLF.out HES4.out).mono ?_
    rintro e w5 ⟨A5, c5, B5, d5, rfl, hb5, hob5⟩
    have HB5 := hide (HB4.out.trans (hb5.mono HB4.out.size))
    have HR5 := hide (HR4.out.later hb5)
    have HO5 := hide hob5
    have k2 := HR5.out.cell 0 _ rfl
    have k3 := HR5.out.cell 1 _ rfl
    have k4 := HR5.out.frozen 0
    have k5 := HR5.out.frozen 1
    clear hb5 hob5 k0 k1
    go_wp2_with fail
    refine bp_gen fun wf hwf => ?_
    obtain ⟨q0, q1, hbf, hof⟩ := wend (w2 := w4) hwf HR5.out (by omega) HR4.out.lt HB5.out HB4.out.size HO5.out
    clear hwf k2 k3 k4 k5
    exact bodyPost_ret (v := .tuple #[.agg #[.slice A5 kw c5, .slice B5 kw d5], .int .i64 0]) (by simp [results, Try.results37, go_sem, q0, q1]) rfl ⟨_, _, _, _, rfl, hbf, hof⟩
  · have HNE := hno
    obtain rfl : kz = 0 := by simpa using hk.fl.symm
    obtain rfl : kw = 0 := by simpa using hk.sl.symm
    obtain rfl := hz.same hp.map
    have h1 := (hp.sizes hz.sz.fl).1
    have h12 := (hp.sizes hz.sz.fl).2.1
    have HG := hide hp
    have HCL : Hid ((alC f s).length = m) := hide (by rw [alC_length]; exact hz.sz.fl)
    have hel := clE_le f s cls
    rw [hz.sz.fl] at hel
    obtain ⟨E, hE⟩ : ∃ E, clE f s cls = E := ⟨_, rfl⟩
    obtain ⟨le, hle⟩ : ∃ l, E.length = l := ⟨_, rfl⟩
    rw [hE] at hel HNE
    rw [hle] at hel
    have HE : Hid (memTo (alC f s) cls m = E) := hide (by rw [← hE, ← hz.sz.fl]; rfl)
    have HLE := hide hle
    rw [hle] at HNE
    by_cases hne : 0 < le
    · have HINCM : Hid (IncSet m E) := hide (by have h := memTo_set (xs := alC f s) (o := cls) (n := m) (by rw [HE.out, hle]; exact hne); rw [HE.out] at h; exact h)
      have HCLF : Hid (¬ ClF f s E) := hide (fun h => HNE ⟨hne, h⟩)
      have hl0 : ¬ le = 0 := by omega
      have hl0z : ((le : Int) == 0) = false := by simpa using hl0
      clear hp hz hk hno hle hE HNE
      go_enter Try.func37, Try.ntmps37
      go_wp2_with fail
      refine calls_gen fun w0 hw0 => ?_
      have hb0 : Below w.heap.size w w0 := by rw [hw0]; exact ((Below.refl _ _).alloc (Nat.le_refl _) _).alloc (by simp) _
      have HB0 := hide hb0
      have HK0 : Hid (Blk w0 w.heap.size 29 [.slice A m c, .slice B m d]) := hide (by rw [hw0]; exact (Blk.new _ _ _).alloc _)
      have HR0 : Hid (Blk w0 (w.heap.size + 1) 29 [.slice none 0 0, .slice none 0 0]) := hide (by rw [hw0]; have h := Blk.new (w.alloc (Obj.cells #[Value.slice A m c, Value.slice B m d] 29)) 29 [.slice none 0 0, .slice none 0 0]; simpa using h)
      clear hw0 hb0
      refine (nd7S _ _ _ f _ _ _ s true _ (HZ.out.later HB0.out) (by simp [HG.out])).mono ?_
      rintro e w1 ⟨rfl, hb1⟩
      have HB1 := hide (HB0.out.trans (hb1.mono HB0.out.size))
      have HK1 := hide (HK0.out.later hb1)
      have HR1 := hide (HR0.out.later hb1)
      clear hb1
      have k0 := HK1.out.cell 0 _ rfl
      have k1 := HK1.out.cell 1 _ rfl
      go_wp2_with fail
      refine (alikeS_any _ _ _ f _ _ s _ (HZ.out.later HB1.out) HG.out).mono ?_
      rintro e w2 ⟨A2, c2, rfl, hb2, hobj⟩
      have HB2 := hide (HB1.out.trans (hb2.mono HB1.out.size))
      have HK2 := hide (HK1.out.later hb2)
      have HR2 := hide (HR1.out.later hb2)
      have HLS := hide hobj.rd
      clear hb2 hobj k0 k1
      go_wp2_with fail
      refine (meC_any _ m _ (alC f s) cls E le _ HCL.out (by omega) HE.out HLE.out HLS.out).mono ?_
      rintro e w3 ⟨A3, c3, rfl, hb3, hres⟩
      have HB3 := hide (HB2.out.trans (hb3.mono HB2.out.size))
      have HK3 := hide (HK2.out.later hb3)
      have HR3 := hide (HR2.out.later hb3)
      have HES := hide hres.rd
      clear hb3 hres
      have k0 := HK3.out.cell 0 _ rfl
      have k1 := HK3.out.cell 1 _ rfl
      go_wp2_with fail
      refine (l02Closed_any _ m _ f _ m _ s _ le _ E false _ (HZ.out.later HB3.out) HG.out.map HLE.out HINCM.out HES.out ⟨fun h => absurd h (by decide), fun h => absurd h HCLF.out⟩).mono ?_
      rintro e w4 ⟨rfl, hq4⟩
      have HB4 := hide (HB3.out.trans (hq4.mono HB3.out.size))
      have HK4 := hide (HK3.out.later hq4)
      have HR4 := hide (HR3.out.later hq4)
      have HES4 := hide (HES.out.later hq4)
      clear hq4 k0 k1
      have k2 := HR4.out.cell 0 _ rfl
      have k3 := HR4.out.cell 1 _ rfl
      have k4 := HR4.out.frozen 0
      have k5 := HR4.out.frozen 1
      go_wp2_with fail
      refine bp_gen fun wf hwf => ?_
      obtain ⟨q0, q1, hbf, hof⟩ := wend (ts := 26) (t := 2) (w2 := w4) hwf HR4.out (by omega) HR4.out.lt HB4.out HB4.out.size ObjW.empty
      clear hwf k2 k3 k4 k5
      exact bodyPost_ret (v := .tuple #[.agg #[.slice none 0 0, .slice none 0 0], .int .i64 4]) (by simp [results, Try.results37, go_sem, q0, q1]) rfl ⟨_, _, _, _, rfl, hbf, hof⟩
    · obtain rfl : le = 0 := by omega
      clear hp hz hk hno hle hE HNE
      go_enter Try.func37, Try.ntmps37
      go_wp2_with fail
      refine calls_gen fun w0 hw0 => ?_
      have hb0 : Below w.heap.size w w0 := by rw [hw0]; exact ((Below.refl _ _).alloc (Nat.le_refl _) _).alloc (by simp) _
      have HB0 := hide hb0
      have HK0 : Hid (Blk w0 w.heap.size 29 [.slice A m c, .slice B m d]) := hide (by rw [hw0]; exact (Blk.new _ _ _).alloc _)
      have HR0 : Hid (Blk w0 (w.heap.size + 1) 29 [.slice none 0 0, .slice none 0 0]) := hide (by rw [hw0]; have h := Blk.new (w.alloc (Obj.cells #[Value.slice A m c, Value.slice B m d] 29)) 29 [.slice none 0 0, .slice none 0 0]; simpa using h)
      clear hw0 hb0
      refine (nd7S _ _ _ f _ _ _ s true _ (HZ.out.later HB0.out) (by simp [HG.out])).mono ?_
      rintro e w1 ⟨rfl, hb1⟩
      have HB1 := hide (HB0.out.trans (hb1.mono HB0.out.size))
      have HK1 := hide (HK0.out.later hb1)
      have HR1 := hide (HR0.out.later hb1)
      clear hb1
      have k0 := HK1.out.cell 0 _ rfl
      have k1 := HK1.out.cell 1 _ rfl
      go_wp2_with fail
      refine (alikeS_any _ _ _ f _ _ s _ (HZ.out.later HB1.out) HG.out).mono ?_
      rintro e w2 ⟨A2, c2, rfl, hb2, hobj⟩
      have HB2 := hide (HB1.out.trans (hb2.mono HB1.out.size))
      have HK2 := hide (HK1.out.later hb2)
      have HR2 := hide (HR1.out.later hb2)
      have HLS := hide hobj.rd
      clear hb2 hobj k0 k1
      go_wp2_with fail
      refine (meC_any _ m _ (alC f s) cls E 0 _ HCL.out (by omega) HE.out HLE.out HLS.out).mono ?_
      rintro e w3 ⟨A3, c3, rfl, hb3, hres⟩
      have HB3 := hide (HB2.out.trans (hb3.mono HB2.out.size))
      have HK3 := hide (HK2.out.later hb3)
      have HR3 := hide (HR2.out.later hb3)
      have HES := hide hres.rd
      clear hb3 hres
      have k0 := HK3.out.cell 0 _ rfl
      have k1 := HK3.out.cell 1 _ rfl
      have k2 := HR3.out.cell 0 _ rfl
      have k3 := HR3.out.cell 1 _ rfl
      have k4 := HR3.out.frozen 0
      have k5 := HR3.out.frozen 1
      go_wp2_with fail
      refine bp_gen fun wf hwf => ?_
      obtain ⟨q0, q1, hbf, hof⟩ := wend (ts := 26) (t := 2) (w2 := w3) hwf HR3.out (by omega) HR3.out.lt HB3.out HB3.out.size ObjW.empty
      clear hwf k2 k3 k4 k5
      exact bodyPost_ret (v := .tuple #[.agg #[.slice none 0 0, .slice none 0 0], .int .i64 4]) (by simp [results, Try.results37, go_sem, q0, q1]) rfl ⟨_, _, _, _, rfl, hbf, hof⟩
  · have HG := hide hp
    obtain rfl : kz = 0 := by simpa using hk.fl.symm
    obtain rfl : kw = 0 := by simpa using hk.sl.symm
    clear hp hz hk
    go_enter Try.func37, Try.ntmps37
    go_wp2_with fail
    refine calls_gen fun w0 hw0 => ?_
    have hb0 : Below w.heap.size w w0 := by rw [hw0]; exact ((Below.refl _ _).alloc (Nat.le_refl _) _).alloc (by simp) _
    have HB0 := hide hb0
    have HK0 : Hid (Blk w0 w.heap.size 29 [.slice A n c, .slice B m d]) := hide (by rw [hw0]; exact (Blk.new _ _ _).alloc _)
    have HR0 : Hid (Blk w0 (w.heap.size + 1) 29 [.slice none 0 0, .slice none 0 0]) := hide (by rw [hw0]; have h := Blk.new (w.alloc (Obj.cells #[Value.slice A n c, Value.slice B m d] 29)) 29 [.slice none 0 0, .slice none 0 0]; simpa using h)
    clear hw0 hb0
    refine (nd7S _ _ _ f _ _ _ s false _ (HZ.out.later HB0.out) (by simp [HG.out])).mono ?_
    rintro e w1 ⟨rfl, hb1⟩
    have HB1 := hide (HB0.out.trans (hb1.mono HB0.out.size))
    have HK1 := hide (HK0.out.later hb1)
    have HR1 := hide (HR0.out.later hb1)
    clear hb1
    have k2 := HR1.out.cell 0 _ rfl
    have k3 := HR1.out.cell 1 _ rfl
    have k4 := HR1.out.frozen 0
    have k5 := HR1.out.frozen 1
    go_wp2_with fail
    refine bp_gen fun wf hwf => ?_
    obtain ⟨q0, q1, hbf, hof⟩ := wend (ts := 26) (t := 2) (w2 := w1) hwf HR1.out (by omega) HR1.out.lt HB1.out HB1.out.size ObjW.empty
    clear hwf k2 k3 k4 k5
    exact bodyPost_ret (v := .tuple #[.agg #[.slice none 0 0, .slice none 0 0], .int .i64 1]) (by simp [results, Try.results37, go_sem, q0, q1]) rfl ⟨_, _, _, _, rfl, hbf, hof⟩

end Go.Proofs.Ytgmloaemnbnbgaa
