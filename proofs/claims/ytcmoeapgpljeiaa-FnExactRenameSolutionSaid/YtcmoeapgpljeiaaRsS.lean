import Derived.Test.YtcmoeapgpljeiaaMapS
import Derived.Test.YtcmoeapgpljeiaaReads
import Derived.Test.YtcmoeapgpljeiaaRsF
import Derived.Test.YtcmoeapgpljeiaaZEnd
import Derived.Test.YtcmoeapgpljeiaaPrmS
import Derived.Test.YtcmoeapgpljeiaaRenS
import Derived.Test.YtcmoeapgpljeiaaHeld
namespace Go.Proofs.Ytcmoeapgpljeiaa
open Go Go.RowKit
set_option maxHeartbeats 2000000

theorem lrenS_any (A : Option Addr) (n c : Nat) (f : List (List Int)) (B : Option Addr) (d : Nat) (s : List (List Int)) (D : Option Addr) (e : Nat) (p : List Int) (w : World) (hz : ZArg 1048576 w A n f B n s) (hp : PMap f s) (hl : p.length = n) (hpi : ∀ x ∈ p, 0 ≤ x ∧ x < (n : Int)) (hpr : Rd w D p) :
    Calls Try.prog 58 #[.agg #[.slice A n c, .slice B n d], .slice D n e] w fun e w' => ∃ A' c' B' d', e = .returned (.agg #[.slice A' n c', .slice B' n d']) ∧ Below w.heap.size w w' ∧ ObjW 25 2 w.heap.size w'.heap.size w' A' (renL f p) B' (renL s p) := by
  have HZ := hide hz
  have HP := hide hp
  have HL := hide hl
  have HPI := hide hpi
  have h12 := hz.small hp
  clear hz hp hl hpi
  go_enter Try.func58, Try.ntmps58
  go_wp2_with fail
  refine wp_gen fun w0 hw0 => ?_
  have hb0 : Below w.heap.size w w0 := by rw [hw0]; exact ((Below.refl _ _).alloc (Nat.le_refl _) _).alloc (by simp) _
  have HBc := hide hb0
  have HK : Hid (Blk w0 w.heap.size 29 [.slice A n c, .slice B n d]) := hide (by rw [hw0]; exact (Blk.new _ _ _).alloc _)
  have HR : Hid (Blk w0 (w.heap.size + 1) 29 [.slice none 0 0, .slice none 0 0]) := hide (by rw [hw0]; have h := Blk.new (w.alloc (Obj.cells #[Value.slice A n c, Value.slice B n d] 29)) 29 [.slice none 0 0, .slice none 0 0]; simpa using h)
  clear hw0 hb0
  have k0 := HK.out.cell 0 _ rfl
  have k1 := HK.out.cell 1 _ rfl
  have k2 := HR.out.cell 0 _ rfl
  have k3 := HR.out.cell 1 _ rfl
  have k4 := HR.out.frozen 0
  have k5 := HR.out.frozen 1
  have tok1 : True := trivial
  go_region_held3 (fun w' => w'.cell? ⟨w.heap.size, 0, none⟩ = some (.slice A n c) ∧ w'.cell? ⟨w.heap.size, 1, none⟩ = some (.slice B n d)) (first | exact ⟨k0, k1⟩ | go_keep) (first | (go_at_call 98; have _t := tok1; clear _t tok1; go_must (refine calls_gen fun wc hwc => ?_; (first | have hbx := drew_below hwc | have hbx := eq_below hwc); replace HBc := hide (HBc.out.trans (hbx.mono HBc.out.size)); replace HK := hide (HK.out.later hbx); replace HR := hide (HR.out.later hbx); clear hwc hbx; have hrl := HR.out.lt; refine (l01Rename_any _ _ _ f _ _ p _ HZ.out.sz.fl HL.out h12.1 (by omega) (fun i hi => HP.out.1.row_len HZ.out.sz.fl (by have := HZ.out.sz.fl; omega)) (HP.out.1.inr' HZ.out.sz.fl) HPI.out (HZ.out.later HBc.out).fst (hpr.later HBc.out)).mono ?_; rintro e wd ⟨A3, c3, rfl, hbd, ho3⟩; replace HBc := hide (HBc.out.trans (hbd.mono HBc.out.size)); replace HK := hide (HK.out.later hbd); replace HR := hide (HR.out.later hbd); clear hbd; have k0 := HK.out.cell 0 _ rfl; have k1 := HK.out.cell 1 _ rfl; have k2 := HR.out.cell 0 _ rfl; have k3 := HR.out.cell 1 _ rfl; have HO3 := hide (ObjT.of (lo' := w.heap.size + 1 + 1) ho3 hrl (Nat.le_refl _)); clear ho3 hrl; have k4 := HR.out.frozen 0; have k5 := HR.out.frozen 1)) | (go_at_call 98; go_must (refine calls_gen fun wc hwc => ?_; (first | have hbx := drew_below hwc | have hbx := eq_below hwc); replace HBc := hide (HBc.out.trans (hbx.mono HBc.out.size)); replace HK := hide (HK.out.later hbx); replace HR := hide (HR.out.later hbx); replace HO3 := hide (HO3.out.later hbx); clear hwc hbx; have hrl := HR.out.lt; refine (l01Rename_any _ _ _ s _ _ p _ HZ.out.sz.sl HL.out h12.1 (by omega) (fun i hi => HP.out.2.1.row_len HZ.out.sz.sl (by have := HZ.out.sz.sl; omega)) (HP.out.2.1.inr' HZ.out.sz.sl) HPI.out (HZ.out.later HBc.out).snd (hpr.later HBc.out)).mono ?_; rintro e wd ⟨A4, c4, rfl, hbd, ho4⟩; replace HBc := hide (HBc.out.trans (hbd.mono HBc.out.size)); replace HK := hide (HK.out.later hbd); replace HR := hide (HR.out.later hbd); replace HO3 := hide (HO3.out.later hbd); clear hbd; have k0 := HK.out.cell 0 _ rfl; have k1 := HK.out.cell 1 _ rfl; have k2 := HR.out.cell 0 _ rfl; have k3 := HR.out.cell 1 _ rfl; have HO4 := hide (ObjT.of (lo' := w.heap.size + 1 + 1) ho4 hrl (Nat.le_refl _)); clear ho4 hrl; have k4 := HR.out.frozen 0; have k5 := HR.out.frozen 1)))
  go_wp2_with fail
  refine bp_gen fun wf hwf => ?_
  obtain ⟨q0, q1, hbf, hof⟩ := wend2 hwf HR.out (by omega) HBc.out HO3.out HO4.out
  clear hwf k0 k1 k2 k3 k4 k5
  exact bodyPost_ret (v := .agg #[.slice A3 n c3, .slice A4 n c4]) (by simp [results, Try.results58, go_sem, q0, q1]) rfl ⟨_, _, _, _, rfl, hbf, hof⟩

set_option maxRecDepth 100000 in
theorem rsS_any (A : Option Addr) (n c : Nat) (f : List (List Int)) (B : Option Addr) (m d : Nat) (s : List (List Int)) (D : Option Addr) (l e : Nat) (p : List Int) (zf zg : List (List Int)) (code : Int) (kz kw : Nat) (w : World) (hz : ZArg 1048576 w A n f B m s) (hl : p.length = l) (hlb : l ≤ 1048576) (hpr : Rd w D p) (hr : RsRes f s p zf zg code) (hk : ZSz 1048576 zf kz zg kw) :
    Calls Try.prog 22 #[.agg #[.slice A n c, .slice B m d], .slice D l e] w (WPost 25 2 kz kw zf zg code w) := by
  have hnb := hz.sz.nb
  have HZ := hide hz
  have HL := hide hl
  have HFL := hide hz.sz.fl
  rcases hr with ⟨hp, hq, rfl, rfl, rfl⟩ | ⟨hp, hq, rfl, rfl, rfl⟩ | ⟨hp, rfl, rfl, rfl⟩
  · have HP := hide hp
    have HQ := hide hq.1
    have h12 := hz.small hp
    obtain rfl := hz.same hp
    obtain rfl : l = m := by rw [← hl, hq.2]; exact HFL.out
    obtain rfl : kz = l := by rw [← hk.fl, renL_length, HFL.out]
    obtain rfl : kw = kz := by rw [← hk.sl, renL_length]; exact hz.sz.sl
    have HSL := hide hz.sz.sl
    have HPI : Hid (∀ x ∈ p, 0 ≤ x ∧ x < (kw : Int)) := hide (by have := hq.1.2.2.1; rw [hl] at this; exact this)
    have hne : ((kw : Int) != (kw : Int)) = false := by simp
    clear hp hq hz hk hl
    go_enter Try.func22, Try.ntmps22
    go_wp2_with fail
    refine calls_gen fun w0 hw0 => ?_
    have hb0 : Below w.heap.size w w0 := by rw [hw0]; exact ((Below.refl _ _).alloc (Nat.le_refl _) _).alloc (by simp) _
    have HB := hide hb0
    have HK : Hid (Blk w0 w.heap.size 29 [.slice A kw c, .slice B kw d]) := hide (by rw [hw0]; exact (Blk.new _ _ _).alloc _)
    have HR : Hid (Blk w0 (w.heap.size + 1) 29 [.slice none 0 0, .slice none 0 0]) := hide (by rw [hw0]; have h := Blk.new (w.alloc (Obj.cells #[Value.slice A kw c, Value.slice B kw d] 29)) 29 [.slice none 0 0, .slice none 0 0]; simpa using h)
    clear hw0 hb0
    refine (mapS_any _ _ _ f _ _ _ s true _ (HZ.out.later HB.out) (by simp [HP.out])).mono ?_
    rintro _ wd ⟨rfl, hbd⟩
    replace HK := hide (HK.out.later hbd)
    replace HR := hide (HR.out.later hbd)
    have HB' := hide (HB.out.trans (hbd.mono HB.out.size))
    replace HB := HB'
    clear HB' hbd
    have k0 := HK.out.cell 0 _ rfl
    have k1 := HK.out.cell 1 _ rfl
    go_wp2_with fail
    clear k0 k1
    refine (prmS_below _ _ _ p true _ HL.out (by omega) (hpr.later HB.out) (by simp [HQ.out])).mono ?_
    rintro _ wd ⟨rfl, hbd⟩
    replace HK := hide (HK.out.later hbd)
    replace HR := hide (HR.out.later hbd)
    have HB' := hide (HB.out.trans (hbd.mono HB.out.size))
    replace HB := HB'
    clear HB' hbd
    have k0 := HK.out.cell 0 _ rfl
    have k1 := HK.out.cell 1 _ rfl
    go_wp2_with fail
    clear k0 k1
    refine (lrenS_any _ _ _ f _ _ s _ _ p _ (HZ.out.later HB.out) HP.out HL.out HPI.out (hpr.later HB.out)).mono ?_
    rintro _ w3 ⟨A3, c3, B3, d3, rfl, hb3, ho3⟩
    have HB3 := hide (HB.out.trans (hb3.mono HB.out.size))
    have HR3 := hide (HR.out.later hb3)
    have HO3 := hide ho3
    have k2 := HR3.out.cell 0 _ rfl
    have k3 := HR3.out.cell 1 _ rfl
    have k4 := HR3.out.frozen 0
    have k5 := HR3.out.frozen 1
    clear hb3 ho3
    go_wp2_with fail
    refine bp_gen fun wf hwf => ?_
    obtain ⟨q0, q1, hbf, hof⟩ := wend hwf HR3.out (by omega) HR.out.lt HB3.out HB.out.size HO3.out
    clear hwf k2 k3 k4 k5
    exact bodyPost_ret (v := .tuple #[.agg #[.slice A3 kw c3, .slice B3 kw d3], .int .i64 0]) (by simp [results, Try.results22, go_sem, q0, q1]) rfl ⟨_, _, _, _, rfl, hbf, hof⟩
  · have HP := hide hp
    by_cases h1 : Prm p
    · have HQ := hide h1
      have hne : ((l : Int) != (n : Int)) = true := by have h2 : ¬ p.length = f.length := fun h => hq ⟨h1, h⟩; have := HFL.out; simp; omega
      clear hp hq hz hl h1
      obtain rfl : kz = 0 := by simpa using hk.fl.symm
      obtain rfl : kw = 0 := by simpa using hk.sl.symm
      clear hk
      go_enter Try.func22, Try.ntmps22
      go_wp2_with fail
      refine calls_gen fun w0 hw0 => ?_
      have hb0 : Below w.heap.size w w0 := by rw [hw0]; exact ((Below.refl _ _).alloc (Nat.le_refl _) _).alloc (by simp) _
      have HB := hide hb0
      have HK : Hid (Blk w0 w.heap.size 29 [.slice A n c, .slice B m d]) := hide (by rw [hw0]; exact (Blk.new _ _ _).alloc _)
      have HR : Hid (Blk w0 (w.heap.size + 1) 29 [.slice none 0 0, .slice none 0 0]) := hide (by rw [hw0]; have h := Blk.new (w.alloc (Obj.cells #[Value.slice A n c, Value.slice B m d] 29)) 29 [.slice none 0 0, .slice none 0 0]; simpa using h)
      clear hw0 hb0
      refine (mapS_any _ _ _ f _ _ _ s true _ (HZ.out.later HB.out) (by simp [HP.out])).mono ?_
      rintro _ wd ⟨rfl, hbd⟩
      replace HK := hide (HK.out.later hbd)
      replace HR := hide (HR.out.later hbd)
      have HB' := hide (HB.out.trans (hbd.mono HB.out.size))
      replace HB := HB'
      clear HB' hbd
      have k0 := HK.out.cell 0 _ rfl
      have k1 := HK.out.cell 1 _ rfl
      go_wp2_with fail
      clear k0 k1
      refine (prmS_below _ _ _ p true _ HL.out (by omega) (hpr.later HB.out) (by simp [HQ.out])).mono ?_
      rintro _ wd ⟨rfl, hbd⟩
      replace HK := hide (HK.out.later hbd)
      replace HR := hide (HR.out.later hbd)
      have HB' := hide (HB.out.trans (hbd.mono HB.out.size))
      replace HB := HB'
      clear HB' hbd
      have k0 := HK.out.cell 0 _ rfl
      have k1 := HK.out.cell 1 _ rfl
      have k2 := HR.out.cell 0 _ rfl
      have k3 := HR.out.cell 1 _ rfl
      have k4 := HR.out.frozen 0
      have k5 := HR.out.frozen 1
      go_wp2_with fail
      refine bp_gen fun wf hwf => ?_
      obtain ⟨q0, q1, hbf, hof⟩ := wend (ts := 25) (t := 2) (w2 := wd) hwf HR.out (by omega) HR.out.lt HB.out HB.out.size ObjW.empty
      clear hwf k0 k1 k2 k3 k4 k5
      exact bodyPost_ret (v := .tuple #[.agg #[.slice none 0 0, .slice none 0 0], .int .i64 2]) (by simp [results, Try.results22, go_sem, q0, q1]) rfl ⟨_, _, _, _, rfl, hbf, hof⟩
    · have HQ := hide h1
      clear hp hq hz hl h1
      obtain rfl : kz = 0 := by simpa using hk.fl.symm
      obtain rfl : kw = 0 := by simpa using hk.sl.symm
      clear hk
      go_enter Try.func22, Try.ntmps22
      go_wp2_with fail
      refine calls_gen fun w0 hw0 => ?_
      have hb0 : Below w.heap.size w w0 := by rw [hw0]; exact ((Below.refl _ _).alloc (Nat.le_refl _) _).alloc (by simp) _
      have HB := hide hb0
      have HK : Hid (Blk w0 w.heap.size 29 [.slice A n c, .slice B m d]) := hide (by rw [hw0]; exact (Blk.new _ _ _).alloc _)
      have HR : Hid (Blk w0 (w.heap.size + 1) 29 [.slice none 0 0, .slice none 0 0]) := hide (by rw [hw0]; have h := Blk.new (w.alloc (Obj.cells #[Value.slice A n c, Value.slice B m d] 29)) 29 [.slice none 0 0, .slice none 0 0]; simpa using h)
      clear hw0 hb0
      refine (mapS_any _ _ _ f _ _ _ s true _ (HZ.out.later HB.out) (by simp [HP.out])).mono ?_
      rintro _ wd ⟨rfl, hbd⟩
      replace HK := hide (HK.out.later hbd)
      replace HR := hide (HR.out.later hbd)
      have HB' := hide (HB.out.trans (hbd.mono HB.out.size))
      replace HB := HB'
      clear HB' hbd
      have k0 := HK.out.cell 0 _ rfl
      have k1 := HK.out.cell 1 _ rfl
      go_wp2_with fail
      clear k0 k1
      refine (prmS_below _ _ _ p false _ HL.out (by omega) (hpr.later HB.out) (by simp [HQ.out])).mono ?_
      rintro _ wd ⟨rfl, hbd⟩
      replace HK := hide (HK.out.later hbd)
      replace HR := hide (HR.out.later hbd)
      have HB' := hide (HB.out.trans (hbd.mono HB.out.size))
      replace HB := HB'
      clear HB' hbd
      have k0 := HK.out.cell 0 _ rfl
      have k1 := HK.out.cell 1 _ rfl
      have k2 := HR.out.cell 0 _ rfl
      have k3 := HR.out.cell 1 _ rfl
      have k4 := HR.out.frozen 0
      have k5 := HR.out.frozen 1
      go_wp2_with fail
      refine bp_gen fun wf hwf => ?_
      obtain ⟨q0, q1, hbf, hof⟩ := wend (ts := 25) (t := 2) (w2 := wd) hwf HR.out (by omega) HR.out.lt HB.out HB.out.size ObjW.empty
      clear hwf k0 k1 k2 k3 k4 k5
      exact bodyPost_ret (v := .tuple #[.agg #[.slice none 0 0, .slice none 0 0], .int .i64 2]) (by simp [results, Try.results22, go_sem, q0, q1]) rfl ⟨_, _, _, _, rfl, hbf, hof⟩
  · have HP := hide hp
    clear hp hz hl
    obtain rfl : kz = 0 := by simpa using hk.fl.symm
    obtain rfl : kw = 0 := by simpa using hk.sl.symm
    clear hk
    go_enter Try.func22, Try.ntmps22
    go_wp2_with fail
    refine calls_gen fun w0 hw0 => ?_
    have hb0 : Below w.heap.size w w0 := by rw [hw0]; exact ((Below.refl _ _).alloc (Nat.le_refl _) _).alloc (by simp) _
    have HB := hide hb0
    have HK : Hid (Blk w0 w.heap.size 29 [.slice A n c, .slice B m d]) := hide (by rw [hw0]; exact (Blk.new _ _ _).alloc _)
    have HR : Hid (Blk w0 (w.heap.size + 1) 29 [.slice none 0 0, .slice none 0 0]) := hide (by rw [hw0]; have h := Blk.new (w.alloc (Obj.cells #[Value.slice A n c, Value.slice B m d] 29)) 29 [.slice none 0 0, .slice none 0 0]; simpa using h)
    clear hw0 hb0
    refine (mapS_any _ _ _ f _ _ _ s false _ (HZ.out.later HB.out) (by simp [HP.out])).mono ?_
    rintro _ wd ⟨rfl, hbd⟩
    replace HK := hide (HK.out.later hbd)
    replace HR := hide (HR.out.later hbd)
    have HB' := hide (HB.out.trans (hbd.mono HB.out.size))
    replace HB := HB'
    clear HB' hbd
    have k0 := HK.out.cell 0 _ rfl
    have k1 := HK.out.cell 1 _ rfl
    have k2 := HR.out.cell 0 _ rfl
    have k3 := HR.out.cell 1 _ rfl
    have k4 := HR.out.frozen 0
    have k5 := HR.out.frozen 1
    go_wp2_with fail
    refine bp_gen fun wf hwf => ?_
    obtain ⟨q0, q1, hbf, hof⟩ := wend (ts := 25) (t := 2) (w2 := wd) hwf HR.out (by omega) HR.out.lt HB.out HB.out.size ObjW.empty
    clear hwf k0 k1 k2 k3 k4 k5
    exact bodyPost_ret (v := .tuple #[.agg #[.slice none 0 0, .slice none 0 0], .int .i64 1]) (by simp [results, Try.results22, go_sem, q0, q1]) rfl ⟨_, _, _, _, rfl, hbf, hof⟩
end Go.Proofs.Ytcmoeapgpljeiaa
