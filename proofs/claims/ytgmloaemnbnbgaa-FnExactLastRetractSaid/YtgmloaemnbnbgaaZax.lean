import Derived.Test.YtgmloaemnbnbgaaZaw
import Derived.Test.YtgmloaemnbnbgaaZj
import Derived.Test.YtgmloaemnbnbgaaZg
import Derived.Test.YtgmloaemnbnbgaaZab
import Derived.Deep.Cut
import Derived.Deep.RegionHeld3
namespace Go.Proofs.Ytgmloaemnbnbgaa
open Go Go.RowKit
set_option maxHeartbeats 4000000
theorem lownS_any (A : Option Addr) (n c : Nat) (f : List (List Int)) (B : Option Addr) (d : Nat) (s : List (List Int)) (w : World) (hz : ZArg 1048576 w A n f B n s) (hp : PMap f s) :
    Calls Try.prog 92 #[.agg #[.slice A n c, .slice B n d]] w fun e w' => ∃ A' c' B' d', e = .returned (.agg #[.slice A' n c', .slice B' n d']) ∧ Below w.heap.size w w' ∧ ObjW 26 2 w.heap.size w'.heap.size w' A' f B' s := by
  have HZ := hide hz
  have HP := hide hp
  have h12 := hz.small hp
  clear hz hp
  go_enter Try.func92, Try.ntmps92
  go_wp2_with fail
  refine wp_gen fun w0 hw0 => ?_
  have hb0 : Below w.heap.size w w0 := by rw [hw0]; exact ((Below.refl _ _).alloc (Nat.le_refl _) _).alloc (by simp) _
  have HBc := hide hb0
  have HK : Hid (Blk w0 w.heap.size 29 [.slice A n c, .slice B n d]) := hide (by rw [hw0]; exact (Blk.new _ _ _).alloc _)
  have HR : Hid (Blk w0 (w.heap.size + 1) 29 [.slice none 0 0, .slice none 0 0]) := hide (by rw [hw0]; have h := Blk.new (w.alloc (Obj.cells #[Value.slice A n c, Value.slice B n d] 29)) 29 [.slice none 0 0, .slice none 0 0]; simpa using h)
  clear hw0 hb0
  have k0 := HK.out.cell 0 _ rfl
  have k1 := HK.out.cell 1 _ rfl
  have k2 := HR.out.cell 0 _ rfl
  have k3 := HR.out.cell 1 _ rfl
  have k4 := HR.out.frozen 0
  have k5 := HR.out.frozen 1
  have tok1 : True := trivial
  go_region_held3 (fun w' => w'.cell? ⟨w.heap.size, 0, none⟩ = some (.slice A n c) ∧ w'.cell? ⟨w.heap.size, 1, none⟩ = some (.slice B n d)) (first | exact ⟨k0, k1⟩ | go_keep) (first | (go_at_call 120; have _t := tok1; clear _t tok1; go_must (refine calls_gen fun wc hwc => ?_; (first | have hbx := drew_below hwc | have hbx := eq_below hwc); replace HBc := hide (HBc.out.trans (hbx.mono HBc.out.size)); replace HK := hide (HK.out.later hbx); replace HR := hide (HR.out.later hbx); clear hwc hbx; have hrl := HR.out.lt; refine (own2_any _ n _ f _ HZ.out.sz.fl h12.1 (by omega) (fun i hi => HP.out.1.row_len HZ.out.sz.fl (by have := HZ.out.sz.fl; omega)) (HZ.out.later HBc.out).fst).mono ?_; rintro e wd ⟨A3, c3, rfl, hbd, ho3⟩; replace HBc := hide (HBc.out.trans (hbd.mono HBc.out.size)); replace HK := hide (HK.out.later hbd); replace HR := hide (HR.out.later hbd); clear hbd; have k0 := HK.out.cell 0 _ rfl; have k1 := HK.out.cell 1 _ rfl; have k2 := HR.out.cell 0 _ rfl; have k3 := HR.out.cell 1 _ rfl; have HO3 := hide (ObjT.of (lo' := w.heap.size + 1 + 1) ho3 hrl (Nat.le_refl _)); clear ho3 hrl; have k4 := HR.out.frozen 0; have k5 := HR.out.frozen 1)) | (go_at_call 120; go_must (refine calls_gen fun wc hwc => ?_; (first | have hbx := drew_below hwc | have hbx := eq_below hwc); replace HBc := hide (HBc.out.trans (hbx.mono HBc.out.size)); replace HK := hide (HK.out.later hbx); replace HR := hide (HR.out.later hbx); replace HO3 := hide (HO3.out.later hbx); clear hwc hbx; have hrl := HR.out.lt; refine (own2_any _ n _ s _ HZ.out.sz.sl h12.1 (by omega) (fun i hi => HP.out.2.1.row_len HZ.out.sz.sl (by have := HZ.out.sz.sl; omega)) (HZ.out.later HBc.out).snd).mono ?_; rintro e wd ⟨A4, c4, rfl, hbd, ho4⟩; replace HBc := hide (HBc.out.trans (hbd.mono HBc.out.size)); replace HK := hide (HK.out.later hbd); replace HR := hide (HR.out.later hbd); replace HO3 := hide (HO3.out.later hbd); clear hbd; have k0 := HK.out.cell 0 _ rfl; have k1 := HK.out.cell 1 _ rfl; have k2 := HR.out.cell 0 _ rfl; have k3 := HR.out.cell 1 _ rfl; have HO4 := hide (ObjT.of (lo' := w.heap.size + 1 + 1) ho4 hrl (Nat.le_refl _)); clear ho4 hrl; have k4 := HR.out.frozen 0; have k5 := HR.out.frozen 1)))
  go_wp2_with fail
  refine bp_gen fun wf hwf => ?_
  obtain ⟨q0, q1, hbf, hof⟩ := wend2 hwf HR.out (by omega) HBc.out HO3.out HO4.out
  clear hwf k0 k1 k2 k3 k4 k5
  exact bodyPost_ret (v := .agg #[.slice A3 n c3, .slice A4 n c4]) (by simp [results, Try.results92, go_sem, q0, q1]) rfl ⟨_, _, _, _, rfl, hbf, hof⟩

end Go.Proofs.Ytgmloaemnbnbgaa
