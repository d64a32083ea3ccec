import Derived.Test.YtanldiildinbdaaZy
import Derived.Test.YtanldiildinbdaaZv
import Derived.Test.YtanldiildinbdaaZab
import Derived.Test.YtanldiildinbdaaZq
import Derived.Test.YtanldiildinbdaaZa
namespace Go.Proofs.Ytanldiildinbdaa
open Go Go.RowKit
set_option maxHeartbeats 1000000

theorem mirS_any (A : Option Addr) (n c : Nat) (f : List (List Int)) (B : Option Addr) (m d : Nat) (s : List (List Int)) (zf zg : List (List Int)) (code : Int) (kz kw : Nat) (w : World) (hz : ZArg 1048576 w A n f B m s) (hr : MirRes f s zf zg code) (hk : ZSz 1048576 zf kz zg kw) :
    Calls Try.prog 37 #[.agg #[.slice A n c, .slice B m d]] w (WPost 31 2 kz kw zf zg code w) := by
  have hnb := hz.sz.nb
  have HZ := hide hz
  have HFL := hide hz.sz.fl
  rcases hr with ⟨hp, rfl, rfl, rfl⟩ | ⟨hp, rfl, rfl, rfl⟩
  · have HP := hide hp
    have h12 := hz.small hp
    have e1 : grid f.length (mir1 s) = turnL s := by rw [hp.2.2]; exact mir_turn hp.2.1
    have e2 : grid f.length (mir1 f) = turnL f := mir_turn hp.1
    rw [e1, e2] at hk ⊢
    have HSL := hide hz.sz.sl
    obtain rfl := hz.same hp
    obtain rfl : kz = m := by rw [← hk.fl, turnL_length, HSL.out]
    obtain rfl : kw = kz := by rw [← hk.sl, turnL_length, HFL.out]
    clear hp hz hk e1 e2
    go_enter Try.func37, Try.ntmps37
    go_wp2_with fail
    refine calls_gen fun w0 hw0 => ?_
    have hb0 : Below w.heap.size w w0 := by rw [hw0]; exact ((Below.refl _ _).alloc (Nat.le_refl _) _).alloc (by simp) _
    have HB0 := hide hb0
    have HK0 : Hid (Blk w0 w.heap.size 27 [.slice A kw c, .slice B kw d]) := hide (by rw [hw0]; exact (Blk.new _ _ _).alloc _)
    have HR0 : Hid (Blk w0 (w.heap.size + 1) 27 [.slice none 0 0, .slice none 0 0]) := hide (by rw [hw0]; have h := Blk.new (w.alloc (Obj.cells #[Value.slice A kw c, Value.slice B kw d] 27)) 27 [.slice none 0 0, .slice none 0 0]; simpa using h)
    clear hw0 hb0
    refine (mapS_any _ _ _ f _ _ _ s true _ (HZ.out.later HB0.out) (by simp [HP.out])).mono ?_
    rintro e w1 ⟨rfl, hb1⟩
    have HB1 := hide (HB0.out.trans (hb1.mono HB0.out.size))
    have HK1 := hide (HK0.out.later hb1)
    have HR1 := hide (HR0.out.later hb1)
    have k0 := HK1.out.cell 0 _ rfl
    have k1 := HK1.out.cell 1 _ rfl
    clear hb1
    go_wp2_with fail
    have HRL := hide HR1.out.lt
    go_region_held3 (fun w' => w'.cell? ⟨w.heap.size, 0, none⟩ = some (.slice A kw c) ∧ w'.cell? ⟨w.heap.size, 1, none⟩ = some (.slice B kw d)) (first | exact ⟨k0, k1⟩ | go_keep) (first | (go_at_call_of 69 (Value.slice B kw d); go_must (refine calls_gen fun wc hwc => ?_; (first | have hbx := drew_below hwc | have hbx := eq_below hwc); replace HB1 := hide (HB1.out.trans (hbx.mono HB1.out.size)); replace HK1 := hide (HK1.out.later hbx); replace HR1 := hide (HR1.out.later hbx); clear hwc hbx; have hrl := HR1.out.lt; refine (l01Turn_any _ _ _ s _ HSL.out hnb (fun i hi => by rw [HP.out.2.1.rows i hi]; exact HSL.out) (HZ.out.later HB1.out).snd).mono ?_; rintro e wd ⟨A3, c3, rfl, hbd, ho3⟩; replace HB1 := hide (HB1.out.trans (hbd.mono HB1.out.size)); replace HK1 := hide (HK1.out.later hbd); replace HR1 := hide (HR1.out.later hbd); clear hbd; have k0 := HK1.out.cell 0 _ rfl; have k1 := HK1.out.cell 1 _ rfl; have k2 := HR1.out.cell 0 _ rfl; have k3 := HR1.out.cell 1 _ rfl; have HO3 := hide (ObjT.of (lo' := w.heap.size + 1 + 1) ho3 hrl (Nat.le_refl _)); clear ho3 hrl; have k4 := HR1.out.frozen 0; have k5 := HR1.out.frozen 1)) | (go_at_call_of 69 (Value.slice A kw c); go_must (refine calls_gen fun wc hwc => ?_; (first | have hbx := drew_below hwc | have hbx := eq_below hwc); replace HB1 := hide (HB1.out.trans (hbx.mono HB1.out.size)); replace HK1 := hide (HK1.out.later hbx); replace HR1 := hide (HR1.out.later hbx); replace HO3 := hide (HO3.out.later hbx); clear hwc hbx; have hrl := HR1.out.lt; refine (l01Turn_any _ _ _ f _ HFL.out hnb (fun i hi => by rw [HP.out.1.rows i hi]; exact HFL.out) (HZ.out.later HB1.out).fst).mono ?_; rintro e wd ⟨A4, c4, rfl, hbd, ho4⟩; replace HB1 := hide (HB1.out.trans (hbd.mono HB1.out.size)); replace HK1 := hide (HK1.out.later hbd); replace HR1 := hide (HR1.out.later hbd); replace HO3 := hide (HO3.out.later hbd); clear hbd; have k0 := HK1.out.cell 0 _ rfl; have k1 := HK1.out.cell 1 _ rfl; have k2 := HR1.out.cell 0 _ rfl; have k3 := HR1.out.cell 1 _ rfl; have HO4 := hide (ObjT.of (lo' := w.heap.size + 1 + 1) ho4 hrl (Nat.le_refl _)); clear ho4 hrl; have k4 := HR1.out.frozen 0; have k5 := HR1.out.frozen 1)))
    go_wp2_with fail
    refine bp_gen fun wf hwf => ?_
    obtain ⟨q0, q1, hbf, hof⟩ := wend2 hwf HR1.out (by omega) HB1.out HO3.out HO4.out
    clear hwf k0 k1 k2 k3 k4 k5
    exact bodyPost_ret (v := .tuple #[.agg #[.slice A3 kw c3, .slice A4 kw c4], .int .i64 0]) (by simp [results, Try.results37, go_sem, q0, q1]) rfl ⟨_, _, _, _, rfl, hbf, hof⟩
  · have HP := hide hp
    obtain rfl : kz = 0 := by simpa using hk.fl.symm
    obtain rfl : kw = 0 := by simpa using hk.sl.symm
    clear hp hz hk
    go_enter Try.func37, Try.ntmps37
    go_wp2_with fail
    refine calls_gen fun w0 hw0 => ?_
    have hb0 : Below w.heap.size w w0 := by rw [hw0]; exact ((Below.refl _ _).alloc (Nat.le_refl _) _).alloc (by simp) _
    have HB0 := hide hb0
    have HR0 : Hid (Blk w0 (w.heap.size + 1) 27 [.slice none 0 0, .slice none 0 0]) := hide (by rw [hw0]; have h := Blk.new (w.alloc (Obj.cells #[Value.slice A n c, Value.slice B m d] 27)) 27 [.slice none 0 0, .slice none 0 0]; simpa using h)
    clear hw0 hb0
    refine (mapS_any _ _ _ f _ _ _ s false _ (HZ.out.later HB0.out) (by simp [HP.out])).mono ?_
    rintro e w1 ⟨rfl, hb1⟩
    have HB1 := hide (HB0.out.trans (hb1.mono HB0.out.size))
    have HR1 := hide (HR0.out.later hb1)
    have k2 := HR1.out.cell 0 _ rfl
    have k3 := HR1.out.cell 1 _ rfl
    have k4 := HR1.out.frozen 0
    have k5 := HR1.out.frozen 1
    clear hb1
    go_wp2_with fail
    refine bp_gen fun wf hwf => ?_
    obtain ⟨q0, q1, hbf, hof⟩ := wend (ts := 31) (t := 2) (w2 := w1) hwf HR1.out (by omega) HR1.out.lt HB1.out HB1.out.size ObjW.empty
    clear hwf k2 k3 k4 k5
    exact bodyPost_ret (v := .tuple #[.agg #[.slice none 0 0, .slice none 0 0], .int .i64 1]) (by simp [results, Try.results37, go_sem, q0, q1]) rfl ⟨_, _, _, _, rfl, hbf, hof⟩
end Go.Proofs.Ytanldiildinbdaa
