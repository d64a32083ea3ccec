import Derived.Test.YtpnlmmilnglmkaaZat
import Derived.Test.YtpnlmmilnglmkaaZax
import Derived.Test.YtpnlmmilnglmkaaZj
import Derived.Test.YtpnlmmilnglmkaaZam
import Derived.Deep.Cut
namespace Go.Proofs.Ytpnlmmilnglmkaa
open Go Go.RowKit
set_option maxHeartbeats 4000000

set_option maxRecDepth 100000 in
theorem carry_any (A : Option Addr) (n c : Nat) (f : List (List Int)) (x y : Nat) (w : World) (hn : f.length = n) (ht : Tbl f) (hr : Rd2 w A f) (hx : x < n) (hy : y < n) :
    Calls Try.prog 74 #[.agg #[.slice A n c], .agg #[.int .i64 x, .int .i64 y]] w fun e w' => e = .returned (.agg #[.int .i64 (caH1 x y), .int .i64 (caH2 f x y)]) ∧ Below w.heap.size w w' := by
  have HN := hide hn
  have HTB := hide ht
  have HR := hide hr
  unfold caH1 caH2
  obtain ⟨v, hv⟩ : ∃ v, ap f y x = v := ⟨_, rfl⟩
  rw [hv]
  have HV := hide hv
  clear hn ht hr hv
  go_enter Try.func74, Try.ntmps74
  go_upto_region 1 with fail
  refine wp_gen fun w1 hw1 => ?_
  have HBc : Hid (Below w.heap.size w w1) := hide (by rw [hw1]; exact (((Below.refl _ _).alloc (Nat.le_refl _) _).alloc (by simp) _).alloc (by simp; omega) _)
  have HKc : Hid (Blk w1 w.heap.size 27 [.slice A n c]) := hide (by rw [hw1]; exact ((Blk.new _ _ _).alloc _).alloc _)
  have HPc : Hid (Blk w1 (w.heap.size + 1) 97 [.int .i64 x, .int .i64 y]) := hide (by rw [hw1]; have h := (Blk.new (w.alloc (Obj.cells #[.slice A n c] 27)) 97 [.int .i64 x, .int .i64 y]).alloc (Obj.cells #[Value.int IntKind.i64 0, Value.int IntKind.i64 0] 97); simpa using h)
  have HRc : Hid (Blk w1 (w.heap.size + 1 + 1) 97 [.int .i64 0, .int .i64 0]) := hide (by rw [hw1]; have h := (Blk.new ((w.alloc (Obj.cells #[.slice A n c] 27)).alloc (Obj.cells #[Value.int IntKind.i64 x, Value.int IntKind.i64 y] 97)) 97 [.int .i64 0, .int .i64 0]); simpa using h)
  clear hw1
  have n1 : w.heap.size + 1 + 1 ≠ w.heap.size := by omega
  have n2 : w.heap.size + 1 + 1 ≠ w.heap.size + 1 := by omega
  have m1 := n1.symm
  have m2 := n2.symm
  have k0 := HKc.out.cell 0 _ rfl
  have p0 := HPc.out.cell 0 _ rfl
  have p1 := HPc.out.cell 1 _ rfl
  have r0 := HRc.out.cell 0 _ rfl
  have r1 := HRc.out.cell 1 _ rfl
  have g0 := HRc.out.frozen 0
  have g1 := HRc.out.frozen 1
  go_region_held3 (fun w' => w'.cell? ⟨w.heap.size, 0, none⟩ = some (.slice A n c) ∧ w'.cell? ⟨w.heap.size + 1, 0, none⟩ = some (.int .i64 x) ∧ w'.cell? ⟨w.heap.size + 1, 1, none⟩ = some (.int .i64 y)) (first | exact ⟨k0, p0, p1⟩ | go_keep) (first | (go_at_call 90; go_must (refine calls_gen fun wc hwc => ?_; (first | have hbx := drew_below hwc | have hbx := eq_below hwc); replace HBc := hide (HBc.out.trans (hbx.mono HBc.out.size)); replace HKc := hide (HKc.out.later hbx); replace HPc := hide (HPc.out.later hbx); replace HRc := hide (HRc.out.later hbx); clear hwc hbx; refine (act_any _ _ _ f y x v _ HN.out HTB.out (HR.out.later HBc.out) hy hx HV.out).mono ?_; rintro e wd ⟨rfl, hbd⟩; replace HBc := hide (HBc.out.trans (hbd.mono HBc.out.size)); replace HKc := hide (HKc.out.later hbd); replace HPc := hide (HPc.out.later hbd); replace HRc := hide (HRc.out.later hbd); clear hbd; have k0 := HKc.out.cell 0 _ rfl; have p0 := HPc.out.cell 0 _ rfl; have p1 := HPc.out.cell 1 _ rfl; have r0 := HRc.out.cell 0 _ rfl; have r1 := HRc.out.cell 1 _ rfl; have g0 := HRc.out.frozen 0; have g1 := HRc.out.frozen 1)))
  all_goals
    clear k0 p0 p1
    go_wp2_with fail
    refine bp_gen fun wf hwf => ?_
    have HRF : Blk wf (w.heap.size + 1 + 1) 97 [.int .i64 y, .int .i64 v] := by rw [hwf]; first | exact ((HRc.out.set 0 _).set 1 _) | exact ((HRc.out.set 0 _).set 1 _).drew
    have HBF : Below w.heap.size w wf := by rw [hwf]; first | exact ((HBc.out.setCell (by show w.heap.size ≤ w.heap.size + 1 + 1; omega) _).setCell (by show w.heap.size ≤ w.heap.size + 1 + 1; omega) _) | exact ((HBc.out.setCell (by show w.heap.size ≤ w.heap.size + 1 + 1; omega) _).setCell (by show w.heap.size ≤ w.heap.size + 1 + 1; omega) _).drew
    have q0 := HRF.cell 0 _ rfl
    have q1 := HRF.cell 1 _ rfl
    clear hwf r0 r1 g0 g1
    exact bodyPost_ret (v := .agg #[.int .i64 y, .int .i64 v]) (by simp [results, Try.results74, go_sem, q0, q1]) rfl ⟨rfl, HBF⟩

set_option maxRecDepth 100000 in
theorem rmI_any (A : Option Addr) (n c : Nat) (f : List (List Int)) (C : Option Addr) (m e : Nat) (xs : List Int) (kk : Int) (zs : List Int) (code : Int) (kz : Nat) (w : World) (hn : f.length = n) (hnb : n ≤ 1048576) (hbs : ∀ i, i < f.length → (f.getD i []).length ≤ 1048576) (hrd : Rd2 w A f) (hm : xs.length = m) (hb : m ≤ 1048576) (hr : Rd w C xs) (hk0 : -9223372036854775808 ≤ kk) (hk1 : kk ≤ 9223372036854775807) (hres : RmRes f xs kk zs code) (hkz : zs.length = kz) :
    Calls Try.prog 32 #[.agg #[.slice A n c], .slice C m e, .int .i64 kk] w fun e w' => ∃ A' c', e = .returned (.tuple #[.slice A' kz c', .int .i64 code]) ∧ Below w.heap.size w w' ∧ Obj1 105 w.heap.size w'.heap.size w' A' zs := by
  have HN := hide hn
  have HBS := hide hbs
  have HRD := hide hrd
  have HM := hide hm
  have HR := hide hr
  have HKZ := hide hkz
  have HB0 := hide ((Below.refl _ w).alloc (Nat.le_refl _) (Obj.cells #[Value.slice A n c] 27))
  have HK0 := hide (Blk.new w 27 [Value.slice A n c])
  rcases hres with ⟨hg, hmv⟩ | ⟨hg, rfl, rfl⟩
  · have HMV := hide hmv
    have HG := hide hg
    have HTB := hide hg.tbl
    have h12 : n ≤ 12 := by rw [← hn]; exact hg.tbl.2.1
    replace HMV : Hid (MvR n caH1 (caH2 f) xs kk zs code) := hide (by have h := hmv; rw [hn] at h; exact h)
    clear hm hr hkz hg hmv hn hbs hrd
    go_enter Try.func32, Try.ntmps32
    have k0 := HK0.out.cell 0 _ rfl
    go_wp2_with fail
    clear k0
    refine (isRackI _ _ _ f true _ HN.out hnb HBS.out (HRD.out.later HB0.out) ⟨fun _ => HG.out, fun _ => rfl⟩).mono ?_
    rintro e w1 ⟨rfl, hb1⟩
    have HBc := hide (HB0.out.trans (hb1.mono HB0.out.size))
    have HKc := hide (HK0.out.later hb1)
    clear hb1
    have k0 := HKc.out.cell 0 _ rfl
    go_wp2_with fail
    go_region_held3 (fun w' => w'.cell? ⟨w.heap.size, 0, none⟩ = some (.slice A n c)) (first | exact k0 | go_keep) (first | (go_at_call 73; go_must (refine calls_gen fun wc hwc => ?_; (first | have hbx := drew_below hwc | have hbx := eq_below hwc); replace HBc := hide (HBc.out.trans (hbx.mono HBc.out.size)); replace HKc := hide (HKc.out.later hbx); clear hwc hbx; refine (ksize_any _ _ _ _ (by omega)).mono ?_; rintro e wd ⟨rfl, hbd⟩; replace HBc := hide (HBc.out.trans (hbd.mono HBc.out.size)); replace HKc := hide (HKc.out.later hbd); clear hbd; have k0 := HKc.out.cell 0 _ rfl)) | (go_at_call 67; go_must (refine calls_gen fun wc hwc => ?_; (first | have hbx := drew_below hwc | have hbx := eq_below hwc); replace HBc := hide (HBc.out.trans (hbx.mono HBc.out.size)); replace HKc := hide (HKc.out.later hbx); clear hwc hbx; have HLO := hide HBc.out.size; refine (moveOf_any 74 (.agg #[.slice A n c]) n caH1 (caH2 f) C m _ xs kk zs code kz _ (enters_of Try.func74 (by kernel_rfl) rfl) HM.out hb (HR.out.later HBc.out) hk0 hk1 (fun W x y hx hy hbe => carry_any A n c f x y W HN.out HTB.out (HRD.out.later (HBc.out.trans (hbe.mono HBc.out.size))) hx hy) HMV.out HKZ.out).mono ?_; rintro e wd ⟨A5, c5, rfl, hbd, ho5⟩; have HO5 := hide (ho5.mono HLO.out (Nat.le_refl _)); clear ho5; replace HBc := hide (HBc.out.trans (hbd.mono HBc.out.size)); replace HKc := hide (HKc.out.later hbd); clear hbd; have k0 := HKc.out.cell 0 _ rfl)))
    all_goals
      clear k0
      go_wp2_with fail
      go_ret2
      exact ⟨_, _, rfl, HBc.out, HO5.out⟩
  · obtain rfl : kz = 0 := by rw [← hkz]; rfl
    have HG := hide hg
    clear hm hr hkz hg hn hbs hrd
    go_enter Try.func32, Try.ntmps32
    have k0 := HK0.out.cell 0 _ rfl
    go_wp2_with fail
    clear k0
    refine (isRackI _ _ _ f false _ HN.out hnb HBS.out (HRD.out.later HB0.out) ⟨fun h => absurd h (by simp), fun h => absurd h HG.out⟩).mono ?_
    rintro e w1 ⟨rfl, hb1⟩
    have HB1 := hide (HB0.out.trans (hb1.mono HB0.out.size))
    clear hb1
    go_wp2_with fail
    go_ret2
    exact ⟨_, _, rfl, HB1.out, .inl ⟨rfl, rfl⟩⟩
end Go.Proofs.Ytpnlmmilnglmkaa
