import Derived.Test.YtelildgngkajnaaZac
import Derived.Test.YtelildgngkajnaaZab
import Derived.Deep.Cut
import Derived.Deep.RegionHeld3
import Derived.Test.YtelildgngkajnaaZj
import Derived.Test.YtelildgngkajnaaZh
import Derived.Test.YtelildgngkajnaaZf
import Derived.Deep.AppendLies
namespace Go.Proofs.Ytelildgngkajnaa
open Go Go.RowKit
set_option maxHeartbeats 4000000
set_option maxRecDepth 100000 in
theorem moMul_any (m s bm bs : Nat) (w : World) (h1 : 1 ≤ m) (hm : m ≤ 12) (hs : s ≤ 12) (hk1 : Blk w bm 2 [.int .i64 (m : Nat)]) (hk2 : Blk w bs 2 [.int .i64 (s : Nat)]) :
    MulFn Try.prog 133 #[.pointer (some ⟨bm, 0, none⟩), .pointer (some ⟨bs, 0, none⟩)] (2 * m) (fun i => .int .i64 (i % m : Nat)) (fun i => .bool (decide (m ≤ i))) (moH m s) w := by
  intro W i k hi hk hb
  have HM := hide (hk1.later hb)
  have HS := hide (hk2.later hb)
  show Calls Try.prog 133 #[.agg #[.int .i64 (i % m : Nat), .bool (decide (m ≤ i))], .agg #[.int .i64 (k % m : Nat), .bool (decide (m ≤ k))], .pointer (some ⟨bm, 0, none⟩), .pointer (some ⟨bs, 0, none⟩)] W fun e w' => e = .returned (.agg #[.int .i64 (moH m s i k % m : Nat), .bool (decide (m ≤ moH m s i k))]) ∧ _
  clear hk1 hk2 hb
  have hxm := Nat.mod_lt i (show m > 0 by omega)
  have hym := Nat.mod_lt k (show m > 0 by omega)
  obtain ⟨x, hx⟩ : ∃ x, i % m = x := ⟨_, rfl⟩
  obtain ⟨y, hy⟩ : ∃ y, k % m = y := ⟨_, rfl⟩
  rw [hx] at hxm
  rw [hy] at hym
  by_cases hi0 : i < m
  · by_cases hk0 : k < m
    · have hl := mo_pp (s := s) h1 hi0 hk0
      have hbi : decide (m ≤ i) = false := by simp <;> omega
      have hbk : decide (m ≤ k) = false := by simp <;> omega
      have hbr : decide (m ≤ moH m s i k) = false := by simp [hl.2]
      rw [hbi, hbk, hbr, hl.1, hx, hy]
      obtain ⟨u, hu⟩ : ∃ u, (x + y) % m = u := ⟨_, rfl⟩
      rw [hu]
      have HV : Hid (((x : Int) + (y : Int)) % (m : Int) = (u : Int)) := hide (by rw [mo_add x y m, hu])
      clear hl hbi hbk hbr hu hx hy hi0 hk0
      have HB0 := hide ((((Below.refl _ W).alloc (Nat.le_refl _) (Obj.cells #[Value.int IntKind.i64 (x : Nat), .bool false] 114)).alloc (by simp) (Obj.cells #[Value.int IntKind.i64 (y : Nat), .bool false] 114)).alloc (by simp; omega) (Obj.cells #[Value.int IntKind.i64 0, .bool false] 114))
      have HX0 := hide (((Blk.new W 114 [.int .i64 (x : Nat), .bool false]).alloc (Obj.cells #[Value.int IntKind.i64 (y : Nat), .bool false] 114)).alloc (Obj.cells #[Value.int IntKind.i64 0, .bool false] 114))
      have HY0 : Hid (Blk (((W.alloc (Obj.cells #[Value.int IntKind.i64 (x : Nat), .bool false] 114)).alloc (Obj.cells #[Value.int IntKind.i64 (y : Nat), .bool false] 114)).alloc (Obj.cells #[Value.int IntKind.i64 0, .bool false] 114)) (W.heap.size + 1) 114 [.int .i64 (y : Nat), .bool false]) := hide (by have h := (Blk.new (W.alloc (Obj.cells #[Value.int IntKind.i64 (x : Nat), .bool false] 114)) 114 [.int .i64 (y : Nat), .bool false]).alloc (Obj.cells #[Value.int IntKind.i64 0, .bool false] 114); simpa using h)
      have HR0 : Hid (Blk (((W.alloc (Obj.cells #[Value.int IntKind.i64 (x : Nat), .bool false] 114)).alloc (Obj.cells #[Value.int IntKind.i64 (y : Nat), .bool false] 114)).alloc (Obj.cells #[Value.int IntKind.i64 0, .bool false] 114)) (W.heap.size + 1 + 1) 114 [.int .i64 0, .bool false]) := hide (by have h := Blk.new ((W.alloc (Obj.cells #[Value.int IntKind.i64 (x : Nat), .bool false] 114)).alloc (Obj.cells #[Value.int IntKind.i64 (y : Nat), .bool false] 114)) 114 [.int .i64 0, .bool false]; simpa using h)
      have HM0 := hide (HM.out.later HB0.out)
      have HS0 := hide (HS.out.later HB0.out)
      go_enter Try.func133, Try.ntmps133
      have x0 := HX0.out.cell 0 _ rfl
      have x1 := HX0.out.cell 1 _ rfl
      have y0 := HY0.out.cell 0 _ rfl
      have y1 := HY0.out.cell 1 _ rfl
      have m0 := HM0.out.cell 0 _ rfl
      have s0 := HS0.out.cell 0 _ rfl
      have hw1 : IntKind.i64.wrap ((x : Int) + (y : Int)) = (x : Int) + (y : Int) := IntWalk.i64_in _ (by omega)
      go_wp2_with fail
      have HBc := HB0
      have HXc := HX0
      have HYc := HY0
      have HRc := HR0
      refine wp_gen fun w8 hw8 => ?_
      replace HBc : Hid (Below W.heap.size W w8) := hide (by rw [hw8]; exact HB0.out)
      replace HXc : Hid (Blk w8 W.heap.size 114 [.int .i64 (x : Nat), .bool false]) := hide (by rw [hw8]; exact HX0.out)
      replace HYc : Hid (Blk w8 (W.heap.size + 1) 114 [.int .i64 (y : Nat), .bool false]) := hide (by rw [hw8]; exact HY0.out)
      replace HRc : Hid (Blk w8 (W.heap.size + 1 + 1) 114 [.int .i64 0, .bool false]) := hide (by rw [hw8]; exact HR0.out)
      replace x0 : w8.cell? ⟨W.heap.size, 0, none⟩ = some (.int .i64 (x : Nat)) := by rw [hw8]; exact x0
      replace y0 : w8.cell? ⟨W.heap.size + 1, 0, none⟩ = some (.int .i64 (y : Nat)) := by rw [hw8]; exact y0
      replace y1 : w8.cell? ⟨W.heap.size + 1, 1, none⟩ = some (.bool false) := by rw [hw8]; exact y1
      replace m0 : w8.cell? ⟨bm, 0, none⟩ = some (.int .i64 (m : Nat)) := by rw [hw8]; exact m0
      clear hw8 x1 s0
      have hbml := HM.out.lt
      have ne1 : W.heap.size ≠ W.heap.size + 1 + 1 := by omega
      have ne2 : W.heap.size + 1 ≠ W.heap.size + 1 + 1 := by omega
      have ne3 : bm ≠ W.heap.size + 1 + 1 := by omega
      have ne4 := ne1.symm
      have ne5 := ne2.symm
      have ne6 := ne3.symm
      go_region_held3 (fun w' => w'.cell? ⟨W.heap.size, 0, none⟩ = some (.int .i64 (x : Nat)) ∧ w'.cell? ⟨W.heap.size + 1, 0, none⟩ = some (.int .i64 (y : Nat)) ∧ w'.cell? ⟨W.heap.size + 1, 1, none⟩ = some (.bool false) ∧ w'.cell? ⟨bm, 0, none⟩ = some (.int .i64 (m : Nat))) (first | exact ⟨x0, y0, y1, m0⟩ | go_keep) (first | (go_at_call 134; go_must (refine calls_gen fun wc hwc => ?_; (first | have hbx := drew_below hwc | have hbx := eq_below hwc); replace HBc := hide (HBc.out.trans (hbx.mono HBc.out.size)); replace HXc := hide (HXc.out.later hbx); replace HYc := hide (HYc.out.later hbx); replace HRc := hide (HRc.out.later hbx); clear hwc hbx; refine (remainder_any _ m _ h1 (by omega) (by omega) (by omega)).mono ?_; rintro e wd ⟨rfl, hbd⟩; rw [HV.out]; replace HBc := hide (HBc.out.trans (hbd.mono HBc.out.size)); replace HXc := hide (HXc.out.later hbd); replace HYc := hide (HYc.out.later hbd); replace HRc := hide (HRc.out.later hbd); clear hbd; have x0 := HXc.out.cell 0 _ rfl; have m0 := (HM.out.later HBc.out).cell 0 _ rfl; have y0 := HYc.out.cell 0 _ rfl; have y1 := HYc.out.cell 1 _ rfl; have r0 := HRc.out.cell 0 _ rfl; have r1 := HRc.out.cell 1 _ rfl; have r2 := HRc.out.frozen 0; have r3 := HRc.out.frozen 1)))
      all_goals
        clear x0 y0 y1 m0
        have HB1 := HBc
        have HR1 := HRc
        have r0 := HR1.out.cell 0 _ rfl
        have r1 := HR1.out.cell 1 _ rfl
        have r2 := HR1.out.frozen 0
        have r3 := HR1.out.frozen 1
        go_wp2_with fail
        refine bp_gen fun wf hwf => ?_
        have HRF : Blk wf (W.heap.size + 1 + 1) 114 [.int .i64 (u : Nat), .bool false] := by rw [hwf]; exact (HR1.out.set 0 _).set 1 _
        have hbf : Below W.heap.size W wf := by rw [hwf]; exact (HB1.out.setCell (p := ⟨W.heap.size + 1 + 1, 0, none⟩) (by show W.heap.size ≤ W.heap.size + 1 + 1; omega) _).setCell (p := ⟨W.heap.size + 1 + 1, 1, none⟩) (by show W.heap.size ≤ W.heap.size + 1 + 1; omega) _
        have q0 := HRF.cell 0 _ rfl
        have q1 := HRF.cell 1 _ rfl
        clear hwf r0 r1 r2 r3
        exact bodyPost_ret (v := .agg #[.int .i64 (u : Nat), .bool false]) (by simp [results, Try.results133, go_sem, q0, q1]) rfl ⟨rfl, hbf⟩
    · have hl := mo_pf (s := s) h1 hi0 hk0
      have hbi : decide (m ≤ i) = false := by simp <;> omega
      have hbk : decide (m ≤ k) = true := by simp <;> omega
      have hbr : decide (m ≤ moH m s i k) = true := by simp [hl.2]
      rw [hbi, hbk, hbr, hl.1, hx, hy]
      obtain ⟨u, hu⟩ : ∃ u, (x + y) % m = u := ⟨_, rfl⟩
      rw [hu]
      have HV : Hid (((x : Int) + (y : Int)) % (m : Int) = (u : Int)) := hide (by rw [mo_add x y m, hu])
      clear hl hbi hbk hbr hu hx hy hi0 hk0
      have HB0 := hide ((((Below.refl _ W).alloc (Nat.le_refl _) (Obj.cells #[Value.int IntKind.i64 (x : Nat), .bool false] 114)).alloc (by simp) (Obj.cells #[Value.int IntKind.i64 (y : Nat), .bool true] 114)).alloc (by simp; omega) (Obj.cells #[Value.int IntKind.i64 0, .bool false] 114))
      have HX0 := hide (((Blk.new W 114 [.int .i64 (x : Nat), .bool false]).alloc (Obj.cells #[Value.int IntKind.i64 (y : Nat), .bool true] 114)).alloc (Obj.cells #[Value.int IntKind.i64 0, .bool false] 114))
      have HY0 : Hid (Blk (((W.alloc (Obj.cells #[Value.int IntKind.i64 (x : Nat), .bool false] 114)).alloc (Obj.cells #[Value.int IntKind.i64 (y : Nat), .bool true] 114)).alloc (Obj.cells #[Value.int IntKind.i64 0, .bool false] 114)) (W.heap.size + 1) 114 [.int .i64 (y : Nat), .bool true]) := hide (by have h := (Blk.new (W.alloc (Obj.cells #[Value.int IntKind.i64 (x : Nat), .bool false] 114)) 114 [.int .i64 (y : Nat), .bool true]).alloc (Obj.cells #[Value.int IntKind.i64 0, .bool false] 114); simpa using h)
      have HR0 : Hid (Blk (((W.alloc (Obj.cells #[Value.int IntKind.i64 (x : Nat), .bool false] 114)).alloc (Obj.cells #[Value.int IntKind.i64 (y : Nat), .bool true] 114)).alloc (Obj.cells #[Value.int IntKind.i64 0, .bool false] 114)) (W.heap.size + 1 + 1) 114 [.int .i64 0, .bool false]) := hide (by have h := Blk.new ((W.alloc (Obj.cells #[Value.int IntKind.i64 (x : Nat), .bool false] 114)).alloc (Obj.cells #[Value.int IntKind.i64 (y : Nat), .bool true] 114)) 114 [.int .i64 0, .bool false]; simpa using h)
      have HM0 := hide (HM.out.later HB0.out)
      have HS0 := hide (HS.out.later HB0.out)
      go_enter Try.func133, Try.ntmps133
      have x0 := HX0.out.cell 0 _ rfl
      have x1 := HX0.out.cell 1 _ rfl
      have y0 := HY0.out.cell 0 _ rfl
      have y1 := HY0.out.cell 1 _ rfl
      have m0 := HM0.out.cell 0 _ rfl
      have s0 := HS0.out.cell 0 _ rfl
      have hw1 : IntKind.i64.wrap ((x : Int) + (y : Int)) = (x : Int) + (y : Int) := IntWalk.i64_in _ (by omega)
      go_wp2_with fail
      have HBc := HB0
      have HXc := HX0
      have HYc := HY0
      have HRc := HR0
      refine wp_gen fun w8 hw8 => ?_
      replace HBc : Hid (Below W.heap.size W w8) := hide (by rw [hw8]; exact HB0.out)
      replace HXc : Hid (Blk w8 W.heap.size 114 [.int .i64 (x : Nat), .bool false]) := hide (by rw [hw8]; exact HX0.out)
      replace HYc : Hid (Blk w8 (W.heap.size + 1) 114 [.int .i64 (y : Nat), .bool true]) := hide (by rw [hw8]; exact HY0.out)
      replace HRc : Hid (Blk w8 (W.heap.size + 1 + 1) 114 [.int .i64 0, .bool false]) := hide (by rw [hw8]; exact HR0.out)
      replace x0 : w8.cell? ⟨W.heap.size, 0, none⟩ = some (.int .i64 (x : Nat)) := by rw [hw8]; exact x0
      replace y0 : w8.cell? ⟨W.heap.size + 1, 0, none⟩ = some (.int .i64 (y : Nat)) := by rw [hw8]; exact y0
      replace y1 : w8.cell? ⟨W.heap.size + 1, 1, none⟩ = some (.bool true) := by rw [hw8]; exact y1
      replace m0 : w8.cell? ⟨bm, 0, none⟩ = some (.int .i64 (m : Nat)) := by rw [hw8]; exact m0
      clear hw8 x1 s0
      have hbml := HM.out.lt
      have ne1 : W.heap.size ≠ W.heap.size + 1 + 1 := by omega
      have ne2 : W.heap.size + 1 ≠ W.heap.size + 1 + 1 := by omega
      have ne3 : bm ≠ W.heap.size + 1 + 1 := by omega
      have ne4 := ne1.symm
      have ne5 := ne2.symm
      have ne6 := ne3.symm
      go_region_held3 (fun w' => w'.cell? ⟨W.heap.size, 0, none⟩ = some (.int .i64 (x : Nat)) ∧ w'.cell? ⟨W.heap.size + 1, 0, none⟩ = some (.int .i64 (y : Nat)) ∧ w'.cell? ⟨W.heap.size + 1, 1, none⟩ = some (.bool true) ∧ w'.cell? ⟨bm, 0, none⟩ = some (.int .i64 (m : Nat))) (first | exact ⟨x0, y0, y1, m0⟩ | go_keep) (first | (go_at_call 134; go_must (refine calls_gen fun wc hwc => ?_; (first | have hbx := drew_below hwc | have hbx := eq_below hwc); replace HBc := hide (HBc.out.trans (hbx.mono HBc.out.size)); replace HXc := hide (HXc.out.later hbx); replace HYc := hide (HYc.out.later hbx); replace HRc := hide (HRc.out.later hbx); clear hwc hbx; refine (remainder_any _ m _ h1 (by omega) (by omega) (by omega)).mono ?_; rintro e wd ⟨rfl, hbd⟩; rw [HV.out]; replace HBc := hide (HBc.out.trans (hbd.mono HBc.out.size)); replace HXc := hide (HXc.out.later hbd); replace HYc := hide (HYc.out.later hbd); replace HRc := hide (HRc.out.later hbd); clear hbd; have x0 := HXc.out.cell 0 _ rfl; have m0 := (HM.out.later HBc.out).cell 0 _ rfl; have y0 := HYc.out.cell 0 _ rfl; have y1 := HYc.out.cell 1 _ rfl; have r0 := HRc.out.cell 0 _ rfl; have r1 := HRc.out.cell 1 _ rfl; have r2 := HRc.out.frozen 0; have r3 := HRc.out.frozen 1)))
      all_goals
        clear x0 y0 y1 m0
        have HB1 := HBc
        have HR1 := HRc
        have r0 := HR1.out.cell 0 _ rfl
        have r1 := HR1.out.cell 1 _ rfl
        have r2 := HR1.out.frozen 0
        have r3 := HR1.out.frozen 1
        go_wp2_with fail
        refine bp_gen fun wf hwf => ?_
        have HRF : Blk wf (W.heap.size + 1 + 1) 114 [.int .i64 (u : Nat), .bool true] := by rw [hwf]; exact (HR1.out.set 0 _).set 1 _
        have hbf : Below W.heap.size W wf := by rw [hwf]; exact (HB1.out.setCell (p := ⟨W.heap.size + 1 + 1, 0, none⟩) (by show W.heap.size ≤ W.heap.size + 1 + 1; omega) _).setCell (p := ⟨W.heap.size + 1 + 1, 1, none⟩) (by show W.heap.size ≤ W.heap.size + 1 + 1; omega) _
        have q0 := HRF.cell 0 _ rfl
        have q1 := HRF.cell 1 _ rfl
        clear hwf r0 r1 r2 r3
        exact bodyPost_ret (v := .agg #[.int .i64 (u : Nat), .bool true]) (by simp [results, Try.results133, go_sem, q0, q1]) rfl ⟨rfl, hbf⟩
  · by_cases hk0 : k < m
    · have hl := mo_fp (s := s) h1 hi0 hk0
      have hbi : decide (m ≤ i) = true := by simp <;> omega
      have hbk : decide (m ≤ k) = false := by simp <;> omega
      have hbr : decide (m ≤ moH m s i k) = true := by simp [hl.2]
      rw [hbi, hbk, hbr, hl.1, hx, hy]
      obtain ⟨u, hu⟩ : ∃ u, (x + m - y) % m = u := ⟨_, rfl⟩
      rw [hu]
      have HV : Hid (((x : Int) - (y : Int)) % (m : Int) = (u : Int)) := hide (by rw [mo_sub x y m (by omega), hu])
      clear hl hbi hbk hbr hu hx hy hi0 hk0
      have HB0 := hide ((((Below.refl _ W).alloc (Nat.le_refl _) (Obj.cells #[Value.int IntKind.i64 (x : Nat), .bool true] 114)).alloc (by simp) (Obj.cells #[Value.int IntKind.i64 (y : Nat), .bool false] 114)).alloc (by simp; omega) (Obj.cells #[Value.int IntKind.i64 0, .bool false] 114))
      have HX0 := hide (((Blk.new W 114 [.int .i64 (x : Nat), .bool true]).alloc (Obj.cells #[Value.int IntKind.i64 (y : Nat), .bool false] 114)).alloc (Obj.cells #[Value.int IntKind.i64 0, .bool false] 114))
      have HY0 : Hid (Blk (((W.alloc (Obj.cells #[Value.int IntKind.i64 (x : Nat), .bool true] 114)).alloc (Obj.cells #[Value.int IntKind.i64 (y : Nat), .bool false] 114)).alloc (Obj.cells #[Value.int IntKind.i64 0, .bool false] 114)) (W.heap.size + 1) 114 [.int .i64 (y : Nat), .bool false]) := hide (by have h := (Blk.new (W.alloc (Obj.cells #[Value.int IntKind.i64 (x : Nat), .bool true] 114)) 114 [.int .i64 (y : Nat), .bool false]).alloc (Obj.cells #[Value.int IntKind.i64 0, .bool false] 114); simpa using h)
      have HR0 : Hid (Blk (((W.alloc (Obj.cells #[Value.int IntKind.i64 (x : Nat), .bool true] 114)).alloc (Obj.cells #[Value.int IntKind.i64 (y : Nat), .bool false] 114)).alloc (Obj.cells #[Value.int IntKind.i64 0, .bool false] 114)) (W.heap.size + 1 + 1) 114 [.int .i64 0, .bool false]) := hide (by have h := Blk.new ((W.alloc (Obj.cells #[Value.int IntKind.i64 (x : Nat), .bool true] 114)).alloc (Obj.cells #[Value.int IntKind.i64 (y : Nat), .bool false] 114)) 114 [.int .i64 0, .bool false]; simpa using h)
      have HM0 := hide (HM.out.later HB0.out)
      have HS0 := hide (HS.out.later HB0.out)
      go_enter Try.func133, Try.ntmps133
      have x0 := HX0.out.cell 0 _ rfl
      have x1 := HX0.out.cell 1 _ rfl
      have y0 := HY0.out.cell 0 _ rfl
      have y1 := HY0.out.cell 1 _ rfl
      have m0 := HM0.out.cell 0 _ rfl
      have s0 := HS0.out.cell 0 _ rfl
      go_wp2_with fail
      refine (remainder_any _ m _ h1 (by omega) (by omega) (by omega)).mono ?_
      rintro e wd ⟨rfl, hbd⟩
      rw [HV.out]
      have HB1 := hide (HB0.out.trans (hbd.mono HB0.out.size))
      have HR1 := hide (HR0.out.later hbd)
      clear hbd x0 x1 y0 y1 m0 s0
      have r0 := HR1.out.cell 0 _ rfl
      have r1 := HR1.out.cell 1 _ rfl
      have r2 := HR1.out.frozen 0
      have r3 := HR1.out.frozen 1
      go_wp2_with fail
      refine bp_gen fun wf hwf => ?_
      have HRF : Blk wf (W.heap.size + 1 + 1) 114 [.int .i64 (u : Nat), .bool true] := by rw [hwf]; exact (HR1.out.set 0 _).set 1 _
      have hbf : Below W.heap.size W wf := by rw [hwf]; exact (HB1.out.setCell (p := ⟨W.heap.size + 1 + 1, 0, none⟩) (by show W.heap.size ≤ W.heap.size + 1 + 1; omega) _).setCell (p := ⟨W.heap.size + 1 + 1, 1, none⟩) (by show W.heap.size ≤ W.heap.size + 1 + 1; omega) _
      have q0 := HRF.cell 0 _ rfl
      have q1 := HRF.cell 1 _ rfl
      clear hwf r0 r1 r2 r3
      exact bodyPost_ret (v := .agg #[.int .i64 (u : Nat), .bool true]) (by simp [results, Try.results133, go_sem, q0, q1]) rfl ⟨rfl, hbf⟩
    · have hl := mo_ff (s := s) h1 hi0 hk0
      have hbi : decide (m ≤ i) = true := by simp <;> omega
      have hbk : decide (m ≤ k) = true := by simp <;> omega
      have hbr : decide (m ≤ moH m s i k) = false := by simp [hl.2]
      rw [hbi, hbk, hbr, hl.1, hx, hy]
      obtain ⟨u, hu⟩ : ∃ u, (x + m - y + s) % m = u := ⟨_, rfl⟩
      rw [hu]
      have HV : Hid (((x : Int) - (y : Int) + (s : Int)) % (m : Int) = (u : Int)) := hide (by rw [mo_subs x y s m (by omega), hu])
      clear hl hbi hbk hbr hu hx hy hi0 hk0
      have HB0 := hide ((((Below.refl _ W).alloc (Nat.le_refl _) (Obj.cells #[Value.int IntKind.i64 (x : Nat), .bool true] 114)).alloc (by simp) (Obj.cells #[Value.int IntKind.i64 (y : Nat), .bool true] 114)).alloc (by simp; omega) (Obj.cells #[Value.int IntKind.i64 0, .bool false] 114))
      have HX0 := hide (((Blk.new W 114 [.int .i64 (x : Nat), .bool true]).alloc (Obj.cells #[Value.int IntKind.i64 (y : Nat), .bool true] 114)).alloc (Obj.cells #[Value.int IntKind.i64 0, .bool false] 114))
      have HY0 : Hid (Blk (((W.alloc (Obj.cells #[Value.int IntKind.i64 (x : Nat), .bool true] 114)).alloc (Obj.cells #[Value.int IntKind.i64 (y : Nat), .bool true] 114)).alloc (Obj.cells #[Value.int IntKind.i64 0, .bool false] 114)) (W.heap.size + 1) 114 [.int .i64 (y : Nat), .bool true]) := hide (by have h := (Blk.new (W.alloc (Obj.cells #[Value.int IntKind.i64 (x : Nat), .bool true] 114)) 114 [.int .i64 (y : Nat), .bool true]).alloc (Obj.cells #[Value.int IntKind.i64 0, .bool false] 114); simpa using h)
      have HR0 : Hid (Blk (((W.alloc (Obj.cells #[Value.int IntKind.i64 (x : Nat), .bool true] 114)).alloc (Obj.cells #[Value.int IntKind.i64 (y : Nat), .bool true] 114)).alloc (Obj.cells #[Value.int IntKind.i64 0, .bool false] 114)) (W.heap.size + 1 + 1) 114 [.int .i64 0, .bool false]) := hide (by have h := Blk.new ((W.alloc (Obj.cells #[Value.int IntKind.i64 (x : Nat), .bool true] 114)).alloc (Obj.cells #[Value.int IntKind.i64 (y : Nat), .bool true] 114)) 114 [.int .i64 0, .bool false]; simpa using h)
      have HM0 := hide (HM.out.later HB0.out)
      have HS0 := hide (HS.out.later HB0.out)
      go_enter Try.func133, Try.ntmps133
      have x0 := HX0.out.cell 0 _ rfl
      have x1 := HX0.out.cell 1 _ rfl
      have y0 := HY0.out.cell 0 _ rfl
      have y1 := HY0.out.cell 1 _ rfl
      have m0 := HM0.out.cell 0 _ rfl
      have s0 := HS0.out.cell 0 _ rfl
      go_wp2_with fail
      refine (remainder_any _ m _ h1 (by omega) (by omega) (by omega)).mono ?_
      rintro e wd ⟨rfl, hbd⟩
      rw [HV.out]
      have HB1 := hide (HB0.out.trans (hbd.mono HB0.out.size))
      have HR1 := hide (HR0.out.later hbd)
      clear hbd x0 x1 y0 y1 m0 s0
      have r0 := HR1.out.cell 0 _ rfl
      have r1 := HR1.out.cell 1 _ rfl
      have r2 := HR1.out.frozen 0
      have r3 := HR1.out.frozen 1
      go_wp2_with fail
      refine bp_gen fun wf hwf => ?_
      have HRF : Blk wf (W.heap.size + 1 + 1) 114 [.int .i64 (u : Nat), .bool false] := by rw [hwf]; exact (HR1.out.set 0 _).set 1 _
      have hbf : Below W.heap.size W wf := by rw [hwf]; exact (HB1.out.setCell (p := ⟨W.heap.size + 1 + 1, 0, none⟩) (by show W.heap.size ≤ W.heap.size + 1 + 1; omega) _).setCell (p := ⟨W.heap.size + 1 + 1, 1, none⟩) (by show W.heap.size ≤ W.heap.size + 1 + 1; omega) _
      have q0 := HRF.cell 0 _ rfl
      have q1 := HRF.cell 1 _ rfl
      clear hwf r0 r1 r2 r3
      exact bodyPost_ret (v := .agg #[.int .i64 (u : Nat), .bool false]) (by simp [results, Try.results133, go_sem, q0, q1]) rfl ⟨rfl, hbf⟩
end Go.Proofs.Ytelildgngkajnaa
namespace Go.Proofs.Ytelildgngkajnaa
open Go Go.RowKit
set_option maxHeartbeats 4000000
theorem mo_ex {Q : Exit → Act → World → Prop} {x : Exit} {a : Act} {w : World} (h : ∀ wf, wf = w → Q x a wf) : Q x a w := h w rfl
set_option maxRecDepth 100000 in
theorem dblS_any (m s : Nat) (w : World) (h1 : 1 ≤ m) (hm : m ≤ 6) (hs : s ≤ 6) :
    Calls Try.prog 56 #[.int .i64 (m : Nat), .int .i64 (s : Nat)] w fun e w' => ∃ A' c', e = .returned (.slice A' (2 * m) c') ∧ Below w.heap.size w w' ∧ Obj2 48 2 w.heap.size w'.heap.size w' A' (grid (2 * m) (fun i k => (moH m s i k : Nat))) := by
  obtain ⟨H, hH⟩ : ∃ H : Nat → Nat → Int, (fun i k => (moH m s i k : Nat) : Nat → Nat → Int) = H := ⟨_, rfl⟩
  rw [hH]
  have HH := hide hH
  clear hH
  obtain ⟨N, hN⟩ : ∃ N, 2 * m = N := ⟨_, rfl⟩
  have hNz : 2 * (m : Int) = (N : Int) := by omega
  have hN12 : N ≤ 12 := by omega
  rw [hN]
  have HNN := hide hN
  clear hN
  have hn0 : ¬ (m : Int) = 0 := by omega
  obtain ⟨i0, hi, hz0, hz1, hz2⟩ := info_parts neInfo
  obtain ⟨i2, hj, hy0, hy1, hy2⟩ := info_parts neInfo2
  go_enter Try.func56, Try.ntmps56
  go_wp2_with fail
  go_loopw [5, 6] (fun v i wr => ∃ (x : Nat) (vals : List Value), x ≤ N ∧ i = .int .i64 x ∧ Below w.heap.size w wr ∧ LstV 48 2 w.heap.size wr v ((grid N H).take x) vals ∧ w.heap.size ≤ wr.heap.size) (fun _ i _ => N - (intOf i).toNat)
  case atStart => exact ⟨0, [], Nat.zero_le _, rfl, (Below.refl _ _).alloc (Nat.le_refl _) _, by simpa using LstV.start w _ _, by simp⟩
  case round =>
    obtain ⟨x, vals, hx, rfl, hbe, hlst, hsz⟩ := hrel
    have HB := hide hbe
    have HL := hide hlst
    clear hbe hlst
    by_cases hlt : x < N
    · have hxz : (x : Int) < N := by omega
      go_wp2_with fail
      obtain ⟨wo, rfl⟩ : ∃ wo : World, wo = wr := ⟨_, rfl⟩
      go_loopw [7, 8] (fun v i wi => ∃ y : Nat, y ≤ N ∧ i = .int .i64 y ∧ Below wo.heap.size wo wi ∧ wo.heap.size < wi.heap.size ∧ wi.ownsRow wo.heap.size 2 1 v y (ints ((frow N H x).take y))) (fun _ i _ => N - (intOf i).toNat)
      case atStart => exact ⟨0, Nat.zero_le _, rfl, (Below.refl _ _).alloc (Nat.le_refl _) _, by simp, by simpa [ints] using ne_empty wo _⟩
      case round =>
        obtain ⟨y, hy, rfl, hbi, hsi, hoi⟩ := hrel
        have HBI := hide hbi
        have HOI := hide hoi
        clear hbi hoi
        by_cases hlty : y < N
        · have hyz : (y : Int) < N := by omega
          have hxm := Nat.mod_lt x (show m > 0 by omega)
          have hym := Nat.mod_lt y (show m > 0 by omega)
          obtain ⟨a, ha⟩ : ∃ a, x % m = a := ⟨_, rfl⟩
          obtain ⟨b, hb⟩ : ∃ b, y % m = b := ⟨_, rfl⟩
          have t1 : (x : Int).tmod (m : Int) = (a : Int) := by rw [← Int.ofNat_tmod, ha]
          have t2 : (y : Int).tmod (m : Int) = (b : Int) := by rw [← Int.ofNat_tmod, hb]
          rw [ha] at hxm
          rw [hb] at hym
          by_cases hi0 : x < m
          · by_cases hk0 : y < m
            · obtain ⟨u, hu⟩ : ∃ u, (a + b) % m = u := ⟨_, rfl⟩
              have hum := Nat.mod_lt (a + b) (show m > 0 by omega)
              have hpr : H x y = (u : Int) := by
                rw [← HH.out]
                show ((moH m s x y : Nat) : Int) = (u : Int)
                rw [← hu]
                unfold moH
                rw [if_pos hi0, if_pos hk0, ha, hb]
              rw [hu] at hum
              have t3 : ((a : Int) + (b : Int)).tmod (m : Int) = (u : Int) := by rw [show ((a : Int) + (b : Int)) = ((a + b : Nat) : Int) by omega, ← Int.ofNat_tmod, hu]
              have HCELL := hide hpr
              clear hu hpr
              go_wp2_with fail
              go_quiet (fail)
              refine mo_ex fun wz hwz => ?_
              replace HBI : Hid (Below wo.heap.size wo wz) := hide (by rw [hwz]; exact bdrewN HBI.out _)
              replace HOI := hide (by have h := ownsRow_below HOI.out (show Below wr.heap.size wr wz by rw [hwz]; exact bdrewN (Below.refl _ _) _); exact h)
              have hsz2 : wo.heap.size < wz.heap.size := by rw [hwz]; simpa using hsi
              clear hwz
              go_wp2_with (at_builtin; refine wpList_append_own _ rfl _ _ 48 rfl wo.heap.size 2 i0 (.int .i64 0) 1 8 Try.underlying48 hi hz0 hz1 hz2 rfl (by decide) _ _ _ rfl (HOI.out.alloc _) ⟨wz.heap.size, 0, none⟩ 1 1 [.int .i64 ((u : Int))] rfl rfl ?c1 ?c2 ?c3 ?c4 ?c5 ?_)
              try (case c1 => exact ne_new)
              try (case c2 => first | rfl | (intro u hu; simp at hu; subst hu; rfl))
              try (case c3 => first | omega | (unfold maxLen; omega))
              try (case c4 => omega)
              try (case c5 => first | omega | (simp; omega))
              intro v' w3 hown' hgrow _
              have HO3 := hide hown'
              have HB3 : Hid (Below wo.heap.size wo w3) := hide ((HBI.out.alloc HBI.out.size _).grown hgrow (by have := HBI.out.size; simp; omega) (fun g hg => ((HOI.out.alloc (.cells #[.int .i64 ((u : Int))] 2)).lt g hg).1))
              have hs3 : wo.heap.size < w3.heap.size := by have := hgrow.size; simp at this; omega
              clear hown' hgrow
              go_wp2_with fail
              go_roundw
              case rel => exact ⟨y + 1, by omega, by go_num, HB3.out, hs3, by have h := HO3.out; rw [← HCELL.out, frow_take _ _ _ _ hlty] at h; exact h⟩
              case measure => simp [intOf]; omega
            · obtain ⟨u, hu⟩ : ∃ u, (a + b) % m = u := ⟨_, rfl⟩
              have hum := Nat.mod_lt (a + b) (show m > 0 by omega)
              have hpr : H x y = (m : Int) + (u : Int) := by
                rw [← HH.out]
                show ((moH m s x y : Nat) : Int) = (m : Int) + (u : Int)
                rw [← hu]
                unfold moH
                rw [if_pos hi0, if_neg hk0, ha, hb]
                push_cast
                rfl
              rw [hu] at hum
              have t3 : ((a : Int) + (b : Int)).tmod (m : Int) = (u : Int) := by rw [show ((a : Int) + (b : Int)) = ((a + b : Nat) : Int) by omega, ← Int.ofNat_tmod, hu]
              have HCELL := hide hpr
              clear hu hpr
              go_wp2_with fail
              go_quiet (fail)
              refine mo_ex fun wz hwz => ?_
              replace HBI : Hid (Below wo.heap.size wo wz) := hide (by rw [hwz]; exact bdrewN HBI.out _)
              replace HOI := hide (by have h := ownsRow_below HOI.out (show Below wr.heap.size wr wz by rw [hwz]; exact bdrewN (Below.refl _ _) _); exact h)
              have hsz2 : wo.heap.size < wz.heap.size := by rw [hwz]; simpa using hsi
              clear hwz
              go_wp2_with (at_builtin; refine wpList_append_own _ rfl _ _ 48 rfl wo.heap.size 2 i0 (.int .i64 0) 1 8 Try.underlying48 hi hz0 hz1 hz2 rfl (by decide) _ _ _ rfl (HOI.out.alloc _) ⟨wz.heap.size, 0, none⟩ 1 1 [.int .i64 ((m : Int) + (u : Int))] rfl rfl ?c1 ?c2 ?c3 ?c4 ?c5 ?_)
              try (case c1 => exact ne_new)
              try (case c2 => first | rfl | (intro u hu; simp at hu; subst hu; rfl))
              try (case c3 => first | omega | (unfold maxLen; omega))
              try (case c4 => omega)
              try (case c5 => first | omega | (simp; omega))
              intro v' w3 hown' hgrow _
              have HO3 := hide hown'
              have HB3 : Hid (Below wo.heap.size wo w3) := hide ((HBI.out.alloc HBI.out.size _).grown hgrow (by have := HBI.out.size; simp; omega) (fun g hg => ((HOI.out.alloc (.cells #[.int .i64 ((m : Int) + (u : Int))] 2)).lt g hg).1))
              have hs3 : wo.heap.size < w3.heap.size := by have := hgrow.size; simp at this; omega
              clear hown' hgrow
              go_wp2_with fail
              go_roundw
              case rel => exact ⟨y + 1, by omega, by go_num, HB3.out, hs3, by have h := HO3.out; rw [← HCELL.out, frow_take _ _ _ _ hlty] at h; exact h⟩
              case measure => simp [intOf]; omega
          · by_cases hk0 : y < m
            · obtain ⟨u, hu⟩ : ∃ u, (a + m - b) % m = u := ⟨_, rfl⟩
              have hum := Nat.mod_lt (a + m - b) (show m > 0 by omega)
              have hpr : H x y = (m : Int) + (u : Int) := by
                rw [← HH.out]
                show ((moH m s x y : Nat) : Int) = (m : Int) + (u : Int)
                rw [← hu]
                unfold moH
                rw [if_neg hi0, if_pos hk0, ha, hb]
                push_cast
                rfl
              rw [hu] at hum
              have t3 : ((a : Int) - (b : Int) + (m : Int)).tmod (m : Int) = (u : Int) := by rw [show ((a : Int) - (b : Int) + (m : Int)) = ((a + m - b : Nat) : Int) by omega, ← Int.ofNat_tmod, hu]
              have HCELL := hide hpr
              clear hu hpr
              go_wp2_with fail
              go_quiet (fail)
              refine mo_ex fun wz hwz => ?_
              replace HBI : Hid (Below wo.heap.size wo wz) := hide (by rw [hwz]; exact bdrewN HBI.out _)
              replace HOI := hide (by have h := ownsRow_below HOI.out (show Below wr.heap.size wr wz by rw [hwz]; exact bdrewN (Below.refl _ _) _); exact h)
              have hsz2 : wo.heap.size < wz.heap.size := by rw [hwz]; simpa using hsi
              clear hwz
              go_wp2_with (at_builtin; refine wpList_append_own _ rfl _ _ 48 rfl wo.heap.size 2 i0 (.int .i64 0) 1 8 Try.underlying48 hi hz0 hz1 hz2 rfl (by decide) _ _ _ rfl (HOI.out.alloc _) ⟨wz.heap.size, 0, none⟩ 1 1 [.int .i64 ((m : Int) + (u : Int))] rfl rfl ?c1 ?c2 ?c3 ?c4 ?c5 ?_)
              try (case c1 => exact ne_new)
              try (case c2 => first | rfl | (intro u hu; simp at hu; subst hu; rfl))
              try (case c3 => first | omega | (unfold maxLen; omega))
              try (case c4 => omega)
              try (case c5 => first | omega | (simp; omega))
              intro v' w3 hown' hgrow _
              have HO3 := hide hown'
              have HB3 : Hid (Below wo.heap.size wo w3) := hide ((HBI.out.alloc HBI.out.size _).grown hgrow (by have := HBI.out.size; simp; omega) (fun g hg => ((HOI.out.alloc (.cells #[.int .i64 ((m : Int) + (u : Int))] 2)).lt g hg).1))
              have hs3 : wo.heap.size < w3.heap.size := by have := hgrow.size; simp at this; omega
              clear hown' hgrow
              go_wp2_with fail
              go_roundw
              case rel => exact ⟨y + 1, by omega, by go_num, HB3.out, hs3, by have h := HO3.out; rw [← HCELL.out, frow_take _ _ _ _ hlty] at h; exact h⟩
              case measure => simp [intOf]; omega
            · obtain ⟨u, hu⟩ : ∃ u, (a + m - b + s) % m = u := ⟨_, rfl⟩
              have hum := Nat.mod_lt (a + m - b + s) (show m > 0 by omega)
              have hpr : H x y = (u : Int) := by
                rw [← HH.out]
                show ((moH m s x y : Nat) : Int) = (u : Int)
                rw [← hu]
                unfold moH
                rw [if_neg hi0, if_neg hk0, ha, hb]
              rw [hu] at hum
              have t3 : ((a : Int) - (b : Int) + (m : Int) + (s : Int)).tmod (m : Int) = (u : Int) := by rw [show ((a : Int) - (b : Int) + (m : Int) + (s : Int)) = ((a + m - b + s : Nat) : Int) by omega, ← Int.ofNat_tmod, hu]
              have HCELL := hide hpr
              clear hu hpr
              go_wp2_with fail
              go_quiet (fail)
              refine mo_ex fun wz hwz => ?_
              replace HBI : Hid (Below wo.heap.size wo wz) := hide (by rw [hwz]; exact bdrewN HBI.out _)
              replace HOI := hide (by have h := ownsRow_below HOI.out (show Below wr.heap.size wr wz by rw [hwz]; exact bdrewN (Below.refl _ _) _); exact h)
              have hsz2 : wo.heap.size < wz.heap.size := by rw [hwz]; simpa using hsi
              clear hwz
              go_wp2_with (at_builtin; refine wpList_append_own _ rfl _ _ 48 rfl wo.heap.size 2 i0 (.int .i64 0) 1 8 Try.underlying48 hi hz0 hz1 hz2 rfl (by decide) _ _ _ rfl (HOI.out.alloc _) ⟨wz.heap.size, 0, none⟩ 1 1 [.int .i64 ((u : Int))] rfl rfl ?c1 ?c2 ?c3 ?c4 ?c5 ?_)
              try (case c1 => exact ne_new)
              try (case c2 => first | rfl | (intro u hu; simp at hu; subst hu; rfl))
              try (case c3 => first | omega | (unfold maxLen; omega))
              try (case c4 => omega)
              try (case c5 => first | omega | (simp; omega))
              intro v' w3 hown' hgrow _
              have HO3 := hide hown'
              have HB3 : Hid (Below wo.heap.size wo w3) := hide ((HBI.out.alloc HBI.out.size _).grown hgrow (by have := HBI.out.size; simp; omega) (fun g hg => ((HOI.out.alloc (.cells #[.int .i64 ((u : Int))] 2)).lt g hg).1))
              have hs3 : wo.heap.size < w3.heap.size := by have := hgrow.size; simp at this; omega
              clear hown' hgrow
              go_wp2_with fail
              go_roundw
              case rel => exact ⟨y + 1, by omega, by go_num, HB3.out, hs3, by have h := HO3.out; rw [← HCELL.out, frow_take _ _ _ _ hlty] at h; exact h⟩
              case measure => simp [intOf]; omega
        · have hyn : y = N := by omega
          subst hyn
          have HTM : Hid (((grid y H).take x).length = x) := hide (by rw [List.length_take, grid_length]; omega)
          obtain ⟨A2, c2, hv2, hres2⟩ := own_shape HOI.out
          subst hv2
          have HRO := hide hres2.obj
          have HL3 := hide (HL.out.later HBI.out)
          have HRL : Hid ((frow y H x).length = y) := hide (frow_length _ _ _)
          have HTK : Hid ((frow y H x).take y = frow y H x) := hide (List.take_of_length_le (by rw [HRL.out]; exact Nat.le_refl _))
          have HOW2 : Hid (wr.ownsRow w.heap.size 48 1 u5 x vals) := hide (by have h := HL3.out.own; rw [HTM.out] at h; exact h)
          have hs3 : w.heap.size ≤ wr.heap.size := by have := HBI.out.size; omega
          clear hres2
          go_wp2_with (at_builtin; refine wpList_append_own _ rfl _ _ 22 rfl w.heap.size 48 i2 (.slice none 0 0) 1 24 Try.underlying22 hj hy0 hy1 hy2 rfl (by decide) _ _ _ rfl (HOW2.out.alloc _) ⟨wr.heap.size, 0, none⟩ 1 1 [.slice A2 y c2] rfl rfl ?c1 ?c2 ?c3 ?c4 ?c5 ?_)
          case c1 => exact ne_new
          case c2 => intro u hu; simp at hu; subst hu; rfl
          case c3 => unfold maxLen; omega
          case c4 => omega
          case c5 => simp; omega
          intro v' w7 hown7 hgrow7 _
          have HO7 := hide hown7
          have HG7 := hide hgrow7
          clear hown7 hgrow7
          go_wp2_with fail
          go_roundw
          case rel =>
            have hB7 : Below w.heap.size w w7 := ((HB.out.trans (HBI.out.mono HB.out.size)).alloc hs3 _).grown HG7.out (by simp; omega) (fun g hg => (HOW2.out.alloc (.cells #[.slice A2 y c2] 48)).lt g hg |>.1)
            have hpush := LstV.push (tmp := .cells #[.slice A2 y c2] 48) (A := A2) (c := c2) (r := frow y H x) (w1 := w7) (v' := v') (by decide) hsz HL.out HBI.out (by have h := HRO.out; rw [HTK.out] at h; exact h) (by rw [HTM.out, HRL.out]; exact HO7.out) HG7.out
            refine ⟨x + 1, vals ++ [.slice A2 (frow y H x).length c2], by omega, by go_num, hB7, ?_, by have := hB7.size; omega⟩
            rw [grid_take _ _ _ hlt]
            exact hpush
          case measure => simp [intOf]; omega
    · have hxn : x = N := by omega
      subst hxn
      go_wp2_with fail
      have h := HL.out
      rw [List.take_of_length_le (by rw [grid_length]; exact Nat.le_refl _)] at h
      go_ret
      obtain ⟨A', c', hv, hobj⟩ := h.shape
      rw [grid_length] at hv
      exact ⟨A', c', by rw [← hv]; rfl, HB.out, hobj⟩
end Go.Proofs.Ytelildgngkajnaa
