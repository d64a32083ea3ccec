import Derived.Test.YtanldiildinbdaaProg
import Derived.Test.YtanldiildinbdaaZbd
import Derived.Test.YtanldiildinbdaaZy
import Derived.Test.YtanldiildinbdaaZbg
import Derived.Test.YtanldiildinbdaaZa
import Derived.Test.YtanldiildinbdaaZaa
import Derived.Deep.AppendLies
import Derived.Deep.RegionHeld3
import Derived.Deep.Cut
namespace Go.Proofs.Ytanldiildinbdaa
open Go Go.RowKit
set_option maxHeartbeats 2000000

theorem subS_any_i1 : (Try.prog.info? 2).map (fun i => (i.zero, i.size, i.bytes)) = some (some (.int .i64 0), 1, 8) := by kernel_rfl
theorem subS_any_i2 : (Try.prog.info? 31).map (fun i => (i.zero, i.size, i.bytes)) = some (some (.slice none 0 0), 1, 24) := by kernel_rfl

set_option maxRecDepth 100000 in
theorem subS_any (A : Option Addr) (n c : Nat) (f : List (List Int)) (B : Option Addr) (m d : Nat) (s : List (List Int)) (C : Option Addr) (k e : Nat) (set : List Int) (w : World) (hz : ZArg 1048576 w A n f B m s) (hp : PMap f s) (hk : set.length = k) (hi : IncSet n set) (hcl : ClF f s set) (hs : Rd w C set) :
    Calls Try.prog 80 #[.agg #[.slice A n c, .slice B m d], .slice C k e] w fun e w' => ∃ A' c' B' d', e = .returned (.agg #[.slice A' k c', .slice B' k d']) ∧ Below w.heap.size w w' ∧ ObjW 31 2 w.heap.size w'.heap.size w' A' (grid k (sb1 f set)) B' (grid k (sb1 s set)) := by
  have h12 := hz.small hp
  have hsame := (hz.same hp).symm
  subst hsame
  have HZ := hide hz
  have HP := hide hp
  have HFL := hide hz.sz.fl
  clear hz hp
  have HK := hide hk
  have HI := hide hi
  have HCL := hide hcl
  have HS := hide hs
  have hkn : k ≤ 12 := by have h1 := hi.le; omega
  clear hk hi hcl hs
  obtain ⟨i0, hi0, hz0, hz1, hz2⟩ := info_parts subS_any_i1
  obtain ⟨i2, hj, hy0, hy1, hy2⟩ := info_parts subS_any_i2
  go_enter Try.func80, Try.ntmps80
  go_wp2_with fail
  refine wp_gen fun w0 hw0 => ?_
  have hb0 : Below w.heap.size w w0 := by rw [hw0]; exact (((Below.refl _ _).alloc (Nat.le_refl _) _).alloc (by simp) _).alloc (by simp; omega) _
  have a1 : Blk w0 w.heap.size 27 [.slice A n c, .slice B n d] := by rw [hw0]; exact ((Blk.new _ _ _).alloc _).alloc _
  have a2 : Blk w0 (w.heap.size + 1) 27 [.slice none 0 0, .slice none 0 0] := by rw [hw0]; have h := (Blk.new (w.alloc (Obj.cells #[Value.slice A n c, Value.slice B n d] 27)) 27 [.slice none 0 0, .slice none 0 0]).alloc (Obj.cells #[Value.slice none 0 0, Value.slice none 0 0] 27); simpa using h
  have a4 : Blk w0 (w.heap.size + 1 + 1) 27 [.slice none 0 0, .slice none 0 0] := by rw [hw0]; have h := Blk.new ((w.alloc (Obj.cells #[Value.slice A n c, Value.slice B n d] 27)).alloc (Obj.cells #[Value.slice none 0 0, Value.slice none 0 0] 27)) 27 [.slice none 0 0, .slice none 0 0]; simpa using h
  have HBX0 : Hid (Bxs w0 (w.heap.size + 1 + 1) [(w.heap.size, 27, [.slice A n c, .slice B n d]), (w.heap.size + 1, 27, [.slice none 0 0, .slice none 0 0])]) := hide (by
    intro p hp'
    simp only [List.mem_cons, List.not_mem_nil, or_false] at hp'
    rcases hp' with rfl | rfl
    · exact ⟨a1, by show w.heap.size < _; omega⟩
    · exact ⟨a2, by show w.heap.size + 1 < _; omega⟩)
  clear a1 a2
  have HB0 := hide hb0
  have HTW0 := hide (Two.start w0 31 2 27 a4)
  clear hw0 hb0 a4
  go_loopw [6] (fun i wr => ∃ (x : Nat) (v1 v2 : Value) (vals1 vals2 : List Value), x ≤ k ∧ i = .int .i64 x ∧ Below w.heap.size w wr ∧ Bxs wr (w.heap.size + 1 + 1) [(w.heap.size, 27, [.slice A n c, .slice B n d]), (w.heap.size + 1, 27, [.slice none 0 0, .slice none 0 0])] ∧ Two 31 2 27 (w.heap.size + 1 + 1 + 1) wr (w.heap.size + 1 + 1) v1 v2 ((grid k (sb1 f set)).take x) ((grid k (sb1 s set)).take x) vals1 vals2) (fun i _ => k - (intOf i).toNat)
  case atStart => exact ⟨0, _, _, _, _, Nat.zero_le _, rfl, HB0.out, HBX0.out, by simpa using HTW0.out⟩
  case round =>
    obtain ⟨x, v1, v2, vals1, vals2, hx, rfl, hbe, hbx, htw⟩ := hrel
    have HB := hide hbe
    have HBX := hide hbx
    have HTW := hide htw
    clear hbe hbx htw
    by_cases hlt : x < k
    · have hxz : (x : Int) < k := by omega
      obtain ⟨bs, os, rfl, hbs, hcs⟩ := HS.out (by have := HK.out; omega)
      obtain ⟨a, ha, han⟩ := HI.out.at (i := x) (by have := HK.out; omega)
      have hc1 := hcs x (by have := HK.out; omega)
      rw [ha] at hc1
      have HC1 := hide hc1
      have HA := hide ha
      have HCS := hide hcs
      clear hc1 ha hcs
      go_wp2_with fail
      obtain ⟨wo, rfl⟩ : ∃ wo : World, wo = wr := ⟨_, rfl⟩
      go_loopw [7, 8, 9] (fun u1 u2 i wi => ∃ y : Nat, y ≤ k ∧ i = .int .i64 y ∧ Below wo.heap.size wo wi ∧ wo.heap.size < wi.heap.size ∧ Row2 2 wo.heap.size wi u1 u2 y y (rowTo (sb1 f set) x y) (rowTo (sb1 s set) x y)) (fun _ _ i _ => k - (intOf i).toNat)
      case atStart => exact ⟨0, Nat.zero_le _, rfl, ((Below.refl _ _).alloc (Nat.le_refl _) _).alloc (by simp) _, by simp; omega, row2_start wo _⟩
      case round =>
        obtain ⟨y, hy, rfl, hbi, hsi, hri⟩ := hrel
        have HBI := hide hbi
        have HRI := hide hri
        clear hbi hri
        by_cases hlty : y < k
        · have hyz : (y : Int) < k := by omega
          have HB2 := hide (HB.out.trans (HBI.out.mono HB.out.size))
          have HBX2 := hide (HBX.out.later HBI.out)
          obtain ⟨g, hg, hgn⟩ := HI.out.at (i := y) (by have := HK.out; omega)
          have hd1 := HCS.out y (by have := HK.out; omega)
          rw [hg] at hd1
          have hpr1 : sb1 f set x y = ixOf set ((ap f a g : Nat) : Int) := by unfold sb1; rw [HA.out, hg, Int.toNat_natCast, Int.toNat_natCast]
          have hpr2 : sb1 s set x y = ixOf set ((ap s a g : Nat) : Int) := by unfold sb1; rw [HA.out, hg, Int.toNat_natCast, Int.toNat_natCast]
          obtain ⟨u, hu⟩ : ∃ u, ap f a g = u := ⟨_, rfl⟩
          obtain ⟨v, hv⟩ : ∃ v, ap s a g = v := ⟨_, rfl⟩
          rw [hu] at hpr1
          rw [hv] at hpr2
          obtain ⟨r1, hr1⟩ : ∃ r, ixOf set (u : Int) = r := ⟨_, rfl⟩
          obtain ⟨r2, hr2⟩ : ∃ r, ixOf set (v : Int) = r := ⟨_, rfl⟩
          rw [hr1] at hpr1
          rw [hr2] at hpr2
          have HPR1 := hide hpr1
          have HPR2 := hide hpr2
          have HR1 := hide hr1
          have HR2 := hide hr2
          obtain ⟨bA, oA, bB, oB, bx, ox, cx, bY, oy, cy, eA, eB, h1, h2, h3, h4, l1, l2, l3, l4⟩ := HZ.out.reads HP.out han hgn
          rw [hu] at h3
          rw [hv] at h4
          have EA := hide eA
          have EB := hide eB
          have haz : (a : Int) < n := by omega
          have hgz : (g : Int) < n := by omega
          have hww := HB.out.size
          have hobw := HTW.out.box.lt
          have hszw : wo.heap.size ≤ wr.heap.size := HBI.out.size
          have HD1 := hide hd1
          clear hg hu hv hr1 hr2 hpr1 hpr2 eA eB hd1
          have k0 := (HBX2.out.blk (b := w.heap.size) (t := 27) (cs := [.slice A n c, .slice B n d]) (by simp)).cell 0 _ rfl
          rw [EA.out] at k0
          have ff0 : wr.cell? ⟨bA, oA + a, none⟩ = some (.slice (some ⟨bx, ox, none⟩) n cx) := (HB2.out.cell (p := ⟨bA, oA + a, none⟩) l1).trans h1
          have ff1 : wr.cell? ⟨bx, ox + g, none⟩ = some (.int .i64 u) := (HB2.out.cell (p := ⟨bx, ox + g, none⟩) l3).trans h3
          have ff2 : wr.cell? ⟨bs, os + x, none⟩ = some (.int .i64 a) := (HB2.out.cell (p := ⟨bs, os + x, none⟩) hbs).trans HC1.out
          have ff3 : wr.cell? ⟨bs, os + y, none⟩ = some (.int .i64 g) := (HB2.out.cell (p := ⟨bs, os + y, none⟩) hbs).trans HD1.out
          have HBq := HBI
          have HRq := HRI
          go_wp2_with fail
          go_region_held3 (fun w' => w'.cell? ⟨w.heap.size, 0, none⟩ = some (.slice (some ⟨bA, oA, none⟩) n c) ∧ w'.cell? ⟨bA, oA + a, none⟩ = some (.slice (some ⟨bx, ox, none⟩) n cx) ∧ w'.cell? ⟨bx, ox + g, none⟩ = some (.int .i64 u) ∧ w'.cell? ⟨bs, os + x, none⟩ = some (.int .i64 a) ∧ w'.cell? ⟨bs, os + y, none⟩ = some (.int .i64 g)) (first | exact ⟨k0, ff0, ff1, ff2, ff3⟩ | go_keep) (first | (go_at_call 99; go_must (refine calls_gen fun wc hwc => ?_; (first | have hbx := drew_below hwc | have hbx := eq_below hwc); replace HBq := hide (HBq.out.trans (hbx.mono HBq.out.size)); replace HRq := hide (HRq.out.later hbx); clear hwc hbx; refine (index_any _ k e set _ _ HK.out (by omega) (HS.out.later (HB.out.trans (HBq.out.mono HB.out.size)))).mono ?_; rintro e' wd ⟨rfl, hqd⟩; have hbd := hqd.below wc.heap.size; replace HBq := hide (HBq.out.trans (hbd.mono HBq.out.size)); replace HRq := hide (HRq.out.later hbd); clear hqd hbd; rw [HR1.out]; have hcl : ∀ b o, b < wo.heap.size → wd.cell? ⟨b, o, none⟩ = wr.cell? ⟨b, o, none⟩ := fun b o h => (HBq.out.cell (p := ⟨b, o, none⟩) h).trans (HBI.out.cell (p := ⟨b, o, none⟩) h).symm; have hszd := HBq.out.size; have k0 := (hcl _ _ (by omega)).trans k0; have ff0 := (hcl _ _ (by omega)).trans ff0; have ff1 := (hcl _ _ (by omega)).trans ff1; have ff2 := (hcl _ _ (by omega)).trans ff2; have ff3 := (hcl _ _ (by omega)).trans ff3)) | (refine step_append_lies _ (by rfl) _ _ _ (by rfl) wo.heap.size 2 i0 _ 1 8 Try.underlying31 hi0 hz0 hz1 hz2 rfl (by omega) u7 y (ints (rowTo (sb1 f set) x y)) (by rfl) (HRq.out.o1.alloc _) ⟨wd.heap.size, 0, none⟩ 1 1 [.int .i64 r1] (by rfl) (by rfl) l2_new (by simp [Value.oneCell']) (by omega) (by unfold maxLen; omega) (by omega) (by simp; omega) (wd.heap.size + 1) (by simp) ?_; go_must (intro gg1 cap1 wa1 hown hgrow hat _; obtain ⟨hrow, hbi, hsz1, hcl⟩ := row2_ap1 HRq.out HBq.out hown hgrow hat; have HROW1 := hide hrow; have HBI1 := hide hbi; clear hown hgrow hat hrow hbi; have k0 := (hcl _ _ (by omega)).trans k0; have ff0 := (hcl _ _ (by omega)).trans ff0; have ff1 := (hcl _ _ (by omega)).trans ff1; have ff2 := (hcl _ _ (by omega)).trans ff2; have ff3 := (hcl _ _ (by omega)).trans ff3)))
          clear k0 ff0 ff1 ff2 ff3 HBq HRq
          have HB5 := hide (HB.out.trans (HBI1.out.mono HB.out.size))
          have HBX5 := hide (HBX.out.later HBI1.out)
          have k0 := (HBX5.out.blk (b := w.heap.size) (t := 27) (cs := [.slice A n c, .slice B n d]) (by simp)).cell 1 _ rfl
          rw [EB.out] at k0
          have ff0 : wa1.cell? ⟨bB, oB + a, none⟩ = some (.slice (some ⟨bY, oy, none⟩) n cy) := (HB5.out.cell (p := ⟨bB, oB + a, none⟩) l2).trans h2
          have ff1 : wa1.cell? ⟨bY, oy + g, none⟩ = some (.int .i64 v) := (HB5.out.cell (p := ⟨bY, oy + g, none⟩) l4).trans h4
          have ff2 : wa1.cell? ⟨bs, os + x, none⟩ = some (.int .i64 a) := (HB5.out.cell (p := ⟨bs, os + x, none⟩) hbs).trans HC1.out
          have ff3 : wa1.cell? ⟨bs, os + y, none⟩ = some (.int .i64 g) := (HB5.out.cell (p := ⟨bs, os + y, none⟩) hbs).trans HD1.out
          have hszw1 : wo.heap.size ≤ wa1.heap.size := HBI1.out.size
          have HBq := HBI1
          have HRq := HROW1
          go_upto_region 10 with fail
          go_region_held3 (fun w' => w'.cell? ⟨w.heap.size, 1, none⟩ = some (.slice (some ⟨bB, oB, none⟩) n d) ∧ w'.cell? ⟨bB, oB + a, none⟩ = some (.slice (some ⟨bY, oy, none⟩) n cy) ∧ w'.cell? ⟨bY, oy + g, none⟩ = some (.int .i64 v) ∧ w'.cell? ⟨bs, os + x, none⟩ = some (.int .i64 a) ∧ w'.cell? ⟨bs, os + y, none⟩ = some (.int .i64 g)) (first | exact ⟨k0, ff0, ff1, ff2, ff3⟩ | go_keep) (first | (go_at_call 99; go_must (refine calls_gen fun wc hwc => ?_; (first | have hbx := drew_below hwc | have hbx := eq_below hwc); replace HBq := hide (HBq.out.trans (hbx.mono HBq.out.size)); replace HRq := hide (HRq.out.later hbx); clear hwc hbx; refine (index_any _ k e set _ _ HK.out (by omega) (HS.out.later (HB.out.trans (HBq.out.mono HB.out.size)))).mono ?_; rintro e' wd ⟨rfl, hqd⟩; have hbd := hqd.below wc.heap.size; replace HBq := hide (HBq.out.trans (hbd.mono HBq.out.size)); replace HRq := hide (HRq.out.later hbd); clear hqd hbd; rw [HR2.out]; have hcl : ∀ b o, b < wo.heap.size → wd.cell? ⟨b, o, none⟩ = wa1.cell? ⟨b, o, none⟩ := fun b o h => (HBq.out.cell (p := ⟨b, o, none⟩) h).trans (HBI1.out.cell (p := ⟨b, o, none⟩) h).symm; have hszd := HBq.out.size; have k0 := (hcl _ _ (by omega)).trans k0; have ff0 := (hcl _ _ (by omega)).trans ff0; have ff1 := (hcl _ _ (by omega)).trans ff1; have ff2 := (hcl _ _ (by omega)).trans ff2; have ff3 := (hcl _ _ (by omega)).trans ff3)) | (refine step_append_lies _ (by rfl) _ _ _ (by rfl) wo.heap.size 2 i0 _ 1 8 Try.underlying31 hi0 hz0 hz1 hz2 rfl (by omega) u8 y (ints (rowTo (sb1 s set) x y)) (by rfl) (HRq.out.o2.alloc _) ⟨wd.heap.size, 0, none⟩ 1 1 [.int .i64 r2] (by rfl) (by rfl) l2_new (by simp [Value.oneCell']) (by omega) (by unfold maxLen; omega) (by omega) (by simp; omega) (wd.heap.size + 1) (by simp) ?_; go_must (intro gg2 cap2 wa2 hown hgrow hat _; obtain ⟨hrow, hbi, hsz2, hcl⟩ := row2_ap2 HRq.out HBq.out hown hgrow hat; have HROW2 := hide hrow; have HBI2 := hide hbi; clear hown hgrow hat hrow hbi; have k0 := (hcl _ _ (by omega)).trans k0; have ff0 := (hcl _ _ (by omega)).trans ff0; have ff1 := (hcl _ _ (by omega)).trans ff1; have ff2 := (hcl _ _ (by omega)).trans ff2; have ff3 := (hcl _ _ (by omega)).trans ff3)))
          clear k0 ff0 ff1 ff2 ff3 HBq HRq
          go_wp2_with fail
          have hszw2 : wo.heap.size ≤ wa2.heap.size := HBI2.out.size
          go_roundw
          case rel => exact ⟨y + 1, by omega, by go_num, HBI2.out, by omega, by rw [rowTo_succ, rowTo_succ, HPR1.out, HPR2.out]; exact HROW2.out⟩
          case measure => simp [intOf]; omega
        · have hyn : y = k := by omega
          subst hyn
          have HTL : Hid (((grid y (sb1 f set)).take x).length = x) := hide (by rw [List.length_take, grid_length]; omega)
          have HTM : Hid (((grid y (sb1 s set)).take x).length = x) := hide (by rw [List.length_take, grid_length]; omega)
          obtain ⟨A1, c1, hv1, hres1⟩ := own_shape HRI.out.o1
          subst hv1
          obtain ⟨A2, c2', hv2, hres2⟩ := own_shape HRI.out.o2
          subst hv2
          have HRO1 := hide hres1.obj
          have HRO := hide hres2.obj
          have HT2 := hide (HTW.out.later HBI.out)
          have HBX2 := hide (HBX.out.later HBI.out)
          have HB2 := hide (HB.out.trans (HBI.out.mono HB.out.size))
          clear hres1 hres2
          have k0 := HT2.out.box.cell 0 _ rfl
          have k1 := HT2.out.box.cell 1 _ rfl
          have k2 := HT2.out.box.frozen 0
          have k3 := HT2.out.box.frozen 1
          have k4 := fun o => (HT2.out.box.alloc o).cell 0 _ rfl
          have HOW1 : Hid (wr.ownsRow (w.heap.size + 1 + 1 + 1) 31 1 v1 x vals1) := hide (by have h := HT2.out.l1.own; rw [HTL.out] at h; exact h)
          have hobl := HT2.out.box.lt
          go_wp2_with (at_builtin; refine wpList_append_own_at _ rfl _ _ 22 rfl (w.heap.size + 1 + 1 + 1) 31 i2 (.slice none 0 0) 1 24 Try.underlying22 hj hy0 hy1 hy2 rfl (by decide) _ _ _ rfl (HOW1.out.alloc _) ⟨wr.heap.size, 0, none⟩ 1 1 [.slice A1 y c1] rfl rfl ?c1 ?c2 ?c3 ?c4 ?c5 ?_)
          try (case c1 => exact l2_new)
          case c2 => first | rfl | (intro u hu; simp at hu; subst hu; rfl)
          case c3 => first | omega | (unfold maxLen; omega)
          case c4 => omega
          case c5 => first | omega | (simp; omega)
          intro v' w5 hown5 hgrow5 _ hat5
          obtain ⟨gg, cap, hv5⟩ := own_form hown5
          have hat6 := at_of hv5 hat5
          rw [hv5] at hown5 ⊢
          clear hat5 hv5
          have hat6' : v1.ownBlock = some gg ∨ gg = wr.heap.size + 1 := by rcases hat6 with e | e; exact .inl e; exact .inr (by simpa using e)
          have hbk := HT2.out.kept1 hgrow5
          have HT3 := hide (HT2.out.add1 (by decide) (.inl HTW.out) (Nat.le_refl _) HRO1.out HTL.out (rowTo_len _ _ _) hown5 hgrow5 hat6')
          have HB3 := hide (HT2.out.below1 hgrow5 (.slice (some ⟨gg, 0, none⟩) (x + 1) cap) HB2.out (by omega))
          have HBX3 : Hid (Bxs (w5.setCell ⟨w.heap.size + 1 + 1, 0, none⟩ (.slice (some ⟨gg, 0, none⟩) (x + 1) cap)) (w.heap.size + 1 + 1) [(w.heap.size, 27, [.slice A n c, .slice B n d]), (w.heap.size + 1, 27, [.slice none 0 0, .slice none 0 0])]) := hide (HBX2.out.frame (fun k hk hkw => HT2.out.frame1 hgrow5 _ (by omega) (by omega) hkw))
          have HRO3 := hide (row_kept (k := 0) (ob := w.heap.size + 1 + 1) (by decide) HT2.out.l1.own hgrow5 HRO.out HTW.out.bsz (.slice (some ⟨gg, 0, none⟩) (x + 1) cap))
          have hsz6 : wr.heap.size ≤ (w5.setCell ⟨w.heap.size + 1 + 1, 0, none⟩ (.slice (some ⟨gg, 0, none⟩) (x + 1) cap)).heap.size := by have h1 := hgrow5.size; simp at h1; simp [World.setCell]; omega
          clear k0 k1 k2 k3 k4 hown5 hat6 hat6' hgrow5
          have k0 := hbk.cell 0 _ rfl
          have k1 := hbk.cell 1 _ rfl
          have k2 := hbk.frozen 0
          have k3 := hbk.frozen 1
          clear hbk
          go_upto_region 12 with fail
          generalize hw6 : w5.setCell ⟨w.heap.size + 1 + 1, 0, none⟩ (.slice (some ⟨gg, 0, none⟩) (x + 1) cap) = w6 at HT3 HB3 HBX3 HRO3 hsz6 ⊢
          have HRO4 := hide (HRO3.out.mono (Nat.le_refl _) hsz6)
          clear hw6 hsz6 k0 k1 k2 k3
          have k0 := HT3.out.box.cell 0 _ rfl
          have k1 := HT3.out.box.cell 1 _ rfl
          have k2 := HT3.out.box.frozen 0
          have k3 := HT3.out.box.frozen 1
          have k4 := fun o => (HT3.out.box.alloc o).cell 1 _ rfl
          have HOW2 : Hid (w6.ownsRow (w.heap.size + 1 + 1 + 1) 31 1 v2 x vals2) := hide (by have h := HT3.out.l2.own; rw [HTM.out] at h; exact h)
          have hobl := HT3.out.box.lt
          go_wp2_with (at_builtin; refine wpList_append_own_at _ rfl _ _ 22 rfl (w.heap.size + 1 + 1 + 1) 31 i2 (.slice none 0 0) 1 24 Try.underlying22 hj hy0 hy1 hy2 rfl (by decide) _ _ _ rfl (HOW2.out.alloc _) ⟨w6.heap.size, 0, none⟩ 1 1 [.slice A2 y c2'] rfl rfl ?c1 ?c2 ?c3 ?c4 ?c5 ?_)
          try (case c1 => exact l2_new)
          case c2 => first | rfl | (intro u hu; simp at hu; subst hu; rfl)
          case c3 => first | omega | (unfold maxLen; omega)
          case c4 => omega
          case c5 => first | omega | (simp; omega)
          intro v' w7 hown7 hgrow7 _ hat7
          obtain ⟨gg2, cap2, hv7⟩ := own_form hown7
          have hat8 := at_of hv7 hat7
          rw [hv7] at hown7 ⊢
          clear hat7 hv7
          have hat8' : v2.ownBlock = some gg2 ∨ gg2 = w6.heap.size + 1 := by rcases hat8 with e | e; exact .inl e; exact .inr (by simpa using e)
          have hbk := HT3.out.kept2 hgrow7
          have HT4 := hide (HT3.out.add2 (by decide) (.inr ⟨_, _, _, _, _, _, HTW.out, rfl, rfl, rfl⟩) (Nat.le_refl _) HRO4.out HTM.out (rowTo_len _ _ _) hown7 hgrow7 hat8')
          have HB4 := hide (HT3.out.below2 hgrow7 (.slice (some ⟨gg2, 0, none⟩) (x + 1) cap2) HB3.out (by omega))
          have HBX4 : Hid (Bxs (w7.setCell ⟨w.heap.size + 1 + 1, 1, none⟩ (.slice (some ⟨gg2, 0, none⟩) (x + 1) cap2)) (w.heap.size + 1 + 1) [(w.heap.size, 27, [.slice A n c, .slice B n d]), (w.heap.size + 1, 27, [.slice none 0 0, .slice none 0 0])]) := hide (HBX3.out.frame (fun k hk hkw => HT3.out.frame2 hgrow7 _ (by omega) (by omega) hkw))
          clear k0 k1 k2 k3 k4 hown7 hgrow7 hat8 hat8'
          have k0 := hbk.cell 0 _ rfl
          have k1 := hbk.cell 1 _ rfl
          have k2 := hbk.frozen 0
          have k3 := hbk.frozen 1
          clear hbk
          go_wp2_with fail
          go_roundw
          case rel =>
            refine ⟨x + 1, .slice (some ⟨gg, 0, none⟩) (x + 1) cap, .slice (some ⟨gg2, 0, none⟩) (x + 1) cap2, vals1 ++ [.slice A1 y c1], vals2 ++ [.slice A2 y c2'], by omega, by go_num, HB4.out, HBX4.out, ?_⟩
            rw [grid_take_row _ _ _ hlt, grid_take_row _ _ _ hlt]
            exact HT4.out
          case measure => simp [intOf]; omega
    · have hxn : x = k := by omega
      subst hxn
      obtain ⟨A1, c1, hv1, ho1⟩ := HTW.out.l1.shape
      obtain ⟨A2, c2', hv2, ho2⟩ := HTW.out.l2.shape
      rw [List.take_of_length_le (by rw [grid_length]; omega)] at hv1 ho1 hv2 ho2
      rw [grid_length] at hv1 hv2
      subst hv1
      subst hv2
      have HA1 := hide ho1
      have HA2 := hide ho2
      clear ho1 ho2
      have HR := hide (HBX.out.blk (b := w.heap.size + 1) (t := 27) (cs := [.slice none 0 0, .slice none 0 0]) (by simp))
      have k0 := HTW.out.box.cell 0 _ rfl
      have k1 := HTW.out.box.cell 1 _ rfl
      have k2 := HR.out.cell 0 _ rfl
      have k3 := HR.out.cell 1 _ rfl
      have k4 := HR.out.frozen 0
      have k5 := HR.out.frozen 1
      go_wp2_with fail
      refine bp_gen fun wf hwf => ?_
      obtain ⟨q0, q1, hbf, hof⟩ := wend2 (ts := 31) (t := 2) hwf HR.out (by omega) HB.out (ObjT.of HA1.out (by omega) (Nat.le_refl _)) (ObjT.of HA2.out (by omega) (Nat.le_refl _))
      clear hwf k0 k1 k2 k3 k4 k5
      exact bodyPost_ret (v := .agg #[.slice A1 x c1, .slice A2 x c2']) (by simp [results, Try.results80, go_sem, q0, q1]) rfl ⟨_, _, _, _, rfl, hbf, hof⟩
end Go.Proofs.Ytanldiildinbdaa
