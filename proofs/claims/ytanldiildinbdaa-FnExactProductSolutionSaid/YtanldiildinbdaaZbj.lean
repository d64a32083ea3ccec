import Derived.Test.YtanldiildinbdaaProg
import Derived.Test.YtanldiildinbdaaZbd
import Derived.Test.YtanldiildinbdaaZy
import Derived.Test.YtanldiildinbdaaZbe
import Derived.Test.YtanldiildinbdaaZa
import Derived.Test.YtanldiildinbdaaZaa
import Derived.Deep.AppendLies
import Derived.Deep.RegionHeld3
import Derived.Deep.Cut
namespace Go.Proofs.Ytanldiildinbdaa
open Go Go.RowKit
set_option maxHeartbeats 2000000

theorem prodS_any_i1 : (Try.prog.info? 2).map (fun i => (i.zero, i.size, i.bytes)) = some (some (.int .i64 0), 1, 8) := by kernel_rfl
theorem prodS_any_i2 : (Try.prog.info? 31).map (fun i => (i.zero, i.size, i.bytes)) = some (some (.slice none 0 0), 1, 24) := by kernel_rfl

set_option maxRecDepth 100000 in
theorem prodS_any (A : Option Addr) (n c : Nat) (f : List (List Int)) (B : Option Addr) (m d : Nat) (s : List (List Int)) (C : Option Addr) (q c2 : Nat) (f2 : List (List Int)) (D : Option Addr) (q2 d2 : Nat) (s2 : List (List Int)) (N : Nat) (w : World) (hz : ZArg 1048576 w A n f B m s) (hp : PMap f s) (hz2 : ZArg 1048576 w C q f2 D q2 s2) (hp2 : PMap f2 s2) (hN : n * q = N) (hle : N ≤ 12) :
    Calls Try.prog 72 #[.agg #[.slice A n c, .slice B m d], .agg #[.slice C q c2, .slice D q2 d2]] w fun e w' => ∃ A' c' B' d', e = .returned (.agg #[.slice A' N c', .slice B' N d']) ∧ Below w.heap.size w w' ∧ ObjW 31 2 w.heap.size w'.heap.size w' A' (grid N (pr1 f f2 q)) B' (grid N (pr1 s s2 q)) := by
  have h12 := hz.small hp
  have hsame := (hz.same hp).symm
  subst hsame
  have HZ := hide hz
  have HP := hide hp
  have HFL := hide hz.sz.fl
  clear hz hp
  have h12b := hz2.small hp2
  have hsame := (hz2.same hp2).symm
  subst hsame
  have HZ2 := hide hz2
  have HP2 := hide hp2
  have HFL2 := hide hz2.sz.fl
  have HNN := hide hN
  have hNz : ((n : Int) * (q : Int) : Int) = (N : Int) := by rw [← hN]; simp
  have hwN : IntKind.i64.wrap (N : Int) = (N : Int) := IntWalk.i64_in _ (by omega)
  clear hz2 hp2 hN
  obtain ⟨i0, hi0, hz0, hz1, hz2⟩ := info_parts prodS_any_i1
  obtain ⟨i2, hj, hy0, hy1, hy2⟩ := info_parts prodS_any_i2
  go_enter Try.func72, Try.ntmps72
  go_wp2_with fail
  go_quiet (fail)
  go_wp2_with fail
  refine wp_gen fun w0 hw0 => ?_
  have hb0 : Below w.heap.size w w0 := by rw [hw0]; exact (bdrewN ((((Below.refl _ _).alloc (Nat.le_refl _) _).alloc (by simp) _).alloc (by simp; omega) _) nq).alloc (by simp; omega) _
  have a1 : Blk w0 w.heap.size 27 [.slice A n c, .slice B n d] := by rw [hw0]; exact ((((Blk.new _ _ _).alloc _).alloc _).drewN nq).alloc _
  have a2 : Blk w0 (w.heap.size + 1) 27 [.slice C q c2, .slice D q d2] := by rw [hw0]; have h := (((Blk.new (w.alloc (Obj.cells #[Value.slice A n c, Value.slice B n d] 27)) 27 [.slice C q c2, .slice D q d2]).alloc (Obj.cells #[Value.slice none 0 0, Value.slice none 0 0] 27)).drewN nq).alloc (Obj.cells #[Value.slice none 0 0, Value.slice none 0 0] 27); simpa using h
  have a3 : Blk w0 (w.heap.size + 1 + 1) 27 [.slice none 0 0, .slice none 0 0] := by rw [hw0]; have h := ((Blk.new ((w.alloc (Obj.cells #[Value.slice A n c, Value.slice B n d] 27)).alloc (Obj.cells #[Value.slice C q c2, Value.slice D q d2] 27)) 27 [.slice none 0 0, .slice none 0 0]).drewN nq).alloc (Obj.cells #[Value.slice none 0 0, Value.slice none 0 0] 27); simpa using h
  have a4 : Blk w0 (w.heap.size + 1 + 1 + 1) 27 [.slice none 0 0, .slice none 0 0] := by rw [hw0]; have h := Blk.new ((((w.alloc (Obj.cells #[Value.slice A n c, Value.slice B n d] 27)).alloc (Obj.cells #[Value.slice C q c2, Value.slice D q d2] 27)).alloc (Obj.cells #[Value.slice none 0 0, Value.slice none 0 0] 27)).drewN nq) 27 [.slice none 0 0, .slice none 0 0]; simpa using h
  have HBX0 : Hid (Bxs w0 (w.heap.size + 1 + 1 + 1) [(w.heap.size, 27, [.slice A n c, .slice B n d]), (w.heap.size + 1, 27, [.slice C q c2, .slice D q d2]), (w.heap.size + 1 + 1, 27, [.slice none 0 0, .slice none 0 0])]) := hide (by
    intro p hp'
    simp only [List.mem_cons, List.not_mem_nil, or_false] at hp'
    rcases hp' with rfl | rfl | rfl
    · exact ⟨a1, by show w.heap.size < _; omega⟩
    · exact ⟨a2, by show w.heap.size + 1 < _; omega⟩
    · exact ⟨a3, by show w.heap.size + 1 + 1 < _; omega⟩)
  clear a1 a2 a3
  have HB0 := hide hb0
  have HTW0 := hide (Two.start w0 31 2 27 a4)
  clear hw0 hb0 a4
  go_loopw [8] (fun i wr => ∃ (x : Nat) (v1 v2 : Value) (vals1 vals2 : List Value), x ≤ N ∧ i = .int .i64 x ∧ Below w.heap.size w wr ∧ Bxs wr (w.heap.size + 1 + 1 + 1) [(w.heap.size, 27, [.slice A n c, .slice B n d]), (w.heap.size + 1, 27, [.slice C q c2, .slice D q d2]), (w.heap.size + 1 + 1, 27, [.slice none 0 0, .slice none 0 0])] ∧ Two 31 2 27 (w.heap.size + 1 + 1 + 1 + 1) wr (w.heap.size + 1 + 1 + 1) v1 v2 ((grid N (pr1 f f2 q)).take x) ((grid N (pr1 s s2 q)).take x) vals1 vals2) (fun i _ => N - (intOf i).toNat)
  case atStart => exact ⟨0, _, _, _, _, Nat.zero_le _, rfl, HB0.out, HBX0.out, by simpa using HTW0.out⟩
  case round =>
    obtain ⟨x, v1, v2, vals1, vals2, hx, rfl, hbe, hbx, htw⟩ := hrel
    have HB := hide hbe
    have HBX := hide hbx
    have HTW := hide htw
    clear hbe hbx htw
    by_cases hlt : x < N
    · have hxz : (x : Int) < N := by omega
      go_wp2_with fail
      obtain ⟨wo, rfl⟩ : ∃ wo : World, wo = wr := ⟨_, rfl⟩
      go_loopw [9, 10, 11] (fun u1 u2 i wi => ∃ y : Nat, y ≤ N ∧ i = .int .i64 y ∧ Below wo.heap.size wo wi ∧ wo.heap.size < wi.heap.size ∧ Row2 2 wo.heap.size wi u1 u2 y y (rowTo (pr1 f f2 q) x y) (rowTo (pr1 s s2 q) x y)) (fun _ _ i _ => N - (intOf i).toNat)
      case atStart => exact ⟨0, Nat.zero_le _, rfl, ((Below.refl _ _).alloc (Nat.le_refl _) _).alloc (by simp) _, by simp; omega, row2_start wo _⟩
      case round =>
        obtain ⟨y, hy, rfl, hbi, hsi, hri⟩ := hrel
        have HBI := hide hbi
        have HRI := hide hri
        clear hbi hri
        by_cases hlty : y < N
        · have hyz : (y : Int) < N := by omega
          have HB2 := hide (HB.out.trans (HBI.out.mono HB.out.size))
          have HBX2 := hide (HBX.out.later HBI.out)
          have hxN : x < n * q := by rw [HNN.out]; exact hlt
          have hyN : y < n * q := by rw [HNN.out]; exact hlty
          have hxd : x / q < n := Nat.div_lt_of_lt_mul (by rw [Nat.mul_comm]; exact hxN)
          have hyd : y / q < n := Nat.div_lt_of_lt_mul (by rw [Nat.mul_comm]; exact hyN)
          have hxm : x % q < q := Nat.mod_lt _ (by omega)
          have hym : y % q < q := Nat.mod_lt _ (by omega)
          have t1 : ((x : Int)).tdiv (q : Int) = ((x / q : Nat) : Int) := by rw [Int.ofNat_tdiv]
          have t2 : ((y : Int)).tdiv (q : Int) = ((y / q : Nat) : Int) := by rw [Int.ofNat_tdiv]
          have t3 : ((x : Int)).tmod (q : Int) = ((x % q : Nat) : Int) := by rw [Int.ofNat_tmod]
          have t4 : ((y : Int)).tmod (q : Int) = ((y % q : Nat) : Int) := by rw [Int.ofNat_tmod]
          have hpr1 : pr1 f f2 q x y = ((ap f (x / q) (y / q) * q + ap f2 (x % q) (y % q) : Nat) : Int) := rfl
          have hpr2 : pr1 s s2 q x y = ((ap s (x / q) (y / q) * q + ap s2 (x % q) (y % q) : Nat) : Int) := rfl
          have hu := HP.out.lt1 HFL.out hxd hyd
          have hv := HP.out.lt2 HFL.out hxd hyd
          have hu2 := HP2.out.lt1 HFL2.out hxm hym
          have hv2 := HP2.out.lt2 HFL2.out hxm hym
          obtain ⟨xa, hxa⟩ : ∃ a, x / q = a := ⟨_, rfl⟩
          obtain ⟨ya, hya⟩ : ∃ a, y / q = a := ⟨_, rfl⟩
          obtain ⟨xb, hxb⟩ : ∃ a, x % q = a := ⟨_, rfl⟩
          obtain ⟨yb, hyb⟩ : ∃ a, y % q = a := ⟨_, rfl⟩
          rw [hxa] at hxd t1 hu hv
          rw [hya] at hyd t2 hu hv
          rw [hxb] at hxm t3 hu2 hv2
          rw [hyb] at hym t4 hu2 hv2
          rw [hxa, hya, hxb, hyb] at hpr1 hpr2
          obtain ⟨u, hue⟩ : ∃ a, ap f xa ya = a := ⟨_, rfl⟩
          obtain ⟨v, hve⟩ : ∃ a, ap s xa ya = a := ⟨_, rfl⟩
          obtain ⟨u2, hue2⟩ : ∃ a, ap f2 xb yb = a := ⟨_, rfl⟩
          obtain ⟨v2, hve2⟩ : ∃ a, ap s2 xb yb = a := ⟨_, rfl⟩
          rw [hue] at hu
          rw [hve] at hv
          rw [hue2] at hu2
          rw [hve2] at hv2
          rw [hue, hue2] at hpr1
          rw [hve, hve2] at hpr2
          have HU := hide hue
          have HV := hide hve
          have HU2 := hide hue2
          have HV2 := hide hve2
          have hb1 : u * q + u2 < 12 := by
            have h : (u + 1) * q ≤ n * q := Nat.mul_le_mul_right q hu
            rw [Nat.add_mul, Nat.one_mul, HNN.out] at h
            omega
          have hb2 : v * q + v2 < 12 := by
            have h : (v + 1) * q ≤ n * q := Nat.mul_le_mul_right q hv
            rw [Nat.add_mul, Nat.one_mul, HNN.out] at h
            omega
          obtain ⟨uq, huq⟩ : ∃ a, u * q = a := ⟨_, rfl⟩
          obtain ⟨vq, hvq⟩ : ∃ a, v * q = a := ⟨_, rfl⟩
          rw [huq] at hb1 hpr1
          rw [hvq] at hb2 hpr2
          have t5 : (u : Int) * (q : Int) = (uq : Int) := by rw [← huq]; simp
          have t6 : (v : Int) * (q : Int) = (vq : Int) := by rw [← hvq]; simp
          have t7 : (uq : Int) + (u2 : Int) = ((uq + u2 : Nat) : Int) := by simp
          have t8 : (vq : Int) + (v2 : Int) = ((vq + v2 : Nat) : Int) := by simp
          obtain ⟨r1, hr1⟩ : ∃ a, uq + u2 = a := ⟨_, rfl⟩
          obtain ⟨r2, hr2⟩ : ∃ a, vq + v2 = a := ⟨_, rfl⟩
          rw [hr1] at hb1 t7 hpr1
          rw [hr2] at hb2 t8 hpr2
          have HPR1 := hide hpr1
          have HPR2 := hide hpr2
          have hq0n : ¬ q = 0 := by omega
          have hq0 : ¬ (q : Int) = 0 := by omega
          have e1 : IntKind.i64.wrap (xa : Int) = (xa : Int) := IntWalk.i64_in _ (by omega)
          have e2 : IntKind.i64.wrap (ya : Int) = (ya : Int) := IntWalk.i64_in _ (by omega)
          have e5 : IntKind.i64.wrap (uq : Int) = (uq : Int) := IntWalk.i64_in _ (by omega)
          have e6 : IntKind.i64.wrap (vq : Int) = (vq : Int) := IntWalk.i64_in _ (by omega)
          have e7 : IntKind.i64.wrap (r1 : Int) = (r1 : Int) := IntWalk.i64_in _ (by omega)
          have e8 : IntKind.i64.wrap (r2 : Int) = (r2 : Int) := IntWalk.i64_in _ (by omega)
          have z1 : (xa : Int) < n := by omega
          have z2 : (ya : Int) < n := by omega
          have z3 : (xb : Int) < q := by omega
          have z4 : (yb : Int) < q := by omega
          have HD := hide (And.intro hxd (And.intro hyd (And.intro hxm hym)))
          clear hxN hyN hxa hya hxb hyb hue hve hue2 hve2 huq hvq hr1 hr2 hpr1 hpr2 hu hv hu2 hv2 hxd hyd hxm hym
          obtain ⟨bA, oA, bB, oB, bx, ox, cx, bY, oy, cy, eA, eB, h1, h2, h3, h4, l1, l2, l3, l4⟩ := HZ.out.reads HP.out HD.out.1 HD.out.2.1
          obtain ⟨bC, oC, bD, oD, bp, op, cp, bQ, oq, cq, eC, eD, g1, g2, g3, g4, m1, m2, m3, m4⟩ := HZ2.out.reads HP2.out HD.out.2.2.1 HD.out.2.2.2
          rw [HU.out] at h3
          rw [HV.out] at h4
          rw [HU2.out] at g3
          rw [HV2.out] at g4
          have EA := hide eA
          have EB := hide eB
          have EC := hide eC
          have ED := hide eD
          clear eA eB eC eD
          have hww := HB.out.size
          have hobw := HTW.out.box.lt
          have k0 := (HBX2.out.blk (b := w.heap.size) (t := 27) (cs := [.slice A n c, .slice B n d]) (by simp)).cell 0 _ rfl
          have k1 := (HBX2.out.blk (b := w.heap.size + 1) (t := 27) (cs := [.slice C q c2, .slice D q d2]) (by simp)).cell 0 _ rfl
          rw [EA.out] at k0
          rw [EC.out] at k1
          have ff0 : wr.cell? ⟨bA, oA + xa, none⟩ = some (.slice (some ⟨bx, ox, none⟩) n cx) := (HB2.out.cell (p := ⟨bA, oA + xa, none⟩) l1).trans h1
          have ff1 : wr.cell? ⟨bx, ox + ya, none⟩ = some (.int .i64 u) := (HB2.out.cell (p := ⟨bx, ox + ya, none⟩) l3).trans h3
          have ff2 : wr.cell? ⟨bC, oC + xb, none⟩ = some (.slice (some ⟨bp, op, none⟩) q cp) := (HB2.out.cell (p := ⟨bC, oC + xb, none⟩) m1).trans g1
          have ff3 : wr.cell? ⟨bp, op + yb, none⟩ = some (.int .i64 u2) := (HB2.out.cell (p := ⟨bp, op + yb, none⟩) m3).trans g3
          have hszw : wo.heap.size ≤ wr.heap.size := HBI.out.size
          go_wp2_with fail
          go_region_held3 (fun w' => w'.cell? ⟨w.heap.size, 0, none⟩ = some (.slice (some ⟨bA, oA, none⟩) n c) ∧ w'.cell? ⟨w.heap.size + 1, 0, none⟩ = some (.slice (some ⟨bC, oC, none⟩) q c2) ∧ w'.cell? ⟨bA, oA + xa, none⟩ = some (.slice (some ⟨bx, ox, none⟩) n cx) ∧ w'.cell? ⟨bx, ox + ya, none⟩ = some (.int .i64 u) ∧ w'.cell? ⟨bC, oC + xb, none⟩ = some (.slice (some ⟨bp, op, none⟩) q cp) ∧ w'.cell? ⟨bp, op + yb, none⟩ = some (.int .i64 u2)) (first | exact ⟨k0, k1, ff0, ff1, ff2, ff3⟩ | go_keep) (first | (refine step_append_lies _ (by rfl) _ _ _ (by rfl) wo.heap.size 2 i0 _ 1 8 Try.underlying31 hi0 hz0 hz1 hz2 rfl (by omega) u9 y (ints (rowTo (pr1 f f2 q) x y)) (by rfl) (HRI.out.o1.alloc _) ⟨wr.heap.size, 0, none⟩ 1 1 [.int .i64 r1] (by rfl) (by rfl) l2_new (by simp [Value.oneCell']) (by omega) (by unfold maxLen; omega) (by omega) (by simp; omega) (wr.heap.size + 1) (by simp) ?_; go_must (intro gg1 cap1 wa1 hown hgrow hat _; obtain ⟨hrow, hbi, hsz1, hcl⟩ := row2_app1 HRI.out HBI.out hown hgrow hat; have HROW1 := hide hrow; have HBI1 := hide hbi; clear hown hgrow hat hrow hbi; have k0 := (hcl _ _ (by omega)).trans k0; have k1 := (hcl _ _ (by omega)).trans k1; have ff0 := (hcl _ _ (by omega)).trans ff0; have ff1 := (hcl _ _ (by omega)).trans ff1; have ff2 := (hcl _ _ (by omega)).trans ff2; have ff3 := (hcl _ _ (by omega)).trans ff3)))
          clear k0 k1 ff0 ff1 ff2 ff3
          have HB5 := hide (HB.out.trans (HBI1.out.mono HB.out.size))
          have HBX5 := hide (HBX.out.later HBI1.out)
          have k0 := (HBX5.out.blk (b := w.heap.size) (t := 27) (cs := [.slice A n c, .slice B n d]) (by simp)).cell 1 _ rfl
          have k1 := (HBX5.out.blk (b := w.heap.size + 1) (t := 27) (cs := [.slice C q c2, .slice D q d2]) (by simp)).cell 1 _ rfl
          rw [EB.out] at k0
          rw [ED.out] at k1
          have ff0 : wa1.cell? ⟨bB, oB + xa, none⟩ = some (.slice (some ⟨bY, oy, none⟩) n cy) := (HB5.out.cell (p := ⟨bB, oB + xa, none⟩) l2).trans h2
          have ff1 : wa1.cell? ⟨bY, oy + ya, none⟩ = some (.int .i64 v) := (HB5.out.cell (p := ⟨bY, oy + ya, none⟩) l4).trans h4
          have ff2 : wa1.cell? ⟨bD, oD + xb, none⟩ = some (.slice (some ⟨bQ, oq, none⟩) q cq) := (HB5.out.cell (p := ⟨bD, oD + xb, none⟩) m2).trans g2
          have ff3 : wa1.cell? ⟨bQ, oq + yb, none⟩ = some (.int .i64 v2) := (HB5.out.cell (p := ⟨bQ, oq + yb, none⟩) m4).trans g4
          have hszw1 : wo.heap.size ≤ wa1.heap.size := HBI1.out.size
          go_upto_region 11 with fail
          go_region_held3 (fun w' => w'.cell? ⟨w.heap.size, 1, none⟩ = some (.slice (some ⟨bB, oB, none⟩) n d) ∧ w'.cell? ⟨w.heap.size + 1, 1, none⟩ = some (.slice (some ⟨bD, oD, none⟩) q d2) ∧ w'.cell? ⟨bB, oB + xa, none⟩ = some (.slice (some ⟨bY, oy, none⟩) n cy) ∧ w'.cell? ⟨bY, oy + ya, none⟩ = some (.int .i64 v) ∧ w'.cell? ⟨bD, oD + xb, none⟩ = some (.slice (some ⟨bQ, oq, none⟩) q cq) ∧ w'.cell? ⟨bQ, oq + yb, none⟩ = some (.int .i64 v2)) (first | exact ⟨k0, k1, ff0, ff1, ff2, ff3⟩ | go_keep) (first | (refine step_append_lies _ (by rfl) _ _ _ (by rfl) wo.heap.size 2 i0 _ 1 8 Try.underlying31 hi0 hz0 hz1 hz2 rfl (by omega) u10 y (ints (rowTo (pr1 s s2 q) x y)) (by rfl) (HROW1.out.o2.alloc _) ⟨wa1.heap.size, 0, none⟩ 1 1 [.int .i64 r2] (by rfl) (by rfl) l2_new (by simp [Value.oneCell']) (by omega) (by unfold maxLen; omega) (by omega) (by simp; omega) (wa1.heap.size + 1) (by simp) ?_; go_must (intro gg2 cap2 wa2 hown hgrow hat _; obtain ⟨hrow, hbi, hsz2, hcl⟩ := row2_app2 HROW1.out HBI1.out hown hgrow hat; have HROW2 := hide hrow; have HBI2 := hide hbi; clear hown hgrow hat hrow hbi; have k0 := (hcl _ _ (by omega)).trans k0; have k1 := (hcl _ _ (by omega)).trans k1; have ff0 := (hcl _ _ (by omega)).trans ff0; have ff1 := (hcl _ _ (by omega)).trans ff1; have ff2 := (hcl _ _ (by omega)).trans ff2; have ff3 := (hcl _ _ (by omega)).trans ff3)))
          clear k0 k1 ff0 ff1 ff2 ff3
          go_wp2_with fail
          go_roundw
          case rel => exact ⟨y + 1, by omega, by go_num, HBI2.out, by omega, by rw [rowTo_succ, rowTo_succ, HPR1.out, HPR2.out]; exact HROW2.out⟩
          case measure => simp [intOf]; omega
        · have hyn : y = N := by omega
          subst hyn
          have HTL : Hid (((grid y (pr1 f f2 q)).take x).length = x) := hide (by rw [List.length_take, grid_length]; omega)
          have HTM : Hid (((grid y (pr1 s s2 q)).take x).length = x) := hide (by rw [List.length_take, grid_length]; omega)
          obtain ⟨A1, c1, hv1, hres1⟩ := own_shape HRI.out.o1
          subst hv1
          obtain ⟨A2, c2', hv2, hres2⟩ := own_shape HRI.out.o2
          subst hv2
          have HRO1 := hide hres1.obj
          have HRO := hide hres2.obj
          have HT2 := hide (HTW.out.later HBI.out)
          have HBX2 := hide (HBX.out.later HBI.out)
          have HB2 := hide (HB.out.trans (HBI.out.mono HB.out.size))
          clear hres1 hres2
          have k0 := HT2.out.box.cell 0 _ rfl
          have k1 := HT2.out.box.cell 1 _ rfl
          have k2 := HT2.out.box.frozen 0
          have k3 := HT2.out.box.frozen 1
          have k4 := fun o => (HT2.out.box.alloc o).cell 0 _ rfl
          have HOW1 : Hid (wr.ownsRow (w.heap.size + 1 + 1 + 1 + 1) 31 1 v1 x vals1) := hide (by have h := HT2.out.l1.own; rw [HTL.out] at h; exact h)
          have hobl := HT2.out.box.lt
          go_wp2_with (at_builtin; refine wpList_append_own_at _ rfl _ _ 22 rfl (w.heap.size + 1 + 1 + 1 + 1) 31 i2 (.slice none 0 0) 1 24 Try.underlying22 hj hy0 hy1 hy2 rfl (by decide) _ _ _ rfl (HOW1.out.alloc _) ⟨wr.heap.size, 0, none⟩ 1 1 [.slice A1 y c1] rfl rfl ?c1 ?c2 ?c3 ?c4 ?c5 ?_)
          case c1 => exact l2_new
          case c2 => intro u hu; simp at hu; subst hu; rfl
          case c3 => unfold maxLen; omega
          case c4 => omega
          case c5 => simp; omega
          intro v' w5 hown5 hgrow5 _ hat5
          obtain ⟨gg, cap, hv5⟩ := own_form hown5
          have hat6 := at_of hv5 hat5
          rw [hv5] at hown5 ⊢
          clear hat5 hv5
          have hat6' : v1.ownBlock = some gg ∨ gg = wr.heap.size + 1 := by rcases hat6 with e | e; exact .inl e; exact .inr (by simpa using e)
          have hbk := HT2.out.kept1 hgrow5
          have HT3 := hide (HT2.out.add1 (by decide) (.inl HTW.out) (Nat.le_refl _) HRO1.out HTL.out (rowTo_len _ _ _) hown5 hgrow5 hat6')
          have HB3 := hide (HT2.out.below1 hgrow5 (.slice (some ⟨gg, 0, none⟩) (x + 1) cap) HB2.out (by omega))
          have HBX3 : Hid (Bxs (w5.setCell ⟨w.heap.size + 1 + 1 + 1, 0, none⟩ (.slice (some ⟨gg, 0, none⟩) (x + 1) cap)) (w.heap.size + 1 + 1 + 1) [(w.heap.size, 27, [.slice A n c, .slice B n d]), (w.heap.size + 1, 27, [.slice C q c2, .slice D q d2]), (w.heap.size + 1 + 1, 27, [.slice none 0 0, .slice none 0 0])]) := hide (HBX2.out.frame (fun k hk hkw => HT2.out.frame1 hgrow5 _ (by omega) (by omega) hkw))
          have HRO3 := hide (row_kept (k := 0) (ob := w.heap.size + 1 + 1 + 1) (by decide) HT2.out.l1.own hgrow5 HRO.out HTW.out.bsz (.slice (some ⟨gg, 0, none⟩) (x + 1) cap))
          have hsz6 : wr.heap.size ≤ (w5.setCell ⟨w.heap.size + 1 + 1 + 1, 0, none⟩ (.slice (some ⟨gg, 0, none⟩) (x + 1) cap)).heap.size := by have h1 := hgrow5.size; simp at h1; simp [World.setCell]; omega
          clear k0 k1 k2 k3 k4 hown5 hat6 hat6' hgrow5
          have k0 := hbk.cell 0 _ rfl
          have k1 := hbk.cell 1 _ rfl
          have k2 := hbk.frozen 0
          have k3 := hbk.frozen 1
          clear hbk
          go_upto_region 13 with fail
          generalize hw6 : w5.setCell ⟨w.heap.size + 1 + 1 + 1, 0, none⟩ (.slice (some ⟨gg, 0, none⟩) (x + 1) cap) = w6 at HT3 HB3 HBX3 HRO3 hsz6 ⊢
          have HRO4 := hide (HRO3.out.mono (Nat.le_refl _) hsz6)
          clear hw6 hsz6 k0 k1 k2 k3
          have k0 := HT3.out.box.cell 0 _ rfl
          have k1 := HT3.out.box.cell 1 _ rfl
          have k2 := HT3.out.box.frozen 0
          have k3 := HT3.out.box.frozen 1
          have k4 := fun o => (HT3.out.box.alloc o).cell 1 _ rfl
          have HOW2 : Hid (w6.ownsRow (w.heap.size + 1 + 1 + 1 + 1) 31 1 v2 x vals2) := hide (by have h := HT3.out.l2.own; rw [HTM.out] at h; exact h)
          have hobl := HT3.out.box.lt
          go_wp2_with (at_builtin; refine wpList_append_own_at _ rfl _ _ 22 rfl (w.heap.size + 1 + 1 + 1 + 1) 31 i2 (.slice none 0 0) 1 24 Try.underlying22 hj hy0 hy1 hy2 rfl (by decide) _ _ _ rfl (HOW2.out.alloc _) ⟨w6.heap.size, 0, none⟩ 1 1 [.slice A2 y c2'] rfl rfl ?c1 ?c2 ?c3 ?c4 ?c5 ?_)
          case c1 => exact l2_new
          case c2 => intro u hu; simp at hu; subst hu; rfl
          case c3 => unfold maxLen; omega
          case c4 => omega
          case c5 => simp; omega
          intro v' w7 hown7 hgrow7 _ hat7
          obtain ⟨gg2, cap2, hv7⟩ := own_form hown7
          have hat8 := at_of hv7 hat7
          rw [hv7] at hown7 ⊢
          clear hat7 hv7
          have hat8' : v2.ownBlock = some gg2 ∨ gg2 = w6.heap.size + 1 := by rcases hat8 with e | e; exact .inl e; exact .inr (by simpa using e)
          have hbk := HT3.out.kept2 hgrow7
          have HT4 := hide (HT3.out.add2 (by decide) (.inr ⟨_, _, _, _, _, _, HTW.out, rfl, rfl, rfl⟩) (Nat.le_refl _) HRO4.out HTM.out (rowTo_len _ _ _) hown7 hgrow7 hat8')
          have HB4 := hide (HT3.out.below2 hgrow7 (.slice (some ⟨gg2, 0, none⟩) (x + 1) cap2) HB3.out (by omega))
          have HBX4 : Hid (Bxs (w7.setCell ⟨w.heap.size + 1 + 1 + 1, 1, none⟩ (.slice (some ⟨gg2, 0, none⟩) (x + 1) cap2)) (w.heap.size + 1 + 1 + 1) [(w.heap.size, 27, [.slice A n c, .slice B n d]), (w.heap.size + 1, 27, [.slice C q c2, .slice D q d2]), (w.heap.size + 1 + 1, 27, [.slice none 0 0, .slice none 0 0])]) := hide (HBX3.out.frame (fun k hk hkw => HT3.out.frame2 hgrow7 _ (by omega) (by omega) hkw))
          clear k0 k1 k2 k3 k4 hown7 hgrow7 hat8 hat8'
          have k0 := hbk.cell 0 _ rfl
          have k1 := hbk.cell 1 _ rfl
          have k2 := hbk.frozen 0
          have k3 := hbk.frozen 1
          clear hbk
          go_wp2_with fail
          go_roundw
          case rel =>
            refine ⟨x + 1, .slice (some ⟨gg, 0, none⟩) (x + 1) cap, .slice (some ⟨gg2, 0, none⟩) (x + 1) cap2, vals1 ++ [.slice A1 y c1], vals2 ++ [.slice A2 y c2'], by omega, by go_num, HB4.out, HBX4.out, ?_⟩
            rw [grid_take_row _ _ _ hlt, grid_take_row _ _ _ hlt]
            exact HT4.out
          case measure => simp [intOf]; omega
    · have hxn : x = N := by omega
      subst hxn
      obtain ⟨A1, c1, hv1, ho1⟩ := HTW.out.l1.shape
      obtain ⟨A2, c2', hv2, ho2⟩ := HTW.out.l2.shape
      rw [List.take_of_length_le (by rw [grid_length]; omega)] at hv1 ho1 hv2 ho2
      rw [grid_length] at hv1 hv2
      subst hv1
      subst hv2
      have HA1 := hide ho1
      have HA2 := hide ho2
      clear ho1 ho2
      have HR := hide (HBX.out.blk (b := w.heap.size + 1 + 1) (t := 27) (cs := [.slice none 0 0, .slice none 0 0]) (by simp))
      have k0 := HTW.out.box.cell 0 _ rfl
      have k1 := HTW.out.box.cell 1 _ rfl
      have k2 := HR.out.cell 0 _ rfl
      have k3 := HR.out.cell 1 _ rfl
      have k4 := HR.out.frozen 0
      have k5 := HR.out.frozen 1
      go_wp2_with fail
      refine bp_gen fun wf hwf => ?_
      obtain ⟨q0, q1, hbf, hof⟩ := wend2 (ts := 31) (t := 2) hwf HR.out (by omega) HB.out (ObjT.of HA1.out (by omega) (Nat.le_refl _)) (ObjT.of HA2.out (by omega) (Nat.le_refl _))
      clear hwf k0 k1 k2 k3 k4 k5
      exact bodyPost_ret (v := .agg #[.slice A1 x c1, .slice A2 x c2']) (by simp [results, Try.results72, go_sem, q0, q1]) rfl ⟨_, _, _, _, rfl, hbf, hof⟩
end Go.Proofs.Ytanldiildinbdaa
