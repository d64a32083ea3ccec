import Derived.Test.YtanldiildinbdaaProg
import Derived.Test.YtanldiildinbdaaZbd
import Derived.Test.YtanldiildinbdaaZy
import Derived.Test.YtanldiildinbdaaZbe
import Derived.Test.YtanldiildinbdaaZa
import Derived.Test.YtanldiildinbdaaZaa
import Derived.Deep.AppendLies
import Derived.Deep.RegionHeld3
import Derived.Deep.Cut
namespace Go.Proofs.Ytanldiildinbdaa
open Go Go.RowKit
set_option maxHeartbeats 2000000

theorem uniS_any_i1 : (Try.prog.info? 2).map (fun i => (i.zero, i.size, i.bytes)) = some (some (.int .i64 0), 1, 8) := by kernel_rfl
theorem uniS_any_i2 : (Try.prog.info? 31).map (fun i => (i.zero, i.size, i.bytes)) = some (some (.slice none 0 0), 1, 24) := by kernel_rfl

set_option maxRecDepth 100000 in
theorem uniS_any (A : Option Addr) (n c : Nat) (f : List (List Int)) (B : Option Addr) (m d : Nat) (s : List (List Int)) (C : Option Addr) (q c2 : Nat) (f2 : List (List Int)) (D : Option Addr) (q2 d2 : Nat) (s2 : List (List Int)) (N : Nat) (w : World) (hz : ZArg 1048576 w A n f B m s) (hp : PMap f s) (hz2 : ZArg 1048576 w C q f2 D q2 s2) (hp2 : PMap f2 s2) (hN : n + q = N) (hle : N ≤ 12) :
    Calls Try.prog 74 #[.agg #[.slice A n c, .slice B m d], .agg #[.slice C q c2, .slice D q2 d2]] w fun e w' => ∃ A' c' B' d', e = .returned (.agg #[.slice A' N c', .slice B' N d']) ∧ Below w.heap.size w w' ∧ ObjW 31 2 w.heap.size w'.heap.size w' A' (grid N (un1 f f2 n fun _ b => (b : Int))) B' (grid N (un1 s s2 n fun a _ => (a : Int))) := by
  have h12 := hz.small hp
  have hsame := (hz.same hp).symm
  subst hsame
  have HZ := hide hz
  have HP := hide hp
  have HFL := hide hz.sz.fl
  clear hz hp
  have h12b := hz2.small hp2
  have hsame := (hz2.same hp2).symm
  subst hsame
  have HZ2 := hide hz2
  have HP2 := hide hp2
  have HFL2 := hide hz2.sz.fl
  have HNN := hide hN
  have hNz : ((n : Int) + (q : Int) : Int) = (N : Int) := by rw [← hN]; simp
  have hwN : IntKind.i64.wrap (N : Int) = (N : Int) := IntWalk.i64_in _ (by omega)
  clear hz2 hp2 hN
  obtain ⟨i0, hi0, hz0, hz1, hz2⟩ := info_parts uniS_any_i1
  obtain ⟨i2, hj, hy0, hy1, hy2⟩ := info_parts uniS_any_i2
  go_enter Try.func74, Try.ntmps74
  go_wp2_with fail
  go_quiet (fail)
  go_wp2_with fail
  refine wp_gen fun w0 hw0 => ?_
  have hb0 : Below w.heap.size w w0 := by rw [hw0]; exact (bdrewN ((((Below.refl _ _).alloc (Nat.le_refl _) _).alloc (by simp) _).alloc (by simp; omega) _) nq).alloc (by simp; omega) _
  have a1 : Blk w0 w.heap.size 27 [.slice A n c, .slice B n d] := by rw [hw0]; exact ((((Blk.new _ _ _).alloc _).alloc _).drewN nq).alloc _
  have a2 : Blk w0 (w.heap.size + 1) 27 [.slice C q c2, .slice D q d2] := by rw [hw0]; have h := (((Blk.new (w.alloc (Obj.cells #[Value.slice A n c, Value.slice B n d] 27)) 27 [.slice C q c2, .slice D q d2]).alloc (Obj.cells #[Value.slice none 0 0, Value.slice none 0 0] 27)).drewN nq).alloc (Obj.cells #[Value.slice none 0 0, Value.slice none 0 0] 27); simpa using h
  have a3 : Blk w0 (w.heap.size + 1 + 1) 27 [.slice none 0 0, .slice none 0 0] := by rw [hw0]; have h := ((Blk.new ((w.alloc (Obj.cells #[Value.slice A n c, Value.slice B n d] 27)).alloc (Obj.cells #[Value.slice C q c2, Value.slice D q d2] 27)) 27 [.slice none 0 0, .slice none 0 0]).drewN nq).alloc (Obj.cells #[Value.slice none 0 0, Value.slice none 0 0] 27); simpa using h
  have a4 : Blk w0 (w.heap.size + 1 + 1 + 1) 27 [.slice none 0 0, .slice none 0 0] := by rw [hw0]; have h := Blk.new ((((w.alloc (Obj.cells #[Value.slice A n c, Value.slice B n d] 27)).alloc (Obj.cells #[Value.slice C q c2, Value.slice D q d2] 27)).alloc (Obj.cells #[Value.slice none 0 0, Value.slice none 0 0] 27)).drewN nq) 27 [.slice none 0 0, .slice none 0 0]; simpa using h
  have HBX0 : Hid (Bxs w0 (w.heap.size + 1 + 1 + 1) [(w.heap.size, 27, [.slice A n c, .slice B n d]), (w.heap.size + 1, 27, [.slice C q c2, .slice D q d2]), (w.heap.size + 1 + 1, 27, [.slice none 0 0, .slice none 0 0])]) := hide (by
    intro p hp'
    simp only [List.mem_cons, List.not_mem_nil, or_false] at hp'
    rcases hp' with rfl | rfl | rfl
    · exact ⟨a1, by show w.heap.size < _; omega⟩
    · exact ⟨a2, by show w.heap.size + 1 < _; omega⟩
    · exact ⟨a3, by show w.heap.size + 1 + 1 < _; omega⟩)
  clear a1 a2 a3
  have HB0 := hide hb0
  have HTW0 := hide (Two.start w0 31 2 27 a4)
  clear hw0 hb0 a4
  go_loopw [8] (fun i wr => ∃ (x : Nat) (v1 v2 : Value) (vals1 vals2 : List Value), x ≤ N ∧ i = .int .i64 x ∧ Below w.heap.size w wr ∧ Bxs wr (w.heap.size + 1 + 1 + 1) [(w.heap.size, 27, [.slice A n c, .slice B n d]), (w.heap.size + 1, 27, [.slice C q c2, .slice D q d2]), (w.heap.size + 1 + 1, 27, [.slice none 0 0, .slice none 0 0])] ∧ Two 31 2 27 (w.heap.size + 1 + 1 + 1 + 1) wr (w.heap.size + 1 + 1 + 1) v1 v2 ((grid N (un1 f f2 n fun _ b => (b : Int))).take x) ((grid N (un1 s s2 n fun a _ => (a : Int))).take x) vals1 vals2) (fun i _ => N - (intOf i).toNat)
  case atStart => exact ⟨0, _, _, _, _, Nat.zero_le _, rfl, HB0.out, HBX0.out, by simpa using HTW0.out⟩
  case round =>
    obtain ⟨x, v1, v2, vals1, vals2, hx, rfl, hbe, hbx, htw⟩ := hrel
    have HB := hide hbe
    have HBX := hide hbx
    have HTW := hide htw
    clear hbe hbx htw
    by_cases hlt : x < N
    · have hxz : (x : Int) < N := by omega
      go_wp2_with fail
      obtain ⟨wo, rfl⟩ : ∃ wo : World, wo = wr := ⟨_, rfl⟩
      go_loopw [9, 10, 11] (fun u1 u2 i wi => ∃ y : Nat, y ≤ N ∧ i = .int .i64 y ∧ Below wo.heap.size wo wi ∧ wo.heap.size < wi.heap.size ∧ Row2 2 wo.heap.size wi u1 u2 y y (rowTo (un1 f f2 n fun _ b => (b : Int)) x y) (rowTo (un1 s s2 n fun a _ => (a : Int)) x y)) (fun _ _ i _ => N - (intOf i).toNat)
      case atStart => exact ⟨0, Nat.zero_le _, rfl, ((Below.refl _ _).alloc (Nat.le_refl _) _).alloc (by simp) _, by simp; omega, row2_start wo _⟩
      case round =>
        obtain ⟨y, hy, rfl, hbi, hsi, hri⟩ := hrel
        have HBI := hide hbi
        have HRI := hide hri
        clear hbi hri
        by_cases hlty : y < N
        · have hyz : (y : Int) < N := by omega
          have HB2 := hide (HB.out.trans (HBI.out.mono HB.out.size))
          have HBX2 := hide (HBX.out.later HBI.out)
          have hszw : wo.heap.size ≤ wr.heap.size := HBI.out.size
          by_cases h1 : x < n ∧ y < n
          · have hpr1 : un1 f f2 n (fun _ b => (b : Int)) x y = ((ap f x y : Nat) : Int) := by unfold un1; rw [if_pos h1]
            have hpr2 : un1 s s2 n (fun a _ => (a : Int)) x y = ((ap s x y : Nat) : Int) := by unfold un1; rw [if_pos h1]
            have HD := hide h1
            have z1 : (x : Int) < n := by omega
            have z2 : (y : Int) < n := by omega
            clear h1
            obtain ⟨bA, oA, bB, oB, bx, ox, cx, bY, oy, cy, eA, eB, h1, h2, h3, h4, l1, l2, l3, l4⟩ := HZ.out.reads HP.out HD.out.1 HD.out.2
            obtain ⟨u, hu⟩ : ∃ u, ap f x y = u := ⟨_, rfl⟩
            obtain ⟨v, hv⟩ : ∃ v, ap s x y = v := ⟨_, rfl⟩
            rw [hu] at h3
            rw [hv] at h4
            have HU := hide hu
            have HV := hide hv
            have EA := hide eA
            have EB := hide eB
            clear hu hv eA eB
            rw [HU.out] at hpr1
            rw [HV.out] at hpr2
            have HPR1 := hide hpr1
            have HPR2 := hide hpr2
            clear hpr1 hpr2
            have k0 := (HBX2.out.blk (b := w.heap.size) (t := 27) (cs := [.slice A n c, .slice B n d]) (by simp)).cell 0 _ rfl
            rw [EA.out] at k0
            have ff0 : wr.cell? ⟨bA, oA + x, none⟩ = some (.slice (some ⟨bx, ox, none⟩) n cx) := (HB2.out.cell (p := ⟨bA, oA + x, none⟩) l1).trans h1
            have ff1 : wr.cell? ⟨bx, ox + y, none⟩ = some (.int .i64 u) := (HB2.out.cell (p := ⟨bx, ox + y, none⟩) l3).trans h3
            go_wp2_with (at_builtin; refine wpList_append_own_at _ rfl _ _ 31 rfl wo.heap.size 2 i0 (.int .i64 0) 1 8 Try.underlying31 hi0 hz0 hz1 hz2 rfl (by decide) _ _ _ rfl (HRI.out.o1.alloc _) ⟨wr.heap.size, 0, none⟩ 1 1 [.int .i64 u] rfl rfl ?d1_1 ?d2_1 ?d3_1 ?d4_1 ?d5_1 ?_)
            try (case d1_1 => exact l2_new)
            case d2_1 => first | rfl | (intro u hu; simp at hu; subst hu; rfl)
            case d3_1 => first | omega | (unfold maxLen; omega)
            case d4_1 => omega
            case d5_1 => first | omega | (simp; omega)
            intro v1' wa1 hown hgrow _ hat
            have HROW1 := hide (HRI.out.add1 (tmp := .cells #[.int .i64 u] 2) hown hgrow (by simpa using hat))
            have HBI1 := hide (grown_low HRI.out.o1 hgrow HBI.out (Nat.le_refl _) HBI.out.size)
            have hgs1 : wr.heap.size < wa1.heap.size := by have := hgrow.size; simp at this; omega
            clear hown hgrow hat
            clear k0 ff0 ff1
            have HB5 := hide (HB.out.trans (HBI1.out.mono HB.out.size))
            have HBX5 := hide (HBX.out.later HBI1.out)
            have hszw1 : wo.heap.size ≤ wa1.heap.size := HBI1.out.size
            have k0 := (HBX5.out.blk (b := w.heap.size) (t := 27) (cs := [.slice A n c, .slice B n d]) (by simp)).cell 1 _ rfl
            rw [EB.out] at k0
            have ff0 : wa1.cell? ⟨bB, oB + x, none⟩ = some (.slice (some ⟨bY, oy, none⟩) n cy) := (HB5.out.cell (p := ⟨bB, oB + x, none⟩) l2).trans h2
            have ff1 : wa1.cell? ⟨bY, oy + y, none⟩ = some (.int .i64 v) := (HB5.out.cell (p := ⟨bY, oy + y, none⟩) l4).trans h4
            go_wp2_with (at_builtin; refine wpList_append_own_at _ rfl _ _ 31 rfl wo.heap.size 2 i0 (.int .i64 0) 1 8 Try.underlying31 hi0 hz0 hz1 hz2 rfl (by decide) _ _ _ rfl (HROW1.out.o2.alloc _) ⟨wa1.heap.size, 0, none⟩ 1 1 [.int .i64 v] rfl rfl ?d1_2 ?d2_2 ?d3_2 ?d4_2 ?d5_2 ?_)
            try (case d1_2 => exact l2_new)
            case d2_2 => first | rfl | (intro u hu; simp at hu; subst hu; rfl)
            case d3_2 => first | omega | (unfold maxLen; omega)
            case d4_2 => omega
            case d5_2 => first | omega | (simp; omega)
            intro v2' wa2 hown hgrow _ hat
            have HROW2 := hide (HROW1.out.add2 (tmp := .cells #[.int .i64 v] 2) hown hgrow (by simpa using hat))
            have HBI2 := hide (grown_low HROW1.out.o2 hgrow HBI1.out (Nat.le_refl _) HBI1.out.size)
            have hgs2 : wa1.heap.size < wa2.heap.size := by have := hgrow.size; simp at this; omega
            clear hown hgrow hat
            clear k0 ff0 ff1
            go_wp2_with fail
            go_roundw
            case rel => exact ⟨y + 1, by omega, by go_num, HBI2.out, by omega, by rw [rowTo_succ, rowTo_succ, HPR1.out, HPR2.out]; exact HROW2.out⟩
            case measure => simp [intOf]; omega
          · by_cases h2 : n ≤ x ∧ n ≤ y
            · have hpr1 : un1 f f2 n (fun _ b => (b : Int)) x y = ((ap f2 (x - n) (y - n) + n : Nat) : Int) := by unfold un1; rw [if_neg h1, if_pos h2]
              have hpr2 : un1 s s2 n (fun a _ => (a : Int)) x y = ((ap s2 (x - n) (y - n) + n : Nat) : Int) := by unfold un1; rw [if_neg h1, if_pos h2]
              obtain ⟨xb, hxb⟩ : ∃ a, x - n = a := ⟨_, rfl⟩
              obtain ⟨yb, hyb⟩ : ∃ a, y - n = a := ⟨_, rfl⟩
              rw [hxb, hyb] at hpr1 hpr2
              have HD : Hid (xb < q ∧ yb < q) := hide (by have := HNN.out; omega)
              have e1 : (x : Int) - (n : Int) = (xb : Int) := by omega
              have e2 : (y : Int) - (n : Int) = (yb : Int) := by omega
              have z1 : (xb : Int) < q := by have := HD.out.1; omega
              have z2 : (yb : Int) < q := by have := HD.out.2; omega
              have z3 : ¬ (x : Int) < n := by omega
              have z4 : ¬ (y : Int) < n := by omega
              have z5 : (n : Int) ≤ x := by omega
              have z6 : (n : Int) ≤ y := by omega
              clear h1 h2 hxb hyb
              have hu2 := HP2.out.lt1 HFL2.out HD.out.1 HD.out.2
              have hv2 := HP2.out.lt2 HFL2.out HD.out.1 HD.out.2
              obtain ⟨bA, oA, bB, oB, bx, ox, cx, bY, oy, cy, eA, eB, h1, h2, h3, h4, l1, l2, l3, l4⟩ := HZ2.out.reads HP2.out HD.out.1 HD.out.2
              obtain ⟨u, hu⟩ : ∃ u, ap f2 xb yb = u := ⟨_, rfl⟩
              obtain ⟨v, hv⟩ : ∃ v, ap s2 xb yb = v := ⟨_, rfl⟩
              rw [hu] at h3
              rw [hv] at h4
              have HU := hide hu
              have HV := hide hv
              have EA := hide eA
              have EB := hide eB
              clear hu hv eA eB
              rw [HU.out] at hpr1 hu2
              rw [HV.out] at hpr2 hv2
              obtain ⟨r1, hr1⟩ : ∃ a, u + n = a := ⟨_, rfl⟩
              obtain ⟨r2, hr2⟩ : ∃ a, v + n = a := ⟨_, rfl⟩
              rw [hr1] at hpr1
              rw [hr2] at hpr2
              have HPR1 := hide hpr1
              have HPR2 := hide hpr2
              have e3 : (u : Int) + (n : Int) = (r1 : Int) := by omega
              have e4 : (v : Int) + (n : Int) = (r2 : Int) := by omega
              have hr112 : r1 ≤ 24 := by omega
              have hr212 : r2 ≤ 24 := by omega
              clear hpr1 hpr2 hr1 hr2 hu2 hv2
              have k0 := (HBX2.out.blk (b := w.heap.size + 1) (t := 27) (cs := [.slice C q c2, .slice D q d2]) (by simp)).cell 0 _ rfl
              rw [EA.out] at k0
              have ff0 : wr.cell? ⟨bA, oA + xb, none⟩ = some (.slice (some ⟨bx, ox, none⟩) q cx) := (HB2.out.cell (p := ⟨bA, oA + xb, none⟩) l1).trans h1
              have ff1 : wr.cell? ⟨bx, ox + yb, none⟩ = some (.int .i64 u) := (HB2.out.cell (p := ⟨bx, ox + yb, none⟩) l3).trans h3
              go_wp2_with (at_builtin; refine wpList_append_own_at _ rfl _ _ 31 rfl wo.heap.size 2 i0 (.int .i64 0) 1 8 Try.underlying31 hi0 hz0 hz1 hz2 rfl (by decide) _ _ _ rfl (HRI.out.o1.alloc _) ⟨wr.heap.size, 0, none⟩ 1 1 [.int .i64 r1] rfl rfl ?d1_3 ?d2_3 ?d3_3 ?d4_3 ?d5_3 ?_)
              try (case d1_3 => exact l2_new)
              case d2_3 => first | rfl | (intro u hu; simp at hu; subst hu; rfl)
              case d3_3 => first | omega | (unfold maxLen; omega)
              case d4_3 => omega
              case d5_3 => first | omega | (simp; omega)
              intro v1' wa1 hown hgrow _ hat
              have HROW1 := hide (HRI.out.add1 (tmp := .cells #[.int .i64 r1] 2) hown hgrow (by simpa using hat))
              have HBI1 := hide (grown_low HRI.out.o1 hgrow HBI.out (Nat.le_refl _) HBI.out.size)
              have hgs1 : wr.heap.size < wa1.heap.size := by have := hgrow.size; simp at this; omega
              clear hown hgrow hat
              clear k0 ff0 ff1
              have HB5 := hide (HB.out.trans (HBI1.out.mono HB.out.size))
              have HBX5 := hide (HBX.out.later HBI1.out)
              have hszw1 : wo.heap.size ≤ wa1.heap.size := HBI1.out.size
              have k0 := (HBX5.out.blk (b := w.heap.size + 1) (t := 27) (cs := [.slice C q c2, .slice D q d2]) (by simp)).cell 1 _ rfl
              rw [EB.out] at k0
              have ff0 : wa1.cell? ⟨bB, oB + xb, none⟩ = some (.slice (some ⟨bY, oy, none⟩) q cy) := (HB5.out.cell (p := ⟨bB, oB + xb, none⟩) l2).trans h2
              have ff1 : wa1.cell? ⟨bY, oy + yb, none⟩ = some (.int .i64 v) := (HB5.out.cell (p := ⟨bY, oy + yb, none⟩) l4).trans h4
              go_wp2_with (at_builtin; refine wpList_append_own_at _ rfl _ _ 31 rfl wo.heap.size 2 i0 (.int .i64 0) 1 8 Try.underlying31 hi0 hz0 hz1 hz2 rfl (by decide) _ _ _ rfl (HROW1.out.o2.alloc _) ⟨wa1.heap.size, 0, none⟩ 1 1 [.int .i64 r2] rfl rfl ?d1_4 ?d2_4 ?d3_4 ?d4_4 ?d5_4 ?_)
              try (case d1_4 => exact l2_new)
              case d2_4 => first | rfl | (intro u hu; simp at hu; subst hu; rfl)
              case d3_4 => first | omega | (unfold maxLen; omega)
              case d4_4 => omega
              case d5_4 => first | omega | (simp; omega)
              intro v2' wa2 hown hgrow _ hat
              have HROW2 := hide (HROW1.out.add2 (tmp := .cells #[.int .i64 r2] 2) hown hgrow (by simpa using hat))
              have HBI2 := hide (grown_low HROW1.out.o2 hgrow HBI1.out (Nat.le_refl _) HBI1.out.size)
              have hgs2 : wa1.heap.size < wa2.heap.size := by have := hgrow.size; simp at this; omega
              clear hown hgrow hat
              clear k0 ff0 ff1
              go_wp2_with fail
              go_roundw
              case rel => exact ⟨y + 1, by omega, by go_num, HBI2.out, by omega, by rw [rowTo_succ, rowTo_succ, HPR1.out, HPR2.out]; exact HROW2.out⟩
              case measure => simp [intOf]; omega
            · have hpr1 : un1 f f2 n (fun _ b => (b : Int)) x y = (y : Int) := by unfold un1; rw [if_neg h1, if_neg h2]
              have hpr2 : un1 s s2 n (fun a _ => (a : Int)) x y = (x : Int) := by unfold un1; rw [if_neg h1, if_neg h2]
              have HPR1 := hide hpr1
              have HPR2 := hide hpr2
              have hcs : (((x : Int) < n ∧ ¬ (y : Int) < n) ∧ ¬ (n : Int) ≤ x) ∨ (((¬ (x : Int) < n) ∧ (n : Int) ≤ x) ∧ ¬ (n : Int) ≤ y) := by omega
              clear h1 h2 hpr1 hpr2
              rcases hcs with ⟨⟨z1, z2⟩, z3⟩ | ⟨⟨z1, z2⟩, z3⟩
              · go_wp2_with (at_builtin; refine wpList_append_own_at _ rfl _ _ 31 rfl wo.heap.size 2 i0 (.int .i64 0) 1 8 Try.underlying31 hi0 hz0 hz1 hz2 rfl (by decide) _ _ _ rfl (HRI.out.o1.alloc _) ⟨wr.heap.size, 0, none⟩ 1 1 [.int .i64 y] rfl rfl ?d1_5 ?d2_5 ?d3_5 ?d4_5 ?d5_5 ?_)
                try (case d1_5 => exact l2_new)
                case d2_5 => first | rfl | (intro u hu; simp at hu; subst hu; rfl)
                case d3_5 => first | omega | (unfold maxLen; omega)
                case d4_5 => omega
                case d5_5 => first | omega | (simp; omega)
                intro v1' wa1 hown hgrow _ hat
                have HROW1 := hide (HRI.out.add1 (tmp := .cells #[.int .i64 y] 2) hown hgrow (by simpa using hat))
                have HBI1 := hide (grown_low HRI.out.o1 hgrow HBI.out (Nat.le_refl _) HBI.out.size)
                have hgs1 : wr.heap.size < wa1.heap.size := by have := hgrow.size; simp at this; omega
                clear hown hgrow hat
                have HB5 := hide (HB.out.trans (HBI1.out.mono HB.out.size))
                have HBX5 := hide (HBX.out.later HBI1.out)
                have hszw1 : wo.heap.size ≤ wa1.heap.size := HBI1.out.size
                go_wp2_with (at_builtin; refine wpList_append_own_at _ rfl _ _ 31 rfl wo.heap.size 2 i0 (.int .i64 0) 1 8 Try.underlying31 hi0 hz0 hz1 hz2 rfl (by decide) _ _ _ rfl (HROW1.out.o2.alloc _) ⟨wa1.heap.size, 0, none⟩ 1 1 [.int .i64 x] rfl rfl ?d1_6 ?d2_6 ?d3_6 ?d4_6 ?d5_6 ?_)
                try (case d1_6 => exact l2_new)
                case d2_6 => first | rfl | (intro u hu; simp at hu; subst hu; rfl)
                case d3_6 => first | omega | (unfold maxLen; omega)
                case d4_6 => omega
                case d5_6 => first | omega | (simp; omega)
                intro v2' wa2 hown hgrow _ hat
                have HROW2 := hide (HROW1.out.add2 (tmp := .cells #[.int .i64 x] 2) hown hgrow (by simpa using hat))
                have HBI2 := hide (grown_low HROW1.out.o2 hgrow HBI1.out (Nat.le_refl _) HBI1.out.size)
                have hgs2 : wa1.heap.size < wa2.heap.size := by have := hgrow.size; simp at this; omega
                clear hown hgrow hat
                go_wp2_with fail
                go_roundw
                case rel => exact ⟨y + 1, by omega, by go_num, HBI2.out, by omega, by rw [rowTo_succ, rowTo_succ, HPR1.out, HPR2.out]; exact HROW2.out⟩
                case measure => simp [intOf]; omega
              · go_wp2_with (at_builtin; refine wpList_append_own_at _ rfl _ _ 31 rfl wo.heap.size 2 i0 (.int .i64 0) 1 8 Try.underlying31 hi0 hz0 hz1 hz2 rfl (by decide) _ _ _ rfl (HRI.out.o1.alloc _) ⟨wr.heap.size, 0, none⟩ 1 1 [.int .i64 y] rfl rfl ?d1_7 ?d2_7 ?d3_7 ?d4_7 ?d5_7 ?_)
                try (case d1_7 => exact l2_new)
                case d2_7 => first | rfl | (intro u hu; simp at hu; subst hu; rfl)
                case d3_7 => first | omega | (unfold maxLen; omega)
                case d4_7 => omega
                case d5_7 => first | omega | (simp; omega)
                intro v1' wa1 hown hgrow _ hat
                have HROW1 := hide (HRI.out.add1 (tmp := .cells #[.int .i64 y] 2) hown hgrow (by simpa using hat))
                have HBI1 := hide (grown_low HRI.out.o1 hgrow HBI.out (Nat.le_refl _) HBI.out.size)
                have hgs1 : wr.heap.size < wa1.heap.size := by have := hgrow.size; simp at this; omega
                clear hown hgrow hat
                have HB5 := hide (HB.out.trans (HBI1.out.mono HB.out.size))
                have HBX5 := hide (HBX.out.later HBI1.out)
                have hszw1 : wo.heap.size ≤ wa1.heap.size := HBI1.out.size
                go_wp2_with (at_builtin; refine wpList_append_own_at _ rfl _ _ 31 rfl wo.heap.size 2 i0 (.int .i64 0) 1 8 Try.underlying31 hi0 hz0 hz1 hz2 rfl (by decide) _ _ _ rfl (HROW1.out.o2.alloc _) ⟨wa1.heap.size, 0, none⟩ 1 1 [.int .i64 x] rfl rfl ?d1_8 ?d2_8 ?d3_8 ?d4_8 ?d5_8 ?_)
                try (case d1_8 => exact l2_new)
                case d2_8 => first | rfl | (intro u hu; simp at hu; subst hu; rfl)
                case d3_8 => first | omega | (unfold maxLen; omega)
                case d4_8 => omega
                case d5_8 => first | omega | (simp; omega)
                intro v2' wa2 hown hgrow _ hat
                have HROW2 := hide (HROW1.out.add2 (tmp := .cells #[.int .i64 x] 2) hown hgrow (by simpa using hat))
                have HBI2 := hide (grown_low HROW1.out.o2 hgrow HBI1.out (Nat.le_refl _) HBI1.out.size)
                have hgs2 : wa1.heap.size < wa2.heap.size := by have := hgrow.size; simp at this; omega
                clear hown hgrow hat
                go_wp2_with fail
                go_roundw
                case rel => exact ⟨y + 1, by omega, by go_num, HBI2.out, by omega, by rw [rowTo_succ, rowTo_succ, HPR1.out, HPR2.out]; exact HROW2.out⟩
                case measure => simp [intOf]; omega
        · have hyn : y = N := by omega
          subst hyn
          have HTL : Hid (((grid y (un1 f f2 n fun _ b => (b : Int))).take x).length = x) := hide (by rw [List.length_take, grid_length]; omega)
          have HTM : Hid (((grid y (un1 s s2 n fun a _ => (a : Int))).take x).length = x) := hide (by rw [List.length_take, grid_length]; omega)
          obtain ⟨A1, c1, hv1, hres1⟩ := own_shape HRI.out.o1
          subst hv1
          obtain ⟨A2, c2', hv2, hres2⟩ := own_shape HRI.out.o2
          subst hv2
          have HRO1 := hide hres1.obj
          have HRO := hide hres2.obj
          have HT2 := hide (HTW.out.later HBI.out)
          have HBX2 := hide (HBX.out.later HBI.out)
          have HB2 := hide (HB.out.trans (HBI.out.mono HB.out.size))
          clear hres1 hres2
          have k0 := HT2.out.box.cell 0 _ rfl
          have k1 := HT2.out.box.cell 1 _ rfl
          have k2 := HT2.out.box.frozen 0
          have k3 := HT2.out.box.frozen 1
          have k4 := fun o => (HT2.out.box.alloc o).cell 0 _ rfl
          have HOW1 : Hid (wr.ownsRow (w.heap.size + 1 + 1 + 1 + 1) 31 1 v1 x vals1) := hide (by have h := HT2.out.l1.own; rw [HTL.out] at h; exact h)
          have hobl := HT2.out.box.lt
          go_wp2_with (at_builtin; refine wpList_append_own_at _ rfl _ _ 22 rfl (w.heap.size + 1 + 1 + 1 + 1) 31 i2 (.slice none 0 0) 1 24 Try.underlying22 hj hy0 hy1 hy2 rfl (by decide) _ _ _ rfl (HOW1.out.alloc _) ⟨wr.heap.size, 0, none⟩ 1 1 [.slice A1 y c1] rfl rfl ?c1 ?c2 ?c3 ?c4 ?c5 ?_)
          try (case c1 => exact l2_new)
          case c2 => first | rfl | (intro u hu; simp at hu; subst hu; rfl)
          case c3 => first | omega | (unfold maxLen; omega)
          case c4 => omega
          case c5 => first | omega | (simp; omega)
          intro v' w5 hown5 hgrow5 _ hat5
          obtain ⟨gg, cap, hv5⟩ := own_form hown5
          have hat6 := at_of hv5 hat5
          rw [hv5] at hown5 ⊢
          clear hat5 hv5
          have hat6' : v1.ownBlock = some gg ∨ gg = wr.heap.size + 1 := by rcases hat6 with e | e; exact .inl e; exact .inr (by simpa using e)
          have hbk := HT2.out.kept1 hgrow5
          have HT3 := hide (HT2.out.add1 (by decide) (.inl HTW.out) (Nat.le_refl _) HRO1.out HTL.out (rowTo_len _ _ _) hown5 hgrow5 hat6')
          have HB3 := hide (HT2.out.below1 hgrow5 (.slice (some ⟨gg, 0, none⟩) (x + 1) cap) HB2.out (by omega))
          have HBX3 : Hid (Bxs (w5.setCell ⟨w.heap.size + 1 + 1 + 1, 0, none⟩ (.slice (some ⟨gg, 0, none⟩) (x + 1) cap)) (w.heap.size + 1 + 1 + 1) [(w.heap.size, 27, [.slice A n c, .slice B n d]), (w.heap.size + 1, 27, [.slice C q c2, .slice D q d2]), (w.heap.size + 1 + 1, 27, [.slice none 0 0, .slice none 0 0])]) := hide (HBX2.out.frame (fun k hk hkw => HT2.out.frame1 hgrow5 _ (by omega) (by omega) hkw))
          have HRO3 := hide (row_kept (k := 0) (ob := w.heap.size + 1 + 1 + 1) (by decide) HT2.out.l1.own hgrow5 HRO.out HTW.out.bsz (.slice (some ⟨gg, 0, none⟩) (x + 1) cap))
          have hsz6 : wr.heap.size ≤ (w5.setCell ⟨w.heap.size + 1 + 1 + 1, 0, none⟩ (.slice (some ⟨gg, 0, none⟩) (x + 1) cap)).heap.size := by have h1 := hgrow5.size; simp at h1; simp [World.setCell]; omega
          clear k0 k1 k2 k3 k4 hown5 hat6 hat6' hgrow5
          have k0 := hbk.cell 0 _ rfl
          have k1 := hbk.cell 1 _ rfl
          have k2 := hbk.frozen 0
          have k3 := hbk.frozen 1
          clear hbk
          go_upto_region 19 with fail
          generalize hw6 : w5.setCell ⟨w.heap.size + 1 + 1 + 1, 0, none⟩ (.slice (some ⟨gg, 0, none⟩) (x + 1) cap) = w6 at HT3 HB3 HBX3 HRO3 hsz6 ⊢
          have HRO4 := hide (HRO3.out.mono (Nat.le_refl _) hsz6)
          clear hw6 hsz6 k0 k1 k2 k3
          have k0 := HT3.out.box.cell 0 _ rfl
          have k1 := HT3.out.box.cell 1 _ rfl
          have k2 := HT3.out.box.frozen 0
          have k3 := HT3.out.box.frozen 1
          have k4 := fun o => (HT3.out.box.alloc o).cell 1 _ rfl
          have HOW2 : Hid (w6.ownsRow (w.heap.size + 1 + 1 + 1 + 1) 31 1 v2 x vals2) := hide (by have h := HT3.out.l2.own; rw [HTM.out] at h; exact h)
          have hobl := HT3.out.box.lt
          go_wp2_with (at_builtin; refine wpList_append_own_at _ rfl _ _ 22 rfl (w.heap.size + 1 + 1 + 1 + 1) 31 i2 (.slice none 0 0) 1 24 Try.underlying22 hj hy0 hy1 hy2 rfl (by decide) _ _ _ rfl (HOW2.out.alloc _) ⟨w6.heap.size, 0, none⟩ 1 1 [.slice A2 y c2'] rfl rfl ?c1 ?c2 ?c3 ?c4 ?c5 ?_)
          try (case c1 => exact l2_new)
          case c2 => first | rfl | (intro u hu; simp at hu; subst hu; rfl)
          case c3 => first | omega | (unfold maxLen; omega)
          case c4 => omega
          case c5 => first | omega | (simp; omega)
          intro v' w7 hown7 hgrow7 _ hat7
          obtain ⟨gg2, cap2, hv7⟩ := own_form hown7
          have hat8 := at_of hv7 hat7
          rw [hv7] at hown7 ⊢
          clear hat7 hv7
          have hat8' : v2.ownBlock = some gg2 ∨ gg2 = w6.heap.size + 1 := by rcases hat8 with e | e; exact .inl e; exact .inr (by simpa using e)
          have hbk := HT3.out.kept2 hgrow7
          have HT4 := hide (HT3.out.add2 (by decide) (.inr ⟨_, _, _, _, _, _, HTW.out, rfl, rfl, rfl⟩) (Nat.le_refl _) HRO4.out HTM.out (rowTo_len _ _ _) hown7 hgrow7 hat8')
          have HB4 := hide (HT3.out.below2 hgrow7 (.slice (some ⟨gg2, 0, none⟩) (x + 1) cap2) HB3.out (by omega))
          have HBX4 : Hid (Bxs (w7.setCell ⟨w.heap.size + 1 + 1 + 1, 1, none⟩ (.slice (some ⟨gg2, 0, none⟩) (x + 1) cap2)) (w.heap.size + 1 + 1 + 1) [(w.heap.size, 27, [.slice A n c, .slice B n d]), (w.heap.size + 1, 27, [.slice C q c2, .slice D q d2]), (w.heap.size + 1 + 1, 27, [.slice none 0 0, .slice none 0 0])]) := hide (HBX3.out.frame (fun k hk hkw => HT3.out.frame2 hgrow7 _ (by omega) (by omega) hkw))
          clear k0 k1 k2 k3 k4 hown7 hgrow7 hat8 hat8'
          have k0 := hbk.cell 0 _ rfl
          have k1 := hbk.cell 1 _ rfl
          have k2 := hbk.frozen 0
          have k3 := hbk.frozen 1
          clear hbk
          go_wp2_with fail
          go_roundw
          case rel =>
            refine ⟨x + 1, .slice (some ⟨gg, 0, none⟩) (x + 1) cap, .slice (some ⟨gg2, 0, none⟩) (x + 1) cap2, vals1 ++ [.slice A1 y c1], vals2 ++ [.slice A2 y c2'], by omega, by go_num, HB4.out, HBX4.out, ?_⟩
            rw [grid_take_row _ _ _ hlt, grid_take_row _ _ _ hlt]
            exact HT4.out
          case measure => simp [intOf]; omega
    · have hxn : x = N := by omega
      subst hxn
      obtain ⟨A1, c1, hv1, ho1⟩ := HTW.out.l1.shape
      obtain ⟨A2, c2', hv2, ho2⟩ := HTW.out.l2.shape
      rw [List.take_of_length_le (by rw [grid_length]; omega)] at hv1 ho1 hv2 ho2
      rw [grid_length] at hv1 hv2
      subst hv1
      subst hv2
      have HA1 := hide ho1
      have HA2 := hide ho2
      clear ho1 ho2
      have HR := hide (HBX.out.blk (b := w.heap.size + 1 + 1) (t := 27) (cs := [.slice none 0 0, .slice none 0 0]) (by simp))
      have k0 := HTW.out.box.cell 0 _ rfl
      have k1 := HTW.out.box.cell 1 _ rfl
      have k2 := HR.out.cell 0 _ rfl
      have k3 := HR.out.cell 1 _ rfl
      have k4 := HR.out.frozen 0
      have k5 := HR.out.frozen 1
      go_wp2_with fail
      refine bp_gen fun wf hwf => ?_
      obtain ⟨q0, q1, hbf, hof⟩ := wend2 (ts := 31) (t := 2) hwf HR.out (by omega) HB.out (ObjT.of HA1.out (by omega) (Nat.le_refl _)) (ObjT.of HA2.out (by omega) (Nat.le_refl _))
      clear hwf k0 k1 k2 k3 k4 k5
      exact bodyPost_ret (v := .agg #[.slice A1 x c1, .slice A2 x c2']) (by simp [results, Try.results74, go_sem, q0, q1]) rfl ⟨_, _, _, _, rfl, hbf, hof⟩
end Go.Proofs.Ytanldiildinbdaa
