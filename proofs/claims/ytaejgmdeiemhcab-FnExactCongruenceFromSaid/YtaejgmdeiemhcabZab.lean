import Derived.Test.YtaejgmdeiemhcabProg
import Derived.Test.YtaejgmdeiemhcabZaa
import Derived.Test.YtaejgmdeiemhcabZa
import Derived.Test.YtaejgmdeiemhcabZf
import Derived.Test.YtaejgmdeiemhcabZc
import Derived.Test.YtaejgmdeiemhcabZy
import Derived.Test.YtaejgmdeiemhcabZb
import Derived.Shelf.Abstract
import Derived.Shelf.Lay
import Derived.Deep.Cut
import Derived.Deep.RegionHeld3
namespace Go.Proofs.Ytaejgmdeiemhcab
open Go Go.RowKit
set_option maxHeartbeats 1000000

theorem ksize_any (A : Option Addr) (n c : Nat) (w : World) (_hn : n ≤ 1048576) :
    Calls Try.prog 57 #[.agg #[.slice A n c]] w fun e w' => e = .returned (.int .i64 n) ∧ Below w.heap.size w w' := by
  have HB0 := hide ((Below.refl _ w).alloc (Nat.le_refl _) (Obj.cells #[Value.slice A n c] 49))
  go_enter Try.func57, Try.ntmps57
  go_wp2_with fail
  go_ret
  exact ⟨rfl, HB0.out⟩

theorem act_any (A : Option Addr) (n c : Nat) (f : List (List Int)) (x y u : Nat) (w : World) (hn : f.length = n) (ht : Tbl f) (hr : Rd2 w A f) (hx : x < n) (hy : y < n) (hu : ap f x y = u) :
    Calls Try.prog 131 #[.agg #[.slice A n c], .int .i64 x, .int .i64 y] w fun e w' => e = .returned (.int .i64 u) ∧ Below w.heap.size w w' := by
  have h12 : n ≤ 12 := by rw [← hn]; exact ht.2.1
  obtain ⟨b, o, rfl, hb, hc⟩ := ht.cells hr hn
  obtain ⟨bx, ox, cx, h1, h2, h3⟩ := hc x hx
  have h4 := h3 y hy
  rw [hu] at h4
  have hbb := ((Below.refl _ w).alloc (Nat.le_refl _) (Obj.cells #[Value.slice (some ⟨b, o, none⟩) n c] 49))
  have HB0 := hide hbb
  have a4 := (hbb.cell (p := ⟨b, o + x, none⟩) hb).trans h1
  have a6 := (hbb.cell (p := ⟨bx, ox + y, none⟩) h2).trans h4
  have hxz : (x : Int) < n := by omega
  have hyz : (y : Int) < n := by omega
  have hxz0 : (0 : Int) ≤ x := by omega
  have hyz0 : (0 : Int) ≤ y := by omega
  clear hbb h1 h3 h4 hc hu hr ht hn
  go_enter Try.func131, Try.ntmps131
  go_wp2_with fail
  go_ret
  exact ⟨rfl, HB0.out⟩
end Go.Proofs.Ytaejgmdeiemhcab
namespace Go.Proofs.Ytaejgmdeiemhcab
open Go Go.RowKit
set_option maxHeartbeats 2000000

set_option maxRecDepth 100000 in
theorem firstTriple_any (F : FuncId) (lb : Array Value) (n : Nat) (q : Nat → Nat → Nat → Bool) (T : Nat) (w : World) (eg : ∀ args w, (callFunc F args).run Try.prog w = .ok (.enter F args) w) (h1 : 1 ≤ n) (h12 : n ≤ 12) (hp : BoolFn3 Try.prog F lb n q w) (hT : FirstQ q n T) :
    Calls Try.prog 129 #[.int .i64 n, .func (.func F) #[] lb] w fun e w' => (T = n * n * n ∧ e = .returned (.slice none 0 0) ∧ Below w.heap.size w w') ∨ (T < n * n * n ∧ ∃ g, e = .returned (.slice (some ⟨g, 0, none⟩) 3 3) ∧ Below w.heap.size w w' ∧ w.heap.size ≤ g ∧ OwnB 2 w' g (lst3 (trip n T))) := by
  have HPF := hide hp
  have HT := hide hT
  obtain ⟨N, hN⟩ : ∃ N, n * n = N := ⟨_, rfl⟩
  have hN144 : N ≤ 144 := by rw [← hN]; exact sq_le n h12
  have HNN := hide hN
  clear hT hN hp
  go_enter Try.func129, Try.ntmps129
  go_wp2_with fail
  refine (pairsOf_any n N _ h1 h12 HNN.out).mono ?_
  rintro e w3 ⟨g, rfl, hb3, hg3, hpa⟩
  have HB3 := hide hb3
  have HPA3 := hide hpa
  clear hb3 hpa
  go_wp2_with fail
  go_loopw [11] (fun i wr => ∃ k : Nat, k ≤ N ∧ i = .int .i64 k ∧ Below w.heap.size w wr ∧ PairsAt wr g n ∧ ∀ i, i < k * n → qAt q n i = false) (fun i _ => N - (intOf i).toNat)
  case atStart => exact ⟨0, Nat.zero_le _, rfl, HB3.out, HPA3.out, fun i hi => absurd hi (by omega)⟩
  case round =>
    obtain ⟨k, hk, rfl, hbe, hpa, hall⟩ := hrel
    have HB := hide hbe
    have HPA := hide hpa
    have HALL := hide hall
    clear hbe hpa hall
    by_cases hlt : k < N
    · have hkz : (k : Int) < N := by omega
      obtain ⟨p0, p1⟩ := HPA.out.2 k (by rw [HNN.out]; exact hlt)
      have hxn : k / n < n := div_lt_sq (by rw [HNN.out]; exact hlt)
      have hyn : k % n < n := mod_lt_sq (by rw [HNN.out]; exact hlt)
      obtain ⟨x, hx⟩ : ∃ x, k / n = x := ⟨_, rfl⟩
      obtain ⟨y, hy⟩ : ∃ y, k % n = y := ⟨_, rfl⟩
      rw [hx] at p0 hxn
      rw [hy] at p1 hyn
      have HX := hide hx
      have HY := hide hy
      clear hx hy
      go_wp2_with fail
      refine wp_gen fun w4 hw4 => ?_
      obtain ⟨P, hPe⟩ : ∃ P, wr.heap.size = P := ⟨_, rfl⟩
      have HB4 : Hid (Below w.heap.size w w4) := hide (by rw [hw4]; exact HB.out.alloc HB.out.size _)
      have HP4 : Hid (Blk w4 P 71 [.int .i64 x, .int .i64 y]) := hide (by rw [hw4, ← hPe]; exact Blk.new _ _ _)
      have HA4 : Hid (PairsAt w4 g n) := hide (by rw [hw4]; exact HPA.out.later ((Below.refl _ _).alloc (Nat.le_refl _) _))
      rw [hPe]
      clear hw4 p0 p1 hPe
      go_loopw [16] (fun i wi => ∃ z : Nat, z ≤ n ∧ i = .int .i64 z ∧ Below w.heap.size w wi ∧ Blk wi P 71 [.int .i64 x, .int .i64 y] ∧ PairsAt wi g n ∧ ∀ i, i < k * n + z → qAt q n i = false) (fun i _ => n - (intOf i).toNat)
      case atStart => exact ⟨0, Nat.zero_le _, rfl, HB4.out, HP4.out, HA4.out, HALL.out⟩
      case round =>
        obtain ⟨z, hzn, rfl, hbe, hpp, hpa, hall⟩ := hrel
        have HBc := hide hbe
        have HPc := hide hpp
        have HAc := hide hpa
        have HALLI := hide hall
        clear hbe hpp hpa hall
        by_cases hltz : z < n
        · have hzz : (z : Int) < n := by omega
          have hklt : k * n + z < n * n * n := by
            have h := trip_lt (n := n) hxn hyn hltz
            rw [← HX.out, ← HY.out, pair_eta] at h
            exact h
          have hat : qAt q n (k * n + z) = q x y z := by
            have h := qAt_at (q := q) (n := n) (x := x) hyn hltz
            rw [← HX.out, ← HY.out, pair_eta] at h
            rw [← HX.out, ← HY.out]
            exact h
          have htr : trip n (k * n + z) = (x, y, z) := by
            have h := trip_of (n := n) (x := x) hyn hltz
            rw [← HX.out, ← HY.out, pair_eta, HX.out, HY.out] at h
            exact h
          have HTR := hide htr
          have HKL := hide hklt
          clear htr hklt
          obtain ⟨bq, hbq⟩ : ∃ b, q x y z = b := ⟨_, rfl⟩
          rw [hbq] at hat
          have HAT := hide hat
          have HBQ := hide hbq
          clear hat hbq
          have k0 := HPc.out.cell 0 _ rfl
          have k1 := HPc.out.cell 1 _ rfl
          cases bq with
          | false =>
            go_wp2_with (go_at_fn F; go_must (refine calls_gen fun wc hwc => ?_; (first | have hbx := drew_below hwc | have hbx := eq_below hwc); replace HBc := hide (HBc.out.trans (hbx.mono HBc.out.size)); replace HPc := hide (HPc.out.later hbx); replace HAc := hide (HAc.out.later hbx); clear hwc hbx; refine (HPF.out _ x y z hxn hyn hltz HBc.out).mono ?_; rw [HBQ.out]; rintro e wd ⟨rfl, hbd⟩; replace HBc := hide (HBc.out.trans (hbd.mono HBc.out.size)); replace HPc := hide (HPc.out.later hbd); replace HAc := hide (HAc.out.later hbd); clear hbd; have k0 := HPc.out.cell 0 _ rfl; have k1 := HPc.out.cell 1 _ rfl; clear k0 k1))
            clear k0 k1
            go_wp2_with fail
            go_roundw
            case rel => exact ⟨z + 1, by omega, by go_num, HBc.out, HPc.out, HAc.out, fun i hi => by
              by_cases e : i = k * n + z
              · rw [e]; exact HAT.out
              · exact HALLI.out i (by omega)⟩
            case measure => simp [intOf]; omega
          | true =>
            have HTB2 := hide (HT.out.bad HALLI.out HKL.out HAT.out)
            go_wp2_with (go_at_fn F; go_must (refine calls_gen fun wc hwc => ?_; (first | have hbx := drew_below hwc | have hbx := eq_below hwc); replace HBc := hide (HBc.out.trans (hbx.mono HBc.out.size)); replace HPc := hide (HPc.out.later hbx); replace HAc := hide (HAc.out.later hbx); clear hwc hbx; refine (HPF.out _ x y z hxn hyn hltz HBc.out).mono ?_; rw [HBQ.out]; rintro e wd ⟨rfl, hbd⟩; replace HBc := hide (HBc.out.trans (hbd.mono HBc.out.size)); replace HPc := hide (HPc.out.later hbd); replace HAc := hide (HAc.out.later hbd); clear hbd; have k0 := HPc.out.cell 0 _ rfl; have k1 := HPc.out.cell 1 _ rfl; have k2 := fun o => (HPc.out.alloc o).cell 0 _ rfl; have k3 := fun o => (HPc.out.alloc o).cell 1 _ rfl))
            clear k0 k1
            go_wp2_with fail
            refine bp_gen fun wf hwf => ?_
            have HBF : Below w.heap.size w wf := by rw [hwf]; exact HBc.out.alloc HBc.out.size _
            have HLF : Hid (Blk wf wd.heap.size 2 [.int .i64 x, .int .i64 y, .int .i64 z]) := hide (by rw [hwf]; exact Blk.new _ _ _)
            have hlo : w.heap.size ≤ wd.heap.size := HBc.out.size
            clear hwf
            go_ret
            exact .inr ⟨by rw [HTB2.out]; exact HKL.out, _, rfl, HBF, hlo, _, HLF.out, fun i hi => by
              rw [HTB2.out, HTR.out] at hi ⊢
              simp [lst3] at hi
              rcases i with _ | _ | _ | i
              · rfl
              · rfl
              · rfl
              · omega⟩
        · have hzn' : z = n := by omega
          subst hzn'
          go_wp2_with fail
          go_roundw
          case rel => exact ⟨k + 1, by omega, by go_num, HBc.out, HAc.out, fun i hi => HALLI.out i (by rw [Nat.add_mul, Nat.one_mul] at hi; exact hi)⟩
          case measure => simp [intOf]; omega
    · have hkn : k = N := by omega
      subst hkn
      go_wp2_with fail
      go_ret
      exact .inl ⟨HT.out.all (fun i hi => HALL.out i (by rw [HNN.out] at hi; exact hi)), rfl, HB.out⟩
end Go.Proofs.Ytaejgmdeiemhcab
namespace Go.Proofs.Ytaejgmdeiemhcab
open Go Go.RowKit
set_option maxHeartbeats 2000000

set_option maxRecDepth 100000 in
theorem faultK_any (A : Option Addr) (n c : Nat) (f : List (List Int)) (T : Nat) (w : World) (hn : f.length = n) (ht : Tbl f) (hr : Rd2 w A f) (hT : FirstK f n T) :
    Calls Try.prog 89 #[.slice A n c] w fun e w' => (T = n * n * n ∧ e = .returned (.slice none 0 0) ∧ Below w.heap.size w w') ∨ (T < n * n * n ∧ ∃ g, e = .returned (.slice (some ⟨g, 0, none⟩) 3 3) ∧ Below w.heap.size w w' ∧ w.heap.size ≤ g ∧ OwnB 2 w' g (lst3 (trip n T))) := by
  have h1 : 1 ≤ n := by rw [← hn]; exact ht.1
  have h12 : n ≤ 12 := by rw [← hn]; exact ht.2.1
  obtain ⟨b, o, rfl, hb, hc⟩ := ht.cells hr hn
  have HC := hide hc
  have HN := hide hn
  have HTB := hide ht
  have HT := hide hT
  clear hn ht hr hT hc
  go_enter Try.func89, Try.ntmps89
  go_wp2_with fail
  go_loopw [4] (fun i wr => ∃ x : Nat, x ≤ n ∧ i = .int .i64 x ∧ Quiet w wr ∧ ∀ i, i < x * n * n → Rk3 f n i) (fun i _ => n - (intOf i).toNat)
  case atStart => exact ⟨0, Nat.zero_le _, rfl, Quiet.refl _, fun i hi => absurd hi (by omega)⟩
  case round =>
    obtain ⟨x, hx, rfl, hq, hall⟩ := hrel
    have HQ := hide hq
    clear hq
    have HALL := hide hall
    clear hall
    by_cases hlt : x < n
    · have hxz : (x : Int) < n := by omega
      go_wp2_with fail
      go_loopw [5] (fun i wi => ∃ y : Nat, y ≤ n ∧ i = .int .i64 y ∧ Quiet w wi ∧ ∀ i, i < (x * n + y) * n → Rk3 f n i) (fun i _ => n - (intOf i).toNat)
      case atStart => exact ⟨0, Nat.zero_le _, rfl, HQ.out, fun i hi => HALL.out i (by rw [Nat.add_zero] at hi; exact hi)⟩
      case round =>
        obtain ⟨y, hy, rfl, hq, halli⟩ := hrel
        have HQI := hide hq
        clear hq
        have HALLI := hide halli
        clear halli
        by_cases hlty : y < n
        · have hyz : (y : Int) < n := by omega
          go_wp2_with fail
          go_loopw [6] (fun i wi => ∃ z : Nat, z ≤ n ∧ i = .int .i64 z ∧ Quiet w wi ∧ ∀ i, i < (x * n + y) * n + z → Rk3 f n i) (fun i _ => n - (intOf i).toNat)
          case atStart => exact ⟨0, Nat.zero_le _, rfl, HQI.out, HALLI.out⟩
          case round =>
            obtain ⟨z, hzn, rfl, hq, hallj⟩ := hrel
            have HQJ := hide hq
            clear hq
            have HALLJ := hide hallj
            clear hallj
            by_cases hltz : z < n
            · have hzz : (z : Int) < n := by omega
              have hq1 := HTB.out.ap_lt HN.out hlty hltz
              have hq2 := HTB.out.ap_lt HN.out hlt hlty
              have hq3 := HTB.out.ap_lt HN.out hlt hltz
              have hat := Rk3.at (f := f) (n := n) (x := x) hlty hltz
              have HTR := hide (trip_of (n := n) (x := x) hlty hltz)
              have HKL := hide (trip_lt (n := n) hlt hlty hltz)
              obtain ⟨q1, h_1⟩ : ∃ u, ap f y z = u := ⟨_, rfl⟩
              obtain ⟨q2, h_2⟩ : ∃ u, ap f x y = u := ⟨_, rfl⟩
              obtain ⟨q3, h_3⟩ : ∃ u, ap f x z = u := ⟨_, rfl⟩
              rw [h_1, h_2, h_3] at hat
              rw [h_1] at hq1
              rw [h_2] at hq2
              rw [h_3] at hq3
              obtain ⟨q4, h_4⟩ : ∃ u, ap f x q1 = u := ⟨_, rfl⟩
              obtain ⟨q5, h_5⟩ : ∃ u, ap f q2 q3 = u := ⟨_, rfl⟩
              rw [h_4, h_5] at hat
              have HAT := hide hat
              obtain ⟨bx, ox, cx, r1, r2, r3⟩ := HC.out x hlt
              obtain ⟨by', oy, cy, s1, s2, s3⟩ := HC.out y hlty
              obtain ⟨bq, oq, cq, t1, t2, t3⟩ := HC.out q2 hq2
              have e1 := s3 z hltz
              rw [h_1] at e1
              have e2 := r3 y hlty
              rw [h_2] at e2
              have e3 := r3 z hltz
              rw [h_3] at e3
              have e4 := r3 q1 hq1
              rw [h_4] at e4
              have e5 := t3 q3 hq3
              rw [h_5] at e5
              have z1 : (q1 : Int) < n := by omega
              have z2 : (q2 : Int) < n := by omega
              have z3 : (q3 : Int) < n := by omega
              have hbl := HQJ.out.below w.heap.size
              replace r1 := (hbl.cell (p := ⟨b, o + x, none⟩) hb).trans r1
              replace s1 := (hbl.cell (p := ⟨b, o + y, none⟩) hb).trans s1
              replace t1 := (hbl.cell (p := ⟨b, o + q2, none⟩) hb).trans t1
              replace e1 := (hbl.cell (p := ⟨by', oy + z, none⟩) s2).trans e1
              replace e2 := (hbl.cell (p := ⟨bx, ox + y, none⟩) r2).trans e2
              replace e3 := (hbl.cell (p := ⟨bx, ox + z, none⟩) r2).trans e3
              replace e4 := (hbl.cell (p := ⟨bx, ox + q1, none⟩) r2).trans e4
              replace e5 := (hbl.cell (p := ⟨bq, oq + q3, none⟩) t2).trans e5
              clear hbl h_1 h_2 h_3 h_4 h_5 hat r3 s3 t3
              by_cases hcs : q4 = q5
              · have HGOOD := hide (HAT.out.2 hcs)
                subst hcs
                go_wp2_with fail
                go_quiet (fail)
                go_wp2_with fail
                go_roundw
                case rel => exact ⟨z + 1, by omega, by go_num, HQJ.out.drewN _, fun i hi => by
                  by_cases e : i = (x * n + y) * n + z
                  · rw [e]; exact HGOOD.out
                  · exact HALLJ.out i (by omega)⟩
                case measure => simp [intOf]; omega
              · have hbad : ¬ Rk3 f n ((x * n + y) * n + z) := fun h => hcs (HAT.out.1 h)
                have HTB2 := hide (HT.out.bad HALLJ.out HKL.out hbad)
                have hcz : ¬ (q4 : Int) = q5 := by omega
                clear hbad
                go_wp2_with fail
                go_quiet (fail)
                go_wp2_with fail
                refine bp_gen fun wf hwf => ?_
                have HBF : Below w.heap.size w wf := by rw [hwf]; exact ((HQJ.out.drewN nq).below _).alloc ((HQJ.out.drewN nq).below 0).size _
                have HLF : Hid (Blk wf (wr.drewN nq).heap.size 2 [.int .i64 x, .int .i64 y, .int .i64 z]) := hide (by rw [hwf]; exact Blk.new _ _ _)
                have hlo : w.heap.size ≤ (wr.drewN nq).heap.size := ((HQJ.out.drewN nq).below 0).size
                clear hwf
                go_ret
                exact .inr ⟨by rw [HTB2.out]; exact HKL.out, _, rfl, HBF, hlo, _, HLF.out, fun i hi => by
                  rw [HTB2.out, HTR.out] at hi ⊢
                  simp [lst3] at hi
                  rcases i with _ | _ | _ | i
                  · rfl
                  · rfl
                  · rfl
                  · omega⟩
            · have hzn' : z = n := by omega
              subst hzn'
              go_wp2_with fail
              go_roundw
              case rel => exact ⟨y + 1, by omega, by go_num, HQJ.out, fun i hi => HALLJ.out i (by rw [← Nat.add_assoc, Nat.add_mul _ 1, Nat.one_mul] at hi; exact hi)⟩
              case measure => simp [intOf]; omega
        · have hyn' : y = n := by omega
          subst hyn'
          go_wp2_with fail
          go_roundw
          case rel => exact ⟨x + 1, by omega, by go_num, HQI.out, fun i hi => HALLI.out i (by rw [Nat.add_mul x 1, Nat.one_mul] at hi; exact hi)⟩
          case measure => simp [intOf]; omega
    · have hxn : x = n := by omega
      subst hxn
      go_wp2_with fail
      go_ret
      exact .inl ⟨HT.out.all HALL.out, rfl, HQ.out.below _⟩
end Go.Proofs.Ytaejgmdeiemhcab
namespace Go.Proofs.Ytaejgmdeiemhcab
open Go Go.RowKit
open Classical
/-! Classes numbered by their least elements, and what CongruenceFrom answers. -/
/-- The classes among the first k elements, each at its first one. -/
noncomputable def firstsL (L : List Int) : Nat → List Int
  | 0 => []
  | k + 1 => if lb L k ∈ firstsL L k then firstsL L k else firstsL L k ++ [lb L k]
noncomputable def numTo (L : List Int) (k : Nat) : List Int := (List.range k).map fun (x : Nat) => ixOf (firstsL L (x + 1)) (lb L x)
noncomputable def numL (L : List Int) : List Int := numTo L L.length
theorem numTo_length (L : List Int) (k : Nat) : (numTo L k).length = k := by simp [numTo]
theorem numL_length (L : List Int) : (numL L).length = L.length := numTo_length L _
theorem numTo_succ (L : List Int) (k : Nat) : numTo L (k + 1) = numTo L k ++ [ixOf (firstsL L (k + 1)) (lb L k)] := by simp [numTo, List.range_succ]
/-- The places of the first elements, the same for all ways to write the classes. -/
noncomputable def posL (L : List Int) : Nat → List Nat
  | 0 => []
  | k + 1 => if lb L k ∈ (posL L k).map (lb L) then posL L k else posL L k ++ [k]
theorem firsts_pos (L : List Int) (k : Nat) : firstsL L k = (posL L k).map (lb L) := by
  induction k with
  | zero => rfl
  | succ k ih =>
    unfold firstsL posL
    rw [ih]
    by_cases h : lb L k ∈ (posL L k).map (lb L)
    · rw [if_pos h, if_pos h]
    · rw [if_neg h, if_neg h]; simp
theorem posL_lt (L : List Int) (k : Nat) : ∀ p, p ∈ posL L k → p < k := by
  induction k with
  | zero => intro p hp; simp [posL] at hp
  | succ k ih =>
    intro p hp
    unfold posL at hp
    by_cases h : lb L k ∈ (posL L k).map (lb L)
    · rw [if_pos h] at hp; have := ih p hp; omega
    · rw [if_neg h] at hp
      rcases List.mem_append.1 hp with h1 | h1
      · have := ih p h1; omega
      · simp at h1; omega
theorem posL_same {L L' : List Int} {n : Nat} (h : ∀ a b, a < n → b < n → (lb L a = lb L b ↔ lb L' a = lb L' b)) (k : Nat) (hk : k ≤ n) : posL L k = posL L' k := by
  induction k with
  | zero => rfl
  | succ k ih =>
    have e := ih (by omega)
    unfold posL
    rw [e]
    have hm : lb L k ∈ (posL L' k).map (lb L) ↔ lb L' k ∈ (posL L' k).map (lb L') := by
      simp only [List.mem_map]
      constructor
      · rintro ⟨p, hp, e⟩; have := posL_lt L' k p hp; exact ⟨p, hp, (h p k (by omega) (by omega)).1 e⟩
      · rintro ⟨p, hp, e⟩; have := posL_lt L' k p hp; exact ⟨p, hp, (h p k (by omega) (by omega)).2 e⟩
    by_cases h1 : lb L k ∈ (posL L' k).map (lb L)
    · rw [if_pos h1, if_pos (hm.1 h1)]
    · rw [if_neg h1, if_neg (fun h2 => h1 (hm.2 h2))]
theorem ix_cons (a v : Int) (xs : List Int) : ixOf (a :: xs) v = if a = v then 0 else if ixOf xs v = -1 then -1 else ixOf xs v + 1 := by
  by_cases e : a = v
  · subst e
    rw [if_pos rfl]
    unfold ixOf
    simp
  · rw [if_neg e]
    unfold ixOf
    by_cases hm : v ∈ xs
    · rw [if_pos hm, if_pos (List.mem_cons_of_mem _ hm), if_neg (by omega), List.idxOf_cons, show (a == v) = false by simpa using e]
      simp
    · rw [if_neg hm, if_neg (by simp [hm]; exact fun h => e h.symm), if_pos rfl]
theorem ix_map {g g' : Nat → Int} {x : Nat} (ps : List Nat) (h : ∀ p, p ∈ ps → (g p = g x ↔ g' p = g' x)) : ixOf (ps.map g) (g x) = ixOf (ps.map g') (g' x) := by
  induction ps with
  | nil => simp [ixOf]
  | cons p ps ih =>
    have h1 := h p (by simp)
    rw [List.map_cons, List.map_cons, ix_cons, ix_cons, ih fun q hq => h q (List.mem_cons_of_mem _ hq)]
    by_cases e : g p = g x
    · rw [if_pos e, if_pos (h1.1 e)]
    · rw [if_neg e, if_neg fun e2 => e (h1.2 e2)]
theorem numL_same {L L' : List Int} {n : Nat} (hl : L.length = n) (hl' : L'.length = n) (h : ∀ a b, a < n → b < n → (lb L a = lb L b ↔ lb L' a = lb L' b)) : numL L = numL L' := by
  unfold numL numTo
  rw [hl, hl']
  apply List.map_congr_left
  intro x hx
  have hx' : x < n := List.mem_range.1 hx
  rw [firsts_pos, firsts_pos, posL_same h (x + 1) (by omega)]
  exact ix_map _ fun p hp => h p x (by have := posL_lt L' (x + 1) p hp; omega) hx'
/-- The class of an element, written by one of its elements. -/
noncomputable def cgRep (f : List (List Int)) (n x y a : Nat) : Nat := Classical.epsilon fun b => CgE f n x y a b
theorem cgRep_in (f : List (List Int)) (n x y a : Nat) : CgE f n x y a (cgRep f n x y a) := Classical.epsilon_spec (p := fun b => CgE f n x y a b) ⟨a, .refl a⟩
theorem cgRep_eq {f : List (List Int)} {n x y a b : Nat} : cgRep f n x y a = cgRep f n x y b ↔ CgE f n x y a b := by
  constructor
  · intro e
    have h := cgRep_in f n x y b
    rw [← e] at h
    exact (cgRep_in f n x y a).trans h.symm
  · intro e
    unfold cgRep
    have : (fun c => CgE f n x y a c) = fun c => CgE f n x y b c := funext fun c => propext ⟨fun h => e.symm.trans h, fun h => e.trans h⟩
    rw [this]
/-- The classes of the least congruence. -/
noncomputable def cgC (f : List (List Int)) (n x y : Nat) : List Int := (List.range n).map fun (a : Nat) => ((cgRep f n x y a : Nat) : Int)
theorem cgC_at (f : List (List Int)) (n x y : Nat) {a : Nat} (h : a < n) : lb (cgC f n x y) a = ((cgRep f n x y a : Nat) : Int) := by simp [lb, cgC, h]
theorem cgC_eq {f : List (List Int)} {n x y a b : Nat} (ha : a < n) (hb : b < n) : lb (cgC f n x y) a = lb (cgC f n x y) b ↔ CgE f n x y a b := by
  rw [cgC_at f n x y ha, cgC_at f n x y hb, ← cgRep_eq (f := f) (n := n) (x := x) (y := y) (a := a) (b := b)]
  omega
theorem cgC_length (f : List (List Int)) (n x y : Nat) : (cgC f n x y).length = n := by simp [cgC]
/-- The least congruence with x and y in one class, as a list. -/
noncomputable def cfL (f : List (List Int)) (x y : Nat) : List Int := numL (cgC f f.length x y)
theorem cfL_length (f : List (List Int)) (x y : Nat) : (cfL f x y).length = f.length := by unfold cfL; rw [numL_length, cgC_length]
/-- What the search leaves, numbered, is it. -/
theorem CgS.num {f : List (List Int)} {n x y : Nat} {L : List Int} (hn : f.length = n) (h : CgS f n x y L []) (hx : x < n) (hy : y < n) (hap : ∀ a b, a < n → b < n → ap f a b < n) : numL L = cfL f x y := by
  subst hn
  exact numL_same h.len (cgC_length _ _ _ _) fun a b ha hb => (h.done hx hy hap a b ha hb).trans (cgC_eq ha hb).symm
def CfRes (f : List (List Int)) (x y : Int) (zs : List Int) (code : Int) : Prop :=
  (Rck f ∧ ((0 ≤ x ∧ x < (f.length : Int)) ∧ (0 ≤ y ∧ y < (f.length : Int))) ∧ zs = cfL f x.toNat y.toNat ∧ code = 0) ∨ (Rck f ∧ ¬ ((0 ≤ x ∧ x < (f.length : Int)) ∧ (0 ≤ y ∧ y < (f.length : Int))) ∧ zs = [] ∧ code = 2) ∨ (¬ Rck f ∧ zs = [] ∧ code = 1)
theorem CfRes.ex (f : List (List Int)) (x y : Int) : ∃ zs code, CfRes f x y zs code ∧ zs.length ≤ 1048576 := by
  by_cases h : Rck f
  · by_cases h2 : (0 ≤ x ∧ x < (f.length : Int)) ∧ (0 ≤ y ∧ y < (f.length : Int))
    · exact ⟨_, _, .inl ⟨h, h2, rfl, rfl⟩, by rw [cfL_length]; have := h.tbl.2.1; omega⟩
    · exact ⟨_, _, .inr (.inl ⟨h, h2, rfl, rfl⟩), by simp⟩
  · exact ⟨_, _, .inr (.inr ⟨h, rfl, rfl⟩), by simp⟩
end Go.Proofs.Ytaejgmdeiemhcab
namespace Go.Proofs.Ytaejgmdeiemhcab
open Go Go.RowKit
set_option maxHeartbeats 4000000
theorem jnInfo : (Try.prog.info? 71).map (fun i => (i.zero, i.size, i.bytes)) = some (some (.agg #[.int .i64 0, .int .i64 0]), 2, 16) := by kernel_rfl
theorem jn_add (g j : Nat) : (⟨g, 0, none⟩ : Addr).add j = ⟨g, j, none⟩ := by
  cases j with
  | zero => rfl
  | succ j => simp [Addr.add]
set_option maxRecDepth 100000 in
theorem joinFrom_any (F : FuncId) (bndF lb' : Array Value) (G : FuncId) (bnd lb2 : Array Value) (n K x y lo hi : Nat) (mp : Nat → Nat → Nat) (St : World → List Int → Prop) (w0 w : World) (L0 : List Int)
    (eg : ∀ args w, (callFunc F args).run Try.prog w = .ok (.enter F args) w) (eg2 : ∀ args w, (callFunc G args).run Try.prog w = .ok (.enter G args) w)
    (hn : n ≤ 12) (hK0 : 1 ≤ K) (hK : K ≤ 64) (hx : x < n) (hy : y < n) (hmp : ∀ i a, i < K → a < n → mp i a < n)
    (hB : Below w0.heap.size w0 w) (hlo : w0.heap.size ≤ lo) (hhi : hi ≤ w.heap.size) (hst : St w L0) (hj0 : JnS mp K n x y L0 [(x, y)])
    (hkeep : ∀ W W' L, St W L → (∀ k, lo ≤ k → k < hi → W'.heap[k]? = W.heap[k]?) → St W' L)
    (hjf : JoinFn Try.prog F bndF lb' n lo hi St) (hff : FolFn Try.prog G bnd lb2 n K mp w0) :
    Calls Try.prog 84 #[.agg #[.int .i64 (x : Int), .int .i64 (y : Int)], .func (.func F) bndF lb', .func (.func G) bnd lb2] w fun e w' => e = .returned (.tuple #[]) ∧ Touch lo hi w w' ∧ ∃ L, St w' L ∧ JnS mp K n x y L [] := by
  obtain ⟨i0, hi', hz0, hz1, hz2⟩ := info_parts jnInfo
  have HB := hide hB
  have HST := hide hst
  have HJ0 := hide hj0
  have HKP := hide hkeep
  have HJF := hide hjf
  have HFF := hide hff
  have heg := hide eg
  have heg2 := hide eg2
  have HMP := hide hmp
  clear hB hst hj0 hkeep hjf hff eg eg2 hmp
  have hbox : Below w.heap.size w (w.alloc (.cells #[.int .i64 (x : Int), .int .i64 (y : Int)] 71)) := (Below.refl _ _).alloc (Nat.le_refl _) _
  have HK0 := hide (Blk.new w 71 [.int .i64 (x : Int), .int .i64 (y : Int)])
  have k0 := HK0.out.cell 0 _ rfl
  have k1 := HK0.out.cell 1 _ rfl
  go_enter Try.func84, Try.ntmps84
  go_wp2_with fail
  clear k0 k1
  have HS0 : Hid ((((w.alloc (.cells #[.int .i64 (x : Int), .int .i64 (y : Int)] 71)).alloc (.cells #[.int .i64 (x : Int), .int .i64 (y : Int)] 71))).ownsRow w.heap.size 71 2 (.slice (some ⟨w.heap.size + 1, 0, none⟩) 1 1) 1 (flatP [(x, y)])) := hide ⟨rfl, .inr ⟨w.heap.size + 1, 1, #[.int .i64 (x : Int), .int .i64 (y : Int)], rfl, by omega, by have h := heap_alloc_new (w.alloc (.cells #[.int .i64 (x : Int), .int .i64 (y : Int)] 71)) (.cells #[.int .i64 (x : Int), .int .i64 (y : Int)] 71); simpa using h, Nat.le_refl _, by unfold maxLen; omega, rfl, rfl⟩⟩
  have HT0 : Hid (Touch lo hi w ((w.alloc (.cells #[.int .i64 (x : Int), .int .i64 (y : Int)] 71)).alloc (.cells #[.int .i64 (x : Int), .int .i64 (y : Int)] 71))) := hide (touch_of_below (hbox.alloc (by simp) _))
  obtain ⟨wst, hws⟩ : ∃ wst, wst = ((w.alloc (.cells #[.int .i64 (x : Int), .int .i64 (y : Int)] 71)).alloc (.cells #[.int .i64 (x : Int), .int .i64 (y : Int)] 71)) := ⟨_, rfl⟩
  rw [← hws] at HS0 HT0 ⊢
  have HSS : Hid (St wst L0) := hide (HKP.out w wst L0 HST.out (fun k _ hk => by rw [hws]; exact (hbox.alloc (by simp) _).block k (by omega)))
  clear hbox HK0 hws HST
  go_loopg [6] (1 + cgCnt n L0 * (K + 1)) (fun r v wr => ∃ (L : List Int) (P : List (Nat × Nat)), r = P.length + cgCnt n L * (K + 1) ∧ Touch lo hi w wr ∧ wr.ownsRow w.heap.size 71 2 v P.length (flatP P) ∧ St wr L ∧ JnS mp K n x y L P)
  case atStart => exact ⟨L0, [(x, y)], rfl, HT0.out, HS0.out, HSS.out, HJ0.out⟩
  case round =>
    clear HT0 HS0 HSS HJ0
    obtain ⟨L, P, rfl, ht, hown, hst, hjs⟩ := hrel
    have HT := hide ht
    have HS := hide hst
    have HJ := hide hjs
    clear ht hst hjs
    by_cases hpl : P.length = 0
    · have hP0 : P = [] := List.eq_nil_of_length_eq_zero hpl
      subst hP0
      have hv : ∃ A c, u6 = Value.slice A 0 c := by
        rcases hown.2 with ⟨hv, _⟩ | ⟨g, cap, cur, hv, _⟩
        · exact ⟨_, _, hv⟩
        · exact ⟨_, _, hv⟩
      obtain ⟨A, c, hv⟩ := hv
      subst hv
      go_wp2_with fail
      go_end0
      exact ⟨rfl, HT.out, L, HS.out, HJ.out⟩
    · obtain ⟨front, q, hPq⟩ : ∃ front q, P = front ++ [q] := ⟨P.dropLast, P.getLast (fun e => hpl (by rw [e]; rfl)), (List.dropLast_concat_getLast _).symm⟩
      subst hPq
      obtain ⟨m, hm⟩ : ∃ m, front.length = m := ⟨_, rfl⟩
      have hlen : (front ++ [q]).length = m + 1 := by simp [hm]
      rw [hlen] at hown
      have hv : ∃ A c, u6 = Value.slice A (m + 1) c := by
        rcases hown.2 with ⟨_, h0⟩ | ⟨g, cap, cur, hv, _⟩
        · exact absurd h0 (by omega)
        · exact ⟨_, _, hv⟩
      obtain ⟨A, c, hv⟩ := hv
      subst hv
      obtain ⟨g, rfl, hgB, hgl, hmc, hcells⟩ := own_cell2 hown
      have hlast := flatP_last front q
      rw [hm] at hlast
      have c0 := hcells _ _ hlast.1
      have c1 := hcells _ _ hlast.2
      have hfront := own_front2 hown
      have hff2 := flatP_front front q
      rw [hm] at hff2
      rw [hff2] at hfront
      have HF := hide hfront
      have hqn := HJ.out.s.inn q (by simp)
      have hqa := hqn.1
      have hqb := hqn.2
      obtain ⟨qa, qb⟩ := q
      have HM := hide hm
      have hsz := HJ.out.sz
      rw [hlen] at hsz
      have hnk : n * K ≤ 12 * 64 := Nat.mul_le_mul hn hK
      have hm4 : m ≤ 4096 := by omega
      obtain ⟨N, hNe⟩ : ∃ N, N = m + 1 := ⟨_, rfl⟩
      rw [← hNe]
      have hNz : (N : Int) - 1 = (m : Int) := by omega
      have hNp : (0 : Int) < (N : Int) := by omega
      have hmN : (m : Int) < (N : Int) := by omega
      have hmcz : (m : Int) ≤ (c : Int) := by omega
      have hm0 : (0 : Int) ≤ (m : Int) := by omega
      have hdec : decide (0 < N) = true := by simp; omega
      clear hown hpl hcells hlast hfront hff2 hm hlen hqn hsz hnk
      go_upto_region 5 with fail
      refine wp_gen fun w2 hw2 => ?_
      obtain ⟨b, hb⟩ : ∃ b, wr.heap.size = b := ⟨_, rfl⟩
      have hb2 : Below wr.heap.size wr w2 := by rw [hw2]; exact (Below.refl _ _).alloc (Nat.le_refl _) _
      have hwb : w.heap.size ≤ b := by rw [← hb]; exact HT.out.size
      have HT2 := hide (HT.out.trans (touch_of_below hb2))
      have HF2 := hide (ownsRow_below2 HF.out hb2)
      have HK2 : Hid (Blk w2 b 71 [.int .i64 (qa : Int), .int .i64 (qb : Int)]) := hide (by rw [hw2, ← hb]; exact Blk.new _ _ _)
      have HS2 : Hid (St w2 L) := hide (HKP.out wr w2 L HS.out (fun k _ hk => hb2.block k (by omega)))
      have hs2 : hi ≤ w2.heap.size := by have := hb2.size; omega
      rw [hb]
      clear hw2 hb2 c0 c1 hNz hNp hmN hmcz hm0 hdec hb
      have k0 := HK2.out.cell 0 _ rfl
      have k1 := HK2.out.cell 1 _ rfl
      have hegF := fun args => heg.out args
      by_cases hab : lb L qa = lb L qb
      · have HAB := hide hab
        clear hab
        go_wp2_with (go_at_fn F; go_must (refine calls_gen fun wc hwc => ?_; (first | have hbx := drew_below hwc | have hbx := eq_below hwc); have HTc := hide (HT2.out.trans (touch_of_below hbx)); have HFc := hide (ownsRow_below2 HF2.out hbx); have HKc := hide (HK2.out.later hbx); have HSc := hide (HKP.out w2 wc L HS2.out (fun k _ hk => hbx.block k (by omega))); have hsc : hi ≤ wc.heap.size := Nat.le_trans hs2 hbx.size; clear hwc hbx; refine (HJF.out wc L qa qb hqa hqb HJ.out.s.len HSc.out hsc).mono ?_; rintro e w3 ⟨r, rfl, ht3, hres⟩; have hrf : r = false := hres.elim (fun h => h.1) (fun h => absurd HAB.out h.2.1); subst hrf; have HS3 : Hid (St w3 L) := hide (hres.elim (fun h => h.2.2) (fun h => by cases h.1)); have HT4 := hide ht3; clear ht3 hres))
        have HT3 := hide (HTc.out.trans HT4.out)
        have HF3 := hide (ownsRow_touch HFc.out HT4.out hhi)
        go_roundg (front.length + cgCnt n L * (K + 1))
        case measure => simp
        case rel => exact ⟨L, front, rfl, HT3.out, by rw [HM.out]; exact HF3.out, HS3.out, HJ.out.skip HAB.out⟩
      · have HAB := hide hab
        clear hab
        go_upto_region 6 with (go_at_fn F; go_must (refine calls_gen fun wc hwc => ?_; (first | have hbx := drew_below hwc | have hbx := eq_below hwc); have HTc := hide (HT2.out.trans (touch_of_below hbx)); have HFc := hide (ownsRow_below2 HF2.out hbx); have HKc := hide (HK2.out.later hbx); have HSc := hide (HKP.out w2 wc L HS2.out (fun k _ hk => hbx.block k (by omega))); have hsc : hi ≤ wc.heap.size := Nat.le_trans hs2 hbx.size; clear hwc hbx; refine (HJF.out wc L qa qb hqa hqb HJ.out.s.len HSc.out hsc).mono ?_; rintro e w3 ⟨r, rfl, ht3, hres⟩; have hrt : r = true := hres.elim (fun h => absurd h.2.1 HAB.out) (fun h => h.1); subst hrt; have HR3 : Hid (∃ k l, ((k = lb L qa ∧ l = lb L qb) ∨ (k = lb L qb ∧ l = lb L qa)) ∧ St w3 (joinL L k l)) := hide (hres.elim (fun h => by cases h.1) (fun h => h.2.2)); have HT4 := hide ht3; clear ht3 hres))
        have HT3 := hide (HTc.out.trans HT4.out)
        have HF3 := hide (ownsRow_touch HFc.out HT4.out hhi)
        have HK3 := hide (HKc.out.touch HT4.out (.inr (by omega)))
        have hs3 := HT4.out.size
        have k0 := HK3.out.cell 0 _ rfl
        have k1 := HK3.out.cell 1 _ rfl
        have hegG := fun args => heg2.out args
        have hB3 := HB.out.trans ((show Below w0.heap.size w w3 from Touch.below (Below.refl _ w) HT3.out HB.out.size hlo))
        have HB3 := hide hB3
        have hw0 := HB.out.size
        clear hB3 hegF
        go_wp2_with (first | (go_at_fn G; go_must (refine calls_gen fun wd hwd => ?_; (first | have hbx := drew_below hwd | have hbx := eq_below hwd); have HTd := hide (HT3.out.trans (touch_of_below hbx)); have HFd := hide (ownsRow_below2 HF3.out hbx); have HSd : Hid (∃ k l, ((k = lb L qa ∧ l = lb L qb) ∨ (k = lb L qb ∧ l = lb L qa)) ∧ St wd (joinL L k l)) := hide (by obtain ⟨k, l, h1, h2⟩ := HR3.out; exact ⟨k, l, h1, HKP.out w3 wd _ h2 (fun j _ hj => hbx.block j (by omega))⟩); have hsd : hi ≤ wd.heap.size := Nat.le_trans (Nat.le_trans hsc hs3) hbx.size; have HBd := hide (HB3.out.trans (hbx.mono (by have := HB3.out.size; omega))); clear hwd hbx; refine (HFF.out wd qa qb hqa hqb HBd.out).mono ?_; rintro e w4 ⟨gf, cf, rfl, hb4, hcl⟩; have HT5 := hide (HTd.out.trans (touch_of_below hb4)); have HF5 := hide (ownsRow_below2 HFd.out hb4); have HS5 : Hid (∃ k l, ((k = lb L qa ∧ l = lb L qb) ∨ (k = lb L qb ∧ l = lb L qa)) ∧ St w4 (joinL L k l)) := hide (by obtain ⟨k, l, h1, h2⟩ := HSd.out; exact ⟨k, l, h1, HKP.out wd w4 _ h2 (fun j _ hj => hb4.block j (by omega))⟩); have HCL := hide hcl; have hs5 := hb4.size; clear hb4 hcl)) | (at_builtin; refine wpList_append_own _ rfl _ _ 99 rfl w.heap.size 71 i0 (.agg #[.int .i64 0, .int .i64 0]) 2 16 Try.underlying99 hi' hz0 hz1 hz2 rfl (by decide) _ _ _ rfl HF5.out ⟨gf, 0, none⟩ K cf (flatP (folP mp K qa qb)) rfl ?c1 ?c0 ?c2 ?c3 ?c4 ?c5 ?_))
        case c0 => intro j u hu; rw [jn_add]; exact HCL.out j u hu
        case c1 => rw [flatP_length, folP_length]
        case c2 => exact flatP_one _
        case c3 => unfold maxLen; omega
        case c4 => omega
        case c5 => exact HT5.out.size
        intro v' w6 hown6 hgrow6 _
        have HT6 := hide (touch_grown HT5.out hgrow6 (fun k hk => by
          have e : g = k := by simpa [Value.ownBlock] using hk
          omega))
        have HO6 := hide hown6
        have HG6 := hide hgrow6
        obtain ⟨k, l, hkl, hst6⟩ := HS5.out
        have hst7 := HKP.out w4 w6 _ hst6 (fun j _ hj => hgrow6.block j (by omega) (fun e => by
          have e2 : g = j := by simpa [Value.ownBlock] using e.symm
          omega))
        have HS7 := hide hst7
        have HJ7 := hide (HJ.out.join hx hy HMP.out HAB.out hkl)
        have hml := HJ7.out.2
        clear hown6 hgrow6 hst6 hst7 HS5 k0 k1
        go_wp2_with fail
        go_roundg ((front ++ folP mp K qa qb).length + cgCnt n (joinL L k l) * (K + 1))
        case measure => have e : (front ++ [(qa, qb)]).length = front.length + 1 := by simp
                        omega
        case rel => exact ⟨joinL L k l, front ++ folP mp K qa qb, rfl, HT6.out, by rw [List.length_append, HM.out, folP_length, flatP_app]; exact HO6.out, HS7.out, HJ7.out.1⟩
end Go.Proofs.Ytaejgmdeiemhcab
