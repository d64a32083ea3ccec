import Derived.Test.YtkflmhmbkilmpacGrF
import Derived.Test.YtkflmhmbkilmpacProg
import Derived.Test.YtkflmhmbkilmpacBlk
import Derived.Test.YtkflmhmbkilmpacRkF
import Derived.Test.YtkflmhmbkilmpacNe
import Derived.Test.YtkflmhmbkilmpacBtF
import Derived.Test.YtkflmhmbkilmpacMem
import Derived.Test.YtkflmhmbkilmpacElF
import Derived.Test.YtkflmhmbkilmpacHeld
import Derived.Test.YtkflmhmbkilmpacObj
import Derived.Test.YtkflmhmbkilmpacReads
import Derived.Test.YtkflmhmbkilmpacPig
namespace Go.Proofs.Ytkflmhmbkilmpac
open Go Go.RowKit
set_option maxHeartbeats 2000000

set_option maxRecDepth 100000 in
theorem l04Closed_any (A : Option Addr) (n c : Nat) (f : List (List Int)) (S : Nat) (r : Bool) (w : World) (hn : f.length = n) (ht : Tbl f) (hr : Rd2 w A f) (hS : S < 2 ^ n) (hres : r = true ↔ ClosedF f S) :
    Calls Try.prog 57 #[.slice A n c, .int .i64 S] w fun e w' => e = .returned (.bool r) ∧ Below w.heap.size w w' := by
  have h1 : 1 ≤ n := by rw [← hn]; exact ht.1
  have h12 : n ≤ 12 := by rw [← hn]; exact ht.2.1
  have hS12 : S < 4096 := Nat.lt_of_lt_of_le hS (pow_le n h12)
  obtain ⟨bt, ot, hA, hbt, hct⟩ := ht.cells hr hn
  subst hA
  have HT := hide hct
  have HN := hide hn
  have HTB := hide ht
  have HRES := hide hres
  have HS := hide hS
  clear hn ht hr hct hres hS
  go_enter Try.func57, Try.ntmps57
  go_wp2_with fail
  go_loopw [5] (fun i wr => ∃ x : Nat, x ≤ n ∧ i = .int .i64 x ∧ Below w.heap.size w wr ∧ ∀ x', x' < x → ∀ y', y' < n → inb S x' → inb S y' → inb S (ap f x' y')) (fun i _ => n - (intOf i).toNat)
  case atStart => exact ⟨0, Nat.zero_le _, rfl, Below.refl _ _, fun i hi => absurd hi (Nat.not_lt_zero _)⟩
  case round =>
    obtain ⟨x, hxn', rfl, hbe, hall⟩ := hrel
    have HX := hide hbe
    have HALLX := hide hall
    clear hbe hall
    by_cases hltx : x < n
    · have hxz : (x : Int) < n := by omega
      go_wp2_with fail
      go_loopw [6] (fun i wr => ∃ y : Nat, y ≤ n ∧ i = .int .i64 y ∧ Below w.heap.size w wr ∧ ∀ y', y' < y → inb S x → inb S y' → inb S (ap f x y')) (fun i _ => n - (intOf i).toNat)
      case atStart => exact ⟨0, Nat.zero_le _, rfl, HX.out, fun i hi => absurd hi (Nat.not_lt_zero _)⟩
      case round =>
        obtain ⟨y, hyn', rfl, hbe, hall⟩ := hrel
        have HY := hide hbe
        have HALLY := hide hall
        clear hbe hall
        by_cases hlty : y < n
        · have hyz : (y : Int) < n := by omega
          by_cases ix : inb S x
          · have b1 := bt_in (by omega) ix
            by_cases iy : inb S y
            · have b2 := bt_in (by omega) iy
              have hv := HTB.out.ap_lt HN.out hltx hlty
              obtain ⟨bx, ox, cx, rx, lx, gx⟩ := HT.out x hltx
              have t1 := gx y hlty
              obtain ⟨v, hve⟩ : ∃ v, ap f x y = v := ⟨_, rfl⟩
              rw [hve] at t1 hv
              replace rx := (HY.out.cell (p := ⟨bt, ot + x, none⟩) hbt).trans rx
              replace t1 := (HY.out.cell (p := ⟨bx, ox + y, none⟩) lx).trans t1
              have HU := hide hve
              have HIX := hide ix
              have HIY := hide iy
              clear gx hve ix iy
              by_cases iv : inb S v
              · have b3 := bt_in (by omega) iv
                have HIV := hide iv
                clear iv
                go_wp2_with fail
                go_roundw
                case rel => exact ⟨y + 1, by omega, by go_num, HY.out, fun i hi => by
                  by_cases e : i = y
                  · rw [e]; exact fun _ _ => by rw [HU.out]; exact HIV.out
                  · exact HALLY.out i (by omega)⟩
                case measure => simp [intOf]; omega
              · have b3 := bt_out (by omega) iv
                have hrf : r = false := by
                  cases r
                  · rfl
                  · exact absurd (by have h := HRES.out.1 rfl x y HIX.out HIY.out; rw [HU.out] at h; exact h) iv
                subst hrf
                clear iv
                go_wp2_with fail
                go_ret
                exact ⟨rfl, HY.out⟩
            · have b2 := bt_out (by omega) iy
              have HIY := hide iy
              clear iy ix
              go_wp2_with fail
              go_roundw
              case rel => exact ⟨y + 1, by omega, by go_num, HY.out, fun i hi => by
                by_cases e : i = y
                · rw [e]; exact fun _ h => absurd h HIY.out
                · exact HALLY.out i (by omega)⟩
              case measure => simp [intOf]; omega
          · have b1 := bt_out (by omega) ix
            have HIX := hide ix
            clear ix
            go_wp2_with fail
            go_roundw
            case rel => exact ⟨y + 1, by omega, by go_num, HY.out, fun i hi => fun h => absurd h HIX.out⟩
            case measure => simp [intOf]; omega
        · have hye : y = n := by omega
          subst hye
          go_wp2_with fail
          go_roundw
          case rel => exact ⟨x + 1, by omega, by go_num, HY.out, fun i hi => by
            by_cases e : i = x
            · rw [e]; exact HALLY.out
            · exact HALLX.out i (by omega)⟩
          case measure => simp [intOf]; omega
    · have hxe : x = n := by omega
      subst hxe
      have hrt : r = true := HRES.out.2 (fun a b ha hb => HALLX.out a (inb_lt HS.out ha) b (inb_lt HS.out hb) ha hb)
      subst hrt
      go_wp2_with fail
      go_ret
      exact ⟨rfl, HX.out⟩
end Go.Proofs.Ytkflmhmbkilmpac
namespace Go.Proofs.Ytkflmhmbkilmpac
open Go Go.RowKit
set_option maxHeartbeats 1000000

set_option maxRecDepth 100000 in
theorem l04Members_any (n S : Nat) (w : World) (hn : n ≤ 12) (hS : S < 4096) :
    Calls Try.prog 58 #[.int .i64 n, .int .i64 S] w fun e w' => ∃ A c, e = .returned (.slice A (mems n S).length c) ∧ Below w.heap.size w w' ∧ Res 2 w.heap.size w' A (memL n S) := by
  obtain ⟨i0, hi, hz0, hz1, hz2⟩ := info_parts neInfo
  go_enter Try.func58, Try.ntmps58
  go_wp2_with fail
  go_loopw [5, 6] (fun v i wr => ∃ k : Nat, k ≤ n ∧ i = .int .i64 k ∧ Below w.heap.size w wr ∧ wr.ownsRow w.heap.size 2 1 v (mems k S).length (ints (memL k S)) ∧ w.heap.size ≤ wr.heap.size) (fun _ i _ => n - (intOf i).toNat)
  case atStart => exact ⟨0, Nat.zero_le _, rfl, (Below.refl _ _).alloc (Nat.le_refl _) _, by simpa [ints, memL, mems] using ne_empty w _, by simp⟩
  case round =>
    obtain ⟨k, hk, rfl, hbe, hown, hsz⟩ := hrel
    have HB := hide hbe
    have HO := hide hown
    clear hbe hown
    by_cases hlt : k < n
    · have hkz : (k : Int) < n := by omega
      have hml := mems_length k S
      obtain ⟨l, hl⟩ : ∃ l, (mems k S).length = l := ⟨_, rfl⟩
      rw [hl] at hml HO
      have HL := hide hl
      clear hl
      by_cases hin : inb S k
      · have f2 := bt_in (by omega) hin
        have HIN := hide hin
        clear hin
        go_wp2_with (at_builtin; refine wpList_append_own _ rfl _ _ 33 rfl w.heap.size 2 i0 (.int .i64 0) 1 8 Try.underlying33 hi hz0 hz1 hz2 rfl (by decide) _ _ _ rfl (HO.out.alloc _) ⟨wr.heap.size, 0, none⟩ 1 1 [.int .i64 (k : Int)] rfl rfl ?a1 ?a2 ?a3 ?a4 ?a5 ?_)
        try (case a1 => exact ne_new)
        try (case a2 => first | rfl | (intro u hu; simp at hu; subst hu; rfl))
        try (case a3 => first | omega | (unfold maxLen; omega))
        try (case a4 => omega)
        try (case a5 => first | omega | (simp; omega))
        intro v' w1 hown' hgrow _
        have HO' := hide hown'
        have HG := hide hgrow
        clear hown' hgrow
        go_wp2_with fail
        go_roundw
        case rel =>
          have hB1 : Below w.heap.size w w1 := (HB.out.alloc hsz _).grown HG.out (by simp; omega) (fun g hg => (HO.out.alloc (.cells #[.int .i64 (k : Int)] 2)).lt g hg |>.1)
          refine ⟨k + 1, by omega, by go_num, hB1, ?_, by have := hB1.size; omega⟩
          rw [memL_succ, if_pos HIN.out, mems_succ, if_pos HIN.out, List.length_append, HL.out]
          exact HO'.out
        case measure => simp [intOf]; omega
      · have f2 := bt_out (by omega) hin
        have HIN := hide hin
        clear hin
        go_wp2_with fail
        go_roundw
        case rel =>
          refine ⟨k + 1, by omega, by go_num, HB.out, ?_, hsz⟩
          rw [memL_succ, if_neg HIN.out, mems_succ, if_neg HIN.out, HL.out]
          exact HO.out
        case measure => simp [intOf]; omega
    · have hkn : k = n := by omega
      subst hkn
      go_wp2_with fail
      have h := HO.out
      go_ret
      obtain ⟨A', c', hv, hres⟩ := own_shape h
      exact ⟨A', c', by rw [← hv]; rfl, HB.out, hres⟩
end Go.Proofs.Ytkflmhmbkilmpac
namespace Go.Proofs.Ytkflmhmbkilmpac
open Go Go.RowKit
set_option maxHeartbeats 400000

theorem in_any (x lo hi : Int) (r : Bool) (w : World) (hr : r = true ↔ lo ≤ x ∧ x ≤ hi) :
    Calls Try.prog 86 #[.int .i64 x, .int .i64 lo, .int .i64 hi] w fun e w' => e = .returned (.bool r) ∧ Quiet w w' := by
  have HR := hide hr
  clear hr
  by_cases h1 : lo ≤ x
  · by_cases h2 : x ≤ hi
    · have : r = true := HR.out.2 ⟨h1, h2⟩
      subst this
      go_enter Try.func86, Try.ntmps86
      go_wp2_with fail
      go_ret
      exact ⟨rfl, Quiet.refl _⟩
    · have : r = false := by
        cases r
        · rfl
        · exact absurd (HR.out.1 rfl).2 h2
      subst this
      have h2' : decide (x ≤ hi) = false := by simpa using h2
      clear h2
      go_enter Try.func86, Try.ntmps86
      go_wp2_with fail
      go_ret
      exact ⟨rfl, Quiet.refl _⟩
  · have : r = false := by
      cases r
      · rfl
      · exact absurd (HR.out.1 rfl).1 h1
    subst this
    have h1' : decide (lo ≤ x) = false := by simpa using h1
    clear h1
    go_enter Try.func86, Try.ntmps86
    go_wp2_with fail
    go_ret
    exact ⟨rfl, Quiet.refl _⟩
end Go.Proofs.Ytkflmhmbkilmpac
namespace Go.Proofs.Ytkflmhmbkilmpac
open Go Go.RowKit
set_option maxHeartbeats 1000000

set_option maxRecDepth 100000 in
theorem l04Elements_any (n : Nat) (B : Option Addr) (m d : Nat) (xs : List Int) (r : Bool) (w : World) (hn : n ≤ 1048576) (hm : xs.length = m) (hb : m ≤ 1048576) (hr : Rd w B xs) (hres : r = true ↔ Els n xs) :
    Calls Try.prog 56 #[.int .i64 n, .slice B m d] w fun e w' => e = .returned (.bool r) ∧ Below w.heap.size w w' := by
  have HM := hide hm
  have HRES := hide hres
  have HR := hide hr
  clear hm hres hr
  go_enter Try.func56, Try.ntmps56
  go_wp2_with fail
  go_loopw [5] (fun i wr => ∃ k : Nat, k ≤ m ∧ i = .int .i64 k ∧ Below w.heap.size w wr ∧ ∀ j, j < k → 0 ≤ xs.getD j 0 ∧ xs.getD j 0 < (n : Int)) (fun i _ => m - (intOf i).toNat)
  case atStart => exact ⟨0, Nat.zero_le _, rfl, Below.refl _ _, fun j hj => absurd hj (Nat.not_lt_zero _)⟩
  case round =>
    obtain ⟨k, hk, rfl, hbe, hall⟩ := hrel
    have HB := hide hbe
    have HALL := hide hall
    clear hbe hall
    by_cases hlt : k < m
    · obtain ⟨b, o, rfl, hbw, hc⟩ := HR.out (by have := HM.out; omega)
      have hc1 := (HB.out.cell (p := ⟨b, o + k, none⟩) hbw).trans (hc k (by have := HM.out; omega))
      have hltz : (k : Int) < m := by omega
      obtain ⟨x, hx⟩ : ∃ x, xs.getD k 0 = x := ⟨_, rfl⟩
      rw [hx] at hc1
      have HX := hide hx
      clear hx hc
      by_cases h1 : 0 ≤ x ∧ x < (n : Int)
      · have HIN := hide h1
        clear h1
        go_wp2_with fail
        refine (in_any x 0 ((n : Int) - 1) true _ ⟨fun _ => by have := HIN.out; omega, fun _ => rfl⟩).mono ?_
        rintro e w5 ⟨rfl, hq5⟩
        have HB5 := hide (HB.out.trans (hq5.below _))
        clear hq5
        go_wp2_with fail
        go_roundw
        case rel => exact ⟨k + 1, by omega, by go_num, HB5.out, fun j hj => by
          by_cases e : j = k
          · rw [e, HX.out]; exact HIN.out
          · exact HALL.out j (by omega)⟩
        case measure => simp [intOf]; omega
      · have hrf : r = false := by
          cases r
          · rfl
          · exact absurd (by have h := HRES.out.1 rfl k (by have := HM.out; omega); rw [HX.out] at h; exact h) h1
        subst hrf
        have HIN := hide h1
        clear h1
        go_wp2_with fail
        refine (in_any x 0 ((n : Int) - 1) false _ (by simp only [Bool.false_eq_true, false_iff]; have := HIN.out; omega)).mono ?_
        rintro e w5 ⟨rfl, hq5⟩
        have HB5 := hide (HB.out.trans (hq5.below _))
        clear hq5
        go_wp2_with fail
        go_ret
        exact ⟨rfl, HB5.out⟩
    · have hkn : k = m := by omega
      subst hkn
      have hrt : r = true := HRES.out.2 fun i hi => HALL.out i (by have := HM.out; omega)
      subst hrt
      go_wp2_with fail
      go_ret
      exact ⟨rfl, HB.out⟩
end Go.Proofs.Ytkflmhmbkilmpac
namespace Go.Proofs.Ytkflmhmbkilmpac
open Go Go.RowKit
set_option maxHeartbeats 2000000

set_option maxRecDepth 100000 in
theorem faultK_any (A : Option Addr) (n c : Nat) (f : List (List Int)) (T : Nat) (w : World) (hn : f.length = n) (ht : Tbl f) (hr : Rd2 w A f) (hT : FirstK f n T) :
    Calls Try.prog 81 #[.slice A n c] w fun e w' => (T = n * n * n ∧ e = .returned (.slice none 0 0) ∧ Below w.heap.size w w') ∨ (T < n * n * n ∧ ∃ g, e = .returned (.slice (some ⟨g, 0, none⟩) 3 3) ∧ Below w.heap.size w w' ∧ w.heap.size ≤ g ∧ OwnB 2 w' g (lst3 (trip n T))) := by
  have h1 : 1 ≤ n := by rw [← hn]; exact ht.1
  have h12 : n ≤ 12 := by rw [← hn]; exact ht.2.1
  obtain ⟨b, o, rfl, hb, hc⟩ := ht.cells hr hn
  have HC := hide hc
  have HN := hide hn
  have HTB := hide ht
  have HT := hide hT
  clear hn ht hr hT hc
  go_enter Try.func81, Try.ntmps81
  go_wp2_with fail
  go_loopw [4] (fun i wr => ∃ x : Nat, x ≤ n ∧ i = .int .i64 x ∧ Quiet w wr ∧ ∀ i, i < x * n * n → Rk3 f n i) (fun i _ => n - (intOf i).toNat)
  case atStart => exact ⟨0, Nat.zero_le _, rfl, Quiet.refl _, fun i hi => absurd hi (by omega)⟩
  case round =>
    obtain ⟨x, hx, rfl, hq, hall⟩ := hrel
    have HQ := hide hq
    clear hq
    have HALL := hide hall
    clear hall
    by_cases hlt : x < n
    · have hxz : (x : Int) < n := by omega
      go_wp2_with fail
      go_loopw [5] (fun i wi => ∃ y : Nat, y ≤ n ∧ i = .int .i64 y ∧ Quiet w wi ∧ ∀ i, i < (x * n + y) * n → Rk3 f n i) (fun i _ => n - (intOf i).toNat)
      case atStart => exact ⟨0, Nat.zero_le _, rfl, HQ.out, fun i hi => HALL.out i (by rw [Nat.add_zero] at hi; exact hi)⟩
      case round =>
        obtain ⟨y, hy, rfl, hq, halli⟩ := hrel
        have HQI := hide hq
        clear hq
        have HALLI := hide halli
        clear halli
        by_cases hlty : y < n
        · have hyz : (y : Int) < n := by omega
          go_wp2_with fail
          go_loopw [6] (fun i wi => ∃ z : Nat, z ≤ n ∧ i = .int .i64 z ∧ Quiet w wi ∧ ∀ i, i < (x * n + y) * n + z → Rk3 f n i) (fun i _ => n - (intOf i).toNat)
          case atStart => exact ⟨0, Nat.zero_le _, rfl, HQI.out, HALLI.out⟩
          case round =>
            obtain ⟨z, hzn, rfl, hq, hallj⟩ := hrel
            have HQJ := hide hq
            clear hq
            have HALLJ := hide hallj
            clear hallj
            by_cases hltz : z < n
            · have hzz : (z : Int) < n := by omega
              have hq1 := HTB.out.ap_lt HN.out hlty hltz
              have hq2 := HTB.out.ap_lt HN.out hlt hlty
              have hq3 := HTB.out.ap_lt HN.out hlt hltz
              have hat := Rk3.at (f := f) (n := n) (x := x) hlty hltz
              have HTR := hide (trip_of (n := n) (x := x) hlty hltz)
              have HKL := hide (trip_lt (n := n) hlt hlty hltz)
              obtain ⟨q1, h_1⟩ : ∃ u, ap f y z = u := ⟨_, rfl⟩
              obtain ⟨q2, h_2⟩ : ∃ u, ap f x y = u := ⟨_, rfl⟩
              obtain ⟨q3, h_3⟩ : ∃ u, ap f x z = u := ⟨_, rfl⟩
              rw [h_1, h_2, h_3] at hat
              rw [h_1] at hq1
              rw [h_2] at hq2
              rw [h_3] at hq3
              obtain ⟨q4, h_4⟩ : ∃ u, ap f x q1 = u := ⟨_, rfl⟩
              obtain ⟨q5, h_5⟩ : ∃ u, ap f q2 q3 = u := ⟨_, rfl⟩
              rw [h_4, h_5] at hat
              have HAT := hide hat
              obtain ⟨bx, ox, cx, r1, r2, r3⟩ := HC.out x hlt
              obtain ⟨by', oy, cy, s1, s2, s3⟩ := HC.out y hlty
              obtain ⟨bq, oq, cq, t1, t2, t3⟩ := HC.out q2 hq2
              have e1 := s3 z hltz
              rw [h_1] at e1
              have e2 := r3 y hlty
              rw [h_2] at e2
              have e3 := r3 z hltz
              rw [h_3] at e3
              have e4 := r3 q1 hq1
              rw [h_4] at e4
              have e5 := t3 q3 hq3
              rw [h_5] at e5
              have z1 : (q1 : Int) < n := by omega
              have z2 : (q2 : Int) < n := by omega
              have z3 : (q3 : Int) < n := by omega
              have hbl := HQJ.out.below w.heap.size
              replace r1 := (hbl.cell (p := ⟨b, o + x, none⟩) hb).trans r1
              replace s1 := (hbl.cell (p := ⟨b, o + y, none⟩) hb).trans s1
              replace t1 := (hbl.cell (p := ⟨b, o + q2, none⟩) hb).trans t1
              replace e1 := (hbl.cell (p := ⟨by', oy + z, none⟩) s2).trans e1
              replace e2 := (hbl.cell (p := ⟨bx, ox + y, none⟩) r2).trans e2
              replace e3 := (hbl.cell (p := ⟨bx, ox + z, none⟩) r2).trans e3
              replace e4 := (hbl.cell (p := ⟨bx, ox + q1, none⟩) r2).trans e4
              replace e5 := (hbl.cell (p := ⟨bq, oq + q3, none⟩) t2).trans e5
              clear hbl h_1 h_2 h_3 h_4 h_5 hat r3 s3 t3
              by_cases hcs : q4 = q5
              · have HGOOD := hide (HAT.out.2 hcs)
                subst hcs
                go_wp2_with fail
                go_quiet (fail)
                go_wp2_with fail
                go_roundw
                case rel => exact ⟨z + 1, by omega, by go_num, HQJ.out.drewN _, fun i hi => by
                  by_cases e : i = (x * n + y) * n + z
                  · rw [e]; exact HGOOD.out
                  · exact HALLJ.out i (by omega)⟩
                case measure => simp [intOf]; omega
              · have hbad : ¬ Rk3 f n ((x * n + y) * n + z) := fun h => hcs (HAT.out.1 h)
                have HTB2 := hide (HT.out.bad HALLJ.out HKL.out hbad)
                have hcz : ¬ (q4 : Int) = q5 := by omega
                clear hbad
                go_wp2_with fail
                go_quiet (fail)
                go_wp2_with fail
                refine bp_gen fun wf hwf => ?_
                have HBF : Below w.heap.size w wf := by rw [hwf]; exact ((HQJ.out.drewN nq).below _).alloc ((HQJ.out.drewN nq).below 0).size _
                have HLF : Hid (Blk wf (wr.drewN nq).heap.size 2 [.int .i64 x, .int .i64 y, .int .i64 z]) := hide (by rw [hwf]; exact Blk.new _ _ _)
                have hlo : w.heap.size ≤ (wr.drewN nq).heap.size := ((HQJ.out.drewN nq).below 0).size
                clear hwf
                go_ret
                exact .inr ⟨by rw [HTB2.out]; exact HKL.out, _, rfl, HBF, hlo, _, HLF.out, fun i hi => by
                  rw [HTB2.out, HTR.out] at hi ⊢
                  simp [lst3] at hi
                  rcases i with _ | _ | _ | i
                  · rfl
                  · rfl
                  · rfl
                  · omega⟩
            · have hzn' : z = n := by omega
              subst hzn'
              go_wp2_with fail
              go_roundw
              case rel => exact ⟨y + 1, by omega, by go_num, HQJ.out, fun i hi => HALLJ.out i (by rw [← Nat.add_assoc, Nat.add_mul _ 1, Nat.one_mul] at hi; exact hi)⟩
              case measure => simp [intOf]; omega
        · have hyn' : y = n := by omega
          subst hyn'
          go_wp2_with fail
          go_roundw
          case rel => exact ⟨x + 1, by omega, by go_num, HQI.out, fun i hi => HALLI.out i (by rw [Nat.add_mul x 1, Nat.one_mul] at hi; exact hi)⟩
          case measure => simp [intOf]; omega
    · have hxn : x = n := by omega
      subst hxn
      go_wp2_with fail
      go_ret
      exact .inl ⟨HT.out.all HALL.out, rfl, HQ.out.below _⟩
end Go.Proofs.Ytkflmhmbkilmpac
namespace Go.Proofs.Ytkflmhmbkilmpac
open Go Go.RowKit
set_option maxHeartbeats 400000

theorem l01Table_any (A : Option Addr) (n c : Nat) (rows : List (List Int)) (r : Bool) (w : World) (hn : rows.length = n) (hb : n ≤ 9223372036854775807) (hbs : ∀ i, i < rows.length → (rows.getD i []).length ≤ 9223372036854775807) (hr : Rd2 w A rows) (hrr : r = true ↔ Tbl rows) :
    Calls Try.prog 65 #[.slice A n c] w fun e w' => e = .returned (.bool r) ∧ Quiet w w' := by
  have HN := hide hn
  have HR := hide hrr
  clear hn hrr
  by_cases h12 : 1 ≤ n ∧ n ≤ 12
  · obtain ⟨h1, h2⟩ := h12
    have hno : ¬ Tbl rows → r = false := fun h => by
      cases r
      · rfl
      · exact absurd (HR.out.1 rfl) h
    have HNO := hide hno
    clear hno
    go_enter Try.func65, Try.ntmps65
    go_wp2_with (go_at_call 86; refine (in_any _ _ _ true _ (by simp; omega)).mono ?_; rintro e w1 ⟨rfl, hq1⟩)
    have HQ1 := hide hq1
    clear hq1
    go_loopw [4] (fun i wr => ∃ k : Nat, k ≤ n ∧ i = .int .i64 k ∧ Quiet w wr ∧ ∀ i, i < k → RowOk n (rows.getD i [])) (fun i _ => n - (intOf i).toNat)
    case atStart => exact ⟨0, Nat.zero_le _, rfl, HQ1.out, fun i hi => absurd hi (Nat.not_lt_zero _)⟩
    case round =>
      obtain ⟨k, hk, rfl, hq, hall⟩ := hrel
      have HQ := hide hq
      have HALL := hide hall
      clear hq hall
      by_cases hlt : k < n
      · obtain ⟨b, o, rfl, _, hc⟩ := HQ.out.rd2 hr (by have := HN.out; omega)
        obtain ⟨Ak, ck, hcell, hrd⟩ := hc k (by have := HN.out; omega)
        have hbk := hbs k (by have := HN.out; omega)
        obtain ⟨x, hx⟩ : ∃ x, x = rows.getD k [] := ⟨_, rfl⟩
        obtain ⟨m, hm⟩ : ∃ m, x.length = m := ⟨_, rfl⟩
        rw [← hx] at hcell hrd hbk
        rw [hm] at hcell hbk
        have HX := hide hx
        have HM := hide hm
        clear hx hm hc hbs
        have hltz : (k : Int) < n := by omega
        by_cases hmn : m = n
        · subst hmn
          go_wp2_with fail
          obtain ⟨wo, rfl⟩ : ∃ wo : World, wo = wr := ⟨_, rfl⟩
          go_loopw [5] (fun i wi => ∃ j : Nat, j ≤ m ∧ i = .int .i64 j ∧ Quiet wo wi ∧ ∀ i, i < j → 0 ≤ x.getD i 0 ∧ x.getD i 0 < (m : Int)) (fun i _ => m - (intOf i).toNat)
          case atStart => exact ⟨0, Nat.zero_le _, rfl, Quiet.refl _, fun i hi => absurd hi (Nat.not_lt_zero _)⟩
          case round =>
            obtain ⟨j, hj, rfl, hqi, hin⟩ := hrel
            have HIN := hide hin
            have HQI := hide hqi
            clear hin
            by_cases hjm : j < m
            · obtain ⟨b2, o2, rfl, _, hc2⟩ := hqi.rd hrd (by have := HM.out; omega)
              have hcell2 := (hqi.cell ⟨b, o + k, none⟩).trans hcell
              have hv := hc2 j (by have := HM.out; omega)
              obtain ⟨y, hy⟩ : ∃ y, y = x.getD j 0 := ⟨_, rfl⟩
              rw [← hy] at hv
              have HY := hide hy
              clear hy hc2 hqi hcell
              have hjz : (j : Int) < m := by omega
              by_cases hyr : 0 ≤ y ∧ y ≤ (m : Int) - 1
              · have HYR := hide hyr
                clear hyr
                go_wp2_with (go_at_call 86; refine (in_any _ _ _ true _ (by simp [HYR.out.1, HYR.out.2])).mono ?_; rintro e w1 ⟨rfl, hq1⟩)
                go_roundw
                case rel =>
                  refine ⟨j + 1, by omega, by go_num, HQI.out.trans hq1, fun i hi => ?_⟩
                  by_cases e : i = j
                  · subst e; rw [← HY.out]; have := HYR.out; exact ⟨this.1, by omega⟩
                  · exact HIN.out i (by omega)
                case measure => simp [intOf]; omega
              · have HYR := hide hyr
                clear hyr
                go_wp2_with (go_at_call 86; refine (in_any _ _ _ false _ (by simpa using HYR.out)).mono ?_; rintro e w1 ⟨rfl, hq1⟩)
                go_ret
                have : r = false := HNO.out fun h => HYR.out (by
                  have h := (h.2.2 k (by have := HN.out; omega)).2 j (by have := HN.out; omega)
                  rw [← HX.out, ← HY.out, HN.out] at h
                  exact ⟨h.1, by omega⟩)
                exact ⟨by subst this; rfl, HQ.out.trans (HQI.out.trans hq1)⟩
            · have hjm' : j = m := by omega
              subst hjm'
              go_wp2_with fail
              go_roundw
              case rel => 
                refine ⟨k + 1, by omega, by go_num, HQ.out.trans HQI.out, fun i hi => ?_⟩
                by_cases e : i = k
                · subst e; rw [← HX.out]; exact ⟨HM.out, HIN.out⟩
                · exact HALL.out i (by omega)
              case measure => simp [intOf]; omega
        · have hne : ((m : Int) != (n : Int)) = true := by simp; omega
          have HMN := hide hmn
          clear hmn
          go_wp2_with fail
          go_ret
          have : r = false := HNO.out fun h => HMN.out (by
            have h := (h.2.2 k (by have := HN.out; omega)).1
            rw [← HX.out, HM.out, HN.out] at h
            exact h)
          exact ⟨by subst this; rfl, by first | exact HQ.out | exact HQ.out.drewN _⟩
      · have hkn : k = n := by omega
        subst hkn
        go_wp2_with fail
        go_ret
        have : r = true := HR.out.2 ⟨by have := HN.out; omega, by have := HN.out; omega, fun i hi => by
          have h := HALL.out i (by have := HN.out; omega)
          rw [HN.out]
          exact h⟩
        exact ⟨by subst this; rfl, HQ.out⟩
  · have : r = false := by
      cases r
      · rfl
      · have := HR.out.1 rfl
        have h := HN.out
        unfold Tbl at this
        omega
    subst this
    go_enter Try.func65, Try.ntmps65
    go_wp2_with (go_at_call 86; refine (in_any _ _ _ false _ (by simp; omega)).mono ?_; rintro e w1 ⟨rfl, hq1⟩)
    go_ret
    exact ⟨rfl, hq1⟩

end Go.Proofs.Ytkflmhmbkilmpac
namespace Go.Proofs.Ytkflmhmbkilmpac
open Go Go.RowKit
set_option maxHeartbeats 400000

/-- The first index, or -1. -/
def ixOf (xs : List Int) (v : Int) : Int := if v ∈ xs then (xs.idxOf v : Int) else -1

theorem ixOf_at (xs : List Int) (v : Int) (k : Nat) (hk : k < xs.length) (hv : xs.getD k 0 = v) (hno : v ∉ xs.take k) : ixOf xs v = k := by
  have e : xs = xs.take k ++ v :: xs.drop (k + 1) := by
    rw [← hv]
    simp [hk]
  have hm : v ∈ xs := by rw [e]; simp
  unfold ixOf
  rw [if_pos hm]
  rw [e, List.idxOf_append, if_neg hno]
  simp
  omega

theorem ixOf_no (xs : List Int) (v : Int) (hno : v ∉ xs) : ixOf xs v = -1 := by
  unfold ixOf
  rw [if_neg hno]

theorem index_any (A : Option Addr) (n c : Nat) (xs : List Int) (v : Int) (w : World) (hn : xs.length = n) (hb : n ≤ 9223372036854775807) (hr : Rd w A xs) :
    Calls Try.prog 64 #[.slice A n c, .int .i64 v] w fun e w' => e = .returned (.int .i64 (ixOf xs v)) ∧ Quiet w w' := by
  have HN := hide hn
  clear hn
  go_enter Try.func64, Try.ntmps64
  go_wp2_with fail
  go_loopw [5] (fun i wr => ∃ k : Nat, k ≤ n ∧ i = .int .i64 k ∧ Quiet w wr ∧ v ∉ xs.take k) (fun i _ => n - (intOf i).toNat)
  case atStart => exact ⟨0, Nat.zero_le _, rfl, Quiet.refl _, by simp⟩
  case round =>
    obtain ⟨k, hk, rfl, hq, hno⟩ := hrel
    have HNO := hide hno
    have HQ := hide hq
    clear hno hq
    by_cases hlt : k < n
    · obtain ⟨b, o, rfl, hbw, hc⟩ := HQ.out.rd hr (by have := HN.out; omega)
      have hc1 := hc k (by have := HN.out; omega)
      have hl : k < xs.length := by have := HN.out; omega
      have HL := hide hl
      obtain ⟨x, hx⟩ : ∃ x, xs.getD k 0 = x := ⟨_, rfl⟩
      rw [hx] at hc1
      have HX := hide hx
      clear hx hc hl
      have hltz : (k : Int) < n := by omega
      by_cases hxv : x = v
      · have HXV := hide hxv
        have hxb : (x == v) = true := by simpa using hxv
        clear hxv
        go_wp2_with fail
        go_ret
        have e := ixOf_at xs v k HL.out (HX.out.trans HXV.out) HNO.out
        exact ⟨by rw [e]; rfl, HQ.out⟩
      · have HXV := hide hxv
        have hxb : (x == v) = false := by simpa using hxv
        clear hxv
        go_wp2_with fail
        go_roundw
        case rel =>
          refine ⟨k + 1, by omega, by go_num, HQ.out, ?_⟩
          rw [List.take_succ_eq_append_getElem HL.out]
          intro h
          rcases List.mem_append.1 h with h | h
          · exact HNO.out h
          · have := HX.out
            have hl := HL.out
            simp [hl] at this
            simp [this] at h
            exact HXV.out h.symm
        case measure => simp [intOf]; omega
    · have hkn : k = n := by omega
      subst hkn
      go_wp2_with fail
      go_ret
      have h := HNO.out
      rw [List.take_of_length_le (by have := HN.out; omega)] at h
      exact ⟨by rw [ixOf_no xs v h]; rfl, HQ.out⟩

theorem has_any (A : Option Addr) (n c : Nat) (xs : List Int) (v : Int) (r : Bool) (w : World) (hn : xs.length = n) (hb : n ≤ 9223372036854775807) (hr : Rd w A xs) (hrr : r = true ↔ v ∈ xs) :
    Calls Try.prog 92 #[.slice A n c, .int .i64 v] w fun e w' => e = .returned (.bool r) ∧ Quiet w w' := by
  have HN := hide hn
  have HR := hide hrr
  clear hn hrr
  obtain ⟨x, hx⟩ : ∃ x, ixOf xs v = x := ⟨_, rfl⟩
  have hxr : r = decide (0 ≤ x) := by
    unfold ixOf at hx
    cases r
    · have hno : v ∉ xs := fun h => by have := HR.out.2 h; cases this
      rw [if_neg hno] at hx
      subst hx
      rfl
    · have h := HR.out.1 rfl
      rw [if_pos h] at hx
      subst hx
      simp
  have HX := hide hx
  have HXR := hide hxr
  clear hx hxr
  go_enter Try.func92, Try.ntmps92
  go_wp2_with fail
  refine (index_any _ _ _ xs v _ HN.out hb hr).mono ?_
  rintro e w1 ⟨rfl, hq⟩
  rw [HX.out]
  have HQ := hide hq
  clear hq
  go_wp2_with fail
  go_ret
  exact ⟨by rw [HXR.out]; rfl, HQ.out⟩
end Go.Proofs.Ytkflmhmbkilmpac
namespace Go.Proofs.Ytkflmhmbkilmpac
open Go Go.RowKit
set_option maxHeartbeats 400000

theorem l01Perm_any (A : Option Addr) (n c : Nat) (xs : List Int) (r : Bool) (w : World) (hn : xs.length = n) (hb : n ≤ 9223372036854775807) (hr : Rd w A xs) (hrr : r = true ↔ 1 ≤ n ∧ n ≤ 12 ∧ ∀ x : Int, 0 ≤ x → x < (n : Int) → x ∈ xs) :
    Calls Try.prog 80 #[.slice A n c] w fun e w' => e = .returned (.bool r) ∧ Quiet w w' := by
  have HN := hide hn
  have HR := hide hrr
  clear hn hrr
  by_cases h12 : 1 ≤ n ∧ n ≤ 12
  · obtain ⟨h1, h2⟩ := h12
    go_enter Try.func80, Try.ntmps80
    go_wp2_with (go_at_call 86; refine (in_any _ _ _ true _ (by simp; omega)).mono ?_; rintro e w1 ⟨rfl, hq1⟩)
    have HQ1 := hide hq1
    clear hq1
    go_loopw [4] (fun i wr => ∃ k : Nat, k ≤ n ∧ i = .int .i64 k ∧ Quiet w wr ∧ ∀ x : Int, 0 ≤ x → x < (k : Int) → x ∈ xs) (fun i _ => n - (intOf i).toNat)
    case atStart => exact ⟨0, Nat.zero_le _, rfl, HQ1.out, fun x h0 h1 => by omega⟩
    case round =>
      obtain ⟨k, hk, rfl, hq, hall⟩ := hrel
      have HQ := hide hq
      have HALL := hide hall
      clear hq hall
      by_cases hlt : k < n
      · have hltz : (k : Int) < n := by omega
        by_cases hm : (k : Int) ∈ xs
        · have HM := hide hm
          clear hm
          go_wp2_with (go_at_call 92; refine (has_any _ _ _ xs _ true _ HN.out hb (HQ.out.rd hr) (by simp [HM.out])).mono ?_; rintro e w2 ⟨rfl, hq2⟩)
          have HQ2 := hide hq2
          clear hq2
          go_roundw
          case rel =>
            refine ⟨k + 1, by omega, by go_num, HQ.out.trans HQ2.out, fun x h0 h1 => ?_⟩
            by_cases e : x = (k : Int)
            · subst e; exact HM.out
            · exact HALL.out x h0 (by omega)
          case measure => simp [intOf]; omega
        · have HM := hide hm
          clear hm
          go_wp2_with (go_at_call 92; refine (has_any _ _ _ xs _ false _ HN.out hb (HQ.out.rd hr) (by simp [HM.out])).mono ?_; rintro e w2 ⟨rfl, hq2⟩)
          go_ret
          have : r = false := by
            cases r
            · rfl
            · exact absurd ((HR.out.1 rfl).2.2 k (by omega) (by omega)) HM.out
          exact ⟨by subst this; rfl, HQ.out.trans hq2⟩
      · have hkn : k = n := by omega
        subst hkn
        go_wp2_with fail
        go_ret
        have : r = true := HR.out.2 ⟨h1, h2, HALL.out⟩
        exact ⟨by subst this; rfl, HQ.out⟩
  · have : r = false := by
      cases r
      · rfl
      · have := HR.out.1 rfl
        omega
    subst this
    go_enter Try.func80, Try.ntmps80
    go_wp2_with (go_at_call 86; refine (in_any _ _ _ false _ (by simp; omega)).mono ?_; rintro e w1 ⟨rfl, hq1⟩)
    go_ret
    exact ⟨rfl, hq1⟩

theorem prmS_any (A : Option Addr) (n c : Nat) (xs : List Int) (r : Bool) (w : World) (hn : xs.length = n) (hb : n ≤ 9223372036854775807) (hr : Rd w A xs) (hrr : r = true ↔ Prm xs) :
    Calls Try.prog 80 #[.slice A n c] w fun e w' => e = .returned (.bool r) ∧ Quiet w w' :=
  l01Perm_any A n c xs r w hn hb hr (by rw [hrr, prm_iff, hn])
theorem prmS_below (A : Option Addr) (n c : Nat) (xs : List Int) (r : Bool) (w : World) (hn : xs.length = n) (hb : n ≤ 9223372036854775807) (hr : Rd w A xs) (hrr : r = true ↔ Prm xs) :
    Calls Try.prog 80 #[.slice A n c] w fun e w' => e = .returned (.bool r) ∧ Below w.heap.size w w' :=
  (prmS_any A n c xs r w hn hb hr hrr).mono fun _ _ ⟨he, hq⟩ => ⟨he, hq.below _⟩
end Go.Proofs.Ytkflmhmbkilmpac
namespace Go.Proofs.Ytkflmhmbkilmpac
open Go Go.RowKit
set_option maxHeartbeats 2000000

set_option maxRecDepth 100000 in
theorem isRackS (A : Option Addr) (n c : Nat) (f : List (List Int)) (r : Bool) (w : World) (hn : f.length = n) (hb : n ≤ 1048576) (hbs : ∀ i, i < f.length → (f.getD i []).length ≤ 1048576) (hr : Rd2 w A f) (hres : RkRes f r) :
    Calls Try.prog 44 #[.agg #[.slice A n c]] w fun e w' => e = .returned (.bool r) ∧ Below w.heap.size w w' := by
  have HN := hide hn
  have HBS := hide hbs
  have HRD := hide hr
  have HR := hide hres
  have HB0 := hide ((Below.refl _ w).alloc (Nat.le_refl _) (Obj.cells #[Value.slice A n c] 26))
  have HK0 := hide (Blk.new w 26 [.slice A n c])
  by_cases ht : Tbl f
  · have HTB := hide ht
    obtain ⟨T, hT⟩ := FirstK.ex f n
    have HT := hide hT
    clear hn hbs hr hres ht hT
    go_enter Try.func44, Try.ntmps44
    go_wp2_with fail
    refine (l01Table_any _ _ _ f true _ HN.out (by omega) (fun i hi => by have := HBS.out i hi; omega) (HRD.out.later HB0.out) (by simp [HTB.out])).mono ?_
    rintro e w1 ⟨rfl, hq1⟩
    have HB1 := hide (HB0.out.trans (hq1.below _))
    have HK1 := hide (HK0.out.later (hq1.below _))
    clear hq1
    go_wp2_with fail
    go_loopw [3] (fun i wr => ∃ k : Nat, k ≤ n ∧ i = .int .i64 k ∧ Below w.heap.size w wr ∧ Blk wr w.heap.size 26 [.slice A n c] ∧ ∀ i, i < k → Prm (f.getD i [])) (fun i _ => n - (intOf i).toNat)
    case atStart => exact ⟨0, Nat.zero_le _, rfl, HB1.out, HK1.out, fun i hi => absurd hi (Nat.not_lt_zero _)⟩
    case round =>
      obtain ⟨k, hk, rfl, hbe, hkk, hall⟩ := hrel
      have HB := hide hbe
      have HK := hide hkk
      have HALL := hide hall
      clear hbe hkk hall
      have k0 := HK.out.cell 0 _ rfl
      by_cases hlt : k < n
      · obtain ⟨b, o, hA, _, hc⟩ := (HRD.out.later HB.out) (by have := HN.out; omega)
        obtain ⟨Ak, ck, hcell, hrd⟩ := hc k (by have := HN.out; omega)
        have hbk := HBS.out k (by have := HN.out; omega)
        obtain ⟨x, hx⟩ : ∃ x, x = f.getD k [] := ⟨_, rfl⟩
        obtain ⟨m, hm⟩ : ∃ m, x.length = m := ⟨_, rfl⟩
        rw [← hx] at hcell hrd hbk
        rw [hm] at hcell hbk
        have HX := hide hx
        have HM := hide hm
        have hltz : (k : Int) < n := by omega
        clear hx hm hc
        subst hA
        by_cases hp : Prm x
        · have HP := hide hp
          clear hp
          go_wp2_with fail
          clear k0
          refine (prmS_below _ _ _ x true _ HM.out (by omega) hrd (by simp [HP.out])).mono ?_
          rintro e w2 ⟨rfl, hq1⟩
          have HQ1 := hide hq1
          clear hq1
          go_wp2_with fail
          go_roundw
          case rel =>
            refine ⟨k + 1, by omega, by go_num, HB.out.trans (HQ1.out.mono HB.out.size), HK.out.later HQ1.out, fun i hi => ?_⟩
            by_cases e : i = k
            · subst e; rw [← HX.out]; exact HP.out
            · exact HALL.out i (by omega)
          case measure => simp [intOf]; omega
        · have HP := hide hp
          clear hp
          go_wp2_with fail
          clear k0
          refine (prmS_below _ _ _ x false _ HM.out (by omega) hrd (by simp [HP.out])).mono ?_
          rintro e w2 ⟨rfl, hq1⟩
          have HQ1 := hide hq1
          clear hq1
          have hnp : ¬ AllPrm f := fun h => by
            have h := h k (by have := HN.out; omega)
            rw [← HX.out] at h
            exact HP.out h
          have hrf : r = false := by
            cases r
            · rfl
            · have hrr : true = true ↔ Rck f := HR.out
              exact absurd (hrr.1 rfl).prm hnp
          subst hrf
          clear hnp
          go_wp2_with fail
          go_ret
          exact ⟨rfl, HB.out.trans (HQ1.out.mono HB.out.size)⟩
      · have hkn : k = n := by omega
        subst hkn
        have HAP : Hid (AllPrm f) := hide (fun i hi => HALL.out i (by have := HN.out; omega))
        go_wp2_with fail
        clear k0
        refine (faultK_any _ _ _ f T _ HN.out HTB.out (HRD.out.later HB.out) HT.out).mono ?_
        rintro e w3 (⟨hTe, rfl, hb3⟩ | ⟨hTl, g, rfl, hb3, hg, hob⟩)
        · have hrt : r = true := by
            have hrr : r = true ↔ Rck f := HR.out
            rw [hrr]
            refine ⟨⟨HTB.out, HAP.out⟩, ?_⟩
            rw [HN.out]
            exact HT.out.iff.1 hTe
          subst hrt
          have HB3 := hide (HB.out.trans (hb3.mono HB.out.size))
          clear hb3 hTe
          go_wp2_with fail
          go_ret
          exact ⟨rfl, HB3.out⟩
        · have hrf : r = false := by
            cases r
            · rfl
            · have hrr : true = true ↔ Rck f := HR.out
              have h := (hrr.1 rfl).2
              rw [HN.out] at h
              have := HT.out.iff.2 h
              omega
          subst hrf
          have HB3 := hide (HB.out.trans (hb3.mono HB.out.size))
          clear hb3 hTl hob
          go_wp2_with fail
          go_ret
          exact ⟨rfl, HB3.out⟩
  · have HTB := hide ht
    have hrf : r = false := by
      cases r
      · rfl
      · have hrr : true = true ↔ Rck f := HR.out
        exact absurd (hrr.1 rfl).tbl ht
    subst hrf
    clear hn hbs hr hres ht
    go_enter Try.func44, Try.ntmps44
    go_wp2_with fail
    refine (l01Table_any _ _ _ f false _ HN.out (by omega) (fun i hi => by have := HBS.out i hi; omega) (HRD.out.later HB0.out) (by simp [HTB.out])).mono ?_
    rintro e w1 ⟨rfl, hq1⟩
    have HB1 := hide (HB0.out.trans (hq1.below _))
    clear hq1
    go_wp2_with fail
    go_ret
    exact ⟨rfl, HB1.out⟩

end Go.Proofs.Ytkflmhmbkilmpac
namespace Go.Proofs.Ytkflmhmbkilmpac
open Go Go.RowKit
set_option maxHeartbeats 4000000

set_option maxRecDepth 100000 in
theorem sfS_any (A : Option Addr) (n c : Nat) (f : List (List Int)) (B : Option Addr) (m d : Nat) (xs : List Int) (zs : List Int) (code : Int) (k : Nat) (w : World) (hn : f.length = n) (hb : n ≤ 1048576) (hbs : ∀ i, i < f.length → (f.getD i []).length ≤ 1048576) (hr : Rd2 w A f) (hm : xs.length = m) (hbm : m ≤ 1048576) (hx : Rd w B xs) (hres : SfRes f xs zs code) (hk : zs.length = k) :
    Calls Try.prog 21 #[.agg #[.slice A n c], .slice B m d] w (RPost 2 k zs code w) := by
  have HN := hide hn
  have HBS := hide hbs
  have HRD := hide hr
  have HM := hide hm
  have HX := hide hx
  have HB0 := hide ((Below.refl _ w).alloc (Nat.le_refl _) (Obj.cells #[Value.slice A n c] 26))
  have HK0 := hide (Blk.new w 26 [.slice A n c])
  rcases hres with ⟨V, ⟨h1, h2, h3⟩, hl, rfl, rfl⟩ | ⟨h1, rfl, rfl⟩ | ⟨h1, h2, rfl, rfl⟩ | ⟨h1, h2, h3, rfl, rfl⟩
  · have HTB := hide h1.tbl
    have h1n : 1 ≤ n := by rw [← hn]; exact h1.tbl.1
    have h12 : n ≤ 12 := by rw [← hn]; exact h1.tbl.2.1
    have HE : Hid (Els n xs) := hide (by rw [← hn]; exact h2)
    have hm0 : 0 < m := by rw [← hm]; exact Nat.pos_of_ne_zero (fun h => h3 (List.eq_nil_of_length_eq_zero h))
    have hmz : ((m : Int) == 0) = false := by simpa using (by omega : ¬ (m : Int) = 0)
    have HLE : Hid (LeastS f n (sN xs m) V) := hide (by rw [← hn, ← hm]; exact hl)
    have HKK : Hid ((memL n V).length = k) := hide (by rw [← hn]; exact hk)
    have HFL := hide hn
    have HRK : Hid (RkRes f true) := hide (by unfold RkRes; simp [h1])
    clear hn hbs hr hm hx h1 h2 h3 hl hk
    rw [HFL.out]
    go_enter Try.func21, Try.ntmps21
    go_wp2_with fail
    refine (isRackS _ _ _ f true _ HN.out hb HBS.out (HRD.out.later HB0.out) HRK.out).mono ?_
    rintro e w1 ⟨rfl, hb1⟩
    have HB1 := hide (HB0.out.trans (hb1.mono HB0.out.size))
    have HK1 := hide (HK0.out.later hb1)
    clear hb1
    have k0 := HK1.out.cell 0 _ rfl
    go_wp2_with fail
    clear k0
    refine (l04Elements_any n _ _ _ xs true _ hb HM.out hbm (HX.out.later HB1.out) (by simp [HE.out])).mono ?_
    rintro e w2 ⟨rfl, hb2⟩
    have HB2 := hide (HB1.out.trans (hb2.mono HB1.out.size))
    have HK2 := hide (HK1.out.later hb2)
    clear hb2
    have k0 := HK2.out.cell 0 _ rfl
    go_wp2_with fail
    clear k0
    go_loopw [6, 7] (fun s i wr => ∃ k : Nat, k ≤ m ∧ i = .int .i64 k ∧ s = .int .i64 (sN xs k) ∧ Below w.heap.size w wr ∧ Blk wr w.heap.size 26 [.slice A n c]) (fun _ i _ => m - (intOf i).toNat)
    case atStart => exact ⟨0, Nat.zero_le _, rfl, rfl, HB2.out, HK2.out⟩
    case round =>
      obtain ⟨j, hj, rfl, rfl, hbe, hkk⟩ := hrel
      have HB := hide hbe
      have HK := hide hkk
      clear hbe hkk
      have hS : sN xs j < 4096 := Nat.lt_of_lt_of_le (sN_lt HE.out (by have := HM.out; omega)) (pow_le n h12)
      have hs1 : sN xs (j + 1) = sN xs j ||| 2 ^ el xs j := rfl
      obtain ⟨S, hSe⟩ : ∃ S, sN xs j = S := ⟨_, rfl⟩
      rw [hSe] at hS hs1 ⊢
      have HSE := hide hSe
      clear hSe
      by_cases hlt : j < m
      · obtain ⟨b, o, rfl, hbw, hc⟩ := HX.out (by have := HM.out; omega)
        have hv := HE.out.val (i := j) (by have := HM.out; omega)
        have hc1 := (HB.out.cell (p := ⟨b, o + j, none⟩) hbw).trans (hc j (by have := HM.out; omega))
        rw [hv.1] at hc1
        have hv2 := hv.2
        obtain ⟨v, hve⟩ : ∃ v, el xs j = v := ⟨_, rfl⟩
        rw [hve] at hc1 hs1 hv2
        have hltz : (j : Int) < m := by omega
        obtain ⟨p, hp⟩ : ∃ p, 2 ^ v = p := ⟨_, rfl⟩
        have hp12 : p < 4096 := by rw [← hp]; exact Nat.lt_of_lt_of_le (Nat.pow_lt_pow_right (by decide) (by omega : v < 12)) (Nat.le_refl _)
        have g1 : (2 : Int) ^ v = (p : Int) := by rw [← hp]; simp
        have g2 := bt_or S p (by omega) (by omega)
        rw [hp] at hs1
        have hS2 : sN xs (j + 1) < 4096 := Nat.lt_of_lt_of_le (sN_lt HE.out (by have := HM.out; omega)) (pow_le n h12)
        obtain ⟨S2, hS2e⟩ : ∃ S2, S ||| p = S2 := ⟨_, rfl⟩
        rw [hS2e] at hs1 g2
        rw [hs1] at hS2
        have HS1 := hide hs1
        clear hve hp hS2e hs1 hc hv
        go_wp2_with fail
        go_roundw
        case rel => exact ⟨j + 1, by omega, by go_num, by rw [HS1.out], HB.out, HK.out⟩
        case measure => simp [intOf]; omega
      · have hkn : j = m := by omega
        subst hkn
        have hSlt : S < 2 ^ n := by rw [← HSE.out]; exact sN_lt HE.out (by have := HM.out; omega)
        rw [HSE.out] at HLE
        have HLT := hide hSlt
        clear hSlt
        obtain ⟨bt, ot, hA, hbt, hct⟩ := HTB.out.cells HRD.out HN.out
        subst hA
        have HT := hide hct
        clear hct
        go_wp2_with fail
        go_loopw [6] (fun s wr => ∃ T : Nat, s = .int .i64 T ∧ Below w.heap.size w wr ∧ Blk wr w.heap.size 26 [.slice (some ⟨bt, ot, none⟩) n c] ∧ T < 2 ^ n ∧ (∀ x, inb S x → inb T x) ∧ Under f S T) (fun s _ => 4096 - (intOf s).toNat)
        case atStart => exact ⟨S, rfl, HB.out, HK.out, HLT.out, fun x h => h, fun T _ hs => hs⟩
        case round =>
          clear HB HK
          obtain ⟨T, rfl, hbe, hkk, hlt, hup, hun⟩ := hrel
          have HB := hide hbe
          have HK := hide hkk
          have HTL := hide hlt
          have HUP := hide hup
          have HUN := hide hun
          have hT12 : T < 4096 := Nat.lt_of_lt_of_le hlt (pow_le n h12)
          clear hbe hkk hlt hup hun
          have k0 := HK.out.cell 0 _ rfl
          go_wp2_with fail
          clear k0
          by_cases hc : ClosedF f T
          · have HC := hide hc
            clear hc
            refine (l04Closed_any _ n _ f T true _ HN.out HTB.out (HRD.out.later HB.out) HTL.out (by simp only [true_iff]; exact HC.out)).mono ?_
            rintro e w5 ⟨rfl, hb5⟩
            have HB5 := hide (HB.out.trans (hb5.mono HB.out.size))
            have HK5 := hide (HK.out.later hb5)
            clear hb5
            have HVT : Hid (V = T) := hide (HLE.out.uniq ⟨HTL.out, HC.out, HUP.out, HUN.out⟩)
            have k0 := HK5.out.cell 0 _ rfl
            go_wp2_with fail
            clear k0
            refine (l04Members_any n T _ h12 hT12).mono ?_
            rintro e w6 ⟨B6, d6, rfl, hb6, hres6⟩
            have HB6 := hide (HB5.out.trans (hb6.mono HB5.out.size))
            have HR6 := hide (hres6.mono HB5.out.size)
            clear hb6 hres6
            go_wp2_with fail
            go_ret2
            exact ⟨_, _, by rw [← HKK.out, memL_length, HVT.out]; rfl, HB6.out, by rw [HVT.out]; exact HR6.out⟩
          · have HC := hide hc
            clear hc
            refine (l04Closed_any _ n _ f T false _ HN.out HTB.out (HRD.out.later HB.out) HTL.out (by simp only [Bool.false_eq_true, false_iff]; exact HC.out)).mono ?_
            rintro e w5 ⟨rfl, hb5⟩
            have HB5 := hide (HB.out.trans (hb5.mono HB.out.size))
            have HK5 := hide (HK.out.later hb5)
            clear hb5
            go_wp2_with fail
            go_loopw [6, 8] (fun s i wr => ∃ (x M : Nat), x ≤ n ∧ i = .int .i64 x ∧ s = .int .i64 M ∧ Below w.heap.size w wr ∧ Blk wr w.heap.size 26 [.slice (some ⟨bt, ot, none⟩) n c] ∧ M < 2 ^ n ∧ (∀ x, inb T x → inb M x) ∧ Under f S M ∧ ∀ x', x' < x → ∀ y', y' < n → inb T x' → inb T y' → inb M (ap f x' y')) (fun _ i _ => n - (intOf i).toNat)
            case atStart => exact ⟨0, T, Nat.zero_le _, rfl, rfl, HB5.out, HK5.out, HTL.out, fun x h => h, HUN.out, fun i hi => absurd hi (Nat.not_lt_zero _)⟩
            case round =>
              obtain ⟨x, M, hxn', rfl, rfl, hbe, hkk, hml, hmu, hmn, hall⟩ := hrel
              have HBx := hide hbe
              have HKx := hide hkk
              have HML := hide hml
              have HMU := hide hmu
              have HMN := hide hmn
              have HALLX := hide hall
              clear hbe hkk hml hmu hmn hall
              have k0 := HKx.out.cell 0 _ rfl
              by_cases hltx : x < n
              · have hxz : (x : Int) < n := by omega
                go_wp2_with fail
                clear k0
                go_loopw [6, 9] (fun s i wr => ∃ (y M : Nat), y ≤ n ∧ i = .int .i64 y ∧ s = .int .i64 M ∧ Below w.heap.size w wr ∧ Blk wr w.heap.size 26 [.slice (some ⟨bt, ot, none⟩) n c] ∧ M < 2 ^ n ∧ (∀ x, inb T x → inb M x) ∧ Under f S M ∧ (∀ x', x' < x → ∀ y', y' < n → inb T x' → inb T y' → inb M (ap f x' y')) ∧ ∀ y', y' < y → inb T x → inb T y' → inb M (ap f x y')) (fun _ i _ => n - (intOf i).toNat)
                case atStart => exact ⟨0, M, Nat.zero_le _, rfl, rfl, HBx.out, HKx.out, HML.out, HMU.out, HMN.out, HALLX.out, fun i hi => absurd hi (Nat.not_lt_zero _)⟩
                case round =>
                  clear HBx HKx HML HMU HMN HALLX
                  obtain ⟨y, M, hyn', rfl, rfl, hbe, hkk, hml, hmu, hmn, hall, hally⟩ := hrel
                  have HBy := hide hbe
                  have HKy := hide hkk
                  have HML := hide hml
                  have HMU := hide hmu
                  have HMN := hide hmn
                  have HALLX := hide hall
                  have HALLY := hide hally
                  have hM12 : M < 4096 := Nat.lt_of_lt_of_le hml (pow_le n h12)
                  clear hbe hkk hml hmu hmn hall hally
                  have k0 := HKy.out.cell 0 _ rfl
                  by_cases hlty : y < n
                  · have hyz : (y : Int) < n := by omega
                    by_cases ix : inb M x
                    · have b1 := bt_in (by omega) ix
                      by_cases iy : inb M y
                      · have b2 := bt_in (by omega) iy
                        have hv := HTB.out.ap_lt HN.out hltx hlty
                        obtain ⟨bx, ox, cx, rx, lx, gx⟩ := HT.out x hltx
                        have t1 := gx y hlty
                        obtain ⟨v, hve⟩ : ∃ v, ap f x y = v := ⟨_, rfl⟩
                        rw [hve] at t1 hv
                        replace rx := (HBy.out.cell (p := ⟨bt, ot + x, none⟩) hbt).trans rx
                        replace t1 := (HBy.out.cell (p := ⟨bx, ox + y, none⟩) lx).trans t1
                        have HU := hide hve
                        have HUN2 : Hid (Under f S (M ||| 2 ^ v)) := hide (HMN.out.add ix iy hve)
                        have HLT2 : Hid (M ||| 2 ^ v < 2 ^ n) := hide (or_lt HML.out hv)
                        have HIN : Hid (∀ x, inb (M ||| 2 ^ v) x ↔ inb M x ∨ x = v) := hide (fun x => inb_or M v x)
                        obtain ⟨p, hp⟩ : ∃ p, 2 ^ v = p := ⟨_, rfl⟩
                        have hp12 : p < 4096 := by rw [← hp]; exact Nat.lt_of_lt_of_le (Nat.pow_lt_pow_right (by decide) (by omega : v < 12)) (Nat.le_refl _)
                        have g1 : (2 : Int) ^ v = (p : Int) := by rw [← hp]; simp
                        have g2 := bt_or M p (by omega) (by omega)
                        rw [hp] at HUN2 HLT2 HIN
                        obtain ⟨M2, hM2⟩ : ∃ M2, M ||| p = M2 := ⟨_, rfl⟩
                        rw [hM2] at HUN2 HLT2 HIN g2
                        have hM212 : M2 < 4096 := Nat.lt_of_lt_of_le HLT2.out (pow_le n h12)
                        clear gx hve ix iy hp hM2
                        go_wp2_with fail
                        go_roundw
                        case rel => exact ⟨y + 1, M2, by omega, by go_num, rfl, HBy.out, HKy.out, HLT2.out, fun x h => (HIN.out x).2 (.inl (HMU.out x h)), HUN2.out, fun x' hx' y' hy' h1 h2 => (HIN.out _).2 (.inl (HALLX.out x' hx' y' hy' h1 h2)), fun y' hy' h1 h2 => by
                          by_cases e : y' = y
                          · rw [e, HU.out]; exact (HIN.out v).2 (.inr rfl)
                          · exact (HIN.out _).2 (.inl (HALLY.out y' (by omega) h1 h2))⟩
                        case measure => simp [intOf]; omega
                      · have b2 := bt_out (by omega) iy
                        have HIY := hide iy
                        clear iy ix
                        go_wp2_with fail
                        go_roundw
                        case rel => exact ⟨y + 1, M, by omega, by go_num, rfl, HBy.out, HKy.out, HML.out, HMU.out, HMN.out, HALLX.out, fun y' hy' h1 h2 => by
                          by_cases e : y' = y
                          · exact absurd (HMU.out y (e ▸ h2)) HIY.out
                          · exact HALLY.out y' (by omega) h1 h2⟩
                        case measure => simp [intOf]; omega
                    · have b1 := bt_out (by omega) ix
                      have HIX := hide ix
                      clear ix
                      go_wp2_with fail
                      go_roundw
                      case rel => exact ⟨y + 1, M, by omega, by go_num, rfl, HBy.out, HKy.out, HML.out, HMU.out, HMN.out, HALLX.out, fun y' hy' h1 h2 => absurd (HMU.out x h1) HIX.out⟩
                      case measure => simp [intOf]; omega
                  · have hye : y = n := by omega
                    subst hye
                    go_wp2_with fail
                    go_roundw
                    case rel => exact ⟨x + 1, M, by omega, by go_num, rfl, HBy.out, HKy.out, HML.out, HMU.out, HMN.out, fun x' hx' y' hy' h1 h2 => by
                      by_cases e : x' = x
                      · rw [e] at h1 ⊢; exact HALLY.out y' hy' h1 h2
                      · exact HALLX.out x' (by omega) y' hy' h1 h2⟩
                    case measure => simp [intOf]; omega
              · have hxe : x = n := by omega
                subst hxe
                have hM12 : M < 4096 := Nat.lt_of_lt_of_le HML.out (pow_le x h12)
                have hle : T ≤ M := set_sub_le HMU.out
                have hne : M ≠ T := fun h => HC.out (fun a b ha hb => by have h3 := HALLX.out a (inb_lt HTL.out ha) b (inb_lt HTL.out hb) ha hb; rw [h] at h3; exact h3)
                go_wp2_with fail
                go_roundw
                case rel => exact ⟨M, rfl, HBx.out, HKx.out, HML.out, fun x h => HMU.out x (HUP.out x h), HMN.out⟩
                case measure => simp [intOf]; omega
  · have hk0 : k = 0 := by rw [← hk]; rfl
    subst hk0
    have HRK : Hid (RkRes f false) := hide (by unfold RkRes; simp [h1])
    clear hn hbs hr hm hx h1 hk
    go_enter Try.func21, Try.ntmps21
    go_wp2_with fail
    refine (isRackS _ _ _ f false _ HN.out hb HBS.out (HRD.out.later HB0.out) HRK.out).mono ?_
    rintro e w1 ⟨rfl, hb1⟩
    have HB1 := hide (HB0.out.trans (hb1.mono HB0.out.size))
    have HK1 := hide (HK0.out.later hb1)
    clear hb1
    go_wp2_with fail
    go_ret2
    exact ⟨_, _, rfl, HB1.out, .inl ⟨rfl, rfl⟩⟩
  · have hk0 : k = 0 := by rw [← hk]; rfl
    subst hk0
    have HE : Hid (¬ Els n xs) := hide (by rw [← hn]; exact h2)
    have HRK : Hid (RkRes f true) := hide (by unfold RkRes; simp [h1])
    clear hn hbs hr hm hx h1 h2 hk
    go_enter Try.func21, Try.ntmps21
    go_wp2_with fail
    refine (isRackS _ _ _ f true _ HN.out hb HBS.out (HRD.out.later HB0.out) HRK.out).mono ?_
    rintro e w1 ⟨rfl, hb1⟩
    have HB1 := hide (HB0.out.trans (hb1.mono HB0.out.size))
    have HK1 := hide (HK0.out.later hb1)
    clear hb1
    have k0 := HK1.out.cell 0 _ rfl
    go_wp2_with fail
    clear k0
    refine (l04Elements_any n _ _ _ xs false _ hb HM.out hbm (HX.out.later HB1.out) (by simp [HE.out])).mono ?_
    rintro e w2 ⟨rfl, hb2⟩
    have HB2 := hide (HB1.out.trans (hb2.mono HB1.out.size))
    have HK2 := hide (HK1.out.later hb2)
    clear hb2
    go_wp2_with fail
    go_ret2
    exact ⟨_, _, rfl, HB2.out, .inl ⟨rfl, rfl⟩⟩
  · have hk0 : k = 0 := by rw [← hk]; rfl
    subst hk0
    have HE : Hid (Els n xs) := hide (by rw [← hn]; exact h2)
    have hm0 : m = 0 := by rw [← hm, h3]; rfl
    subst hm0
    have HRK : Hid (RkRes f true) := hide (by unfold RkRes; simp [h1])
    clear hn hbs hr hm hx h1 h2 h3 hk
    go_enter Try.func21, Try.ntmps21
    go_wp2_with fail
    refine (isRackS _ _ _ f true _ HN.out hb HBS.out (HRD.out.later HB0.out) HRK.out).mono ?_
    rintro e w1 ⟨rfl, hb1⟩
    have HB1 := hide (HB0.out.trans (hb1.mono HB0.out.size))
    have HK1 := hide (HK0.out.later hb1)
    clear hb1
    have k0 := HK1.out.cell 0 _ rfl
    go_wp2_with fail
    clear k0
    refine (l04Elements_any n _ _ _ xs true _ hb HM.out hbm (HX.out.later HB1.out) (by simp [HE.out])).mono ?_
    rintro e w2 ⟨rfl, hb2⟩
    have HB2 := hide (HB1.out.trans (hb2.mono HB1.out.size))
    have HK2 := hide (HK1.out.later hb2)
    clear hb2
    go_wp2_with fail
    go_ret2
    exact ⟨_, _, rfl, HB2.out, .inl ⟨rfl, rfl⟩⟩
end Go.Proofs.Ytkflmhmbkilmpac
