import Derived.Test.YtljdfanebjhhmaaZag
import Derived.Test.YtljdfanebjhhmaaZan
import Derived.Test.YtljdfanebjhhmaaZak
import Derived.Test.YtljdfanebjhhmaaZt
namespace Go.Proofs.Ytljdfanebjhhmaa
open Go Go.RowKit
set_option maxHeartbeats 4000000

set_option maxRecDepth 100000 in
theorem l04Cg_any (A : Option Addr) (n c : Nat) (f : List (List Int)) (B : Option Addr) (m d : Nat) (xs : List Int) (r : Bool) (w : World) (hn : f.length = n) (ht : Tbl f) (hr : Rd2 w A f) (hm : xs.length = m) (hx : Rd w B xs) (hp : Part f xs) (hrc : r = true ↔ CgF f xs) :
    Calls Try.prog 51 #[.slice A n c, .slice B m d] w fun e w' => e = .returned (.bool r) ∧ Below w.heap.size w w' := by
  have h1 : 1 ≤ n := by rw [← hn]; exact ht.1
  have h12 : n ≤ 12 := by rw [← hn]; exact ht.2.1
  have hmn : m = n := by rw [← hm, hp.1, hn]
  subst hmn
  obtain ⟨b, o, hB, hbw, hc⟩ := hx (by omega)
  subst hB
  obtain ⟨bt, ot, hA, hbt, hct⟩ := ht.cells hr hn
  subst hA
  have HC : Hid (∀ i : Nat, i < m → w.cell? ⟨b, o + i, none⟩ = some (.int .i64 (cl xs i)) ∧ cl xs i < m) := hide (fun i hi => by
    have h := hp.2.val (i := i) (by omega)
    rw [hm] at h
    exact ⟨by rw [← h.1]; exact hc i (by omega), h.2⟩)
  have HT := hide hct
  have HN := hide hn
  have HTB := hide ht
  have HRC := hide hrc
  clear hn ht hr hrc hm hp hc hct
  go_enter Try.func51, Try.ntmps51
  go_wp2_with fail
  go_loopw [6] (fun i wr => ∃ x : Nat, x ≤ m ∧ i = .int .i64 x ∧ Below w.heap.size w wr ∧ ∀ x', x' < x → ∀ z', z' < m → Cg2 f xs x' z') (fun i _ => m - (intOf i).toNat)
  case atStart => exact ⟨0, Nat.zero_le _, rfl, Below.refl _ _, fun i hi => absurd hi (Nat.not_lt_zero _)⟩
  case round =>
    obtain ⟨x, hxn', rfl, hbe, hall⟩ := hrel
    have HX := hide hbe
    have HALLX := hide hall
    clear hbe hall
    by_cases hltx : x < m
    · have hxz : (x : Int) < m := by omega
      go_wp2_with fail
      go_loopw [7] (fun i wr => ∃ z : Nat, z ≤ m ∧ i = .int .i64 z ∧ Below w.heap.size w wr ∧ ∀ z', z' < z → Cg2 f xs x z') (fun i _ => m - (intOf i).toNat)
      case atStart => exact ⟨0, Nat.zero_le _, rfl, HX.out, fun i hi => absurd hi (Nat.not_lt_zero _)⟩
      case round =>
        obtain ⟨z, hzn', rfl, hbe, hall⟩ := hrel
        have HZ := hide hbe
        have HALLZ := hide hall
        clear hbe hall
        by_cases hltz : z < m
        · have hzz : (z : Int) < m := by omega
          obtain ⟨a, ha⟩ : ∃ a, cl xs x = a := ⟨_, rfl⟩
          obtain ⟨a', ha'⟩ : ∃ a, cl xs z = a := ⟨_, rfl⟩
          have c0 := (HZ.out.cell (p := ⟨b, o + x, none⟩) hbw).trans (HC.out x hltx).1
          have c1 := (HZ.out.cell (p := ⟨b, o + z, none⟩) hbw).trans (HC.out z hltz).1
          rw [ha] at c0
          rw [ha'] at c1
          have HEQ : Hid (cl xs x = cl xs z ↔ a = a') := hide (by rw [ha, ha'])
          clear ha ha'
          by_cases hq : a = a'
          · have HYES := hide (HEQ.out.2 hq)
            subst hq
            go_wp2_with fail
            go_quiet (fail)
            go_wp2_with fail
            clear c0 c1
            refine wp_gen fun wz hwz => ?_
            have HZ2 : Hid (Below w.heap.size w wz) := hide (by rw [hwz]; exact HZ.out.trans ((Quiet.of _ _).below _))
            clear hwz
            go_loopw [8] (fun i wr => ∃ y : Nat, y ≤ m ∧ i = .int .i64 y ∧ Below w.heap.size w wr ∧ ∀ y', y' < y → Cg3 f xs x z y') (fun i _ => m - (intOf i).toNat)
            case atStart => exact ⟨0, Nat.zero_le _, rfl, HZ2.out, fun i hi => absurd hi (Nat.not_lt_zero _)⟩
            case round =>
              obtain ⟨y, hyn', rfl, hbe, hall⟩ := hrel
              have HY := hide hbe
              have HALLY := hide hall
              clear hbe hall
              by_cases hlty : y < m
              · have hyz : (y : Int) < m := by omega
                have h1' := HTB.out.ap_lt HN.out hltx hlty
                have h2' := HTB.out.ap_lt HN.out hltz hlty
                have h3' := HTB.out.ap_lt HN.out hlty hltx
                have h4' := HTB.out.ap_lt HN.out hlty hltz
                obtain ⟨s1, e1⟩ : ∃ u, ap f x y = u := ⟨_, rfl⟩
                obtain ⟨s2, e2⟩ : ∃ u, ap f z y = u := ⟨_, rfl⟩
                obtain ⟨s3, e3⟩ : ∃ u, ap f y x = u := ⟨_, rfl⟩
                obtain ⟨s4, e4⟩ : ∃ u, ap f y z = u := ⟨_, rfl⟩
                rw [e1] at h1'
                rw [e2] at h2'
                rw [e3] at h3'
                rw [e4] at h4'
                have d1 := (HY.out.cell (p := ⟨b, o + s1, none⟩) hbw).trans (HC.out s1 h1').1
                have d2 := (HY.out.cell (p := ⟨b, o + s2, none⟩) hbw).trans (HC.out s2 h2').1
                have d3 := (HY.out.cell (p := ⟨b, o + s3, none⟩) hbw).trans (HC.out s3 h3').1
                have d4 := (HY.out.cell (p := ⟨b, o + s4, none⟩) hbw).trans (HC.out s4 h4').1
                have HAT : Hid (Cg3 f xs x z y ↔ cl xs s1 = cl xs s2 ∧ cl xs s3 = cl xs s4) := hide (by unfold Cg3; rw [e1, e2, e3, e4])
                obtain ⟨v1, f1⟩ : ∃ u, cl xs s1 = u := ⟨_, rfl⟩
                obtain ⟨v2, f2⟩ : ∃ u, cl xs s2 = u := ⟨_, rfl⟩
                obtain ⟨v3, f3⟩ : ∃ u, cl xs s3 = u := ⟨_, rfl⟩
                obtain ⟨v4, f4⟩ : ∃ u, cl xs s4 = u := ⟨_, rfl⟩
                rw [f1] at d1
                rw [f2] at d2
                rw [f3] at d3
                rw [f4] at d4
                rw [f1, f2, f3, f4] at HAT
                obtain ⟨bx, ox, cx, rx, lx, gx⟩ := HT.out x hltx
                obtain ⟨by', oy, cy, ry, ly, gy⟩ := HT.out y hlty
                obtain ⟨bz, oz, cz, rz, lz, gz⟩ := HT.out z hltz
                replace rx := (HY.out.cell (p := ⟨bt, ot + x, none⟩) hbt).trans rx
                replace ry := (HY.out.cell (p := ⟨bt, ot + y, none⟩) hbt).trans ry
                replace rz := (HY.out.cell (p := ⟨bt, ot + z, none⟩) hbt).trans rz
                have t1 := gx y hlty
                have t2 := gz y hlty
                have t3 := gy x hltx
                have t4 := gy z hltz
                rw [e1] at t1
                rw [e2] at t2
                rw [e3] at t3
                rw [e4] at t4
                replace t1 := (HY.out.cell (p := ⟨bx, ox + y, none⟩) lx).trans t1
                replace t2 := (HY.out.cell (p := ⟨bz, oz + y, none⟩) lz).trans t2
                replace t3 := (HY.out.cell (p := ⟨by', oy + x, none⟩) ly).trans t3
                replace t4 := (HY.out.cell (p := ⟨by', oy + z, none⟩) ly).trans t4
                have z1 : (s1 : Int) < m := by omega
                have z2 : (s2 : Int) < m := by omega
                have z3 : (s3 : Int) < m := by omega
                have z4 : (s4 : Int) < m := by omega
                clear e1 e2 e3 e4 f1 f2 f3 f4 gx gy gz
                by_cases hl : v1 = v2
                · by_cases hr' : v3 = v4
                  · have HYY := hide (HAT.out.2 ⟨hl, hr'⟩)
                    subst hl
                    subst hr'
                    go_wp2_with fail
                    go_quiet (fail)
                    go_wp2_with fail
                    go_roundw
                    case rel => exact ⟨y + 1, by omega, by go_num, HY.out.trans ((Quiet.of _ _).below _), fun i hi => by
                      by_cases e : i = y
                      · rw [e]; exact HYY.out
                      · exact HALLY.out i (by omega)⟩
                    case measure => simp [intOf]; omega
                  · have g3 : ((v3 : Int) == (v4 : Int)) = false := by simpa using fun h => hr' (by omega)
                    have g4 : ¬ (v3 : Int) = (v4 : Int) := fun h => hr' (by omega)
                    have hrf : r = false := by
                      cases r
                      · rfl
                      · exact absurd (HAT.out.1 (HRC.out.1 rfl x (by have := HN.out; omega) z (by have := HN.out; omega) HYES.out y (by have := HN.out; omega))) (fun h => hr' h.2)
                    subst hrf
                    subst hl
                    go_wp2_with fail
                    go_quiet (fail)
                    go_wp2_with fail
                    go_ret
                    exact ⟨rfl, HY.out.trans ((Quiet.of _ _).below _)⟩
                · have g1 : ((v1 : Int) == (v2 : Int)) = false := by simpa using fun h => hl (by omega)
                  have g2 : ¬ (v1 : Int) = (v2 : Int) := fun h => hl (by omega)
                  have hrf : r = false := by
                    cases r
                    · rfl
                    · exact absurd (HAT.out.1 (HRC.out.1 rfl x (by have := HN.out; omega) z (by have := HN.out; omega) HYES.out y (by have := HN.out; omega))) (fun h => hl h.1)
                  subst hrf
                  go_wp2_with fail
                  go_quiet (fail)
                  go_wp2_with fail
                  go_ret
                  exact ⟨rfl, HY.out.trans ((Quiet.of _ _).below _)⟩
              · have hye : y = m := by omega
                subst hye
                go_wp2_with fail
                go_roundw
                case rel => exact ⟨z + 1, by omega, by go_num, HY.out, fun i hi => by
                  by_cases e : i = z
                  · rw [e]; exact fun _ y' hy' => HALLY.out y' (by have := HN.out; omega)
                  · exact HALLZ.out i (by omega)⟩
                case measure => simp [intOf]; omega
          · have HNO := hide (fun h => hq (HEQ.out.1 h))
            have hqz : ((a : Int) == (a' : Int)) = false := by simpa using fun h => hq (by omega)
            have hqz2 : ((a : Int) != (a' : Int)) = true := by simpa using fun h => hq (by omega)
            go_wp2_with fail
            go_quiet (fail)
            go_wp2_with fail
            go_roundw
            case rel => exact ⟨z + 1, by omega, by go_num, HZ.out.trans ((Quiet.of _ _).below _), fun i hi => by
              by_cases e : i = z
              · rw [e]; exact fun h => absurd h HNO.out
              · exact HALLZ.out i (by omega)⟩
            case measure => simp [intOf]; omega
        · have hze : z = m := by omega
          subst hze
          go_wp2_with fail
          go_roundw
          case rel => exact ⟨x + 1, by omega, by go_num, HZ.out, fun i hi => by
            by_cases e : i = x
            · rw [e]; exact HALLZ.out
            · exact HALLX.out i (by omega)⟩
          case measure => simp [intOf]; omega
    · have hxe : x = m := by omega
      subst hxe
      have hrt : r = true := HRC.out.2 (fun x hx z hz => HALLX.out x (by have := HN.out; omega) z (by have := HN.out; omega))
      subst hrt
      go_wp2_with fail
      go_ret
      exact ⟨rfl, HX.out⟩
end Go.Proofs.Ytljdfanebjhhmaa
