import Derived.Test.YtkflmhmbkilmpacGrF
import Derived.Test.YtkflmhmbkilmpacProg
import Derived.Test.YtkflmhmbkilmpacBlk
import Derived.Test.YtkflmhmbkilmpacRkF
namespace Go.Proofs.Ytkflmhmbkilmpac
open Go Go.RowKit
set_option maxHeartbeats 2000000

set_option maxRecDepth 100000 in
theorem l04Closed_any (A : Option Addr) (n c : Nat) (f : List (List Int)) (S : Nat) (r : Bool) (w : World) (hn : f.length = n) (ht : Tbl f) (hr : Rd2 w A f) (hS : S < 2 ^ n) (hres : r = true ↔ ClosedF f S) :
    Calls Try.prog 57 #[.slice A n c, .int .i64 S] w fun e w' => e = .returned (.bool r) ∧ Below w.heap.size w w' := by
  have h1 : 1 ≤ n := by rw [← hn]; exact ht.1
  have h12 : n ≤ 12 := by rw [← hn]; exact ht.2.1
  have hS12 : S < 4096 := Nat.lt_of_lt_of_le hS (pow_le n h12)
  obtain ⟨bt, ot, hA, hbt, hct⟩ := ht.cells hr hn
  subst hA
  have HT := hide hct
  have HN := hide hn
  have HTB := hide ht
  have HRES := hide hres
  have HS := hide hS
  clear hn ht hr hct hres hS
  go_enter Try.func57, Try.ntmps57
  go_wp2_with fail
  go_loopw [5] (fun i wr => ∃ x : Nat, x ≤ n ∧ i = .int .i64 x ∧ Below w.heap.size w wr ∧ ∀ x', x' < x → ∀ y', y' < n → inb S x' → inb S y' → inb S (ap f x' y')) (fun i _ => n - (intOf i).toNat)
  case atStart => exact ⟨0, Nat.zero_le _, rfl, Below.refl _ _, fun i hi => absurd hi (Nat.not_lt_zero _)⟩
  case round =>
    obtain ⟨x, hxn', rfl, hbe, hall⟩ := hrel
    have HX := hide hbe
    have HALLX := hide hall
    clear hbe hall
    by_cases hltx : x < n
    · have hxz : (x : Int) < n := by omega
      go_wp2_with fail
      go_loopw [6] (fun i wr => ∃ y : Nat, y ≤ n ∧ i = .int .i64 y ∧ Below w.heap.size w wr ∧ ∀ y', y' < y → inb S x → inb S y' → inb S (ap f x y')) (fun i _ => n - (intOf i).toNat)
      case atStart => exact ⟨0, Nat.zero_le _, rfl, HX.out, fun i hi => absurd hi (Nat.not_lt_zero _)⟩
      case round =>
        obtain ⟨y, hyn', rfl, hbe, hall⟩ := hrel
        have HY := hide hbe
        have HALLY := hide hall
        clear hbe hall
        by_cases hlty : y < n
        · have hyz : (y : Int) < n := by omega
          by_cases ix : inb S x
          · have b1 := bt_in (by omega) ix
            by_cases iy : inb S y
            · have b2 := bt_in (by omega) iy
              have hv := HTB.out.ap_lt HN.out hltx hlty
              obtain ⟨bx, ox, cx, rx, lx, gx⟩ := HT.out x hltx
              have t1 := gx y hlty
              obtain ⟨v, hve⟩ : ∃ v, ap f x y = v := ⟨_, rfl⟩
              rw [hve] at t1 hv
              replace rx := (HY.out.cell (p := ⟨bt, ot + x, none⟩) hbt).trans rx
              replace t1 := (HY.out.cell (p := ⟨bx, ox + y, none⟩) lx).trans t1
              have HU := hide hve
              have HIX := hide ix
              have HIY := hide iy
              clear gx hve ix iy
              by_cases iv : inb S v
              · have b3 := bt_in (by omega) iv
                have HIV := hide iv
                clear iv
                go_wp2_with fail
                go_roundw
                case rel => exact ⟨y + 1, by omega, by go_num, HY.out, fun i hi => by
                  by_cases e : i = y
                  · rw [e]; exact fun _ _ => by rw [HU.out]; exact HIV.out
                  · exact HALLY.out i (by omega)⟩
                case measure => simp [intOf]; omega
              · have b3 := bt_out (by omega) iv
                have hrf : r = false := by
                  cases r
                  · rfl
                  · exact absurd (by have h := HRES.out.1 rfl x y HIX.out HIY.out; rw [HU.out] at h; exact h) iv
                subst hrf
                clear iv
                go_wp2_with fail
                go_ret
                exact ⟨rfl, HY.out⟩
            · have b2 := bt_out (by omega) iy
              have HIY := hide iy
              clear iy ix
              go_wp2_with fail
              go_roundw
              case rel => exact ⟨y + 1, by omega, by go_num, HY.out, fun i hi => by
                by_cases e : i = y
                · rw [e]; exact fun _ h => absurd h HIY.out
                · exact HALLY.out i (by omega)⟩
              case measure => simp [intOf]; omega
          · have b1 := bt_out (by omega) ix
            have HIX := hide ix
            clear ix
            go_wp2_with fail
            go_roundw
            case rel => exact ⟨y + 1, by omega, by go_num, HY.out, fun i hi => fun h => absurd h HIX.out⟩
            case measure => simp [intOf]; omega
        · have hye : y = n := by omega
          subst hye
          go_wp2_with fail
          go_roundw
          case rel => exact ⟨x + 1, by omega, by go_num, HY.out, fun i hi => by
            by_cases e : i = x
            · rw [e]; exact HALLY.out
            · exact HALLX.out i (by omega)⟩
          case measure => simp [intOf]; omega
    · have hxe : x = n := by omega
      subst hxe
      have hrt : r = true := HRES.out.2 (fun a b ha hb => HALLX.out a (inb_lt HS.out ha) b (inb_lt HS.out hb) ha hb)
      subst hrt
      go_wp2_with fail
      go_ret
      exact ⟨rfl, HX.out⟩
end Go.Proofs.Ytkflmhmbkilmpac
