import Derived.Test.YtngfdkmiifpbgaaZl
import Derived.Test.YtngfdkmiifpbgaaZj
import Derived.Test.YtngfdkmiifpbgaaZaf
import Derived.Test.YtngfdkmiifpbgaaZe
import Derived.Shelf.Abstract
import Derived.Shelf.Lay
import Derived.Deep.Cut
import Derived.Deep.RegionHeld3
import Derived.Test.YtngfdkmiifpbgaaProg
namespace Go.Proofs.Ytngfdkmiifpbgaa
open Go Go.RowKit
theorem ownsRow_mono {w : World} {B B' n : Nat} {e : TypeId} {v : Value} {xs : List Value} (hB : B' ≤ B) (h : w.ownsRow B e 1 v n xs) : w.ownsRow B' e 1 v n xs := by
  obtain ⟨h1, h2⟩ := h
  refine ⟨h1, ?_⟩
  rcases h2 with h2 | ⟨g, cap, cur, hv, hg, r⟩
  · exact .inl h2
  · exact .inr ⟨g, cap, cur, hv, Nat.le_trans hB hg, r⟩
/-- The subracks below k, as sets, in ascending order. -/
noncomputable def sbB (f : List (List Int)) (S : Nat) : Bool := @decide (SubF f S) (Classical.propDecidable _)
theorem sbB_iff (f : List (List Int)) (S : Nat) : sbB f S = true ↔ SubF f S := by
  unfold sbB
  exact @decide_eq_true_iff _ (Classical.propDecidable _)
noncomputable def sbN (f : List (List Int)) (k : Nat) : List Nat := (List.range k).filter fun S => sbB f S
theorem sbN_yes {f : List (List Int)} {k : Nat} (h : SubF f k) : sbN f (k + 1) = sbN f k ++ [k] := by
  unfold sbN
  have h2 := (sbB_iff f k).2 h
  rw [List.range_succ, List.filter_append]
  simp [h2]
theorem sbN_no {f : List (List Int)} {k : Nat} (h : ¬ SubF f k) : sbN f (k + 1) = sbN f k := by
  unfold sbN
  have h2 : sbB f k = false := by
    cases hb : sbB f k
    · rfl
    · exact absurd ((sbB_iff f k).1 hb) h
  rw [List.range_succ, List.filter_append]
  simp [h2]
theorem sbN_length (f : List (List Int)) (k : Nat) : (sbN f k).length ≤ k := by
  unfold sbN
  have := List.length_filter_le (fun S => sbB f S) (List.range k)
  simpa using this
noncomputable def sbL (f : List (List Int)) (k : Nat) : List Int := (sbN f k).map fun (x : Nat) => (x : Int)
theorem sbL_length (f : List (List Int)) (k : Nat) : (sbL f k).length = (sbN f k).length := by simp [sbL]
theorem sbL_yes {f : List (List Int)} {k : Nat} (h : SubF f k) : ints (sbL f (k + 1)) = ints (sbL f k) ++ [.int .i64 k] := by
  unfold sbL
  rw [sbN_yes h]
  simp [ints]
theorem sbL_no {f : List (List Int)} {k : Nat} (h : ¬ SubF f k) : sbL f (k + 1) = sbL f k := by
  unfold sbL
  rw [sbN_no h]
theorem SubF.zero (f : List (List Int)) : ¬ SubF f 0 := fun h => h.1 rfl
theorem sbN_one (f : List (List Int)) : sbN f 1 = [] := by rw [sbN_no (SubF.zero f)]; rfl
theorem sbL_one (f : List (List Int)) : sbL f 1 = [] := by unfold sbL; rw [sbN_one]; rfl
def SbRes (f : List (List Int)) (zs : List Int) (code : Int) : Prop := (Rck f ∧ zs = sbL f (2 ^ f.length) ∧ code = 0) ∨ (¬ Rck f ∧ zs = [] ∧ code = 1)
theorem SbRes.ex (f : List (List Int)) : ∃ zs code, SbRes f zs code ∧ zs.length ≤ 1048576 := by
  by_cases h : Rck f
  · refine ⟨_, _, .inl ⟨h, rfl, rfl⟩, ?_⟩
    rw [sbL_length]
    have h1 := sbN_length f (2 ^ f.length)
    have h2 := pow_le f.length h.tbl.2.1
    omega
  · exact ⟨_, _, .inr ⟨h, rfl, rfl⟩, by simp⟩
end Go.Proofs.Ytngfdkmiifpbgaa
namespace Go.Proofs.Ytngfdkmiifpbgaa
open Go Go.RowKit
set_option maxHeartbeats 2000000
/-- A function value that makes products of a table. -/
def MadeFn (P : Program) (F : FuncId) (bnd lb : Array Value) (n : Nat) (f : List (List Int)) (w : World) : Prop :=
  ∀ (W : World) (x y : Nat), x < n → y < n → Below w.heap.size w W → Calls P F (bnd ++ (#[.int .i64 x, .int .i64 y] ++ lb)) W fun e w' => e = .returned (.int .i64 (ap f x y)) ∧ Below W.heap.size W w'

set_option maxRecDepth 100000 in
theorem grownF_any (F : FuncId) (bnd lb : Array Value) (n : Nat) (f : List (List Int)) (S : Nat) (w : World) (eg : ∀ args w, (callFunc F args).run Try.prog w = .ok (.enter F args) w) (h12 : n ≤ 12) (hap : ∀ x y, x < n → y < n → ap f x y < n) (hS : S < 2 ^ n) (hm : MadeFn Try.prog F bnd lb n f w) :
    Calls Try.prog 99 #[.int .i64 S, .func (.func F) bnd lb] w fun e w' => ∃ V : Nat, e = .returned (.int .i64 V) ∧ Below w.heap.size w w' ∧ GrF f S V ∧ V < 2 ^ n := by
  have hS12 : S < 4096 := Nat.lt_of_lt_of_le hS (pow_le n h12)
  have HAP := hide hap
  have HMF := hide hm
  have HS := hide hS
  have heg := hide eg
  clear hap hm hS eg
  obtain ⟨m, hm⟩ : ∃ m, (mems 12 S).length = m := ⟨_, rfl⟩
  have hm12 : m ≤ 12 := by rw [← hm]; exact mems_length 12 S
  have HM := hide hm
  clear hm
  go_enter Try.func99, Try.ntmps99
  go_wp2_with fail
  refine (membersOf_any S _ hS12).mono ?_
  rintro e w1 ⟨B, d, rfl, hb1, hres⟩
  have HB1 := hide hb1
  have HRS := hide hres.rd
  rw [HM.out]
  clear hb1 hres
  go_wp2_with fail
  go_loopw [0, 14] (fun s i wr => ∃ (k V : Nat), k ≤ m ∧ i = .int .i64 k ∧ s = .int .i64 V ∧ Below w1.heap.size w1 wr ∧ V < 2 ^ n ∧ GrQ f S k 0 V) (fun _ i _ => m - (intOf i).toNat)
  case atStart => exact ⟨0, S, Nat.zero_le _, rfl, rfl, Below.refl _ _, HS.out, GrQ.start f S⟩
  case round =>
    obtain ⟨k, V, hk, rfl, rfl, hbe, hV, hq⟩ := hrel
    have HB := hide hbe
    have HV := hide hV
    have HQ := hide hq
    clear hbe hV hq
    by_cases hlt : k < m
    · have hkz : (k : Int) < m := by omega
      obtain ⟨b, o, hBe, hbw, hc⟩ := HRS.out (by rw [memL_length, HM.out]; omega)
      subst hBe
      have HC : Hid (∀ i, i < m → w1.cell? ⟨b, o + i, none⟩ = some (.int .i64 (mel S i))) := hide (fun i hi => by rw [← mel_getD (by rw [HM.out]; exact hi)]; exact hc i (by rw [memL_length, HM.out]; exact hi))
      clear hc
      obtain ⟨x, hx⟩ : ∃ x, mel S k = x := ⟨_, rfl⟩
      have hxn : x < n := by rw [← hx]; exact inb_lt HS.out (mel_in (by rw [HM.out]; exact hlt))
      have c0 := (HB.out.cell (p := ⟨b, o + k, none⟩) hbw).trans (HC.out k hlt)
      rw [hx] at c0
      have HX := hide hx
      clear hx
      go_wp2_with fail
      clear c0
      go_loopw [0, 20] (fun s i wr => ∃ (j V : Nat), j ≤ m ∧ i = .int .i64 j ∧ s = .int .i64 V ∧ Below w1.heap.size w1 wr ∧ V < 2 ^ n ∧ GrQ f S k j V) (fun _ i _ => m - (intOf i).toNat)
      case atStart => exact ⟨0, V, Nat.zero_le _, rfl, rfl, HB.out, HV.out, HQ.out⟩
      case round =>
        clear HB HV HQ
        obtain ⟨j, V, hj, rfl, rfl, hbe, hV, hq⟩ := hrel
        have HB := hide hbe
        have HV := hide hV
        have HQ := hide hq
        clear hbe hV hq
        by_cases hltj : j < m
        · have hjz : (j : Int) < m := by omega
          obtain ⟨y, hy⟩ : ∃ y, mel S j = y := ⟨_, rfl⟩
          have hyn : y < n := by rw [← hy]; exact inb_lt HS.out (mel_in (by rw [HM.out]; exact hltj))
          have c1 := (HB.out.cell (p := ⟨b, o + j, none⟩) hbw).trans (HC.out j hltj)
          rw [hy] at c1
          have hv := HAP.out x y hxn hyn
          obtain ⟨v, hve⟩ : ∃ v, ap f x y = v := ⟨_, rfl⟩
          rw [hve] at hv
          have HU := hide hve
          have HSTEP : Hid (GrQ f S k (j + 1) (V ||| 2 ^ v)) := hide (HQ.out.step (by rw [HM.out]; exact hlt) (by rw [HM.out]; exact hltj) (by rw [HX.out, hy]; exact hve))
          have HV2 : Hid (V ||| 2 ^ v < 2 ^ n) := hide (or_lt HV.out hv)
          have hV12 : V < 4096 := Nat.lt_of_lt_of_le HV.out (pow_le n h12)
          obtain ⟨p, hp⟩ : ∃ p, 2 ^ v = p := ⟨_, rfl⟩
          have hp12 : p < 4096 := by rw [← hp]; exact Nat.lt_of_lt_of_le (Nat.pow_lt_pow_right (by decide) (by omega : v < 12)) (Nat.le_refl _)
          have g1 : (2 : Int) ^ v = (p : Int) := by rw [← hp]; simp
          have g2 := bt_or V p (by omega) (by omega)
          rw [hp] at HSTEP HV2
          obtain ⟨V2, hV2⟩ : ∃ V2, V ||| p = V2 := ⟨_, rfl⟩
          rw [hV2] at HSTEP HV2 g2
          have hV212 : V2 < 4096 := Nat.lt_of_lt_of_le HV2.out (pow_le n h12)
          clear hy hve hp hV2
          have g3 : IntKind.i64.wrap (p : Int) = (p : Int) := IntWalk.i64_in _ (by omega)
          have hegF := fun args => heg.out args
          go_wp2_with (go_at_fn F; go_must (refine calls_gen fun wc hwc => ?_; (first | have hbx := drew_below hwc | have hbx := eq_below hwc); have HBc := hide (HB.out.trans (hbx.mono HB.out.size)); clear hwc hbx; refine (HMF.out _ x y hxn hyn (HB1.out.trans (HBc.out.mono HB1.out.size))).mono ?_; rintro e w5 ⟨rfl, hb5⟩; rw [HU.out]; have HB5 := hide (HBc.out.trans (hb5.mono HBc.out.size)); clear hb5))
          clear c1 hegF
          go_wp2_with fail
          go_roundw
          case rel => exact ⟨j + 1, V2, by omega, by go_num, rfl, HB5.out, HV2.out, HSTEP.out⟩
          case measure => simp [intOf]; omega
        · have hjm : j = m := by omega
          subst hjm
          go_wp2_with fail
          go_roundw
          case rel => exact ⟨k + 1, V, by omega, by go_num, rfl, HB.out, HV.out, GrQ.next (by rw [HM.out]; exact HQ.out)⟩
          case measure => simp [intOf]; omega
    · have hkm : k = m := by omega
      subst hkm
      go_wp2_with fail
      go_ret
      exact ⟨V, rfl, HB1.out.trans (HB.out.mono HB1.out.size), GrQ.done hS12 (by rw [HM.out]; exact HQ.out), HV.out⟩
end Go.Proofs.Ytngfdkmiifpbgaa
namespace Go.Proofs.Ytngfdkmiifpbgaa
open Go Go.RowKit
set_option maxHeartbeats 2000000

set_option maxRecDepth 100000 in
theorem l04Closed_any (A : Option Addr) (n c : Nat) (f : List (List Int)) (S : Nat) (r : Bool) (w : World) (hn : f.length = n) (ht : Tbl f) (hr : Rd2 w A f) (hS : S < 2 ^ n) (hres : r = true ↔ ClosedF f S) :
    Calls Try.prog 78 #[.slice A n c, .int .i64 S] w fun e w' => e = .returned (.bool r) ∧ Below w.heap.size w w' := by
  have h1 : 1 ≤ n := by rw [← hn]; exact ht.1
  have h12 : n ≤ 12 := by rw [← hn]; exact ht.2.1
  have hS12 : S < 4096 := Nat.lt_of_lt_of_le hS (pow_le n h12)
  obtain ⟨bt, ot, hA, hbt, hct⟩ := ht.cells hr hn
  subst hA
  have HT := hide hct
  have HN := hide hn
  have HTB := hide ht
  have HRES := hide hres
  have HS := hide hS
  clear hn ht hr hct hres hS
  go_enter Try.func78, Try.ntmps78
  go_wp2_with fail
  go_loopw [5] (fun i wr => ∃ x : Nat, x ≤ n ∧ i = .int .i64 x ∧ Below w.heap.size w wr ∧ ∀ x', x' < x → ∀ y', y' < n → inb S x' → inb S y' → inb S (ap f x' y')) (fun i _ => n - (intOf i).toNat)
  case atStart => exact ⟨0, Nat.zero_le _, rfl, Below.refl _ _, fun i hi => absurd hi (Nat.not_lt_zero _)⟩
  case round =>
    obtain ⟨x, hxn', rfl, hbe, hall⟩ := hrel
    have HX := hide hbe
    have HALLX := hide hall
    clear hbe hall
    by_cases hltx : x < n
    · have hxz : (x : Int) < n := by omega
      go_wp2_with fail
      go_loopw [6] (fun i wr => ∃ y : Nat, y ≤ n ∧ i = .int .i64 y ∧ Below w.heap.size w wr ∧ ∀ y', y' < y → inb S x → inb S y' → inb S (ap f x y')) (fun i _ => n - (intOf i).toNat)
      case atStart => exact ⟨0, Nat.zero_le _, rfl, HX.out, fun i hi => absurd hi (Nat.not_lt_zero _)⟩
      case round =>
        obtain ⟨y, hyn', rfl, hbe, hall⟩ := hrel
        have HY := hide hbe
        have HALLY := hide hall
        clear hbe hall
        by_cases hlty : y < n
        · have hyz : (y : Int) < n := by omega
          by_cases ix : inb S x
          · have b1 := bt_in (by omega) ix
            by_cases iy : inb S y
            · have b2 := bt_in (by omega) iy
              have hv := HTB.out.ap_lt HN.out hltx hlty
              obtain ⟨bx, ox, cx, rx, lx, gx⟩ := HT.out x hltx
              have t1 := gx y hlty
              obtain ⟨v, hve⟩ : ∃ v, ap f x y = v := ⟨_, rfl⟩
              rw [hve] at t1 hv
              replace rx := (HY.out.cell (p := ⟨bt, ot + x, none⟩) hbt).trans rx
              replace t1 := (HY.out.cell (p := ⟨bx, ox + y, none⟩) lx).trans t1
              have HU := hide hve
              have HIX := hide ix
              have HIY := hide iy
              clear gx hve ix iy
              by_cases iv : inb S v
              · have b3 := bt_in (by omega) iv
                have HIV := hide iv
                clear iv
                go_wp2_with fail
                go_roundw
                case rel => exact ⟨y + 1, by omega, by go_num, HY.out, fun i hi => by
                  by_cases e : i = y
                  · rw [e]; exact fun _ _ => by rw [HU.out]; exact HIV.out
                  · exact HALLY.out i (by omega)⟩
                case measure => simp [intOf]; omega
              · have b3 := bt_out (by omega) iv
                have hrf : r = false := by
                  cases r
                  · rfl
                  · exact absurd (by have h := HRES.out.1 rfl x y HIX.out HIY.out; rw [HU.out] at h; exact h) iv
                subst hrf
                clear iv
                go_wp2_with fail
                go_ret
                exact ⟨rfl, HY.out⟩
            · have b2 := bt_out (by omega) iy
              have HIY := hide iy
              clear iy ix
              go_wp2_with fail
              go_roundw
              case rel => exact ⟨y + 1, by omega, by go_num, HY.out, fun i hi => by
                by_cases e : i = y
                · rw [e]; exact fun _ h => absurd h HIY.out
                · exact HALLY.out i (by omega)⟩
              case measure => simp [intOf]; omega
          · have b1 := bt_out (by omega) ix
            have HIX := hide ix
            clear ix
            go_wp2_with fail
            go_roundw
            case rel => exact ⟨y + 1, by omega, by go_num, HY.out, fun i hi => fun h => absurd h HIX.out⟩
            case measure => simp [intOf]; omega
        · have hye : y = n := by omega
          subst hye
          go_wp2_with fail
          go_roundw
          case rel => exact ⟨x + 1, by omega, by go_num, HY.out, fun i hi => by
            by_cases e : i = x
            · rw [e]; exact HALLY.out
            · exact HALLX.out i (by omega)⟩
          case measure => simp [intOf]; omega
    · have hxe : x = n := by omega
      subst hxe
      have hrt : r = true := HRES.out.2 (fun a b ha hb => HALLX.out a (inb_lt HS.out ha) b (inb_lt HS.out hb) ha hb)
      subst hrt
      go_wp2_with fail
      go_ret
      exact ⟨rfl, HX.out⟩
end Go.Proofs.Ytngfdkmiifpbgaa
