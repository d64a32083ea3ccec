import Derived.Test.YtiaebilcgmahlaaZbc
import Derived.Test.YtiaebilcgmahlaaZay
import Derived.Test.YtiaebilcgmahlaaZc
import Derived.StillTailTactics
namespace Go.Proofs.Ytiaebilcgmahlaa
open Go Go.RowKit
open Classical
set_option maxHeartbeats 4000000
theorem wrd1 {n : Nat} {x : Int} : Wrd n [x] ↔ 0 ≤ x ∧ x < (n : Int) := by
  constructor
  · intro h
    exact h.2 0 (by simp)
  · intro h
    refine ⟨by simp, fun j hj => ?_⟩
    have : j = 0 := by simpa using hj
    subst this; exact h
/-- What the action of a word is told. -/
def ActR (f s : List (List Int)) (xs : List Int) (x v code : Int) : Prop := (WdC f s [xs, [x]] 0 ∧ v = ((acIn f xs x.toNat xs.length : Nat) : Int) ∧ code = 0) ∨ (WdC f s [xs, [x]] code ∧ code ≠ 0 ∧ v = 0)
theorem ActR.ex (f s : List (List Int)) (xs : List Int) (x : Int) : ∃ v code, ActR f s xs x v code := by
  obtain ⟨c, hc⟩ := WdC.ex f s [xs, [x]]
  by_cases h0 : c = 0
  · subst h0; exact ⟨_, _, .inl ⟨hc, rfl, rfl⟩⟩
  · exact ⟨_, _, .inr ⟨hc, h0, rfl⟩⟩
set_option maxRecDepth 100000 in
theorem actI (A : Option Addr) (n c : Nat) (f : List (List Int)) (B : Option Addr) (k d : Nat) (s : List (List Int)) (C : Option Addr) (m e : Nat) (xs : List Int) (x v code : Int) (w : World) (hz : ZArg 1048576 w A n f B k s) (hm : xs.length = m) (hb : m ≤ 1048576) (hr : Rd w C xs) (hx0 : -9223372036854775808 ≤ x) (hx1 : x ≤ 9223372036854775807) (hres : ActR f s xs x v code) :
    Calls Try.prog 45 #[.agg #[.slice A n c, .slice B k d], .slice C m e, .int .i64 x] w fun e w' => e = .returned (.tuple #[.int .i64 v, .int .i64 code]) ∧ Below w.heap.size w w' := by
  have HZ := hide hz
  have HM := hide hm
  have HR := hide hr
  have HB0 := hide ((Below.refl _ w).alloc (Nat.le_refl _) (Obj.cells #[Value.slice A n c, Value.slice B k d] 29))
  have HK0 := hide (Blk.new w 29 [.slice A n c, .slice B k d])
  obtain ⟨wc, hwc⟩ : ∃ wc, WdC f s [xs, [x]] wc := WdC.ex f s [xs, [x]]
  have HWC := hide hwc
  have HRES := hide hres
  have d0 : ¬ wc = 0 → (wc != 0) = true := fun h => by simpa using h
  clear hz hm hr hwc hres
  go_enter Try.func45, Try.ntmps45
  have k0 := HK0.out.cell 0 _ rfl
  have k1 := HK0.out.cell 1 _ rfl
  go_wp2_with fail
  clear k0 k1
  refine calls_gen fun w1 hw1 => ?_
  have hb1 : Below (w.alloc (Obj.cells #[Value.slice A n c, Value.slice B k d] 29)).heap.size (w.alloc (Obj.cells #[Value.slice A n c, Value.slice B k d] 29)) w1 := by rw [hw1]; exact ((Below.refl _ _).alloc (Nat.le_refl _) _).alloc (by simp) _
  have HX1 : Hid (Row 2 w1 (w.heap.size + 1) [x]) := hide (by rw [hw1]; have h := Blk.new (w.alloc (Obj.cells #[Value.slice A n c, Value.slice B k d] 29)) 2 [.int .i64 x]; have h2 := h.alloc (Obj.cells #[.slice C m e, .slice (some ⟨w.heap.size + 1, 0, none⟩) 1 1] 25); simp at h2; exact h2)
  have HL1 : Hid (Blk w1 (w.heap.size + 1 + 1) 25 [.slice C m e, .slice (some ⟨w.heap.size + 1, 0, none⟩) 1 1]) := hide (by rw [hw1]; have h := Blk.new ((w.alloc (Obj.cells #[Value.slice A n c, Value.slice B k d] 29)).alloc (Obj.cells #[.int .i64 x] 2)) 25 [.slice C m e, .slice (some ⟨w.heap.size + 1, 0, none⟩) 1 1]; simpa using h)
  have HB1 := hide (HB0.out.trans (hb1.mono HB0.out.size))
  have HK1 := hide (HK0.out.later hb1)
  have HRR : Hid (Rd2 w1 (some ⟨w.heap.size + 1 + 1, 0, none⟩) [xs, [x]]) := hide (fun _ => ⟨_, 0, rfl, HL1.out.lt, fun i hi => by
    rcases i with _ | _ | i
    · exact ⟨C, e, by have h := HL1.out.cell 0 _ rfl; rw [show ([xs, [x]].getD 0 []).length = m from HM.out]; exact h, HR.out.later HB1.out⟩
    · exact ⟨_, _, HL1.out.cell 1 _ rfl, HX1.out.rd⟩
    · simp at hi; omega⟩)
  clear hw1 hb1
  refine (wordFault_any A B _ n c k d 2 2 f s [xs, [x]] wc _ (HZ.out.later HB1.out) rfl (by omega) (fun i hi => by
    rcases i with _ | _ | i
    · show xs.length ≤ 1048576; rw [HM.out]; exact hb
    · simp
    · simp at hi; omega) HRR.out HWC.out).mono ?_
  rintro e w2 ⟨rfl, hb2⟩
  have HB2 := hide (HB1.out.trans (hb2.mono HB1.out.size))
  have HK2 := hide (HK1.out.later hb2)
  clear hb2 HRR HL1 HX1 HK1
  by_cases hc0 : wc = 0
  · subst hc0
    obtain ⟨hs, hw⟩ := HWC.out.zero rfl
    obtain rfl := (HZ.out.same hs.1).symm
    have hn := HZ.out.sz.fl
    have hw1 := wrds2.1 hw
    rw [hn] at hw1
    have HW := hide hw1.1
    have hxn := wrd1.1 hw1.2
    obtain ⟨y, rfl⟩ : ∃ y : Nat, x = (y : Int) := ⟨x.toNat, by omega⟩
    obtain ⟨rfl, rfl⟩ : v = ((acIn f xs y m : Nat) : Int) ∧ code = 0 := by
      rcases HRES.out with ⟨_, h⟩ | ⟨h1, h2, _⟩
      · rw [HM.out, Int.toNat_natCast] at h; exact h
      · exact absurd (h1.uniq HWC.out) h2
    have HS := hide hs
    have hyn : y < n := by omega
    clear hs hw hw1 hn d0
    have k0 := HK2.out.cell 0 _ rfl
    have k1 := HK2.out.cell 1 _ rfl
    go_wp2_with fail
    refine (actBy_any A n c f B d s C m _ xs y _ (HZ.out.later HB2.out) HS.out.1 HM.out HW.out.tup (HR.out.later HB2.out) hyn).mono ?_
    rintro e w3 ⟨rfl, hb3⟩
    have HB3 := hide (HB2.out.trans (hb3.mono HB2.out.size))
    clear hb3 k0 k1
    go_wp2_with fail
    go_ret2
    exact ⟨rfl, HB3.out⟩
  · obtain ⟨rfl, rfl⟩ : v = 0 ∧ code = wc := by
      rcases HRES.out with ⟨h1, _⟩ | ⟨h1, _, h3⟩
      · exact absurd (HWC.out.uniq h1) hc0
      · exact ⟨h3, h1.uniq HWC.out⟩
    have hcb := d0 hc0
    clear d0
    go_wp2_with fail
    go_ret2
    exact ⟨rfl, HB2.out⟩
set_option maxRecDepth 100000 in
theorem actS (A : Option Addr) (n c : Nat) (f : List (List Int)) (B : Option Addr) (k d : Nat) (s : List (List Int)) (C : Option Addr) (m e : Nat) (xs : List Int) (x v code : Int) (w : World) (hz : ZArg 1048576 w A n f B k s) (hm : xs.length = m) (hb : m ≤ 1048576) (hr : Rd w C xs) (hx0 : -9223372036854775808 ≤ x) (hx1 : x ≤ 9223372036854775807) (hres : ActR f s xs x v code) :
    Calls Try.prog 44 #[.agg #[.slice A n c, .slice B k d], .slice C m e, .int .i64 x] w fun e w' => e = .returned (.tuple #[.int .i64 v, .int .i64 code]) ∧ Below w.heap.size w w' := by
  have HZ := hide hz
  have HM := hide hm
  have HR := hide hr
  have HB0 := hide ((Below.refl _ w).alloc (Nat.le_refl _) (Obj.cells #[Value.slice A n c, Value.slice B k d] 29))
  have HK0 := hide (Blk.new w 29 [.slice A n c, .slice B k d])
  obtain ⟨wc, hwc⟩ : ∃ wc, WdC f s [xs] wc := WdC.ex f s [xs]
  have HWC := hide hwc
  have HWC2 : Hid (WdC f s [xs, xs] wc) := hide (hwc.congr (by rw [wrds1, wrds2]; exact ⟨fun h => ⟨h, h⟩, fun h => h.1⟩))
  have HRES := hide hres
  have d0 : ¬ wc = 0 → (wc != 0) = true ∧ (wc == 0) = false := fun h => by simpa using h
  clear hz hm hr hwc hres
  go_enter Try.func44, Try.ntmps44
  have k0 := HK0.out.cell 0 _ rfl
  have k1 := HK0.out.cell 1 _ rfl
  go_wp2_with fail
  clear k0 k1
  refine (codeS_any A B C C n c k d m _ m _ f s xs xs wc _ (HZ.out.later HB0.out) HM.out hb (HR.out.later HB0.out) HM.out hb (HR.out.later HB0.out) HWC2.out).mono ?_
  rintro e w2 ⟨rfl, hb2⟩
  have HB2 := hide (HB0.out.trans (hb2.mono HB0.out.size))
  have HK2 := hide (HK0.out.later hb2)
  clear hb2
  by_cases hc0 : wc = 0
  · subst hc0
    obtain ⟨hs, hw⟩ := HWC.out.zero rfl
    obtain rfl := (HZ.out.same hs.1).symm
    have hn := HZ.out.sz.fl
    have hw1 := wrds1.1 hw
    rw [hn] at hw1
    have HW := hide hw1
    have HS := hide hs
    have h12 := HZ.out.small hs.1
    have hnw : IntKind.i64.wrap ((n : Int) - 1) = (n : Int) - 1 := IntWalk.i64_in _ (by omega)
    obtain ⟨r1, hr1⟩ : ∃ r1 : Bool, r1 = true ↔ 0 ≤ x ∧ x ≤ (n : Int) - 1 := bool_of _
    have HR1 := hide hr1
    have HN := hide hn
    clear hs hw hw1 hn d0 hr1
    have k0 := HK2.out.cell 0 _ rfl
    have k1 := HK2.out.cell 1 _ rfl
    go_wp2_with fail
    refine (in_any x 0 ((n : Int) - 1) r1 _ HR1.out).mono ?_
    rintro e w3 ⟨rfl, hq3⟩
    have HB3 := hide (HB2.out.trans ((hq3.below w2.heap.size).mono HB2.out.size))
    have HK3 := hide (HK2.out.later (hq3.below w2.heap.size))
    clear hq3 k0 k1
    cases r1 with
    | false =>
      obtain ⟨rfl, rfl⟩ : v = 0 ∧ code = 2 := by
        have hno : ¬ Wrds f.length [xs, [x]] := by rw [HN.out, wrds2, wrd1]; intro h; have h2 := HR1.out.2 ⟨h.2.1, by omega⟩; cases h2
        rcases HRES.out with ⟨h1, _⟩ | ⟨h1, h2, h3⟩
        · exact absurd (h1.zero rfl).2 hno
        · rcases h1 with ⟨_, h, _⟩ | ⟨_, _, h⟩ | ⟨h, _⟩
          · exact absurd h hno
          · exact ⟨h3, h⟩
          · exact absurd HS.out h
      clear HR1
      go_wp2_with fail
      go_ret2
      exact ⟨rfl, HB3.out⟩
    | true =>
      have hxin := HR1.out.1 rfl
      clear HR1
      obtain ⟨y, rfl⟩ : ∃ y : Nat, x = (y : Int) := ⟨x.toNat, by omega⟩
      have hyn : y < n := by omega
      obtain ⟨rfl, rfl⟩ : v = ((acIn f xs y m : Nat) : Int) ∧ code = 0 := by
        have hyes : WdC f s [xs, [(y : Int)]] 0 := .inl ⟨HS.out, by rw [HN.out, wrds2, wrd1]; exact ⟨HW.out, by omega, by omega⟩, rfl⟩
        rcases HRES.out with ⟨_, h⟩ | ⟨h1, h2, _⟩
        · rw [HM.out, Int.toNat_natCast] at h; exact h
        · exact absurd (h1.uniq hyes) h2
      have hmw : IntKind.i64.wrap ((m : Int) - 1) = (m : Int) - 1 := IntWalk.i64_in _ (by omega)
      obtain ⟨bA, oA, rfl, hbA, hcA⟩ := HS.out.1.1.cells HZ.out.fst HN.out
      have HCA := hide hcA
      have hm8 : m ≤ 8 := by have := HW.out.1; have := HM.out; omega
      clear hcA
      go_wp2_with fail
      go_loopw [2, 9] (fun xv i wr => ∃ t : Nat, t ≤ m ∧ i = .int .i64 ((m : Int) - 1 - t) ∧ xv = .int .i64 ((acIn f xs y t : Nat) : Int) ∧ Below w.heap.size w wr ∧ Blk wr w.heap.size 29 [.slice (some ⟨bA, oA, none⟩) n c, .slice B n d]) (fun _ i _ => (intOf i + 1).toNat)
      case atStart => exact ⟨0, Nat.zero_le _, by simp, rfl, HB3.out, HK3.out⟩
      case round =>
        obtain ⟨t, ht, rfl, rfl, hbe, hkk⟩ := hrel
        clear HB3 HK3
        have HB := hide hbe
        have HK := hide hkk
        clear hbe hkk
        by_cases hlt : t < m
        · obtain ⟨q, hq⟩ : ∃ q : Nat, m - 1 - t = q := ⟨_, rfl⟩
          have hqz : (m : Int) - 1 - (t : Int) = (q : Int) := by omega
          rw [hqz]
          have hxl : xs.length = m := HM.out
          have hel := HW.out.tup.el (j := q) (by omega)
          have hcur := acIn_lt HS.out.1.1 HN.out HW.out.tup hyn t (by omega)
          have hsv : ap f (elN xs q) (acIn f xs y t) = acIn f xs y (t + 1) := by rw [← hq, ← hxl]; rfl
          obtain ⟨bC, oC, rfl, hbC, hcC⟩ := HR.out (by omega)
          have ec := (HB.out.cell (p := ⟨bC, oC + q, none⟩) hbC).trans (hcC q (by omega))
          rw [hel.1] at ec
          obtain ⟨bx, ox, cx, e1, e2, e3⟩ := HCA.out (elN xs q) hel.2
          have e4 := e3 _ hcur
          rw [hsv] at e4
          replace e1 := (HB.out.cell (p := ⟨bA, oA + elN xs q, none⟩) hbA).trans e1
          replace e4 := (HB.out.cell (p := ⟨bx, ox + acIn f xs y t, none⟩) e2).trans e4
          obtain ⟨a, ha⟩ : ∃ a, elN xs q = a := ⟨_, rfl⟩
          obtain ⟨u, hu⟩ : ∃ u, acIn f xs y t = u := ⟨_, rfl⟩
          obtain ⟨v2, hv2⟩ : ∃ v2, acIn f xs y (t + 1) = v2 := ⟨_, rfl⟩
          have han := hel.2
          rw [ha] at ec e1 han
          rw [hu] at e4 hcur ⊢
          rw [hv2] at e4
          have HV2 := hide hv2
          have HQ := hide hqz
          have hqm : q < m := by omega
          have hqmz : (q : Int) < m := by omega
          have haz : (a : Int) < n := by omega
          have huz : (u : Int) < n := by omega
          have k0 := HK.out.cell 0 _ rfl
          have k1 := HK.out.cell 1 _ rfl
          clear hel hsv hcC e2 e3 ha hu hv2 hqz hq hbC
          go_wp2_with fail
          go_quiet (fail)
          clear k0 k1 ec e1 e4
          go_wp2_with fail
          go_roundw
          case rel => exact ⟨t + 1, by omega, by have := HQ.out; first | (congr 1; omega) | congr 1, by rw [HV2.out], bdrewN HB.out _, HK.out.later (bdrewN (Below.refl _ _) _)⟩
          case measure => simp [intOf]
        · have htm : t = m := by omega
          subst htm
          have hneg : (t : Int) - 1 - (t : Int) = -1 := by omega
          rw [hneg]
          go_wp2_with fail
          go_ret2
          exact ⟨rfl, HB.out⟩
  · obtain ⟨rfl, rfl⟩ : v = 0 ∧ code = wc := by
      have hall : WdC f s [xs, [x]] wc := by
        rcases HWC.out with ⟨_, _, h⟩ | ⟨h1, h2, h3⟩ | ⟨h1, h3⟩
        · exact absurd h hc0
        · exact .inr (.inl ⟨h1, fun h => h2 (wrds1.2 (wrds2.1 h).1), h3⟩)
        · exact .inr (.inr ⟨h1, h3⟩)
      rcases HRES.out with ⟨h1, _⟩ | ⟨h1, _, h3⟩
      · exact absurd (hall.uniq h1) hc0
      · exact ⟨h3, h1.uniq hall⟩
    obtain ⟨hcb, hcb2⟩ := d0 hc0
    clear d0
    go_wp2_with fail
    go_ret2
    exact ⟨rfl, HB2.out⟩
end Go.Proofs.Ytiaebilcgmahlaa
