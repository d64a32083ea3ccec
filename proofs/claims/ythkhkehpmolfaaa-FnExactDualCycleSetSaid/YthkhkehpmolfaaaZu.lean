import Derived.Test.YthkhkehpmolfaaaZt
import Derived.Test.YthkhkehpmolfaaaZr
import Derived.Test.YthkhkehpmolfaaaZa
import Derived.Test.YthkhkehpmolfaaaZf
import Derived.Test.YthkhkehpmolfaaaProg
import Derived.Test.YthkhkehpmolfaaaZd
import Derived.Test.YthkhkehpmolfaaaZm
namespace Go.Proofs.Ythkhkehpmolfaaa
open Go Go.RowKit
set_option maxHeartbeats 2000000

theorem dsize_any (A : Option Addr) (n c : Nat) (w : World) (_hn : n ≤ 1048576) :
    Calls Try.prog 62 #[.slice A n c] w fun e w' => e = .returned (.int .i64 n) ∧ Below w.heap.size w w' := by
  go_enter Try.func62, Try.ntmps62
  go_wp2_with fail
  go_ret
  exact ⟨rfl, Below.refl _ _⟩

theorem dot_any (A : Option Addr) (n c : Nat) (f : List (List Int)) (x y u : Nat) (w : World) (hn : f.length = n) (ht : Tbl f) (hr : Rd2 w A f) (hx : x < n) (hy : y < n) (hu : ap f x y = u) :
    Calls Try.prog 82 #[.slice A n c, .int .i64 x, .int .i64 y] w fun e w' => e = .returned (.int .i64 u) ∧ Below w.heap.size w w' := by
  have h12 : n ≤ 12 := by rw [← hn]; exact ht.2.1
  obtain ⟨b, o, rfl, hb, hc⟩ := ht.cells hr hn
  obtain ⟨bx, ox, cx, h1, h2, h3⟩ := hc x hx
  have h4 := h3 y hy
  rw [hu] at h4
  have hxz : (x : Int) < n := by omega
  have hyz : (y : Int) < n := by omega
  have hxz0 : (0 : Int) ≤ x := by omega
  have hyz0 : (0 : Int) ≤ y := by omega
  clear hc hu hr ht hn h3
  go_enter Try.func82, Try.ntmps82
  go_wp2_with fail
  go_ret
  exact ⟨rfl, Below.refl _ _⟩

set_option maxRecDepth 100000 in
theorem squares_any (A : Option Addr) (n c : Nat) (f : List (List Int)) (w : World) (hn : f.length = n) (ht : Tbl f) (hr : Rd2 w A f) :
    Calls Try.prog 58 #[.slice A n c] w fun e w' => ∃ g, e = .returned (.slice (some ⟨g, 0, none⟩) n n) ∧ Below w.heap.size w w' ∧ w.heap.size ≤ g ∧ OwnB 2 w' g (kinkL f) := by
  have h1 : 1 ≤ n := by rw [← hn]; exact ht.1
  have h12 : n ≤ 12 := by rw [← hn]; exact ht.2.1
  have HN := hide hn
  have HTB := hide ht
  have HR := hide hr
  have HZ : Hid ((kinkL f).length = n) := hide ((kinkL_length f).trans hn)
  have hmk := run_make_row' (P := Try.prog) 60 2 (.int .i64 0) 8 Try.underlying60 kqInfo rfl .i64 .i64 n (by omega) (by omega)
  clear hn ht hr
  go_enter Try.func58, Try.ntmps58
  go_wp2_with fail
  refine (dsize_any _ _ _ _ (by omega)).mono ?_
  rintro e w0 ⟨rfl, hb0⟩
  have HB0 := hide hb0
  clear hb0
  go_wp2_with fail
  clear hmk
  refine calls_gen fun w1 hw1 => ?_
  have HB1 : Hid (Below w.heap.size w w1) := hide (by rw [hw1]; exact HB0.out.alloc HB0.out.size _)
  obtain ⟨G, hG⟩ : ∃ G, w0.heap.size = G := ⟨_, rfl⟩
  have hgw : w.heap.size ≤ G := by have := HB0.out.size; omega
  have HROW1 : Hid (Row 2 w1 G (List.replicate n 0)) := hide (by rw [hw1, ← hG]; simpa using Row.made 2 w0 n)
  rw [hG]
  clear hw1 hG
  refine (dsize_any _ _ _ _ (by omega)).mono ?_
  rintro e w2 ⟨rfl, hb2⟩
  have HB2 := hide (HB1.out.trans (hb2.mono HB1.out.size))
  have HROW2 := hide (HROW1.out.own.later hb2 HROW1.out.own.lt)
  clear hb2
  go_wp2_with fail
  go_loopw [10] (fun i wr => ∃ k : Nat, k ≤ n ∧ i = .int .i64 k ∧ Below w.heap.size w wr ∧ OwnB 2 wr G ((kinkL f).take k ++ List.replicate (n - k) 0)) (fun i _ => n - (intOf i).toNat)
  case atStart => exact ⟨0, Nat.zero_le _, rfl, HB2.out, by simpa using HROW2.out⟩
  case round =>
    obtain ⟨k, hk, rfl, hbe, hrow⟩ := hrel
    have HBc := hide hbe
    have HOc := hide hrow
    clear hbe hrow
    by_cases hlt : k < n
    · have hltz : (k : Int) < n := by omega
      obtain ⟨u, hu⟩ : ∃ u, ap f k k = u := ⟨_, rfl⟩
      have HU := hide hu
      have hl : ((kinkL f).take k ++ List.replicate (n - k) 0).length = n := by have := HZ.out; simp; omega
      have HL := hide hl
      clear hu hl
      go_wp2_with fail
      refine (dot_any _ _ _ f k k u _ HN.out HTB.out (HR.out.later HBc.out) hlt hlt HU.out).mono ?_
      rintro e wd ⟨rfl, hbd⟩
      have HBd := hide (HBc.out.trans (hbd.mono HBc.out.size))
      have HOd := hide (HOc.out.later hbd HOc.out.lt)
      clear hbd
      have h2 := HOd.out.cell (i := k) (by have := HL.out; omega)
      have h3 := HOd.out.frozen k
      go_wp2_with fail
      go_roundw
      case rel =>
        have hst := HOd.out.set k (u : Int) (by have := HL.out; omega)
        have hg : (kinkL f).getD k 0 = (u : Int) := by rw [kinkL_getD f k (by have := HN.out; omega), HU.out]
        rw [← hg, kq_fill (kinkL f) n k HZ.out hlt, hg] at hst
        exact ⟨k + 1, by omega, by go_num, HBd.out.setCell (p := ⟨G, k, none⟩) hgw _, hst⟩
      case measure => simp [intOf]; omega
    · have hkn : k = n := by omega
      subst hkn
      go_wp2_with fail
      go_ret
      have h := HOc.out
      have hz := HZ.out
      rw [Nat.sub_self, List.replicate_zero, List.append_nil, List.take_of_length_le (by omega)] at h
      exact ⟨_, rfl, HBc.out, hgw, h⟩
end Go.Proofs.Ythkhkehpmolfaaa
namespace Go.Proofs.Ythkhkehpmolfaaa
open Go Go.RowKit
set_option maxHeartbeats 2000000

set_option maxRecDepth 100000 in
theorem faultD_any (A : Option Addr) (n c : Nat) (f : List (List Int)) (T : Nat) (w : World) (hn : f.length = n) (ht : Tbl f) (hr : Rd2 w A f) (hT : FirstQ (cyq f) n T) :
    Calls Try.prog 53 #[.slice A n c] w fun e w' => (T = n * n * n ∧ ∃ g, e = .returned (.slice (some ⟨g, 0, none⟩) 0 0) ∧ Below w.heap.size w w') ∨ (T < n * n * n ∧ ∃ g, e = .returned (.slice (some ⟨g, 0, none⟩) 3 3) ∧ Below w.heap.size w w' ∧ w.heap.size ≤ g ∧ OwnB 2 w' g (lst3 (trip n T))) := by
  have h1 : 1 ≤ n := by rw [← hn]; exact ht.1
  have h12 : n ≤ 12 := by rw [← hn]; exact ht.2.1
  obtain ⟨b, o, rfl, hb, hc⟩ := ht.cells hr hn
  have HC := hide hc
  have HN := hide hn
  have HTB := hide ht
  have HT := hide hT
  clear hn ht hr hT hc
  go_enter Try.func53, Try.ntmps53
  go_wp2_with fail
  go_loopw [4] (fun i wr => ∃ x : Nat, x ≤ n ∧ i = .int .i64 x ∧ Quiet w wr ∧ ∀ i, i < x * n * n → qAt (cyq f) n i = false) (fun i _ => n - (intOf i).toNat)
  case atStart => exact ⟨0, Nat.zero_le _, rfl, Quiet.refl _, fun i hi => absurd hi (by omega)⟩
  case round =>
    obtain ⟨x, hx, rfl, hq, hall⟩ := hrel
    have HQ := hide hq
    clear hq
    have HALL := hide hall
    clear hall
    by_cases hlt : x < n
    · have hxz : (x : Int) < n := by omega
      go_wp2_with fail
      go_loopw [5] (fun i wi => ∃ y : Nat, y ≤ n ∧ i = .int .i64 y ∧ Quiet w wi ∧ ∀ i, i < (x * n + y) * n → qAt (cyq f) n i = false) (fun i _ => n - (intOf i).toNat)
      case atStart => exact ⟨0, Nat.zero_le _, rfl, HQ.out, fun i hi => HALL.out i (by rw [Nat.add_zero] at hi; exact hi)⟩
      case round =>
        obtain ⟨y, hy, rfl, hq, halli⟩ := hrel
        have HQI := hide hq
        clear hq
        have HALLI := hide halli
        clear halli
        by_cases hlty : y < n
        · have hyz : (y : Int) < n := by omega
          go_wp2_with fail
          go_loopw [6] (fun i wi => ∃ z : Nat, z ≤ n ∧ i = .int .i64 z ∧ Quiet w wi ∧ ∀ i, i < (x * n + y) * n + z → qAt (cyq f) n i = false) (fun i _ => n - (intOf i).toNat)
          case atStart => exact ⟨0, Nat.zero_le _, rfl, HQI.out, HALLI.out⟩
          case round =>
            obtain ⟨z, hzn, rfl, hq, hallj⟩ := hrel
            have HQJ := hide hq
            clear hq
            have HALLJ := hide hallj
            clear hallj
            by_cases hltz : z < n
            · have hzz : (z : Int) < n := by omega
              have hq1 := HTB.out.ap_lt HN.out hlt hlty
              have hq3 := HTB.out.ap_lt HN.out hlty hlt
              have hq2 := HTB.out.ap_lt HN.out hlt hltz
              have hq4 := HTB.out.ap_lt HN.out hlty hltz
              have hat := qAt_at (q := cyq f) (n := n) (x := x) hlty hltz
              have HTR := hide (trip_of (n := n) (x := x) hlty hltz)
              have HKL := hide (trip_lt (n := n) hlt hlty hltz)
              unfold cyq at hat
              obtain ⟨q1, h_1⟩ : ∃ u, ap f x y = u := ⟨_, rfl⟩
              obtain ⟨q2, h_2⟩ : ∃ u, ap f x z = u := ⟨_, rfl⟩
              obtain ⟨q3, h_3⟩ : ∃ u, ap f y x = u := ⟨_, rfl⟩
              obtain ⟨q4, h_4⟩ : ∃ u, ap f y z = u := ⟨_, rfl⟩
              rw [h_1, h_2, h_3, h_4] at hat
              rw [h_1] at hq1
              rw [h_2] at hq2
              rw [h_3] at hq3
              rw [h_4] at hq4
              obtain ⟨q5, h_5⟩ : ∃ u, ap f q1 q2 = u := ⟨_, rfl⟩
              obtain ⟨q6, h_6⟩ : ∃ u, ap f q3 q4 = u := ⟨_, rfl⟩
              rw [h_5, h_6] at hat
              have HAT : Hid (qAt (cyq f) n ((x * n + y) * n + z) = !decide (q5 = q6)) := hide hat
              obtain ⟨bx, ox, cx, r1, r2, r3⟩ := HC.out x hlt
              obtain ⟨by', oy, cy, s1, s2, s3⟩ := HC.out y hlty
              obtain ⟨bp, op, cp, t1, t2, t3⟩ := HC.out q1 hq1
              obtain ⟨bq, oq, cq, v1, v2, v3⟩ := HC.out q3 hq3
              have e1 := r3 y hlty
              rw [h_1] at e1
              have e2 := r3 z hltz
              rw [h_2] at e2
              have e3 := s3 x hlt
              rw [h_3] at e3
              have e4 := s3 z hltz
              rw [h_4] at e4
              have e5 := t3 q2 hq2
              rw [h_5] at e5
              have e6 := v3 q4 hq4
              rw [h_6] at e6
              have z1 : (q1 : Int) < n := by omega
              have z2 : (q2 : Int) < n := by omega
              have z3 : (q3 : Int) < n := by omega
              have z4 : (q4 : Int) < n := by omega
              have hbl := HQJ.out.below w.heap.size
              replace r1 := (hbl.cell (p := ⟨b, o + x, none⟩) hb).trans r1
              replace s1 := (hbl.cell (p := ⟨b, o + y, none⟩) hb).trans s1
              replace t1 := (hbl.cell (p := ⟨b, o + q1, none⟩) hb).trans t1
              replace v1 := (hbl.cell (p := ⟨b, o + q3, none⟩) hb).trans v1
              replace e1 := (hbl.cell (p := ⟨bx, ox + y, none⟩) r2).trans e1
              replace e2 := (hbl.cell (p := ⟨bx, ox + z, none⟩) r2).trans e2
              replace e3 := (hbl.cell (p := ⟨by', oy + x, none⟩) s2).trans e3
              replace e4 := (hbl.cell (p := ⟨by', oy + z, none⟩) s2).trans e4
              replace e5 := (hbl.cell (p := ⟨bp, op + q2, none⟩) t2).trans e5
              replace e6 := (hbl.cell (p := ⟨bq, oq + q4, none⟩) v2).trans e6
              clear hbl h_1 h_2 h_3 h_4 h_5 h_6 hat r3 s3 t3 v3
              by_cases hcs : q5 = q6
              · have HGOOD : Hid (qAt (cyq f) n ((x * n + y) * n + z) = false) := hide (by rw [HAT.out, hcs]; simp)
                subst hcs
                go_wp2_with fail
                go_quiet (fail)
                go_wp2_with fail
                go_roundw
                case rel => exact ⟨z + 1, by omega, by go_num, HQJ.out.drewN _, fun i hi => by
                  by_cases e : i = (x * n + y) * n + z
                  · rw [e]; exact HGOOD.out
                  · exact HALLJ.out i (by omega)⟩
                case measure => simp [intOf]; omega
              · have hbad : qAt (cyq f) n ((x * n + y) * n + z) = true := by rw [HAT.out]; simp [hcs]
                have HTB2 := hide (HT.out.bad HALLJ.out HKL.out hbad)
                have hcz : ¬ (q5 : Int) = q6 := by omega
                clear hbad
                go_wp2_with fail
                go_quiet (fail)
                go_wp2_with fail
                refine bp_gen fun wf hwf => ?_
                have HBF : Below w.heap.size w wf := by rw [hwf]; exact ((HQJ.out.drewN nq).below _).alloc ((HQJ.out.drewN nq).below 0).size _
                have HLF : Hid (Blk wf (wr.drewN nq).heap.size 2 [.int .i64 x, .int .i64 y, .int .i64 z]) := hide (by rw [hwf]; exact Blk.new _ _ _)
                have hlo : w.heap.size ≤ (wr.drewN nq).heap.size := ((HQJ.out.drewN nq).below 0).size
                clear hwf
                go_ret
                exact .inr ⟨by rw [HTB2.out]; exact HKL.out, _, rfl, HBF, hlo, _, HLF.out, fun i hi => by
                  rw [HTB2.out, HTR.out] at hi ⊢
                  simp [lst3] at hi
                  rcases i with _ | _ | _ | i
                  · rfl
                  · rfl
                  · rfl
                  · omega⟩
            · have hzn' : z = n := by omega
              subst hzn'
              go_wp2_with fail
              go_roundw
              case rel => exact ⟨y + 1, by omega, by go_num, HQJ.out, fun i hi => HALLJ.out i (by rw [← Nat.add_assoc, Nat.add_mul _ 1, Nat.one_mul] at hi; exact hi)⟩
              case measure => simp [intOf]; omega
        · have hyn' : y = n := by omega
          subst hyn'
          go_wp2_with fail
          go_roundw
          case rel => exact ⟨x + 1, by omega, by go_num, HQI.out, fun i hi => HALLI.out i (by rw [Nat.add_mul x 1, Nat.one_mul] at hi; exact hi)⟩
          case measure => simp [intOf]; omega
    · have hxn : x = n := by omega
      subst hxn
      go_wp2_with fail
      refine bp_gen fun wf hwf => ?_
      have HBF : Below w.heap.size w wf := by rw [hwf]; exact (HQ.out.below _).alloc (HQ.out.below 0).size _
      clear hwf
      go_ret
      exact .inl ⟨HT.out.all HALL.out, _, rfl, HBF⟩

set_option maxRecDepth 100000 in
theorem squaresS_any (A : Option Addr) (n c : Nat) (f : List (List Int)) (w : World) (hn : f.length = n) (ht : Tbl f) (hr : Rd2 w A f) :
    Calls Try.prog 57 #[.slice A n c] w fun e w' => ∃ A' c', e = .returned (.slice A' n c') ∧ Below w.heap.size w w' ∧ Res 2 w.heap.size w' A' (kinkL f) := by
  have h1 : 1 ≤ n := by rw [← hn]; exact ht.1
  have h12 : n ≤ 12 := by rw [← hn]; exact ht.2.1
  obtain ⟨b, o, rfl, hb, hc⟩ := ht.cells hr hn
  have HC := hide hc
  have HN := hide hn
  have HZ : Hid ((kinkL f).length = n) := hide ((kinkL_length f).trans hn)
  obtain ⟨i0, hi, hz0, hz1, hz2⟩ := info_parts kqInfo
  have HB0 := hide ((Below.refl _ w).alloc (Nat.le_refl _) (Obj.cells #[] 2))
  have HE0 := hide (kq_empty w 2)
  clear hn ht hr hc
  go_enter Try.func57, Try.ntmps57
  go_wp2_with fail
  go_loopw [3, 4] (fun v i wr => ∃ k : Nat, k ≤ n ∧ i = .int .i64 k ∧ Below w.heap.size w wr ∧ wr.ownsRow w.heap.size 2 1 v k (ints ((kinkL f).take k)) ∧ w.heap.size ≤ wr.heap.size) (fun _ i _ => n - (intOf i).toNat)
  case atStart => exact ⟨0, Nat.zero_le _, rfl, HB0.out, by simpa [ints] using HE0.out, by simp⟩
  case round =>
    obtain ⟨k, hk, rfl, hbe, hown, hsz⟩ := hrel
    have HB := hide hbe
    have HO := hide hown
    clear hbe hown
    by_cases hlt : k < n
    · obtain ⟨bx, ox, cx, r1, r2, r3⟩ := HC.out k hlt
      have e1 := r3 k hlt
      obtain ⟨u, hu⟩ : ∃ u, ap f k k = u := ⟨_, rfl⟩
      rw [hu] at e1
      have HU := hide hu
      replace r1 := (HB.out.cell (p := ⟨b, o + k, none⟩) hb).trans r1
      replace e1 := (HB.out.cell (p := ⟨bx, ox + k, none⟩) r2).trans e1
      clear r3 hu
      have hltz : (k : Int) < n := by omega
      go_wp2_with (at_builtin; refine wpList_append_own _ rfl _ _ 31 rfl w.heap.size 2 i0 (.int .i64 0) 1 8 Try.underlying31 hi hz0 hz1 hz2 rfl (by decide) _ _ _ rfl (HO.out.alloc _) ⟨wr.heap.size, 0, none⟩ 1 1 [.int .i64 (u : Int)] rfl rfl ?c1 ?c2 ?c3 ?c4 ?c5 ?_)
      case c1 => exact kq_new
      case c2 => intro u hu; simp at hu; subst hu; rfl
      case c3 => unfold maxLen; omega
      case c4 => omega
      case c5 => simp; omega
      intro v' w1 hown' hgrow _
      have HO' := hide hown'
      have HG := hide hgrow
      clear hown' hgrow
      go_wp2_with fail
      go_roundw
      case rel =>
        have hlow : w.heap.size ≤ wr.heap.size := by omega
        have hB1 : Below w.heap.size w w1 := (HB.out.alloc hlow _).grown HG.out (by simp; omega) (fun g hg => by have h := ((HO.out.alloc (.cells #[.int .i64 (u : Int)] 2)).lt g hg).1; omega)
        refine ⟨k + 1, by omega, by go_num, hB1, ?_, hB1.size⟩
        have h := HO'.out
        rw [kq_take _ k (u : Int) (by have := HZ.out; omega) (by rw [kinkL_getD f k (by have := HN.out; omega), HU.out])] at h
        exact h
      case measure => simp [intOf]; omega
    · have hkn : k = n := by omega
      subst hkn
      go_wp2_with fail
      have h := HO.out
      rw [List.take_of_length_le (by have := HZ.out; omega)] at h
      go_ret
      obtain ⟨A', c', hv, hres⟩ := own_shape h
      exact ⟨A', c', by rw [← hv]; rfl, HB.out, hres.mono (by omega)⟩

set_option maxRecDepth 100000 in
theorem isCycS (A : Option Addr) (n c : Nat) (f : List (List Int)) (r : Bool) (w : World) (hn : f.length = n) (hb : n ≤ 1048576) (hbs : ∀ i, i < f.length → (f.getD i []).length ≤ 1048576) (hr : Rd2 w A f) (hres : CyRes f r) :
    Calls Try.prog 48 #[.agg #[.slice A n c]] w fun e w' => e = .returned (.bool r) ∧ Below w.heap.size w w' := by
  have HN := hide hn
  have HBS := hide hbs
  have HRD := hide hr
  have HR := hide hres
  have HB0 := hide ((Below.refl _ w).alloc (Nat.le_refl _) (Obj.cells #[Value.slice A n c] 27))
  have HK0 := hide (Blk.new w 27 [.slice A n c])
  have hno : ¬ Cyc f → r = false := fun h => by
    cases r
    · rfl
    · exact absurd (hres.1 rfl) h
  have HNO := hide hno
  have hyes : Cyc f → r = true := fun h => hres.2 h
  have HYES := hide hyes
  clear hno hyes hn hbs hr hres
  by_cases ht : Tbl f
  · have HTB := hide ht
    clear ht
    have h12 : n ≤ 12 := by rw [← HN.out]; exact HTB.out.2.1
    go_enter Try.func48, Try.ntmps48
    go_wp2_with fail
    refine (l01Table_any _ _ _ f true _ HN.out (by omega) (fun i hi => by have := HBS.out i hi; omega) (HRD.out.later HB0.out) (by simp [HTB.out])).mono ?_
    rintro e w1 ⟨rfl, hq1⟩
    have HB1 := hide (HB0.out.trans (hq1.below _))
    have HK1 := hide (HK0.out.later (hq1.below _))
    clear hq1
    have k0 := HK1.out.cell 0 _ rfl
    by_cases hp : AllPrm f
    · have HP := hide hp
      clear hp
      go_wp2_with fail
      clear k0
      refine (rowsS_any _ _ _ f true _ HN.out hb HBS.out (HRD.out.later HB1.out) ⟨fun _ => HP.out, fun _ => rfl⟩).mono ?_
      rintro e w2 ⟨rfl, hb2⟩
      have HB2 := hide (HB1.out.trans (hb2.mono HB1.out.size))
      have HK2 := hide (HK1.out.later hb2)
      clear hb2
      have k0 := HK2.out.cell 0 _ rfl
      go_wp2_with fail
      clear k0
      refine (squaresS_any _ _ _ f _ HN.out HTB.out (HRD.out.later HB2.out)).mono ?_
      rintro e w3 ⟨A3, c3, rfl, hb3, hres3⟩
      have HB3 := hide (HB2.out.trans (hb3.mono HB2.out.size))
      have HK3 := hide (HK2.out.later hb3)
      have HS3 := hide hres3.rd
      clear hb3 hres3
      by_cases hs : Prm (kinkL f)
      · have HS := hide hs
        clear hs
        go_wp2_with fail
        refine (prmS_below _ _ _ (kinkL f) true _ ((kinkL_length f).trans HN.out) (by omega) HS3.out (by simp [HS.out])).mono ?_
        rintro e w4 ⟨rfl, hb4⟩
        have HB4 := hide (HB3.out.trans (hb4.mono HB3.out.size))
        have HK4 := hide (HK3.out.later hb4)
        clear hb4
        have k0 := HK4.out.cell 0 _ rfl
        go_wp2_with fail
        clear k0
        obtain ⟨T, hT⟩ := FirstQ.ex (cyq f) n
        have HT := hide hT
        clear hT
        refine (faultD_any _ _ _ f T _ HN.out HTB.out (HRD.out.later HB4.out) HT.out).mono ?_
        rintro e w5 (⟨hTe, g, rfl, hb5⟩ | ⟨hTl, g, rfl, hb5, hg, hob⟩)
        · have hrt : r = true := HYES.out ⟨⟨HTB.out, HP.out⟩, HS.out, by rw [HN.out]; exact HT.out.iff.1 hTe⟩
          subst hrt
          have HB5 := hide (HB4.out.trans (hb5.mono HB4.out.size))
          clear hb5 hTe
          go_wp2_with fail
          go_ret
          exact ⟨rfl, HB5.out⟩
        · have hrf : r = false := HNO.out fun h => by
            have h := h.2.2
            rw [HN.out] at h
            have := HT.out.iff.2 h
            omega
          subst hrf
          have HB5 := hide (HB4.out.trans (hb5.mono HB4.out.size))
          clear hb5 hTl hob
          go_wp2_with fail
          go_ret
          exact ⟨rfl, HB5.out⟩
      · have HS := hide hs
        clear hs
        go_wp2_with fail
        refine (prmS_below _ _ _ (kinkL f) false _ ((kinkL_length f).trans HN.out) (by omega) HS3.out (by simp [HS.out])).mono ?_
        rintro e w4 ⟨rfl, hb4⟩
        have HB4 := hide (HB3.out.trans (hb4.mono HB3.out.size))
        clear hb4
        have hrf : r = false := HNO.out fun h => HS.out h.2.1
        subst hrf
        go_wp2_with fail
        go_ret
        exact ⟨rfl, HB4.out⟩
    · have HP := hide hp
      clear hp
      go_wp2_with fail
      clear k0
      refine (rowsS_any _ _ _ f false _ HN.out hb HBS.out (HRD.out.later HB1.out) ⟨fun h => (by cases h), fun h => absurd h HP.out⟩).mono ?_
      rintro e w2 ⟨rfl, hb2⟩
      have HB2 := hide (HB1.out.trans (hb2.mono HB1.out.size))
      clear hb2
      have hrf : r = false := HNO.out fun h => HP.out h.prm
      subst hrf
      go_wp2_with fail
      go_ret
      exact ⟨rfl, HB2.out⟩
  · have HTB := hide ht
    clear ht
    have hrf : r = false := HNO.out fun h => HTB.out h.tbl
    subst hrf
    go_enter Try.func48, Try.ntmps48
    go_wp2_with fail
    refine (l01Table_any _ _ _ f false _ HN.out (by omega) (fun i hi => by have := HBS.out i hi; omega) (HRD.out.later HB0.out) (by simp [HTB.out])).mono ?_
    rintro e w1 ⟨rfl, hq1⟩
    have HB1 := hide (HB0.out.trans (hq1.below _))
    clear hq1
    go_wp2_with fail
    go_ret
    exact ⟨rfl, HB1.out⟩
end Go.Proofs.Ythkhkehpmolfaaa
