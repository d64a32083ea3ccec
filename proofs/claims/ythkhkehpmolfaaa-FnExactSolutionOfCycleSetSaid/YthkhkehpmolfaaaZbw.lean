import Derived.Test.YthkhkehpmolfaaaZbs
import Derived.Test.YthkhkehpmolfaaaZu
import Derived.Test.YthkhkehpmolfaaaZq
import Derived.Test.YthkhkehpmolfaaaZbd
import Derived.Test.YthkhkehpmolfaaaZap
import Derived.Test.YthkhkehpmolfaaaZi
import Derived.Deep.Cut
namespace Go.Proofs.Ythkhkehpmolfaaa
open Go Go.RowKit
set_option maxHeartbeats 2000000

set_option maxRecDepth 100000 in
theorem solS_any (A : Option Addr) (n c : Nat) (f : List (List Int)) (w : World) (hn : f.length = n) (hcy : Cyc f) (hr : Rd2 w A f) :
    Calls Try.prog 64 #[.agg #[.slice A n c]] w fun e w' => ∃ A' c' B' d', e = .returned (.agg #[.slice A' n c', .slice B' n d']) ∧ Below w.heap.size w w' ∧ ObjW 31 2 w.heap.size w'.heap.size w' A' (grid n (csH1 f)) B' (grid n (csH2 f)) := by
  have HCY := hide hcy
  have HTB := hide hcy.tbl
  have h1 : 1 ≤ n := by rw [← hn]; exact HTB.out.1
  have h12 : n ≤ 12 := by rw [← hn]; exact HTB.out.2.1
  have HN := hide hn
  have HRD := hide hr
  obtain ⟨b, o, rfl, hbw, hc⟩ := HTB.out.cells hr hn
  obtain ⟨b', o', hA, hbw', hc'⟩ := rd_rows HTB.out hr hn
  injection hA with hA
  injection hA with e1 e2
  subst e1
  subst e2
  have HC := hide hc
  have HC' := hide hc'
  clear hc hc' hbw' hn hcy hr
  go_enter Try.func64, Try.ntmps64
  go_upto_region 1 with fail
  refine wp_gen fun w0 hw0 => ?_
  have hb0 : Below w.heap.size w w0 := by rw [hw0]; exact ((Below.refl _ _).alloc (Nat.le_refl _) _).alloc (by simp) _
  have HB0 := hide hb0
  have HK0 : Hid (Blk w0 w.heap.size 27 [.slice (some ⟨b, o, none⟩) n c]) := hide (by rw [hw0]; exact (Blk.new _ _ _).alloc _)
  have HR0 : Hid (Blk w0 (w.heap.size + 1) 41 [.slice none 0 0, .slice none 0 0]) := hide (by rw [hw0]; have h := Blk.new (w.alloc (Obj.cells #[Value.slice (some ⟨b, o, none⟩) n c] 27)) 41 [.slice none 0 0, .slice none 0 0]; simpa using h)
  clear hw0 hb0
  have k0 := HK0.out.cell 0 _ rfl
  go_wp2_with fail
  clear k0
  refine (emptyS_any n _ h1 h12).mono ?_
  unfold EmPost
  rintro e w1 ⟨g1, c1, g2, c2, G1, G2, rfl, hb1, hd⟩
  have HB1 := hide (HB0.out.trans (hb1.mono HB0.out.size))
  have HK1 := hide (HK0.out.later hb1)
  have HR1 := hide (HR0.out.later hb1)
  have HD1 := hide hd
  have hlo : w.heap.size + 1 < w0.heap.size := HR0.out.lt
  have hG1 : ∀ i, i < n → G1 i < w1.heap.size := fun i hi => (hd.t1.row i hi).lt
  have hG2 : ∀ i, i < n → G2 i < w1.heap.size := fun i hi => (hd.t2.row i hi).lt
  have HG1 := hide hG1
  have HG2 := hide hG2
  clear hb1 hd hG1 hG2
  go_wp2_with fail
  refine wp_gen fun w2 hw2 => ?_
  have hb2 : Below w1.heap.size w1 w2 := by rw [hw2]; exact (Below.refl _ _).alloc (Nat.le_refl _) _
  have HO2 : Hid (Blk w2 w1.heap.size 41 [.slice (some ⟨g1, 0, none⟩) n c1, .slice (some ⟨g2, 0, none⟩) n c2]) := hide (by rw [hw2]; exact Blk.new _ _ _)
  have HB2 := hide (HB1.out.trans (hb2.mono HB1.out.size))
  have HK2 := hide (HK1.out.later hb2)
  have HR2 := hide (HR1.out.later hb2)
  have HD2 := hide ((HD1.out.later hb2).congr (h1 := rfTo (csH1 f) n 0) (h2 := rfTo (csH2 f) n 0) (fun a b _ _ => by simp [rfTo]) (fun a b _ _ => by simp [rfTo]))
  clear hw2 hb2
  go_loopw [5] (fun i wr => ∃ x : Nat, x ≤ n ∧ i = .int .i64 x ∧ Below w.heap.size w wr ∧ Blk wr w.heap.size 27 [.slice (some ⟨b, o, none⟩) n c] ∧ Blk wr (w.heap.size + 1) 41 [.slice none 0 0, .slice none 0 0] ∧ Blk wr w1.heap.size 41 [.slice (some ⟨g1, 0, none⟩) n c1, .slice (some ⟨g2, 0, none⟩) n c2] ∧ Duo 31 2 w0.heap.size wr n g1 G1 (rfTo (csH1 f) n (x * n)) g2 G2 (rfTo (csH2 f) n (x * n))) (fun i _ => n - (intOf i).toNat)
  case atStart => exact ⟨0, Nat.zero_le _, rfl, HB2.out, HK2.out, HR2.out, HO2.out, by rw [Nat.zero_mul]; exact HD2.out⟩
  case round =>
    obtain ⟨x, hx, rfl, hbe, hkk, hrr, hoo, hdd⟩ := hrel
    have HB := hide hbe
    have HK := hide hkk
    have HR := hide hrr
    have HO := hide hoo
    have HD := hide hdd
    clear hbe hkk hrr hoo hdd
    by_cases hlt : x < n
    · have hxz : (x : Int) < n := by omega
      obtain ⟨C1, r1⟩ := HD.out.t1.top
      obtain ⟨C2, r2⟩ := HD.out.t2.top
      have c1' := r1.cell hlt
      have c2' := r2.cell hlt
      have k0 := HO.out.cell 0 _ rfl
      have k1 := HO.out.cell 1 _ rfl
      obtain ⟨cx1, hcx1⟩ : ∃ a, C1 x = a := ⟨_, rfl⟩
      obtain ⟨cx2, hcx2⟩ : ∃ a, C2 x = a := ⟨_, rfl⟩
      rw [hcx1] at c1'
      rw [hcx2] at c2'
      clear r1 r2 hcx1 hcx2
      go_wp2_with fail
      go_quiet (fail)
      go_wp2_with fail
      clear k0 k1 c1' c2'
      refine wp_gen fun wo hwo => ?_
      have hW : Below wr.heap.size wr wo := by rw [hwo]; exact (Quiet.of wr nq).below _
      have HBo := hide (HB.out.trans (hW.mono HB.out.size))
      have HKo := hide (HK.out.later hW)
      have HRo := hide (HR.out.later hW)
      have HOo := hide (HO.out.later hW)
      have HDo := hide (HD.out.later hW)
      clear hwo hW
      go_loopw [8] (fun i wi => ∃ y : Nat, y ≤ n ∧ i = .int .i64 y ∧ Below w.heap.size w wi ∧ Blk wi w.heap.size 27 [.slice (some ⟨b, o, none⟩) n c] ∧ Blk wi (w.heap.size + 1) 41 [.slice none 0 0, .slice none 0 0] ∧ Blk wi w1.heap.size 41 [.slice (some ⟨g1, 0, none⟩) n c1, .slice (some ⟨g2, 0, none⟩) n c2] ∧ Duo 31 2 w0.heap.size wi n g1 G1 (rfTo (csH1 f) n (x * n + y)) g2 G2 (rfTo (csH2 f) n (x * n + y))) (fun i _ => n - (intOf i).toNat)
      case atStart => exact ⟨0, Nat.zero_le _, rfl, HBo.out, HKo.out, HRo.out, HOo.out, HDo.out⟩
      case round =>
        obtain ⟨y, hy, rfl, hbi, hki, hri, hoi, hdi⟩ := hrel
        have HBI := hide hbi
        have HKI := hide hki
        have HRI := hide hri
        have HOI := hide hoi
        have HDI := hide hdi
        clear hbi hki hri hoi hdi
        by_cases hlty : y < n
        · have hyz : (y : Int) < n := by omega
          have hu := sol_lt HCY.out.tbl HCY.out.prm HN.out hlt hlty
          have hix := sol_ix HCY.out.tbl HCY.out.prm HN.out hlt hlty
          obtain ⟨Bx, cx, r1, hrd⟩ := HC'.out x hlt
          obtain ⟨u, hue⟩ : ∃ u, sol f x y = u := ⟨_, rfl⟩
          rw [hue] at hu hix
          obtain ⟨v, hve⟩ : ∃ v, ap f u x = v := ⟨_, rfl⟩
          have HZ1 : Hid (csH1 f x y = (u : Int)) := hide (by unfold csH1; rw [hue])
          have HZ2 : Hid (csH2 f x y = (v : Int)) := hide (by unfold csH2; rw [hue, hve])
          obtain ⟨bu, ou, cu, s1, s2, s3⟩ := HC.out u hu
          have s4 := s3 x hlt
          rw [hve] at s4
          have HIX := hide hix
          have HRX := hide (hrd.later HBI.out)
          have HLX := hide (HTB.out.row_len HN.out hlt)
          replace r1 := (HBI.out.cell (p := ⟨b, o + x, none⟩) hbw).trans r1
          have S1 := hide s1
          have S2 := hide s2
          have S4 := hide s4
          have k0 := HKI.out.cell 0 _ rfl
          have huz : (u : Int) < n := by omega
          clear hue hve hix hrd s1 s2 s3 s4
          go_wp2_with fail
          refine (index_any _ _ _ (f.getD x []) (y : Int) _ HLX.out (by omega) HRX.out).mono ?_
          rintro e w4 ⟨rfl, hq4⟩
          rw [HIX.out]
          have hq := hq4.below wr.heap.size
          replace HBI := hide (HBI.out.trans (hq.mono HBI.out.size))
          replace HKI := hide (HKI.out.later hq)
          replace HRI := hide (HRI.out.later hq)
          replace HOI := hide (HOI.out.later hq)
          replace HDI := hide (HDI.out.later hq)
          clear hq4 hq k0 r1
          have j1 := (HDI.out.t1.row x hlt).cell hlty
          have j2 := (HDI.out.t1.row x hlt).frozen y
          have lG1 := HDI.out.l1.2 x hlt
          have lG2 := HDI.out.l2.2 x hlt
          have gu1 := HG1.out x hlt
          have gu2 := HG2.out x hlt
          go_upto_region 12 with fail
          refine wp_gen fun w5 hw5 => ?_
          have HB5 : Hid (Below w.heap.size w w5) := hide (by rw [hw5]; exact HBI.out.setCell (p := ⟨G1 x, y, none⟩) (by show w.heap.size ≤ G1 x; omega) _)
          have HK5 : Hid (Blk w5 w.heap.size 27 [.slice (some ⟨b, o, none⟩) n c]) := hide (by rw [hw5]; exact HKI.out.far (p := ⟨G1 x, y, none⟩) (by show w.heap.size ≠ G1 x; omega) _)
          have HR5 : Hid (Blk w5 (w.heap.size + 1) 41 [.slice none 0 0, .slice none 0 0]) := hide (by rw [hw5]; exact HRI.out.far (p := ⟨G1 x, y, none⟩) (by show w.heap.size + 1 ≠ G1 x; omega) _)
          have HO5 : Hid (Blk w5 w1.heap.size 41 [.slice (some ⟨g1, 0, none⟩) n c1, .slice (some ⟨g2, 0, none⟩) n c2]) := hide (by rw [hw5]; exact HOI.out.far (p := ⟨G1 x, y, none⟩) (by show w1.heap.size ≠ G1 x; omega) _)
          have HD5 := HDI.out.set1 x y (u : Int) hlt
          rw [← hw5] at HD5
          replace HD5 := hide HD5
          clear hw5 j1 j2
          have k0 := HK5.out.cell 0 _ rfl
          have j3 := (HD5.out.t2.row x hlt).cell hlty
          have j4 := (HD5.out.t2.row x hlt).frozen y
          have s1 := (HB5.out.cell (p := ⟨b, o + u, none⟩) hbw).trans S1.out
          have s4 := (HB5.out.cell (p := ⟨bu, ou + x, none⟩) S2.out).trans S4.out
          go_wp2_with fail
          clear k0 j3 j4 s1 s4
          go_roundw
          case rel =>
            refine ⟨y + 1, by omega, by go_num, HB5.out.setCell (p := ⟨G2 x, y, none⟩) (by show w.heap.size ≤ G2 x; omega) _, HK5.out.far (p := ⟨G2 x, y, none⟩) (by show w.heap.size ≠ G2 x; omega) _, HR5.out.far (p := ⟨G2 x, y, none⟩) (by show w.heap.size + 1 ≠ G2 x; omega) _, HO5.out.far (p := ⟨G2 x, y, none⟩) (by show w1.heap.size ≠ G2 x; omega) _, ?_⟩
            have hd := HD5.out.set2 x y (v : Int) hlt
            rw [← HZ1.out, ← HZ2.out] at hd
            rw [← HZ2.out]
            exact hd.congr (rfTo_upd (csH1 f) n (x * n + y) x y (pair_div n x y hlty) (pair_mod n x y hlty) hlty) (rfTo_upd (csH2 f) n (x * n + y) x y (pair_div n x y hlty) (pair_mod n x y hlty) hlty)
          case measure => simp [intOf]; omega
        · have hyn : y = n := by omega
          subst hyn
          go_wp2_with fail
          go_roundw
          case rel => exact ⟨x + 1, by omega, by go_num, HBI.out, HKI.out, HRI.out, HOI.out, by rw [Nat.add_mul, Nat.one_mul]; exact HDI.out⟩
          case measure => simp [intOf]; omega
    · have hxn : x = n := by omega
      subst hxn
      have k0 := HO.out.cell 0 _ rfl
      have k1 := HO.out.cell 1 _ rfl
      have k2 := HR.out.cell 0 _ rfl
      have k3 := HR.out.cell 1 _ rfl
      have k4 := HR.out.frozen 0
      have k5 := HR.out.frozen 1
      go_wp2_with fail
      refine bp_gen fun wf hwf => ?_
      have rfa : ∀ (h : Nat → Nat → Int) (a b : Nat), a < x → b < x → rfTo h x (x * x) a b = h a b := fun h a b ha hb => by unfold rfTo; rw [if_pos (pair_lt x a b ha hb)]
      have HDF := HD.out.congr (rfa (csH1 f)) (rfa (csH2 f))
      obtain ⟨q0, q1, hbf, hof⟩ := wend hwf HR.out (by omega) hlo HB.out HB0.out.size (HDF.objW (Nat.le_refl _))
      clear hwf k0 k1 k2 k3 k4 k5
      exact bodyPost_ret (v := .agg #[.slice (some ⟨g1, 0, none⟩) x c1, .slice (some ⟨g2, 0, none⟩) x c2]) (by simp [results, Try.results64, go_sem, q0, q1]) rfl ⟨_, _, _, _, rfl, hbf, hof⟩

set_option maxRecDepth 100000 in
theorem csoS_any (A : Option Addr) (n c : Nat) (f : List (List Int)) (zf zg : List (List Int)) (code : Int) (k kw : Nat) (w : World) (hn : f.length = n) (hb : n ≤ 1048576) (hbs : ∀ i, i < f.length → (f.getD i []).length ≤ 1048576) (hr : Rd2 w A f) (hres : CsoRes f zf zg code) (hk : ZSz 1048576 zf k zg kw) :
    Calls Try.prog 29 #[.agg #[.slice A n c]] w (fun e w' => ∃ A' c' B' d', e = .returned (.tuple #[.agg #[.slice A' k c', .slice B' kw d'], .int .i64 code]) ∧ Below w.heap.size w w' ∧ ObjW 31 2 w.heap.size w'.heap.size w' A' zf B' zg) := by
  have HN := hide hn
  have HBS := hide hbs
  have HRD := hide hr
  have HB0 := hide (((Below.refl _ w).alloc (Nat.le_refl _) (Obj.cells #[Value.slice A n c] 27)).alloc (by simp) (Obj.cells #[.slice none 0 0, .slice none 0 0] 41))
  have HK0 := hide ((Blk.new w 27 [.slice A n c]).alloc (Obj.cells #[.slice none 0 0, .slice none 0 0] 41))
  have HR0 : Hid (Blk ((w.alloc (Obj.cells #[Value.slice A n c] 27)).alloc (Obj.cells #[.slice none 0 0, .slice none 0 0] 41)) (w.heap.size + 1) 41 [.slice none 0 0, .slice none 0 0]) := hide (by have h := Blk.new (w.alloc (Obj.cells #[Value.slice A n c] 27)) 41 [.slice none 0 0, .slice none 0 0]; simpa using h)
  rcases hres with ⟨hcy, rfl, rfl, rfl⟩ | ⟨hcy, rfl, rfl, rfl⟩
  · have hk1 : k = n := by rw [← hk.fl, grid_length, hn]
    have hk2 : kw = n := by rw [← hk.sl, grid_length, hn]
    subst hk1
    subst hk2
    rw [hn]
    clear hn hbs hr hk
    have HCY := hide hcy
    have HTB := hide hcy.tbl
    have h1 : 1 ≤ kw := by rw [← HN.out]; exact HTB.out.1
    have h12 : kw ≤ 12 := by rw [← HN.out]; exact HTB.out.2.1
    have HCR : Hid (CyRes f true) := hide ⟨fun _ => HCY.out, fun _ => rfl⟩
    clear hcy
    go_enter Try.func29, Try.ntmps29
    have k0 := HK0.out.cell 0 _ rfl
    go_wp2_with fail
    refine (isCycS _ _ _ f true _ HN.out hb HBS.out (HRD.out.later HB0.out) HCR.out).mono ?_
    rintro e w1 ⟨rfl, hb1⟩
    have HB1 := hide (HB0.out.trans (hb1.mono HB0.out.size))
    have HK1 := hide (HK0.out.later hb1)
    replace HR0 := hide (HR0.out.later hb1)
    clear hb1 k0
    have k0 := HK1.out.cell 0 _ rfl
    go_wp2_with fail
    refine (solS_any A kw c f _ HN.out HCY.out (HRD.out.later HB1.out)).mono ?_
    rintro e w3 ⟨A3, c3, B3, d3, rfl, hb3, hobj⟩
    have HR3 := hide (HR0.out.later hb3)
    have HO := hide hobj
    have HLT := hide HR0.out.lt
    have HLO := hide HB1.out.size
    have HB3 := hide (HB1.out.trans (hb3.mono HB1.out.size))
    clear hb3 hobj k0
    have k2 := HR3.out.cell 0 _ rfl
    have k3 := HR3.out.cell 1 _ rfl
    have k4 := HR3.out.frozen 0
    have k5 := HR3.out.frozen 1
    go_wp2_with fail
    refine bp_gen fun wf hwf => ?_
    obtain ⟨q0, q1, hbf, hof⟩ := wend hwf HR3.out (by omega) HLT.out HB3.out HLO.out HO.out
    clear hwf k2 k3 k4 k5
    exact bodyPost_ret (v := .tuple #[.agg #[.slice A3 kw c3, .slice B3 kw d3], .int .i64 0]) (by simp [results, Try.results29, go_sem, q0, q1]) rfl ⟨_, _, _, _, rfl, hbf, hof⟩
  · have hk1 : k = 0 := by rw [← hk.fl]; rfl
    have hk2 : kw = 0 := by rw [← hk.sl]; rfl
    subst hk1
    subst hk2
    clear hn hbs hr hk
    have HCR : Hid (CyRes f false) := hide ⟨fun h => (by cases h), fun h => absurd h hcy⟩
    clear hcy
    go_enter Try.func29, Try.ntmps29
    have k0 := HK0.out.cell 0 _ rfl
    go_wp2_with fail
    refine (isCycS _ _ _ f false _ HN.out hb HBS.out (HRD.out.later HB0.out) HCR.out).mono ?_
    rintro e w1 ⟨rfl, hb1⟩
    have HB1 := hide (HB0.out.trans (hb1.mono HB0.out.size))
    have HK1 := hide (HK0.out.later hb1)
    replace HR0 := hide (HR0.out.later hb1)
    clear hb1 k0
    have k2 := HR0.out.cell 0 _ rfl
    have k3 := HR0.out.frozen 0
    have k4 := HR0.out.cell 1 _ rfl
    have k5 := HR0.out.frozen 1
    go_wp2_with fail
    refine bp_gen fun wf hwf => ?_
    have HRF : Blk wf (w.heap.size + 1) 41 [.slice none 0 0, .slice none 0 0] := by rw [hwf]; first | exact HR0.out | exact HR0.out.set 0 _ | exact (HR0.out.set 0 _).set 1 _
    have hbf : Below w.heap.size w wf := by rw [hwf]; first | exact HB1.out | exact HB1.out.setCell (p := ⟨w.heap.size + 1, 0, none⟩) (by show w.heap.size ≤ w.heap.size + 1; omega) _ | exact (HB1.out.setCell (p := ⟨w.heap.size + 1, 0, none⟩) (by show w.heap.size ≤ w.heap.size + 1; omega) _).setCell (p := ⟨w.heap.size + 1, 1, none⟩) (by show w.heap.size ≤ w.heap.size + 1; omega) _
    have q0 := HRF.cell 0 _ rfl
    have q1 := HRF.cell 1 _ rfl
    clear hwf k2 k3
    exact bodyPost_ret (v := .tuple #[.agg #[.slice none 0 0, .slice none 0 0], .int .i64 1]) (by simp [results, Try.results29, go_sem, q0, q1]) rfl ⟨_, _, _, _, rfl, hbf, ObjW.empty⟩

end Go.Proofs.Ythkhkehpmolfaaa
