import Derived.Test.YtpnlmmilnglmkaaZam
import Derived.Test.YtpnlmmilnglmkaaZao
import Derived.Test.YtpnlmmilnglmkaaZaj
import Derived.Test.YtpnlmmilnglmkaaZe
import Derived.Test.YtpnlmmilnglmkaaZd
import Derived.Test.YtpnlmmilnglmkaaZg
import Derived.Test.YtpnlmmilnglmkaaZj
import Derived.Deep.Cut
namespace Go.Proofs.Ytpnlmmilnglmkaa
open Go Go.RowKit
set_option maxHeartbeats 4000000

set_option maxRecDepth 100000 in
theorem twistC_any (A D E : Option Addr) (n c d e : Nat) (f : List (List Int)) (p : List Int) (pk bk_ rk : Nat) (w : World) (hn : f.length = n) (ht : Tbl f) (hr : Rd2 w A f) (hm : p.length = n) (hpr : Prm p) (hrp : Rd w D p) (hrb : Rd w E (backTo p p.length)) (hP : Blk w pk 37 [.slice D n d]) (hQ : Blk w bk_ 93 [.slice E n e]) (hK : Blk w rk 27 [.slice A n c]) :
    PairFn Try.prog 89 #[.pointer (some ⟨pk, 0, none⟩), .pointer (some ⟨bk_, 0, none⟩), .pointer (some ⟨rk, 0, none⟩)] n (tdH1 p) (tdH2 f p) w := by
  intro W x y hx hy hb
  have h1 : 1 ≤ n := by omega
  have h12 : n ≤ 12 := by rw [← hn]; exact ht.2.1
  have HN := hide hn
  have HTB := hide ht
  have HR := hide (hr.later hb)
  have HM := hide hm
  have HPR := hide hpr
  obtain ⟨bp, op_, hD, hbp, hcp⟩ := (hrp.later hb) (by omega)
  obtain ⟨bb, ob, hE, hbb, hcb⟩ := (hrb.later hb) (by rw [backTo_length]; omega)
  subst hD
  subst hE
  have hpy := pq_eq hpr (x := y) (by omega)
  have c2 := hcp y (by omega)
  rw [hpy.1] at c2
  unfold tdH1 tdH2
  have hun := hpy.2
  rw [hm] at hun
  obtain ⟨u, hu⟩ : ∃ u, pq p y = u := ⟨_, rfl⟩
  rw [hu] at c2 hun ⊢
  have hzn := ht.ap_lt hn hun hx
  obtain ⟨z, hz⟩ : ∃ z, ap f u x = z := ⟨_, rfl⟩
  rw [hz] at hzn ⊢
  have hbq := backTo_pq hpr (a := z) (by omega)
  have c3 := hcb z (by rw [backTo_length]; omega)
  rw [hbq.1] at c3
  obtain ⟨v, hv⟩ : ∃ v, pq (backTo p p.length) z = v := ⟨_, rfl⟩
  rw [hv] at c3 ⊢
  have HZ := hide hz
  have E1 := hide c3
  have E2 := hide c2
  have HPK := hide (hP.later hb)
  have HQK := hide (hQ.later hb)
  have HKK := hide (hK.later hb)
  have huz : (u : Int) < n := by omega
  have hyz : (y : Int) < n := by omega
  have hzz : (z : Int) < n := by omega
  show Calls Try.prog 89 #[.agg #[.int .i64 x, .int .i64 y], .pointer (some ⟨pk, 0, none⟩), .pointer (some ⟨bk_, 0, none⟩), .pointer (some ⟨rk, 0, none⟩)] W _
  clear hn ht hr hm hpr hrp hrb hP hQ hK hb hcp hcb c2 c3 hpy hbq hu hz hv
  go_enter Try.func89, Try.ntmps89
  go_upto_region 1 with fail
  refine wp_gen fun w1 hw1 => ?_
  have HBc : Hid (Below W.heap.size W w1) := hide (by rw [hw1]; exact ((Below.refl _ _).alloc (Nat.le_refl _) _).alloc (by simp) _)
  have HPc : Hid (Blk w1 W.heap.size 97 [.int .i64 x, .int .i64 y]) := hide (by rw [hw1]; exact (Blk.new _ _ _).alloc _)
  have HRc : Hid (Blk w1 (W.heap.size + 1) 97 [.int .i64 0, .int .i64 0]) := hide (by rw [hw1]; have h := Blk.new (W.alloc (Obj.cells #[Value.int IntKind.i64 x, Value.int IntKind.i64 y] 97)) 97 [.int .i64 0, .int .i64 0]; simpa using h)
  clear hw1
  have HXc := hide (HPK.out.later HBc.out)
  have HQc := hide (HQK.out.later HBc.out)
  have HKc := hide (HKK.out.later HBc.out)
  have x0 := HXc.out.cell 0 _ rfl
  have x1 := HPc.out.cell 1 _ rfl
  have x2 := (HBc.out.cell (p := ⟨bp, op_ + y, none⟩) hbp).trans E2.out
  go_upto_region 2 with fail
  clear x0 x1 x2 HXc
  have hkr : rk < W.heap.size := HKK.out.lt
  have hkq : bk_ < W.heap.size := HQK.out.lt
  have n1 : W.heap.size + 1 ≠ bb := by omega
  have n2 : W.heap.size + 1 ≠ rk := by omega
  have n3 : W.heap.size + 1 ≠ bk_ := by omega
  have n4 : W.heap.size + 1 ≠ W.heap.size := by omega
  have m1 := n1.symm
  have m2 := n2.symm
  have m3 := n3.symm
  have m4 := n4.symm
  have k0 := HQc.out.cell 0 _ rfl
  have k1 := HKc.out.cell 0 _ rfl
  have k2 := HPc.out.cell 0 _ rfl
  have e1 := (HBc.out.cell (p := ⟨bb, ob + z, none⟩) hbb).trans E1.out
  have r0 := HRc.out.cell 0 _ rfl
  have r1 := HRc.out.cell 1 _ rfl
  have g0 := HRc.out.frozen 0
  have g1 := HRc.out.frozen 1
  go_region_held3 (fun w' => w'.cell? ⟨bk_, 0, none⟩ = some (.slice (some ⟨bb, ob, none⟩) n e) ∧ w'.cell? ⟨rk, 0, none⟩ = some (.slice A n c) ∧ w'.cell? ⟨W.heap.size, 0, none⟩ = some (.int .i64 x) ∧ w'.cell? ⟨bb, ob + z, none⟩ = some (.int .i64 v)) (first | exact ⟨k0, k1, k2, e1⟩ | go_keep) (first | (go_at_call 90; go_must (refine calls_gen fun wc hwc => ?_; (first | have hbx := drew_below hwc | have hbx := eq_below hwc); replace HBc := hide (HBc.out.trans (hbx.mono HBc.out.size)); replace HKc := hide (HKc.out.later hbx); replace HQc := hide (HQc.out.later hbx); replace HPc := hide (HPc.out.later hbx); replace HRc := hide (HRc.out.later hbx); clear hwc hbx; refine (act_any _ _ _ f u x z _ HN.out HTB.out (HR.out.later HBc.out) hun hx HZ.out).mono ?_; rintro e wd ⟨rfl, hbd⟩; replace HBc := hide (HBc.out.trans (hbd.mono HBc.out.size)); replace HKc := hide (HKc.out.later hbd); replace HQc := hide (HQc.out.later hbd); replace HPc := hide (HPc.out.later hbd); replace HRc := hide (HRc.out.later hbd); clear hbd; have k0 := HQc.out.cell 0 _ rfl; have k1 := HKc.out.cell 0 _ rfl; have k2 := HPc.out.cell 0 _ rfl; have e1 := (HBc.out.cell (p := ⟨bb, ob + z, none⟩) hbb).trans E1.out; have r0 := HRc.out.cell 0 _ rfl; have r1 := HRc.out.cell 1 _ rfl; have g0 := HRc.out.frozen 0; have g1 := HRc.out.frozen 1)))
  all_goals
    clear k0 k1 k2 e1
    go_wp2_with fail
    refine bp_gen fun wf hwf => ?_
    have HRF : Blk wf (W.heap.size + 1) 97 [.int .i64 u, .int .i64 v] := by rw [hwf]; first | exact ((HRc.out.set 0 _).set 1 _) | exact ((HRc.out.set 0 _).set 1 _).drew
    have HBF : Below W.heap.size W wf := by rw [hwf]; first | exact ((HBc.out.setCell (by show W.heap.size ≤ W.heap.size + 1; omega) _).setCell (by show W.heap.size ≤ W.heap.size + 1; omega) _) | exact ((HBc.out.setCell (by show W.heap.size ≤ W.heap.size + 1; omega) _).setCell (by show W.heap.size ≤ W.heap.size + 1; omega) _).drew
    have q0 := HRF.cell 0 _ rfl
    have q1 := HRF.cell 1 _ rfl
    clear hwf r0 r1 g0 g1
    exact bodyPost_ret (v := .agg #[.int .i64 u, .int .i64 v]) (by simp [results, Try.results89, go_sem, q0, q1]) rfl ⟨rfl, HBF⟩

set_option maxRecDepth 100000 in
theorem tdI_any (A : Option Addr) (n c : Nat) (f : List (List Int)) (D : Option Addr) (m d : Nat) (p : List Int) (zf zg : List (List Int)) (code : Int) (k kw : Nat) (w : World) (hn : f.length = n) (hb : n ≤ 1048576) (hbs : ∀ i, i < f.length → (f.getD i []).length ≤ 1048576) (hr : Rd2 w A f) (hm : p.length = m) (hbm : m ≤ 1048576) (hrp : Rd w D p) (hres : TdRes f p zf zg code) (hk : ZSz 1048576 zf k zg kw) :
    Calls Try.prog 38 #[.agg #[.slice A n c], .slice D m d] w fun e w' => ∃ A' c' B' d', e = .returned (.tuple #[.agg #[.slice A' k c', .slice B' kw d'], .int .i64 code]) ∧ Below w.heap.size w w' ∧ ObjZ 37 2 w.heap.size w'.heap.size w' A' zf B' zg := by
  have HN := hide hn
  have HBS := hide hbs
  have HRD := hide hr
  have HM := hide hm
  have HRP := hide hrp
  have HRES := hide hres
  have HKZ := hide hk
  have HB0 := hide ((((Below.refl _ w).alloc (Nat.le_refl _) (Obj.cells #[Value.slice A n c] 27)).alloc (by simp) (Obj.cells #[Value.slice D m d] 37)).alloc (by simp; omega) (Obj.cells #[.slice none 0 0, .slice none 0 0] 30))
  have HK0 := hide (((Blk.new w 27 [.slice A n c]).alloc (Obj.cells #[Value.slice D m d] 37)).alloc (Obj.cells #[.slice none 0 0, .slice none 0 0] 30))
  have HP0 : Hid (Blk (((w.alloc (Obj.cells #[Value.slice A n c] 27)).alloc (Obj.cells #[Value.slice D m d] 37)).alloc (Obj.cells #[.slice none 0 0, .slice none 0 0] 30)) (w.heap.size + 1) 37 [.slice D m d]) := hide (by have h := (Blk.new (w.alloc (Obj.cells #[Value.slice A n c] 27)) 37 [.slice D m d]).alloc (Obj.cells #[.slice none 0 0, .slice none 0 0] 30); simpa using h)
  have HR0 : Hid (Blk (((w.alloc (Obj.cells #[Value.slice A n c] 27)).alloc (Obj.cells #[Value.slice D m d] 37)).alloc (Obj.cells #[.slice none 0 0, .slice none 0 0] 30)) (w.heap.size + 1 + 1) 30 [.slice none 0 0, .slice none 0 0]) := hide (by have h := Blk.new ((w.alloc (Obj.cells #[Value.slice A n c] 27)).alloc (Obj.cells #[Value.slice D m d] 37)) 30 [.slice none 0 0, .slice none 0 0]; simpa using h)
  clear hn hbs hr hm hrp hres hk
  obtain ⟨r1, hr1⟩ : ∃ r : Bool, r = true ↔ Rck f := bool_of _
  have HR1_ := hide hr1
  have HRK : Hid (RkRes f r1) := hide hr1
  clear hr1
  go_enter Try.func38, Try.ntmps38
  have k0 := HK0.out.cell 0 _ rfl
  go_wp2_with fail
  clear k0
  refine (isRackI _ _ _ f r1 _ HN.out hb HBS.out (HRD.out.later HB0.out) HRK.out).mono ?_
  rintro e w1 ⟨rfl, hb1⟩
  have HB1 := hide (HB0.out.trans (hb1.mono HB0.out.size))
  have HK1 := hide (HK0.out.later hb1)
  have HP1 := hide (HP0.out.later hb1)
  have HR1 := hide (HR0.out.later hb1)
  clear hb1
  cases r1 with
  | false =>
    obtain ⟨rfl, rfl, rfl⟩ := HRES.out.at1 (fun h => absurd (HR1_.out.2 h) (by simp))
    have hk1 : k = 0 := by rw [← HKZ.out.fl]; rfl
    have hk2 : kw = 0 := by rw [← HKZ.out.sl]; rfl
    subst hk1
    subst hk2
    have k2 := HR1.out.cell 0 _ rfl
    have k3 := HR1.out.cell 1 _ rfl
    have k4 := HR1.out.frozen 0
    have k5 := HR1.out.frozen 1
    go_wp2_with fail
    refine bp_gen fun wf hwf => ?_
    have HRF : Blk wf (w.heap.size + 1 + 1) 30 [.slice none 0 0, .slice none 0 0] := by rw [hwf]; first | exact HR1.out | exact (HR1.out.set 0 _).set 1 _
    have hbf : Below w.heap.size w wf := by rw [hwf]; first | exact HB1.out | exact (HB1.out.setCell (p := ⟨w.heap.size + 1 + 1, 0, none⟩) (by show w.heap.size ≤ w.heap.size + 1 + 1; omega) _).setCell (p := ⟨w.heap.size + 1 + 1, 1, none⟩) (by show w.heap.size ≤ w.heap.size + 1 + 1; omega) _
    have q0 := HRF.cell 0 _ rfl
    have q1 := HRF.cell 1 _ rfl
    clear hwf k2 k3 k4 k5
    exact bodyPost_ret (v := .tuple #[.agg #[.slice none 0 0, .slice none 0 0], .int .i64 1]) (by simp [results, Try.results38, go_sem, q0, q1]) rfl ⟨_, _, _, _, rfl, hbf, ObjZ.empty hbf.size⟩
  | true =>
    have hrk : Rck f := HR1_.out.1 (by simp)
    have HRCK := hide hrk
    have h12 : n ≤ 12 := by rw [← HN.out]; exact hrk.tbl.2.1
    have h1 : 1 ≤ n := by rw [← HN.out]; exact hrk.tbl.1
    clear hrk
    obtain ⟨r2, hr2⟩ : ∃ r : Bool, r = true ↔ Prm p := bool_of _
    have HR2_ := hide hr2
    clear hr2
    have k0 := HP1.out.cell 0 _ rfl
    go_wp2_with fail
    clear k0
    refine (isPerm_any D m d p r2 _ HM.out (by omega) (HRP.out.later HB1.out) HR2_.out).mono ?_
    rintro e w2 ⟨rfl, hb2⟩
    have HB2 := hide (HB1.out.trans (hb2.mono HB1.out.size))
    have HK2 := hide (HK1.out.later hb2)
    have HP2 := hide (HP1.out.later hb2)
    have HR2 := hide (HR1.out.later hb2)
    clear hb2
    cases r2 with
    | false =>
      obtain ⟨rfl, rfl, rfl⟩ := HRES.out.at2 HRCK.out (fun h => absurd (HR2_.out.2 h.1) (by simp))
      have hk1 : k = 0 := by rw [← HKZ.out.fl]; rfl
      have hk2 : kw = 0 := by rw [← HKZ.out.sl]; rfl
      subst hk1
      subst hk2
      have k2 := HR2.out.cell 0 _ rfl
      have k3 := HR2.out.cell 1 _ rfl
      have k4 := HR2.out.frozen 0
      have k5 := HR2.out.frozen 1
      go_wp2_with fail
      refine bp_gen fun wf hwf => ?_
      have HRF : Blk wf (w.heap.size + 1 + 1) 30 [.slice none 0 0, .slice none 0 0] := by rw [hwf]; first | exact HR2.out | exact (HR2.out.set 0 _).set 1 _
      have hbf : Below w.heap.size w wf := by rw [hwf]; first | exact HB2.out | exact (HB2.out.setCell (p := ⟨w.heap.size + 1 + 1, 0, none⟩) (by show w.heap.size ≤ w.heap.size + 1 + 1; omega) _).setCell (p := ⟨w.heap.size + 1 + 1, 1, none⟩) (by show w.heap.size ≤ w.heap.size + 1 + 1; omega) _
      have q0 := HRF.cell 0 _ rfl
      have q1 := HRF.cell 1 _ rfl
      clear hwf k2 k3 k4 k5
      exact bodyPost_ret (v := .tuple #[.agg #[.slice none 0 0, .slice none 0 0], .int .i64 2]) (by simp [results, Try.results38, go_sem, q0, q1]) rfl ⟨_, _, _, _, rfl, hbf, ObjZ.empty hbf.size⟩
    | true =>
      have k0 := HP2.out.cell 0 _ rfl
      have k1 := HK2.out.cell 0 _ rfl
      by_cases hmn : m = n
      · have hmz : ((m : Int) != (n : Int)) = false := by rw [hmn]; simp
        obtain ⟨r3, hr3⟩ : ∃ r : Bool, r = true ↔ AutF f p := bool_of _
        have HR3_ := hide hr3
        clear hr3
        subst hmn
        go_wp2_with fail
        clear k0 k1
        refine (hasAut_any A m c f D d p r3 _ HN.out HRCK.out.tbl (HRD.out.later HB2.out) HM.out (HR2_.out.1 (by simp)) (HRP.out.later HB2.out) HR3_.out).mono ?_
        rintro e w3 ⟨rfl, hb3⟩
        have HB3 := hide (HB2.out.trans (hb3.mono HB2.out.size))
        have HK3 := hide (HK2.out.later hb3)
        have HP3 := hide (HP2.out.later hb3)
        have HR3 := hide (HR2.out.later hb3)
        clear hb3
        cases r3 with
        | false =>
          obtain ⟨rfl, rfl, rfl⟩ := HRES.out.at5 HRCK.out (HR2_.out.1 (by simp)) (HM.out.trans HN.out.symm) (fun h => absurd (HR3_.out.2 h) (by simp))
          have hk1 : k = 0 := by rw [← HKZ.out.fl]; rfl
          have hk2 : kw = 0 := by rw [← HKZ.out.sl]; rfl
          subst hk1
          subst hk2
          have k2 := HR3.out.cell 0 _ rfl
          have k3 := HR3.out.cell 1 _ rfl
          have k4 := HR3.out.frozen 0
          have k5 := HR3.out.frozen 1
          go_wp2_with fail
          refine bp_gen fun wf hwf => ?_
          have HRF : Blk wf (w.heap.size + 1 + 1) 30 [.slice none 0 0, .slice none 0 0] := by rw [hwf]; first | exact HR3.out | exact (HR3.out.set 0 _).set 1 _
          have hbf : Below w.heap.size w wf := by rw [hwf]; first | exact HB3.out | exact (HB3.out.setCell (p := ⟨w.heap.size + 1 + 1, 0, none⟩) (by show w.heap.size ≤ w.heap.size + 1 + 1; omega) _).setCell (p := ⟨w.heap.size + 1 + 1, 1, none⟩) (by show w.heap.size ≤ w.heap.size + 1 + 1; omega) _
          have q0 := HRF.cell 0 _ rfl
          have q1 := HRF.cell 1 _ rfl
          clear hwf k2 k3 k4 k5
          exact bodyPost_ret (v := .tuple #[.agg #[.slice none 0 0, .slice none 0 0], .int .i64 5]) (by simp [results, Try.results38, go_sem, q0, q1]) rfl ⟨_, _, _, _, rfl, hbf, ObjZ.empty hbf.size⟩
        | true =>
          have HPRM : Hid (Prm p) := hide (HR2_.out.1 (by simp))
          obtain ⟨rfl, rfl, rfl⟩ := HRES.out.at0 HRCK.out HPRM.out (HM.out.trans HN.out.symm) (HR3_.out.1 (by simp))
          have hk1 : k = m := by rw [← HKZ.out.fl, grid_length]; exact HN.out
          have hk2 : kw = m := by rw [← HKZ.out.sl, grid_length]; exact HN.out
          subst hk1
          subst hk2
          have k0 := HP3.out.cell 0 _ rfl
          go_wp2_with fail
          clear k0
          refine (inverse_any D kw d p _ HM.out (by omega) (HRP.out.later HB3.out) (by have h := HPRM.out.2.2.1; rw [HM.out] at h; exact h)).mono ?_
          rintro e w4 ⟨E, e4, rfl, hb4, ho4⟩
          have HB4 := hide (HB3.out.trans (hb4.mono HB3.out.size))
          have HK4 := hide (HK3.out.later hb4)
          have HP4 := hide (HP3.out.later hb4)
          have HR4 := hide (HR3.out.later hb4)
          have HI4 : Hid (Rd w4 E (backTo p p.length)) := hide (by rw [HM.out]; exact ho4.rd)
          clear hb4 ho4
          go_upto_region 8 with fail
          refine wp_gen fun w5 hw5 => ?_
          obtain ⟨Q, hQ⟩ : ∃ Q, w4.heap.size = Q := ⟨_, rfl⟩
          have hq : Below w4.heap.size w4 w5 := by rw [hw5]; exact (Below.refl _ _).alloc (Nat.le_refl _) _
          have HB5 := hide (HB4.out.trans (hq.mono HB4.out.size))
          have HK5 := hide (HK4.out.later hq)
          have HP5 := hide (HP4.out.later hq)
          have HR5 := hide (HR4.out.later hq)
          have HI5 := hide (HI4.out.later hq)
          have HQ5 : Hid (Blk w5 Q 93 [.slice E kw e4]) := hide (by rw [hw5, ← hQ]; exact Blk.new _ _ _)
          rw [hQ]
          clear hw5 hq hQ
          have k0 := HK5.out.cell 0 _ rfl
          go_wp2_with fail
          clear k0
          refine (ksize_any _ _ _ _ (by omega)).mono ?_
          rintro e w6 ⟨rfl, hb6⟩
          have HB6 := hide (HB5.out.trans (hb6.mono HB5.out.size))
          have HK6 := hide (HK5.out.later hb6)
          have HP6 := hide (HP5.out.later hb6)
          have HR6 := hide (HR5.out.later hb6)
          have HI6 := hide (HI5.out.later hb6)
          have HQ6 := hide (HQ5.out.later hb6)
          clear hb6
          go_wp2_with fail
          refine (pmo_any 89 _ kw (tdH1 p) (tdH2 f p) _ (fun _ _ => rfl) h1 h12 (twistC_any A D E kw c d e4 f p (w.heap.size + 1) Q w.heap.size _ HN.out HRCK.out.tbl (HRD.out.later HB6.out) HM.out HPRM.out (HRP.out.later HB6.out) HI6.out HP6.out HQ6.out HK6.out)).mono ?_
          rintro e w7 ⟨A7, c7, B7, d7, rfl, hb7, ho7⟩
          have HB7 := hide (HB6.out.trans (hb7.mono HB6.out.size))
          have HR7 := hide (HR6.out.later hb7)
          have HO7 := hide ho7
          have HLO := hide HB6.out.size
          have HLT := hide HR6.out.lt
          clear hb7 ho7
          have k2 := HR7.out.cell 0 _ rfl
          have k3 := HR7.out.cell 1 _ rfl
          have k4 := HR7.out.frozen 0
          have k5 := HR7.out.frozen 1
          go_wp2_with fail
          refine bp_gen fun wf hwf => ?_
          obtain ⟨q0, q1, hbf, hof⟩ := zend hwf HR7.out (by omega) HLT.out HB7.out HLO.out HO7.out
          clear hwf k2 k3 k4 k5
          exact bodyPost_ret (v := .tuple #[.agg #[.slice A7 kw c7, .slice B7 kw d7], .int .i64 0]) (by simp [results, Try.results38, go_sem, q0, q1]) rfl ⟨_, _, _, _, rfl, hbf, by rw [HN.out]; exact hof⟩
      · have hmz : ((m : Int) != (n : Int)) = true := by rw [bne_iff_ne]; omega
        obtain ⟨rfl, rfl, rfl⟩ := HRES.out.at2 HRCK.out (fun h => hmn (by rw [← HM.out, ← HN.out]; exact h.2))
        have hk1 : k = 0 := by rw [← HKZ.out.fl]; rfl
        have hk2 : kw = 0 := by rw [← HKZ.out.sl]; rfl
        subst hk1
        subst hk2
        have k2 := HR2.out.cell 0 _ rfl
        have k3 := HR2.out.cell 1 _ rfl
        have k4 := HR2.out.frozen 0
        have k5 := HR2.out.frozen 1
        go_wp2_with fail
        refine bp_gen fun wf hwf => ?_
        have HRF : Blk wf (w.heap.size + 1 + 1) 30 [.slice none 0 0, .slice none 0 0] := by rw [hwf]; first | exact HR2.out | exact (HR2.out.set 0 _).set 1 _
        have hbf : Below w.heap.size w wf := by rw [hwf]; first | exact HB2.out | exact (HB2.out.setCell (p := ⟨w.heap.size + 1 + 1, 0, none⟩) (by show w.heap.size ≤ w.heap.size + 1 + 1; omega) _).setCell (p := ⟨w.heap.size + 1 + 1, 1, none⟩) (by show w.heap.size ≤ w.heap.size + 1 + 1; omega) _
        have q0 := HRF.cell 0 _ rfl
        have q1 := HRF.cell 1 _ rfl
        clear hwf k2 k3 k4 k5
        exact bodyPost_ret (v := .tuple #[.agg #[.slice none 0 0, .slice none 0 0], .int .i64 2]) (by simp [results, Try.results38, go_sem, q0, q1]) rfl ⟨_, _, _, _, rfl, hbf, ObjZ.empty hbf.size⟩
end Go.Proofs.Ytpnlmmilnglmkaa
