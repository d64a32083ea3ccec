import Derived.Test.YtelildgngkajnaaDoorZr
import Derived.Test.YtelildgngkajnaaDoorZm
import Derived.Test.YtelildgngkajnaaDoorZn
import Derived.Test.YtelildgngkajnaaDoorZg
import Derived.Test.YtelildgngkajnaaDoorZf
namespace Go.Proofs.YtelildgngkajnaaDoor
open Go Go.RowKit
set_option maxHeartbeats 4000000
set_option maxRecDepth 100000 in
theorem qgMul_any (A : Option Addr) (n c : Nat) (f : List (List Int)) (S bg bs : Nat) (w : World) (hn : f.length = n) (hg : Grp f) (hr : Rd2 w A f) (hS : S < 2 ^ n) (hsg : SubG f S) (hdb : DbT w) (hk1 : Blk w bg 26 [.slice A n c]) (hk2 : Blk w bs 2 [.int .i64 S]) :
    MulI Tryd.prog 37 #[.pointer (some ⟨bg, 0, none⟩), .pointer (some ⟨bs, 0, none⟩)] (rpL (ceL f S) n).length (csL f S n) (fun i k => (csN f S (ap f (rpN (ceL f S) n i) (rpN (ceL f S) n k)) : Nat)) w := by
  intro W i k hi hk hb
  have HK1 := hide (hk1.later hb)
  have HK2 := hide (hk2.later hb)
  have HRD := hide (hr.later hb)
  have HDB := hide (hdb.later hb)
  have HN := hide hn
  have HG := hide hg
  have HTB := hide hg.tbl
  have HS := hide hS
  have h12 := (hg.pos hn).2
  have hS12 : S < 4096 := Nat.lt_of_lt_of_le hS (pow_le n h12)
  have r1 := rpN_ok hi
  have r2 := rpN_ok hk
  have o1 := ceL_ok hn hg hS hsg r1.1
  have o2 := ceL_ok hn hg hS hsg r2.1
  rw [csL_at f S hi, csL_at f S hk]
  show Calls Tryd.prog 37 #[.int .i64 ((csN f S (rpN (ceL f S) n i) : Nat) : Int), .int .i64 ((csN f S (rpN (ceL f S) n k) : Nat) : Int), .pointer (some ⟨bg, 0, none⟩), .pointer (some ⟨bs, 0, none⟩)] W fun e w' => e = .returned (.int .i64 ((csN f S (ap f (rpN (ceL f S) n i) (rpN (ceL f S) n k)) : Nat) : Int)) ∧ _
  have l1 : lstN (csN f S (rpN (ceL f S) n i)) = rpN (ceL f S) n i := r1.2.1
  have l2 : lstN (csN f S (rpN (ceL f S) n k)) = rpN (ceL f S) n k := r2.2.1
  obtain ⟨x, hx⟩ : ∃ x, rpN (ceL f S) n i = x := ⟨_, rfl⟩
  obtain ⟨y, hy⟩ : ∃ y, rpN (ceL f S) n k = y := ⟨_, rfl⟩
  rw [hx] at r1 o1 l1 ⊢
  rw [hy] at r2 o2 l2 ⊢
  have hxn := r1.1
  have hyn := r2.1
  have hc1 := o1.2.2.2.2.2
  have hc2 := o2.2.2.2.2.2
  obtain ⟨C1, hC1⟩ : ∃ C, csN f S x = C := ⟨_, rfl⟩
  obtain ⟨C2, hC2⟩ : ∃ C, csN f S y = C := ⟨_, rfl⟩
  rw [hC1] at hc1 l1 ⊢
  rw [hC2] at hc2 l2 ⊢
  have HC1 := hide hc1
  have HC2 := hide hc2
  have HL1 := hide l1
  have HL2 := hide l2
  have hun := hg.lt hn hxn hyn
  obtain ⟨u, hu⟩ : ∃ u, ap f x y = u := ⟨_, rfl⟩
  rw [hu] at hun ⊢
  have HU := hide hu
  obtain ⟨V, hV⟩ : ∃ V, csN f S u = V := ⟨_, rfl⟩
  rw [hV]
  have HV := hide hV
  clear hk1 hk2 hr hdb hb hn hg hS hsg r1 r2 o1 o2 hc1 hc2 l1 l2 hx hy hC1 hC2 hu hV
  have HBc := hide (Below.refl W.heap.size W)
  have k0 := HK1.out.cell 0 _ rfl
  have k1 := HK2.out.cell 0 _ rfl
  have tok0 : True := trivial
  go_enter Tryd.func37, Tryd.ntmps37
  go_wp2_with fail
  go_region_held3 (fun w' => w'.cell? ⟨bg, 0, none⟩ = some (.slice A n c) ∧ w'.cell? ⟨bs, 0, none⟩ = some (.int .i64 S)) (first | exact ⟨k0, k1⟩ | go_keep) (first | (go_at_call 36; have _t := tok0; clear _t tok0; go_must (refine calls_gen fun wc hwc => ?_; (first | have hbx := drew_below hwc | have hbx := eq_below hwc); replace HBc := hide (HBc.out.trans (hbx.mono HBc.out.size)); clear hwc hbx; refine (leastOf_any C1 wc HC1.out.1 HC1.out.2 (HDB.out.later HBc.out)).mono ?_; rintro e wd ⟨rfl, hqd⟩; rw [HL1.out]; have hbd := hqd.below wc.heap.size; clear hqd; replace HBc := hide (HBc.out.trans (hbd.mono HBc.out.size)); clear hbd; have k0 := (HK1.out.later HBc.out).cell 0 _ rfl; have k1 := (HK2.out.later HBc.out).cell 0 _ rfl)) | (go_at_call 36; go_must (refine calls_gen fun wc hwc => ?_; (first | have hbx := drew_below hwc | have hbx := eq_below hwc); replace HBc := hide (HBc.out.trans (hbx.mono HBc.out.size)); clear hwc hbx; refine (leastOf_any C2 wc HC2.out.1 HC2.out.2 (HDB.out.later HBc.out)).mono ?_; rintro e wd ⟨rfl, hqd⟩; rw [HL2.out]; have hbd := hqd.below wc.heap.size; clear hqd; replace HBc := hide (HBc.out.trans (hbd.mono HBc.out.size)); clear hbd; have k0 := (HK1.out.later HBc.out).cell 0 _ rfl; have k1 := (HK2.out.later HBc.out).cell 0 _ rfl)) | (go_at_call 38; go_must (refine calls_gen fun wc hwc => ?_; (first | have hbx := drew_below hwc | have hbx := eq_below hwc); replace HBc := hide (HBc.out.trans (hbx.mono HBc.out.size)); clear hwc hbx; refine (gprod_any _ n _ f x y u wc HN.out HTB.out (HRD.out.later HBc.out) hxn hyn HU.out).mono ?_; rintro e wd ⟨rfl, hbd⟩; replace HBc := hide (HBc.out.trans (hbd.mono HBc.out.size)); clear hbd; have k0 := (HK1.out.later HBc.out).cell 0 _ rfl; have k1 := (HK2.out.later HBc.out).cell 0 _ rfl)) | (go_at_call 35; go_must (refine calls_gen fun wc hwc => ?_; (first | have hbx := drew_below hwc | have hbx := eq_below hwc); replace HBc := hide (HBc.out.trans (hbx.mono HBc.out.size)); clear hwc hbx; refine (coset_any _ n _ f u S wc HN.out HG.out (HRD.out.later HBc.out) hun HS.out).mono ?_; rintro e wd ⟨rfl, hbd⟩; rw [HV.out]; replace HBc := hide (HBc.out.trans (hbd.mono HBc.out.size)); clear hbd; have k0 := (HK1.out.later HBc.out).cell 0 _ rfl; have k1 := (HK2.out.later HBc.out).cell 0 _ rfl)))
  all_goals
    clear k0 k1
    go_wp2_with fail
    go_ret
    exact ⟨rfl, HBc.out⟩
theorem qg_func (P : Program) (w : World) (a : Addr) (F : Fn) (rs lb : Array Value) (m : Mode) : (store a (.func F rs lb) m).run P w = stored P w a (.func F rs lb) m := run_store P w a _ m rfl
attribute [local go_sem] qg_func
set_option maxRecDepth 100000 in
theorem quot_any (A : Option Addr) (n c : Nat) (f : List (List Int)) (S : Nat) (w : World) (hn : f.length = n) (hg : Grp f) (hr : Rd2 w A f) (hS : S < 2 ^ n) (hsg : SubG f S) (hdb : DbT w) :
    Calls Tryd.prog 18 #[.agg #[.slice A n c], .int .i64 S] w fun e w' => ∃ A' c' bg bs, e = .returned (.agg #[.slice A' (rpL (ceL f S) n).length c', .func (.func 37) #[] #[.pointer (some ⟨bg, 0, none⟩), .pointer (some ⟨bs, 0, none⟩)]]) ∧ Below w.heap.size w w' ∧ Rd w' A' (csL f S n) ∧ Blk w' bg 26 [.slice A n c] ∧ Blk w' bs 2 [.int .i64 S] := by
  have HN := hide hn
  have HG0 := hide hg
  have HTB := hide hg.tbl
  have HRD := hide hr
  have HS := hide hS
  have HSG := hide hsg
  have HDB := hide hdb
  have h1 : 1 ≤ n := (hg.pos hn).1
  have h12 : n ≤ 12 := (hg.pos hn).2
  have HGP := hide hg
  clear HG0
  have HB0 := hide ((((Below.refl _ w).alloc (Nat.le_refl _) (Obj.cells #[Value.slice A n c] 26)).alloc (by simp) (Obj.cells #[Value.int IntKind.i64 (S : Nat)] 2)).alloc (by simp; omega) (Obj.cells #[.slice none 0 0, Value.nilFunc] 44))
  have HG0 := hide (((Blk.new w 26 [.slice A n c]).alloc (Obj.cells #[Value.int IntKind.i64 (S : Nat)] 2)).alloc (Obj.cells #[.slice none 0 0, Value.nilFunc] 44))
  have HH0 : Hid (Blk (((w.alloc (Obj.cells #[Value.slice A n c] 26)).alloc (Obj.cells #[Value.int IntKind.i64 (S : Nat)] 2)).alloc (Obj.cells #[.slice none 0 0, Value.nilFunc] 44)) (w.heap.size + 1) 2 [.int .i64 (S : Nat)]) := hide (by have h := (Blk.new (w.alloc (Obj.cells #[Value.slice A n c] 26)) 2 [.int .i64 (S : Nat)]).alloc (Obj.cells #[.slice none 0 0, Value.nilFunc] 44); simpa using h)
  have HR0 : Hid (Blk (((w.alloc (Obj.cells #[Value.slice A n c] 26)).alloc (Obj.cells #[Value.int IntKind.i64 (S : Nat)] 2)).alloc (Obj.cells #[.slice none 0 0, Value.nilFunc] 44)) (w.heap.size + 1 + 1) 44 [.slice none 0 0, Value.nilFunc]) := hide (by have h := Blk.new ((w.alloc (Obj.cells #[Value.slice A n c] 26)).alloc (Obj.cells #[Value.int IntKind.i64 (S : Nat)] 2)) 44 [.slice none 0 0, Value.nilFunc]; simpa using h)
  clear hn hg hr hS hsg hdb
  obtain ⟨i0, hi, hz0, hz1, hz2⟩ := info_parts neInfo
  go_enter Tryd.func18, Tryd.ntmps18
  have k0 := fun o => (HG0.out.alloc o).cell 0 _ rfl
  go_wp2_with fail
  clear k0
  refine calls_gen fun w0 hw0 => ?_
  have hal : Below (((w.alloc (Obj.cells #[Value.slice A n c] 26)).alloc (Obj.cells #[Value.int IntKind.i64 (S : Nat)] 2)).alloc (Obj.cells #[.slice none 0 0, Value.nilFunc] 44)).heap.size (((w.alloc (Obj.cells #[Value.slice A n c] 26)).alloc (Obj.cells #[Value.int IntKind.i64 (S : Nat)] 2)).alloc (Obj.cells #[.slice none 0 0, Value.nilFunc] 44)) w0 := by rw [hw0]; exact (Below.refl _ _).alloc (Nat.le_refl _) _
  have HO0 : Hid (w0.ownsRow (w.heap.size + 1 + 1 + 1) 2 1 (.slice (some ⟨w.heap.size + 1 + 1 + 1, 0, none⟩) 0 0) 0 (ints (csL f S 0))) := hide (by rw [hw0]; have h := ne_empty (((w.alloc (Obj.cells #[Value.slice A n c] 26)).alloc (Obj.cells #[Value.int IntKind.i64 (S : Nat)] 2)).alloc (Obj.cells #[.slice none 0 0, Value.nilFunc] 44)) 2; simpa [csL, rpL, ints] using h)
  have HB1 := hide (HB0.out.trans (hal.mono HB0.out.size))
  have HG1 := hide (HG0.out.later hal)
  have HH1 := hide (HH0.out.later hal)
  have HR1 := hide (HR0.out.later hal)
  clear hw0 hal
  refine (gsize_any _ n _ _ (by omega)).mono ?_
  rintro e w1 ⟨rfl, hb1⟩
  have HB2 := hide (HB1.out.trans (hb1.mono HB1.out.size))
  have HG2 := hide (HG1.out.later hb1)
  have HH2 := hide (HH1.out.later hb1)
  have HR2 := hide (HR1.out.later hb1)
  have HO2 := hide (ownsRow_below HO0.out hb1)
  clear hb1 HO0
  go_wp2_with fail
  go_loopw [5, 11] (fun v i wr => ∃ x : Nat, x ≤ n ∧ i = .int .i64 x ∧ Below w.heap.size w wr ∧ Blk wr w.heap.size 26 [.slice A n c] ∧ Blk wr (w.heap.size + 1) 2 [.int .i64 (S : Nat)] ∧ Blk wr (w.heap.size + 1 + 1) 44 [.slice none 0 0, Value.nilFunc] ∧ wr.ownsRow (w.heap.size + 1 + 1 + 1) 2 1 v (rpL (ceL f S) x).length (ints (csL f S x))) (fun _ i _ => n - (intOf i).toNat)
  case atStart => exact ⟨0, Nat.zero_le _, rfl, HB2.out, HG2.out, HH2.out, HR2.out, by simpa [rpL] using HO2.out⟩
  case round =>
    clear HB2 HG2 HH2 HR2 HO2 HB1 HG1 HH1 HR1 HB0 HG0 HH0 HR0
    obtain ⟨x, hx, rfl, hbe, hgg, hhh, hrr, hown⟩ := hrel
    have HB := hide hbe
    have HG := hide hgg
    have HH := hide hhh
    have HR := hide hrr
    have HO := hide hown
    clear hbe hgg hhh hrr hown
    by_cases hlt : x < n
    · have hxz : (x : Int) < n := by omega
      have ok := ceL_ok HN.out HGP.out HS.out HSG.out hlt
      have hcs := ok.2.2.2.2.2
      have hle := ok.2.2.1
      have hyes : ceL f S x = x → ints (csL f S (x + 1)) = ints (csL f S x) ++ [.int .i64 ((csN f S x : Nat) : Int)] ∧ (rpL (ceL f S) (x + 1)).length = (rpL (ceL f S) x).length + 1 := fun e => by
        unfold csL
        rw [rpL_yes e]
        simp [ints]
      have hno : ¬ ceL f S x = x → csL f S (x + 1) = csL f S x ∧ (rpL (ceL f S) (x + 1)).length = (rpL (ceL f S) x).length := fun e => by
        unfold csL
        rw [rpL_no e]
        exact ⟨rfl, rfl⟩
      have hml := rpL_length (ceL f S) x
      obtain ⟨l, hl⟩ : ∃ l, (rpL (ceL f S) x).length = l := ⟨_, rfl⟩
      rw [hl] at hml hyes hno HO
      obtain ⟨C, hC⟩ : ∃ C, csN f S x = C := ⟨_, rfl⟩
      have hCl : lstN C = ceL f S x := by rw [← hC]; rfl
      rw [hC] at hcs hyes
      obtain ⟨q, hq⟩ : ∃ q, ceL f S x = q := ⟨_, rfl⟩
      rw [hq] at hCl hyes hno hle
      have HC := hide hC
      have HCS := hide hcs
      have HCL := hide hCl
      have HYES := hide hyes
      have HNO := hide hno
      have hC12 := hcs.1
      clear ok hcs hyes hno hl hC hCl hq
      have k0 := HG.out.cell 0 _ rfl
      have k1 := HH.out.cell 0 _ rfl
      go_wp2_with fail
      clear k0 k1
      refine (coset_any _ n _ f x S _ HN.out HGP.out (HRD.out.later HB.out) hlt HS.out).mono ?_
      rintro e w5 ⟨rfl, hb1⟩
      rw [HC.out]
      have HB5 := hide (HB.out.trans (hb1.mono HB.out.size))
      have HG5 := hide (HG.out.later hb1)
      have HH5 := hide (HH.out.later hb1)
      have HR5 := hide (HR.out.later hb1)
      have HO5 := hide (ownsRow_below HO.out hb1)
      clear hb1 HB HG HH HR HO
      go_wp2_with fail
      refine (leastOf_any C _ HCS.out.1 HCS.out.2 (HDB.out.later HB5.out)).mono ?_
      rintro e w6 ⟨rfl, hq6⟩
      rw [HCL.out]
      have hb1 := hq6.below w5.heap.size
      have HB6 := hide (HB5.out.trans (hb1.mono HB5.out.size))
      have HG6 := hide (HG5.out.later hb1)
      have HH6 := hide (HH5.out.later hb1)
      have HR6 := hide (HR5.out.later hb1)
      have HO6 := hide (ownsRow_below HO5.out hb1)
      have hrl := HR6.out.lt
      clear hb1 hq6 HB5 HG5 HH5 HR5 HO5
      by_cases e : q = x
      · have hy := HYES.out e
        have HY := hide hy
        clear hy
        subst e
        go_wp2_with (at_builtin; refine wpList_append_own _ rfl _ _ 37 rfl (w.heap.size + 1 + 1 + 1) 2 i0 (.int .i64 0) 1 8 Tryd.underlying37 hi hz0 hz1 hz2 rfl (by decide) _ _ _ rfl (HO6.out.alloc _) ⟨w6.heap.size, 0, none⟩ 1 1 [.int .i64 (C : Int)] rfl rfl ?a1 ?a2 ?a3 ?a4 ?a5 ?_)
        try (case a1 => exact ne_new)
        try (case a2 => first | rfl | (intro u hu; simp at hu; subst hu; rfl))
        try (case a3 => first | omega | (unfold maxLen; omega))
        try (case a4 => omega)
        try (case a5 => first | omega | (simp; omega))
        intro v' w7 hown' hgrow _
        have HO' := hide hown'
        have hlo : w.heap.size + 1 + 1 + 1 ≤ (w6.alloc (.cells #[.int .i64 (C : Int)] 2)).heap.size := by simp; omega
        have HBX : Hid (Below (w.heap.size + 1 + 1 + 1) (w6.alloc (.cells #[.int .i64 (C : Int)] 2)) w7) := hide ((Below.refl _ _).grown hgrow hlo (fun g hg => ((HO6.out.alloc (.cells #[.int .i64 (C : Int)] 2)).lt g hg).1))
        have HB7 : Hid (Below w.heap.size w w7) := hide ((HB6.out.alloc HB6.out.size _).grown hgrow (by have := HB6.out.size; simp; omega) (fun g hg => by have h := ((HO6.out.alloc (.cells #[.int .i64 (C : Int)] 2)).lt g hg).1; omega))
        have HG7 : Hid (Blk w7 w.heap.size 26 [.slice A n c]) := hide ((HBX.out.block _ (by omega)).trans (HG6.out.alloc _))
        have HH7 : Hid (Blk w7 (w.heap.size + 1) 2 [.int .i64 (S : Nat)]) := hide ((HBX.out.block _ (by omega)).trans (HH6.out.alloc _))
        have HR7 : Hid (Blk w7 (w.heap.size + 1 + 1) 44 [.slice none 0 0, Value.nilFunc]) := hide ((HBX.out.block _ (by omega)).trans (HR6.out.alloc _))
        clear hown' hgrow hlo
        go_wp2_with fail
        go_roundw
        case rel => exact ⟨q + 1, by omega, by go_num, HB7.out, HG7.out, HH7.out, HR7.out, by rw [HY.out.1, HY.out.2]; exact HO'.out⟩
        case measure => simp [intOf]; omega
      · have hn2 := HNO.out e
        have HN2 := hide hn2
        clear hn2
        have hez : ((q : Int) == (x : Int)) = false := by simpa using fun h => e (by omega)
        clear e
        go_wp2_with fail
        go_roundw
        case rel => exact ⟨x + 1, by omega, by go_num, HB6.out, HG6.out, HH6.out, HR6.out, by rw [HN2.out.1, HN2.out.2]; exact HO6.out⟩
        case measure => simp [intOf]; omega
    · have hxn : x = n := by omega
      subst hxn
      obtain ⟨A', c', hv, hres⟩ := own_shape HO.out
      subst hv
      have HRS := hide hres
      clear hres
      have r0 := HR.out.cell 0 _ rfl
      have r1 := HR.out.cell 1 _ rfl
      have r2 := HR.out.frozen 0
      have r3 := HR.out.frozen 1
      go_wp2_with fail
      refine bp_gen fun wf hwf => ?_
      have HRF : Blk wf (w.heap.size + 1 + 1) 44 [.slice A' (rpL (ceL f S) x).length c', .func (.func 37) #[] #[.pointer (some ⟨w.heap.size, 0, none⟩), .pointer (some ⟨w.heap.size + 1, 0, none⟩)]] := by rw [hwf]; exact (HR.out.set 0 _).set 1 _
      have hbf : Below w.heap.size w wf := by rw [hwf]; exact (HB.out.setCell (p := ⟨w.heap.size + 1 + 1, 0, none⟩) (by show w.heap.size ≤ w.heap.size + 1 + 1; omega) _).setCell (p := ⟨w.heap.size + 1 + 1, 1, none⟩) (by show w.heap.size ≤ w.heap.size + 1 + 1; omega) _
      have hgf : Blk wf w.heap.size 26 [.slice A x c] := by rw [hwf]; exact (HG.out.far (p := ⟨w.heap.size + 1 + 1, 0, none⟩) (by show w.heap.size ≠ w.heap.size + 1 + 1; omega) _).far (p := ⟨w.heap.size + 1 + 1, 1, none⟩) (by show w.heap.size ≠ w.heap.size + 1 + 1; omega) _
      have hhf : Blk wf (w.heap.size + 1) 2 [.int .i64 (S : Nat)] := by rw [hwf]; exact (HH.out.far (p := ⟨w.heap.size + 1 + 1, 0, none⟩) (by show w.heap.size + 1 ≠ w.heap.size + 1 + 1; omega) _).far (p := ⟨w.heap.size + 1 + 1, 1, none⟩) (by show w.heap.size + 1 ≠ w.heap.size + 1 + 1; omega) _
      have hrd : Rd wf A' (csL f S x) := by
        rcases HRS.out with ⟨rfl, e⟩ | ⟨g, rfl, hg2, how⟩
        · rw [e]; intro h; simp at h
        · rw [hwf]
          exact ((how.far (p := ⟨w.heap.size + 1 + 1, 0, none⟩) (by show g ≠ w.heap.size + 1 + 1; omega) _).far (p := ⟨w.heap.size + 1 + 1, 1, none⟩) (by show g ≠ w.heap.size + 1 + 1; omega) _).rd
      have q0 := HRF.cell 0 _ rfl
      have q1 := HRF.cell 1 _ rfl
      clear hwf r0 r1 r2 r3
      exact bodyPost_ret (v := .agg #[.slice A' (rpL (ceL f S) x).length c', .func (.func 37) #[] #[.pointer (some ⟨w.heap.size, 0, none⟩), .pointer (some ⟨w.heap.size + 1, 0, none⟩)]]) (by simp [results, Tryd.results18, go_sem, q0, q1]) rfl ⟨_, _, _, _, rfl, hbf, hrd, hgf, hhf⟩
end Go.Proofs.YtelildgngkajnaaDoor
