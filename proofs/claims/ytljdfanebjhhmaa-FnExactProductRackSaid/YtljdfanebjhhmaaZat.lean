import Derived.Test.YtljdfanebjhhmaaZah
import Derived.Test.YtljdfanebjhhmaaZp
import Derived.Test.YtljdfanebjhhmaaZak
import Derived.Test.YtljdfanebjhhmaaZu
import Derived.Deep.AppendLies
namespace Go.Proofs.Ytljdfanebjhhmaa
open Go Go.RowKit
set_option maxHeartbeats 4000000

set_option maxRecDepth 100000 in
theorem l04Product_any (A : Option Addr) (n c : Nat) (f : List (List Int)) (C : Option Addr) (q c2 : Nat) (f2 : List (List Int)) (sz : Nat) (w : World) (hn : f.length = n) (ht : Tbl f) (hr : Rd2 w A f) (hn2 : f2.length = q) (ht2 : Tbl f2) (hr2 : Rd2 w C f2) (hsz : n * q = sz) (hle : sz ≤ 12) :
    Calls Try.prog 39 #[.slice A n c, .slice C q c2] w fun e w' => ∃ A' c', e = .returned (.slice A' sz c') ∧ Below w.heap.size w w' ∧ Obj2 33 2 w.heap.size w'.heap.size w' A' (grid sz (pdH f f2 q)) := by
  have h1n : 1 ≤ n := by rw [← hn]; exact ht.1
  have h1q : 1 ≤ q := by rw [← hn2]; exact ht2.1
  have h12n : n ≤ 12 := by rw [← hn]; exact ht.2.1
  have h12q : q ≤ 12 := by rw [← hn2]; exact ht2.2.1
  obtain ⟨b1, o1, hA, hb1w, hc1⟩ := ht.cells hr hn
  obtain ⟨b2, o2, hC, hb2w, hc2⟩ := ht2.cells hr2 hn2
  subst hA
  subst hC
  have HC1 := hide hc1
  have HC2 := hide hc2
  have HT1 := hide ht
  have HT2 := hide ht2
  have HN := hide hn
  have HN2 := hide hn2
  have HSZ := hide hsz
  have hsi : (n : Int) * (q : Int) = (sz : Int) := by rw [← hsz]; simp
  have hwk : IntKind.i64.wrap (sz : Int) = (sz : Int) := IntWalk.i64_in _ (by omega)
  obtain ⟨H, hH⟩ : ∃ H, pdH f f2 q = H := ⟨_, rfl⟩
  rw [hH]
  have HH := hide hH
  clear hH hc1 hc2 hr hr2 ht ht2 hn hn2 hsz
  obtain ⟨i0, hi, hz0, hz1, hz2⟩ := info_parts neInfo
  obtain ⟨i2, hj, hy0, hy1, hy2⟩ := info_parts neInfo2
  go_enter Try.func39, Try.ntmps39
  go_wp2_with fail
  go_loopw [7, 8] (fun v i wr => ∃ (x : Nat) (vals : List Value), x ≤ sz ∧ i = .int .i64 x ∧ Below w.heap.size w wr ∧ LstV 33 2 w.heap.size wr v ((grid sz H).take x) vals ∧ w.heap.size ≤ wr.heap.size) (fun _ i _ => sz - (intOf i).toNat)
  case atStart => exact ⟨0, [], Nat.zero_le _, rfl, (Below.refl _ _).alloc (Nat.le_refl _) _, by simpa using LstV.start w _ _, by simp⟩
  case round =>
    obtain ⟨x, vals, hx, rfl, hbe, hlst, hsz⟩ := hrel
    have HB := hide hbe
    have HL := hide hlst
    clear hbe hlst
    by_cases hlt : x < sz
    · have hxz : (x : Int) < sz := by omega
      go_wp2_with fail
      obtain ⟨wo, rfl⟩ : ∃ wo : World, wo = wr := ⟨_, rfl⟩
      go_loopw [9, 10] (fun v i wi => ∃ y : Nat, y ≤ sz ∧ i = .int .i64 y ∧ Below wo.heap.size wo wi ∧ wo.heap.size < wi.heap.size ∧ wi.ownsRow wo.heap.size 2 1 v y (ints ((frow sz H x).take y))) (fun _ i _ => sz - (intOf i).toNat)
      case atStart => exact ⟨0, Nat.zero_le _, rfl, (Below.refl _ _).alloc (Nat.le_refl _) _, by simp, by simpa [ints] using ne_empty wo _⟩
      case round =>
        obtain ⟨y, hy, rfl, hbi, hsi2, hoi⟩ := hrel
        have HBI := hide hbi
        have HOI := hide hoi
        clear hbi hoi
        by_cases hlty : y < sz
        · have hyz : (y : Int) < sz := by omega
          have HBW := hide (HB.out.trans (HBI.out.mono HB.out.size))
          have hxN : x < n * q := by rw [HSZ.out]; exact hlt
          have hyN : y < n * q := by rw [HSZ.out]; exact hlty
          have hxd : x / q < n := Nat.div_lt_of_lt_mul (by rw [Nat.mul_comm]; exact hxN)
          have hyd : y / q < n := Nat.div_lt_of_lt_mul (by rw [Nat.mul_comm]; exact hyN)
          have hxm : x % q < q := Nat.mod_lt _ (by omega)
          have hym : y % q < q := Nat.mod_lt _ (by omega)
          have t1 : ((x : Int)).tdiv (q : Int) = ((x / q : Nat) : Int) := by rw [Int.ofNat_tdiv]
          have t2 : ((y : Int)).tdiv (q : Int) = ((y / q : Nat) : Int) := by rw [Int.ofNat_tdiv]
          have t3 : ((x : Int)).tmod (q : Int) = ((x % q : Nat) : Int) := by rw [Int.ofNat_tmod]
          have t4 : ((y : Int)).tmod (q : Int) = ((y % q : Nat) : Int) := by rw [Int.ofNat_tmod]
          have hpr : H x y = ((ap f (x / q) (y / q) * q + ap f2 (x % q) (y % q) : Nat) : Int) := by rw [← HH.out]; rfl
          have hu := HT1.out.ap_lt HN.out hxd hyd
          have hu2 := HT2.out.ap_lt HN2.out hxm hym
          obtain ⟨xa, hxa⟩ : ∃ a, x / q = a := ⟨_, rfl⟩
          obtain ⟨ya, hya⟩ : ∃ a, y / q = a := ⟨_, rfl⟩
          obtain ⟨xb, hxb⟩ : ∃ a, x % q = a := ⟨_, rfl⟩
          obtain ⟨yb, hyb⟩ : ∃ a, y % q = a := ⟨_, rfl⟩
          rw [hxa] at hxd t1 hu hpr
          rw [hya] at hyd t2 hu hpr
          rw [hxb] at hxm t3 hu2 hpr
          rw [hyb] at hym t4 hu2 hpr
          obtain ⟨bx, ox, cx, r1, l1, g1⟩ := HC1.out xa hxd
          have r2 := g1 ya hyd
          obtain ⟨bp, op, cp, s1, m1, g2⟩ := HC2.out xb hxm
          have s2 := g2 yb hym
          obtain ⟨u, hue⟩ : ∃ a, ap f xa ya = a := ⟨_, rfl⟩
          obtain ⟨u2, hue2⟩ : ∃ a, ap f2 xb yb = a := ⟨_, rfl⟩
          rw [hue] at hu r2 hpr
          rw [hue2] at hu2 s2 hpr
          have hb1 : u * q + u2 < 12 := by
            have h : (u + 1) * q ≤ n * q := Nat.mul_le_mul_right q hu
            rw [Nat.add_mul, Nat.one_mul, HSZ.out] at h
            omega
          obtain ⟨uq, huq⟩ : ∃ a, u * q = a := ⟨_, rfl⟩
          rw [huq] at hb1 hpr
          have t5 : (u : Int) * (q : Int) = (uq : Int) := by rw [← huq]; simp
          have t7 : (uq : Int) + (u2 : Int) = ((uq + u2 : Nat) : Int) := by simp
          obtain ⟨w1, hw1⟩ : ∃ a, uq + u2 = a := ⟨_, rfl⟩
          have huq12 : uq < 12 := by omega
          rw [hw1] at hb1 t7 hpr
          have HCELL := hide hpr
          have hq0n : ¬ q = 0 := by omega
          have hq0 : ¬ (q : Int) = 0 := by omega
          have e1 : IntKind.i64.wrap (xa : Int) = (xa : Int) := IntWalk.i64_in _ (by omega)
          have e2 : IntKind.i64.wrap (ya : Int) = (ya : Int) := IntWalk.i64_in _ (by omega)
          have e5 : IntKind.i64.wrap (uq : Int) = (uq : Int) := IntWalk.i64_in _ (by omega)
          have e7 : IntKind.i64.wrap (w1 : Int) = (w1 : Int) := IntWalk.i64_in _ (by omega)
          have z1 : (xa : Int) < n := by omega
          have z2 : (ya : Int) < n := by omega
          have z3 : (xb : Int) < q := by omega
          have z4 : (yb : Int) < q := by omega
          have R1 := hide r1
          have R2 := hide r2
          have S1 := hide s1
          have S2 := hide s2
          clear hxN hyN hxa hya hxb hyb hue hue2 huq hw1 hpr hu hu2 hxd hyd hxm hym g1 g2 r1 r2 s1 s2
          have ff0 : wr.cell? ⟨b1, o1 + xa, none⟩ = some (.slice (some ⟨bx, ox, none⟩) n cx) := (HBW.out.cell (p := ⟨b1, o1 + xa, none⟩) hb1w).trans R1.out
          have ff1 : wr.cell? ⟨bx, ox + ya, none⟩ = some (.int .i64 u) := (HBW.out.cell (p := ⟨bx, ox + ya, none⟩) l1).trans R2.out
          have ff2 : wr.cell? ⟨b2, o2 + xb, none⟩ = some (.slice (some ⟨bp, op, none⟩) q cp) := (HBW.out.cell (p := ⟨b2, o2 + xb, none⟩) hb2w).trans S1.out
          have ff3 : wr.cell? ⟨bp, op + yb, none⟩ = some (.int .i64 u2) := (HBW.out.cell (p := ⟨bp, op + yb, none⟩) m1).trans S2.out
          go_wp2_with fail
          go_region_held3 (fun w' => w'.cell? ⟨b1, o1 + xa, none⟩ = some (.slice (some ⟨bx, ox, none⟩) n cx) ∧ w'.cell? ⟨bx, ox + ya, none⟩ = some (.int .i64 u) ∧ w'.cell? ⟨b2, o2 + xb, none⟩ = some (.slice (some ⟨bp, op, none⟩) q cp) ∧ w'.cell? ⟨bp, op + yb, none⟩ = some (.int .i64 u2)) (first | exact ⟨ff0, ff1, ff2, ff3⟩ | go_keep) (first | (refine step_append_lies _ (by rfl) _ _ _ (by rfl) wo.heap.size 2 i0 _ 1 8 Try.underlying33 hi hz0 hz1 hz2 rfl (by omega) u9 y (ints ((frow sz H x).take y)) (by rfl) (HOI.out.alloc _) ⟨wr.heap.size, 0, none⟩ 1 1 [.int .i64 ((w1 : Int))] (by rfl) (by rfl) ne_new (by simp [Value.oneCell']) (by omega) (by unfold maxLen; omega) (by omega) (by simp; omega) (wr.heap.size + 1) (by simp) ?_; go_must (intro gg cap w3 hown' hgrow _ _; have HO3 := hide hown'; have HB3 : Hid (Below wo.heap.size wo w3) := (by first | exact hide ((HBI.out.alloc HBI.out.size _).drew.grown hgrow (by have := HBI.out.size; simp [World.drew]; omega) (fun g hg => ((HOI.out.alloc (.cells #[.int .i64 ((w1 : Int))] 2)).lt g hg).1)) | exact hide ((HBI.out.alloc HBI.out.size _).grown hgrow (by have := HBI.out.size; simp; omega) (fun g hg => ((HOI.out.alloc (.cells #[.int .i64 ((w1 : Int))] 2)).lt g hg).1))); have hs3 : wo.heap.size < w3.heap.size := (by have := hgrow.size; simp [World.drew] at this; omega); have HBV := hide (HB.out.trans (HB3.out.mono HB.out.size)); clear hown' hgrow; have ff0 : w3.cell? ⟨b1, o1 + xa, none⟩ = some (.slice (some ⟨bx, ox, none⟩) n cx) := (HBV.out.cell (p := ⟨b1, o1 + xa, none⟩) hb1w).trans R1.out; have ff1 : w3.cell? ⟨bx, ox + ya, none⟩ = some (.int .i64 u) := (HBV.out.cell (p := ⟨bx, ox + ya, none⟩) l1).trans R2.out; have ff2 : w3.cell? ⟨b2, o2 + xb, none⟩ = some (.slice (some ⟨bp, op, none⟩) q cp) := (HBV.out.cell (p := ⟨b2, o2 + xb, none⟩) hb2w).trans S1.out; have ff3 : w3.cell? ⟨bp, op + yb, none⟩ = some (.int .i64 u2) := (HBV.out.cell (p := ⟨bp, op + yb, none⟩) m1).trans S2.out)))
          all_goals
            clear ff0 ff1 ff2 ff3
            go_wp2_with fail
            go_roundw
            case rel => exact ⟨y + 1, by omega, by go_num, HB3.out, hs3, by have h := HO3.out; rw [← HCELL.out, frow_take _ _ _ _ hlty] at h; exact h⟩
            case measure => simp [intOf]; omega
        · have hyn : y = sz := by omega
          subst hyn
          have HTM : Hid (((grid y H).take x).length = x) := hide (by rw [List.length_take, grid_length]; omega)
          obtain ⟨A2, c2, hv2, hres2⟩ := own_shape HOI.out
          subst hv2
          have HRO := hide hres2.obj
          have HL3 := hide (HL.out.later HBI.out)
          have HRL : Hid ((frow y H x).length = y) := hide (frow_length _ _ _)
          have HTK : Hid ((frow y H x).take y = frow y H x) := hide (List.take_of_length_le (by rw [HRL.out]; exact Nat.le_refl _))
          have HOW2 : Hid (wr.ownsRow w.heap.size 33 1 u7 x vals) := hide (by have h := HL3.out.own; rw [HTM.out] at h; exact h)
          have hs3 : w.heap.size ≤ wr.heap.size := by have := HBI.out.size; omega
          clear hres2
          go_wp2_with (at_builtin; refine wpList_append_own _ rfl _ _ 22 rfl w.heap.size 33 i2 (.slice none 0 0) 1 24 Try.underlying22 hj hy0 hy1 hy2 rfl (by decide) _ _ _ rfl (HOW2.out.alloc _) ⟨wr.heap.size, 0, none⟩ 1 1 [.slice A2 y c2] rfl rfl ?c1 ?c2 ?c3 ?c4 ?c5 ?_)
          case c1 => exact ne_new
          case c2 => intro u hu; simp at hu; subst hu; rfl
          case c3 => unfold maxLen; omega
          case c4 => omega
          case c5 => simp; omega
          intro v' w7 hown7 hgrow7 _
          have HO7 := hide hown7
          have HG7 := hide hgrow7
          clear hown7 hgrow7
          go_wp2_with fail
          go_roundw
          case rel =>
            have hB7 : Below w.heap.size w w7 := ((HB.out.trans (HBI.out.mono HB.out.size)).alloc hs3 _).grown HG7.out (by simp; omega) (fun g hg => (HOW2.out.alloc (.cells #[.slice A2 y c2] 33)).lt g hg |>.1)
            have hpush := LstV.push (tmp := .cells #[.slice A2 y c2] 33) (A := A2) (c := c2) (r := frow y H x) (w1 := w7) (v' := v') (by decide) hsz HL.out HBI.out (by have h := HRO.out; rw [HTK.out] at h; exact h) (by rw [HTM.out, HRL.out]; exact HO7.out) HG7.out
            refine ⟨x + 1, vals ++ [.slice A2 (frow y H x).length c2], by omega, by go_num, hB7, ?_, by have := hB7.size; omega⟩
            rw [grid_take _ _ _ hlt]
            exact hpush
          case measure => simp [intOf]; omega
    · have hxn : x = sz := by omega
      subst hxn
      go_wp2_with fail
      have h := HL.out
      rw [List.take_of_length_le (by rw [grid_length]; exact Nat.le_refl _)] at h
      go_ret
      obtain ⟨A', c', hv, hobj⟩ := h.shape
      rw [grid_length] at hv
      exact ⟨A', c', by rw [← hv]; rfl, HB.out, hobj⟩
set_option maxRecDepth 100000 in
theorem pdS_any (A : Option Addr) (n c : Nat) (f : List (List Int)) (C : Option Addr) (q c2 : Nat) (f2 : List (List Int)) (zs : List (List Int)) (code : Int) (k : Nat) (w : World) (hn : f.length = n) (hb : n ≤ 1048576) (hbs : ∀ i, i < f.length → (f.getD i []).length ≤ 1048576) (hr : Rd2 w A f) (hn2 : f2.length = q) (hb2 : q ≤ 1048576) (hbs2 : ∀ i, i < f2.length → (f2.getD i []).length ≤ 1048576) (hr2 : Rd2 w C f2) (hres : PdRes f f2 zs code) (hk : zs.length = k) :
    Calls Try.prog 11 #[.agg #[.slice A n c], .agg #[.slice C q c2]] w (fun e w' => ∃ A' c', e = .returned (.tuple #[.agg #[.slice A' k c'], .int .i64 code]) ∧ Below w.heap.size w w' ∧ Obj2 33 2 w.heap.size w'.heap.size w' A' zs) := by
  have HN := hide hn
  have HBS := hide hbs
  have HRD := hide hr
  have HN2 := hide hn2
  have HBS2 := hide hbs2
  have HRD2 := hide hr2
  clear hn hbs hr hn2 hbs2 hr2
  rcases hres with ⟨hg, hlim, rfl, rfl⟩ | ⟨hg, hlim, rfl, rfl⟩ | ⟨hg, rfl, rfl⟩
  · have HT1 := hide hg.1.tbl
    have HT2 := hide hg.2.tbl
    have HRK1 : Hid (RkRes f true) := hide (by unfold RkRes; simp [hg.1])
    have HRK2 : Hid (RkRes f2 true) := hide (by unfold RkRes; simp [hg.2])
    have hn0 : 1 ≤ n ∧ n ≤ 12 := by have h := hg.1.tbl; rw [← HN.out]; exact ⟨h.1, h.2.1⟩
    have hq0 : 1 ≤ q ∧ q ≤ 12 := by have h := hg.2.tbl; rw [← HN2.out]; exact ⟨h.1, h.2.1⟩
    obtain ⟨sz, hsz⟩ : ∃ a, n * q = a := ⟨_, rfl⟩
    have hsq : sz ≤ 144 := by rw [← hsz]; exact Nat.le_trans (Nat.mul_le_mul hn0.2 hq0.2) (Nat.le_refl _)
    have h1s : 1 ≤ sz := by rw [← hsz]; exact Nat.mul_pos hn0.1 hq0.1
    have hsi : (n : Int) * (q : Int) = (sz : Int) := by rw [← hsz]; simp
    have hwk : IntKind.i64.wrap (sz : Int) = (sz : Int) := IntWalk.i64_in _ (by omega)
    have HSZ := hide hsz
    have hkk : k = sz := by rw [← hk, grid_length, HN.out, HN2.out, hsz]
    have hle : sz ≤ 12 := by rw [← hsz, ← HN.out, ← HN2.out]; exact hlim
    subst hkk
    rw [HN.out, HN2.out, HSZ.out]
    clear hg hk hlim hsz
    go_enter Try.func11, Try.ntmps11
    go_wp2_with fail
    refine calls_gen fun wd hw0 => ?_
    have HB : Hid (Below w.heap.size w wd) := hide (by rw [hw0]; exact (((Below.refl _ _).alloc (Nat.le_refl _) _).alloc (by simp) _).alloc (by simp; omega) _)
    have HK : Hid (Blk wd w.heap.size 26 [.slice A n c]) := hide (by rw [hw0]; exact ((Blk.new _ _ _).alloc _).alloc _)
    have HL : Hid (Blk wd (w.heap.size + 1) 26 [.slice C q c2]) := hide (by rw [hw0]; have h := (Blk.new (w.alloc (Obj.cells #[.slice A n c] 26)) 26 [.slice C q c2]).alloc (Obj.cells #[.slice none 0 0] 26); simpa using h)
    have HR : Hid (Blk wd (w.heap.size + 1 + 1) 26 [.slice none 0 0]) := hide (by rw [hw0]; have h := Blk.new ((w.alloc (Obj.cells #[.slice A n c] 26)).alloc (Obj.cells #[.slice C q c2] 26)) 26 [.slice none 0 0]; simpa using h)
    clear hw0
    have hng : ¬ (12 : Int) < (k : Int) := by omega
    refine (isRackS _ _ _ f true _ HN.out hb HBS.out (HRD.out.later HB.out) HRK1.out).mono ?_
    rintro e wd ⟨rfl, hbd⟩
    replace HB := hide (HB.out.trans (hbd.mono HB.out.size))
    replace HK := hide (HK.out.later hbd)
    replace HL := hide (HL.out.later hbd)
    replace HR := hide (HR.out.later hbd)
    clear hbd
    have k0 := HK.out.cell 0 _ rfl
    have k1 := HL.out.cell 0 _ rfl
    go_wp2_with fail
    clear k0 k1
    refine (isRackS _ _ _ f2 true _ HN2.out hb2 HBS2.out (HRD2.out.later HB.out) HRK2.out).mono ?_
    rintro e wd ⟨rfl, hbd⟩
    replace HB := hide (HB.out.trans (hbd.mono HB.out.size))
    replace HK := hide (HK.out.later hbd)
    replace HL := hide (HL.out.later hbd)
    replace HR := hide (HR.out.later hbd)
    clear hbd
    have k0 := HK.out.cell 0 _ rfl
    have k1 := HL.out.cell 0 _ rfl
    go_wp2_with fail
    clear k0 k1
    refine (l04Product_any _ _ _ f _ _ _ f2 k _ HN.out HT1.out (HRD.out.later HB.out) HN2.out HT2.out (HRD2.out.later HB.out) HSZ.out hle).mono ?_
    rintro e we ⟨A3, c3, rfl, hbd, ho3⟩
    have HO3 := hide ho3
    have hlow : w.heap.size + 1 + 1 < wd.heap.size := HR.out.lt
    replace HB := hide (HB.out.trans (hbd.mono HB.out.size))
    replace HR := hide (HR.out.later hbd)
    clear hbd ho3
    have k2 := HR.out.cell 0 _ rfl
    have k3 := HR.out.frozen 0
    go_wp2_with fail
    refine bp_gen fun wf hwf => ?_
    obtain ⟨q0, hbf, hof⟩ := kend hwf HR.out (by omega) HB.out HO3.out (by omega) hlow (Nat.le_refl _)
    clear hwf k2 k3
    exact bodyPost_ret (v := .tuple #[.agg #[.slice A3 k c3], .int .i64 0]) (by simp [results, Try.results11, go_sem, q0]) rfl ⟨_, _, rfl, hbf, hof⟩
  · have HT1 := hide hg.1.tbl
    have HT2 := hide hg.2.tbl
    have HRK1 : Hid (RkRes f true) := hide (by unfold RkRes; simp [hg.1])
    have HRK2 : Hid (RkRes f2 true) := hide (by unfold RkRes; simp [hg.2])
    have hn0 : 1 ≤ n ∧ n ≤ 12 := by have h := hg.1.tbl; rw [← HN.out]; exact ⟨h.1, h.2.1⟩
    have hq0 : 1 ≤ q ∧ q ≤ 12 := by have h := hg.2.tbl; rw [← HN2.out]; exact ⟨h.1, h.2.1⟩
    obtain ⟨sz, hsz⟩ : ∃ a, n * q = a := ⟨_, rfl⟩
    have hsq : sz ≤ 144 := by rw [← hsz]; exact Nat.le_trans (Nat.mul_le_mul hn0.2 hq0.2) (Nat.le_refl _)
    have h1s : 1 ≤ sz := by rw [← hsz]; exact Nat.mul_pos hn0.1 hq0.1
    have hsi : (n : Int) * (q : Int) = (sz : Int) := by rw [← hsz]; simp
    have hwk : IntKind.i64.wrap (sz : Int) = (sz : Int) := IntWalk.i64_in _ (by omega)
    have HSZ := hide hsz
    have hgl : ¬ sz ≤ 12 := by rw [← hsz, ← HN.out, ← HN2.out]; exact hlim
    obtain rfl : k = 0 := by simpa using hk.symm
    clear hk
    clear hg hlim hsz
    go_enter Try.func11, Try.ntmps11
    go_wp2_with fail
    refine calls_gen fun wd hw0 => ?_
    have HB : Hid (Below w.heap.size w wd) := hide (by rw [hw0]; exact (((Below.refl _ _).alloc (Nat.le_refl _) _).alloc (by simp) _).alloc (by simp; omega) _)
    have HK : Hid (Blk wd w.heap.size 26 [.slice A n c]) := hide (by rw [hw0]; exact ((Blk.new _ _ _).alloc _).alloc _)
    have HL : Hid (Blk wd (w.heap.size + 1) 26 [.slice C q c2]) := hide (by rw [hw0]; have h := (Blk.new (w.alloc (Obj.cells #[.slice A n c] 26)) 26 [.slice C q c2]).alloc (Obj.cells #[.slice none 0 0] 26); simpa using h)
    have HR : Hid (Blk wd (w.heap.size + 1 + 1) 26 [.slice none 0 0]) := hide (by rw [hw0]; have h := Blk.new ((w.alloc (Obj.cells #[.slice A n c] 26)).alloc (Obj.cells #[.slice C q c2] 26)) 26 [.slice none 0 0]; simpa using h)
    clear hw0
    have hgt : (12 : Int) < (sz : Int) := by omega
    refine (isRackS _ _ _ f true _ HN.out hb HBS.out (HRD.out.later HB.out) HRK1.out).mono ?_
    rintro e wd ⟨rfl, hbd⟩
    replace HB := hide (HB.out.trans (hbd.mono HB.out.size))
    replace HK := hide (HK.out.later hbd)
    replace HL := hide (HL.out.later hbd)
    replace HR := hide (HR.out.later hbd)
    clear hbd
    have k0 := HK.out.cell 0 _ rfl
    have k1 := HL.out.cell 0 _ rfl
    go_wp2_with fail
    clear k0 k1
    refine (isRackS _ _ _ f2 true _ HN2.out hb2 HBS2.out (HRD2.out.later HB.out) HRK2.out).mono ?_
    rintro e wd ⟨rfl, hbd⟩
    replace HB := hide (HB.out.trans (hbd.mono HB.out.size))
    replace HK := hide (HK.out.later hbd)
    replace HL := hide (HL.out.later hbd)
    replace HR := hide (HR.out.later hbd)
    clear hbd
    have k0 := HK.out.cell 0 _ rfl
    have k1 := HL.out.cell 0 _ rfl
    have k2 := HR.out.cell 0 _ rfl
    have k3 := HR.out.frozen 0
    go_wp2_with fail
    refine bp_gen fun wf hwf => ?_
    have HRF : Blk wf (w.heap.size + 1 + 1) 26 [.slice none 0 0] := by rw [hwf]; first | exact HR.out | exact HR.out.set 0 _
    have hbf : Below w.heap.size w wf := by rw [hwf]; first | exact HB.out | exact HB.out.setCell (p := ⟨w.heap.size + 1 + 1, 0, none⟩) (by show w.heap.size ≤ w.heap.size + 1 + 1; omega) _
    have q0 := HRF.cell 0 _ rfl
    clear hwf k2 k3
    exact bodyPost_ret (v := .tuple #[.agg #[.slice none 0 0], .int .i64 3]) (by simp [results, Try.results11, go_sem, q0]) rfl ⟨_, _, rfl, hbf, .inl ⟨rfl, rfl⟩⟩
  · by_cases h1 : Rck f
    · have h2 : ¬ Rck f2 := fun h => hg ⟨h1, h⟩
      have HRK1 : Hid (RkRes f true) := hide (by unfold RkRes; simp [h1])
      have HRK2 : Hid (RkRes f2 false) := hide (by unfold RkRes; simp [h2])
      obtain rfl : k = 0 := by simpa using hk.symm
      clear hk
      clear hg h1 h2
      go_enter Try.func11, Try.ntmps11
      go_wp2_with fail
      refine calls_gen fun wd hw0 => ?_
      have HB : Hid (Below w.heap.size w wd) := hide (by rw [hw0]; exact (((Below.refl _ _).alloc (Nat.le_refl _) _).alloc (by simp) _).alloc (by simp; omega) _)
      have HK : Hid (Blk wd w.heap.size 26 [.slice A n c]) := hide (by rw [hw0]; exact ((Blk.new _ _ _).alloc _).alloc _)
      have HL : Hid (Blk wd (w.heap.size + 1) 26 [.slice C q c2]) := hide (by rw [hw0]; have h := (Blk.new (w.alloc (Obj.cells #[.slice A n c] 26)) 26 [.slice C q c2]).alloc (Obj.cells #[.slice none 0 0] 26); simpa using h)
      have HR : Hid (Blk wd (w.heap.size + 1 + 1) 26 [.slice none 0 0]) := hide (by rw [hw0]; have h := Blk.new ((w.alloc (Obj.cells #[.slice A n c] 26)).alloc (Obj.cells #[.slice C q c2] 26)) 26 [.slice none 0 0]; simpa using h)
      clear hw0
      refine (isRackS _ _ _ f true _ HN.out hb HBS.out (HRD.out.later HB.out) HRK1.out).mono ?_
      rintro e wd ⟨rfl, hbd⟩
      replace HB := hide (HB.out.trans (hbd.mono HB.out.size))
      replace HK := hide (HK.out.later hbd)
      replace HL := hide (HL.out.later hbd)
      replace HR := hide (HR.out.later hbd)
      clear hbd
      have k0 := HK.out.cell 0 _ rfl
      have k1 := HL.out.cell 0 _ rfl
      go_wp2_with fail
      clear k0 k1
      refine (isRackS _ _ _ f2 false _ HN2.out hb2 HBS2.out (HRD2.out.later HB.out) HRK2.out).mono ?_
      rintro e wd ⟨rfl, hbd⟩
      replace HB := hide (HB.out.trans (hbd.mono HB.out.size))
      replace HK := hide (HK.out.later hbd)
      replace HL := hide (HL.out.later hbd)
      replace HR := hide (HR.out.later hbd)
      clear hbd
      have k2 := HR.out.cell 0 _ rfl
      have k3 := HR.out.frozen 0
      go_wp2_with fail
      refine bp_gen fun wf hwf => ?_
      have HRF : Blk wf (w.heap.size + 1 + 1) 26 [.slice none 0 0] := by rw [hwf]; first | exact HR.out | exact HR.out.set 0 _
      have hbf : Below w.heap.size w wf := by rw [hwf]; first | exact HB.out | exact HB.out.setCell (p := ⟨w.heap.size + 1 + 1, 0, none⟩) (by show w.heap.size ≤ w.heap.size + 1 + 1; omega) _
      have q0 := HRF.cell 0 _ rfl
      clear hwf k2 k3
      exact bodyPost_ret (v := .tuple #[.agg #[.slice none 0 0], .int .i64 1]) (by simp [results, Try.results11, go_sem, q0]) rfl ⟨_, _, rfl, hbf, .inl ⟨rfl, rfl⟩⟩
    · have HRK1 : Hid (RkRes f false) := hide (by unfold RkRes; simp [h1])
      obtain rfl : k = 0 := by simpa using hk.symm
      clear hk
      clear hg h1
      go_enter Try.func11, Try.ntmps11
      go_wp2_with fail
      refine calls_gen fun wd hw0 => ?_
      have HB : Hid (Below w.heap.size w wd) := hide (by rw [hw0]; exact (((Below.refl _ _).alloc (Nat.le_refl _) _).alloc (by simp) _).alloc (by simp; omega) _)
      have HK : Hid (Blk wd w.heap.size 26 [.slice A n c]) := hide (by rw [hw0]; exact ((Blk.new _ _ _).alloc _).alloc _)
      have HL : Hid (Blk wd (w.heap.size + 1) 26 [.slice C q c2]) := hide (by rw [hw0]; have h := (Blk.new (w.alloc (Obj.cells #[.slice A n c] 26)) 26 [.slice C q c2]).alloc (Obj.cells #[.slice none 0 0] 26); simpa using h)
      have HR : Hid (Blk wd (w.heap.size + 1 + 1) 26 [.slice none 0 0]) := hide (by rw [hw0]; have h := Blk.new ((w.alloc (Obj.cells #[.slice A n c] 26)).alloc (Obj.cells #[.slice C q c2] 26)) 26 [.slice none 0 0]; simpa using h)
      clear hw0
      refine (isRackS _ _ _ f false _ HN.out hb HBS.out (HRD.out.later HB.out) HRK1.out).mono ?_
      rintro e wd ⟨rfl, hbd⟩
      replace HB := hide (HB.out.trans (hbd.mono HB.out.size))
      replace HK := hide (HK.out.later hbd)
      replace HL := hide (HL.out.later hbd)
      replace HR := hide (HR.out.later hbd)
      clear hbd
      have k2 := HR.out.cell 0 _ rfl
      have k3 := HR.out.frozen 0
      go_wp2_with fail
      refine bp_gen fun wf hwf => ?_
      have HRF : Blk wf (w.heap.size + 1 + 1) 26 [.slice none 0 0] := by rw [hwf]; first | exact HR.out | exact HR.out.set 0 _
      have hbf : Below w.heap.size w wf := by rw [hwf]; first | exact HB.out | exact HB.out.setCell (p := ⟨w.heap.size + 1 + 1, 0, none⟩) (by show w.heap.size ≤ w.heap.size + 1 + 1; omega) _
      have q0 := HRF.cell 0 _ rfl
      clear hwf k2 k3
      exact bodyPost_ret (v := .tuple #[.agg #[.slice none 0 0], .int .i64 1]) (by simp [results, Try.results11, go_sem, q0]) rfl ⟨_, _, rfl, hbf, .inl ⟨rfl, rfl⟩⟩

end Go.Proofs.Ytljdfanebjhhmaa
