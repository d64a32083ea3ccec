import Derived.Test.YtnkggphffinekaaGreatS
import Derived.Test.YtnkggphffinekaaOrbsS
import Derived.Test.YtnkggphffinekaaPrmS
import Derived.Test.YtnkggphffinekaaCycI
namespace Go.Proofs.Ytnkggphffinekaa
open Go Go.RowKit
open Classical
set_option maxHeartbeats 2000000

theorem spZ_length (f : Nat → Int) (n G z : Nat) : (spZ f n G z).length ≤ z * G := by
  induction z with
  | zero => simp [spZ]
  | succ z ih =>
    rw [spZ_next, List.length_append, Nat.succ_mul]
    have := spO_length f n (z + 1) G
    omega
noncomputable def cntTo (f : Nat → Int) (x o : Nat) : Nat := (List.range x).countP fun y => f y == (o : Int)
theorem cntTo_next (f : Nat → Int) (x o : Nat) : cntTo f (x + 1) o = cntTo f x o + if f x = (o : Int) then 1 else 0 := by
  unfold cntTo
  rw [List.range_succ, List.countP_append]
  by_cases h : f x = (o : Int)
  · simp [h]
  · simp [h]
theorem cntTo_le (f : Nat → Int) (x o : Nat) : cntTo f x o ≤ x := by
  unfold cntTo
  have := List.countP_le_length (p := fun y => f y == (o : Int)) (l := List.range x)
  simpa using this

def CycRes (p : List Int) (zs : List Int) (code : Int) : Prop := (Prm p ∧ zs.Perm (cyc [p] p.length p.length) ∧ Sorted zs ∧ zs = spZ (lab [p] p.length).1 p.length (lab [p] p.length).2 p.length ∧ code = 0) ∨ (¬ Prm p ∧ zs = [] ∧ code = 1)
theorem CycRes.ex (p : List Int) : ∃ zs code, CycRes p zs code ∧ zs.length ≤ 4194304 := by
  by_cases h : Prm p
  · have hg := gens_one rfl h
    have hp := spZ_perm [p] p.length hg
    refine ⟨_, _, .inl ⟨h, hp, spZ_sorted _ _ _ _, rfl, rfl⟩, ?_⟩
    rw [hp.length_eq]
    unfold cyc
    have := lab_le [p] p.length
    have := h.2.1
    simp
    omega
  · exact ⟨_, _, .inr ⟨h, rfl, rfl⟩, by simp⟩

theorem cycWI_any (A : Option Addr) (n c : Nat) (xs : List Int) (zs : List Int) (code : Int) (k : Nat) (w : World) (hn : xs.length = n) (hb : n ≤ 1048576) (hx : Rd w A xs) (hr : CycRes xs zs code) (hk : zs.length = k) :
    Calls Try.prog 23 #[.slice A n c] w (RPost 2 k zs code w) := by
  have HN := hide hn
  rcases hr with ⟨hp, hperm, hso, _, rfl⟩ | ⟨hp, rfl, rfl⟩
  · rw [hn] at hperm
    have HP := hide hp
    have HPE := hide hperm
    have HSO := hide hso
    have HK := hide hk
    clear hn hp hperm hso hk
    go_enter Try.func23, Try.ntmps23
    go_wp2_with fail
    refine (isPerm_any _ _ _ xs true _ HN.out (by omega) hx (by simp [HP.out])).mono ?_
    rintro e w1 ⟨rfl, hq1⟩
    have HQ1 := hide hq1
    clear hq1
    go_wp2_with fail
    refine (cycles_any _ n _ xs _ HN.out HP.out (hx.later HQ1.out)).mono ?_
    rintro e w2 ⟨A2, c2, ys, rfl, hb2, hres, hpe, hso⟩
    have hys : ys = zs := sorted_eq ys zs (hpe.trans HPE.out.symm) hso HSO.out
    subst hys
    have hl := hpe.length_eq
    rw [HK.out] at hl
    have HB2 := hide (HQ1.out.trans (hb2.mono HQ1.out.size))
    have HR2 := hide (hres.obj.mono (lo' := w.heap.size) HQ1.out.size (Nat.le_refl _))
    rw [← hl]
    clear hb2 hres hpe hso hl
    go_wp2_with fail
    go_ret2
    exact ⟨_, _, rfl, HB2.out, HR2.out.res (Nat.le_refl _)⟩
  · obtain rfl : k = 0 := by simpa using hk.symm
    have HP := hide hp
    clear hn hk hp
    go_enter Try.func23, Try.ntmps23
    go_wp2_with fail
    refine (isPerm_any _ _ _ xs false _ HN.out (by omega) hx (by simp [HP.out])).mono ?_
    rintro e w1 ⟨rfl, hq1⟩
    have HQ1 := hide hq1
    clear hq1
    go_wp2_with fail
    go_ret2
    exact ⟨_, _, rfl, HQ1.out, .inl ⟨rfl, rfl⟩⟩

set_option maxRecDepth 20000 in
theorem cycWS_any (A : Option Addr) (n c : Nat) (xs : List Int) (zs : List Int) (code : Int) (k : Nat) (w : World) (hn : xs.length = n) (hb : n ≤ 1048576) (hx : Rd w A xs) (hr : CycRes xs zs code) (hk : zs.length = k) :
    Calls Try.prog 54 #[.slice A n c] w (RPost 2 k zs code w) := by
  have HN := hide hn
  obtain ⟨i0, hi, hz0, hz1, hz2⟩ := info_parts liInfo
  rcases hr with ⟨hp, _, _, hzs, rfl⟩ | ⟨hp, rfl, rfl⟩
  · rw [hn] at hzs
    have h1n : 1 ≤ n := by have := hp.1; omega
    have h12 : n ≤ 12 := by have := hp.2.1; omega
    have HP := hide hp
    have HG := hide (gens_one hn hp)
    have HZ := hide hzs
    have HK := hide hk
    clear hn hp hzs hk
    go_enter Try.func54, Try.ntmps54
    go_wp2_with fail
    refine (prmS_below _ _ _ xs true _ HN.out (by omega) hx (by simp [HP.out])).mono ?_
    rintro e w1 ⟨rfl, hq1⟩
    have HQ1 := hide hq1
    have hs1 := hq1.size
    clear hq1
    have hrd : Rd2 (w1.alloc (.cells #[.slice A n c] 24)) (some ⟨w1.heap.size, 0, none⟩) [xs] := by
      intro _
      refine ⟨w1.heap.size, 0, rfl, by simp, fun i hi => ?_⟩
      have h0 : i = 0 := by simp at hi; omega
      subst h0
      refine ⟨A, c, ?_, ?_⟩
      · have := HN.out
        simp [World.cell?_alloc_new, this]
      · exact (hx.later HQ1.out).later ((Below.refl _ _).alloc (Nat.le_refl _) _)
    have HRD := hide hrd
    clear hrd
    go_wp2_with fail
    refine (l01Orbits_any _ 1 _ n [xs] _ rfl (by omega) h1n h12 HG.out HRD.out).mono ?_
    rintro e w2 ⟨A2, c2, rfl, hb2, hres⟩
    have hB2 : Below w.heap.size w w2 := (HQ1.out.alloc hs1 _).trans (hb2.mono (by simp; omega))
    have HB2 := hide hB2
    have hs2 : w.heap.size ≤ w2.heap.size := hB2.size
    rcases hres.obj with ⟨_, e⟩ | ⟨g, rfl, hg1, hg2, how⟩
    · have := congrArg List.length e
      rw [labL_length] at this
      simp at this
      omega
    have HW := hide how
    have hG := lab_le [xs] n
    obtain ⟨G, hGe⟩ : ∃ G, (lab [xs] n).2 = G := ⟨_, rfl⟩
    obtain ⟨f, hf⟩ : ∃ f, (lab [xs] n).1 = f := ⟨_, rfl⟩
    have hgr := gI_lab [xs] n HG.out
    rw [hGe] at hgr hG
    have HGR := hide hgr
    have HZ2 : Hid (zs = spZ f n G n) := hide (by have := HZ.out; rwa [hGe, hf] at this)
    have hlf : ∀ y, y < n → (labL [xs] n n).getD y 0 = f y := fun y hy => by rw [labL_at _ _ _ _ hy, hf]
    have HLF := hide hlf
    have hl12 : ∀ y, y < n → (labL [xs] n n).getD y 0 ≤ 12 := fun y hy => by rw [labL_at _ _ _ _ hy]; have := (lab_lo [xs] n y).2; omega
    have HL12 := hide hl12
    have hll := labL_length [xs] n n
    have HLL := hide hll
    clear hres how hb2 hB2 hGe hf hgr hlf hl12 hll HZ
    go_wp2_with fail
    go_loopw [5, 6] (fun v i wr => ∃ z : Nat, z ≤ n ∧ i = .int .i64 ((z : Int) + 1) ∧ Below w.heap.size w wr ∧ w2.heap.size ≤ wr.heap.size ∧ OwnB 2 wr g (labL [xs] n n) ∧ wr.ownsRow w2.heap.size 2 1 v (spZ f n G z).length (ints (spZ f n G z))) (fun _ i _ => (n : Nat) + 1 - (intOf i).toNat)
    case atStart => exact ⟨0, Nat.zero_le _, by first | rfl | go_num, HB2.out.alloc hs2 _, by simp, HW.out.of_block (Below.heap_alloc _ _ _ hg2), (show (w2.alloc (.cells #[] 2)).ownsRow w2.heap.size 2 1 (.slice (some ⟨w2.heap.size, 0, none⟩) 0 0) 0 [] from ⟨by simp, .inr ⟨w2.heap.size, 0, #[], rfl, Nat.le_refl _, heap_alloc_new _ _, Nat.le_refl _, by unfold maxLen; omega, by simp, by simp⟩⟩ : (w2.alloc (.cells #[] 2)).ownsRow w2.heap.size 2 1 (.slice (some ⟨w2.heap.size, 0, none⟩) 0 0) 0 [])⟩
    case round =>
      clear HW
      obtain ⟨z, hzn, rfl, hbe, hsz, how, hown⟩ := hrel
      have HB := hide hbe
      have HW := hide how
      have HO := hide hown
      clear hbe how hown
      by_cases hlt : z < n
      · have hltz : (z : Int) + 1 ≤ (n : Int) := by omega
        go_wp2_with fail
        obtain ⟨wo, rfl⟩ : ∃ wo : World, wo = wr := ⟨_, rfl⟩
        go_loopw [5, 7] (fun v i wi => ∃ o : Nat, o ≤ G ∧ i = .int .i64 o ∧ Below w.heap.size w wi ∧ w2.heap.size ≤ wi.heap.size ∧ OwnB 2 wi g (labL [xs] n n) ∧ wi.ownsRow w2.heap.size 2 1 v (spZ f n G z ++ spO f n (z + 1) o).length (ints (spZ f n G z ++ spO f n (z + 1) o))) (fun _ i _ => G - (intOf i).toNat)
        case atStart => exact ⟨0, Nat.zero_le _, rfl, HB.out, hsz, HW.out, by simpa [spO] using HO.out⟩
        case round =>
          clear HB HW HO hsz
          obtain ⟨o, hoG, rfl, hbe, hsz, how, hown⟩ := hrel
          have HB := hide hbe
          have HW := hide how
          have HO := hide hown
          clear hbe how hown
          by_cases hlo : o < G
          · have hloz : (o : Int) < (G : Int) := by omega
            go_wp2_with fail
            refine (greatest_any _ n _ (labL [xs] n n) (G : Int) _ HLL.out (by omega) HW.out.rd HL12.out HGR.out).mono ?_
            rintro e w3 ⟨rfl, hq3⟩
            have HB3 := hide (HB.out.trans (hq3.below _))
            have hs3 : w2.heap.size ≤ w3.heap.size := Nat.le_trans hsz (hq3.below 0).size
            have HW3 : Hid (OwnB 2 w3 g (labL [xs] n n)) := hide (by obtain ⟨q, rfl⟩ := hq3; exact ⟨HW.out.choose, HW.out.choose_spec⟩)
            have HO3 : Hid (w3.ownsRow w2.heap.size 2 1 u5 (spZ f n G z ++ spO f n (z + 1) o).length (ints (spZ f n G z ++ spO f n (z + 1) o))) := hide (by obtain ⟨q, rfl⟩ := hq3; exact HO.out)
            clear hq3 HB HW HO
            go_wp2_with fail
            obtain ⟨wp, rfl⟩ : ∃ wp : World, wp = w3 := ⟨_, rfl⟩
            go_loopw [8, 9] (fun cn i wi => ∃ x : Nat, x ≤ n ∧ i = .int .i64 x ∧ cn = .int .i64 (cntTo f x o) ∧ wi = wp) (fun _ i _ => n - (intOf i).toNat)
            case atStart => exact ⟨0, Nat.zero_le _, rfl, by simp [cntTo], rfl⟩
            case round =>
              obtain ⟨x, hxn, rfl, rfl, rfl⟩ := hrel
              have hcl := cntTo_le f x o
              by_cases hlx : x < n
              · have hlxz : (x : Int) < (n : Int) := by omega
                have hc := HW3.out.cell (i := x) (by rw [HLL.out]; exact hlx)
                rw [HLF.out x hlx] at hc
                have hnext := cntTo_next f x o
                obtain ⟨fx, hfx⟩ : ∃ fx, f x = fx := ⟨_, rfl⟩
                obtain ⟨K, hK⟩ : ∃ K, cntTo f x o = K := ⟨_, rfl⟩
                rw [hfx] at hc hnext
                rw [hK] at hnext hcl ⊢
                have HNX := hide hnext
                clear hfx hK hnext
                by_cases hfo : fx = (o : Int)
                · have hn2 : cntTo f (x + 1) o = K + 1 := by rw [HNX.out, if_pos hfo]
                  have HN2 := hide hn2
                  clear hn2
                  subst hfo
                  have hdd : decide ((o : Int) = (o : Int)) = true := by simp
                  go_wp2_with fail
                  go_roundw
                  case rel => exact ⟨x + 1, by omega, by go_num, by rw [HN2.out]; go_num, by first | rfl | trivial⟩
                  case measure => simp [intOf]; omega
                · have hn2 : cntTo f (x + 1) o = K := by rw [HNX.out, if_neg hfo, Nat.add_zero]
                  have HN2 := hide hn2
                  clear hn2
                  go_wp2_with fail
                  go_roundw
                  case rel => exact ⟨x + 1, by omega, by go_num, by rw [HN2.out], by first | rfl | trivial⟩
                  case measure => simp [intOf]; omega
              · have hxn' : x = n := by omega
                subst hxn'
                have hco : cntTo f x o = cnt f x o := rfl
                have hnext := spO_next f x (z + 1) o
                have hlen1 := spZ_length f x G z
                have hlen2 := spO_length f x (z + 1) o
                have hmul : z * G ≤ 12 * 12 := Nat.mul_le_mul (by omega) (by omega)
                obtain ⟨K, hK⟩ : ∃ K, cntTo f x o = K := ⟨_, rfl⟩
                have HKK : Hid (cnt f x o = K) := hide (by rw [← hco]; exact hK)
                rw [hK] at hcl ⊢
                obtain ⟨L, hL⟩ : ∃ L, (spZ f x G z ++ spO f x (z + 1) o).length = L := ⟨_, rfl⟩
                have HLL2 := hide hL
                have hLb : L ≤ 200 := by rw [← hL, List.length_append]; omega
                have HNX := hide hnext
                have hown3 := HO3.out
                rw [hL] at hown3
                have HO4 := hide hown3
                clear hK hL hco hnext hlen1 hlen2 hmul hown3
                by_cases hKz : K = z + 1
                · have hKzz : (K : Int) = (z : Int) + 1 := by omega
                  have hn2 : spO f x (z + 1) (o + 1) = spO f x (z + 1) o ++ [((z + 1 : Nat) : Int)] := by rw [HNX.out, HKK.out, if_pos hKz]
                  have HN2 := hide hn2
                  clear hn2
                  rw [hKzz]
                  clear hKzz
                  have hdd : decide ((z : Int) + 1 = (z : Int) + 1) = true := by simp
                  go_wp2_with (at_builtin; refine wpList_append_own _ rfl _ _ 24 rfl w2.heap.size 2 i0 (.int .i64 0) 1 8 Try.underlying24 hi hz0 hz1 hz2 rfl (by decide) _ _ _ rfl (HO4.out.alloc _) ⟨wr.heap.size, 0, none⟩ 1 1 [.int .i64 ((z : Int) + 1)] rfl rfl ?d1 ?d2 ?d3 ?d4 ?d5 ?_)
                  case d2 => first | rfl | (intro u hu; simp at hu; subst hu; rfl)
                  case d3 => unfold maxLen; omega
                  case d4 => omega
                  case d5 => first | omega | (simp; omega)
                  intro v' w7 hown' hgrow _
                  have HO' := hide hown'
                  have HGR7 := hide hgrow
                  clear hown' hgrow
                  go_wp2_with fail
                  go_roundw
                  case rel =>
                    have hB7 : Below w.heap.size w w7 := (HB3.out.alloc (by omega) _).grown HGR7.out (by simp; omega) (fun g' hg' => by have := ((HO4.out.alloc (.cells #[.int .i64 ((z : Int) + 1)] 2)).lt g' hg').1; omega)
                    have e : ints (spZ f x G z ++ spO f x (z + 1) o) ++ [.int .i64 ((z : Int) + 1)] = ints (spZ f x G z ++ spO f x (z + 1) (o + 1)) := by rw [HN2.out]; simp [ints]
                    refine ⟨o + 1, by omega, by go_num, hB7, by have := HGR7.out.size; simp at this; omega, ?_, ?_⟩
                    · refine HW3.out.of_block ((HGR7.out.block g (by simp; omega) ?_).trans (Below.heap_alloc _ _ _ (by omega)))
                      intro e'
                      have := ((HO4.out.alloc (.cells #[.int .i64 ((z : Int) + 1)] 2)).lt g e'.symm).1
                      omega
                    · have h := HO'.out
                      rw [e] at h
                      have el : (spZ f x G z ++ spO f x (z + 1) (o + 1)).length = L + 1 := by rw [HN2.out, ← List.append_assoc, List.length_append, HLL2.out]; simp
                      rw [el]
                      exact h
                  case measure => simp [intOf]; omega
                · have hn2 : spO f x (z + 1) (o + 1) = spO f x (z + 1) o := by rw [HNX.out, HKK.out, if_neg hKz]; simp
                  have HN2 := hide hn2
                  have hKzz : ¬ (K : Int) = (z : Int) + 1 := by omega
                  clear hn2
                  go_wp2_with fail
                  go_roundw
                  case rel => exact ⟨o + 1, by omega, by go_num, HB3.out, hs3, HW3.out, by rw [HN2.out]; exact HO3.out⟩
                  case measure => simp [intOf]; omega
          · have hoG' : o = G := by omega
            subst hoG'
            have hnl : ¬ (o : Int) < (o : Int) := by omega
            go_wp2_with fail
            refine (greatest_any _ n _ (labL [xs] n n) (o : Int) _ HLL.out (by omega) HW.out.rd HL12.out HGR.out).mono ?_
            rintro e w3 ⟨rfl, hq3⟩
            have HB3 := hide (HB.out.trans (hq3.below _))
            have hs3 : w2.heap.size ≤ w3.heap.size := Nat.le_trans hsz (hq3.below 0).size
            have HW3 : Hid (OwnB 2 w3 g (labL [xs] n n)) := hide (by obtain ⟨q, rfl⟩ := hq3; exact ⟨HW.out.choose, HW.out.choose_spec⟩)
            have HO3 : Hid (w3.ownsRow w2.heap.size 2 1 u5 (spZ f n o z ++ spO f n (z + 1) o).length (ints (spZ f n o z ++ spO f n (z + 1) o))) := hide (by obtain ⟨q, rfl⟩ := hq3; exact HO.out)
            clear hq3 HB HW HO
            go_wp2_with fail
            go_roundw
            case rel => exact ⟨z + 1, by omega, by go_num, HB3.out, hs3, HW3.out, by rw [spZ_next]; exact HO3.out⟩
            case measure => simp [intOf]; omega
      · have hzn' : z = n := by omega
        subst hzn'
        go_wp2_with fail
        go_ret2
        obtain ⟨A', c', hv, hres⟩ := own_shape HO.out
        have hK := HK.out
        rw [HZ2.out] at hK ⊢
        rw [hK] at hv
        refine ⟨A', c', by rw [← hv]; rfl, HB.out, (hres.obj.mono (lo' := w.heap.size) hs2 (Nat.le_refl _)).res (Nat.le_refl _)⟩
  · obtain rfl : k = 0 := by simpa using hk.symm
    have HP := hide hp
    clear hn hk hp
    go_enter Try.func54, Try.ntmps54
    go_wp2_with fail
    refine (prmS_below _ _ _ xs false _ HN.out (by omega) hx (by simp [HP.out])).mono ?_
    rintro e w1 ⟨rfl, hq1⟩
    have HQ1 := hide hq1
    clear hq1
    go_wp2_with fail
    go_ret2
    exact ⟨_, _, rfl, HQ1.out, .inl ⟨rfl, rfl⟩⟩
end Go.Proofs.Ytnkggphffinekaa
