import Derived.Test.YtelildgngkajnaaZar
import Derived.Test.YtelildgngkajnaaZy
import Derived.Test.YtelildgngkajnaaZj
import Derived.Test.YtelildgngkajnaaZd
import Derived.Test.YtelildgngkajnaaZu
import Derived.Test.YtelildgngkajnaaZn
import Derived.Deep.AppendLies
namespace Go.Proofs.Ytelildgngkajnaa
open Go Go.RowKit
set_option maxHeartbeats 4000000

set_option maxRecDepth 100000 in
theorem rtS_any (A : Option Addr) (n c : Nat) (f : List (List Int)) (B : Option Addr) (m d : Nat) (xs : List Int) (zs : List (List Int)) (code : Int) (k : Nat) (w : World) (hn : f.length = n) (hb : n ≤ 1048576) (hbs : ∀ i, i < f.length → (f.getD i []).length ≤ 1048576) (hr : Rd2 w A f) (hm : xs.length = m) (hbm : m ≤ 1048576) (hx : Rd w B xs) (hres : RtRes f xs zs code) (hk : zs.length = k) :
    Calls Try.prog 53 #[.agg #[.slice A n c], .slice B m d] w (fun e w' => ∃ A' c', e = .returned (.tuple #[.agg #[.slice A' k c'], .int .i64 code]) ∧ Below w.heap.size w w' ∧ Obj2 48 2 w.heap.size w'.heap.size w' A' zs) := by
  have HN := hide hn
  have HBS := hide hbs
  have HRD := hide hr
  have HM := hide hm
  have HX := hide hx
  clear hbs hr hx
  rcases hres with ⟨⟨h1, h2, h3⟩, h4, rfl, rfl⟩ | ⟨⟨h1, h2, h3⟩, h4, rfl, rfl⟩ | ⟨h1, h2, rfl, rfl⟩ | ⟨h1, h2, h3, rfl, rfl⟩ | ⟨h1, rfl, rfl⟩
  · have HTB := hide h1.tbl
    have h1n : 1 ≤ n := by rw [← hn]; exact h1.tbl.1
    have h12 : n ≤ 12 := by rw [← hn]; exact h1.tbl.2.1
    have HE : Hid (Els n xs) := hide (by rw [← hn]; exact h2)
    have HI := hide h3
    have hm12 : m ≤ 12 := by have := h3.len h2; omega
    have HRK : Hid (RkRes f true) := hide (by unfold RkRes; simp [h1])
    have HS : Hid (SubF f (sN xs m)) := hide (by rw [← hm]; exact h4)
    have hkm : m = k := by rw [← hk, grid_length, hm]
    subst hkm
    rw [hm]
    have hm1 : 1 ≤ m := by
      by_cases e : m = 0
      · exact absurd (by rw [hm, e]; rfl) h4.1
      · omega
    clear hn hm hk h1 h2 h3 h4
    obtain ⟨H, hH⟩ : ∃ H, rtH f xs = H := ⟨_, rfl⟩
    try rw [hH]
    have HH := hide hH
    clear hH
    go_enter Try.func53, Try.ntmps53
    go_wp2_with fail
    refine calls_gen fun wd hw0 => ?_
    have HB : Hid (Below w.heap.size w wd) := hide (by rw [hw0]; exact ((Below.refl _ _).alloc (Nat.le_refl _) _).alloc (by simp) _)
    have HK : Hid (Blk wd w.heap.size 53 [.slice A n c]) := hide (by rw [hw0]; exact (Blk.new _ _ _).alloc _)
    have HR : Hid (Blk wd (w.heap.size + 1) 53 [.slice none 0 0]) := hide (by rw [hw0]; have h := Blk.new (w.alloc (Obj.cells #[.slice A n c] 53)) 53 [.slice none 0 0]; simpa using h)
    clear hw0
    refine (isRackS _ _ _ f true _ HN.out hb HBS.out (HRD.out.later HB.out) HRK.out).mono ?_
    rintro e wd ⟨rfl, hbd⟩
    replace HB := hide (HB.out.trans (hbd.mono HB.out.size))
    replace HK := hide (HK.out.later hbd)
    replace HR := hide (HR.out.later hbd)
    clear hbd
    have k0 := HK.out.cell 0 _ rfl
    go_wp2_with fail
    clear k0
    refine (l04Elements_any n _ _ _ xs true _ hb HM.out hbm (HX.out.later HB.out) (by simp [HE.out])).mono ?_
    rintro e wd ⟨rfl, hbd⟩
    replace HB := hide (HB.out.trans (hbd.mono HB.out.size))
    replace HK := hide (HK.out.later hbd)
    replace HR := hide (HR.out.later hbd)
    clear hbd
    go_wp2_with fail
    go_loopw [6] (fun i wr => ∃ k : Nat, 1 ≤ k ∧ k ≤ m + 1 ∧ i = .int .i64 k ∧ Below w.heap.size w wr ∧ Blk wr w.heap.size 53 [.slice A n c] ∧ Blk wr (w.heap.size + 1) 53 [.slice none 0 0] ∧ ∀ j, 1 ≤ j → j < k → j < xs.length → xs.getD (j - 1) 0 < xs.getD j 0) (fun i _ => m + 1 - (intOf i).toNat)
    case atStart => exact ⟨1, Nat.le_refl _, by omega, rfl, HB.out, HK.out, HR.out, fun j hj h2 => by omega⟩
    case round =>
      clear HB HK HR
      obtain ⟨k, hk1, hk, rfl, hbe, hkk, hrr, hall⟩ := hrel
      have HB := hide hbe
      have HK := hide hkk
      have HR := hide hrr
      have HALL := hide hall
      clear hbe hkk hrr hall
      by_cases hlt : k < m
      · obtain ⟨b, o, rfl, hbw, hc⟩ := HX.out (by have := HM.out; omega)
        obtain ⟨k', rfl⟩ : ∃ k', k = k' + 1 := ⟨k - 1, by omega⟩
        have c1 := (HB.out.cell (p := ⟨b, o + (k' + 1), none⟩) hbw).trans (hc (k' + 1) (by have := HM.out; omega))
        have c2 := (HB.out.cell (p := ⟨b, o + k', none⟩) hbw).trans (hc k' (by have := HM.out; omega))
        obtain ⟨x, hx⟩ : ∃ x, xs.getD (k' + 1) 0 = x := ⟨_, rfl⟩
        obtain ⟨y, hy⟩ : ∃ y, xs.getD k' 0 = y := ⟨_, rfl⟩
        rw [hx] at c1
        rw [hy] at c2
        have HXV := hide hx
        have HYV := hide hy
        have hltz : ((k' + 1 : Nat) : Int) < m := by omega
        have hz2 : ((k' + 1 : Nat) : Int) - 1 = (k' : Int) := by omega
        clear hx hy hc
        obtain ⟨K, hK⟩ : ∃ K, k' + 1 = K := ⟨_, rfl⟩
        have HKK := hide hK
        have hk'z : (k' : Int) < m := by omega
        rw [hK] at c1 hltz hz2 hk hk1 hlt ⊢
        clear hK
        by_cases hle : x ≤ y
        · exact absurd (by have h := HI.out (k' + 1) (by omega) (by have := HM.out; have := HKK.out; omega); rw [HXV.out, show k' + 1 - 1 = k' by omega, HYV.out] at h; exact h) (by omega)
        · go_wp2_with fail
          go_quiet (fail)
          go_wp2_with fail
          go_roundw
          case rel => exact ⟨K + 1, by omega, by omega, by go_num, HB.out.trans ((Quiet.of _ _).below _), HK.out.later ((Quiet.of _ _).below _), HR.out.later ((Quiet.of _ _).below _), fun j h1 h2 h3 => by
            by_cases e : j = k' + 1
            · rw [e, HXV.out, show k' + 1 - 1 = k' by omega, HYV.out]; omega
            · exact HALL.out j h1 (by have := HKK.out; omega) h3⟩
          case measure => simp [intOf]; omega
      · have hltz : ¬ (k : Int) < m := by omega
        clear HALL
        go_wp2_with fail
        refine wp_gen fun w2 hw2 => ?_
        obtain ⟨ob, hob⟩ : ∃ ob, wr.heap.size = ob := ⟨_, rfl⟩
        have hob1 : w.heap.size + 1 < ob := by rw [← hob]; exact HR.out.lt
        replace HB : Hid (Below w.heap.size w w2) := hide (by rw [hw2]; exact HB.out.alloc HB.out.size _)
        replace HK : Hid (Blk w2 w.heap.size 53 [.slice A n c]) := hide (by rw [hw2]; exact HK.out.alloc _)
        replace HR : Hid (Blk w2 (w.heap.size + 1) 53 [.slice none 0 0]) := hide (by rw [hw2]; exact HR.out.alloc _)
        have HO2 : Hid (Blk w2 ob 53 [.slice none 0 0]) := hide (by rw [hw2, ← hob]; exact Blk.new _ _ _)
        have HT : Hid (One 48 2 53 (ob + 1) w2 ob 0 [.slice none 0 0] (.slice none 0 0) [] []) := hide (One.start w2 _ _ _ HO2.out (Nat.lt_succ_self _) HO2.out.lt)
        rw [hob]
        clear hw2 hob HO2
        obtain ⟨i0, hi, hz0, hz1, hz2⟩ := info_parts neInfo
        obtain ⟨i2, hj, hy0, hy1, hy2⟩ := info_parts neInfo2
        go_loopw [8] (fun i wr => ∃ (x : Nat) (v : Value) (vals : List Value), x ≤ m ∧ i = .int .i64 x ∧ Below w.heap.size w wr ∧ One 48 2 53 (ob + 1) wr ob 0 [.slice none 0 0] v ((grid m H).take x) vals ∧ Blk wr (w.heap.size) 53 [.slice A n c] ∧ Blk wr (w.heap.size + 1) 53 [.slice none 0 0]) (fun i _ => m - (intOf i).toNat)
        case atStart => exact ⟨0, _, _, Nat.zero_le _, rfl, HB.out, by simpa using HT.out, HK.out, HR.out⟩
        case round =>
          obtain ⟨x, v, vals, hx, rfl, hbe, htw, qHK, qHR⟩ := hrel
          clear HB HT HK HR
          have HB := hide hbe
          have HT := hide htw
          have HK := hide qHK
          have HR := hide qHR
          clear hbe htw qHK qHR
          by_cases hlt : x < m
          · have hxz : (x : Int) < m := by omega
            go_wp2_with fail
            obtain ⟨wo, rfl⟩ : ∃ wo : World, wo = wr := ⟨_, rfl⟩
            go_loopw [9, 10] (fun v i wi => ∃ y : Nat, y ≤ m ∧ i = .int .i64 y ∧ Below wo.heap.size wo wi ∧ wo.heap.size < wi.heap.size ∧ wi.ownsRow wo.heap.size 2 1 v y (ints ((frow m H x).take y))) (fun _ i _ => m - (intOf i).toNat)
            case atStart => exact ⟨0, Nat.zero_le _, rfl, (Below.refl _ _).alloc (Nat.le_refl _) _, by simp, by simpa [ints] using ne_empty wo _⟩
            case round =>
              obtain ⟨y, hy, rfl, hbi, hsi2, hoi⟩ := hrel
              have HBI := hide hbi
              have HOI := hide hoi
              clear hbi hoi
              by_cases hlty : y < m
              · have hyz : (y : Int) < m := by omega
                have HBW := hide (HB.out.trans (HBI.out.mono HB.out.size))
                obtain ⟨bt, ot, hA, hbt, hct⟩ := HTB.out.cells HRD.out HN.out
                obtain ⟨b, o, hB, hbw, hc⟩ := HX.out (by have := HM.out; omega)
                have hv1 := HE.out.val (i := x) (by have := HM.out; omega)
                have hv2 := HE.out.val (i := y) (by have := HM.out; omega)
                have c1 := hc x (by have := HM.out; omega)
                have c2 := hc y (by have := HM.out; omega)
                rw [hv1.1] at c1
                rw [hv2.1] at c2
                have hpr : H x y = ixOf xs (ap f (el xs x) (el xs y) : Nat) := by rw [← HH.out]; rfl
                obtain ⟨xa, hxa⟩ : ∃ a, el xs x = a := ⟨_, rfl⟩
                obtain ⟨ya, hya⟩ : ∃ a, el xs y = a := ⟨_, rfl⟩
                rw [hxa] at c1 hv1 hpr
                rw [hya] at c2 hv2 hpr
                have hxn := hv1.2
                have hyn := hv2.2
                obtain ⟨bx, ox, cx, r1, l1, g1⟩ := hct xa hxn
                have r2 := g1 ya hyn
                obtain ⟨v, hve⟩ : ∃ v, ap f xa ya = v := ⟨_, rfl⟩
                rw [hve] at r2 hpr
                have hrb := ixOf_bounds xs (v : Int) (by have := HM.out; omega)
                obtain ⟨rr, hrr⟩ : ∃ r, ixOf xs (v : Int) = r := ⟨_, rfl⟩
                rw [hrr] at hrb hpr
                have HCELL := hide hpr
                have HRR := hide hrr
                have hxz2 : (xa : Int) < n := by omega
                have hyz2 : (ya : Int) < n := by omega
                have R1 := hide r1
                have R2 := hide r2
                have C1 := hide c1
                have C2 := hide c2
                have HEA := hide hA
                have HEB := hide hB
                clear hct g1 hc hve hrr hpr hxa hya hv1 hv2 r1 r2 c1 c2 hA hB
                rw [HEB.out]
                obtain ⟨lx, ly⟩ := And.intro l1 l1
                have ff0 : wr.cell? ⟨bt, ot + xa, none⟩ = some (.slice (some ⟨bx, ox, none⟩) n cx) := (HBW.out.cell (p := ⟨bt, ot + xa, none⟩) hbt).trans R1.out
                have ff1 : wr.cell? ⟨bx, ox + ya, none⟩ = some (.int .i64 v) := (HBW.out.cell (p := ⟨bx, ox + ya, none⟩) l1).trans R2.out
                have ff2 : wr.cell? ⟨b, o + x, none⟩ = some (.int .i64 xa) := (HBW.out.cell (p := ⟨b, o + x, none⟩) hbw).trans C1.out
                have ff3 : wr.cell? ⟨b, o + y, none⟩ = some (.int .i64 ya) := (HBW.out.cell (p := ⟨b, o + y, none⟩) hbw).trans C2.out
                have ff4 : wr.cell? ⟨w.heap.size, 0, none⟩ = some (.slice (some ⟨bt, ot, none⟩) n c) := (by have h := (HK.out.later HBI.out).cell 0 _ rfl; rw [HEA.out] at h; exact h)
                go_wp2_with fail
                go_region_held3 (fun w' => w'.cell? ⟨bt, ot + xa, none⟩ = some (.slice (some ⟨bx, ox, none⟩) n cx) ∧ w'.cell? ⟨bx, ox + ya, none⟩ = some (.int .i64 v) ∧ w'.cell? ⟨b, o + x, none⟩ = some (.int .i64 xa) ∧ w'.cell? ⟨b, o + y, none⟩ = some (.int .i64 ya) ∧ w'.cell? ⟨w.heap.size, 0, none⟩ = some (.slice (some ⟨bt, ot, none⟩) n c)) (first | exact ⟨ff0, ff1, ff2, ff3, ff4⟩ | go_keep) (first | (go_at_call 95; go_must (refine calls_gen fun wc hwc => ?_; (first | have hbx := drew_below hwc | have hbx := eq_below hwc); have HBJ0 := hide (HBI.out.trans (hbx.mono HBI.out.size)); have HOJ0 := hide (ownsRow_below HOI.out hbx); have hsj0 : wo.heap.size < wc.heap.size := (by have := hbx.size; omega); clear hwc hbx; rw [← HEB.out]; refine (quiet_below (index_any _ m _ xs v _ HM.out (by omega) (HX.out.later (HB.out.trans (HBJ0.out.mono HB.out.size))))).mono ?_; rintro e wd ⟨rfl, hbd⟩; rw [HEB.out, HRR.out]; have HBJ := hide (HBJ0.out.trans (hbd.mono HBJ0.out.size)); have HOJ := hide (ownsRow_below HOJ0.out hbd); have hsj : wo.heap.size < wd.heap.size := (by have := hbd.size; omega); clear hbd; have HBV := hide (HB.out.trans (HBJ.out.mono HB.out.size)); have ff0 : wd.cell? ⟨bt, ot + xa, none⟩ = some (.slice (some ⟨bx, ox, none⟩) n cx) := (HBV.out.cell (p := ⟨bt, ot + xa, none⟩) hbt).trans R1.out; have ff1 : wd.cell? ⟨bx, ox + ya, none⟩ = some (.int .i64 v) := (HBV.out.cell (p := ⟨bx, ox + ya, none⟩) l1).trans R2.out; have ff2 : wd.cell? ⟨b, o + x, none⟩ = some (.int .i64 xa) := (HBV.out.cell (p := ⟨b, o + x, none⟩) hbw).trans C1.out; have ff3 : wd.cell? ⟨b, o + y, none⟩ = some (.int .i64 ya) := (HBV.out.cell (p := ⟨b, o + y, none⟩) hbw).trans C2.out; have ff4 : wd.cell? ⟨w.heap.size, 0, none⟩ = some (.slice (some ⟨bt, ot, none⟩) n c) := (by have h := (HK.out.later HBJ.out).cell 0 _ rfl; rw [HEA.out] at h; exact h))) | (refine step_append_lies _ (by rfl) _ _ _ (by rfl) wo.heap.size 2 i0 _ 1 8 Try.underlying48 hi hz0 hz1 hz2 rfl (by omega) u9 y (ints ((frow m H x).take y)) (by rfl) (HOJ.out.alloc _) ⟨wd.heap.size, 0, none⟩ 1 1 [.int .i64 rr] (by rfl) (by rfl) ne_new (by simp [Value.oneCell']) (by omega) (by unfold maxLen; omega) (by omega) (by simp; omega) (wd.heap.size + 1) (by simp) ?_; go_must (intro gg cap w3 hown' hgrow _ _; have HO3 := hide hown'; have HB3 : Hid (Below wo.heap.size wo w3) := (by first | exact hide ((HBJ.out.alloc HBJ.out.size _).drew.grown hgrow (by have := HBJ.out.size; simp; omega) (fun g hg => ((HOJ.out.alloc (.cells #[.int .i64 rr] 2)).lt g hg).1)) | exact hide ((HBJ.out.alloc HBJ.out.size _).grown hgrow (by have := HBJ.out.size; simp; omega) (fun g hg => ((HOJ.out.alloc (.cells #[.int .i64 rr] 2)).lt g hg).1))); have hs3 : wo.heap.size < w3.heap.size := (by have := hgrow.size; simp at this; omega); have HBV3 := hide (HB.out.trans (HB3.out.mono HB.out.size)); clear hown' hgrow; have ff0 : w3.cell? ⟨bt, ot + xa, none⟩ = some (.slice (some ⟨bx, ox, none⟩) n cx) := (HBV3.out.cell (p := ⟨bt, ot + xa, none⟩) hbt).trans R1.out; have ff1 : w3.cell? ⟨bx, ox + ya, none⟩ = some (.int .i64 v) := (HBV3.out.cell (p := ⟨bx, ox + ya, none⟩) l1).trans R2.out; have ff2 : w3.cell? ⟨b, o + x, none⟩ = some (.int .i64 xa) := (HBV3.out.cell (p := ⟨b, o + x, none⟩) hbw).trans C1.out; have ff3 : w3.cell? ⟨b, o + y, none⟩ = some (.int .i64 ya) := (HBV3.out.cell (p := ⟨b, o + y, none⟩) hbw).trans C2.out; have ff4 : w3.cell? ⟨w.heap.size, 0, none⟩ = some (.slice (some ⟨bt, ot, none⟩) n c) := (by have h := (HK.out.later HB3.out).cell 0 _ rfl; rw [HEA.out] at h; exact h))))
                all_goals
                  clear ff0 ff1 ff2 ff3 ff4
                  go_wp2_with fail
                  go_roundw
                  case rel => exact ⟨y + 1, by omega, by go_num, HB3.out, hs3, by have h := HO3.out; rw [← HCELL.out, frow_take _ _ _ _ hlty] at h; exact h⟩
                  case measure => simp [intOf]; omega
              · have hyn : y = m := by omega
                subst hyn
                have HTM : Hid (((grid y H).take x).length = x) := hide (by rw [List.length_take, grid_length]; omega)
                obtain ⟨A2, c2', hv2, hres2⟩ := own_shape HOI.out
                subst hv2
                have HRL : Hid ((frow y H x).length = y) := hide (frow_length _ _ _)
                have HTK : Hid ((frow y H x).take y = frow y H x) := hide (List.take_of_length_le (by rw [HRL.out]; exact Nat.le_refl _))
                have HRO := hide hres2.obj
                have HT3 := hide (HT.out.later HBI.out)
                have HK3 := hide (HK.out.later HBI.out)
                have HR3 := hide (HR.out.later HBI.out)
                have HB3 := hide (HB.out.trans (HBI.out.mono HB.out.size))
                clear hres2
                have j0 := HT3.out.box.cell 0 _ rfl
                have j2 := HT3.out.box.frozen 0
                have j4 := fun o => (HT3.out.box.alloc o).cell 0 _ rfl
                have HOW2 : Hid (wr.ownsRow (ob + 1) 48 1 v x vals) := hide (by have h := HT3.out.l.own; rw [HTM.out] at h; exact h)
                have hobl := HT3.out.box.lt
                have hbsz := HT3.out.bsz
                go_wp2_with (at_builtin; refine wpList_append_own_at _ rfl _ _ 22 rfl (ob + 1) 48 i2 (.slice none 0 0) 1 24 Try.underlying22 hj hy0 hy1 hy2 rfl (by decide) _ _ _ rfl (HOW2.out.alloc _) ⟨wr.heap.size, 0, none⟩ 1 1 [.slice A2 y c2'] rfl rfl ?p1 ?p2 ?p3 ?p4 ?p5 ?_)
                try (case p1 => exact ne_new)
                try (case p2 => first | rfl | (intro u hu; simp at hu; subst hu; rfl))
                try (case p3 => first | omega | (unfold maxLen; omega))
                try (case p4 => omega)
                try (case p5 => first | omega | (simp; omega))
                intro v' w7 hown7 hgrow7 _ hat7
                obtain ⟨gg2, cap2, hv7⟩ := own_form hown7
                subst hv7
                have hbk := HT3.out.kept hgrow7
                have HT4 := hide (One.add (by decide) HT.out HT3.out (Nat.le_refl _) (by have h := HRO.out; rw [HTK.out] at h; exact h) HTM.out HRL.out hown7 hgrow7)
                have HB4 := hide (HT3.out.below hgrow7 (.slice (some ⟨gg2, 0, none⟩) (x + 1) cap2) HB3.out (by omega))
                have HK4 := hide ((HT3.out.frame hgrow7 (.slice (some ⟨gg2, 0, none⟩) (x + 1) cap2) (by omega) (by omega) HK3.out.lt).trans HK3.out)
                have HR4 := hide ((HT3.out.frame hgrow7 (.slice (some ⟨gg2, 0, none⟩) (x + 1) cap2) (by omega) (by omega) HR3.out.lt).trans HR3.out)
                clear j0 j2 j4 hown7 hgrow7 hat7
                have j0 := hbk.cell 0 _ rfl
                have j2 := hbk.frozen 0
                clear hbk
                go_wp2_with fail
                go_roundw
                case rel =>
                  refine ⟨x + 1, .slice (some ⟨gg2, 0, none⟩) (x + 1) cap2, vals ++ [.slice A2 y c2'], by omega, by go_num, HB4.out, ?_, HK4.out, HR4.out⟩
                  rw [grid_take _ _ _ hlt]
                  exact HT4.out
                case measure => simp [intOf]; omega
          · have hxn : x = m := by omega
            subst hxn
            obtain ⟨A1, c1, hv1, ho1⟩ := HT.out.l.shape
            rw [List.take_of_length_le (by rw [grid_length]; exact Nat.le_refl _)] at hv1 ho1
            rw [grid_length] at hv1
            subst hv1
            have HA1 := hide ho1
            clear ho1
            have HTL : Hid (Tbl (grid x H) ↔ SubF f (sN xs x)) := hide (by rw [← HH.out]; exact rt_iff2 HE.out HI.out h12 HM.out)
            have j0 := HT.out.box.cell 0 _ rfl
            have hobl := HT.out.box.lt
            go_wp2_with fail
            clear j0
            refine (quiet_below (l01Table_any _ x _ (grid x H) true _ (grid_length _ _) (by omega) (fun i hi => by rw [grid_length] at hi; rw [grid_row_length _ _ _ hi]; omega) HA1.out.rd (by simp only [true_iff]; exact HTL.out.2 HS.out))).mono ?_
            rintro e we ⟨rfl, hbd⟩
            have HB9 := hide (HB.out.trans (hbd.mono HB.out.size))
            have HR9 := hide (HR.out.later hbd)
            have HT9 := hide (HT.out.later hbd)
            have HA9 := hide (HA1.out.later hbd)
            have hsz9 := hbd.size
            clear hbd
            have k0 := HT9.out.box.cell 0 _ rfl
            have k2 := HR9.out.cell 0 _ rfl
            have k3 := HR9.out.frozen 0
            go_wp2_with fail
            refine bp_gen fun wf hwf => ?_
            obtain ⟨q0, hbf, hof⟩ := kend hwf HR9.out (by omega) HB9.out HA9.out (by omega) (by omega) hsz9
            clear hwf k0 k2 k3
            exact bodyPost_ret (v := .tuple #[.agg #[.slice A1 x c1], .int .i64 0]) (by simp [results, Try.results53, go_sem, q0]) rfl ⟨_, _, rfl, hbf, hof⟩
  · have HTB := hide h1.tbl
    have h1n : 1 ≤ n := by rw [← hn]; exact h1.tbl.1
    have h12 : n ≤ 12 := by rw [← hn]; exact h1.tbl.2.1
    have HE : Hid (Els n xs) := hide (by rw [← hn]; exact h2)
    have HI := hide h3
    have hm12 : m ≤ 12 := by have := h3.len h2; omega
    have HRK : Hid (RkRes f true) := hide (by unfold RkRes; simp [h1])
    have hk0 : k = 0 := by rw [← hk]; rfl
    subst hk0
    have HS : Hid (¬ SubF f (sN xs m)) := hide (by rw [← hm]; exact h4)
    clear hn hm hk h1 h2 h3 h4
    obtain ⟨H, hH⟩ : ∃ H, rtH f xs = H := ⟨_, rfl⟩
    try rw [hH]
    have HH := hide hH
    clear hH
    go_enter Try.func53, Try.ntmps53
    go_wp2_with fail
    refine calls_gen fun wd hw0 => ?_
    have HB : Hid (Below w.heap.size w wd) := hide (by rw [hw0]; exact ((Below.refl _ _).alloc (Nat.le_refl _) _).alloc (by simp) _)
    have HK : Hid (Blk wd w.heap.size 53 [.slice A n c]) := hide (by rw [hw0]; exact (Blk.new _ _ _).alloc _)
    have HR : Hid (Blk wd (w.heap.size + 1) 53 [.slice none 0 0]) := hide (by rw [hw0]; have h := Blk.new (w.alloc (Obj.cells #[.slice A n c] 53)) 53 [.slice none 0 0]; simpa using h)
    clear hw0
    refine (isRackS _ _ _ f true _ HN.out hb HBS.out (HRD.out.later HB.out) HRK.out).mono ?_
    rintro e wd ⟨rfl, hbd⟩
    replace HB := hide (HB.out.trans (hbd.mono HB.out.size))
    replace HK := hide (HK.out.later hbd)
    replace HR := hide (HR.out.later hbd)
    clear hbd
    have k0 := HK.out.cell 0 _ rfl
    go_wp2_with fail
    clear k0
    refine (l04Elements_any n _ _ _ xs true _ hb HM.out hbm (HX.out.later HB.out) (by simp [HE.out])).mono ?_
    rintro e wd ⟨rfl, hbd⟩
    replace HB := hide (HB.out.trans (hbd.mono HB.out.size))
    replace HK := hide (HK.out.later hbd)
    replace HR := hide (HR.out.later hbd)
    clear hbd
    go_wp2_with fail
    go_loopw [6] (fun i wr => ∃ k : Nat, 1 ≤ k ∧ k ≤ m + 1 ∧ i = .int .i64 k ∧ Below w.heap.size w wr ∧ Blk wr w.heap.size 53 [.slice A n c] ∧ Blk wr (w.heap.size + 1) 53 [.slice none 0 0] ∧ ∀ j, 1 ≤ j → j < k → j < xs.length → xs.getD (j - 1) 0 < xs.getD j 0) (fun i _ => m + 1 - (intOf i).toNat)
    case atStart => exact ⟨1, Nat.le_refl _, by omega, rfl, HB.out, HK.out, HR.out, fun j hj h2 => by omega⟩
    case round =>
      clear HB HK HR
      obtain ⟨k, hk1, hk, rfl, hbe, hkk, hrr, hall⟩ := hrel
      have HB := hide hbe
      have HK := hide hkk
      have HR := hide hrr
      have HALL := hide hall
      clear hbe hkk hrr hall
      by_cases hlt : k < m
      · obtain ⟨b, o, rfl, hbw, hc⟩ := HX.out (by have := HM.out; omega)
        obtain ⟨k', rfl⟩ : ∃ k', k = k' + 1 := ⟨k - 1, by omega⟩
        have c1 := (HB.out.cell (p := ⟨b, o + (k' + 1), none⟩) hbw).trans (hc (k' + 1) (by have := HM.out; omega))
        have c2 := (HB.out.cell (p := ⟨b, o + k', none⟩) hbw).trans (hc k' (by have := HM.out; omega))
        obtain ⟨x, hx⟩ : ∃ x, xs.getD (k' + 1) 0 = x := ⟨_, rfl⟩
        obtain ⟨y, hy⟩ : ∃ y, xs.getD k' 0 = y := ⟨_, rfl⟩
        rw [hx] at c1
        rw [hy] at c2
        have HXV := hide hx
        have HYV := hide hy
        have hltz : ((k' + 1 : Nat) : Int) < m := by omega
        have hz2 : ((k' + 1 : Nat) : Int) - 1 = (k' : Int) := by omega
        clear hx hy hc
        obtain ⟨K, hK⟩ : ∃ K, k' + 1 = K := ⟨_, rfl⟩
        have HKK := hide hK
        have hk'z : (k' : Int) < m := by omega
        rw [hK] at c1 hltz hz2 hk hk1 hlt ⊢
        clear hK
        by_cases hle : x ≤ y
        · exact absurd (by have h := HI.out (k' + 1) (by omega) (by have := HM.out; have := HKK.out; omega); rw [HXV.out, show k' + 1 - 1 = k' by omega, HYV.out] at h; exact h) (by omega)
        · go_wp2_with fail
          go_quiet (fail)
          go_wp2_with fail
          go_roundw
          case rel => exact ⟨K + 1, by omega, by omega, by go_num, HB.out.trans ((Quiet.of _ _).below _), HK.out.later ((Quiet.of _ _).below _), HR.out.later ((Quiet.of _ _).below _), fun j h1 h2 h3 => by
            by_cases e : j = k' + 1
            · rw [e, HXV.out, show k' + 1 - 1 = k' by omega, HYV.out]; omega
            · exact HALL.out j h1 (by have := HKK.out; omega) h3⟩
          case measure => simp [intOf]; omega
      · have hltz : ¬ (k : Int) < m := by omega
        clear HALL
        go_wp2_with fail
        refine wp_gen fun w2 hw2 => ?_
        obtain ⟨ob, hob⟩ : ∃ ob, wr.heap.size = ob := ⟨_, rfl⟩
        have hob1 : w.heap.size + 1 < ob := by rw [← hob]; exact HR.out.lt
        replace HB : Hid (Below w.heap.size w w2) := hide (by rw [hw2]; exact HB.out.alloc HB.out.size _)
        replace HK : Hid (Blk w2 w.heap.size 53 [.slice A n c]) := hide (by rw [hw2]; exact HK.out.alloc _)
        replace HR : Hid (Blk w2 (w.heap.size + 1) 53 [.slice none 0 0]) := hide (by rw [hw2]; exact HR.out.alloc _)
        have HO2 : Hid (Blk w2 ob 53 [.slice none 0 0]) := hide (by rw [hw2, ← hob]; exact Blk.new _ _ _)
        have HT : Hid (One 48 2 53 (ob + 1) w2 ob 0 [.slice none 0 0] (.slice none 0 0) [] []) := hide (One.start w2 _ _ _ HO2.out (Nat.lt_succ_self _) HO2.out.lt)
        rw [hob]
        clear hw2 hob HO2
        obtain ⟨i0, hi, hz0, hz1, hz2⟩ := info_parts neInfo
        obtain ⟨i2, hj, hy0, hy1, hy2⟩ := info_parts neInfo2
        go_loopw [8] (fun i wr => ∃ (x : Nat) (v : Value) (vals : List Value), x ≤ m ∧ i = .int .i64 x ∧ Below w.heap.size w wr ∧ One 48 2 53 (ob + 1) wr ob 0 [.slice none 0 0] v ((grid m H).take x) vals ∧ Blk wr (w.heap.size) 53 [.slice A n c] ∧ Blk wr (w.heap.size + 1) 53 [.slice none 0 0]) (fun i _ => m - (intOf i).toNat)
        case atStart => exact ⟨0, _, _, Nat.zero_le _, rfl, HB.out, by simpa using HT.out, HK.out, HR.out⟩
        case round =>
          obtain ⟨x, v, vals, hx, rfl, hbe, htw, qHK, qHR⟩ := hrel
          clear HB HT HK HR
          have HB := hide hbe
          have HT := hide htw
          have HK := hide qHK
          have HR := hide qHR
          clear hbe htw qHK qHR
          by_cases hlt : x < m
          · have hxz : (x : Int) < m := by omega
            go_wp2_with fail
            obtain ⟨wo, rfl⟩ : ∃ wo : World, wo = wr := ⟨_, rfl⟩
            go_loopw [9, 10] (fun v i wi => ∃ y : Nat, y ≤ m ∧ i = .int .i64 y ∧ Below wo.heap.size wo wi ∧ wo.heap.size < wi.heap.size ∧ wi.ownsRow wo.heap.size 2 1 v y (ints ((frow m H x).take y))) (fun _ i _ => m - (intOf i).toNat)
            case atStart => exact ⟨0, Nat.zero_le _, rfl, (Below.refl _ _).alloc (Nat.le_refl _) _, by simp, by simpa [ints] using ne_empty wo _⟩
            case round =>
              obtain ⟨y, hy, rfl, hbi, hsi2, hoi⟩ := hrel
              have HBI := hide hbi
              have HOI := hide hoi
              clear hbi hoi
              by_cases hlty : y < m
              · have hyz : (y : Int) < m := by omega
                have HBW := hide (HB.out.trans (HBI.out.mono HB.out.size))
                obtain ⟨bt, ot, hA, hbt, hct⟩ := HTB.out.cells HRD.out HN.out
                obtain ⟨b, o, hB, hbw, hc⟩ := HX.out (by have := HM.out; omega)
                have hv1 := HE.out.val (i := x) (by have := HM.out; omega)
                have hv2 := HE.out.val (i := y) (by have := HM.out; omega)
                have c1 := hc x (by have := HM.out; omega)
                have c2 := hc y (by have := HM.out; omega)
                rw [hv1.1] at c1
                rw [hv2.1] at c2
                have hpr : H x y = ixOf xs (ap f (el xs x) (el xs y) : Nat) := by rw [← HH.out]; rfl
                obtain ⟨xa, hxa⟩ : ∃ a, el xs x = a := ⟨_, rfl⟩
                obtain ⟨ya, hya⟩ : ∃ a, el xs y = a := ⟨_, rfl⟩
                rw [hxa] at c1 hv1 hpr
                rw [hya] at c2 hv2 hpr
                have hxn := hv1.2
                have hyn := hv2.2
                obtain ⟨bx, ox, cx, r1, l1, g1⟩ := hct xa hxn
                have r2 := g1 ya hyn
                obtain ⟨v, hve⟩ : ∃ v, ap f xa ya = v := ⟨_, rfl⟩
                rw [hve] at r2 hpr
                have hrb := ixOf_bounds xs (v : Int) (by have := HM.out; omega)
                obtain ⟨rr, hrr⟩ : ∃ r, ixOf xs (v : Int) = r := ⟨_, rfl⟩
                rw [hrr] at hrb hpr
                have HCELL := hide hpr
                have HRR := hide hrr
                have hxz2 : (xa : Int) < n := by omega
                have hyz2 : (ya : Int) < n := by omega
                have R1 := hide r1
                have R2 := hide r2
                have C1 := hide c1
                have C2 := hide c2
                have HEA := hide hA
                have HEB := hide hB
                clear hct g1 hc hve hrr hpr hxa hya hv1 hv2 r1 r2 c1 c2 hA hB
                rw [HEB.out]
                obtain ⟨lx, ly⟩ := And.intro l1 l1
                have ff0 : wr.cell? ⟨bt, ot + xa, none⟩ = some (.slice (some ⟨bx, ox, none⟩) n cx) := (HBW.out.cell (p := ⟨bt, ot + xa, none⟩) hbt).trans R1.out
                have ff1 : wr.cell? ⟨bx, ox + ya, none⟩ = some (.int .i64 v) := (HBW.out.cell (p := ⟨bx, ox + ya, none⟩) l1).trans R2.out
                have ff2 : wr.cell? ⟨b, o + x, none⟩ = some (.int .i64 xa) := (HBW.out.cell (p := ⟨b, o + x, none⟩) hbw).trans C1.out
                have ff3 : wr.cell? ⟨b, o + y, none⟩ = some (.int .i64 ya) := (HBW.out.cell (p := ⟨b, o + y, none⟩) hbw).trans C2.out
                have ff4 : wr.cell? ⟨w.heap.size, 0, none⟩ = some (.slice (some ⟨bt, ot, none⟩) n c) := (by have h := (HK.out.later HBI.out).cell 0 _ rfl; rw [HEA.out] at h; exact h)
                go_wp2_with fail
                go_region_held3 (fun w' => w'.cell? ⟨bt, ot + xa, none⟩ = some (.slice (some ⟨bx, ox, none⟩) n cx) ∧ w'.cell? ⟨bx, ox + ya, none⟩ = some (.int .i64 v) ∧ w'.cell? ⟨b, o + x, none⟩ = some (.int .i64 xa) ∧ w'.cell? ⟨b, o + y, none⟩ = some (.int .i64 ya) ∧ w'.cell? ⟨w.heap.size, 0, none⟩ = some (.slice (some ⟨bt, ot, none⟩) n c)) (first | exact ⟨ff0, ff1, ff2, ff3, ff4⟩ | go_keep) (first | (go_at_call 95; go_must (refine calls_gen fun wc hwc => ?_; (first | have hbx := drew_below hwc | have hbx := eq_below hwc); have HBJ0 := hide (HBI.out.trans (hbx.mono HBI.out.size)); have HOJ0 := hide (ownsRow_below HOI.out hbx); have hsj0 : wo.heap.size < wc.heap.size := (by have := hbx.size; omega); clear hwc hbx; rw [← HEB.out]; refine (quiet_below (index_any _ m _ xs v _ HM.out (by omega) (HX.out.later (HB.out.trans (HBJ0.out.mono HB.out.size))))).mono ?_; rintro e wd ⟨rfl, hbd⟩; rw [HEB.out, HRR.out]; have HBJ := hide (HBJ0.out.trans (hbd.mono HBJ0.out.size)); have HOJ := hide (ownsRow_below HOJ0.out hbd); have hsj : wo.heap.size < wd.heap.size := (by have := hbd.size; omega); clear hbd; have HBV := hide (HB.out.trans (HBJ.out.mono HB.out.size)); have ff0 : wd.cell? ⟨bt, ot + xa, none⟩ = some (.slice (some ⟨bx, ox, none⟩) n cx) := (HBV.out.cell (p := ⟨bt, ot + xa, none⟩) hbt).trans R1.out; have ff1 : wd.cell? ⟨bx, ox + ya, none⟩ = some (.int .i64 v) := (HBV.out.cell (p := ⟨bx, ox + ya, none⟩) l1).trans R2.out; have ff2 : wd.cell? ⟨b, o + x, none⟩ = some (.int .i64 xa) := (HBV.out.cell (p := ⟨b, o + x, none⟩) hbw).trans C1.out; have ff3 : wd.cell? ⟨b, o + y, none⟩ = some (.int .i64 ya) := (HBV.out.cell (p := ⟨b, o + y, none⟩) hbw).trans C2.out; have ff4 : wd.cell? ⟨w.heap.size, 0, none⟩ = some (.slice (some ⟨bt, ot, none⟩) n c) := (by have h := (HK.out.later HBJ.out).cell 0 _ rfl; rw [HEA.out] at h; exact h))) | (refine step_append_lies _ (by rfl) _ _ _ (by rfl) wo.heap.size 2 i0 _ 1 8 Try.underlying48 hi hz0 hz1 hz2 rfl (by omega) u9 y (ints ((frow m H x).take y)) (by rfl) (HOJ.out.alloc _) ⟨wd.heap.size, 0, none⟩ 1 1 [.int .i64 rr] (by rfl) (by rfl) ne_new (by simp [Value.oneCell']) (by omega) (by unfold maxLen; omega) (by omega) (by simp; omega) (wd.heap.size + 1) (by simp) ?_; go_must (intro gg cap w3 hown' hgrow _ _; have HO3 := hide hown'; have HB3 : Hid (Below wo.heap.size wo w3) := (by first | exact hide ((HBJ.out.alloc HBJ.out.size _).drew.grown hgrow (by have := HBJ.out.size; simp; omega) (fun g hg => ((HOJ.out.alloc (.cells #[.int .i64 rr] 2)).lt g hg).1)) | exact hide ((HBJ.out.alloc HBJ.out.size _).grown hgrow (by have := HBJ.out.size; simp; omega) (fun g hg => ((HOJ.out.alloc (.cells #[.int .i64 rr] 2)).lt g hg).1))); have hs3 : wo.heap.size < w3.heap.size := (by have := hgrow.size; simp at this; omega); have HBV3 := hide (HB.out.trans (HB3.out.mono HB.out.size)); clear hown' hgrow; have ff0 : w3.cell? ⟨bt, ot + xa, none⟩ = some (.slice (some ⟨bx, ox, none⟩) n cx) := (HBV3.out.cell (p := ⟨bt, ot + xa, none⟩) hbt).trans R1.out; have ff1 : w3.cell? ⟨bx, ox + ya, none⟩ = some (.int .i64 v) := (HBV3.out.cell (p := ⟨bx, ox + ya, none⟩) l1).trans R2.out; have ff2 : w3.cell? ⟨b, o + x, none⟩ = some (.int .i64 xa) := (HBV3.out.cell (p := ⟨b, o + x, none⟩) hbw).trans C1.out; have ff3 : w3.cell? ⟨b, o + y, none⟩ = some (.int .i64 ya) := (HBV3.out.cell (p := ⟨b, o + y, none⟩) hbw).trans C2.out; have ff4 : w3.cell? ⟨w.heap.size, 0, none⟩ = some (.slice (some ⟨bt, ot, none⟩) n c) := (by have h := (HK.out.later HB3.out).cell 0 _ rfl; rw [HEA.out] at h; exact h))))
                all_goals
                  clear ff0 ff1 ff2 ff3 ff4
                  go_wp2_with fail
                  go_roundw
                  case rel => exact ⟨y + 1, by omega, by go_num, HB3.out, hs3, by have h := HO3.out; rw [← HCELL.out, frow_take _ _ _ _ hlty] at h; exact h⟩
                  case measure => simp [intOf]; omega
              · have hyn : y = m := by omega
                subst hyn
                have HTM : Hid (((grid y H).take x).length = x) := hide (by rw [List.length_take, grid_length]; omega)
                obtain ⟨A2, c2', hv2, hres2⟩ := own_shape HOI.out
                subst hv2
                have HRL : Hid ((frow y H x).length = y) := hide (frow_length _ _ _)
                have HTK : Hid ((frow y H x).take y = frow y H x) := hide (List.take_of_length_le (by rw [HRL.out]; exact Nat.le_refl _))
                have HRO := hide hres2.obj
                have HT3 := hide (HT.out.later HBI.out)
                have HK3 := hide (HK.out.later HBI.out)
                have HR3 := hide (HR.out.later HBI.out)
                have HB3 := hide (HB.out.trans (HBI.out.mono HB.out.size))
                clear hres2
                have j0 := HT3.out.box.cell 0 _ rfl
                have j2 := HT3.out.box.frozen 0
                have j4 := fun o => (HT3.out.box.alloc o).cell 0 _ rfl
                have HOW2 : Hid (wr.ownsRow (ob + 1) 48 1 v x vals) := hide (by have h := HT3.out.l.own; rw [HTM.out] at h; exact h)
                have hobl := HT3.out.box.lt
                have hbsz := HT3.out.bsz
                go_wp2_with (at_builtin; refine wpList_append_own_at _ rfl _ _ 22 rfl (ob + 1) 48 i2 (.slice none 0 0) 1 24 Try.underlying22 hj hy0 hy1 hy2 rfl (by decide) _ _ _ rfl (HOW2.out.alloc _) ⟨wr.heap.size, 0, none⟩ 1 1 [.slice A2 y c2'] rfl rfl ?p1 ?p2 ?p3 ?p4 ?p5 ?_)
                try (case p1 => exact ne_new)
                try (case p2 => first | rfl | (intro u hu; simp at hu; subst hu; rfl))
                try (case p3 => first | omega | (unfold maxLen; omega))
                try (case p4 => omega)
                try (case p5 => first | omega | (simp; omega))
                intro v' w7 hown7 hgrow7 _ hat7
                obtain ⟨gg2, cap2, hv7⟩ := own_form hown7
                subst hv7
                have hbk := HT3.out.kept hgrow7
                have HT4 := hide (One.add (by decide) HT.out HT3.out (Nat.le_refl _) (by have h := HRO.out; rw [HTK.out] at h; exact h) HTM.out HRL.out hown7 hgrow7)
                have HB4 := hide (HT3.out.below hgrow7 (.slice (some ⟨gg2, 0, none⟩) (x + 1) cap2) HB3.out (by omega))
                have HK4 := hide ((HT3.out.frame hgrow7 (.slice (some ⟨gg2, 0, none⟩) (x + 1) cap2) (by omega) (by omega) HK3.out.lt).trans HK3.out)
                have HR4 := hide ((HT3.out.frame hgrow7 (.slice (some ⟨gg2, 0, none⟩) (x + 1) cap2) (by omega) (by omega) HR3.out.lt).trans HR3.out)
                clear j0 j2 j4 hown7 hgrow7 hat7
                have j0 := hbk.cell 0 _ rfl
                have j2 := hbk.frozen 0
                clear hbk
                go_wp2_with fail
                go_roundw
                case rel =>
                  refine ⟨x + 1, .slice (some ⟨gg2, 0, none⟩) (x + 1) cap2, vals ++ [.slice A2 y c2'], by omega, by go_num, HB4.out, ?_, HK4.out, HR4.out⟩
                  rw [grid_take _ _ _ hlt]
                  exact HT4.out
                case measure => simp [intOf]; omega
          · have hxn : x = m := by omega
            subst hxn
            obtain ⟨A1, c1, hv1, ho1⟩ := HT.out.l.shape
            rw [List.take_of_length_le (by rw [grid_length]; exact Nat.le_refl _)] at hv1 ho1
            rw [grid_length] at hv1
            subst hv1
            have HA1 := hide ho1
            clear ho1
            have HTL : Hid (Tbl (grid x H) ↔ SubF f (sN xs x)) := hide (by rw [← HH.out]; exact rt_iff2 HE.out HI.out h12 HM.out)
            have j0 := HT.out.box.cell 0 _ rfl
            have hobl := HT.out.box.lt
            go_wp2_with fail
            clear j0
            refine (quiet_below (l01Table_any _ x _ (grid x H) false _ (grid_length _ _) (by omega) (fun i hi => by rw [grid_length] at hi; rw [grid_row_length _ _ _ hi]; omega) HA1.out.rd (by simp only [Bool.false_eq_true, false_iff]; exact fun h => HS.out (HTL.out.1 h)))).mono ?_
            rintro e we ⟨rfl, hbd⟩
            have HB9 := hide (HB.out.trans (hbd.mono HB.out.size))
            have HR9 := hide (HR.out.later hbd)
            have HT9 := hide (HT.out.later hbd)
            have HA9 := hide (HA1.out.later hbd)
            have hsz9 := hbd.size
            clear hbd
            have k2 := HR9.out.cell 0 _ rfl
            have k3 := HR9.out.frozen 0
            go_wp2_with fail
            refine bp_gen fun wf hwf => ?_
            have HRF : Blk wf (w.heap.size + 1) 53 [.slice none 0 0] := by rw [hwf]; exact HR9.out.set 0 _
            have hbf : Below w.heap.size w wf := by rw [hwf]; exact HB9.out.setCell (p := ⟨w.heap.size + 1, 0, none⟩) (by show w.heap.size ≤ w.heap.size + 1; omega) _
            have q0 := HRF.cell 0 _ rfl
            clear hwf k2 k3
            exact bodyPost_ret (v := .tuple #[.agg #[.slice none 0 0], .int .i64 5]) (by simp [results, Try.results53, go_sem, q0]) rfl ⟨_, _, rfl, hbf, .inl ⟨rfl, rfl⟩⟩
  · have hk0 : k = 0 := by rw [← hk]; rfl
    subst hk0
    have HE : Hid (¬ Els n xs) := hide (by rw [← hn]; exact h2)
    have HRK : Hid (RkRes f true) := hide (by unfold RkRes; simp [h1])
    clear hn hm hk h1 h2
    obtain ⟨H, hH⟩ : ∃ H, rtH f xs = H := ⟨_, rfl⟩
    try rw [hH]
    have HH := hide hH
    clear hH
    go_enter Try.func53, Try.ntmps53
    go_wp2_with fail
    refine calls_gen fun wd hw0 => ?_
    have HB : Hid (Below w.heap.size w wd) := hide (by rw [hw0]; exact ((Below.refl _ _).alloc (Nat.le_refl _) _).alloc (by simp) _)
    have HK : Hid (Blk wd w.heap.size 53 [.slice A n c]) := hide (by rw [hw0]; exact (Blk.new _ _ _).alloc _)
    have HR : Hid (Blk wd (w.heap.size + 1) 53 [.slice none 0 0]) := hide (by rw [hw0]; have h := Blk.new (w.alloc (Obj.cells #[.slice A n c] 53)) 53 [.slice none 0 0]; simpa using h)
    clear hw0
    refine (isRackS _ _ _ f true _ HN.out hb HBS.out (HRD.out.later HB.out) HRK.out).mono ?_
    rintro e wd ⟨rfl, hbd⟩
    replace HB := hide (HB.out.trans (hbd.mono HB.out.size))
    replace HK := hide (HK.out.later hbd)
    replace HR := hide (HR.out.later hbd)
    clear hbd
    have k0 := HK.out.cell 0 _ rfl
    go_wp2_with fail
    clear k0
    refine (l04Elements_any n _ _ _ xs false _ hb HM.out hbm (HX.out.later HB.out) (by simp [HE.out])).mono ?_
    rintro e wd ⟨rfl, hbd⟩
    replace HB := hide (HB.out.trans (hbd.mono HB.out.size))
    replace HK := hide (HK.out.later hbd)
    replace HR := hide (HR.out.later hbd)
    clear hbd
    have k2 := HR.out.cell 0 _ rfl
    have k3 := HR.out.frozen 0
    go_wp2_with fail
    refine bp_gen fun wf hwf => ?_
    have HRF : Blk wf (w.heap.size + 1) 53 [.slice none 0 0] := by rw [hwf]; first | exact HR.out | exact HR.out.set 0 _
    have hbf : Below w.heap.size w wf := by rw [hwf]; first | exact HB.out | exact HB.out.setCell (p := ⟨w.heap.size + 1, 0, none⟩) (by show w.heap.size ≤ w.heap.size + 1; omega) _
    have q0 := HRF.cell 0 _ rfl
    clear hwf k2 k3
    exact bodyPost_ret (v := .tuple #[.agg #[.slice none 0 0], .int .i64 2]) (by simp [results, Try.results53, go_sem, q0]) rfl ⟨_, _, rfl, hbf, .inl ⟨rfl, rfl⟩⟩
  · have hk0 : k = 0 := by rw [← hk]; rfl
    subst hk0
    have HE : Hid (Els n xs) := hide (by rw [← hn]; exact h2)
    have HI := hide h3
    have HRK : Hid (RkRes f true) := hide (by unfold RkRes; simp [h1])
    clear hn hm hk h1 h2 h3
    obtain ⟨H, hH⟩ : ∃ H, rtH f xs = H := ⟨_, rfl⟩
    try rw [hH]
    have HH := hide hH
    clear hH
    go_enter Try.func53, Try.ntmps53
    go_wp2_with fail
    refine calls_gen fun wd hw0 => ?_
    have HB : Hid (Below w.heap.size w wd) := hide (by rw [hw0]; exact ((Below.refl _ _).alloc (Nat.le_refl _) _).alloc (by simp) _)
    have HK : Hid (Blk wd w.heap.size 53 [.slice A n c]) := hide (by rw [hw0]; exact (Blk.new _ _ _).alloc _)
    have HR : Hid (Blk wd (w.heap.size + 1) 53 [.slice none 0 0]) := hide (by rw [hw0]; have h := Blk.new (w.alloc (Obj.cells #[.slice A n c] 53)) 53 [.slice none 0 0]; simpa using h)
    clear hw0
    refine (isRackS _ _ _ f true _ HN.out hb HBS.out (HRD.out.later HB.out) HRK.out).mono ?_
    rintro e wd ⟨rfl, hbd⟩
    replace HB := hide (HB.out.trans (hbd.mono HB.out.size))
    replace HK := hide (HK.out.later hbd)
    replace HR := hide (HR.out.later hbd)
    clear hbd
    have k0 := HK.out.cell 0 _ rfl
    go_wp2_with fail
    clear k0
    refine (l04Elements_any n _ _ _ xs true _ hb HM.out hbm (HX.out.later HB.out) (by simp [HE.out])).mono ?_
    rintro e wd ⟨rfl, hbd⟩
    replace HB := hide (HB.out.trans (hbd.mono HB.out.size))
    replace HK := hide (HK.out.later hbd)
    replace HR := hide (HR.out.later hbd)
    clear hbd
    go_wp2_with fail
    go_loopw [6] (fun i wr => ∃ k : Nat, 1 ≤ k ∧ k ≤ m + 1 ∧ i = .int .i64 k ∧ Below w.heap.size w wr ∧ Blk wr w.heap.size 53 [.slice A n c] ∧ Blk wr (w.heap.size + 1) 53 [.slice none 0 0] ∧ ∀ j, 1 ≤ j → j < k → j < xs.length → xs.getD (j - 1) 0 < xs.getD j 0) (fun i _ => m + 1 - (intOf i).toNat)
    case atStart => exact ⟨1, Nat.le_refl _, by omega, rfl, HB.out, HK.out, HR.out, fun j hj h2 => by omega⟩
    case round =>
      clear HB HK HR
      obtain ⟨k, hk1, hk, rfl, hbe, hkk, hrr, hall⟩ := hrel
      have HB := hide hbe
      have HK := hide hkk
      have HR := hide hrr
      have HALL := hide hall
      clear hbe hkk hrr hall
      by_cases hlt : k < m
      · obtain ⟨b, o, rfl, hbw, hc⟩ := HX.out (by have := HM.out; omega)
        obtain ⟨k', rfl⟩ : ∃ k', k = k' + 1 := ⟨k - 1, by omega⟩
        have c1 := (HB.out.cell (p := ⟨b, o + (k' + 1), none⟩) hbw).trans (hc (k' + 1) (by have := HM.out; omega))
        have c2 := (HB.out.cell (p := ⟨b, o + k', none⟩) hbw).trans (hc k' (by have := HM.out; omega))
        obtain ⟨x, hx⟩ : ∃ x, xs.getD (k' + 1) 0 = x := ⟨_, rfl⟩
        obtain ⟨y, hy⟩ : ∃ y, xs.getD k' 0 = y := ⟨_, rfl⟩
        rw [hx] at c1
        rw [hy] at c2
        have HXV := hide hx
        have HYV := hide hy
        have hltz : ((k' + 1 : Nat) : Int) < m := by omega
        have hz2 : ((k' + 1 : Nat) : Int) - 1 = (k' : Int) := by omega
        clear hx hy hc
        obtain ⟨K, hK⟩ : ∃ K, k' + 1 = K := ⟨_, rfl⟩
        have HKK := hide hK
        have hk'z : (k' : Int) < m := by omega
        rw [hK] at c1 hltz hz2 hk hk1 hlt ⊢
        clear hK
        by_cases hle : x ≤ y
        · go_wp2_with fail
          go_quiet (fail)
          have k2 := (HR.out.drewN nq).cell 0 _ rfl
          have k3 := (HR.out.drewN nq).frozen 0
          go_wp2_with fail
          refine bp_gen fun wf hwf => ?_
          have HRF : Blk wf (w.heap.size + 1) 53 [.slice none 0 0] := by rw [hwf]; first | exact HR.out.drew.set 0 _ | exact (HR.out.drewN _).set 0 _ | exact HR.out.set 0 _
          have hbf : Below w.heap.size w wf := by rw [hwf]; first | exact HB.out.drew.setCell (p := ⟨w.heap.size + 1, 0, none⟩) (by show w.heap.size ≤ w.heap.size + 1; omega) _ | exact (bdrewN HB.out _).setCell (p := ⟨w.heap.size + 1, 0, none⟩) (by show w.heap.size ≤ w.heap.size + 1; omega) _ | exact HB.out.setCell (p := ⟨w.heap.size + 1, 0, none⟩) (by show w.heap.size ≤ w.heap.size + 1; omega) _
          have q0 := HRF.cell 0 _ rfl
          clear hwf k2 k3
          exact bodyPost_ret (v := .tuple #[.agg #[.slice none 0 0], .int .i64 2]) (by simp [results, Try.results53, go_sem, q0]) rfl ⟨_, _, rfl, hbf, .inl ⟨rfl, rfl⟩⟩
        · go_wp2_with fail
          go_quiet (fail)
          go_wp2_with fail
          go_roundw
          case rel => exact ⟨K + 1, by omega, by omega, by go_num, HB.out.trans ((Quiet.of _ _).below _), HK.out.later ((Quiet.of _ _).below _), HR.out.later ((Quiet.of _ _).below _), fun j h1 h2 h3 => by
            by_cases e : j = k' + 1
            · rw [e, HXV.out, show k' + 1 - 1 = k' by omega, HYV.out]; omega
            · exact HALL.out j h1 (by have := HKK.out; omega) h3⟩
          case measure => simp [intOf]; omega
      · have hltz : ¬ (k : Int) < m := by omega
        exact absurd (fun j h1 h2 => HALL.out j h1 (by have := HM.out; omega) h2) HI.out
  · have hk0 : k = 0 := by rw [← hk]; rfl
    subst hk0
    have HRK : Hid (RkRes f false) := hide (by unfold RkRes; simp [h1])
    clear hn hm hk h1
    obtain ⟨H, hH⟩ : ∃ H, rtH f xs = H := ⟨_, rfl⟩
    try rw [hH]
    have HH := hide hH
    clear hH
    go_enter Try.func53, Try.ntmps53
    go_wp2_with fail
    refine calls_gen fun wd hw0 => ?_
    have HB : Hid (Below w.heap.size w wd) := hide (by rw [hw0]; exact ((Below.refl _ _).alloc (Nat.le_refl _) _).alloc (by simp) _)
    have HK : Hid (Blk wd w.heap.size 53 [.slice A n c]) := hide (by rw [hw0]; exact (Blk.new _ _ _).alloc _)
    have HR : Hid (Blk wd (w.heap.size + 1) 53 [.slice none 0 0]) := hide (by rw [hw0]; have h := Blk.new (w.alloc (Obj.cells #[.slice A n c] 53)) 53 [.slice none 0 0]; simpa using h)
    clear hw0
    refine (isRackS _ _ _ f false _ HN.out hb HBS.out (HRD.out.later HB.out) HRK.out).mono ?_
    rintro e wd ⟨rfl, hbd⟩
    replace HB := hide (HB.out.trans (hbd.mono HB.out.size))
    replace HK := hide (HK.out.later hbd)
    replace HR := hide (HR.out.later hbd)
    clear hbd
    have k2 := HR.out.cell 0 _ rfl
    have k3 := HR.out.frozen 0
    go_wp2_with fail
    refine bp_gen fun wf hwf => ?_
    have HRF : Blk wf (w.heap.size + 1) 53 [.slice none 0 0] := by rw [hwf]; first | exact HR.out | exact HR.out.set 0 _
    have hbf : Below w.heap.size w wf := by rw [hwf]; first | exact HB.out | exact HB.out.setCell (p := ⟨w.heap.size + 1, 0, none⟩) (by show w.heap.size ≤ w.heap.size + 1; omega) _
    have q0 := HRF.cell 0 _ rfl
    clear hwf k2 k3
    exact bodyPost_ret (v := .tuple #[.agg #[.slice none 0 0], .int .i64 1]) (by simp [results, Try.results53, go_sem, q0]) rfl ⟨_, _, rfl, hbf, .inl ⟨rfl, rfl⟩⟩

end Go.Proofs.Ytelildgngkajnaa
