import Derived.Test.YtelildgngkajnaaDoorZk
import Derived.Test.YtelildgngkajnaaDoorZc
import Derived.Test.YtelildgngkajnaaDoorZh
import Derived.Test.YtelildgngkajnaaDoorZf
import Derived.Shelf.Abstract
import Derived.Shelf.Lay
import Derived.Deep.Cut
import Derived.Deep.RegionHeld3
import Derived.Test.YtelildgngkajnaaDoorZa
import Derived.Test.YtelildgngkajnaaDoorZd
import Derived.Test.YtelildgngkajnaaDoorZg
import Derived.Test.YtelildgngkajnaaDoorZb
namespace Go.Proofs.YtelildgngkajnaaDoor
open Go Go.RowKit
set_option maxHeartbeats 4000000
/-- A function value that multiplies the numbers of a list. -/
def MulI (P : Program) (F : FuncId) (lb : Array Value) (N : Nat) (es : List Int) (p : Nat → Nat → Int) (w : World) : Prop :=
  ∀ (W : World) (i k : Nat), i < N → k < N → Below w.heap.size w W → Calls P F (#[.int .i64 (es.getD i 0), .int .i64 (es.getD k 0)] ++ lb) W fun e w' => e = .returned (.int .i64 (p i k)) ∧ Below W.heap.size W w'
theorem MulI.later {P : Program} {F : FuncId} {lb : Array Value} {N : Nat} {es : List Int} {p : Nat → Nat → Int} {w w' : World} (hm : MulI P F lb N es p w) (hb : Below w.heap.size w w') : MulI P F lb N es p w' := fun W i k hi hk hW => hm W i k hi hk (hb.trans (hW.mono hb.size))
set_option maxRecDepth 100000 in
theorem grpCI_any (F : FuncId) (lb : Array Value) (A : Option Addr) (N c b : Nat) (es : List Int) (p : Nat → Nat → Int) (w : World) (eg : ∀ args w, (callFunc F args).run Tryd.prog w = .ok (.enter F args) w) (hN : N ≤ 1000) (hl : es.length = N) (hr : Rd w A es) (hm : MulI Tryd.prog F lb N es p w) (hin : ∀ i k, i < N → k < N → 0 ≤ ixOf es (p i k) ∧ ixOf es (p i k) < (N : Int)) (hk : Blk w b 44 [.slice A N c, .func (.func F) #[] lb]) :
    CellFn Tryd.prog 40 #[.pointer (some ⟨b, 0, none⟩)] N (fun i k => ixOf es (p i k)) w := by
  intro W x y hx hy hb
  have HK := hide (hk.later hb)
  have HRD := hide (hr.later hb)
  have HM := hide (hm.later hb)
  have HLE := hide hl
  have heg := hide eg
  have hix := hin x y hx hy
  show Calls Tryd.prog 40 #[.int .i64 x, .int .i64 y, .pointer (some ⟨b, 0, none⟩)] W fun e w' => e = .returned (.int .i64 (ixOf es (p x y))) ∧ _
  clear hk hr hm hl hb eg hin
  obtain ⟨g, o, rfl, hgw, hc⟩ := HRD.out (by have := HLE.out; omega)
  have f0 := hc x (by have := HLE.out; omega)
  have f1 := hc y (by have := HLE.out; omega)
  obtain ⟨u, hu⟩ : ∃ u, p x y = u := ⟨_, rfl⟩
  rw [hu] at hix ⊢
  have HU := hide hu
  obtain ⟨q, hq⟩ : ∃ q, ixOf es u = q := ⟨_, rfl⟩
  rw [hq] at hix ⊢
  have HIX := hide hq
  have hwq : IntKind.i64.wrap q = q := IntWalk.i64_in _ (by omega)
  have hxz : (x : Int) < N := by omega
  have hyz : (y : Int) < N := by omega
  have HBc := hide (Below.refl W.heap.size W)
  obtain ⟨ex, hex⟩ : ∃ u, es.getD x 0 = u := ⟨_, rfl⟩
  obtain ⟨ey, hey⟩ : ∃ u, es.getD y 0 = u := ⟨_, rfl⟩
  rw [hex] at f0
  rw [hey] at f1
  have HEX := hide hex
  have HEY := hide hey
  have HX := hide f0
  have HY := hide f1
  clear hu hq hc hex hey
  have k0 := HK.out.cell 0 _ rfl
  have k1 := HK.out.cell 1 _ rfl
  have hegF := fun args => heg.out args
  go_enter Tryd.func40, Tryd.ntmps40
  go_wp2_with fail
  go_region_held3 (fun w' => w'.cell? ⟨b, 0, none⟩ = some (.slice (some ⟨g, o, none⟩) N c) ∧ w'.cell? ⟨b, 1, none⟩ = some (.func (.func F) #[] lb) ∧ w'.cell? ⟨g, o + x, none⟩ = some (.int .i64 ex) ∧ w'.cell? ⟨g, o + y, none⟩ = some (.int .i64 ey)) (first | exact ⟨k0, k1, f0, f1⟩ | go_keep) (first | (go_at_fn F; go_must (refine calls_gen fun wc hwc => ?_; (first | have hbx := drew_below hwc | have hbx := eq_below hwc); replace HBc := hide (HBc.out.trans (hbx.mono HBc.out.size)); clear hwc hbx; refine (cast (by rw [HEX.out, HEY.out, HU.out]) (HM.out wc x y hx hy HBc.out) : Calls Tryd.prog F (#[.int .i64 ex, .int .i64 ey] ++ lb) wc fun e w' => e = .returned (.int .i64 u) ∧ Below wc.heap.size wc w').mono ?_; rintro e wd ⟨rfl, hbd⟩; replace HBc := hide (HBc.out.trans (hbd.mono HBc.out.size)); clear hbd; have k0 := (HK.out.later HBc.out).cell 0 _ rfl; have k1 := (HK.out.later HBc.out).cell 1 _ rfl; have f0 : wd.cell? ⟨g, o + x, none⟩ = some (.int .i64 ex) := (HBc.out.cell (p := ⟨g, o + x, none⟩) hgw).trans HX.out; have f1 : wd.cell? ⟨g, o + y, none⟩ = some (.int .i64 ey) := (HBc.out.cell (p := ⟨g, o + y, none⟩) hgw).trans HY.out)) | (go_at_call 41; go_must (refine calls_gen fun wc hwc => ?_; (first | have hbx := drew_below hwc | have hbx := eq_below hwc); replace HBc := hide (HBc.out.trans (hbx.mono HBc.out.size)); clear hwc hbx; refine (indexI_any _ N c es u wc HLE.out (by omega) (HRD.out.later HBc.out)).mono ?_; rintro e wf ⟨rfl, hqd⟩; rw [HIX.out]; have hbd := hqd.below wc.heap.size; replace HBc := hide (HBc.out.trans (hbd.mono HBc.out.size)); clear hqd hbd; have k0 := (HK.out.later HBc.out).cell 0 _ rfl; have k1 := (HK.out.later HBc.out).cell 1 _ rfl; have f0 : wf.cell? ⟨g, o + x, none⟩ = some (.int .i64 ex) := (HBc.out.cell (p := ⟨g, o + x, none⟩) hgw).trans HX.out; have f1 : wf.cell? ⟨g, o + y, none⟩ = some (.int .i64 ey) := (HBc.out.cell (p := ⟨g, o + y, none⟩) hgw).trans HY.out)))
  all_goals
    clear k0 k1 f0 f1
    go_wp2_with fail
    go_ret
    exact ⟨rfl, HBc.out⟩

set_option maxRecDepth 100000 in
theorem grpI_any (F : FuncId) (lb : Array Value) (A : Option Addr) (N c : Nat) (es : List Int) (p : Nat → Nat → Int) (w : World) (eg : ∀ args w, (callFunc F args).run Tryd.prog w = .ok (.enter F args) w) (h1 : 1 ≤ N) (h12 : N ≤ 12) (hl : es.length = N) (hr : Rd w A es) (hm : MulI Tryd.prog F lb N es p w) (hin : ∀ i k, i < N → k < N → 0 ≤ ixOf es (p i k) ∧ ixOf es (p i k) < (N : Int)) :
    Calls Tryd.prog 19 #[.agg #[.slice A N c, .func (.func F) #[] lb]] w fun e w' => ∃ A' c', e = .returned (.agg #[.slice A' N c']) ∧ Below w.heap.size w w' ∧ Obj2 37 2 w.heap.size w'.heap.size w' A' (grid N (fun i k => ixOf es (p i k))) := by
  have HB0 := hide (((Below.refl _ w).alloc (Nat.le_refl _) (Obj.cells #[Value.slice A N c, .func (.func F) #[] lb] 44)).alloc (by simp) (Obj.cells #[.slice none 0 0] 26))
  have HP0 := hide ((Blk.new w 44 [.slice A N c, .func (.func F) #[] lb]).alloc (Obj.cells #[.slice none 0 0] 26))
  have HK0 : Hid (Blk ((w.alloc (Obj.cells #[Value.slice A N c, .func (.func F) #[] lb] 44)).alloc (Obj.cells #[.slice none 0 0] 26)) (w.heap.size + 1) 26 [.slice none 0 0]) := hide (by have h := Blk.new (w.alloc (Obj.cells #[Value.slice A N c, .func (.func F) #[] lb] 44)) 26 [.slice none 0 0]; simpa using h)
  have HRD := hide hr
  have HM := hide hm
  have heg := hide eg
  have HIN := hide hin
  clear hr hm eg hin
  go_enter Tryd.func19, Tryd.ntmps19
  have p0 := HP0.out.cell 0 _ rfl
  go_wp2_with fail
  clear p0
  refine (tableOf_any 40 _ N (fun i k => ixOf es (p i k)) _ (fun _ _ => rfl) h1 h12 (grpCI_any F lb A N c w.heap.size es p _ heg.out (by omega) hl (HRD.out.later HB0.out) (HM.out.later HB0.out) HIN.out HP0.out)).mono ?_
  rintro e w3 ⟨A3, c3, rfl, hb3, ho3⟩
  have HB3 := hide (HB0.out.trans (hb3.mono HB0.out.size))
  have HK3 := hide (HK0.out.later hb3)
  have HO3 := hide ho3
  have hlow := HK0.out.lt
  clear hb3 ho3
  have k2 := HK3.out.cell 0 _ rfl
  have k3 := HK3.out.frozen 0
  go_wp2_with fail
  refine bp_gen fun wf hwf => ?_
  obtain ⟨q0, hbf, hof⟩ := kend hwf HK3.out (by omega) HB3.out HO3.out (by omega) hlow (Nat.le_refl _)
  clear hwf k2 k3
  exact bodyPost_ret (v := .agg #[.slice A3 N c3]) (by simp [results, Tryd.results19, go_sem, q0]) rfl ⟨_, _, rfl, hbf, hof⟩
end Go.Proofs.YtelildgngkajnaaDoor
namespace Go.Proofs.YtelildgngkajnaaDoor
open Go Go.RowKit
set_option maxHeartbeats 4000000

theorem gq_below {P : Program} {F : FuncId} {args : Array Value} {w : World} {v : Ending} (h : Calls P F args w fun e w' => e = v ∧ Quiet w w') : Calls P F args w fun e w' => e = v ∧ Below w.heap.size w w' := h.mono fun _ _ ⟨he, hq⟩ => ⟨he, hq.below _⟩
def GrX (f : List (List Int)) (n x : Nat) : Prop := ap f 0 x = x ∧ ap f x 0 = x ∧ Prm (f.getD x []) ∧ ∀ y, y < n → ∀ z, z < n → As3 f x y z
theorem grpX_all {f : List (List Int)} {n : Nat} (hn : f.length = n) (ht : Tbl f) (h : ∀ x, x < n → GrX f n x) : Grp f := by
  subst hn
  exact ⟨⟨ht, fun x hx => (h x hx).2.2.1⟩, fun x hx => ⟨(h x hx).1, (h x hx).2.1⟩, fun x y z hx hy hz => (h x hx).2.2.2 y hy z hz⟩
theorem grpX_of {f : List (List Int)} {n : Nat} (hn : f.length = n) (h : Grp f) (x : Nat) (hx : x < n) : GrX f n x := by
  subst hn
  exact ⟨(h.2.1 x hx).1, (h.2.1 x hx).2, h.1.2 x hx, fun y hy z hz => h.2.2 x y z hx hy hz⟩

set_option maxRecDepth 100000 in
theorem isGrpS_any (A : Option Addr) (n c : Nat) (f : List (List Int)) (r : Bool) (w : World) (hn : f.length = n) (hb : n ≤ 1048576) (hbs : ∀ i, i < f.length → (f.getD i []).length ≤ 1048576) (hr : Rd2 w A f) (hrc : r = true ↔ Grp f) :
    Calls Tryd.prog 24 #[.slice A n c] w fun e w' => e = .returned (.bool r) ∧ Quiet w w' := by
  have HN := hide hn
  have HBS := hide hbs
  have HRD := hide hr
  have HRC := hide hrc
  by_cases ht : Tbl f
  · have HTB := hide ht
    have h1 : 1 ≤ n := by rw [← hn]; exact ht.1
    have h12 : n ≤ 12 := by rw [← hn]; exact ht.2.1
    obtain ⟨b, o, hA, hb, hc⟩ := ht.cells hr hn
    have HRW : Hid (∀ x, x < n → ∀ B c, w.cell? ⟨b, o + x, none⟩ = some (.slice B n c) → Rd w B (f.getD x [])) := hide (by
      obtain ⟨b', o', hA', _, hc'⟩ := rd_rows ht hr hn
      rw [hA] at hA'
      cases hA'
      intro x hx B c hB
      obtain ⟨B', c', h3, h4⟩ := hc' x hx
      rw [hB] at h3
      cases h3
      exact h4)
    subst hA
    have HC := hide hc
    clear hn hbs hr hrc ht hc
    go_enter Tryd.func24, Tryd.ntmps24
    go_wp2_with fail
    refine (l01Table_any _ _ _ f true _ HN.out (by omega) (fun i hi => by have := HBS.out i hi; omega) HRD.out (by simp [HTB.out])).mono ?_
    rintro e w1 ⟨rfl, hq1⟩
    have HQ1 := hide hq1
    clear hq1
    go_wp2_with fail
    go_loopw [3] (fun i wr => ∃ x : Nat, x ≤ n ∧ i = .int .i64 x ∧ Quiet w wr ∧ ∀ i, i < x → GrX f n i) (fun i _ => n - (intOf i).toNat)
    case atStart => exact ⟨0, Nat.zero_le _, rfl, HQ1.out, fun i hi => absurd hi (Nat.not_lt_zero _)⟩
    case round =>
      obtain ⟨x, hx, rfl, hq, hall⟩ := hrel
      have HQ := hide hq
      have HALL := hide hall
      clear hq hall
      by_cases hlt : x < n
      · have hxz : (x : Int) < n := by omega
        obtain ⟨bx, ox, cx, r1, r2, r3⟩ := HC.out x hlt
        obtain ⟨b0, o0, c0, s1, s2, s3⟩ := HC.out 0 h1
        have e1 := s3 x hlt
        have e2 := r3 0 h1
        have HPX : Hid (Rd w (some ⟨bx, ox, none⟩) (f.getD x []) ∧ (f.getD x []).length = n) := hide ⟨HRW.out x hlt _ _ r1, HTB.out.row_len HN.out hlt⟩
        obtain ⟨a, ha⟩ : ∃ a, ap f 0 x = a := ⟨_, rfl⟩
        obtain ⟨a', ha'⟩ : ∃ a, ap f x 0 = a := ⟨_, rfl⟩
        rw [ha] at e1
        rw [ha'] at e2
        have HA := hide ha
        have HA' := hide ha'
        have hbl := HQ.out.below w.heap.size
        replace r1 := (hbl.cell (p := ⟨b, o + x, none⟩) hb).trans r1
        replace s1 := (hbl.cell (p := ⟨b, o + 0, none⟩) hb).trans s1
        replace e1 := (hbl.cell (p := ⟨b0, o0 + x, none⟩) s2).trans e1
        replace e2 := (hbl.cell (p := ⟨bx, ox + 0, none⟩) r2).trans e2
        rw [Nat.add_zero] at s1 e2
        clear hbl ha ha' r3 s3
        by_cases c1 : a = x
        · have HC1 := hide c1
          subst c1
          by_cases c2 : a' = a
          · have HC2 := hide c2
            subst c2
            by_cases c3 : Prm (f.getD a' [])
            · have HC3 := hide c3
              clear c3
              go_wp2_with fail
              refine (prmS_any _ n _ (f.getD a' []) true _ HPX.out.2 (by omega) (HQ.out.rd HPX.out.1) ⟨fun _ => HC3.out, fun _ => rfl⟩).mono ?_
              rintro e w2 ⟨rfl, hq2⟩
              have HQ2 := hide (HQ.out.trans hq2)
              clear hq2 r1 s1 e1 e2
              obtain ⟨x, hxe⟩ : ∃ x, a' = x := ⟨_, rfl⟩
              subst hxe
              go_wp2_with fail
              go_loopw [4] (fun i wi => ∃ y : Nat, y ≤ n ∧ i = .int .i64 y ∧ Quiet w wi ∧ ∀ y', y' < y → ∀ z, z < n → As3 f a' y' z) (fun i _ => n - (intOf i).toNat)
              case atStart => exact ⟨0, Nat.zero_le _, rfl, HQ2.out, fun i hi => absurd hi (Nat.not_lt_zero _)⟩
              case round =>
                obtain ⟨y, hy, rfl, hq, hall⟩ := hrel
                have HQI := hide hq
                have HALLI := hide hall
                clear hq hall
                by_cases hlty : y < n
                · have hyz : (y : Int) < n := by omega
                  go_wp2_with fail
                  go_loopw [5] (fun i wi => ∃ z : Nat, z ≤ n ∧ i = .int .i64 z ∧ Quiet w wi ∧ ∀ z', z' < z → As3 f a' y z') (fun i _ => n - (intOf i).toNat)
                  case atStart => exact ⟨0, Nat.zero_le _, rfl, HQI.out, fun i hi => absurd hi (Nat.not_lt_zero _)⟩
                  case round =>
                    obtain ⟨z, hzn, rfl, hq, hallj⟩ := hrel
                    have HQJ := hide hq
                    have HALLJ := hide hallj
                    clear hq hallj
                    by_cases hltz : z < n
                    · have hzz : (z : Int) < n := by omega
                      have hq1 := HTB.out.ap_lt HN.out hlt hlty
                      have hq2 := HTB.out.ap_lt HN.out hlty hltz
                      obtain ⟨q1, h_1⟩ : ∃ u, ap f a' y = u := ⟨_, rfl⟩
                      obtain ⟨q2, h_2⟩ : ∃ u, ap f y z = u := ⟨_, rfl⟩
                      have hat : As3 f a' y z ↔ ap f q1 z = ap f a' q2 := by unfold As3; rw [h_1, h_2]
                      rw [h_1] at hq1
                      rw [h_2] at hq2
                      obtain ⟨q3, h_3⟩ : ∃ u, ap f q1 z = u := ⟨_, rfl⟩
                      obtain ⟨q4, h_4⟩ : ∃ u, ap f a' q2 = u := ⟨_, rfl⟩
                      rw [h_3, h_4] at hat
                      have HAT := hide hat
                      obtain ⟨bx, ox, cx, r1, r2, r3⟩ := HC.out a' hlt
                      obtain ⟨by', oy, cy, s1, s2, s3⟩ := HC.out y hlty
                      obtain ⟨bq, oq, cq, t1, t2, t3⟩ := HC.out q1 hq1
                      have e1 := r3 y hlty
                      rw [h_1] at e1
                      have e2 := s3 z hltz
                      rw [h_2] at e2
                      have e3 := t3 z hltz
                      rw [h_3] at e3
                      have e4 := r3 q2 hq2
                      rw [h_4] at e4
                      have z1 : (q1 : Int) < n := by omega
                      have z2 : (q2 : Int) < n := by omega
                      have hbl := HQJ.out.below w.heap.size
                      replace r1 := (hbl.cell (p := ⟨b, o + a', none⟩) hb).trans r1
                      replace s1 := (hbl.cell (p := ⟨b, o + y, none⟩) hb).trans s1
                      replace t1 := (hbl.cell (p := ⟨b, o + q1, none⟩) hb).trans t1
                      replace e1 := (hbl.cell (p := ⟨bx, ox + y, none⟩) r2).trans e1
                      replace e2 := (hbl.cell (p := ⟨by', oy + z, none⟩) s2).trans e2
                      replace e3 := (hbl.cell (p := ⟨bq, oq + z, none⟩) t2).trans e3
                      replace e4 := (hbl.cell (p := ⟨bx, ox + q2, none⟩) r2).trans e4
                      clear hbl h_1 h_2 h_3 h_4 hat r3 s3 t3
                      by_cases hcs : q3 = q4
                      · have HGOOD := hide (HAT.out.2 hcs)
                        subst hcs
                        go_wp2_with fail
                        go_quiet (fail)
                        go_wp2_with fail
                        go_roundw
                        case rel => exact ⟨z + 1, by omega, by go_num, HQJ.out.drewN _, fun i hi => by
                          by_cases e : i = z
                          · rw [e]; exact HGOOD.out
                          · exact HALLJ.out i (by omega)⟩
                        case measure => simp [intOf]; omega
                      · have hcz : ¬ (q3 : Int) = q4 := by omega
                        have HBAD := hide (fun h => hcs (HAT.out.1 h))
                        have hrf : r = false := by
                          cases r
                          · rfl
                          · exact absurd (HRC.out.1 rfl) (fun h => HBAD.out (((grpX_of HN.out h a' hlt).2.2.2) y hlty z hltz))
                        subst hrf
                        go_wp2_with fail
                        go_quiet (fail)
                        go_wp2_with fail
                        go_ret
                        exact ⟨rfl, HQJ.out.drewN _⟩
                    · have hzn' : z = n := by omega
                      subst hzn'
                      go_wp2_with fail
                      go_roundw
                      case rel => exact ⟨y + 1, by omega, by go_num, HQJ.out, fun i hi => by
                        by_cases e : i = y
                        · rw [e]; exact HALLJ.out
                        · exact HALLI.out i (by omega)⟩
                      case measure => simp [intOf]; omega
                · have hyn' : y = n := by omega
                  subst hyn'
                  go_wp2_with fail
                  go_roundw
                  case rel => exact ⟨a' + 1, by omega, by go_num, HQI.out, fun i hi => by
                    by_cases e : i = a'
                    · rw [e]; exact ⟨HA.out, HA'.out, HC3.out, HALLI.out⟩
                    · exact HALL.out i (by omega)⟩
                  case measure => simp [intOf]; omega
            · have HC3 := hide c3
              clear c3
              have hrf : r = false := by
                cases r
                · rfl
                · exact absurd (HRC.out.1 rfl) (fun h => HC3.out (grpX_of HN.out h a' hlt).2.2.1)
              subst hrf
              go_wp2_with fail
              refine (prmS_any _ n _ (f.getD a' []) false _ HPX.out.2 (by omega) (HQ.out.rd HPX.out.1) ⟨fun h => (by cases h), fun h => absurd h HC3.out⟩).mono ?_
              rintro e w2 ⟨rfl, hq2⟩
              have HQ2 := hide (HQ.out.trans hq2)
              clear hq2 r1 s1 e1 e2
              go_wp2_with fail
              go_ret
              exact ⟨rfl, HQ2.out⟩
          · have HC2 := hide c2
            have hcz : ¬ (a' : Int) = (a : Int) := by omega
            have hrf : r = false := by
              cases r
              · rfl
              · exact absurd (HRC.out.1 rfl) (fun h => HC2.out (HA'.out.symm.trans (grpX_of HN.out h a hlt).2.1))
            subst hrf
            go_wp2_with fail
            go_ret
            exact ⟨rfl, HQ.out⟩
        · have HC1 := hide c1
          have hcz : ¬ (a : Int) = (x : Int) := by omega
          have hrf : r = false := by
            cases r
            · rfl
            · exact absurd (HRC.out.1 rfl) (fun h => HC1.out (HA.out.symm.trans (grpX_of HN.out h x hlt).1))
          subst hrf
          go_wp2_with fail
          go_ret
          exact ⟨rfl, HQ.out⟩
      · have hxn : x = n := by omega
        subst hxn
        have hrt : r = true := HRC.out.2 (grpX_all HN.out HTB.out HALL.out)
        subst hrt
        go_wp2_with fail
        go_ret
        exact ⟨rfl, HQ.out⟩
  · have HTB := hide ht
    have hrf : r = false := by
      cases r
      · rfl
      · exact absurd (HRC.out.1 rfl).1.1 ht
    subst hrf
    clear hn hbs hr hrc ht
    go_enter Tryd.func24, Tryd.ntmps24
    go_wp2_with fail
    refine (l01Table_any _ _ _ f false _ HN.out (by omega) (fun i hi => by have := HBS.out i hi; omega) HRD.out (by simp [HTB.out])).mono ?_
    rintro e w1 ⟨rfl, hq1⟩
    have HQ1 := hide hq1
    clear hq1
    go_wp2_with fail
    go_ret
    exact ⟨rfl, HQ1.out⟩
end Go.Proofs.YtelildgngkajnaaDoor
namespace Go.Proofs.YtelildgngkajnaaDoor
open Go Go.RowKit
open Classical
set_option maxHeartbeats 2000000
theorem row2_begin (w : World) (t : TypeId) : Row2 t w.heap.size ((w.alloc (.cells #[] t)).alloc (.cells #[] t)) (.slice (some ⟨w.heap.size, 0, none⟩) 0 0) (.slice (some ⟨w.heap.size + 1, 0, none⟩) 0 0) 0 0 [] [] := by
  have h1 := ne_empty w t
  have h2 := ne_empty (w.alloc (.cells #[] t)) t
  refine ⟨?_, ?_, fun g hg e => ?_⟩
  · exact ownsRow_below h1 ((Below.refl _ _).alloc (Nat.le_refl _) _)
  · have h3 : ((w.alloc (.cells #[] t)).alloc (.cells #[] t)).ownsRow (w.alloc (.cells #[] t)).heap.size t 1 (.slice (some ⟨(w.alloc (.cells #[] t)).heap.size, 0, none⟩) 0 0) 0 [] := h2
    have hs : (w.alloc (.cells #[] t)).heap.size = w.heap.size + 1 := by simp
    rw [hs] at h3
    rcases h3 with ⟨hl, hh⟩
    refine ⟨hl, ?_⟩
    rcases hh with h | ⟨g, cap, cur, hv, hg, rest⟩
    · exact .inl h
    · exact .inr ⟨g, cap, cur, hv, by omega, rest⟩
  · simp [Value.ownBlock] at hg e
    omega
theorem firstsL_le (L : List Int) (k : Nat) : (firstsL L k).length ≤ k := by
  induction k with
  | zero => simp [firstsL]
  | succ k ih =>
    unfold firstsL
    by_cases h : lb L k ∈ firstsL L k
    · rw [if_pos h]; omega
    · rw [if_neg h]; simp; omega

set_option maxRecDepth 100000 in
theorem numS_any (A : Option Addr) (n c : Nat) (L : List Int) (w : World) (hn : L.length = n) (h12 : n ≤ 12) (hr : Rd w A L) :
    Calls Tryd.prog 28 #[.slice A n c] w fun e w' => ∃ A' c', e = .returned (.slice A' n c') ∧ Below w.heap.size w w' ∧ Res 2 w.heap.size w' A' (numL L) := by
  have HN := hide hn
  have HR := hide hr
  obtain ⟨i0, hi, hz0, hz1, hz2⟩ := info_parts neInfo
  clear hn hr
  go_enter Tryd.func28, Tryd.ntmps28
  go_wp2_with fail
  refine wp_gen fun w0 hw0 => ?_
  have HB0 : Hid (Below w.heap.size w w0) := hide (by rw [hw0]; exact ((Below.refl _ _).alloc (Nat.le_refl _) _).alloc (by simp) _)
  have HRW0 : Hid (Row2 2 w.heap.size w0 (.slice (some ⟨w.heap.size, 0, none⟩) 0 0) (.slice (some ⟨w.heap.size + 1, 0, none⟩) 0 0) 0 0 (numTo L 0) (firstsL L 0)) := hide (by rw [hw0]; exact row2_begin w _)
  clear hw0
  go_loopw [3, 4, 5] (fun v1 v2 i wr => ∃ k m : Nat, k ≤ n ∧ i = .int .i64 k ∧ Below w.heap.size w wr ∧ Row2 2 w.heap.size wr v1 v2 k m (numTo L k) (firstsL L k)) (fun _ _ i _ => n - (intOf i).toNat)
  case atStart => exact ⟨0, 0, Nat.zero_le _, rfl, HB0.out, HRW0.out⟩
  case round =>
    obtain ⟨k, m, hk, rfl, hbe, hrw⟩ := hrel
    have HB := hide hbe
    have HRW := hide hrw
    clear hbe hrw HB0 HRW0
    by_cases hlt : k < n
    · have hltz : (k : Int) < n := by omega
      obtain ⟨b, o, hA, hbw, hc⟩ := HR.out (by rw [HN.out]; omega)
      subst hA
      obtain ⟨lk, hlk⟩ : ∃ lk, lb L k = lk := ⟨_, rfl⟩
      have HCELL : Hid (∀ wx : World, Below w.heap.size w wx → wx.cell? ⟨b, o + k, none⟩ = some (.int .i64 lk)) := hide (fun wx hb => (hb.cell (p := ⟨b, o + k, none⟩) hbw).trans (by rw [← hlk]; exact hc k (by rw [HN.out]; exact hlt)))
      have HLK := hide hlk
      clear hc
      have hm : (firstsL L k).length = m := by have h := HRW.out.o2.1; simpa [ints] using h
      have hm12 := firstsL_le L k
      obtain ⟨A2, c2, hv2, hres2⟩ := own_shape HRW.out.o2
      subst hv2
      have HRS := hide hres2.rd
      have HM := hide hm
      have hat1 := HCELL.out _ HB.out
      have hmk : m ≤ k := by omega
      clear hres2 hm
      go_wp2_with fail
      by_cases hin : lk ∈ firstsL L k
      · refine (has_any A2 m c2 (firstsL L k) lk true _ HM.out (by omega) HRS.out (by simp [hin])).mono ?_
        rintro e w5 ⟨rfl, hq5⟩
        replace HRS := hide (HRS.out.later (hq5.below _))
        replace HB := hide (HB.out.trans ((hq5.below _).mono HB.out.size))
        replace HRW := hide (HRW.out.later (hq5.below _))
        clear hq5

        have HFS : Hid (firstsL L (k + 1) = firstsL L k) := hide (by show (if lb L k ∈ firstsL L k then firstsL L k else firstsL L k ++ [lb L k]) = _; rw [hlk, if_pos hin])
        have HFL := HM
        clear hin hlk hat1
        have hat2 := HCELL.out _ HB.out
        have HRS2 := HRS
        go_wp2_with fail
        refine (index_any A2 _ c2 (firstsL L k) lk _ HFL.out (by omega) HRS2.out).mono ?_
        rintro e w7 ⟨rfl, hq7⟩
        replace HB := hide (HB.out.trans ((hq7.below _).mono HB.out.size))
        replace HRW := hide (HRW.out.later (hq7.below _))
        clear hq7
        obtain ⟨ix, hix⟩ : ∃ ix, ixOf (firstsL L k) lk = ix := ⟨_, rfl⟩
        rw [hix]
        have HIX := hide hix
        clear hix hat2
        go_wp2_with (at_builtin; refine wpList_append_own_at _ rfl _ _ 37 rfl w.heap.size 2 i0 (.int .i64 0) 1 8 Tryd.underlying37 hi hz0 hz1 hz2 rfl (by decide) _ _ _ rfl (HRW.out.o1.alloc _) ⟨w7.heap.size, 0, none⟩ 1 1 [.int .i64 ix] rfl rfl ?a1 ?a2 ?a3 ?a4 ?a5 ?_)
        try (case a1 => exact ne_new)
        try (case a2 => first | rfl | (intro u hu; simp at hu; subst hu; rfl))
        try (case a3 => first | omega | (unfold maxLen; omega))
        try (case a4 => omega)
        try (case a5 => first | omega | (simp; omega) | (have hs := HB.out.size; simp; omega))
        intro v' w9a hown hgrow _ hat
        replace HB := hide (grown_low HRW.out.o1 hgrow HB.out (Nat.le_refl _) HB.out.size)
        replace HRW := hide (HRW.out.add1 (tmp := .cells #[.int .i64 ix] 2) hown hgrow (by simpa using hat))
        clear hown hgrow hat
        go_wp2_with fail
        go_roundw
        case rel =>
          refine ⟨k + 1, m, by omega, by go_num, HB.out, ?_⟩
          have h := HRW.out
          rw [← HIX.out, ← HFS.out, ← HLK.out, ← numTo_succ] at h
          exact h
        case measure => simp [intOf]; omega
      · refine (has_any A2 m c2 (firstsL L k) lk false _ HM.out (by omega) HRS.out (by simp [hin])).mono ?_
        rintro e w5 ⟨rfl, hq5⟩
        replace HB := hide (HB.out.trans ((hq5.below _).mono HB.out.size))
        replace HRW := hide (HRW.out.later (hq5.below _))
        clear hq5

        have HFS : Hid (firstsL L (k + 1) = firstsL L k ++ [lk]) := hide (by show (if lb L k ∈ firstsL L k then firstsL L k else firstsL L k ++ [lb L k]) = _; rw [hlk, if_neg hin])
        have HFL : Hid ((firstsL L k ++ [lk]).length = m + 1) := hide (by rw [List.length_append, HM.out]; rfl)
        clear hin hlk hat1 HRS
        have hat3 := HCELL.out _ HB.out
        go_wp2_with (at_builtin; refine wpList_append_own_at _ rfl _ _ 37 rfl w.heap.size 2 i0 (.int .i64 0) 1 8 Tryd.underlying37 hi hz0 hz1 hz2 rfl (by decide) _ _ _ rfl (HRW.out.o2.alloc _) ⟨w5.heap.size, 0, none⟩ 1 1 [.int .i64 lk] rfl rfl ?b1 ?b2 ?b3 ?b4 ?b5 ?_)
        try (case b1 => exact ne_new)
        try (case b2 => first | rfl | (intro u hu; simp at hu; subst hu; rfl))
        try (case b3 => first | omega | (unfold maxLen; omega))
        try (case b4 => omega)
        try (case b5 => first | omega | (simp; omega) | (have hs := HB.out.size; simp; omega))
        intro v' w9b hown hgrow _ hat
        replace HB := hide (grown_low HRW.out.o2 hgrow HB.out (Nat.le_refl _) HB.out.size)
        replace HRW := hide (HRW.out.add2 (tmp := .cells #[.int .i64 lk] 2) hown hgrow (by simpa using hat))
        clear hown hgrow hat

        clear hat3
        have hat2 := HCELL.out _ HB.out
        obtain ⟨A2, c2, hv2, hres2⟩ := own_shape HRW.out.o2
        subst hv2
        have HRS2 := hide hres2.rd
        clear hres2
        go_wp2_with fail
        refine (index_any A2 _ c2 (firstsL L k ++ [lk]) lk _ HFL.out (by omega) HRS2.out).mono ?_
        rintro e w7 ⟨rfl, hq7⟩
        replace HB := hide (HB.out.trans ((hq7.below _).mono HB.out.size))
        replace HRW := hide (HRW.out.later (hq7.below _))
        clear hq7
        obtain ⟨ix, hix⟩ : ∃ ix, ixOf (firstsL L k ++ [lk]) lk = ix := ⟨_, rfl⟩
        rw [hix]
        have HIX := hide hix
        clear hix hat2
        go_wp2_with (at_builtin; refine wpList_append_own_at _ rfl _ _ 37 rfl w.heap.size 2 i0 (.int .i64 0) 1 8 Tryd.underlying37 hi hz0 hz1 hz2 rfl (by decide) _ _ _ rfl (HRW.out.o1.alloc _) ⟨w7.heap.size, 0, none⟩ 1 1 [.int .i64 ix] rfl rfl ?a1 ?a2 ?a3 ?a4 ?a5 ?_)
        try (case a1 => exact ne_new)
        try (case a2 => first | rfl | (intro u hu; simp at hu; subst hu; rfl))
        try (case a3 => first | omega | (unfold maxLen; omega))
        try (case a4 => omega)
        try (case a5 => first | omega | (simp; omega) | (have hs := HB.out.size; simp; omega))
        intro v' w9a hown hgrow _ hat
        replace HB := hide (grown_low HRW.out.o1 hgrow HB.out (Nat.le_refl _) HB.out.size)
        replace HRW := hide (HRW.out.add1 (tmp := .cells #[.int .i64 ix] 2) hown hgrow (by simpa using hat))
        clear hown hgrow hat
        go_wp2_with fail
        go_roundw
        case rel =>
          refine ⟨k + 1, m + 1, by omega, by go_num, HB.out, ?_⟩
          have h := HRW.out
          rw [← HIX.out, ← HFS.out, ← HLK.out, ← numTo_succ] at h
          exact h
        case measure => simp [intOf]; omega
    · have hkn : k = n := by omega
      subst hkn
      obtain ⟨A1, c1, hv1, hres1⟩ := own_shape HRW.out.o1
      subst hv1
      have HRS1 := hide hres1
      clear hres1
      go_wp2_with fail
      go_ret
      exact ⟨_, _, rfl, HB.out, by unfold numL; rw [HN.out]; exact HRS1.out⟩
end Go.Proofs.YtelildgngkajnaaDoor
