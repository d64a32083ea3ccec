import Derived.Test.YtelildgngkajnaaZs
import Derived.Test.YtelildgngkajnaaZa
import Derived.Test.YtelildgngkajnaaZf
import Derived.Test.YtelildgngkajnaaZe
import Derived.Test.YtelildgngkajnaaZk
import Derived.Test.YtelildgngkajnaaZn
import Derived.Test.YtelildgngkajnaaZd
namespace Go.Proofs.Ytelildgngkajnaa
open Go Go.RowKit
set_option maxHeartbeats 1000000

theorem gsize_any (A : Option Addr) (n c : Nat) (w : World) (_hn : n ≤ 1048576) :
    Calls Try.prog 62 #[.agg #[.slice A n c]] w fun e w' => e = .returned (.int .i64 n) ∧ Below w.heap.size w w' := by
  have HB0 := hide ((Below.refl _ w).alloc (Nat.le_refl _) (Obj.cells #[Value.slice A n c] 24))
  go_enter Try.func62, Try.ntmps62
  go_wp2_with fail
  go_ret
  exact ⟨rfl, HB0.out⟩

theorem gprod_any (A : Option Addr) (n c : Nat) (f : List (List Int)) (x y u : Nat) (w : World) (hn : f.length = n) (ht : Tbl f) (hr : Rd2 w A f) (hx : x < n) (hy : y < n) (hu : ap f x y = u) :
    Calls Try.prog 109 #[.agg #[.slice A n c], .int .i64 x, .int .i64 y] w fun e w' => e = .returned (.int .i64 u) ∧ Below w.heap.size w w' := by
  have h12 : n ≤ 12 := by rw [← hn]; exact ht.2.1
  obtain ⟨b, o, rfl, hb, hc⟩ := ht.cells hr hn
  obtain ⟨bx, ox, cx, h1, h2, h3⟩ := hc x hx
  have h4 := h3 y hy
  rw [hu] at h4
  have hbb := ((Below.refl _ w).alloc (Nat.le_refl _) (Obj.cells #[Value.slice (some ⟨b, o, none⟩) n c] 24))
  have HB0 := hide hbb
  have a4 := (hbb.cell (p := ⟨b, o + x, none⟩) hb).trans h1
  have a6 := (hbb.cell (p := ⟨bx, ox + y, none⟩) h2).trans h4
  have hxz : (x : Int) < n := by omega
  have hyz : (y : Int) < n := by omega
  have hxz0 : (0 : Int) ≤ x := by omega
  have hyz0 : (0 : Int) ≤ y := by omega
  clear hbb h1 h3 h4 hc hu hr ht hn
  go_enter Try.func109, Try.ntmps109
  go_wp2_with fail
  go_ret
  exact ⟨rfl, HB0.out⟩

set_option maxRecDepth 100000 in
/-- The product, over a block that is just the other factors. -/
theorem times_any (A : Option Addr) (n c : Nat) (f : List (List Int)) (x g k : Nat) (ys : List Nat) (w : World) (hn : f.length = n) (ht : Tbl f) (hr : Rd2 w A f) (hx : x < n) (hk : ys.length = k) (hys : ∀ y ∈ ys, y < n) (hb : Blk w g 2 (ints (natL ys))) (hk4 : k ≤ 4) :
    Calls Try.prog 141 #[.agg #[.slice A n c], .int .i64 x, .slice (some ⟨g, 0, none⟩) k k] w fun e w' => e = .returned (.int .i64 (tm f x ys)) ∧ Below w.heap.size w w' := by
  have h1 : 1 ≤ n := by rw [← hn]; exact ht.1
  have h12 : n ≤ 12 := by rw [← hn]; exact ht.2.1
  have HN := hide hn
  have HTB := hide ht
  have HR := hide hr
  have HK := hide hk
  have hgl := hb.lt
  have HB0 := hide ((Below.refl _ w).alloc (Nat.le_refl _) (Obj.cells #[Value.slice A n c] 24))
  have HK0 := hide (Blk.new w 24 [.slice A n c])
  have HG : Hid (∀ i, i < k → w.cell? ⟨g, i, none⟩ = some (.int .i64 (ys.getD i 0 : Nat)) ∧ ys.getD i 0 < n) := hide (fun i hi => by
    have hi2 : i < ys.length := by omega
    refine ⟨hb.cell i _ ?_, hys _ ?_⟩
    · simp [ints, natL, hi2]
    · simp [hi2])
  clear hn ht hr hk hys hb
  go_enter Try.func141, Try.ntmps141
  go_wp2_with fail
  go_loopw [1, 11] (fun s i wr => ∃ j : Nat, j ≤ k ∧ i = .int .i64 j ∧ s = .int .i64 (tm f x (ys.take j)) ∧ tm f x (ys.take j) < n ∧ Below w.heap.size w wr ∧ Blk wr w.heap.size 24 [.slice A n c]) (fun _ i _ => k - (intOf i).toNat)
  case atStart => exact ⟨0, Nat.zero_le _, rfl, rfl, hx, HB0.out, HK0.out⟩
  case round =>
    obtain ⟨j, hj, rfl, rfl, hvn, hbe, hkk⟩ := hrel
    have HB := hide hbe
    have HKK := hide hkk
    clear hbe hkk
    by_cases hlt : j < k
    · have hjz : (j : Int) < k := by omega
      have hst := tm_take f x ys j (by have := HK.out; omega)
      have hg := HG.out j hlt
      have c0 := (HB.out.cell (p := ⟨g, j, none⟩) hgl).trans hg.1
      have hyn := hg.2
      obtain ⟨v, hv⟩ : ∃ v, tm f x (ys.take j) = v := ⟨_, rfl⟩
      obtain ⟨y, hy⟩ : ∃ y, ys.getD j 0 = y := ⟨_, rfl⟩
      rw [hy] at c0 hyn hst
      rw [hv] at hvn hst ⊢
      have hu := HTB.out.ap_lt HN.out hvn hyn
      obtain ⟨u, hue⟩ : ∃ u, ap f v y = u := ⟨_, rfl⟩
      rw [hue] at hst hu
      have HST := hide hst
      have HUE := hide hue
      have k0 := HKK.out.cell 0 _ rfl
      clear hg hue hst hy hv
      go_wp2_with fail
      clear k0 c0
      refine (gprod_any _ n _ f v y u _ HN.out HTB.out (HR.out.later HB.out) hvn hyn HUE.out).mono ?_
      rintro e w5 ⟨rfl, hb5⟩
      have HB5 := hide (HB.out.trans (hb5.mono HB.out.size))
      have HK5 := hide (HKK.out.later hb5)
      clear hb5
      go_wp2_with fail
      go_roundw
      case rel => exact ⟨j + 1, by omega, by go_num, by rw [HST.out], by rw [HST.out]; exact hu, HB5.out, HK5.out⟩
      case measure => simp [intOf]; omega
    · have hjk : j = k := by omega
      subst hjk
      have hts : ys.take j = ys := List.take_of_length_le (by rw [HK.out]; exact Nat.le_refl _)
      rw [hts]
      obtain ⟨v, hv⟩ : ∃ v, tm f x ys = v := ⟨_, rfl⟩
      rw [hv]
      have HV := hide hv
      clear hts hv
      go_wp2_with fail
      go_ret
      exact ⟨by first | rfl | (rw [HV.out]; rfl), HB.out⟩

set_option maxRecDepth 100000 in
theorem ginv_any (A : Option Addr) (n c : Nat) (f : List (List Int)) (x : Nat) (w : World) (hn : f.length = n) (ht : Tbl f) (hp : AllPrm f) (hr : Rd2 w A f) (hx : x < n) :
    Calls Try.prog 185 #[.agg #[.slice A n c], .int .i64 x] w fun e w' => e = .returned (.int .i64 (bk f x)) ∧ Below w.heap.size w w' := by
  have h1 : 1 ≤ n := by rw [← hn]; exact ht.1
  have h12 : n ≤ 12 := by rw [← hn]; exact ht.2.1
  have hok := bk_ok hn ht hp hx
  obtain ⟨b, o, hA, hbw, hc⟩ := rd_rows ht hr hn
  subst hA
  obtain ⟨Bx, cx, r1, hrd⟩ := hc x hx
  have HRL : Hid ((f.getD x []).length = n) := hide (ht.row_len hn hx)
  obtain ⟨row, hrow⟩ : ∃ row, f.getD x [] = row := ⟨_, rfl⟩
  rw [hrow] at hok HRL hrd
  have HRD := hide hrd
  have HOK := hide hok.2
  obtain ⟨u, hu⟩ : ∃ u, bk f x = u := ⟨_, rfl⟩
  rw [hu] at HOK ⊢
  have hun : u < n := by rw [← hu]; exact hok.1
  have HB0 := hide ((Below.refl _ w).alloc (Nat.le_refl _) (Obj.cells #[Value.slice (some ⟨b, o, none⟩) n c] 24))
  have HK0 := hide (Blk.new w 24 [.slice (some ⟨b, o, none⟩) n c])
  replace r1 := (HB0.out.cell (p := ⟨b, o + x, none⟩) hbw).trans r1
  have hxz : (x : Int) < n := by omega
  have e1 : IntKind.i64.wrap (u : Int) = (u : Int) := IntWalk.i64_in _ (by omega)
  clear hn ht hp hr hc hrow hok hu hrd
  go_enter Try.func185, Try.ntmps185
  have k0 := HK0.out.cell 0 _ rfl
  go_wp2_with fail
  clear k0 r1
  refine (indexI_any _ n _ row 0 _ HRL.out (by omega) (HRD.out.later HB0.out)).mono ?_
  rintro e w1 ⟨rfl, hq⟩
  rw [HOK.out]
  have HB1 := hide (HB0.out.trans (hq.below _))
  clear hq
  go_wp2_with fail
  go_ret
  exact ⟨rfl, HB1.out⟩
end Go.Proofs.Ytelildgngkajnaa
namespace Go.Proofs.Ytelildgngkajnaa
open Go Go.RowKit
set_option maxHeartbeats 1000000

set_option maxRecDepth 100000 in
theorem rackOf_any (F : FuncId) (lb : Array Value) (n : Nat) (h : Nat → Nat → Int) (w : World) (eg : ∀ args w, (callFunc F args).run Try.prog w = .ok (.enter F args) w) (h0 : 1 ≤ n) (h12 : n ≤ 12) (hp : CellFn Try.prog F lb n h w) :
    Calls Try.prog 98 #[.int .i64 n, .func (.func F) #[] lb] w fun e w' => ∃ A c, e = .returned (.agg #[.slice A n c]) ∧ Below w.heap.size w w' ∧ Obj2 48 2 w.heap.size w'.heap.size w' A (grid n h) := by
  have HPF := hide hp
  clear hp
  go_enter Try.func98, Try.ntmps98
  go_wp2_with fail
  refine calls_gen fun w0 hw0 => ?_
  have HB0 : Hid (Below w.heap.size w w0) := hide (by rw [hw0]; exact (Below.refl _ _).alloc (Nat.le_refl _) _)
  have HK0 : Hid (Blk w0 w.heap.size 53 [.slice none 0 0]) := hide (by rw [hw0]; exact Blk.new _ _ _)
  clear hw0
  refine (tableOf_any F lb n h _ eg h0 h12 (HPF.out.later HB0.out)).mono ?_
  rintro e w2 ⟨A2, c2, rfl, hb2, ho2⟩
  have HB2 := hide (HB0.out.trans (hb2.mono HB0.out.size))
  have HK2 := hide (HK0.out.later hb2)
  have HO2 := hide ho2
  have hlow : w.heap.size < w0.heap.size := HK0.out.lt
  clear hb2 ho2
  have k2 := HK2.out.cell 0 _ rfl
  have k3 := HK2.out.frozen 0
  go_wp2_with fail
  refine bp_gen fun wf hwf => ?_
  obtain ⟨q0, hbf, hof⟩ := kend hwf HK2.out (Nat.le_refl _) HB2.out HO2.out (by omega) hlow (Nat.le_refl _)
  clear hwf k2 k3
  exact bodyPost_ret (v := .agg #[.slice A2 n c2]) (by simp [results, Try.results98, go_sem, q0]) rfl ⟨_, _, rfl, hbf, hof⟩
end Go.Proofs.Ytelildgngkajnaa
namespace Go.Proofs.Ytelildgngkajnaa
open Go Go.RowKit
set_option maxHeartbeats 4000000

theorem gq_below {P : Program} {F : FuncId} {args : Array Value} {w : World} {v : Ending} (h : Calls P F args w fun e w' => e = v ∧ Quiet w w') : Calls P F args w fun e w' => e = v ∧ Below w.heap.size w w' := h.mono fun _ _ ⟨he, hq⟩ => ⟨he, hq.below _⟩
def GrX (f : List (List Int)) (n x : Nat) : Prop := ap f 0 x = x ∧ ap f x 0 = x ∧ Prm (f.getD x []) ∧ ∀ y, y < n → ∀ z, z < n → As3 f x y z
theorem grpX_all {f : List (List Int)} {n : Nat} (hn : f.length = n) (ht : Tbl f) (h : ∀ x, x < n → GrX f n x) : Grp f := by
  subst hn
  exact ⟨⟨ht, fun x hx => (h x hx).2.2.1⟩, fun x hx => ⟨(h x hx).1, (h x hx).2.1⟩, fun x y z hx hy hz => (h x hx).2.2.2 y hy z hz⟩
theorem grpX_of {f : List (List Int)} {n : Nat} (hn : f.length = n) (h : Grp f) (x : Nat) (hx : x < n) : GrX f n x := by
  subst hn
  exact ⟨(h.2.1 x hx).1, (h.2.1 x hx).2, h.1.2 x hx, fun y hy z hz => h.2.2 x y z hx hy hz⟩

set_option maxRecDepth 100000 in
theorem isGrpS_any (A : Option Addr) (n c : Nat) (f : List (List Int)) (r : Bool) (w : World) (hn : f.length = n) (hb : n ≤ 1048576) (hbs : ∀ i, i < f.length → (f.getD i []).length ≤ 1048576) (hr : Rd2 w A f) (hrc : r = true ↔ Grp f) :
    Calls Try.prog 59 #[.slice A n c] w fun e w' => e = .returned (.bool r) ∧ Quiet w w' := by
  have HN := hide hn
  have HBS := hide hbs
  have HRD := hide hr
  have HRC := hide hrc
  by_cases ht : Tbl f
  · have HTB := hide ht
    have h1 : 1 ≤ n := by rw [← hn]; exact ht.1
    have h12 : n ≤ 12 := by rw [← hn]; exact ht.2.1
    obtain ⟨b, o, hA, hb, hc⟩ := ht.cells hr hn
    have HRW : Hid (∀ x, x < n → ∀ B c, w.cell? ⟨b, o + x, none⟩ = some (.slice B n c) → Rd w B (f.getD x [])) := hide (by
      obtain ⟨b', o', hA', _, hc'⟩ := rd_rows ht hr hn
      rw [hA] at hA'
      cases hA'
      intro x hx B c hB
      obtain ⟨B', c', h3, h4⟩ := hc' x hx
      rw [hB] at h3
      cases h3
      exact h4)
    subst hA
    have HC := hide hc
    clear hn hbs hr hrc ht hc
    go_enter Try.func59, Try.ntmps59
    go_wp2_with fail
    refine (l01Table_any _ _ _ f true _ HN.out (by omega) (fun i hi => by have := HBS.out i hi; omega) HRD.out (by simp [HTB.out])).mono ?_
    rintro e w1 ⟨rfl, hq1⟩
    have HQ1 := hide hq1
    clear hq1
    go_wp2_with fail
    go_loopw [3] (fun i wr => ∃ x : Nat, x ≤ n ∧ i = .int .i64 x ∧ Quiet w wr ∧ ∀ i, i < x → GrX f n i) (fun i _ => n - (intOf i).toNat)
    case atStart => exact ⟨0, Nat.zero_le _, rfl, HQ1.out, fun i hi => absurd hi (Nat.not_lt_zero _)⟩
    case round =>
      obtain ⟨x, hx, rfl, hq, hall⟩ := hrel
      have HQ := hide hq
      have HALL := hide hall
      clear hq hall
      by_cases hlt : x < n
      · have hxz : (x : Int) < n := by omega
        obtain ⟨bx, ox, cx, r1, r2, r3⟩ := HC.out x hlt
        obtain ⟨b0, o0, c0, s1, s2, s3⟩ := HC.out 0 h1
        have e1 := s3 x hlt
        have e2 := r3 0 h1
        have HPX : Hid (Rd w (some ⟨bx, ox, none⟩) (f.getD x []) ∧ (f.getD x []).length = n) := hide ⟨HRW.out x hlt _ _ r1, HTB.out.row_len HN.out hlt⟩
        obtain ⟨a, ha⟩ : ∃ a, ap f 0 x = a := ⟨_, rfl⟩
        obtain ⟨a', ha'⟩ : ∃ a, ap f x 0 = a := ⟨_, rfl⟩
        rw [ha] at e1
        rw [ha'] at e2
        have HA := hide ha
        have HA' := hide ha'
        have hbl := HQ.out.below w.heap.size
        replace r1 := (hbl.cell (p := ⟨b, o + x, none⟩) hb).trans r1
        replace s1 := (hbl.cell (p := ⟨b, o + 0, none⟩) hb).trans s1
        replace e1 := (hbl.cell (p := ⟨b0, o0 + x, none⟩) s2).trans e1
        replace e2 := (hbl.cell (p := ⟨bx, ox + 0, none⟩) r2).trans e2
        rw [Nat.add_zero] at s1 e2
        clear hbl ha ha' r3 s3
        by_cases c1 : a = x
        · have HC1 := hide c1
          subst c1
          by_cases c2 : a' = a
          · have HC2 := hide c2
            subst c2
            by_cases c3 : Prm (f.getD a' [])
            · have HC3 := hide c3
              clear c3
              go_wp2_with fail
              refine (prmS_any _ n _ (f.getD a' []) true _ HPX.out.2 (by omega) (HQ.out.rd HPX.out.1) ⟨fun _ => HC3.out, fun _ => rfl⟩).mono ?_
              rintro e w2 ⟨rfl, hq2⟩
              have HQ2 := hide (HQ.out.trans hq2)
              clear hq2 r1 s1 e1 e2
              obtain ⟨x, hxe⟩ : ∃ x, a' = x := ⟨_, rfl⟩
              subst hxe
              go_wp2_with fail
              go_loopw [4] (fun i wi => ∃ y : Nat, y ≤ n ∧ i = .int .i64 y ∧ Quiet w wi ∧ ∀ y', y' < y → ∀ z, z < n → As3 f a' y' z) (fun i _ => n - (intOf i).toNat)
              case atStart => exact ⟨0, Nat.zero_le _, rfl, HQ2.out, fun i hi => absurd hi (Nat.not_lt_zero _)⟩
              case round =>
                obtain ⟨y, hy, rfl, hq, hall⟩ := hrel
                have HQI := hide hq
                have HALLI := hide hall
                clear hq hall
                by_cases hlty : y < n
                · have hyz : (y : Int) < n := by omega
                  go_wp2_with fail
                  go_loopw [5] (fun i wi => ∃ z : Nat, z ≤ n ∧ i = .int .i64 z ∧ Quiet w wi ∧ ∀ z', z' < z → As3 f a' y z') (fun i _ => n - (intOf i).toNat)
                  case atStart => exact ⟨0, Nat.zero_le _, rfl, HQI.out, fun i hi => absurd hi (Nat.not_lt_zero _)⟩
                  case round =>
                    obtain ⟨z, hzn, rfl, hq, hallj⟩ := hrel
                    have HQJ := hide hq
                    have HALLJ := hide hallj
                    clear hq hallj
                    by_cases hltz : z < n
                    · have hzz : (z : Int) < n := by omega
                      have hq1 := HTB.out.ap_lt HN.out hlt hlty
                      have hq2 := HTB.out.ap_lt HN.out hlty hltz
                      obtain ⟨q1, h_1⟩ : ∃ u, ap f a' y = u := ⟨_, rfl⟩
                      obtain ⟨q2, h_2⟩ : ∃ u, ap f y z = u := ⟨_, rfl⟩
                      have hat : As3 f a' y z ↔ ap f q1 z = ap f a' q2 := by unfold As3; rw [h_1, h_2]
                      rw [h_1] at hq1
                      rw [h_2] at hq2
                      obtain ⟨q3, h_3⟩ : ∃ u, ap f q1 z = u := ⟨_, rfl⟩
                      obtain ⟨q4, h_4⟩ : ∃ u, ap f a' q2 = u := ⟨_, rfl⟩
                      rw [h_3, h_4] at hat
                      have HAT := hide hat
                      obtain ⟨bx, ox, cx, r1, r2, r3⟩ := HC.out a' hlt
                      obtain ⟨by', oy, cy, s1, s2, s3⟩ := HC.out y hlty
                      obtain ⟨bq, oq, cq, t1, t2, t3⟩ := HC.out q1 hq1
                      have e1 := r3 y hlty
                      rw [h_1] at e1
                      have e2 := s3 z hltz
                      rw [h_2] at e2
                      have e3 := t3 z hltz
                      rw [h_3] at e3
                      have e4 := r3 q2 hq2
                      rw [h_4] at e4
                      have z1 : (q1 : Int) < n := by omega
                      have z2 : (q2 : Int) < n := by omega
                      have hbl := HQJ.out.below w.heap.size
                      replace r1 := (hbl.cell (p := ⟨b, o + a', none⟩) hb).trans r1
                      replace s1 := (hbl.cell (p := ⟨b, o + y, none⟩) hb).trans s1
                      replace t1 := (hbl.cell (p := ⟨b, o + q1, none⟩) hb).trans t1
                      replace e1 := (hbl.cell (p := ⟨bx, ox + y, none⟩) r2).trans e1
                      replace e2 := (hbl.cell (p := ⟨by', oy + z, none⟩) s2).trans e2
                      replace e3 := (hbl.cell (p := ⟨bq, oq + z, none⟩) t2).trans e3
                      replace e4 := (hbl.cell (p := ⟨bx, ox + q2, none⟩) r2).trans e4
                      clear hbl h_1 h_2 h_3 h_4 hat r3 s3 t3
                      by_cases hcs : q3 = q4
                      · have HGOOD := hide (HAT.out.2 hcs)
                        subst hcs
                        go_wp2_with fail
                        go_quiet (fail)
                        go_wp2_with fail
                        go_roundw
                        case rel => exact ⟨z + 1, by omega, by go_num, HQJ.out.drewN _, fun i hi => by
                          by_cases e : i = z
                          · rw [e]; exact HGOOD.out
                          · exact HALLJ.out i (by omega)⟩
                        case measure => simp [intOf]; omega
                      · have hcz : ¬ (q3 : Int) = q4 := by omega
                        have HBAD := hide (fun h => hcs (HAT.out.1 h))
                        have hrf : r = false := by
                          cases r
                          · rfl
                          · exact absurd (HRC.out.1 rfl) (fun h => HBAD.out (((grpX_of HN.out h a' hlt).2.2.2) y hlty z hltz))
                        subst hrf
                        go_wp2_with fail
                        go_quiet (fail)
                        go_wp2_with fail
                        go_ret
                        exact ⟨rfl, HQJ.out.drewN _⟩
                    · have hzn' : z = n := by omega
                      subst hzn'
                      go_wp2_with fail
                      go_roundw
                      case rel => exact ⟨y + 1, by omega, by go_num, HQJ.out, fun i hi => by
                        by_cases e : i = y
                        · rw [e]; exact HALLJ.out
                        · exact HALLI.out i (by omega)⟩
                      case measure => simp [intOf]; omega
                · have hyn' : y = n := by omega
                  subst hyn'
                  go_wp2_with fail
                  go_roundw
                  case rel => exact ⟨a' + 1, by omega, by go_num, HQI.out, fun i hi => by
                    by_cases e : i = a'
                    · rw [e]; exact ⟨HA.out, HA'.out, HC3.out, HALLI.out⟩
                    · exact HALL.out i (by omega)⟩
                  case measure => simp [intOf]; omega
            · have HC3 := hide c3
              clear c3
              have hrf : r = false := by
                cases r
                · rfl
                · exact absurd (HRC.out.1 rfl) (fun h => HC3.out (grpX_of HN.out h a' hlt).2.2.1)
              subst hrf
              go_wp2_with fail
              refine (prmS_any _ n _ (f.getD a' []) false _ HPX.out.2 (by omega) (HQ.out.rd HPX.out.1) ⟨fun h => (by cases h), fun h => absurd h HC3.out⟩).mono ?_
              rintro e w2 ⟨rfl, hq2⟩
              have HQ2 := hide (HQ.out.trans hq2)
              clear hq2 r1 s1 e1 e2
              go_wp2_with fail
              go_ret
              exact ⟨rfl, HQ2.out⟩
          · have HC2 := hide c2
            have hcz : ¬ (a' : Int) = (a : Int) := by omega
            have hrf : r = false := by
              cases r
              · rfl
              · exact absurd (HRC.out.1 rfl) (fun h => HC2.out (HA'.out.symm.trans (grpX_of HN.out h a hlt).2.1))
            subst hrf
            go_wp2_with fail
            go_ret
            exact ⟨rfl, HQ.out⟩
        · have HC1 := hide c1
          have hcz : ¬ (a : Int) = (x : Int) := by omega
          have hrf : r = false := by
            cases r
            · rfl
            · exact absurd (HRC.out.1 rfl) (fun h => HC1.out (HA.out.symm.trans (grpX_of HN.out h x hlt).1))
          subst hrf
          go_wp2_with fail
          go_ret
          exact ⟨rfl, HQ.out⟩
      · have hxn : x = n := by omega
        subst hxn
        have hrt : r = true := HRC.out.2 (grpX_all HN.out HTB.out HALL.out)
        subst hrt
        go_wp2_with fail
        go_ret
        exact ⟨rfl, HQ.out⟩
  · have HTB := hide ht
    have hrf : r = false := by
      cases r
      · rfl
      · exact absurd (HRC.out.1 rfl).1.1 ht
    subst hrf
    clear hn hbs hr hrc ht
    go_enter Try.func59, Try.ntmps59
    go_wp2_with fail
    refine (l01Table_any _ _ _ f false _ HN.out (by omega) (fun i hi => by have := HBS.out i hi; omega) HRD.out (by simp [HTB.out])).mono ?_
    rintro e w1 ⟨rfl, hq1⟩
    have HQ1 := hide hq1
    clear hq1
    go_wp2_with fail
    go_ret
    exact ⟨rfl, HQ1.out⟩
end Go.Proofs.Ytelildgngkajnaa
