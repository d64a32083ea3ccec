import Derived.Test.YtgmloaemnbnbgaaZao
import Derived.Test.YtgmloaemnbnbgaaZu
import Derived.Test.YtgmloaemnbnbgaaZg
import Derived.Deep.Cut
import Derived.Test.YtgmloaemnbnbgaaZv
import Derived.Test.YtgmloaemnbnbgaaZw
import Derived.Test.YtgmloaemnbnbgaaZx
import Derived.Test.YtgmloaemnbnbgaaZah
import Derived.Test.YtgmloaemnbnbgaaZj
import Derived.Test.YtgmloaemnbnbgaaZt
import Derived.StillTailTactics
import Derived.BigQuiet
namespace Go.Proofs.Ytgmloaemnbnbgaa
open Go Go.RowKit
set_option maxHeartbeats 2000000
theorem st8_func (P : Program) (w : World) (a : Addr) (F : Fn) (rs lb : Array Value) (m : Mode) : (store a (.func F rs lb) m).run P w = stored P w a (.func F rs lb) m := run_store P w a _ m rfl
attribute [local go_sem] st8_func
set_option maxRecDepth 100000 in
theorem retI_any (A : Option Addr) (n c : Nat) (f : List (List Int)) (B : Option Addr) (d : Nat) (s : List (List Int)) (C : Option Addr) (e : Nat) (w : World) (hz : ZArg 1048576 w A n f B n s) (hg : NdS f s) (hs : Rd w C (alC f s)) :
    Calls Try.prog 53 #[.agg #[.slice A n c, .slice B n d], .slice C n e] w fun e w' => ∃ A' c' B' d', e = .returned (.agg #[.slice A' (alN f s) c', .slice B' (alN f s) d']) ∧ Below w.heap.size w w' ∧ ObjZ 26 2 w.heap.size w'.heap.size w' A' (rt1 f s) B' (rt2 f s) := by
  have h1 := (hg.sizes hz.sz.fl).1
  have h12 := (hg.sizes hz.sz.fl).2.1
  have HZ := hide hz
  have HG := hide hg
  have HS := hide hs
  have HCL : Hid ((alC f s).length = n) := hide (by rw [alC_length]; exact hz.sz.fl)
  have hmx := alC_max (s := s) hz.sz.fl h1
  have hml := alN_le (s := s) hz.sz.fl
  have hmp := alN_pos (s := s) hz.sz.fl h1
  have HMX := hide hmx
  obtain ⟨m, hm⟩ : ∃ m, alN f s = m := ⟨_, rfl⟩
  rw [hm] at hml hmp HMX
  have HM := hide hm
  obtain ⟨u, hu⟩ : ∃ u : Int, (m : Int) - 1 = u := ⟨_, rfl⟩
  rw [hu] at HMX
  have hum : u + 1 = (m : Int) := by omega
  have hu0 : 0 ≤ u := by omega
  have hu1 : u ≤ 12 := by omega
  rw [hm]
  clear hz hg hs hmx hm hu
  go_enter Try.func53, Try.ntmps53
  go_upto_region 1 with fail
  refine wp_gen fun w0 hw0 => ?_
  have HB0 : Hid (Below w.heap.size w w0) := hide (by rw [hw0]; exact (((Below.refl _ _).alloc (Nat.le_refl _) _).alloc (by simp) _).alloc (by simp; omega) _)
  have HK0 : Hid (Blk w0 w.heap.size 29 [.slice A n c, .slice B n d]) := hide (by rw [hw0]; exact ((Blk.new _ _ _).alloc _).alloc _)
  have HC0 : Hid (Blk w0 (w.heap.size + 1) 26 [.slice C n e]) := hide (by rw [hw0]; have h := (Blk.new (w.alloc (Obj.cells #[Value.slice A n c, Value.slice B n d] 29)) 26 [.slice C n e]).alloc (Obj.cells #[.slice none 0 0, .slice none 0 0] 29); simpa using h)
  have HR0 : Hid (Blk w0 (w.heap.size + 2) 29 [.slice none 0 0, .slice none 0 0]) := hide (by rw [hw0]; have h := Blk.new ((w.alloc (Obj.cells #[Value.slice A n c, Value.slice B n d] 29)).alloc (Obj.cells #[.slice C n e] 26)) 29 [.slice none 0 0, .slice none 0 0]; simpa using h)
  have Z0 : Hid (w0.heap.size = w.heap.size + 3) := hide (by rw [hw0]; simp)
  clear hw0
  have q0 := (Blk.new w0 87 [.nilFunc]).cell 0 _ rfl
  have q1 := (Blk.new w0 87 [.nilFunc]).frozen 0
  go_upto_region 2 with fail
  refine wp_gen fun w1 hw1 => ?_
  have hb1 : Below w0.heap.size w0 w1 := by rw [hw1]; exact (Below.refl w0.heap.size w0).alloc (Nat.le_refl _) _
  have HB1 := hide (HB0.out.trans (hb1.mono HB0.out.size))
  have HK1 := hide (HK0.out.later hb1)
  have HC1 := hide (HC0.out.later hb1)
  have HR1 := hide (HR0.out.later hb1)
  have HF1 : Hid (Blk w1 w0.heap.size 87 [.func (.func 89) #[] #[.pointer (some ⟨w.heap.size + 1, 0, none⟩)]]) := hide (by rw [hw1]; exact Blk.new w0 _ _)
  clear hw1 hb1 q0 q1 HB0 HK0 HC0 HR0
  have k0 := HC1.out.cell 0 _ rfl
  go_wp2_with fail
  refine (max_any _ n _ (alC f s) u _ HCL.out h1 (by omega) (HS.out.later HB1.out) HMX.out).mono ?_
  rintro e2 w2 ⟨rfl, hb2⟩
  have HB2 := hide (HB1.out.trans (hb2.mono HB1.out.size))
  have HK2 := hide (HK1.out.later hb2)
  have HC2 := hide (HC1.out.later hb2)
  have HR2 := hide (HR1.out.later hb2)
  have HF2 := hide (HF1.out.later hb2)
  have hlt : w.heap.size + 2 < w2.heap.size := HR2.out.lt
  clear hb2 k0 HB1 HK1 HC1 HR1 HF1
  have hpf := rtC_any A n c f B d s C e w.heap.size w0.heap.size (w.heap.size + 1) w2 (HZ.out.later HB2.out) HG.out (HS.out.later HB2.out) HK2.out HF2.out HC2.out
  rw [HM.out] at hpf
  have HPF := hide hpf
  clear hpf
  go_wp2_with fail
  refine (pmo_any 91 _ m _ _ _ (enters_of Try.func91 (by kernel_rfl) rfl) hmp (by omega) HPF.out).mono ?_
  rintro e3 w3 ⟨A3, c3, B3, d3, rfl, hb3, hob3⟩
  have HB3 := hide (HB2.out.trans (hb3.mono HB2.out.size))
  have HR3 := hide (HR2.out.later hb3)
  have HO3 := hide hob3
  have r0 := HR3.out.cell 0 _ rfl
  have r1 := HR3.out.cell 1 _ rfl
  have r2 := HR3.out.frozen 0
  have r3 := HR3.out.frozen 1
  clear hb3 hob3
  go_wp2_with fail
  refine bp_gen fun wf hwf => ?_
  obtain ⟨q0, q1, hbf, hof⟩ := zend (w2 := w2) hwf HR3.out (by omega) hlt HB3.out HB2.out.size HO3.out
  clear hwf r0 r1 r2 r3
  exact bodyPost_ret (v := .agg #[.slice A3 m c3, .slice B3 m d3]) (by simp [results, Try.results53, go_sem, q0, q1]) rfl ⟨_, _, _, _, rfl, hbf, by unfold rt1 rt2; rw [HM.out]; exact hof⟩
end Go.Proofs.Ytgmloaemnbnbgaa
namespace Go.Proofs.Ytgmloaemnbnbgaa
open Go Go.RowKit
open Classical
set_option maxHeartbeats 4000000
/-- The pair of classes has been written to when x and y are next. -/
def Dn9 (f s : List (List Int)) (n x y c d : Nat) : Prop := ∃ a b, a < n ∧ b < n ∧ (a < x ∨ (a = x ∧ b < y)) ∧ cl8 f s a = c ∧ cl8 f s b = d
noncomputable def rtTo (f s : List (List Int)) (n x y : Nat) (h : Nat → Nat → Nat) : Nat → Nat → Int := fun c d => if Dn9 f s n x y c d then ((h c d : Nat) : Int) else 0
theorem rtTo_zero (f s : List (List Int)) (n : Nat) (h : Nat → Nat → Nat) (c d : Nat) : (0 : Int) = rtTo f s n 0 0 h c d := by
  unfold rtTo
  rw [if_neg]
  rintro ⟨a, b, _, _, h1, _⟩
  omega
theorem rtTo_row (f s : List (List Int)) (n x : Nat) (h : Nat → Nat → Nat) (c d : Nat) : rtTo f s n x n h c d = rtTo f s n (x + 1) 0 h c d := by
  have e : Dn9 f s n x n c d ↔ Dn9 f s n (x + 1) 0 c d := by
    constructor
    · rintro ⟨a, b, h1, h2, h3, h4⟩; exact ⟨a, b, h1, h2, by omega, h4⟩
    · rintro ⟨a, b, h1, h2, h3, h4⟩; exact ⟨a, b, h1, h2, by omega, h4⟩
  unfold rtTo
  simp only [e]
theorem rtTo_next {f s : List (List Int)} {n x y u v : Nat} (hx : x < n) (hy : y < n) (hu : cl8 f s x = u) (hv : cl8 f s y = v) (h : Nat → Nat → Nat) {z : Nat} (hz : h u v = z) (c d : Nat) : (if c = u ∧ d = v then (z : Int) else rtTo f s n x y h c d) = rtTo f s n x (y + 1) h c d := by
  have e : Dn9 f s n x (y + 1) c d ↔ (c = u ∧ d = v) ∨ Dn9 f s n x y c d := by
    constructor
    · rintro ⟨a, b, h1, h2, h3, h4, h5⟩
      by_cases e2 : a = x ∧ b = y
      · obtain ⟨rfl, rfl⟩ := e2
        exact .inl ⟨by omega, by omega⟩
      · exact .inr ⟨a, b, h1, h2, by omega, h4, h5⟩
    · rintro (⟨rfl, rfl⟩ | ⟨a, b, h1, h2, h3, h4⟩)
      · exact ⟨x, y, hx, hy, by omega, hu, hv⟩
      · exact ⟨a, b, h1, h2, by omega, h4⟩
  unfold rtTo
  by_cases h1 : c = u ∧ d = v
  · rw [if_pos h1, if_pos (e.2 (.inl h1)), h1.1, h1.2, hz]
  · rw [if_neg h1]
    by_cases h2 : Dn9 f s n x y c d
    · rw [if_pos h2, if_pos (e.2 (.inr h2))]
    · rw [if_neg h2, if_neg (fun h3 => (e.1 h3).elim h1 h2)]
theorem rtTo_all {f s : List (List Int)} {n : Nat} (hn : f.length = n) (h : Nat → Nat → Nat) (c d : Nat) (hc : c < alN f s) (hd : d < alN f s) : rtTo f s n n 0 h c d = ((h c d : Nat) : Int) := by
  obtain ⟨a, ha, e1⟩ := cl8_onto hn hc
  obtain ⟨b, hb, e2⟩ := cl8_onto hn hd
  unfold rtTo
  rw [if_pos ⟨a, b, ha, hb, .inl ha, e1, e2⟩]
theorem Duo.drew {ts t : TypeId} {lo n g1 g2 : Nat} {w : World} {G1 G2 : Nat → Nat} {f1 f2 : Nat → Nat → Int} (h : Duo ts t lo w n g1 G1 f1 g2 G2 f2) : Duo ts t lo w.drew n g1 G1 f1 g2 G2 f2 := h.later (Below.refl _ _).drew
def RtPost (m : Nat) (zf zg : List (List Int)) (w : World) (e : Ending) (w' : World) : Prop := ∃ A c B d, e = .returned (.agg #[.slice A m c, .slice B m d]) ∧ Below w.heap.size w w' ∧ ObjW 26 2 w.heap.size w'.heap.size w' A zf B zg
set_option maxRecDepth 100000 in
theorem retS_any (A : Option Addr) (n c : Nat) (f : List (List Int)) (B : Option Addr) (d : Nat) (s : List (List Int)) (w : World) (hz : ZArg 1048576 w A n f B n s) (hg : NdS f s) :
    Calls Try.prog 52 #[.agg #[.slice A n c, .slice B n d]] w (RtPost (alN f s) (rt1 f s) (rt2 f s) w) := by
  have h1 := (hg.sizes hz.sz.fl).1
  have h12 := (hg.sizes hz.sz.fl).2.1
  have HZ := hide hz
  have HG := hide hg
  have HFL := hide hz.sz.fl
  have hml := alN_le (s := s) hz.sz.fl
  have hmp := alN_pos (s := s) hz.sz.fl h1
  have HGR := hide (alC_great (s := s) hz.sz.fl h1)
  have HLM : Hid (∀ x, x < n → cl8 f s x < alN f s) := hide fun x hx => cl8_lt hz.sz.fl hx
  have HCL : Hid ((alC f s).length = n) := hide (by rw [alC_length]; exact hz.sz.fl)
  obtain ⟨m, hm⟩ : ∃ m, alN f s = m := ⟨_, rfl⟩
  rw [hm] at hml hmp HGR HLM
  have HM := hide hm
  rw [hm]
  clear hz hg hm
  go_enter Try.func52, Try.ntmps52
  go_upto_region 1 with fail
  refine wp_gen fun w0 hw0 => ?_
  have HB0 : Hid (Below w.heap.size w w0) := hide (by rw [hw0]; exact ((Below.refl _ _).alloc (Nat.le_refl _) _).alloc (by simp) _)
  have HK0 : Hid (Blk w0 w.heap.size 29 [.slice A n c, .slice B n d]) := hide (by rw [hw0]; exact (Blk.new _ _ _).alloc _)
  have HR0 : Hid (Blk w0 (w.heap.size + 1) 29 [.slice none 0 0, .slice none 0 0]) := hide (by rw [hw0]; have h := Blk.new (w.alloc (Obj.cells #[Value.slice A n c, Value.slice B n d] 29)) 29 [.slice none 0 0, .slice none 0 0]; simpa using h)
  clear hw0
  have k0 := HK0.out.cell 0 _ rfl
  have k1 := HK0.out.cell 1 _ rfl
  go_wp2_with fail
  refine (alikeS_any _ _ _ f _ _ s _ (HZ.out.later HB0.out) HG.out).mono ?_
  rintro e w1 ⟨A1, c1, rfl, hb1, hres⟩
  have HB1 := hide (HB0.out.trans (hb1.mono HB0.out.size))
  have HK1 := hide (HK0.out.later hb1)
  have HR1 := hide (HR0.out.later hb1)
  obtain ⟨b3, o3, hA3, hbw3, hc3⟩ := hres.rd (by rw [HCL.out]; omega)
  subst hA3
  have HRD := hide hres.rd
  have HC3 : Hid (∀ x, x < n → w1.cell? ⟨b3, o3 + x, none⟩ = some (.int .i64 ((cl8 f s x : Nat) : Int))) := hide fun x hx => by
    have h := hc3 x (by rw [HCL.out]; exact hx)
    rw [alC_at HFL.out hx] at h
    exact h
  clear hb1 hres hc3 k0 k1 HB0 HK0 HR0
  go_wp2_with fail
  refine (greatest_any _ _ _ (alC f s) (m : Int) _ HCL.out (by omega) HRD.out (alC_12 HFL.out h1 h12) HGR.out).mono ?_
  rintro e w2 ⟨rfl, hq2⟩
  have HQ2 := hide (hq2.below w1.heap.size)
  clear hq2
  go_wp2_with fail
  refine (emptyS_any m _ hmp (by omega)).mono ?_
  unfold EmPost
  rintro e w3 ⟨g1, d1, g2, d2, G1, G2, rfl, hb3, hd⟩
  have HB3 := hide (HQ2.out.trans (hb3.mono HQ2.out.size))
  have HD3 := hide hd
  have hlo : w1.heap.size ≤ w2.heap.size := HQ2.out.size
  have hlb : w.heap.size + 1 < w1.heap.size := HR1.out.lt
  clear hb3 hd
  go_wp2_with fail
  refine wp_gen fun w4 hw4 => ?_
  have hb4 : Below w3.heap.size w3 w4 := by rw [hw4]; exact (Below.refl _ _).alloc (Nat.le_refl _) _
  have hle3 : w1.heap.size ≤ w3.heap.size := HB3.out.size
  have hG1 : ∀ i, i < m → G1 i < w3.heap.size := fun i hi => (HD3.out.t1.row i hi).lt
  have hG2 : ∀ i, i < m → G2 i < w3.heap.size := fun i hi => (HD3.out.t2.row i hi).lt
  have HG1 := hide hG1
  have HG2 := hide hG2
  have HO4 : Hid (Blk w4 w3.heap.size 29 [.slice (some ⟨g1, 0, none⟩) m d1, .slice (some ⟨g2, 0, none⟩) m d2]) := hide (by rw [hw4]; exact Blk.new _ _ _)
  have HB4 := hide (HB3.out.trans (hb4.mono HB3.out.size))
  have HD4 := hide ((HD3.out.later hb4).congr (fun a b _ _ => rtTo_zero f s n (rtA f s) a b) (fun a b _ _ => rtTo_zero f s n (rtB f s) a b))
  clear hw4 hb4 hG1 hG2 HD3 HB3 HQ2
  go_loopw [5] (fun i wr => ∃ x : Nat, x ≤ n ∧ i = .int .i64 x ∧ Below w1.heap.size w1 wr ∧ Blk wr w3.heap.size 29 [.slice (some ⟨g1, 0, none⟩) m d1, .slice (some ⟨g2, 0, none⟩) m d2] ∧ Duo 26 2 w2.heap.size wr m g1 G1 (rtTo f s n x 0 (rtA f s)) g2 G2 (rtTo f s n x 0 (rtB f s))) (fun i _ => n - (intOf i).toNat)
  case atStart => exact ⟨0, Nat.zero_le _, rfl, HB4.out, HO4.out, HD4.out⟩
  case round =>
    clear HB4 HO4 HD4
    obtain ⟨x, hx, rfl, hbe, hoo, hdd⟩ := hrel
    have HB := hide hbe
    have HO := hide hoo
    have HD := hide hdd
    clear hbe hoo hdd
    by_cases hlt : x < n
    · have hxz : (x : Int) < n := by omega
      have hul := HLM.out x hlt
      have hcu := (HB.out.cell (p := ⟨b3, o3 + x, none⟩) hbw3).trans (HC3.out x hlt)
      obtain ⟨u, hue⟩ : ∃ u, cl8 f s x = u := ⟨_, rfl⟩
      rw [hue] at hul hcu
      have HU := hide hue
      have huz : (u : Int) < m := by omega
      obtain ⟨C1, r1⟩ := HD.out.t1.top
      obtain ⟨C2, r2⟩ := HD.out.t2.top
      have c1' := r1.cell hul
      have c2' := r2.cell hul
      have k2 := HO.out.cell 0 _ rfl
      have k3 := HO.out.cell 1 _ rfl
      clear hue r1 r2
      go_wp2_with fail
      go_quiet (fail)
      go_wp2_with fail
      clear c1' c2' k2 k3 hcu
      obtain ⟨w5, hw5⟩ : ∃ w5, wr.drewN nq = w5 := ⟨_, rfl⟩
      have hW : Below wr.heap.size wr w5 := by rw [← hw5]; exact (Quiet.of wr nq).below _
      have HB5 := hide (HB.out.trans (hW.mono HB.out.size))
      have HO5 := hide (HO.out.later hW)
      have HD5 := hide (HD.out.later hW)
      rw [hw5]
      clear hw5 hW HB HO HD
      go_loopw [8] (fun i wi => ∃ y : Nat, y ≤ n ∧ i = .int .i64 y ∧ Below w1.heap.size w1 wi ∧ Blk wi w3.heap.size 29 [.slice (some ⟨g1, 0, none⟩) m d1, .slice (some ⟨g2, 0, none⟩) m d2] ∧ Duo 26 2 w2.heap.size wi m g1 G1 (rtTo f s n x y (rtA f s)) g2 G2 (rtTo f s n x y (rtB f s))) (fun i _ => n - (intOf i).toNat)
      case atStart => exact ⟨0, Nat.zero_le _, rfl, HB5.out, HO5.out, HD5.out⟩
      case round =>
        clear HB5 HO5 HD5
        obtain ⟨y, hy, rfl, hbi, hoi, hdi⟩ := hrel
        have HBI := hide hbi
        have HOI := hide hoi
        have HDI := hide hdi
        clear hbi hoi hdi
        by_cases hlty : y < n
        · have hyz : (y : Int) < n := by omega
          obtain ⟨b, o, b2, o2, bx, ox, cx, by', oy, cy, rfl, rfl, q1, q2, q3, q4, l1, l2, l3, l4⟩ := HZ.out.reads HG.out.map hlt hlty
          have hpl := HG.out.lt1 HFL.out hlt hlty
          have hql := HG.out.lt2 HFL.out hlt hlty
          have eA := rtA_cl HG.out HFL.out hlt hlty
          have eB := rtB_cl HG.out HFL.out hlt hlty
          have hvl := HLM.out y hlty
          have hcv := HC3.out y hlty
          rw [HU.out] at eA eB
          obtain ⟨v, hve⟩ : ∃ v, cl8 f s y = v := ⟨_, rfl⟩
          rw [hve] at hvl hcv eA eB
          have HV := hide hve
          obtain ⟨p, hpe⟩ : ∃ p, ap f x y = p := ⟨_, rfl⟩
          obtain ⟨q, hqe⟩ : ∃ q, ap s x y = q := ⟨_, rfl⟩
          rw [hpe] at hpl eA q3
          rw [hqe] at hql eB q4
          have hcp := HC3.out p hpl
          have hcq := HC3.out q hql
          obtain ⟨z1, hz1⟩ : ∃ z, cl8 f s p = z := ⟨_, rfl⟩
          obtain ⟨z2, hz2⟩ : ∃ z, cl8 f s q = z := ⟨_, rfl⟩
          rw [hz1] at hcp eA
          rw [hz2] at hcq eB
          have EA := hide eA
          have EB := hide eB
          have hvz : (v : Int) < m := by omega
          have hpz : (p : Int) < n := by omega
          have hqz : (q : Int) < n := by omega
          have HBW := hide (HB1.out.trans (HBI.out.mono HB1.out.size))
          have HKI := hide (HK1.out.later HBI.out)
          have HCV : Hid (∀ W, Below w1.heap.size w1 W → W.cell? ⟨b3, o3 + y, none⟩ = some (.int .i64 v) ∧ W.cell? ⟨b3, o3 + p, none⟩ = some (.int .i64 z1) ∧ W.cell? ⟨b3, o3 + q, none⟩ = some (.int .i64 z2)) := hide fun W hb => ⟨(hb.cell (p := ⟨b3, o3 + y, none⟩) hbw3).trans hcv, (hb.cell (p := ⟨b3, o3 + p, none⟩) hbw3).trans hcp, (hb.cell (p := ⟨b3, o3 + q, none⟩) hbw3).trans hcq⟩
          have HCS : Hid (∀ W, Below w.heap.size w W → W.cell? ⟨b, o + x, none⟩ = some (.slice (some ⟨bx, ox, none⟩) n cx) ∧ W.cell? ⟨b2, o2 + x, none⟩ = some (.slice (some ⟨by', oy, none⟩) n cy) ∧ W.cell? ⟨bx, ox + y, none⟩ = some (.int .i64 p) ∧ W.cell? ⟨by', oy + y, none⟩ = some (.int .i64 q)) := hide fun W hb => ⟨(hb.cell (p := ⟨b, o + x, none⟩) l1).trans q1, (hb.cell (p := ⟨b2, o2 + x, none⟩) l2).trans q2, (hb.cell (p := ⟨bx, ox + y, none⟩) l3).trans q3, (hb.cell (p := ⟨by', oy + y, none⟩) l4).trans q4⟩
          clear hve hpe hqe hz1 hz2 eA eB hcv hcp hcq q1 q2 q3 q4 l1 l2 l3 l4
          obtain ⟨a1, a2, a3⟩ := HCV.out _ HBI.out
          obtain ⟨s1, s2, s3, s4⟩ := HCS.out _ HBW.out
          have k0 := HKI.out.cell 0 _ rfl
          have k1 := HKI.out.cell 1 _ rfl
          have j1 := (HDI.out.t1.row u hul).cell hvl
          have j2 := (HDI.out.t1.row u hul).frozen v
          have lG1 := HDI.out.l1.2 u hul
          have lG2 := HDI.out.l2.2 u hul
          go_wp2_with fail
          go_still_tail 16, (by kernel_rfl)
          change wpList _ _ _ _ _ wr.drew
          go_wp2_with fail
          refine wp_gen fun w6 hw6 => ?_
          clear a1 a2 a3 s1 s2 s3 s4 k0 k1 j1 j2
          have HB6 : Hid (Below w1.heap.size w1 w6) := hide (by rw [hw6]; first | exact (HBI.out.setCell (p := ⟨G1 u, v, none⟩) (by show w1.heap.size ≤ G1 u; omega) _).drew | exact HBI.out.drew.setCell (p := ⟨G1 u, v, none⟩) (by show w1.heap.size ≤ G1 u; omega) _)
          have hg1 := HG1.out u hul
          have hg2 := HG2.out u hul
          have HO6 : Hid (Blk w6 w3.heap.size 29 [.slice (some ⟨g1, 0, none⟩) m d1, .slice (some ⟨g2, 0, none⟩) m d2]) := hide (by rw [hw6]; exact HOI.out.far (p := ⟨G1 u, v, none⟩) (by show w3.heap.size ≠ G1 u; omega) _)
          have HD6 : Hid (Duo 26 2 w2.heap.size w6 m g1 G1 (fun a b => if a = u ∧ b = v then (z1 : Int) else rtTo f s n x y (rtA f s) a b) g2 G2 (rtTo f s n x y (rtB f s))) := hide (by rw [hw6]; exact (HDI.out.set1 u v (z1 : Int) hul).drew)
          clear hw6 HBI HOI HDI HBW HKI
          have HBW := hide (HB1.out.trans (HB6.out.mono HB1.out.size))
          have HKI := hide (HK1.out.later HB6.out)
          obtain ⟨a1, a2, a3⟩ := HCV.out _ HB6.out
          obtain ⟨s1, s2, s3, s4⟩ := HCS.out _ HBW.out
          have k0 := HKI.out.cell 0 _ rfl
          have k1 := HKI.out.cell 1 _ rfl
          have j1 := (HD6.out.t2.row u hul).cell hvl
          have j2 := (HD6.out.t2.row u hul).frozen v
          go_wp2_with fail
          go_still_tail 16, (by kernel_rfl)
          change wpList _ _ _ _ _ w6.drew
          go_wp2_with fail
          clear a1 a2 a3 s1 s2 s3 s4 k0 k1 j1 j2
          go_roundw
          case rel =>
            refine ⟨y + 1, by omega, by go_num, ?_, ?_, ?_⟩
            · first | exact (HB6.out.setCell (p := ⟨G2 u, v, none⟩) (by show w1.heap.size ≤ G2 u; omega) _).drew | exact HB6.out.drew.setCell (p := ⟨G2 u, v, none⟩) (by show w1.heap.size ≤ G2 u; omega) _
            · exact HO6.out.far (p := ⟨G2 u, v, none⟩) (by show w3.heap.size ≠ G2 u; omega) _
            · have hd : Duo 26 2 w2.heap.size _ m g1 G1 _ g2 G2 _ := (HD6.out.set2 u v (z2 : Int) hul).drew
              exact hd.congr (fun a b _ _ => rtTo_next hlt hlty HU.out HV.out (rtA f s) EA.out a b) (fun a b _ _ => rtTo_next hlt hlty HU.out HV.out (rtB f s) EB.out a b)
          case measure => simp [intOf]; omega
        · have hyn : y = n := by omega
          subst hyn
          go_wp2_with fail
          go_roundw
          case rel => exact ⟨x + 1, by omega, by go_num, HBI.out, HOI.out, HDI.out.congr (fun a b _ _ => rtTo_row f s y x (rtA f s) a b) (fun a b _ _ => rtTo_row f s y x (rtB f s) a b)⟩
          case measure => simp [intOf]; omega
    · have hxn : x = n := by omega
      subst hxn
      have HR := hide (HR1.out.later HB.out)
      have HBW := hide (HB1.out.trans (HB.out.mono HB1.out.size))
      have k0 := HO.out.cell 0 _ rfl
      have k1 := HO.out.cell 1 _ rfl
      have k2 := HR.out.cell 0 _ rfl
      have k3 := HR.out.cell 1 _ rfl
      have k4 := HR.out.frozen 0
      have k5 := HR.out.frozen 1
      go_wp2_with fail
      refine bp_gen fun wf hwf => ?_
      have HDF := HD.out.congr (fun a b ha hb => rtTo_all HFL.out (rtA f s) a b (by rw [HM.out]; exact ha) (by rw [HM.out]; exact hb)) (fun a b ha hb => rtTo_all HFL.out (rtB f s) a b (by rw [HM.out]; exact ha) (by rw [HM.out]; exact hb))
      obtain ⟨q0, q1, hbf, hof⟩ := wend (w2 := w2) hwf HR.out (by omega) (by omega) HBW.out (by omega) (HDF.objW (Nat.le_refl _))
      clear hwf k0 k1 k2 k3 k4 k5
      exact bodyPost_ret (v := .agg #[.slice (some ⟨g1, 0, none⟩) m d1, .slice (some ⟨g2, 0, none⟩) m d2]) (by simp [results, Try.results52, go_sem, q0, q1]) rfl (by unfold RtPost; exact ⟨_, _, _, _, rfl, hbf, by unfold rt1 rt2; rw [HM.out]; exact hof⟩)
end Go.Proofs.Ytgmloaemnbnbgaa
