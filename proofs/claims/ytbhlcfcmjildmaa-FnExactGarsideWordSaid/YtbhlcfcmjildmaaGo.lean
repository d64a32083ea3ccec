import Derived.Test.YtbhlcfcmjildmaaGn
import Derived.Test.YtbhlcfcmjildmaaGj
import Derived.Test.YtbhlcfcmjildmaaGf
import Derived.Test.YtbhlcfcmjildmaaGe
import Derived.Deep.Cut
import Derived.Deep.DeepCutAuto
import Derived.Deep.RegionHeld3
import Derived.Test.YtbhlcfcmjildmaaGc
import Derived.Maps.RangeWalk
namespace Go.Proofs.Ytbhlcfcmjildmaa
open Go Go.RowKit
open Classical
set_option maxHeartbeats 8000000

set_option maxRecDepth 100000 in
theorem orbitOf_any (A : Option Addr) (n c : Nat) (f : List (List Int)) (B : Option Addr) (d : Nat) (s : List (List Int)) (x : List Int) (m limit : Nat) (w : World) (hz : ZArg 1048576 w A n f B n s) (hs : SolF f s) (ht : Tup n x) (hm : x.length = m) (hl1 : 1 ≤ limit) (hl : limit ≤ 5000) :
    Calls Try.prog 70 #[.agg #[.slice A n c, .slice B n d], tkey x, .int .i64 m, .int .i64 limit] w fun e w' => (∃ L bm, Cls (leH f) (leH s) x L ∧ L.length ≤ limit ∧ e = .returned (.tuple #[.map (some bm), .bool true]) ∧ Below w.heap.size w w' ∧ w.heap.size ≤ bm ∧ MetN w' bm L) ∨ (¬ FewT (leH f) (leH s) x limit ∧ e = .returned (.tuple #[.map none, .bool false]) ∧ Below w.heap.size w w') := by
  have HZ := hide hz
  have HP : Hid (PMap f s) := hide hs.1
  have HPB := hide (hs.pb hz.sz.fl)
  have h12 := (hz.small hs.1).2
  have HT := hide ht
  have HM := hide hm
  have hm12 : m ≤ 12 := by rw [← hm]; exact ht.1
  obtain ⟨i0, hi, hz0, hz1, hz2⟩ := info_parts tqInfo
  have hmm := @run_makeMap Try.prog
  have hxl := pad12_length ht.1
  obtain ⟨xp, hxp⟩ : ∃ xp, pad12 x = xp := ⟨_, rfl⟩
  rw [hxp] at hxl
  obtain ⟨b0, b1, b2, b3, b4, b5, b6, b7, b8, b9, b10, b11, rfl⟩ := list12 hxl
  have HXP := hide hxp
  have hkx : tkey x = .agg #[.int .i64 b0, .int .i64 b1, .int .i64 b2, .int .i64 b3, .int .i64 b4, .int .i64 b5, .int .i64 b6, .int .i64 b7, .int .i64 b8, .int .i64 b9, .int .i64 b10, .int .i64 b11] := by unfold tkey; rw [hxp]; rfl
  have HKX := hide hkx
  rw [hkx]
  clear hz hs ht hm hxl hxp hkx
  go_enter Try.func70, Try.ntmps70
  go_upto_region 1 with fail
  refine wp_gen fun w0 hw0 => ?_
  have HB0 : Hid (Below w.heap.size w w0) := hide (by rw [hw0]; exact ((Below.refl _ _).alloc (Nat.le_refl _) _).alloc (by simp) _)
  have HK0 : Hid (Blk w0 w.heap.size 29 [.slice A n c, .slice B n d]) := hide (by rw [hw0]; exact (Blk.new w _ _).alloc _)
  have HX0 : Hid (Blk w0 (w.heap.size + 1) 61 [.int .i64 b0, .int .i64 b1, .int .i64 b2, .int .i64 b3, .int .i64 b4, .int .i64 b5, .int .i64 b6, .int .i64 b7, .int .i64 b8, .int .i64 b9, .int .i64 b10, .int .i64 b11]) := hide (by rw [hw0]; have h := Blk.new (w.alloc (Obj.cells #[Value.slice A n c, Value.slice B n d] 29)) 61 [.int .i64 b0, .int .i64 b1, .int .i64 b2, .int .i64 b3, .int .i64 b4, .int .i64 b5, .int .i64 b6, .int .i64 b7, .int .i64 b8, .int .i64 b9, .int .i64 b10, .int .i64 b11]; simpa using h)
  clear hw0
  obtain ⟨bm, hbm⟩ : ∃ bm, w0.heap.size = bm := ⟨_, rfl⟩
  have hbw : w.heap.size + 2 ≤ bm := by rw [← hbm]; have := HX0.out.lt; omega
  obtain ⟨kl, hkl⟩ := tkey_ex (HT.out.sm h12)
  obtain ⟨w1, hup, hm1, hg1⟩ := MapN.add tk_keyed (MapN.made 61 w0) Try.underlying62 (z := .bool false) (by kernel_rfl) (by unfold maxLen; omega) hkl rfl (.bool true)
  rw [HKX.out] at hup
  have hba : Below w0.heap.size w0 (w0.alloc (.map #[] 0)) := (Below.refl _ _).alloc (Nat.le_refl _) _
  have hb1 : Below w.heap.size w w1 := (HB0.out.trans (hba.mono HB0.out.size)).grown hg1 (by simp; omega) (fun g hg => by injection hg with hg; omega)
  have kx0 := (HX0.out.later hba)

  have kx0' := kx0.cell 0 _ rfl
  have kx1' := kx0.cell 1 _ rfl
  have kx2' := kx0.cell 2 _ rfl
  have kx3' := kx0.cell 3 _ rfl
  have kx4' := kx0.cell 4 _ rfl
  have kx5' := kx0.cell 5 _ rfl
  have kx6' := kx0.cell 6 _ rfl
  have kx7' := kx0.cell 7 _ rfl
  have kx8' := kx0.cell 8 _ rfl
  have kx9' := kx0.cell 9 _ rfl
  have kx10' := kx0.cell 10 _ rfl
  have kx11' := kx0.cell 11 _ rfl
  rw [hbm] at hup hm1 hg1 hba
  have kx1 := kx0.grown hg1 (by intro e; injection e with e; omega)
  have ky0 := kx1.cell 0 _ rfl
  have ky1 := kx1.cell 1 _ rfl
  have ky2 := kx1.cell 2 _ rfl
  have ky3 := kx1.cell 3 _ rfl
  have ky4 := kx1.cell 4 _ rfl
  have ky5 := kx1.cell 5 _ rfl
  have ky6 := kx1.cell 6 _ rfl
  have ky7 := kx1.cell 7 _ rfl
  have ky8 := kx1.cell 8 _ rfl
  have ky9 := kx1.cell 9 _ rfl
  have ky10 := kx1.cell 10 _ rfl
  have ky11 := kx1.cell 11 _ rfl
  go_upto_region 3 with fail
  refine wp_gen fun w2 hw2 => ?_
  have HB2 : Hid (Below w.heap.size w w2) := hide (by rw [hw2]; exact hb1.alloc hb1.size _)
  have hal2 : Below w1.heap.size w1 w2 := by rw [hw2]; exact (Below.refl _ _).alloc (Nat.le_refl _) _
  have HK2 : Hid (Blk w2 w.heap.size 29 [.slice A n c, .slice B n d]) := hide (((HK0.out.later (by rw [hbm]; exact hba)).grown hg1 (by intro e; injection e with e; omega)).later hal2)
  have HM2 : Hid (MetN w2 bm [x]) := hide ((hm1.congr (fun k => by
    have h := metV_add [] x k
    rw [List.nil_append] at h
    rw [← h]
    by_cases e : k = tkey x
    · rw [if_pos e, if_pos e]
    · rw [if_neg e, if_neg e]; exact congrFun metV_nil k)).later hal2)
  have hs1 : bm + 1 ≤ w1.heap.size := by have := hg1.size; simp at this; omega
  have HT2 : Hid (TupS w2 (bm + 1) (.slice (some ⟨w1.heap.size, 0, none⟩) 1 1) [x]) := hide (by
    rw [hw2]
    refine ⟨tcells_length (fun t ht => by simp at ht; subst ht; exact HT.out.1), .inr ⟨w1.heap.size, 1, _, rfl, by omega, heap_alloc_new _ _, Nat.le_refl _, by unfold maxLen; omega, rfl, ?_⟩⟩
    simp [tcells, HXP.out, ints])
  clear hw2 hup hb1 hba hg1 hm1 hal2 HK0 HX0 HB0 hkl hbm kx0 kx1
  clear kx0' kx1' kx2' kx3' kx4' kx5' kx6' kx7' kx8' kx9' kx10' kx11' ky0 ky1 ky2 ky3 ky4 ky5 ky6 ky7 ky8 ky9 ky10 ky11
  go_loopw [11] (fun v wr => ∃ found todo, Stk0 (leH f) (leH s) x found todo ∧ found.length ≤ limit ∧ Below w.heap.size w wr ∧ Blk wr w.heap.size 29 [.slice A n c, .slice B n d] ∧ TupS wr (bm + 1) v todo ∧ MetN wr bm found) (fun v wr => 2 * (limit - mLen wr bm) + lenV v)
  case atStart => exact ⟨[x], [x], Stk0.begin x, by simpa using hl1, HB2.out, HK2.out, HT2.out, HM2.out⟩
  case round =>
    obtain ⟨found, todo, hst, hfl, hbe, hk, hto, hme⟩ := hrel
    clear HB2 HK2 HT2 HM2
    have HS := hide hst
    have HB := hide hbe
    have HK := hide hk
    have HME := hide hme
    clear hst hbe hk hme
    rcases List.eq_nil_or_concat todo with rfl | ⟨todo2, t, rfl⟩
    · obtain ⟨A0, c0, rfl⟩ := hto.nil
      have HFI := hide HS.out.fin
      clear hto
      go_wp2_with fail
      go_ret2
      exact .inl ⟨found, bm, HFI.out, hfl, rfl, HB.out, by omega, HME.out⟩
    · rw [List.concat_eq_append] at HS hto
      have htin : t ∈ found := HS.out.sub t (by simp)
      have htr := HS.out.rch t htin
      have htt : Tup n t := htr.tup HPB.out HT.out
      have htl : t.length = m := by rw [htr.len]; exact HM.out
      have HSB : Hid (∀ y, y ∈ todo2 ++ [t] → y.length ≤ 12) := hide (fun y hy => by rw [(HS.out.rch y (HS.out.sub y hy)).len, HM.out]; exact hm12)
      have hHS2 := HS.out.take
      obtain ⟨g, cg, hv, hle, hcm, hgb, hgl, hcl⟩ := hto.at HSB.out (i := todo2.length) (by simp)
      obtain ⟨g', cg', hv', hfront⟩ := hto.front (fun y hy => HSB.out y (by simp [hy]))
      rw [hv] at hv'
      injection hv' with e1 e2 e3
      injection e1 with e1
      injection e1 with e1
      subst e1
      subst e3
      subst hv
      rw [show (todo2 ++ [t]).getD todo2.length [] = t by simp] at hcl
      have htp := pad12_length htt.1
      obtain ⟨tp, htpe⟩ : ∃ tp, pad12 t = tp := ⟨_, rfl⟩
      rw [htpe] at htp hcl
      obtain ⟨t0, t1, t2, t3, t4, t5, t6, t7, t8, t9, t10, t11, rfl⟩ := list12 htp
      have HTP := hide htpe
      obtain ⟨q, hq⟩ : ∃ q, todo2.length = q := ⟨_, rfl⟩
      have hll : (todo2 ++ [t]).length = q + 1 := by simp [hq]
      rw [hll] at hle ⊢
      rw [hq] at hcl hfront
      have HQ := hide hq
      have HS2 := hide hHS2
      have HFR := hide hfront
      have HTT := hide htt
      have HTL := hide htl
      have hqf := HS.out.few
      rw [hll] at hqf
      have hq5 : q + 1 ≤ 5000 := by omega
      have hqw : IntKind.i64.wrap (((q + 1 : Nat) : Int) - 1) = (q : Int) := by rw [show ((q + 1 : Nat) : Int) - 1 = (q : Int) by omega]; exact IntWalk.i64_in _ (by omega)
      have kc0 : wr.cell? ⟨g, q * 12 + 0, none⟩ = some (.int .i64 t0) := hcl 0 (by omega)
      have kc1 : wr.cell? ⟨g, q * 12 + 1, none⟩ = some (.int .i64 t1) := hcl 1 (by omega)
      have kc2 : wr.cell? ⟨g, q * 12 + 2, none⟩ = some (.int .i64 t2) := hcl 2 (by omega)
      have kc3 : wr.cell? ⟨g, q * 12 + 3, none⟩ = some (.int .i64 t3) := hcl 3 (by omega)
      have kc4 : wr.cell? ⟨g, q * 12 + 4, none⟩ = some (.int .i64 t4) := hcl 4 (by omega)
      have kc5 : wr.cell? ⟨g, q * 12 + 5, none⟩ = some (.int .i64 t5) := hcl 5 (by omega)
      have kc6 : wr.cell? ⟨g, q * 12 + 6, none⟩ = some (.int .i64 t6) := hcl 6 (by omega)
      have kc7 : wr.cell? ⟨g, q * 12 + 7, none⟩ = some (.int .i64 t7) := hcl 7 (by omega)
      have kc8 : wr.cell? ⟨g, q * 12 + 8, none⟩ = some (.int .i64 t8) := hcl 8 (by omega)
      have kc9 : wr.cell? ⟨g, q * 12 + 9, none⟩ = some (.int .i64 t9) := hcl 9 (by omega)
      have kc10 : wr.cell? ⟨g, q * 12 + 10, none⟩ = some (.int .i64 t10) := hcl 10 (by omega)
      have kc11 : wr.cell? ⟨g, q * 12 + 11, none⟩ = some (.int .i64 t11) := hcl 11 (by omega)
      rw [Nat.add_zero] at kc0
      clear hto htr htt htl hHS2 hfront htp htpe hq hll HS htin e2 hcl hqf
      go_upto_region 5 with fail
      refine wp_gen fun wa hwa => ?_
      obtain ⟨tb, htb⟩ : ∃ tb, wr.heap.size = tb := ⟨_, rfl⟩
      have hba : Below wr.heap.size wr wa := by rw [hwa]; exact (Below.refl _ _).alloc (Nat.le_refl _) _
      have HTB : Hid (Blk wa tb 61 [.int .i64 t0, .int .i64 t1, .int .i64 t2, .int .i64 t3, .int .i64 t4, .int .i64 t5, .int .i64 t6, .int .i64 t7, .int .i64 t8, .int .i64 t9, .int .i64 t10, .int .i64 t11]) := hide (by rw [hwa, ← htb]; exact Blk.new _ _ _)
      have HBa := hide (HB.out.trans (hba.mono HB.out.size))
      have HKa := hide (HK.out.later hba)
      have HMa := hide (HME.out.later hba)
      have HMo : Hid (mLen wr bm = found.length) := hide HME.out.len
      have HFa := hide (HFR.out.later hba)
      have hbt : bm < tb := by rw [← htb]; exact HME.out.lt
      have hgt : g < tb := by omega
      rw [htb]
      clear hwa hba HB HK HME HFR htb
      clear kc0 kc1 kc2 kc3 kc4 kc5 kc6 kc7 kc8 kc9 kc10 kc11
      go_wp2_with fail
      obtain ⟨wo, rfl⟩ : ∃ wo : World, wo = wr := ⟨_, rfl⟩
      go_loopw [11, 36] (fun v i wr => ∃ (k : Nat) (found todo : List (List Int)), k ≤ m - 1 ∧ i = .int .i64 k ∧ Stk (leH f) (leH s) x found todo t k ∧ found.length ≤ limit ∧ Below w.heap.size w wr ∧ Blk wr w.heap.size 29 [.slice A n c, .slice B n d] ∧ Blk wr tb 61 [.int .i64 t0, .int .i64 t1, .int .i64 t2, .int .i64 t3, .int .i64 t4, .int .i64 t5, .int .i64 t6, .int .i64 t7, .int .i64 t8, .int .i64 t9, .int .i64 t10, .int .i64 t11] ∧ TupS wr (bm + 1) v todo ∧ (∀ g, v.ownBlock = some g → g ≠ tb) ∧ MetN wr bm found ∧ 2 * (limit - mLen wr bm) + lenV v + 1 ≤ 2 * (limit - mLen wo bm) + (q + 1)) (fun _ i _ => m - (intOf i).toNat)
      case atStart => exact ⟨0, found, todo2, Nat.zero_le _, rfl, HS2.out, hfl, HBa.out, HKa.out, HTB.out, HFa.out, fun g0 hg0 => by simp [Value.ownBlock] at hg0; omega, HMa.out, by rw [HMa.out.len, HMo.out]; simp [lenV]; omega⟩
      case round =>
        obtain ⟨k, found3, todo3, hk, rfl, hst3, hfl3, hbe3, hk3, htb3, hto3, hne3, hme3, hmea3⟩ := hrel
        clear HBa HKa HTB HFa HMa HS2
        have HS := hide hst3
        have HB := hide hbe3
        have HK := hide hk3
        have HTB := hide htb3
        have HTO := hide hto3
        have HNE := hide hne3
        have HME := hide hme3
        have HMEA := hide hmea3
        clear hst3 hbe3 hk3 htb3 hto3 hne3 hme3 hmea3
        by_cases hkm : k + 1 < m
        · have hkz : (k : Int) < (m : Int) - 1 := by omega
          have hkm12 : k + 1 < 12 := by omega
          obtain ⟨y, hy⟩ : ∃ y, mvL (leH f) (leH s) t k = y := ⟨_, rfl⟩
          have hyt : Tup n y := by rw [← hy]; exact mvL_tup HPB.out HTT.out (by rw [HTL.out]; exact hkm)
          have hyl : y.length = m := by rw [← hy, mvL_length]; exact HTL.out
          have hyp := pad12_length hyt.1
          obtain ⟨yp, hype⟩ : ∃ yp, pad12 y = yp := ⟨_, rfl⟩
          rw [hype] at hyp
          obtain ⟨y0, y1, y2, y3, y4, y5, y6, y7, y8, y9, y10, y11, rfl⟩ := list12 hyp
          have hky : tkey y = .agg #[.int .i64 y0, .int .i64 y1, .int .i64 y2, .int .i64 y3, .int .i64 y4, .int .i64 y5, .int .i64 y6, .int .i64 y7, .int .i64 y8, .int .i64 y9, .int .i64 y10, .int .i64 y11] := by unfold tkey; rw [hype]; rfl
          have HMOV : Hid (∀ W : World, Below wr.heap.size wr W → Calls Try.prog 87 #[.agg #[.int .i64 t0, .int .i64 t1, .int .i64 t2, .int .i64 t3, .int .i64 t4, .int .i64 t5, .int .i64 t6, .int .i64 t7, .int .i64 t8, .int .i64 t9, .int .i64 t10, .int .i64 t11], .int .i64 k, .func (.func 68) #[.agg #[.slice A n c, .slice B n d]] #[]] W fun e w' => e = .returned (.agg #[.int .i64 y0, .int .i64 y1, .int .i64 y2, .int .i64 y3, .int .i64 y4, .int .i64 y5, .int .i64 y6, .int .i64 y7, .int .i64 y8, .int .i64 y9, .int .i64 y10, .int .i64 y11]) ∧ Below W.heap.size W w') := hide (by
            intro W hbW
            have ex := HTT.out.el (j := k) (by rw [HTL.out]; omega)
            have ey := HTT.out.el (j := k + 1) (by rw [HTL.out]; omega)
            have e1 : [t0, t1, t2, t3, t4, t5, t6, t7, t8, t9, t10, t11].getD k 0 = ((elN t k : Nat) : Int) := by rw [← HTP.out, pad12_at (by rw [HTL.out]; omega)]; exact ex.1
            have e2 : [t0, t1, t2, t3, t4, t5, t6, t7, t8, t9, t10, t11].getD (k + 1) 0 = ((elN t (k + 1) : Nat) : Int) := by rw [← HTP.out, pad12_at (by rw [HTL.out]; omega)]; exact ey.1
            have e3 := tq_mv (h1 := leH f) (h2 := leH s) (xs := t) (k := k) (by rw [HTL.out]; exact hkm)
            rw [HTP.out, hy, hype] at e3
            have h := moved_any 68 (.agg #[.slice A n c, .slice B n d]) n k (leH f) (leH s) [t0, t1, t2, t3, t4, t5, t6, t7, t8, t9, t10, t11] (elN t k) (elN t (k + 1)) W (enters_of Try.func68 (by kernel_rfl) rfl) rfl hkm12 e1 e2 ex.2 ey.2 (fun W' x y hx hy hbe => lead_any _ _ _ f _ _ _ s x y W' (HZ.out.later (HB.out.trans ((hbW.trans (hbe.mono hbW.size)).mono HB.out.size))) HP.out hx hy)
            rw [e3] at h
            exact h)
          have HKY := hide hky
          have HYPE := hide hype
          have HY := hide hy
          have HYL := hide hyl
          have HYT := hide hyt
          have HTIN := hide HS.out.tin
          clear hy hyt hyl hyp hype hky
          have kt0 := HTB.out.cell 0 _ rfl
          have kt1 := HTB.out.cell 1 _ rfl
          have kt2 := HTB.out.cell 2 _ rfl
          have kt3 := HTB.out.cell 3 _ rfl
          have kt4 := HTB.out.cell 4 _ rfl
          have kt5 := HTB.out.cell 5 _ rfl
          have kt6 := HTB.out.cell 6 _ rfl
          have kt7 := HTB.out.cell 7 _ rfl
          have kt8 := HTB.out.cell 8 _ rfl
          have kt9 := HTB.out.cell 9 _ rfl
          have kt10 := HTB.out.cell 10 _ rfl
          have kt11 := HTB.out.cell 11 _ rfl
          have kk0 := HK.out.cell 0 _ rfl
          have kk1 := HK.out.cell 1 _ rfl
          go_wp2_with fail
          refine (HMOV.out _ (Below.refl _ wr)).mono ?_
          rintro e wd ⟨rfl, hbd⟩
          clear kk0 kk1 kt0 kt1 kt2 kt3 kt4 kt5 kt6 kt7 kt8 kt9 kt10 kt11 HMOV
          go_upto_region 10 with fail
          refine wp_gen fun we hwe => ?_
          obtain ⟨yb, hyb⟩ : ∃ yb, wd.heap.size = yb := ⟨_, rfl⟩
          have hbe : Below wr.heap.size wr we := by rw [hwe]; exact hbd.alloc hbd.size _
          have HYB : Hid (Blk we yb 61 [.int .i64 y0, .int .i64 y1, .int .i64 y2, .int .i64 y3, .int .i64 y4, .int .i64 y5, .int .i64 y6, .int .i64 y7, .int .i64 y8, .int .i64 y9, .int .i64 y10, .int .i64 y11]) := hide (by rw [hwe, ← hyb]; exact Blk.new _ _ _)
          rw [hyb]
          have HB2 := hide (HB.out.trans (hbe.mono HB.out.size))
          have HK2 := hide (HK.out.later hbe)
          have HTB2 := hide (HTB.out.later hbe)
          have HTO2 := hide (HTO.out.later hbe)
          have HME2 := hide (HME.out.later hbe)
          have HLE : Hid (mLen we bm = mLen wr bm) := hide (by rw [HME2.out.len, HME.out.len])
          clear hwe hbe hbd hyb HB HK HTB HTO HME
          obtain ⟨kl2, hkl2⟩ := tkey_ex (HYT.out.sm h12)
          have hfm : ∀ p, p ∈ found3 → p.length = m := fun p hp => by rw [(HS.out.rch p hp).len]; exact HM.out
          have hlook := MapN.look1 tk_keyed HME2.out Try.underlying62 (z := .bool false) (by kernel_rfl) hkl2
          rw [metV_at hfm HYL.out, HKY.out] at hlook
          have HFM := hide hfm
          have HKL := hide hkl2
          clear hfm hkl2
          have ky0 := HYB.out.cell 0 _ rfl
          have ky1 := HYB.out.cell 1 _ rfl
          have ky2 := HYB.out.cell 2 _ rfl
          have ky3 := HYB.out.cell 3 _ rfl
          have ky4 := HYB.out.cell 4 _ rfl
          have ky5 := HYB.out.cell 5 _ rfl
          have ky6 := HYB.out.cell 6 _ rfl
          have ky7 := HYB.out.cell 7 _ rfl
          have ky8 := HYB.out.cell 8 _ rfl
          have ky9 := HYB.out.cell 9 _ rfl
          have ky10 := HYB.out.cell 10 _ rfl
          have ky11 := HYB.out.cell 11 _ rfl
          by_cases hin : y ∈ found3
          · have HIN := hide hin
            rw [decide_eq_true hin] at hlook
            clear hin
            go_wp2_with fail
            go_roundw
            case rel =>
              exact ⟨k + 1, found3, todo3, by omega, by go_num, HS.out.keep (by rw [HY.out]; exact HIN.out), hfl3, HB2.out, HK2.out, HTB2.out, HTO2.out, HNE.out, HME2.out, by rw [HLE.out]; exact HMEA.out⟩
            case measure => simp [intOf]; omega
          · have HIN := hide hin
            rw [decide_eq_false hin] at hlook
            obtain ⟨fl, hfe⟩ : ∃ fl, found3.length = fl := ⟨_, rfl⟩
            have HFE := hide hfe
            obtain ⟨es, clock, hraw, hess⟩ := HME2.out.raw
            have hlen := run_len_map (P := Try.prog) (w := we) 62 3 bm es clock (by kernel_rfl) hraw
            rw [hess, hfe] at hlen
            have hfl4 : fl ≤ limit := by omega
            clear hraw hess hin hfe
            by_cases hfull : fl = limit
            · subst hfull
              go_wp2_with fail
              go_ret2
              exact .inr ⟨not_few HS.out.nd HS.out.rch (by rw [← HY.out]; exact .step (HS.out.rch _ HTIN.out) (by rw [HM.out]; exact hkm)) HIN.out (by rw [HFE.out]; exact Nat.le_refl _), rfl, HB2.out⟩
            · have hfz : ((fl : Int) == (limit : Int)) = false := by simp; omega
              obtain ⟨w8, hup, hm8, hg8⟩ := MapN.add tk_keyed HME2.out Try.underlying62 (z := .bool false) (by kernel_rfl) (by rw [HFE.out]; unfold maxLen; omega) HKL.out (metV_none HFM.out HYL.out HIN.out) (.bool true)
              rw [HKY.out] at hup
              have hlt7 := HME2.out.lt
              have him := HME2.out.isMap
              have HB8 : Hid (Below w.heap.size w w8) := hide (HB2.out.grown hg8 HB2.out.size (fun g hg => by injection hg with hg; omega))
              have HK8 : Hid (Blk w8 w.heap.size 29 [.slice A n c, .slice B n d]) := hide (off_cells him hg8 HK2.out)
              have HTB8 : Hid (Blk w8 tb 61 [.int .i64 t0, .int .i64 t1, .int .i64 t2, .int .i64 t3, .int .i64 t4, .int .i64 t5, .int .i64 t6, .int .i64 t7, .int .i64 t8, .int .i64 t9, .int .i64 t10, .int .i64 t11]) := hide (off_cells him hg8 HTB2.out)
              have HYB8 : Hid (Blk w8 yb 61 [.int .i64 y0, .int .i64 y1, .int .i64 y2, .int .i64 y3, .int .i64 y4, .int .i64 y5, .int .i64 y6, .int .i64 y7, .int .i64 y8, .int .i64 y9, .int .i64 y10, .int .i64 y11]) := hide (off_cells him hg8 HYB.out)
              have HTO8 := hide (HTO2.out.off him hg8)
              have HM8 : Hid (MetN w8 bm (found3 ++ [y])) := hide (by
                unfold MetN
                rw [List.length_append]
                exact hm8.congr (fun k => metV_add found3 y k))
              have hmet : mLen we bm = found3.length := HME2.out.len
              clear hm8 hg8 HB2 HK2 HTB2 HTO2 HME2 HYB him
              have kz0 := HYB8.out.cell 0 _ rfl
              have kz1 := HYB8.out.cell 1 _ rfl
              have kz2 := HYB8.out.cell 2 _ rfl
              have kz3 := HYB8.out.cell 3 _ rfl
              have kz4 := HYB8.out.cell 4 _ rfl
              have kz5 := HYB8.out.cell 5 _ rfl
              have kz6 := HYB8.out.cell 6 _ rfl
              have kz7 := HYB8.out.cell 7 _ rfl
              have kz8 := HYB8.out.cell 8 _ rfl
              have kz9 := HYB8.out.cell 9 _ rfl
              have kz10 := HYB8.out.cell 10 _ rfl
              have kz11 := HYB8.out.cell 11 _ rfl
              have hs8 := HB8.out.size
              have hbm8 := HM8.out.lt
              have htd : todo3.length + 1 ≤ 5000 := by have h1 := HS.out.few; have h2 := HFE.out; omega
              obtain ⟨dl, hdl⟩ : ∃ dl, todo3.length = dl := ⟨_, rfl⟩
              have HDL := hide hdl
              have HOW : Hid (w8.ownsRow (bm + 1) 61 12 u11 dl (tcells todo3)) := hide (by rw [← hdl]; exact HTO8.out)
              rw [hdl] at htd
              have hv8 := HTO8.out.len
              rw [hdl] at hv8
              have HV8 := hide hv8
              clear hdl hv8
              go_wp2_with (at_builtin; refine wpList_append_own_at _ rfl _ _ 54 rfl (bm + 1) 61 i0 (.agg #[.int .i64 0, .int .i64 0, .int .i64 0, .int .i64 0, .int .i64 0, .int .i64 0, .int .i64 0, .int .i64 0, .int .i64 0, .int .i64 0, .int .i64 0, .int .i64 0]) 12 96 Try.underlying54 hi hz0 hz1 hz2 rfl (by decide) _ _ _ rfl (HOW.out.alloc _) ⟨w8.heap.size, 0, none⟩ 1 1 [.int .i64 y0, .int .i64 y1, .int .i64 y2, .int .i64 y3, .int .i64 y4, .int .i64 y5, .int .i64 y6, .int .i64 y7, .int .i64 y8, .int .i64 y9, .int .i64 y10, .int .i64 y11] rfl rfl (World.news_of_block (cs := #[.int .i64 y0, .int .i64 y1, .int .i64 y2, .int .i64 y3, .int .i64 y4, .int .i64 y5, .int .i64 y6, .int .i64 y7, .int .i64 y8, .int .i64 y9, .int .i64 y10, .int .i64 y11]) (t := 61) (fr := (0, 0)) (heap_alloc_new w8 _)) ?f2 ?f3 ?f4 ?f5 ?_)
              case f2 => simp [Value.oneCell']
              case f3 => unfold maxLen; omega
              case f4 => omega
              case f5 => simp; omega
              intro v9 w9 hown9 hgrow9 _ hat9
              have hal : Below w8.heap.size w8 (w8.alloc (.cells #[.int .i64 y0, .int .i64 y1, .int .i64 y2, .int .i64 y3, .int .i64 y4, .int .i64 y5, .int .i64 y6, .int .i64 y7, .int .i64 y8, .int .i64 y9, .int .i64 y10, .int .i64 y11] 61)) := (Below.refl _ _).alloc (Nat.le_refl _) _
              have HB9 : Hid (Below w.heap.size w w9) := hide ((HB8.out.alloc hs8 _).grown hgrow9 (by simp; omega) (fun g hg => by have h := ((HOW.out.alloc (.cells #[.int .i64 y0, .int .i64 y1, .int .i64 y2, .int .i64 y3, .int .i64 y4, .int .i64 y5, .int .i64 y6, .int .i64 y7, .int .i64 y8, .int .i64 y9, .int .i64 y10, .int .i64 y11] 61)).lt g hg).1; omega))
              have HTO9 : Hid (TupS w9 (bm + 1) v9 (todo3 ++ [y])) := hide (by
                unfold TupS
                rw [List.length_append, tcells_snoc, HYPE.out, HDL.out]
                exact hown9)
              have hnk : ∀ b, b < w8.heap.size → u11.ownBlock ≠ some b → w9.heap[b]? = w8.heap[b]? := fun b hb hne => (hgrow9.block b (by simp; omega) (fun e => hne e.symm)).trans (hal.block b hb)
              have HK9 : Hid (Blk w9 w.heap.size 29 [.slice A n c, .slice B n d]) := hide ((hnk _ HK8.out.lt (fun e => by have h := (HOW.out.lt _ e).1; omega)).trans HK8.out)
              have HTB9 : Hid (Blk w9 tb 61 [.int .i64 t0, .int .i64 t1, .int .i64 t2, .int .i64 t3, .int .i64 t4, .int .i64 t5, .int .i64 t6, .int .i64 t7, .int .i64 t8, .int .i64 t9, .int .i64 t10, .int .i64 t11]) := hide ((hnk _ HTB8.out.lt (fun e => HNE.out _ e rfl)).trans HTB8.out)
              have HM9 : Hid (MetN w9 bm (found3 ++ [y])) := hide (MapN.of_block HM8.out (hnk _ hbm8 (fun e => by have h := (HOW.out.lt _ e).1; omega)))
              have hne9 : ∀ g, v9.ownBlock = some g → g ≠ tb := by
                intro g hg e
                rcases hat9 with e2 | e2
                · rw [e2] at hg; exact HNE.out g hg e
                · rw [hg] at e2
                  injection e2 with e2
                  have h := HTB8.out.lt
                  try simp at e2
                  omega
              have HNE9 := hide hne9
              clear hown9 hgrow9 hat9 hal hnk hne9 hup hlook hlen HB8 HK8 HTB8 HYB8 HTO8 HM8
              clear ky0 ky1 ky2 ky3 ky4 ky5 ky6 ky7 ky8 ky9 ky10 ky11 kz0 kz1 kz2 kz3 kz4 kz5 kz6 kz7 kz8 kz9 kz10 kz11
              go_wp2_with fail
              go_roundw
              case rel =>
                have hpush := HS.out.push (by rw [HM.out]; exact hkm) (by rw [HY.out]; exact HIN.out)
                rw [HY.out] at hpush
                refine ⟨k + 1, found3 ++ [y], todo3 ++ [y], by omega, by go_num, hpush, by have h := HFE.out; simp; omega, HB9.out, HK9.out, HTB9.out, HTO9.out, HNE9.out, HM9.out, ?_⟩
                have h1 := HMEA.out
                rw [HTO9.out.len, HM9.out.len, List.length_append, List.length_append, HDL.out, HFE.out]
                rw [← HLE.out, hmet, HFE.out, HV8.out] at h1
                simp
                omega
              case measure => simp [intOf]; omega
        · have hkz : ¬ (k : Int) < (m : Int) - 1 := by omega
          go_wp2_with fail
          go_roundw
          case rel => exact ⟨found3, todo3, HS.out.next (by rw [HM.out]; omega), hfl3, HB.out, HK.out, HTO.out, HME.out⟩
          case measure => exact Nat.lt_of_lt_of_le (Nat.lt_succ_self _) HMEA.out
end Go.Proofs.Ytbhlcfcmjildmaa
namespace Go.Proofs.Ytbhlcfcmjildmaa
open Go Go.RowKit
open Classical
set_option maxHeartbeats 8000000
set_option maxRecDepth 100000 in
theorem listsOf_any (bm m : Nat) (L : List (List Int)) (w : World) (hM : MetN w bm L) (hnd : L.Nodup) (hlm : ∀ p, p ∈ L → p.length = m) (hsm : ∀ p, p ∈ L → Sm p) (hm12 : m ≤ 12) (h0 : 0 < L.length) (hlb : L.length ≤ 5000) :
    Calls Try.prog 50 #[.map (some bm), .int .i64 m] w fun e w' => ∃ v L' vals, e = .returned v ∧ Below w.heap.size w w' ∧ LstV 26 2 w.heap.size w' v L' vals ∧ Asc L' ∧ ∀ x, x ∈ L' ↔ x ∈ L := by
  have HM := hide hM
  have HND := hide hnd
  have HLM := hide hlm
  have HSM := hide hsm
  obtain ⟨i2, hj, hy0, hy1, hy2⟩ := info_parts neInfo2
  obtain ⟨N, hN⟩ : ∃ N, L.length = N := ⟨_, rfl⟩
  have HN := hide hN
  obtain ⟨es, clock, hraw, hess⟩ := MapN.raw hM
  have hlen := run_len_map (P := Try.prog) (w := w) 62 3 bm es clock (by kernel_rfl) hraw
  rw [hess, hN] at hlen
  rw [hN] at h0 hlb
  have hby : i2.bytes = 24 := hy2
  have hbl := MapN.lt hM
  clear hM hnd hlm hsm hN hraw hess
  go_enter Try.func50, Try.ntmps50
  go_upto_region 2 with (refine wpList_make_own _ rfl _ _ 22 rfl w.heap.size 26 i2 (.slice none 0 0) 1 Try.underlying22 hj hy0 hy1 .i64 .i64 (N : Int) N rfl rfl rfl (by rw [hby]; omega) (by unfold maxLen; omega) (Nat.le_refl _) ?_; intro w1 hown1 hgrow1)
  have hb1 : Below w.heap.size w w1 := (Below.refl _ w).grown hgrow1 (Nat.le_refl _) (fun g hg => by cases hg)
  have hl1 : LstV 26 2 w.heap.size w1 (.slice (some ⟨w.heap.size, 0, none⟩) 0 N) [] [] := ⟨hown1, fun i hi => by simp at hi, fun i j u u' g _ hu => by simp at hu⟩
  obtain ⟨w2, cnt0, hrun, hR2, hg2, hs2⟩ := MetN.range (show MetN w1 bm L from MapN.later HM.out hb1) Try.underlying62
  have hb2 : Below w1.heap.size w1 w2 := (Below.refl _ w1).grown hg2 (Nat.le_refl _) (fun g hg => by cases hg)
  have HB2 := hide (hb1.trans (hb2.mono hb1.size))
  have HL2 := hide (hl1.later hb2)
  obtain ⟨r, hr⟩ : ∃ r, w1.heap.size = r := ⟨_, rfl⟩
  rw [hr] at hrun hR2
  have HR2 := hide hR2
  have hrw : w.heap.size ≤ r := by rw [← hr]; exact hb1.size
  clear hown1 hgrow1 hl1 hR2 hg2 hb1 hb2 hs2 hr
  go_wp2_with fail
  clear hrun
  go_loopw [5] (fun v wr => ∃ (got : List (List Int)) (vals : List Value) (cnt : Nat), Below w.heap.size w wr ∧ LstV 26 2 w.heap.size wr v got vals ∧ MetR wr bm r L got cnt) (fun _ wr => wr.rangeLeft bm r)
  case atStart => exact ⟨[], [], cnt0, HB2.out, HL2.out, HR2.out⟩
  case round =>
    obtain ⟨got, vals, cnt, hbe, hlst, hmr⟩ := hrel
    clear HB2 HL2 HR2
    have HB := hide hbe
    have HL := hide hlst
    have hleft := hmr.left_eq
    have hgn : got.Nodup := by obtain ⟨_, _, _, _, h, _⟩ := hmr; exact h
    have hgs : ∀ y, y ∈ got → y ∈ L := by obtain ⟨_, _, _, _, _, h, _⟩ := hmr; exact h
    have hgl : got.length ≤ N := by have h := tnodup_le hgn hgs; rw [HN.out] at h; exact h
    have HGN := hide hgn
    have HGS := hide hgs
    have HN0 := hide hmr.iterN
    have HMR := hide hmr
    rcases hmr.next HLM.out HSM.out 0 with ⟨hall, hnx⟩ | ⟨p, v, w3, cnt3, hp, hpg, hnx, hr3, hlt3, hg3, hs3, hen⟩
    · have HALL := hide hall
      clear hbe hlst hmr hgn hgs hall
      have h0g : 0 < got.length := by
        have h := tnodup_le HND.out (fun y hy => (HALL.out y).1 hy)
        rw [HN.out] at h
        omega
      go_wp2_with fail
      refine (sortRows_any m _ _ got vals _ (by omega) h0g (by omega) (fun i hi => HLM.out _ (HGS.out _ (tgetD_mem _ _ _ hi))) HGN.out HB.out.size HL.out).mono ?_
      rintro e w5 ⟨rfl, hb5, rows', vals', hl5, ha5, hlen5, hm5⟩
      have HB5 := hide (HB.out.trans hb5)
      have HL5 := hide hl5
      have HA5 := hide ha5
      have HM5 := hide hm5
      clear hb5 hl5 ha5 hm5 hnx
      go_wp2_with fail
      go_ret
      exact ⟨_, rows', vals', rfl, HB5.out, HL5.out, HA5.out, fun x => (HM5.out x).trans ⟨HGS.out x, fun h => (HALL.out x).1 h⟩⟩
    · have hpl := HLM.out p hp
      have hpp := pad12_length (xs := p) (by rw [hpl]; exact hm12)
      obtain ⟨pp, hppe⟩ : ∃ pp, pad12 p = pp := ⟨_, rfl⟩
      rw [hppe] at hpp
      obtain ⟨p0, p1, p2, p3, p4, p5, p6, p7, p8, p9, p10, p11, rfl⟩ := list12 hpp
      have hkp : tkey p = .agg #[.int .i64 p0, .int .i64 p1, .int .i64 p2, .int .i64 p3, .int .i64 p4, .int .i64 p5, .int .i64 p6, .int .i64 p7, .int .i64 p8, .int .i64 p9, .int .i64 p10, .int .i64 p11] := by unfold tkey; rw [hppe]; rfl
      rw [hkp] at hnx hen
      have HPP := hide hppe
      have HPL := hide hpl
      have HP := hide hp
      have HPG := hide hpg
      have hb3 : Below w.heap.size w w3 := HB.out.grown hg3 HB.out.size (fun g hg => by injection hg with hg; omega)
      have HB3 := hide hb3
      have HL3 := hide (HL.out.offN HN0.out hg3)
      have HR3 := hide hr3
      have hl3 : w.heap.size ≤ w3.heap.size := hb3.size
      clear hbe hlst hmr hgn hgs hpl hpp hppe hkp hp hpg hb3 hr3 hg3 hs3 HB HL HMR HN0
      go_upto_region 5 with fail
      refine wp_gen fun w4 hw4 => ?_
      obtain ⟨pb, hpb⟩ : ∃ pb, w3.heap.size = pb := ⟨_, rfl⟩
      have hb4 : Below w3.heap.size w3 w4 := by rw [hw4]; exact (Below.refl _ _).alloc (Nat.le_refl _) _
      have HROW : Hid (Row 61 w4 pb [p0, p1, p2, p3, p4, p5, p6, p7, p8, p9, p10, p11]) := hide (by rw [hw4, ← hpb]; exact Blk.new _ _ _)
      rw [hpb]
      have HB4 := hide (HB3.out.trans (hb4.mono HB3.out.size))
      have HL4 := hide (HL3.out.later hb4)
      have HR4 := hide (HR3.out.later hb4)
      have HRD : Hid (Rd w4 (some ⟨pb, 0, none⟩) p) := hide (fun _ => ⟨pb, 0, rfl, HROW.out.lt, fun i hi => by
        have h := HROW.out.cell (i := i) (by have := HPL.out; simp; omega)
        rw [← HPP.out, pad12_at hi] at h
        rw [Nat.zero_add]
        exact h⟩)
      have hl4 : w.heap.size ≤ w4.heap.size := HB4.out.size
      clear hw4 hb4 hnx hen HB3 HL3 HR3 hpb HROW
      have c12z : (m : Int) ≤ 12 := by omega
      go_wp2_with fail
      refine (cloneN_any _ m _ p _ HPL.out (by omega) HRD.out).mono ?_
      rintro e w5 ⟨A5, c5, rfl, hb5, hres5, _⟩
      have HB5 := hide hb5
      have HB5w := hide (HB4.out.trans (hb5.mono hl4))
      have HR5 := hide (HR4.out.later hb5)
      have HO5 := hide hres5.obj
      obtain ⟨gl, hgle⟩ : ∃ gl, got.length = gl := ⟨_, rfl⟩
      have HGL := hide hgle
      have HOW : Hid (w5.ownsRow w.heap.size 26 1 u5 gl vals) := hide (by rw [← hgle]; exact (HL4.out.later hb5).own)
      have hgn : gl < N := by
        have h := tnodup_le (l := got ++ [p]) (m := L) (List.nodup_append.2 ⟨HGN.out, by simp, fun a ha b hb e => by simp at hb; subst hb; subst e; exact HPG.out ha⟩) (fun a ha => by
          rcases List.mem_append.1 ha with ha | ha
          · exact HGS.out a ha
          · simp at ha; subst ha; exact HP.out)
        rw [HN.out, List.length_append, hgle] at h
        simp at h
        omega
      have hs5 := HB5w.out.size
      clear hb5 hres5 hgle
      go_wp2_with (at_builtin; refine wpList_append_own_at _ rfl _ _ 22 rfl w.heap.size 26 i2 (.slice none 0 0) 1 24 Try.underlying22 hj hy0 hy1 hy2 rfl (by decide) _ _ _ rfl (HOW.out.alloc _) ⟨w5.heap.size, 0, none⟩ 1 1 [.slice A5 m c5] rfl rfl ?f1 ?f2 ?f3 ?f4 ?f5 ?_)
      case f1 => exact ne_new
      case f2 => intro u hu; simp at hu; subst hu; rfl
      case f3 => unfold maxLen; omega
      case f4 => omega
      case f5 => simp; omega
      intro v9 w9 hown9 hgrow9 _ hat9
      have hal : Below w5.heap.size w5 (w5.alloc (.cells #[.slice A5 m c5] 26)) := (Below.refl _ _).alloc (Nat.le_refl _) _
      have HB9 : Hid (Below w.heap.size w w9) := hide ((HB5w.out.alloc hs5 _).grown hgrow9 (by simp; omega) (fun g hg => ((HOW.out.alloc (.cells #[.slice A5 m c5] 26)).lt g hg).1))
      have HL9 : Hid (LstV 26 2 w.heap.size w9 v9 (got ++ [p]) (vals ++ [.slice A5 p.length c5])) := hide (LstV.push (tmp := .cells #[.slice A5 m c5] 26) (by decide) hl4 HL4.out HB5.out HO5.out (by rw [HPL.out, HGL.out]; exact hown9) hgrow9)
      have HR9 : Hid (MetR w9 bm r L (got ++ [p]) cnt3) := hide ((HR5.out.later hal).off (HOW.out.alloc _) hgrow9)
      clear hown9 hgrow9 hat9 hal
      go_wp2_with fail
      go_roundw
      case rel => exact ⟨got ++ [p], _, cnt3, HB9.out, HL9.out, HR9.out⟩
      case measure => rw [HR9.out.left_eq]; omega
end Go.Proofs.Ytbhlcfcmjildmaa
