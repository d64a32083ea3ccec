import Derived.Test.YtgmloaemnbnbgaaZv
import Derived.Test.YtgmloaemnbnbgaaZbc
import Derived.Test.YtgmloaemnbnbgaaZaz
import Derived.Test.YtgmloaemnbnbgaaZh
import Derived.Deep.RegionHeld3
import Derived.BigQuiet
import Derived.Deep.RegionWith
import Derived.Test.YtgmloaemnbnbgaaZap
import Derived.Test.YtgmloaemnbnbgaaZax
import Derived.Deep.Cut
namespace Go.Proofs.Ytgmloaemnbnbgaa
open Go Go.RowKit
set_option maxHeartbeats 2000000
attribute [local irreducible] serK siz lstTo
theorem LvRes.two {f s : List (List Int)} {v code : Int} (h : LvRes f s v code) : (NdS f s ∧ ((siz f s (serK f s) = 1 ∧ v = (serK f s : Int) ∧ code = 0) ∨ (¬ siz f s (serK f s) = 1 ∧ v = 0 ∧ code = 4))) ∨ (¬ NdS f s ∧ v = 0 ∧ code = 1) := by
  rcases h with ⟨a, b, c, d⟩ | ⟨a, b, c, d⟩ | ⟨a, b, c⟩
  · exact .inl ⟨a, .inl ⟨b, c, d⟩⟩
  · exact .inl ⟨a, .inr ⟨b, c, d⟩⟩
  · exact .inr ⟨a, b, c⟩
theorem szwI (A : Option Addr) (n c : Nat) (f : List (List Int)) (B : Option Addr) (m d : Nat) (s : List (List Int)) (zs : List Int) (code : Int) (kz : Nat) (w : World) (hz : ZArg 1048576 w A n f B m s) (hr : SzRes f s zs code) (hk : zs.length = kz) :
    Calls Try.prog 26 #[.agg #[.slice A n c, .slice B m d]] w (RPost 2 kz zs code w) := by
  have HZ := hide hz
  have HB0 := hide ((Below.refl _ w).alloc (Nat.le_refl _) (Obj.cells #[Value.slice A n c, Value.slice B m d] 29))
  have HK0 := hide (Blk.new w 29 [.slice A n c, .slice B m d])
  rcases hr with ⟨hg, hzs, rfl⟩ | ⟨hg, rfl, rfl⟩
  · obtain rfl := hz.same hg.map
    have h1 := (hg.sizes hz.sz.fl).1
    have h12 := (hg.sizes hz.sz.fl).2.1
    have HG := hide hg
    have HZS := hide hzs
    have HKZ := hide hk
    clear hzs hk
    have hK := serK_lt HG.out
    have HKS : Hid (∃ K, serK f s = K) := hide ⟨_, rfl⟩
    obtain ⟨K, hKe⟩ := HKS.out
    rw [hKe] at hK
    have HKE := hide hKe
    clear hKe HKS
    have HZK : Hid (zs = szL f s (K + 1)) := hide (by rw [HZS.out, HKE.out])
    obtain rfl : kz = K + 1 := by rw [← HKZ.out, HZK.out, szL_length]
    clear HZS HKZ
    clear hg hz
    go_enter Try.func26, Try.ntmps26
    go_wp2_with fail
    refine (nd7I _ _ _ f _ _ _ s true _ (HZ.out.later HB0.out) (by simp [HG.out])).mono ?_
    rintro e w1 ⟨rfl, hb1⟩
    have HB1 := hide (HB0.out.trans (hb1.mono HB0.out.size))
    have HK1 := hide (HK0.out.later hb1)
    have k0 := HK1.out.cell 0 _ rfl
    have k1 := HK1.out.cell 1 _ rfl
    clear hb1
    have hcon := szsI_any A m c f B d s w1 (HZ.out.later HB1.out) HG.out
    rw [HKE.out] at hcon
    go_wp2_with fail
    refine hcon.mono ?_
    rintro e w2 ⟨A2, c2, rfl, hb2, hobj⟩
    have HB2 := hide (HB1.out.trans (hb2.mono HB1.out.size))
    have HO2 := hide (hobj.mono HB1.out.size)
    clear hb2 hobj k0 k1 hcon
    go_wp2_with fail
    go_ret2
    exact ⟨_, _, rfl, HB2.out, by rw [HZK.out]; exact HO2.out⟩
  · skip
    obtain rfl : kz = 0 := by simpa using hk.symm
    have HG := hide hg
    clear hg hz
    go_enter Try.func26, Try.ntmps26
    go_wp2_with fail
    refine (nd7I _ _ _ f _ _ _ s false _ (HZ.out.later HB0.out) (by simp [HG.out])).mono ?_
    rintro e w1 ⟨rfl, hb1⟩
    have HB1 := hide (HB0.out.trans (hb1.mono HB0.out.size))
    clear hb1
    go_wp2_with fail
    go_ret2
    exact ⟨_, _, rfl, HB1.out, .inl ⟨rfl, rfl⟩⟩
theorem lvwI (A : Option Addr) (n c : Nat) (f : List (List Int)) (B : Option Addr) (m d : Nat) (s : List (List Int)) (v : Int) (code : Int) (w : World) (hz : ZArg 1048576 w A n f B m s) (hr : LvRes f s v code) :
    Calls Try.prog 28 #[.agg #[.slice A n c, .slice B m d]] w fun e w' => e = .returned (.tuple #[.int .i64 v, .int .i64 code]) ∧ Below w.heap.size w w' := by
  have HZ := hide hz
  have HB0 := hide ((Below.refl _ w).alloc (Nat.le_refl _) (Obj.cells #[Value.slice A n c, Value.slice B m d] 29))
  have HK0 := hide (Blk.new w 29 [.slice A n c, .slice B m d])
  rcases hr.two with ⟨hg, hr2⟩ | ⟨hg, rfl, rfl⟩
  · obtain rfl := hz.same hg.map
    have h1 := (hg.sizes hz.sz.fl).1
    have h12 := (hg.sizes hz.sz.fl).2.1
    have HG := hide hg
    have hK := serK_lt HG.out
    have HKS : Hid (∃ K, serK f s = K) := hide ⟨_, rfl⟩
    obtain ⟨K, hKe⟩ := HKS.out
    rw [hKe] at hK
    have HKE := hide hKe
    clear hKe HKS
    have HRR : Hid ((siz f s K = 1 ∧ v = (K : Int) ∧ code = 0) ∨ (¬ siz f s K = 1 ∧ v = 0 ∧ code = 4)) := hide (by rw [← HKE.out]; exact hr2)
    clear hr2
    clear hg hz
    go_enter Try.func28, Try.ntmps28
    go_wp2_with fail
    refine (nd7I _ _ _ f _ _ _ s true _ (HZ.out.later HB0.out) (by simp [HG.out])).mono ?_
    rintro e w1 ⟨rfl, hb1⟩
    have HB1 := hide (HB0.out.trans (hb1.mono HB0.out.size))
    have HK1 := hide (HK0.out.later hb1)
    have k0 := HK1.out.cell 0 _ rfl
    have k1 := HK1.out.cell 1 _ rfl
    clear hb1
    have hcon := szsI_any A m c f B d s w1 (HZ.out.later HB1.out) HG.out
    rw [HKE.out] at hcon
    go_wp2_with fail
    refine hcon.mono ?_
    rintro e w2 ⟨A2, c2, rfl, hb2, hobj⟩
    have HB2 := hide (HB1.out.trans (hb2.mono HB1.out.size))
    have HO2 := hide (hobj.mono HB1.out.size)
    clear hb2 hobj k0 k1 hcon
    have hp := siz_pos HG.out K
    obtain ⟨b, o, rfl, hb, hc⟩ := HO2.out.rd (by rw [szL_length]; omega)
    have q := hc K (by rw [szL_length]; omega)
    rw [szL_at f s (Nat.lt_succ_self K)] at q
    obtain ⟨u, hu⟩ : ∃ u, siz f s K = u := ⟨_, rfl⟩
    rw [hu] at q hp
    have HU := hide hu
    clear hu hc
    rcases HRR.out with ⟨hs, rfl, rfl⟩ | ⟨hs, rfl, rfl⟩
    · have hu1 : u = 1 := by rw [← HU.out]; exact hs
      subst hu1
      clear hs
      go_wp2_with fail
      go_ret2
      exact ⟨by simp, HB2.out⟩
    · have hu1 : ¬ u = 1 := by rw [← HU.out]; exact hs
      have hu2 : (1 : Int) < (u : Int) := by omega
      clear hs
      go_wp2_with fail
      go_ret2
      exact ⟨by simp, HB2.out⟩
  · skip
    have HG := hide hg
    clear hg hz
    go_enter Try.func28, Try.ntmps28
    go_wp2_with fail
    refine (nd7I _ _ _ f _ _ _ s false _ (HZ.out.later HB0.out) (by simp [HG.out])).mono ?_
    rintro e w1 ⟨rfl, hb1⟩
    have HB1 := hide (HB0.out.trans (hb1.mono HB0.out.size))
    clear hb1
    go_wp2_with fail
    go_ret2
    exact ⟨rfl, HB1.out⟩
theorem irwI (A : Option Addr) (n c : Nat) (f : List (List Int)) (B : Option Addr) (m d : Nat) (s : List (List Int)) (v : Bool) (code : Int) (w : World) (hz : ZArg 1048576 w A n f B m s) (hr : IrRes f s v code) :
    Calls Try.prog 30 #[.agg #[.slice A n c, .slice B m d]] w fun e w' => e = .returned (.tuple #[.bool v, .int .i64 code]) ∧ Below w.heap.size w w' := by
  have HZ := hide hz
  have HB0 := hide ((Below.refl _ w).alloc (Nat.le_refl _) (Obj.cells #[Value.slice A n c, Value.slice B m d] 29))
  have HK0 := hide (Blk.new w 29 [.slice A n c, .slice B m d])
  rcases hr with ⟨hg, hv, rfl⟩ | ⟨hg, rfl, rfl⟩
  · obtain rfl := hz.same hg.map
    have h1 := (hg.sizes hz.sz.fl).1
    have h12 := (hg.sizes hz.sz.fl).2.1
    have HG := hide hg
    have HV := hide hv
    have HFL := hide hz.sz.fl
    clear hv
    clear hg hz
    go_enter Try.func30, Try.ntmps30
    go_wp2_with fail
    refine (nd7I _ _ _ f _ _ _ s true _ (HZ.out.later HB0.out) (by simp [HG.out])).mono ?_
    rintro e w1 ⟨rfl, hb1⟩
    have HB1 := hide (HB0.out.trans (hb1.mono HB0.out.size))
    have HK1 := hide (HK0.out.later hb1)
    have k0 := HK1.out.cell 0 _ rfl
    have k1 := HK1.out.cell 1 _ rfl
    clear hb1
    have hK := serK_lt HG.out
    have HKS : Hid (∃ K, serK f s = K) := hide ⟨_, rfl⟩
    obtain ⟨K, hKe⟩ := HKS.out
    rw [hKe] at hK
    have HKE := hide hKe
    clear hKe HKS
    have hv0 : v = true ↔ 2 ≤ m ∧ K = 0 := by rw [HV.out, ← HKE.out, ir_iff HG.out, ← HFL.out]; rfl
    have HV0 := hide hv0
    clear hv0
    by_cases hm2 : 2 ≤ m
    · have hm3 : (1 : Int) < (m : Int) := by omega
      have hcon := fun wx (hx : Below w.heap.size w wx) => szsI_any A m c f B d s wx (HZ.out.later hx) HG.out
      rw [HKE.out] at hcon
      have HCON := hide hcon
      clear hcon
      go_wp2_with fail
      refine (size_any _ m _ _ _ _ _ (by omega)).mono ?_
      rintro e w2 ⟨rfl, hb2⟩
      have HB2 := hide (HB1.out.trans (hb2.mono HB1.out.size))
      have HK2 := hide (HK1.out.later hb2)
      clear hb2 k0 k1
      have k0 := HK2.out.cell 0 _ rfl
      have k1 := HK2.out.cell 1 _ rfl
      go_wp2_with fail
      refine (HCON.out _ HB2.out).mono ?_
      rintro e w3 ⟨A3, c3, rfl, hb3, hobj⟩
      have HB3 := hide (HB2.out.trans (hb3.mono HB2.out.size))
      clear hb3 hobj k0 k1
      by_cases hK0 : K = 0
      · have hrt : v = true := HV0.out.2 ⟨hm2, hK0⟩
        subst hrt
        subst hK0
        go_wp2_with fail
        go_ret2
        exact ⟨by simp, HB3.out⟩
      · have hrt : v = false := by
          cases v
          · rfl
          · exact absurd (HV0.out.1 rfl).2 hK0
        subst hrt
        have hbeq : ((K : Int) + 1 == 1) = false := beq_eq_false_iff_ne.2 (by omega)
        have hbeq2 : ((K : Int) == 0) = false := by simpa using (by omega : ¬ (K : Int) = 0)
        go_wp2_with fail
        go_ret2
        exact ⟨by simp, HB3.out⟩
    · have hm3 : ¬ (1 : Int) < (m : Int) := by omega
      have hrt : v = false := by
        cases v
        · rfl
        · exact absurd (HV0.out.1 rfl).1 hm2
      subst hrt
      go_wp2_with fail
      refine (size_any _ m _ _ _ _ _ (by omega)).mono ?_
      rintro e w2 ⟨rfl, hb2⟩
      have HB2 := hide (HB1.out.trans (hb2.mono HB1.out.size))
      clear hb2 k0 k1
      go_wp2_with fail
      go_ret2
      exact ⟨by simp, HB2.out⟩
  · skip
    have HG := hide hg
    clear hg hz
    go_enter Try.func30, Try.ntmps30
    go_wp2_with fail
    refine (nd7I _ _ _ f _ _ _ s false _ (HZ.out.later HB0.out) (by simp [HG.out])).mono ?_
    rintro e w1 ⟨rfl, hb1⟩
    have HB1 := hide (HB0.out.trans (hb1.mono HB0.out.size))
    clear hb1
    go_wp2_with fail
    go_ret2
    exact ⟨rfl, HB1.out⟩
end Go.Proofs.Ytgmloaemnbnbgaa
namespace Go.Proofs.Ytgmloaemnbnbgaa
open Go Go.RowKit
set_option maxHeartbeats 4000000
/-- The length of a slice. -/
def lenOf8 : Value → Nat | .slice _ n _ => n | _ => 0
section
variable {ts t tq : TypeId} {B0 k c : Nat} {w : World} {A : Option Addr} {zs : Nat → SolV} {vs : List Value} {v : Value}
theorem QL.base (h : QL ts t tq B0 w v k zs vs) (h0 : 0 < k) : ∃ g c, v = .slice (some ⟨g, 0, none⟩) k c ∧ B0 ≤ g ∧ g < w.heap.size ∧ ∀ i, i < k → ∃ Ai ci Bi di, w.cell? ⟨g, i * 2, none⟩ = some (.slice Ai (zs i).1.length ci) ∧ w.cell? ⟨g, i * 2 + 1, none⟩ = some (.slice Bi (zs i).2.length di) ∧ ∃ lo hi, ObjW ts t lo hi w Ai (zs i).1 Bi (zs i).2 := by
  rcases h.own.2 with ⟨_, h2⟩ | ⟨g, cap, cur, hv, hg, hh, hn, _, _, htk⟩
  · omega
  · refine ⟨g, cap, hv, hg, (Array.getElem?_eq_some_iff.1 hh).1, fun i hi => ?_⟩
    obtain ⟨Ai, ci, Bi, di, k1, k2, l2, hi3, k3⟩ := h.obj i hi
    have at_ : ∀ j u, vs[j]? = some u → w.cell? ⟨g, j, none⟩ = some u := fun j u hj => by
      rw [cell_of_row w g j cur tq (0, 0) hh]
      have hjl : j < vs.length := (List.getElem?_eq_some_iff.1 hj).1
      have := h.own.1
      rw [← htk, List.getElem?_take, if_pos (by omega)] at hj
      simpa using hj
    exact ⟨Ai, ci, Bi, di, at_ _ _ k1, at_ _ _ k2, l2, hi3, k3⟩
theorem QL.one {a b : Value} {A B : Option Addr} {cA cB lo hi : Nat} (ho : ObjW ts t lo hi w A (zs 0).1 B (zs 0).2) (hB : B0 ≤ w.heap.size) (ha : a = .slice A (zs 0).1.length cA) (hb : b = .slice B (zs 0).2.length cB) :
    QL ts t tq B0 (w.alloc (.cells #[a, b] tq)) (.slice (some ⟨w.heap.size, 0, none⟩) 1 1) 1 zs [a, b] :=
  ⟨⟨by simp, .inr ⟨w.heap.size, 1, #[a, b], rfl, hB, heap_alloc_new _ _, Nat.le_refl _, by unfold maxLen; omega, by simp, by simp⟩⟩, fun i hi2 => by
    obtain rfl : i = 0 := by omega
    exact ⟨A, cA, B, cB, by rw [← ha]; rfl, by rw [← hb]; rfl, lo, hi, ho.later ((Below.refl _ _).alloc (Nat.le_refl _) _)⟩⟩
end
theorem ser_zarg {f s : List (List Int)} {w : World} {A B : Option Addr} {ts t : TypeId} {lo hi : Nat} (hg : NdS f s) (h : ObjW ts t lo hi w A f B s) : ZArg 1048576 w A f.length f B f.length s := by
  have h1 := (hg.sizes rfl).2.1
  have h2 := (hg.sizes rfl).2.2
  exact ⟨⟨rfl, by omega, fun i hi => by rw [hg.map.1.rows i hi]; omega, h2, by omega, fun i hi => by rw [hg.map.2.1.rows i hi]; omega⟩, h.fst, h.snd⟩
theorem s8Info : (Try.prog.info? 29).map (fun i => (i.zero, i.size, i.bytes)) = some (some (.agg #[.slice none 0 0, .slice none 0 0]), 2, 48) := by kernel_rfl
set_option maxRecDepth 100000 in
theorem serS_any (A : Option Addr) (n c : Nat) (f : List (List Int)) (B : Option Addr) (d : Nat) (s : List (List Int)) (w : World) (hz : ZArg 1048576 w A n f B n s) (hg : NdS f s) :
    Calls Try.prog 55 #[.agg #[.slice A n c, .slice B n d]] w fun e w' => ∃ A' c' vs, e = .returned (.slice A' (serK f s + 1) c') ∧ Below w.heap.size w w' ∧ QL 26 2 29 w.heap.size w' (.slice A' (serK f s + 1) c') (serK f s + 1) (ser f s) vs := by
  have HZ := hide hz
  have HG := hide hg
  have HFL := hide hz.sz.fl
  have HSL := hide hz.sz.sl
  have hK := serK_lt hg
  obtain ⟨K, hKe⟩ : ∃ K, serK f s = K := ⟨_, rfl⟩
  rw [hKe] at hK ⊢
  have HKE := hide hKe
  have HB0 := hide ((Below.refl _ w).alloc (Nat.le_refl _) (Obj.cells #[Value.slice A n c, Value.slice B n d] 29))
  have HK0 := hide (Blk.new w 29 [.slice A n c, .slice B n d])
  have k0 := HK0.out.cell 0 _ rfl
  have k1 := HK0.out.cell 1 _ rfl
  have hts : 26 ≠ 29 := by decide
  have htt : 2 ≠ 29 := by decide
  obtain ⟨i0, hinf, hz0, hz1, hz2⟩ := info_parts s8Info
  clear hz hg hKe
  go_enter Try.func55, Try.ntmps55
  go_wp2_with fail
  refine (lownS_any _ n _ f _ _ s _ (HZ.out.later HB0.out) HG.out.map).mono ?_
  rintro e w1 ⟨A1, c1, B1, d1, rfl, hb1, hob⟩
  have HB1 := hide (HB0.out.trans (hb1.mono HB0.out.size))
  have HOB := hide hob
  clear hb1 hob k0 k1
  have hq1 : QL 26 2 29 w.heap.size (w1.alloc (.cells #[.slice A1 n c1, .slice B1 n d1] 29)) (.slice (some ⟨w1.heap.size, 0, none⟩) 1 1) 1 (ser f s) [.slice A1 n c1, .slice B1 n d1] := QL.one (zs := ser f s) (cA := c1) (cB := d1) HOB.out HB1.out.size (by show _ = Value.slice A1 f.length c1; rw [HFL.out]) (by show _ = Value.slice B1 s.length d1; rw [HSL.out])
  have HQ1 := hide hq1
  clear hq1
  go_wp2_with fail
  go_loopw [3] (fun v wr => ∃ (k : Nat) (vs : List Value), k ≤ K ∧ Below w.heap.size w wr ∧ QL 26 2 29 w.heap.size wr v (k + 1) (ser f s) vs) (fun v _ => 13 - lenOf8 v)
  case atStart => exact ⟨0, _, Nat.zero_le _, HB1.out.alloc HB1.out.size _, HQ1.out⟩
  case round =>
    clear HB1 HQ1 HOB
    obtain ⟨k, vs, hk, hbe, hql⟩ := hrel
    obtain ⟨g, cv, rfl, hBg, hgw, hcell⟩ := hql.base (Nat.succ_pos _)
    obtain ⟨Ai, ci, Bi, di, q1, q2, lo, hi, hob⟩ := hcell k (Nat.lt_succ_self _)
    have HB := hide hbe
    have HQ := hide hql
    have HNK := hide (ser_nds HG.out k)
    have hsz := siz_snd HG.out k
    rw [hsz] at q2
    have hzk := ser_zarg HNK.out hob
    have hsk := siz_12 HG.out k
    have hsk0 := siz_pos HG.out k
    have hnext := siz_succ f s k
    have hiff := serK_iff HG.out (k := k) (by rw [HKE.out]; exact hk)
    rw [HKE.out] at hiff
    obtain ⟨m, hm⟩ : ∃ m, siz f s k = m := ⟨_, rfl⟩
    have hm1 : (ser f s k).1.length = m := hm
    rw [hm1] at q1 hzk
    rw [hm] at q2 hsk hsk0 hiff
    obtain ⟨m2, hm2⟩ : ∃ m, siz f s (k + 1) = m := ⟨_, rfl⟩
    rw [hm2] at hnext hiff
    have HIFF := hide hiff
    have HM2 := hide hm2
    have HNX := hide hnext
    have HZK := hide hzk
    have hadd : ((k + 1 : Nat) : Int) - 1 = (k : Int) := by omega
    clear hbe hql hcell hob hsz hnext hiff hm hm1 hzk hm2
    go_wp2_with fail
    refine calls_gen fun w3 hw3 => ?_
    have hb3 : Below wr.heap.size wr w3 := by rw [hw3]; exact (Below.refl _ _).alloc (Nat.le_refl _) _
    have HB3 := hide (HB.out.trans (hb3.mono HB.out.size))
    have HQ3 := hide (HQ.out.later hb3)
    have HL3 : Hid (Blk w3 wr.heap.size 29 [.slice Ai m ci, .slice Bi m di]) := hide (by rw [hw3]; exact Blk.new _ _ _)
    replace HZK := hide (HZK.out.later hb3)
    clear hw3 hb3 q1 q2 HB HQ
    refine (retS_any _ _ _ (ser f s k).1 _ _ (ser f s k).2 _ HZK.out HNK.out).mono ?_
    unfold RtPost
    rw [← HNX.out]
    rintro e w4 ⟨A4, c4, B4, d4, rfl, hb4, ho4⟩
    have HB4 := hide (HB3.out.trans (hb4.mono HB3.out.size))
    have HQ4 := hide (HQ3.out.later hb4)
    have HL4 := hide (HL3.out.later hb4)
    have HO4 := hide ho4
    have l0 := fun o => (HL4.out.alloc o).cell 0 _ rfl
    clear hb4 ho4 HB3 HQ3 HL3
    by_cases hKk : k = K
    · have he : m2 = m := HIFF.out.2 hKk
      subst he
      have HKK := hide hKk
      clear hKk
      go_wp2_with fail
      go_ret
      refine ⟨some ⟨g, 0, none⟩, cv, vs, by rw [← HKK.out]; rfl, HB4.out.alloc HB4.out.size _, ?_⟩
      rw [← HKK.out]
      exact HQ4.out.later ((Below.refl _ _).alloc (Nat.le_refl _) _)
    · have he : ¬ m2 = m := fun e => hKk (HIFF.out.1 e)
      have hez : ((m2 : Int) == (m : Int)) = false := by simpa using (by omega : ¬ (m2 : Int) = (m : Int))
      have HKK := hide hKk
      have HHE := hide he
      clear hKk
      go_upto_region 6 with fail
      refine wp_gen fun w5 hw5 => ?_
      have hb5 : Below w4.heap.size w4 w5 := by rw [hw5]; exact (Below.refl _ _).alloc (Nat.le_refl _) _
      have HB5 := hide (HB4.out.trans (hb5.mono HB4.out.size))
      have HQ5 := hide (HQ4.out.later hb5)
      have HO5 := hide (HO4.out.later hb5)
      have HL5 : Hid (Blk w5 w4.heap.size 29 [.slice A4 m2 c4, .slice B4 m2 d4]) := hide (by rw [hw5]; exact Blk.new _ _ _)
      have l0 := HL5.out.cell 0 _ rfl
      have l1 := HL5.out.cell 1 _ rfl
      have HZN : Hid ((ser f s (k + 1)).1.length = m2 ∧ (ser f s (k + 1)).2.length = m2) := hide ⟨HM2.out, by rw [siz_snd HG.out]; exact HM2.out⟩
      have hs5 : w.heap.size ≤ w5.heap.size := HB5.out.size
      have hvl := HQ5.out.own.1
      clear hw5 hb5 HB4 HQ4 HO4 HL4
      go_wp2_with (at_builtin; refine wpList_append_own _ rfl _ _ 61 rfl w.heap.size 29 i0 (.agg #[.slice none 0 0, .slice none 0 0]) 2 48 Try.underlying61 hinf hz0 hz1 hz2 rfl (by decide) _ _ _ rfl (ownsRow_belowQ HQ5.out.own ((Below.refl _ _).alloc (Nat.le_refl _) _)) ⟨w5.heap.size, 0, none⟩ 1 1 [.slice A4 m2 c4, .slice B4 m2 d4] rfl rfl ?c1 ?c2 ?c3 ?c4 ?c5 ?_)
      try (case c1 => exact twoS_new)
      try (case c2 => exact twoS_one)
      try (case c3 => first | omega | (unfold maxLen; omega))
      try (case c4 => omega)
      try (case c5 => first | omega | (simp; omega))
      intro v' w6 hown' hgrow _
      have hq6 := HQ5.out.push (cA := c4) (cB := d4) (v' := v') (w1 := w6) (wx := w5.alloc (.cells #[.slice A4 m2 c4, .slice B4 m2 d4] 29)) hts htt (by first | exact HO5.out | exact HO5.out) ((Below.refl _ _).alloc (Nat.le_refl _) _) hgrow (by rw [HZN.out.1, HZN.out.2]; exact hown')
      have HQ6 := hide hq6
      have hB6 : Below w.heap.size w w6 := (HB5.out.alloc hs5 _).grown hgrow (by simp; omega) (fun g2 hg2 => by
        have h := hg2
        simp [Value.ownBlock] at h
        omega)
      have HB6 := hide hB6
      clear hown' hgrow hq6 hB6 l0 l1
      go_wp2_with fail
      go_roundw
      case rel => exact ⟨k + 1, _, by have := HKK.out; omega, HB6.out, HQ6.out⟩
      case measure =>
        obtain ⟨g6, c6, e6, _⟩ := HQ6.out.base (Nat.succ_pos _)
        subst e6
        simp [lenOf8]
        omega
end Go.Proofs.Ytgmloaemnbnbgaa
