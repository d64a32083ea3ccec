import Derived.Test.YtgmloaemnbnbgaaZbd
import Derived.Test.YtgmloaemnbnbgaaZv
import Derived.Test.YtgmloaemnbnbgaaZbg
import Derived.Test.YtgmloaemnbnbgaaZao
import Derived.Deep.Cut
import Derived.Deep.RegionHeld3
namespace Go.Proofs.Ytgmloaemnbnbgaa
open Go Go.RowKit
set_option maxHeartbeats 4000000
/-- Where the last solution of a list lies. -/
def QLs (ts t : TypeId) (B0 : Nat) (w : World) (vs : List Value) (z : SolV) (k : Nat) : Prop := ∃ Ai ci Bi di, vs[k * 2]? = some (.slice Ai z.1.length ci) ∧ vs[k * 2 + 1]? = some (.slice Bi z.2.length di) ∧ ObjW ts t B0 w.heap.size w Ai z.1 Bi z.2
theorem QLs.later {ts t : TypeId} {B0 k : Nat} {w w' : World} {vs : List Value} {z : SolV} (h : QLs ts t B0 w vs z k) (hb : Below w.heap.size w w') : QLs ts t B0 w' vs z k := by
  obtain ⟨Ai, ci, Bi, di, h1, h2, h3⟩ := h
  exact ⟨Ai, ci, Bi, di, h1, h2, (h3.later hb).mono (Nat.le_refl _) hb.size⟩
theorem QL.last {ts t tq : TypeId} {B0 k : Nat} {w : World} {zs : Nat → SolV} {vs : List Value} {v : Value} (h : QL ts t tq B0 w v (k + 1) zs vs) (hl : QLs ts t B0 w vs (zs k) k) : ∃ g c, v = .slice (some ⟨g, 0, none⟩) (k + 1) c ∧ B0 ≤ g ∧ g < w.heap.size ∧ ∃ Ai ci Bi di, w.cell? ⟨g, k * 2, none⟩ = some (.slice Ai (zs k).1.length ci) ∧ w.cell? ⟨g, k * 2 + 1, none⟩ = some (.slice Bi (zs k).2.length di) ∧ ObjW ts t B0 w.heap.size w Ai (zs k).1 Bi (zs k).2 := by
  rcases h.own.2 with ⟨_, h2⟩ | ⟨g, cap, cur, hv, hg, hh, hn, _, _, htk⟩
  · omega
  · refine ⟨g, cap, hv, hg, (Array.getElem?_eq_some_iff.1 hh).1, ?_⟩
    obtain ⟨Ai, ci, Bi, di, k1, k2, k3⟩ := hl
    have at_ : ∀ j u, vs[j]? = some u → w.cell? ⟨g, j, none⟩ = some u := fun j u hj => by
      rw [cell_of_row w g j cur tq (0, 0) hh]
      have hjl : j < vs.length := (List.getElem?_eq_some_iff.1 hj).1
      have := h.own.1
      rw [← htk, List.getElem?_take, if_pos (by omega)] at hj
      simpa using hj
    exact ⟨Ai, ci, Bi, di, at_ _ _ k1, at_ _ _ k2, k3⟩
set_option maxRecDepth 100000 in
theorem serL_any (A : Option Addr) (n c : Nat) (f : List (List Int)) (B : Option Addr) (d : Nat) (s : List (List Int)) (w : World) (hz : ZArg 1048576 w A n f B n s) (hg : NdS f s) :
    Calls Try.prog 55 #[.agg #[.slice A n c, .slice B n d]] w fun e w' => ∃ A' c' vs, e = .returned (.slice A' (serK f s + 1) c') ∧ Below w.heap.size w w' ∧ QL 26 2 29 w.heap.size w' (.slice A' (serK f s + 1) c') (serK f s + 1) (ser f s) vs ∧ QLs 26 2 w.heap.size w' vs (ser f s (serK f s)) (serK f s) := by
  have HZ := hide hz
  have HG := hide hg
  have HFL := hide hz.sz.fl
  have HSL := hide hz.sz.sl
  have hK := serK_lt hg
  obtain ⟨K, hKe⟩ : ∃ K, serK f s = K := ⟨_, rfl⟩
  rw [hKe] at hK ⊢
  have HKE := hide hKe
  have HB0 := hide ((Below.refl _ w).alloc (Nat.le_refl _) (Obj.cells #[Value.slice A n c, Value.slice B n d] 29))
  have HK0 := hide (Blk.new w 29 [.slice A n c, .slice B n d])
  have k0 := HK0.out.cell 0 _ rfl
  have k1 := HK0.out.cell 1 _ rfl
  have hts : 26 ≠ 29 := by decide
  have htt : 2 ≠ 29 := by decide
  obtain ⟨i0, hinf, hz0, hz1, hz2⟩ := info_parts s8Info
  clear hz hg hKe
  go_enter Try.func55, Try.ntmps55
  go_wp2_with fail
  refine (lownS_any _ n _ f _ _ s _ (HZ.out.later HB0.out) HG.out.map).mono ?_
  rintro e w1 ⟨A1, c1, B1, d1, rfl, hb1, hob⟩
  have HB1 := hide (HB0.out.trans (hb1.mono HB0.out.size))
  have HOB := hide hob
  clear hb1 hob k0 k1
  have hq1 : QL 26 2 29 w.heap.size (w1.alloc (.cells #[.slice A1 n c1, .slice B1 n d1] 29)) (.slice (some ⟨w1.heap.size, 0, none⟩) 1 1) 1 (ser f s) [.slice A1 n c1, .slice B1 n d1] := QL.one (zs := ser f s) (cA := c1) (cB := d1) HOB.out HB1.out.size (by show _ = Value.slice A1 f.length c1; rw [HFL.out]) (by show _ = Value.slice B1 s.length d1; rw [HSL.out])
  have HQ1 := hide hq1
  have hs1 : QLs 26 2 w.heap.size (w1.alloc (.cells #[.slice A1 n c1, .slice B1 n d1] 29)) [.slice A1 n c1, .slice B1 n d1] (ser f s 0) 0 := ⟨A1, c1, B1, d1, by show some _ = some (Value.slice A1 f.length c1); rw [HFL.out], by show some _ = some (Value.slice B1 s.length d1); rw [HSL.out], (HOB.out.later ((Below.refl _ _).alloc (Nat.le_refl _) _)).mono HB0.out.size (by simp)⟩
  have HS1 := hide hs1
  clear hq1 hs1
  go_wp2_with fail
  go_loopw [3] (fun v wr => ∃ (k : Nat) (vs : List Value), k ≤ K ∧ Below w.heap.size w wr ∧ QL 26 2 29 w.heap.size wr v (k + 1) (ser f s) vs ∧ QLs 26 2 w.heap.size wr vs (ser f s k) k) (fun v _ => 13 - lenOf8 v)
  case atStart => exact ⟨0, _, Nat.zero_le _, HB1.out.alloc HB1.out.size _, HQ1.out, HS1.out⟩
  case round =>
    clear HB1 HQ1 HS1 HOB
    obtain ⟨k, vs, hk, hbe, hql, hls⟩ := hrel
    obtain ⟨g, cv, rfl, hBg, hgw, hcell⟩ := hql.base (Nat.succ_pos _)
    obtain ⟨Ai, ci, Bi, di, q1, q2, lo, hi, hob⟩ := hcell k (Nat.lt_succ_self _)
    have HB := hide hbe
    have HQ := hide hql
    have HLS := hide hls
    have HNK := hide (ser_nds HG.out k)
    have hsz := siz_snd HG.out k
    rw [hsz] at q2
    have hzk := ser_zarg HNK.out hob
    have hsk := siz_12 HG.out k
    have hsk0 := siz_pos HG.out k
    have hnext := siz_succ f s k
    have hiff := serK_iff HG.out (k := k) (by rw [HKE.out]; exact hk)
    rw [HKE.out] at hiff
    obtain ⟨m, hm⟩ : ∃ m, siz f s k = m := ⟨_, rfl⟩
    have hm1 : (ser f s k).1.length = m := hm
    rw [hm1] at q1 hzk
    rw [hm] at q2 hsk hsk0 hiff
    obtain ⟨m2, hm2⟩ : ∃ m, siz f s (k + 1) = m := ⟨_, rfl⟩
    rw [hm2] at hnext hiff
    have HIFF := hide hiff
    have HM2 := hide hm2
    have HNX := hide hnext
    have HZK := hide hzk
    have hadd : ((k + 1 : Nat) : Int) - 1 = (k : Int) := by omega
    clear hbe hql hls hcell hob hsz hnext hiff hm hm1 hzk hm2
    go_wp2_with fail
    refine calls_gen fun w3 hw3 => ?_
    have hb3 : Below wr.heap.size wr w3 := by rw [hw3]; exact (Below.refl _ _).alloc (Nat.le_refl _) _
    have HB3 := hide (HB.out.trans (hb3.mono HB.out.size))
    have HQ3 := hide (HQ.out.later hb3)
    have HL3 : Hid (Blk w3 wr.heap.size 29 [.slice Ai m ci, .slice Bi m di]) := hide (by rw [hw3]; exact Blk.new _ _ _)
    replace HZK := hide (HZK.out.later hb3)
    replace HLS := hide (HLS.out.later hb3)
    clear hw3 hb3 q1 q2 HB HQ
    refine (retS_any _ _ _ (ser f s k).1 _ _ (ser f s k).2 _ HZK.out HNK.out).mono ?_
    unfold RtPost
    rw [← HNX.out]
    rintro e w4 ⟨A4, c4, B4, d4, rfl, hb4, ho4⟩
    have HB4 := hide (HB3.out.trans (hb4.mono HB3.out.size))
    have HQ4 := hide (HQ3.out.later hb4)
    have HL4 := hide (HL3.out.later hb4)
    have HO4 := hide (ho4.mono (lo' := w.heap.size) HB3.out.size (Nat.le_refl _))
    replace HLS := hide (HLS.out.later hb4)
    have l0 := fun o => (HL4.out.alloc o).cell 0 _ rfl
    clear hb4 ho4 HB3 HQ3 HL3
    by_cases hKk : k = K
    · have he : m2 = m := HIFF.out.2 hKk
      subst he
      have HKK := hide hKk
      clear hKk
      go_wp2_with fail
      go_ret
      refine ⟨some ⟨g, 0, none⟩, cv, vs, by rw [← HKK.out]; rfl, HB4.out.alloc HB4.out.size _, ?_, ?_⟩
      · rw [← HKK.out]
        exact HQ4.out.later ((Below.refl _ _).alloc (Nat.le_refl _) _)
      · rw [← HKK.out]
        exact HLS.out.later ((Below.refl _ _).alloc (Nat.le_refl _) _)
    · have he : ¬ m2 = m := fun e => hKk (HIFF.out.1 e)
      have hez : ((m2 : Int) == (m : Int)) = false := by simpa using (by omega : ¬ (m2 : Int) = (m : Int))
      have HKK := hide hKk
      have HHE := hide he
      clear hKk
      go_upto_region 6 with fail
      refine wp_gen fun w5 hw5 => ?_
      have hb5 : Below w4.heap.size w4 w5 := by rw [hw5]; exact (Below.refl _ _).alloc (Nat.le_refl _) _
      have HB5 := hide (HB4.out.trans (hb5.mono HB4.out.size))
      have HQ5 := hide (HQ4.out.later hb5)
      have HO5 := hide (HO4.out.later hb5)
      have HS45 := hide hb5.size
      have HL5 : Hid (Blk w5 w4.heap.size 29 [.slice A4 m2 c4, .slice B4 m2 d4]) := hide (by rw [hw5]; exact Blk.new _ _ _)
      have l0 := HL5.out.cell 0 _ rfl
      have l1 := HL5.out.cell 1 _ rfl
      have HZN : Hid ((ser f s (k + 1)).1.length = m2 ∧ (ser f s (k + 1)).2.length = m2) := hide ⟨HM2.out, by rw [siz_snd HG.out]; exact HM2.out⟩
      have hs5 : w.heap.size ≤ w5.heap.size := HB5.out.size
      have hvl := HQ5.out.own.1
      clear hw5 hb5 HB4 HQ4 HO4 HL4
      go_wp2_with (at_builtin; refine wpList_append_own _ rfl _ _ 61 rfl w.heap.size 29 i0 (.agg #[.slice none 0 0, .slice none 0 0]) 2 48 Try.underlying61 hinf hz0 hz1 hz2 rfl (by decide) _ _ _ rfl (ownsRow_belowQ HQ5.out.own ((Below.refl _ _).alloc (Nat.le_refl _) _)) ⟨w5.heap.size, 0, none⟩ 1 1 [.slice A4 m2 c4, .slice B4 m2 d4] rfl rfl ?c1 ?c2 ?c3 ?c4 ?c5 ?_)
      try (case c1 => exact twoS_new)
      try (case c2 => exact twoS_one)
      try (case c3 => first | omega | (unfold maxLen; omega))
      try (case c4 => omega)
      try (case c5 => first | omega | (simp; omega))
      intro v' w6 hown' hgrow _
      have hq6 := HQ5.out.push (cA := c4) (cB := d4) (v' := v') (w1 := w6) (wx := w5.alloc (.cells #[.slice A4 m2 c4, .slice B4 m2 d4] 29)) hts htt (by first | exact HO5.out | exact HO5.out) ((Below.refl _ _).alloc (Nat.le_refl _) _) hgrow (by rw [HZN.out.1, HZN.out.2]; exact hown')
      have HQ6 := hide hq6
      have h56 : w5.heap.size ≤ w6.heap.size := by have h := hgrow.size; simp at h; omega
      have hl6 : QLs 26 2 w.heap.size w6 (vs ++ [.slice A4 m2 c4, .slice B4 m2 d4]) (ser f s (k + 1)) (k + 1) := by
        have hl := HQ5.out.own.1
        refine ⟨A4, c4, B4, d4, ?_, ?_, (HO5.out.keptB (HQ5.out.keep ((Below.refl _ _).alloc (Nat.le_refl _) _) hgrow) hts htt).mono (Nat.le_refl _) (Nat.le_trans HS45.out h56)⟩
        · rw [HZN.out.1, List.getElem?_append_right (by omega), hl]; simp
        · rw [HZN.out.2, List.getElem?_append_right (by omega), hl, show (k + 1) * 2 + 1 - (k + 1) * 2 = 1 by omega]; rfl
      have HL6 := hide hl6
      have hB6 : Below w.heap.size w w6 := (HB5.out.alloc hs5 _).grown hgrow (by simp; omega) (fun g2 hg2 => by
        have h := hg2
        simp [Value.ownBlock] at h
        omega)
      have HB6 := hide hB6
      clear hown' hgrow hq6 hl6 hB6 l0 l1
      go_wp2_with fail
      go_roundw
      case rel => exact ⟨k + 1, _, by have := HKK.out; omega, HB6.out, HQ6.out, by rw [HZN.out.1, HZN.out.2]; exact HL6.out⟩
      case measure =>
        obtain ⟨g6, c6, e6, _⟩ := HQ6.out.base (Nat.succ_pos _)
        subst e6
        simp [lenOf8]
        omega
end Go.Proofs.Ytgmloaemnbnbgaa
namespace Go.Proofs.Ytgmloaemnbnbgaa
open Go Go.RowKit
attribute [local irreducible] serK lstTo siz ser
set_option maxHeartbeats 4000000
set_option maxRecDepth 100000 in
theorem laS (A : Option Addr) (n c : Nat) (f : List (List Int)) (B : Option Addr) (m d : Nat) (s : List (List Int)) (zf zg : List (List Int)) (code : Int) (kz kw : Nat) (w : World) (hz : ZArg 1048576 w A n f B m s) (hr : LaRes f s zf zg code) (hk : ZSz 1048576 zf kz zg kw) :
    Calls Try.prog 31 #[.agg #[.slice A n c, .slice B m d]] w (WPost 26 2 kz kw zf zg code w) := by
  have HZ := hide hz
  have HFL := hide hz.sz.fl
  rcases hr with ⟨hp, rfl, rfl, rfl⟩ | ⟨hp, rfl, rfl, rfl⟩
  · obtain rfl := hz.same hp.map
    have h1 := (hp.sizes hz.sz.fl).1
    have h12 := (hp.sizes hz.sz.fl).2.1
    have HG := hide hp
    have hkw : kw = kz := by rw [← hk.fl, ← hk.sl, ← siz_fst8]; exact siz_snd hp (serK f s)
    obtain rfl := hkw
    have HKZ : Hid (siz f s (serK f s) = kw) := hide (by rw [siz_fst8]; exact hk.fl)
    have HKL := hide hk.sl
    have hK := serK_lt hp
    clear hp hz hk
    go_enter Try.func31, Try.ntmps31
    go_wp2_with fail
    refine calls_gen fun w0 hw0 => ?_
    have hb0 : Below w.heap.size w w0 := by rw [hw0]; exact ((Below.refl _ _).alloc (Nat.le_refl _) _).alloc (by simp) _
    have HB0 := hide hb0
    have HK0 : Hid (Blk w0 w.heap.size 29 [.slice A m c, .slice B m d]) := hide (by rw [hw0]; exact (Blk.new _ _ _).alloc _)
    have HR0 : Hid (Blk w0 (w.heap.size + 1) 29 [.slice none 0 0, .slice none 0 0]) := hide (by rw [hw0]; have h := Blk.new (w.alloc (Obj.cells #[Value.slice A m c, Value.slice B m d] 29)) 29 [.slice none 0 0, .slice none 0 0]; simpa using h)
    clear hw0 hb0
    refine (nd7S _ _ _ f _ _ _ s true _ (HZ.out.later HB0.out) (by simp [HG.out])).mono ?_
    rintro e w1 ⟨rfl, hb1⟩
    have HB1 := hide (HB0.out.trans (hb1.mono HB0.out.size))
    have HK1 := hide (HK0.out.later hb1)
    have HR1 := hide (HR0.out.later hb1)
    have k0 := HK1.out.cell 0 _ rfl
    have k1 := HK1.out.cell 1 _ rfl
    clear hb1
    obtain ⟨K, hKe⟩ : ∃ K, serK f s = K := ⟨_, rfl⟩
    rw [hKe] at hK HKZ HKL ⊢
    have hcon := serL_any A m c f B d s w1 (HZ.out.later HB1.out) HG.out
    rw [hKe] at hcon
    have HKE := hide hKe
    clear hKe
    go_wp2_with fail
    refine hcon.mono ?_
    rintro e w2 ⟨A2, c2, vs, rfl, hb2, hql, hls⟩
    obtain ⟨g, c3, hv, hg1, hg2, Ai, ci, Bi, di, q1, q2, hob⟩ := hql.last hls
    injection hv with hv _ _
    subst hv
    have HB2 := hide (HB1.out.trans (hb2.mono HB1.out.size))
    have HR2 := hide (HR1.out.later hb2)
    have HOB := hide hob
    rw [← siz_fst8, HKZ.out] at q1
    rw [HKL.out] at q2
    have k2 := HR2.out.cell 0 _ rfl
    have k3 := HR2.out.cell 1 _ rfl
    have k4 := HR2.out.frozen 0
    have k5 := HR2.out.frozen 1
    have HS12 := hide hb2.size
    clear hb2 hql hls hob k0 k1 hcon
    go_wp2_with fail
    refine bp_gen fun wf hwf => ?_
    obtain ⟨e0, e1, hbf, hof⟩ := wend (w2 := w1) hwf HR2.out (by omega) HR1.out.lt HB2.out HB1.out.size HOB.out
    clear hwf k2 k3 k4 k5
    exact bodyPost_ret (v := .tuple #[.agg #[.slice Ai kw ci, .slice Bi kw di], .int .i64 0]) (by simp [results, Try.results31, go_sem, e0, e1]) rfl ⟨_, _, _, _, rfl, hbf, by rw [HKE.out]; exact hof⟩
  · have HP := hide hp
    obtain rfl : kz = 0 := by simpa using hk.fl.symm
    obtain rfl : kw = 0 := by simpa using hk.sl.symm
    clear hp hz hk
    go_enter Try.func31, Try.ntmps31
    go_wp2_with fail
    refine calls_gen fun w0 hw0 => ?_
    have hb0 : Below w.heap.size w w0 := by rw [hw0]; exact ((Below.refl _ _).alloc (Nat.le_refl _) _).alloc (by simp) _
    have HB0 := hide hb0
    have HR0 : Hid (Blk w0 (w.heap.size + 1) 29 [.slice none 0 0, .slice none 0 0]) := hide (by rw [hw0]; have h := Blk.new (w.alloc (Obj.cells #[Value.slice A n c, Value.slice B m d] 29)) 29 [.slice none 0 0, .slice none 0 0]; simpa using h)
    clear hw0 hb0
    refine (nd7S _ _ _ f _ _ _ s false _ (HZ.out.later HB0.out) (by simp [HP.out])).mono ?_
    rintro e w1 ⟨rfl, hb1⟩
    have HB1 := hide (HB0.out.trans (hb1.mono HB0.out.size))
    have HR1 := hide (HR0.out.later hb1)
    have k2 := HR1.out.cell 0 _ rfl
    have k3 := HR1.out.cell 1 _ rfl
    have k4 := HR1.out.frozen 0
    have k5 := HR1.out.frozen 1
    clear hb1
    go_wp2_with fail
    refine bp_gen fun wf hwf => ?_
    obtain ⟨q0, q1, hbf, hof⟩ := wend (ts := 26) (t := 2) (w2 := w1) hwf HR1.out (by omega) HR1.out.lt HB1.out HB1.out.size ObjW.empty
    clear hwf k2 k3 k4 k5
    exact bodyPost_ret (v := .tuple #[.agg #[.slice none 0 0, .slice none 0 0], .int .i64 1]) (by simp [results, Try.results31, go_sem, q0, q1]) rfl ⟨_, _, _, _, rfl, hbf, hof⟩
end Go.Proofs.Ytgmloaemnbnbgaa
