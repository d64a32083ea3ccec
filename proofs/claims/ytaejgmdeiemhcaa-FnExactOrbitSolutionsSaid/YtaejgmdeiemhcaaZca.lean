import Derived.Test.YtaejgmdeiemhcaaZbz
import Derived.Test.YtaejgmdeiemhcaaZbt
import Derived.Test.YtaejgmdeiemhcaaZap
import Derived.Test.YtaejgmdeiemhcaaZs
import Derived.Test.YtaejgmdeiemhcaaZan
import Derived.Test.YtaejgmdeiemhcaaZbx
import Derived.Test.YtaejgmdeiemhcaaZbo
import Derived.Deep.Cut
import Derived.Deep.RegionHeld3
import Derived.Test.YtaejgmdeiemhcaaZi
import Derived.Test.YtaejgmdeiemhcaaZe
namespace Go.Proofs.Ytaejgmdeiemhcaa
open Go Go.RowKit
set_option maxHeartbeats 2000000
/-- A list of solutions in new memory, and a code. -/
def QPost (ts t tq : TypeId) (n : Nat) (zs : List SolV) (code : Int) (w : World) (e : Ending) (w' : World) : Prop :=
  ∃ A c, e = .returned (.tuple #[.slice A n c, .int .i64 code]) ∧ Below w.heap.size w w' ∧ ((A = none ∧ zs = []) ∨ ∃ g R S C D p, A = some ⟨g, 0, none⟩ ∧ w.heap.size ≤ g ∧ QW ts t tq w' g R S C D p zs ∧ p n ≤ w'.heap.size)
theorem osoInfo : (Try.prog.info? 28).map (fun i => (i.zero, i.size, i.bytes)) = some (some (.agg #[.slice none 0 0, .slice none 0 0]), 2, 48) := by kernel_rfl
theorem elO_any (A : Option Addr) (n c : Nat) (f s : List (List Int)) (k : Nat) (E : List Int) (le : Nat) (w : World) (hn : f.length = n) (hol : (orbS f s).length = n) (hb : n ≤ 4096) (hE : orbE f s k = E) (hle : E.length = le) (hr : Rd w A (orbS f s)) :
    Calls Try.prog 80 #[.slice A n c, .int .i64 (k : Int)] w fun e w' => ∃ A' c', e = .returned (.slice A' le c') ∧ Below w.heap.size w w' ∧ Res 2 w.heap.size w' A' E := by
  subst hn
  subst hE
  subst hle
  exact elL_any A f.length c (orbS f s) (k : Int) w hol hb hr
set_option maxRecDepth 100000 in
theorem osoI (A : Option Addr) (n c : Nat) (f : List (List Int)) (B : Option Addr) (m d : Nat) (s : List (List Int)) (zs : List SolV) (code : Int) (kz : Nat) (w : World) (hz : ZArg 1048576 w A n f B m s) (hr : OsoRes f s zs code) (hk : zs.length = kz) :
    Calls Try.prog 48 #[.agg #[.slice A n c, .slice B m d]] w (QPost 37 2 28 kz zs code w) := by
  have HZ := hide hz
  have HB0 := hide ((Below.refl _ w).alloc (Nat.le_refl _) (Obj.cells #[Value.slice A n c, Value.slice B m d] 28))
  have HK0 := hide (Blk.new w 28 [.slice A n c, .slice B m d])
  rcases hr with ⟨hg, rfl, rfl⟩ | ⟨hg, rfl, rfl⟩
  · obtain rfl := hz.same hg.map
    have h1 := (hg.sizes hz.sz.fl).1
    have h12 := (hg.sizes hz.sz.fl).2.1
    have HG := hide hg
    rw [osL_length] at hk
    subst hk
    clear hg hz
    go_enter Try.func48, Try.ntmps48
    go_wp2_with fail
    refine (nd7I _ _ _ f _ _ _ s true _ (HZ.out.later HB0.out) (by simp [HG.out])).mono ?_
    rintro e w1 ⟨rfl, hb1⟩
    have HB1 := hide (HB0.out.trans (hb1.mono HB0.out.size))
    have HK1 := hide (HK0.out.later hb1)
    have k0 := HK1.out.cell 0 _ rfl
    have k1 := HK1.out.cell 1 _ rfl
    clear hb1
    have hfn := HZ.out.sz.fl
    have hol := orbS_length f s
    rw [hfn] at hol
    have HOL := hide hol
    have HFN := hide hfn
    have hpos := orb_pos HG.out
    have hq12 : orbN f s ≤ 12 := by have := @orb_le f s; omega
    clear hfn hol
    go_wp2_with fail
    refine (orbZ_any _ _ _ f _ _ s _ (HZ.out.later HB1.out) HG.out).mono ?_
    rintro e w2 ⟨gl, cl, rfl, hb2, hg2, ho2⟩
    have HB2 := hide (HB1.out.trans (hb2.mono HB1.out.size))
    have HK2 := hide (HK1.out.later hb2)
    have HL2 := hide ho2
    clear hb2 ho2 k0 k1
    go_wp2_with fail
    refine (max_any _ m _ (orbS f s) ((orbN f s : Int) - 1) _ HOL.out h1 (by omega) HL2.out.rd (orb_max HG.out)).mono ?_
    rintro e w3 ⟨rfl, hb3⟩
    have HB3 := hide (HB2.out.trans (hb3.mono HB2.out.size))
    have HK3 := hide (HK2.out.later hb3)
    have HL3 := hide (HL2.out.later hb3 HL2.out.lt)
    clear hb3
    obtain ⟨q, hq⟩ : ∃ q, orbN f s = q := ⟨_, rfl⟩
    rw [hq] at hpos hq12 ⊢
    have HQ := hide hq
    obtain ⟨u, hu⟩ : ∃ u : Int, (q : Int) - 1 = u := ⟨_, rfl⟩
    have hus : u + 1 = (q : Int) := by omega
    have hu0 : 0 ≤ u := by omega
    have hu1 : u ≤ 12 := by omega
    rw [hu]
    clear hq hu
    obtain ⟨i0, hinf, hz0, hz1, hz2⟩ := info_parts osoInfo
    have hmk := make2b Try.prog 46 28 (.slice none 0 0) (.slice none 0 0) i0 _ Try.underlying46 hinf hz0 hz1 hz2 rfl q (by omega)
    obtain ⟨g, hg⟩ : ∃ g, w3.heap.size = g := ⟨_, rfl⟩
    go_upto_region 5 with fail
    refine wp_gen fun w4 hw4 => ?_
    have hb4 : Below w3.heap.size w3 w4 := by rw [hw4]; exact (Below.refl _ _).alloc (Nat.le_refl _) _
    have HB4 := hide (HB3.out.trans (hb4.mono HB3.out.size))
    have HK4 := hide (HK3.out.later hb4)
    have HL4 := hide (HL3.out.later hb4 HL3.out.lt)
    have hgw : w.heap.size ≤ g := by rw [← hg]; exact HB3.out.size
    have hgne : w.heap.size ≠ g := by have := HK3.out.lt; omega
    have hlg : gl < g := by rw [← hg]; exact HL3.out.lt
    have hs4 : w4.heap.size = g + 1 := by rw [hw4, ← hg]; simp
    have HP4 : Hid (QP 37 2 28 w4 g q 0 (fun _ => none) (fun _ => none) (fun _ => 0) (fun _ => 0) (fun _ => g + 1) (osZ f s)) := hide ⟨by
      rw [hw4, ← hg]
      exact (made2_row _ _ _ _ q).congr fun i _ => by
        unfold qpC
        rw [if_neg (show ¬ i / 2 < 0 by omega)]
        by_cases h : i % 2 = 0
        · rw [if_pos h]
        · rw [if_neg h], by show g < g + 1; omega, fun i hi => absurd hi (Nat.not_lt_zero _), by show g + 1 ≤ _; omega, fun i hi => absurd hi (Nat.not_lt_zero _)⟩
    try rw [hg]
    clear hw4 hb4 hmk hg HB3 HK3 HL3 HB2 HK2 HL2
    go_wp2_with fail
    go_loopw [18] (fun i wr => ∃ (k : Nat) (R S : Nat → Option Addr) (C D p : Nat → Nat), k ≤ q ∧ i = .int .i64 (k : Int) ∧ Below w.heap.size w wr ∧ Blk wr w.heap.size 28 [.slice A m c, .slice B m d] ∧ OwnB 2 wr gl (orbS f s) ∧ QP 37 2 28 wr g q k R S C D p (osZ f s)) (fun i _ => q - (intOf i).toNat)
    case atStart => exact ⟨0, _, _, _, _, _, Nat.zero_le _, rfl, HB4.out, HK4.out, HL4.out, HP4.out⟩
    case round =>
      clear HB4 HK4 HL4 HP4
      obtain ⟨k, R, S, C, D, p, hk, rfl, hbe, hkk, hl, hp⟩ := hrel
      have HBc := hide hbe
      have HKc := hide hkk
      have HLc := hide hl
      have HPc := hide hp
      clear hbe hkk hl hp
      by_cases hlt : k < q
      · have hltz : (k : Int) < q := by omega
        have hoN : k < orbN f s := by rw [HQ.out]; exact hlt
        have hsr : SubRes f s (orbE f s k) (osZ f s k).1 (osZ f s k).2 0 := .inl ⟨HG.out.map, orbE_set HG.out hoN, orbE_closed HG.out k, rfl, rfl, rfl⟩
        have hqs := osL_sz HG.out
        have hql := osL_length f s (orbN f s)
        have hzz := hqs.z (i := k) (by rw [hql]; exact hoN)
        rw [osL_at f s _ k hoN] at hzz
        have hel := orbE_le f s k
        rw [HFN.out] at hel
        obtain ⟨E, hE⟩ : ∃ E, orbE f s k = E := ⟨_, rfl⟩
        obtain ⟨zf, hzf⟩ : ∃ z, (osZ f s k).1 = z := ⟨_, rfl⟩
        obtain ⟨zg, hzg⟩ : ∃ z, (osZ f s k).2 = z := ⟨_, rfl⟩
        rw [hE, hzf, hzg] at hsr
        rw [hE] at hel
        rw [hzf, hzg] at hzz
        obtain ⟨le, hle⟩ : ∃ l, E.length = l := ⟨_, rfl⟩
        obtain ⟨kf, hkf⟩ : ∃ l, zf.length = l := ⟨_, rfl⟩
        obtain ⟨kg, hkg⟩ : ∃ l, zg.length = l := ⟨_, rfl⟩
        rw [hle] at hel
        rw [hkf, hkg] at hzz
        have HSR := hide hsr
        have HSZ := hide hzz
        have HEE := hide hE
        have HLE := hide hle
        have HZF := hide hzf
        have HZG := hide hzg
        have HKF := hide hkf
        have HKG := hide hkg
        clear hqs hql hzz hsr hE hzf hzg hle hkf hkg hoN
        have k0 := HKc.out.cell 0 _ rfl
        have k1 := HKc.out.cell 1 _ rfl
        have g0 := HPc.out.row.cell (i := k * 2) (by omega)
        have g1 := HPc.out.row.cell (i := k * 2 + 1) (by omega)
        have z0 := HPc.out.row.frozen (k * 2)
        have z1 := HPc.out.row.frozen (k * 2 + 1)
        go_wp2_with fail
        go_region_held3 (fun w' => w'.cell? ⟨w.heap.size, 0, none⟩ = some (.slice A m c) ∧ w'.cell? ⟨w.heap.size, 1, none⟩ = some (.slice B m d)) (first | exact ⟨k0, k1⟩ | exact ⟨s0, s1⟩ | go_keep) (first | (go_at_call 80; go_must (refine calls_gen fun wc hwc => ?_; (first | have hbx := drew_below hwc | have hbx := eq_below hwc); replace HBc := hide (HBc.out.trans (hbx.mono HBc.out.size)); replace HKc := hide (HKc.out.later hbx); replace HLc := hide (HLc.out.later hbx HLc.out.lt); replace HPc := hide (HPc.out.later hbx); clear hwc hbx; refine (elO_any _ m _ f s k E le _ HFN.out HOL.out (by omega) HEE.out HLE.out HLc.out.rd).mono ?_; rintro e wd ⟨A2, c2, rfl, hbd, hres⟩; replace HBc := hide (HBc.out.trans (hbd.mono HBc.out.size)); replace HKc := hide (HKc.out.later hbd); replace HLc := hide (HLc.out.later hbd HLc.out.lt); replace HPc := hide (HPc.out.later hbd); have HE := hide hres.rd; clear hbd hres; have k0 := HKc.out.cell 0 _ rfl; have k1 := HKc.out.cell 1 _ rfl; have g0 := HPc.out.row.cell (i := k * 2) (by omega); have g1 := HPc.out.row.cell (i := k * 2 + 1) (by omega); have z0 := HPc.out.row.frozen (k * 2); have z1 := HPc.out.row.frozen (k * 2 + 1))) | (go_at_call 79; go_must (refine calls_gen fun wc hwc => ?_; (first | have hbx := drew_below hwc | have hbx := eq_below hwc); replace HBc := hide (HBc.out.trans (hbx.mono HBc.out.size)); replace HKc := hide (HKc.out.later hbx); replace HLc := hide (HLc.out.later hbx HLc.out.lt); replace HPc := hide (HPc.out.later hbx); replace HE := hide (HE.out.later hbx); clear hwc hbx; have hlo := HPc.out.top; refine (sbI_any _ m _ f _ _ _ s _ le _ E zf zg 0 kf kg _ (HZ.out.later HBc.out) HLE.out (by omega) HE.out HSR.out HSZ.out).mono ?_; rintro e wd ⟨A3, c3, B3, d3, rfl, hbd, hob⟩; obtain ⟨lq, hlq⟩ : ∃ l, wc.heap.size = l := ⟨_, rfl⟩; rw [hlq] at hob hlo; have hl2 : lq ≤ wd.heap.size := (by rw [← hlq]; exact hbd.size); replace HBc := hide (HBc.out.trans (hbd.mono HBc.out.size)); replace HKc := hide (HKc.out.later hbd); replace HLc := hide (HLc.out.later hbd HLc.out.lt); replace HPc := hide (HPc.out.later hbd); have HOB := hide hob; clear hbd hob hlq; have k0 := HKc.out.cell 0 _ rfl; have k1 := HKc.out.cell 1 _ rfl; have g0 := HPc.out.row.cell (i := k * 2) (by omega); have g1 := HPc.out.row.cell (i := k * 2 + 1) (by omega); have z0 := HPc.out.row.frozen (k * 2); have z1 := HPc.out.row.frozen (k * 2 + 1); have ks := (HKc.out.far (p := ⟨g, k * 2, none⟩) hgne (.slice A3 kf c3)).far (p := ⟨g, k * 2 + 1, none⟩) hgne (.slice B3 kg d3); have s0 := ks.cell 0 _ rfl; have s1 := ks.cell 1 _ rfl; have HKs := hide ks; clear ks)))
        all_goals (
          have hp9 := HPc.out.step (vA := A3) (vB := B3) (cA := c3) (cB := d3) (l := lq) hlt hlo hl2 (by rw [HZF.out, HZG.out]; exact HOB.out)
          rw [HZF.out, HZG.out, HKF.out, HKG.out] at hp9
          have HP9 := hide hp9
          have HB9 := hide ((HBc.out.setCell (p := ⟨g, k * 2, none⟩) hgw (.slice A3 kf c3)).setCell (p := ⟨g, k * 2 + 1, none⟩) hgw (.slice B3 kg d3))
          clear hp9
          have HL9 := hide ((HLc.out.far (p := ⟨g, k * 2, none⟩) (by show gl ≠ g; omega) (.slice A3 kf c3)).far (p := ⟨g, k * 2 + 1, none⟩) (by show gl ≠ g; omega) (.slice B3 kg d3))
          clear k0 k1 g0 g1 z0 z1 s0 s1
          go_wp2_with fail
          go_roundw
          case rel => exact ⟨k + 1, _, _, _, _, _, by omega, by go_num, HB9.out, HKs.out, HL9.out, HP9.out⟩
          case measure => simp [intOf]; omega)
      · have hkq : k = q := by omega
        subst hkq
        go_wp2_with fail
        go_ret2
        rw [HQ.out]
        exact ⟨_, _, rfl, HBc.out, .inr ⟨g, R, S, C, D, p, rfl, hgw, HPc.out.done, HPc.out.top⟩⟩
  · skip
    have hk2 : kz = 0 := by rw [← hk]; rfl
    subst hk2
    clear hk
    have HG := hide hg
    clear hg hz
    go_enter Try.func48, Try.ntmps48
    go_wp2_with fail
    refine (nd7I _ _ _ f _ _ _ s false _ (HZ.out.later HB0.out) (by simp [HG.out])).mono ?_
    rintro e w1 ⟨rfl, hb1⟩
    have HB1 := hide (HB0.out.trans (hb1.mono HB0.out.size))
    clear hb1
    go_wp2_with fail
    go_ret2
    exact ⟨_, _, rfl, HB1.out, .inl ⟨rfl, rfl⟩⟩

end Go.Proofs.Ytaejgmdeiemhcaa
namespace Go.Proofs.Ytaejgmdeiemhcaa
open Go Go.RowKit
/-! A list of solutions that grows by append. -/
/-- Blocks of other types than tq stay. -/
def KeepB (tq : TypeId) (w w' : World) : Prop := w.heap.size ≤ w'.heap.size ∧ ∀ (j : Nat) (cur : Array Value) (ty : TypeId) (fr : Nat × Nat), w.heap[j]? = some (.cells cur ty fr) → ty ≠ tq → w'.heap[j]? = w.heap[j]?
section
variable {ts t tq : TypeId} {w w' : World} {lo hi : Nat} {A B : Option Addr} {f s rows : List (List Int)} {xs : List Int}
theorem Obj1.keptB (h : Obj1 t lo hi w A xs) (hk : KeepB tq w w') (h2 : t ≠ tq) : Obj1 t lo hi w' A xs := by
  rcases h with h | ⟨g, e, h1, h3, h4⟩
  · exact .inl h
  · refine .inr ⟨g, e, h1, h3, ?_⟩
    obtain ⟨cur, hc, hr⟩ := h4
    exact ⟨cur, (hk.2 g cur t (0, 0) hc h2).trans hc, hr⟩
theorem Obj2.keptB (h : Obj2 ts t lo hi w A rows) (hk : KeepB tq w w') (h1 : ts ≠ tq) (h2 : t ≠ tq) : Obj2 ts t lo hi w' A rows := by
  rcases h with h | ⟨g, R, C, e, k1, k2, ⟨cur, hc, hr⟩, ho, hd⟩
  · exact .inl h
  · exact .inr ⟨g, R, C, e, k1, k2, ⟨cur, (hk.2 g cur ts (0, 0) hc h1).trans hc, hr⟩, fun i hi => (ho i hi).keptB hk h2, hd⟩
theorem ObjW.keptB (h : ObjW ts t lo hi w A f B s) (hk : KeepB tq w w') (h1 : ts ≠ tq) (h2 : t ≠ tq) : ObjW ts t lo hi w' A f B s := ⟨h.1.keptB hk h1 h2, h.2.keptB hk h1 h2⟩
structure QL (ts t tq : TypeId) (B0 : Nat) (w : World) (v : Value) (k : Nat) (zs : Nat → SolV) (vs : List Value) : Prop where
  own : w.ownsRow B0 tq 2 v k vs
  obj : ∀ i, i < k → ∃ Ai ci Bi di, vs[i * 2]? = some (.slice Ai (zs i).1.length ci) ∧ vs[i * 2 + 1]? = some (.slice Bi (zs i).2.length di) ∧ ∃ lo hi, ObjW ts t lo hi w Ai (zs i).1 Bi (zs i).2
variable {B0 k : Nat} {v v' : Value} {zs : Nat → SolV} {vs : List Value} {w1 wx : World}
theorem ownsRow_belowQ {n : Nat} (h : w.ownsRow B0 tq 2 v n vs) (hb : Below w.heap.size w w') : w'.ownsRow B0 tq 2 v n vs := by
  refine ⟨h.1, ?_⟩
  rcases h.2 with h2 | ⟨g, cap, cur, hv, hg, hh, r⟩
  · exact .inl h2
  · exact .inr ⟨g, cap, cur, hv, hg, (hb.block g (Array.getElem?_eq_some_iff.1 hh).1).trans hh, r⟩
theorem QL.later (h : QL ts t tq B0 w v k zs vs) (hb : Below w.heap.size w w') : QL ts t tq B0 w' v k zs vs :=
  ⟨ownsRow_belowQ h.own hb, fun i hi => by
    obtain ⟨Ai, ci, Bi, di, h1, h2, lo, hi2, h3⟩ := h.obj i hi
    exact ⟨Ai, ci, Bi, di, h1, h2, lo, hi2, h3.later hb⟩⟩
theorem QL.keep (h : QL ts t tq B0 w v k zs vs) (hb : Below w.heap.size w wx) (hg : wx.grownBy w1 v.ownBlock) : KeepB tq w w1 := by
  refine ⟨Nat.le_trans hb.size hg.size, fun j cur ty fr hj hne => ?_⟩
  have hl := (Array.getElem?_eq_some_iff.1 hj).1
  refine (hg.block j (Nat.lt_of_lt_of_le hl hb.size) (fun e => ?_)).trans (hb.block j hl)
  rcases h.own.2 with ⟨h2, _⟩ | ⟨g, cap, c2, hv, _, hh, _⟩
  · rw [h2] at e; simp [Value.ownBlock] at e
  · rw [hv] at e
    have e2 : j = g := by simpa [Value.ownBlock] using e
    subst e2
    rw [hj] at hh
    injection hh with hh
    injection hh with _ h5 _
    exact hne h5
theorem QL.push {cA cB : Nat} (h : QL ts t tq B0 w v k zs vs) (h1 : ts ≠ tq) (h2 : t ≠ tq) (hz : ObjW ts t lo hi w A (zs k).1 B (zs k).2) (hb : Below w.heap.size w wx) (hg : wx.grownBy w1 v.ownBlock) (hown : w1.ownsRow B0 tq 2 v' (k + 1) (vs ++ [.slice A (zs k).1.length cA, .slice B (zs k).2.length cB])) :
    QL ts t tq B0 w1 v' (k + 1) zs (vs ++ [.slice A (zs k).1.length cA, .slice B (zs k).2.length cB]) := by
  have hk := h.keep hb hg
  have hl := h.own.1
  refine ⟨hown, fun i hi2 => ?_⟩
  by_cases e : i = k
  · subst e
    exact ⟨A, cA, B, cB, by rw [List.getElem?_append_right (by omega), hl]; simp, by rw [List.getElem?_append_right (by omega), hl, show i * 2 + 1 - i * 2 = 1 by omega]; rfl, lo, hi, hz.keptB hk h1 h2⟩
  · obtain ⟨Ai, ci, Bi, di, k1, k2, l2, hi3, k3⟩ := h.obj i (by omega)
    exact ⟨Ai, ci, Bi, di, by rw [List.getElem?_append_left (by omega)]; exact k1, by rw [List.getElem?_append_left (by omega)]; exact k2, l2, hi3, k3.keptB hk h1 h2⟩
theorem QL.rd {c : Nat} {A : Option Addr} {fz sz : List (List Int)} (h : QL ts t tq B0 w (.slice A k c) k (osZ fz sz) vs) : RdQ w A (osL fz sz k) := by
  intro h0
  have hl := osL_length fz sz k
  rcases h.own.2 with ⟨_, h2⟩ | ⟨g, cap, cur, hv, hg, hh, hn, _, _, htk⟩
  · omega
  · injection hv with e1 e2 e3
    refine ⟨g, 0, e1, (Array.getElem?_eq_some_iff.1 hh).1, fun i hi => ?_⟩
    obtain ⟨Ai, ci, Bi, di, k1, k2, l2, hi3, k3⟩ := h.obj i (by omega)
    rw [osL_at fz sz k i (by omega)]
    have at_ : ∀ j u, vs[j]? = some u → w.cell? ⟨g, j, none⟩ = some u := fun j u hj => by
      rw [cell_of_row w g j cur tq (0, 0) hh]
      have hjl : j < vs.length := (List.getElem?_eq_some_iff.1 hj).1
      have := h.own.1
      rw [← htk, List.getElem?_take, if_pos (by omega)] at hj
      simpa using hj
    exact ⟨Ai, ci, Bi, di, by rw [Nat.zero_add]; exact at_ _ _ k1, by rw [Nat.zero_add]; exact at_ _ _ k2, k3.fst, k3.snd⟩
theorem QL.app {w0 : World} {cA cB gl : Nat} {T : TypeId} {cs : List Value} (h : QL ts t tq (w0.heap.size + 1) w v k zs vs) (h1 : ts ≠ tq) (h2 : t ≠ tq) (hz : ObjW ts t lo hi w A (zs k).1 B (zs k).2) (hb : Below w.heap.size w wx) (hg : wx.grownBy w1 v.ownBlock) (hown : w1.ownsRow (w0.heap.size + 1) tq 2 v' (k + 1) (vs ++ [.slice A (zs k).1.length cA, .slice B (zs k).2.length cB])) (HB : Below w0.heap.size w0 w) (HK : Blk w w0.heap.size T cs) (HL : OwnB t w gl xs) :
    Below w0.heap.size w0 w1 ∧ Blk w1 w0.heap.size T cs ∧ OwnB t w1 gl xs ∧ QL ts t tq (w0.heap.size + 1) w1 v' (k + 1) zs (vs ++ [.slice A (zs k).1.length cA, .slice B (zs k).2.length cB]) := by
  have hown2 : ∀ g, v.ownBlock = some g → w0.heap.size + 1 ≤ g := by
    intro g e
    rcases h.own.2 with ⟨h3, _⟩ | ⟨g3, cap, c2, hv, hg3, _⟩
    · rw [h3] at e; simp [Value.ownBlock] at e
    · rw [hv] at e
      have e2 : g3 = g := by simpa [Value.ownBlock] using e
      omega
  refine ⟨(HB.trans (hb.mono HB.size)).grown hg (Nat.le_trans HB.size hb.size) (fun g e => by have := hown2 g e; omega), ?_, ?_, h.push h1 h2 hz hb hg hown⟩
  · have hl := (Array.getElem?_eq_some_iff.1 HK).1
    exact ((hg.block w0.heap.size (Nat.lt_of_lt_of_le hl hb.size) (fun e => by have := hown2 _ e.symm; omega)).trans (hb.block _ hl)).trans HK
  · obtain ⟨cur, hc, hr⟩ := HL
    exact ⟨cur, ((h.keep hb hg).2 gl cur t (0, 0) hc h2).trans hc, hr⟩
theorem twoS_new {a b : Value} {t : TypeId} : ∀ j u, [a, b][j]? = some u → (w.alloc (.cells #[a, b] t)).cell? ((⟨w.heap.size, 0, none⟩ : Addr).add j) = some u := by
  intro j u hj
  have e : ((⟨w.heap.size, 0, none⟩ : Addr).add j) = ⟨w.heap.size, j, none⟩ := by
    cases j with
    | zero => rfl
    | succ j => simp [Addr.add]
  rw [e, cell_of_row _ _ _ #[a, b] t (0, 0) (heap_alloc_new _ _)]
  simpa using hj
theorem twoS_one {A B : Option Addr} {a b c d : Nat} : ∀ u ∈ [Value.slice A a b, Value.slice B c d], u.oneCell' = true := by
  intro u hu
  simp at hu
  rcases hu with rfl | rfl <;> rfl
theorem QL.nil (B0 : Nat) (w : World) (g : Nat) (h : w.heap[g]? = some (.cells #[] tq (0, 0))) (hB : B0 ≤ g) : QL ts t tq B0 w (.slice (some ⟨g, 0, none⟩) 0 0) 0 zs [] :=
  ⟨⟨by simp, .inr ⟨g, 0, #[], rfl, hB, h, Nat.le_refl _, by unfold maxLen; omega, by simp, by simp⟩⟩, fun i hi => absurd hi (Nat.not_lt_zero _)⟩
end
end Go.Proofs.Ytaejgmdeiemhcaa
