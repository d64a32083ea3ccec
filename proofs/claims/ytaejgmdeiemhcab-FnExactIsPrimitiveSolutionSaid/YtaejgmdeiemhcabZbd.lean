import Derived.Test.YtaejgmdeiemhcabZl
import Derived.Test.YtaejgmdeiemhcabZj
import Derived.Test.YtaejgmdeiemhcabZav
import Derived.Test.YtaejgmdeiemhcabZaj
import Derived.Test.YtaejgmdeiemhcabZaz
import Derived.Test.YtaejgmdeiemhcabZad
import Derived.Test.YtaejgmdeiemhcabZy
import Derived.Test.YtaejgmdeiemhcabProg
import Derived.Deep.Cut
import Derived.Deep.RegionHeld3
import Derived.LaidEqlPtr
import Derived.Test.YtaejgmdeiemhcabZk
import Derived.Test.YtaejgmdeiemhcabZba
import Derived.Test.YtaejgmdeiemhcabZbb
import Derived.Test.YtaejgmdeiemhcabZat
import Derived.Test.YtaejgmdeiemhcabZbc
namespace Go.Proofs.Ytaejgmdeiemhcab
open Go Go.RowKit
open Classical
/-- The greatest number of an orbit. -/
theorem orb_pos {f s : List (List Int)} (hg : NdS f s) : 1 ≤ orbN f s := by
  have h1 := (hg.sizes rfl).1
  have hok := lab_ok (bothL f s) f.length f.length (hg.both rfl) (Nat.le_refl _)
  have h2 := hok.all 0 (by omega)
  have h3 := hok.lt 0
  unfold orbN
  omega
theorem orb_le {f s : List (List Int)} : orbN f s ≤ f.length := lab_le _ _
theorem orb_rng {f s : List (List Int)} (hg : NdS f s) (j : Nat) (hj : j < f.length) : 0 ≤ (orbS f s).getD j 0 ∧ (orbS f s).getD j 0 < (orbN f s : Int) := by
  have hok := lab_ok (bothL f s) f.length f.length (hg.both rfl) (Nat.le_refl _)
  unfold orbS orbN
  rw [labL_at _ _ _ _ hj]
  exact ⟨hok.all j hj, hok.lt j⟩
theorem orb_onto {f s : List (List Int)} (hg : NdS f s) (k : Nat) (hk : k < orbN f s) : ∃ j, j < f.length ∧ (orbS f s).getD j 0 = (k : Int) := by
  have hok := lab_ok (bothL f s) f.length f.length (hg.both rfl) (Nat.le_refl _)
  obtain ⟨y, hy, e⟩ := hok.onto k hk
  refine ⟨y, hy, ?_⟩
  unfold orbS
  rw [labL_at _ _ _ _ hy]
  exact e
theorem orbS_length (f s : List (List Int)) : (orbS f s).length = f.length := labL_length _ _ _
theorem orb_max {f s : List (List Int)} (hg : NdS f s) : IsMax (orbS f s) ((orbN f s : Int) - 1) := by
  have h1 := orb_pos hg
  refine ⟨?_, fun i hi => ?_⟩
  · obtain ⟨j, hj, e⟩ := orb_onto hg (orbN f s - 1) (by omega)
    exact ⟨j, by rw [orbS_length]; exact hj, by rw [e]; omega⟩
  · have := orb_rng hg i (by rw [orbS_length] at hi; exact hi)
    omega
end Go.Proofs.Ytaejgmdeiemhcab
namespace Go.Proofs.Ytaejgmdeiemhcab
open Go Go.RowKit
set_option maxHeartbeats 4000000
theorem frInfo : (Try.prog.info? 130).map (fun i => (i.zero, i.size, i.bytes)) = some (some (.agg #[.int .i64 0, .pointer none]), 2, 16) := by kernel_rfl
set_option maxRecDepth 100000 in
theorem root_any (n g x : Nat) (par : Nat → Option Nat) (rt dp : Nat → Nat) (w : World) (hf : Frs n par rt dp) (hm : FrM 130 w g n par) (hx : x < n) :
    Calls Try.prog 128 #[.pointer (some ⟨g, x * 2, none⟩)] w fun e w' => e = .returned (.pointer (some ⟨g, rt x * 2, none⟩)) ∧ Quiet w w' := by
  have HF := hide hf
  have HM := hide hm
  clear hf hm
  go_enter Try.func128, Try.ntmps128
  go_wp2_with fail
  go_loopg [0] (dp x) (fun r v wr => ∃ z : Nat, z < n ∧ rt z = rt x ∧ r = dp z ∧ v = .pointer (some ⟨g, z * 2, none⟩) ∧ Quiet w wr)
  case atStart => exact ⟨x, hx, rfl, rfl, rfl, Quiet.refl _⟩
  case round =>
    obtain ⟨z, hz, hrz, rfl, rfl, hq⟩ := hrel
    have HQ := hide hq
    have HR := hide hrz
    have hm2 : FrM 130 wr g n par := HM.out.later (hq.below _) HM.out.lt
    have f0 := hm2.pnt hz
    obtain ⟨zz, hzz⟩ : ∃ zz, z * 2 = zz := ⟨_, rfl⟩
    rw [hzz] at f0 ⊢
    have HZZ := hide hzz
    clear hq hrz hm2 hzz
    cases hp : par z with
    | none =>
      rw [hp] at f0
      change wr.cell? ⟨g, zz + 1, none⟩ = some (.pointer none) at f0
      have htop := HF.out.top z hz hp
      have HTOP := hide htop
      clear hp htop
      go_wp2_with fail
      go_ret
      refine ⟨?_, HQ.out⟩
      rw [← HR.out, HTOP.out, HZZ.out]
      rfl
    | some p =>
      rw [hp] at f0
      change wr.cell? ⟨g, zz + 1, none⟩ = some (.pointer (some ⟨g, p * 2, none⟩)) at f0
      have HUP := hide (HF.out.up z p hz hp)
      clear hp
      go_wp2_with fail
      go_roundg (dp p)
      case measure => exact HUP.out.2.2
      case rel => exact ⟨p, HUP.out.1, HUP.out.2.1.trans HR.out, rfl, rfl, HQ.out⟩
/-- The classes are the roots of the forest. -/
def frSt (t : TypeId) (g n : Nat) (W : World) (L : List Int) : Prop := ∃ par rt dp, Frs n par rt dp ∧ FrM t W g n par ∧ L = rtL n rt
theorem frSt.keep {t : TypeId} {g n lo hi : Nat} (hg : lo ≤ g ∧ g < hi) : ∀ W W' L, frSt t g n W L → (∀ k, lo ≤ k → k < hi → W'.heap[k]? = W.heap[k]?) → frSt t g n W' L :=
  fun _ _ _ h hk => by
    obtain ⟨par, rt, dp, h1, h2, h3⟩ := h
    exact ⟨par, rt, dp, h1, h2.of_block (hk g hg.1 hg.2), h3⟩
set_option maxRecDepth 100000 in
theorem frJoin_any (n g c lo hi : Nat) (_hn : n ≤ 12) (hg : lo ≤ g ∧ g < hi) : JoinFn Try.prog 85 #[.slice (some ⟨g, 0, none⟩) n c] #[] n lo hi (frSt 130 g n) := by
  intro W L a b ha hb hl hst hhi
  obtain ⟨par, rt, dp, hfr, hfm, rfl⟩ := hst
  obtain ⟨i0, hinf, hz0, hz1, hz2⟩ := info_parts frInfo
  clear hz0 hz2
  have hal : Below W.heap.size W (W.alloc (.cells #[.int .i64 (a : Int), .int .i64 (b : Int)] 71)) := (Below.refl _ _).alloc (Nat.le_refl _) _
  have HT := hide (touch_of_below (lo := lo) (hi := hi) hal)
  have HK := hide (Blk.new W 71 [.int .i64 (a : Int), .int .i64 (b : Int)])
  have HF := hide (hfm.later hal hfm.lt)
  have HFR := hide hfr
  have haz : (a : Int) < n := by omega
  have hbz : (b : Int) < n := by omega
  have k0 := HK.out.cell 0 _ rfl
  have k1 := HK.out.cell 1 _ rfl
  have tok0 : True := trivial
  have tok1 : True := trivial
  have hgW : W.heap.size ≠ g := by have := hfm.lt; omega
  rw [rtL_lb ha, rtL_lb hb]
  clear hal hfm hfr hl
  show Calls Try.prog 85 #[.slice (some ⟨g, 0, none⟩) n c, .agg #[.int .i64 (a : Int), .int .i64 (b : Int)]] W _
  go_enter Try.func85, Try.ntmps85
  go_wp2_with fail
  go_region_held3 (fun w' => w'.cell? ⟨W.heap.size, 0, none⟩ = some (.int .i64 (a : Int)) ∧ w'.cell? ⟨W.heap.size, 1, none⟩ = some (.int .i64 (b : Int))) (first | exact ⟨k0, k1⟩ | go_keep) (first | (go_at_call 128; have _t := tok0; clear _t tok0; go_must (refine calls_gen fun wc hwc => ?_; (first | have hbx := drew_below hwc | have hbx := eq_below hwc); replace HT := hide (HT.out.trans (touch_of_below hbx)); replace HK := hide (HK.out.later hbx); replace HF := hide (HF.out.later hbx HF.out.lt); clear hwc hbx; refine (root_any n g a par rt dp _ HFR.out HF.out ha).mono ?_; rintro e wd ⟨rfl, hq⟩; replace HT := hide (HT.out.trans (Touch.quiet hq)); replace HK := hide (HK.out.later (hq.below _)); replace HF := hide (HF.out.later (hq.below _) HF.out.lt); clear hq; have k0 := HK.out.cell 0 _ rfl; have k1 := HK.out.cell 1 _ rfl)) | (go_at_call 128; have _t := tok1; clear _t tok1; go_must (refine calls_gen fun wc hwc => ?_; (first | have hbx := drew_below hwc | have hbx := eq_below hwc); replace HT := hide (HT.out.trans (touch_of_below hbx)); replace HK := hide (HK.out.later hbx); replace HF := hide (HF.out.later hbx HF.out.lt); clear hwc hbx; refine (root_any n g b par rt dp _ HFR.out HF.out hb).mono ?_; rintro e wd ⟨rfl, hq⟩; replace HT := hide (HT.out.trans (Touch.quiet hq)); replace HK := hide (HK.out.later (hq.below _)); replace HF := hide (HF.out.later (hq.below _) HF.out.lt); clear hq; have k0 := HK.out.cell 0 _ rfl; have k1 := HK.out.cell 1 _ rfl)))
  clear k0 k1
  obtain ⟨ra, hra⟩ : ∃ r, rt a = r := ⟨_, rfl⟩
  obtain ⟨rb, hrb⟩ : ∃ r, rt b = r := ⟨_, rfl⟩
  have hran : ra < n := by rw [← hra]; exact (HFR.out.rin a ha).1
  have hrbn : rb < n := by rw [← hrb]; exact (HFR.out.rin b hb).1
  have hraa : rt ra = ra := by rw [← hra]; exact HFR.out.root ha
  have hrbb : rt rb = rb := by rw [← hrb]; exact HFR.out.root hb
  have HRA := hide hra
  have HRB := hide hrb
  rw [hra, hrb]
  have HRAA := hide hraa
  have HRBB := hide hrbb
  clear hra hrb hraa hrbb
  by_cases he : ra = rb
  · subst he
    have heq := run_eql_ptr_same (P := Try.prog) wd ⟨g, ra * 2, none⟩ Try.underlying128 hinf
    go_wp2_with fail
    go_ret
    exact ⟨false, rfl, HT.out, .inl ⟨rfl, by rw [HRA.out, HRB.out], par, rt, dp, HFR.out, HF.out, rfl⟩⟩
  · have hne : ¬ (ra : Int) = (rb : Int) := by omega
    have HJ := hide (HFR.out.join hran hrbn HRAA.out HRBB.out he)
    have f0 := HF.out.pnt hrbn
    have fz := HF.out.frozen (rb * 2 + 1)
    have HS := hide (HF.out.set (k := ra) hrbn)
    obtain ⟨pa, hpae⟩ : ∃ p, ra * 2 = p := ⟨_, rfl⟩
    obtain ⟨pb, hpbe⟩ : ∃ p, rb * 2 = p := ⟨_, rfl⟩
    have hpa : ¬ pa = pb := by omega
    rw [hpae, hpbe] at HS
    rw [hpbe] at f0 fz
    rw [hpae, hpbe]
    obtain ⟨cur, hcur, _⟩ := HF.out
    have heq := run_eql_ptr_other (P := Try.prog) wd (a := ⟨g, pa, none⟩) (b := ⟨g, pb, none⟩) Try.underlying128 hinf (by rw [hz1]; decide) (fun h => hpa (by injection h)) hcur hcur
    clear hcur
    have HNE := hide hne
    have HT9 := hide (touch_set HT.out (p := ⟨g, pb + 1, none⟩) hg (.pointer (some ⟨g, pa, none⟩)))
    clear hpae hpbe he hne
    go_wp2_with fail
    go_ret
    refine ⟨true, rfl, HT9.out, .inr ⟨rfl, by rw [HRA.out, HRB.out]; exact HNE.out, (ra : Int), (rb : Int), .inl ⟨by rw [HRA.out], by rw [HRB.out]⟩, _, _, _, HJ.out, HS.out, rtL_join n rt ra rb⟩⟩
end Go.Proofs.Ytaejgmdeiemhcab
namespace Go.Proofs.Ytaejgmdeiemhcab
open Go Go.RowKit
set_option maxHeartbeats 2000000
set_option maxRecDepth 100000 in
theorem wsyZ_any (A : Option Addr) (n c : Nat) (f : List (List Int)) (B : Option Addr) (d : Nat) (s : List (List Int)) (w : World) (hz : ZArg 1048576 w A n f B n s) (hp : PMap f s) :
    Calls Try.prog 82 #[.agg #[.slice A n c, .slice B n d]] w fun e w' => ∃ A' c', e = .returned (.slice A' (n + n) c') ∧ Below w.heap.size w w' ∧ Rd2 w' A' (bothL f s) := by
  have h12 := hz.small hp
  have h1 : 1 ≤ n := by have := hp.1.1; have := hz.sz.fl; omega
  have HZ := hide hz
  have HP := hide hp
  have HBc := hide ((Below.refl _ w).alloc (Nat.le_refl _) (Obj.cells #[Value.slice A n c, Value.slice B n d] 35))
  have HKc := hide (Blk.new w 35 [.slice A n c, .slice B n d])
  clear hz hp
  go_enter Try.func82, Try.ntmps82
  go_upto_region 1 with fail
  refine wp_gen fun w0 hw0 => ?_
  have HB0 := hide (show Below w.heap.size w w0 by rw [hw0]; exact HBc.out)
  replace HKc := hide (show Blk w0 w.heap.size 35 [.slice A n c, .slice B n d] by rw [hw0]; exact HKc.out)
  clear hw0 HBc
  have HBc := HB0
  clear HB0
  have k0 := HKc.out.cell 0 _ rfl
  have k1 := HKc.out.cell 1 _ rfl
  go_region_held3 (fun w' => w'.cell? ⟨w.heap.size, 0, none⟩ = some (.slice A n c) ∧ w'.cell? ⟨w.heap.size, 1, none⟩ = some (.slice B n d)) (first | exact ⟨k0, k1⟩ | go_keep) (first | (go_at_call 127; go_must (refine calls_gen fun wc hwc => ?_; (first | have hbx := drew_below hwc | have hbx := eq_below hwc); replace HBc := hide (HBc.out.trans (hbx.mono HBc.out.size)); replace HKc := hide (HKc.out.later hbx); clear hwc hbx; refine (rhoZ_any _ n _ f _ n _ s _ (HZ.out.later HBc.out) HP.out).mono ?_; rintro e wd ⟨A2, c2, rfl, hbd, hobj⟩; replace HBc := hide (HBc.out.trans (hbd.mono HBc.out.size)); replace HKc := hide (HKc.out.later hbd); clear hbd; have k0 := HKc.out.cell 0 _ rfl; have k1 := HKc.out.cell 1 _ rfl; have HO := hide hobj.rd; clear hobj)) | (go_at_call 126; go_must (refine calls_gen fun wc hwc => ?_; (first | have hbx := al_drew_below hwc | have hbx := al_below hwc); have HBQ := (by first | exact hide (blk_al_drew hwc) | exact hide (blk_al hwc)); have HZS := hide HBc.out.size; replace HBc := hide (HBc.out.trans (hbx.mono HBc.out.size)); replace HKc := hide (HKc.out.later hbx); replace HO := hide (HO.out.later hbx); clear hwc hbx; refine (concat2_any _ n _ f _ n _ (turnL s) _ _ HZ.out.sz.fl (by rw [turnL_length]; exact HZ.out.sz.sl) h1 h1 (by omega) (by omega) (HZ.out.later HBc.out).fst HO.out HBQ.out).mono ?_; rintro e wd ⟨A3, c3, rfl, hbd, hrd⟩; replace HBc := hide (HBc.out.trans (hbd.mono HBc.out.size)); replace HKc := hide (HKc.out.later hbd); have HRD := hide hrd; clear hbd hrd; have k0 := HKc.out.cell 0 _ rfl; have k1 := HKc.out.cell 1 _ rfl)))
  clear k0 k1
  go_wp2_with fail
  go_ret
  exact ⟨_, _, rfl, HBc.out, HRD.out⟩
end Go.Proofs.Ytaejgmdeiemhcab
namespace Go.Proofs.Ytaejgmdeiemhcab
open Go Go.RowKit
set_option maxHeartbeats 1000000
theorem isI_any (A : Option Addr) (n c : Nat) (f : List (List Int)) (B : Option Addr) (m d : Nat) (s : List (List Int)) (r : Bool) (w : World) (hz : ZArg 1048576 w A n f B m s) (hr : IsRes f s r) :
    Calls Try.prog 78 #[.agg #[.slice A n c, .slice B m d]] w fun e w' => e = .returned (.bool r) ∧ Below w.heap.size w w' := by
  have HZ := hide hz
  have HB0 := hide ((Below.refl _ w).alloc (Nat.le_refl _) (Obj.cells #[Value.slice A n c, Value.slice B m d] 35))
  have HK0 := hide (Blk.new w 35 [.slice A n c, .slice B m d])
  have hcs := hr.cases hz.sz.fl
  clear hr hz
  rcases hcs with ⟨hp, rfl⟩ | ⟨hp, T, hT, hq⟩
  · have HP := hide hp
    clear hp
    go_enter Try.func78, Try.ntmps78
    go_wp2_with fail
    refine (mapI_any _ _ _ f _ _ _ s false _ (HZ.out.later HB0.out) (by simp [HP.out])).mono ?_
    rintro e w1 ⟨rfl, hb1⟩
    have HB1 := hide (HB0.out.trans (hb1.mono HB0.out.size))
    have HK1 := hide (HK0.out.later hb1)
    have k0 := HK1.out.cell 0 _ rfl
    have k1 := HK1.out.cell 1 _ rfl
    clear hb1
    go_wp2_with fail
    go_ret
    exact ⟨rfl, HB1.out⟩
  · have HP := hide hp
    have HT := hide hT
    clear hp hT
    have hq2 : (T < n * n * n ∧ r = false) ∨ (T = n * n * n ∧ (Hid (∃ a b, FstCol f s n a b) ∧ r = false ∨ Hid (NoCol f s n) ∧ r = true)) := by
      rcases hq with ⟨h1, ⟨_, h⟩ | ⟨_, h⟩⟩ | ⟨h1, ⟨h2, h⟩ | ⟨h2, h⟩⟩
      · exact .inl ⟨h1, h⟩
      · exact .inl ⟨h1, h⟩
      · exact .inr ⟨h1, .inl ⟨hide h2, h⟩⟩
      · exact .inr ⟨h1, .inr ⟨hide h2, h⟩⟩
    clear hq
    rcases hq2 with ⟨hlt, rfl⟩ | ⟨hte, ⟨HC, rfl⟩ | ⟨HC, rfl⟩⟩
    · go_enter Try.func78, Try.ntmps78
      go_wp2_with fail
      refine (mapI_any _ _ _ f _ _ _ s true _ (HZ.out.later HB0.out) (by simp [HP.out])).mono ?_
      rintro e w1 ⟨rfl, hb1⟩
      have HB1 := hide (HB0.out.trans (hb1.mono HB0.out.size))
      have HK1 := hide (HK0.out.later hb1)
      have k0 := HK1.out.cell 0 _ rfl
      have k1 := HK1.out.cell 1 _ rfl
      clear hb1
      go_wp2_with fail
      refine (fault_any _ _ _ f _ _ _ s T _ (HZ.out.later HB1.out) HP.out HT.out).mono ?_
      rintro e w2 ⟨t, ok, rfl, hb2, hres⟩
      have HB2 := hide (HB1.out.trans (hb2.mono HB1.out.size))
      have HK2 := hide (HK1.out.later hb2)
      have hok : ok = true := by rcases hres with ⟨h1, h2, _⟩ | ⟨h1, h2⟩ <;> first | exact h1 | omega
      subst hok
      clear hb2 hres k0 k1
      unfold tv
      obtain ⟨x, y, z⟩ := t
      have k0 := fun o => (HK2.out.alloc o).cell 0 _ rfl
      have k1 := fun o => (HK2.out.alloc o).cell 1 _ rfl
      go_wp2_with fail
      clear k0 k1
      refine bp_gen fun wf hwf => ?_
      have HBF : Below w.heap.size w wf := by rw [hwf]; exact HB2.out.alloc HB2.out.size _
      clear hwf
      go_ret
      exact ⟨rfl, HBF⟩
    · go_enter Try.func78, Try.ntmps78
      go_wp2_with fail
      refine (mapI_any _ _ _ f _ _ _ s true _ (HZ.out.later HB0.out) (by simp [HP.out])).mono ?_
      rintro e w1 ⟨rfl, hb1⟩
      have HB1 := hide (HB0.out.trans (hb1.mono HB0.out.size))
      have HK1 := hide (HK0.out.later hb1)
      have k0 := HK1.out.cell 0 _ rfl
      have k1 := HK1.out.cell 1 _ rfl
      clear hb1
      go_wp2_with fail
      refine (fault_any _ _ _ f _ _ _ s T _ (HZ.out.later HB1.out) HP.out HT.out).mono ?_
      rintro e w2 ⟨t, ok, rfl, hb2, hres⟩
      have HB2 := hide (HB1.out.trans (hb2.mono HB1.out.size))
      have HK2 := hide (HK1.out.later hb2)
      have hok : ok = false := by rcases hres with ⟨h1, h2, _⟩ | ⟨h1, h2⟩ <;> first | exact h1 | omega
      subst hok
      clear hb2 hres k0 k1
      unfold tv
      obtain ⟨x, y, z⟩ := t
      have k0 := fun o => (HK2.out.alloc o).cell 0 _ rfl
      have k1 := fun o => (HK2.out.alloc o).cell 1 _ rfl
      go_wp2_with fail
      clear k0 k1
      refine calls_gen fun w4 hw4 => ?_
      replace HB2 : Hid (Below w.heap.size w w4) := hide (by rw [hw4]; exact HB2.out.alloc HB2.out.size _)
      clear hw4 HK2
      refine (coll_any _ _ _ f _ _ _ s _ (HZ.out.later HB2.out) HP.out).mono ?_
      rintro e w3 ⟨hb3, hres⟩
      have HB3 := hide (HB2.out.trans (hb3.mono HB2.out.size))
      clear hb3
      obtain ⟨a, b, hf⟩ := HC.out
      rcases hres with ⟨hno, _⟩ | ⟨a', b', _, rfl⟩
      · exact absurd hno hf.not
      · go_wp2_with fail
        refine bp_gen fun wf hwf => ?_
        have HBF : Below w.heap.size w wf := by rw [hwf]; exact (HB3.out.alloc HB3.out.size _).alloc (by have := HB3.out.size; simp; omega) _
        clear hwf
        go_ret
        exact ⟨rfl, HBF⟩
    · go_enter Try.func78, Try.ntmps78
      go_wp2_with fail
      refine (mapI_any _ _ _ f _ _ _ s true _ (HZ.out.later HB0.out) (by simp [HP.out])).mono ?_
      rintro e w1 ⟨rfl, hb1⟩
      have HB1 := hide (HB0.out.trans (hb1.mono HB0.out.size))
      have HK1 := hide (HK0.out.later hb1)
      have k0 := HK1.out.cell 0 _ rfl
      have k1 := HK1.out.cell 1 _ rfl
      clear hb1
      go_wp2_with fail
      refine (fault_any _ _ _ f _ _ _ s T _ (HZ.out.later HB1.out) HP.out HT.out).mono ?_
      rintro e w2 ⟨t, ok, rfl, hb2, hres⟩
      have HB2 := hide (HB1.out.trans (hb2.mono HB1.out.size))
      have HK2 := hide (HK1.out.later hb2)
      have hok : ok = false := by rcases hres with ⟨h1, h2, _⟩ | ⟨h1, h2⟩ <;> first | exact h1 | omega
      subst hok
      clear hb2 hres k0 k1
      unfold tv
      obtain ⟨x, y, z⟩ := t
      have k0 := fun o => (HK2.out.alloc o).cell 0 _ rfl
      have k1 := fun o => (HK2.out.alloc o).cell 1 _ rfl
      go_wp2_with fail
      clear k0 k1
      refine calls_gen fun w4 hw4 => ?_
      replace HB2 : Hid (Below w.heap.size w w4) := hide (by rw [hw4]; exact HB2.out.alloc HB2.out.size _)
      clear hw4 HK2
      refine (coll_any _ _ _ f _ _ _ s _ (HZ.out.later HB2.out) HP.out).mono ?_
      rintro e w3 ⟨hb3, hres⟩
      have HB3 := hide (HB2.out.trans (hb3.mono HB2.out.size))
      clear hb3
      rcases hres with ⟨_, rfl⟩ | ⟨a', b', hf2, _⟩
      · go_wp2_with fail
        refine bp_gen fun wf hwf => ?_
        have HBF : Below w.heap.size w wf := by rw [hwf]; exact (HB3.out.alloc HB3.out.size _).alloc (by have := HB3.out.size; simp; omega) _
        clear hwf
        go_ret
        exact ⟨rfl, HBF⟩
      · exact absurd HC.out hf2.not
end Go.Proofs.Ytaejgmdeiemhcab
namespace Go.Proofs.Ytaejgmdeiemhcab
open Go Go.RowKit
open Classical
set_option maxHeartbeats 2000000
theorem Row2.swap {t : TypeId} {B : Nat} {w : World} {v1 v2 : Value} {n1 n2 : Nat} {xs1 xs2 : List Int} (h : Row2 t B w v1 v2 n1 n2 xs1 xs2) : Row2 t B w v2 v1 n2 n1 xs2 xs1 := ⟨h.o2, h.o1, fun g h1 h2 => h.ne g h2 h1⟩
set_option maxRecDepth 100000 in
theorem renS_any (A : Option Addr) (n c : Nat) (L : List Int) (w : World) (hn : L.length = n) (h12 : n ≤ 12) (hr : Rd w A L) :
    Calls Try.prog 77 #[.slice A n c] w fun e w' => ∃ A' c', e = .returned (.slice A' n c') ∧ Below w.heap.size w w' ∧ Res 2 w.heap.size w' A' (numL L) := by
  have HN := hide hn
  have HR := hide hr
  obtain ⟨i0, hi, hz0, hz1, hz2⟩ := info_parts neInfo
  clear hn hr
  go_enter Try.func77, Try.ntmps77
  go_wp2_with fail
  refine wp_gen fun w0 hw0 => ?_
  have HB0 : Hid (Below w.heap.size w w0) := hide (by rw [hw0]; exact ((Below.refl _ _).alloc (Nat.le_refl _) _).alloc (by simp) _)
  have HRW0 : Hid (Row2 2 w.heap.size w0 (.slice (some ⟨w.heap.size + 1, 0, none⟩) 0 0) (.slice (some ⟨w.heap.size, 0, none⟩) 0 0) 0 0 (numTo L 0) (firstsL L 0)) := hide (by rw [hw0]; exact (row2_begin w _).swap)
  clear hw0
  go_loopw [3, 4, 5] (fun v2 v1 i wr => ∃ k m : Nat, k ≤ n ∧ i = .int .i64 k ∧ Below w.heap.size w wr ∧ Row2 2 w.heap.size wr v1 v2 k m (numTo L k) (firstsL L k)) (fun _ _ i _ => n - (intOf i).toNat)
  case atStart => exact ⟨0, 0, Nat.zero_le _, rfl, HB0.out, HRW0.out⟩
  case round =>
    obtain ⟨k, m, hk, rfl, hbe, hrw⟩ := hrel
    have HB := hide hbe
    have HRW := hide hrw
    clear hbe hrw HB0 HRW0
    by_cases hlt : k < n
    · have hltz : (k : Int) < n := by omega
      obtain ⟨b, o, hA, hbw, hc⟩ := HR.out (by rw [HN.out]; omega)
      subst hA
      obtain ⟨lk, hlk⟩ : ∃ lk, lb L k = lk := ⟨_, rfl⟩
      have HCELL : Hid (∀ wx : World, Below w.heap.size w wx → wx.cell? ⟨b, o + k, none⟩ = some (.int .i64 lk)) := hide (fun wx hb => (hb.cell (p := ⟨b, o + k, none⟩) hbw).trans (by rw [← hlk]; exact hc k (by rw [HN.out]; exact hlt)))
      have HLK := hide hlk
      clear hc
      have hm : (firstsL L k).length = m := by have h := HRW.out.o2.1; simpa [ints] using h
      have hm12 := firstsL_le L k
      obtain ⟨A2, c2, hv2, hres2⟩ := own_shape HRW.out.o2
      subst hv2
      have HRS := hide hres2.rd
      have HM := hide hm
      have hat1 := HCELL.out _ HB.out
      have hmk : m ≤ k := by omega
      clear hres2 hm
      go_wp2_with fail
      by_cases hin : lk ∈ firstsL L k
      · refine (has_any A2 m c2 (firstsL L k) lk true _ HM.out (by omega) HRS.out (by simp [hin])).mono ?_
        rintro e w5 ⟨rfl, hq5⟩
        replace HRS := hide (HRS.out.later (hq5.below _))
        replace HB := hide (HB.out.trans ((hq5.below _).mono HB.out.size))
        replace HRW := hide (HRW.out.later (hq5.below _))
        clear hq5

        have HFS : Hid (firstsL L (k + 1) = firstsL L k) := hide (by show (if lb L k ∈ firstsL L k then firstsL L k else firstsL L k ++ [lb L k]) = _; rw [hlk, if_pos hin])
        have HFL := HM
        clear hin hlk hat1
        have hat2 := HCELL.out _ HB.out
        have HRS2 := HRS
        go_wp2_with fail
        refine (index_any A2 _ c2 (firstsL L k) lk _ HFL.out (by omega) HRS2.out).mono ?_
        rintro e w7 ⟨rfl, hq7⟩
        replace HB := hide (HB.out.trans ((hq7.below _).mono HB.out.size))
        replace HRW := hide (HRW.out.later (hq7.below _))
        clear hq7
        obtain ⟨ix, hix⟩ : ∃ ix, ixOf (firstsL L k) lk = ix := ⟨_, rfl⟩
        rw [hix]
        have HIX := hide hix
        clear hix hat2
        go_wp2_with (at_builtin; refine wpList_append_own_at _ rfl _ _ 32 rfl w.heap.size 2 i0 (.int .i64 0) 1 8 Try.underlying32 hi hz0 hz1 hz2 rfl (by decide) _ _ _ rfl (HRW.out.o1.alloc _) ⟨w7.heap.size, 0, none⟩ 1 1 [.int .i64 ix] rfl rfl ?a1 ?a2 ?a3 ?a4 ?a5 ?_)
        try (case a1 => exact ne_new)
        try (case a2 => first | rfl | (intro u hu; simp at hu; subst hu; rfl))
        try (case a3 => first | omega | (unfold maxLen; omega))
        try (case a4 => omega)
        try (case a5 => first | omega | (simp; omega) | (have hs := HB.out.size; simp; omega))
        intro v' w9a hown hgrow _ hat
        replace HB := hide (grown_low HRW.out.o1 hgrow HB.out (Nat.le_refl _) HB.out.size)
        replace HRW := hide (HRW.out.add1 (tmp := .cells #[.int .i64 ix] 2) hown hgrow (by simpa using hat))
        clear hown hgrow hat
        go_wp2_with fail
        go_roundw
        case rel =>
          refine ⟨k + 1, m, by omega, by go_num, HB.out, ?_⟩
          have h := HRW.out
          rw [← HIX.out, ← HFS.out, ← HLK.out, ← numTo_succ] at h
          exact h
        case measure => simp [intOf]; omega
      · refine (has_any A2 m c2 (firstsL L k) lk false _ HM.out (by omega) HRS.out (by simp [hin])).mono ?_
        rintro e w5 ⟨rfl, hq5⟩
        replace HB := hide (HB.out.trans ((hq5.below _).mono HB.out.size))
        replace HRW := hide (HRW.out.later (hq5.below _))
        clear hq5

        have HFS : Hid (firstsL L (k + 1) = firstsL L k ++ [lk]) := hide (by show (if lb L k ∈ firstsL L k then firstsL L k else firstsL L k ++ [lb L k]) = _; rw [hlk, if_neg hin])
        have HFL : Hid ((firstsL L k ++ [lk]).length = m + 1) := hide (by rw [List.length_append, HM.out]; rfl)
        clear hin hlk hat1 HRS
        have hat3 := HCELL.out _ HB.out
        go_wp2_with (at_builtin; refine wpList_append_own_at _ rfl _ _ 32 rfl w.heap.size 2 i0 (.int .i64 0) 1 8 Try.underlying32 hi hz0 hz1 hz2 rfl (by decide) _ _ _ rfl (HRW.out.o2.alloc _) ⟨w5.heap.size, 0, none⟩ 1 1 [.int .i64 lk] rfl rfl ?b1 ?b2 ?b3 ?b4 ?b5 ?_)
        try (case b1 => exact ne_new)
        try (case b2 => first | rfl | (intro u hu; simp at hu; subst hu; rfl))
        try (case b3 => first | omega | (unfold maxLen; omega))
        try (case b4 => omega)
        try (case b5 => first | omega | (simp; omega) | (have hs := HB.out.size; simp; omega))
        intro v' w9b hown hgrow _ hat
        replace HB := hide (grown_low HRW.out.o2 hgrow HB.out (Nat.le_refl _) HB.out.size)
        replace HRW := hide (HRW.out.add2 (tmp := .cells #[.int .i64 lk] 2) hown hgrow (by simpa using hat))
        clear hown hgrow hat

        clear hat3
        have hat2 := HCELL.out _ HB.out
        obtain ⟨A2, c2, hv2, hres2⟩ := own_shape HRW.out.o2
        subst hv2
        have HRS2 := hide hres2.rd
        clear hres2
        go_wp2_with fail
        refine (index_any A2 _ c2 (firstsL L k ++ [lk]) lk _ HFL.out (by omega) HRS2.out).mono ?_
        rintro e w7 ⟨rfl, hq7⟩
        replace HB := hide (HB.out.trans ((hq7.below _).mono HB.out.size))
        replace HRW := hide (HRW.out.later (hq7.below _))
        clear hq7
        obtain ⟨ix, hix⟩ : ∃ ix, ixOf (firstsL L k ++ [lk]) lk = ix := ⟨_, rfl⟩
        rw [hix]
        have HIX := hide hix
        clear hix hat2
        go_wp2_with (at_builtin; refine wpList_append_own_at _ rfl _ _ 32 rfl w.heap.size 2 i0 (.int .i64 0) 1 8 Try.underlying32 hi hz0 hz1 hz2 rfl (by decide) _ _ _ rfl (HRW.out.o1.alloc _) ⟨w7.heap.size, 0, none⟩ 1 1 [.int .i64 ix] rfl rfl ?a1 ?a2 ?a3 ?a4 ?a5 ?_)
        try (case a1 => exact ne_new)
        try (case a2 => first | rfl | (intro u hu; simp at hu; subst hu; rfl))
        try (case a3 => first | omega | (unfold maxLen; omega))
        try (case a4 => omega)
        try (case a5 => first | omega | (simp; omega) | (have hs := HB.out.size; simp; omega))
        intro v' w9a hown hgrow _ hat
        replace HB := hide (grown_low HRW.out.o1 hgrow HB.out (Nat.le_refl _) HB.out.size)
        replace HRW := hide (HRW.out.add1 (tmp := .cells #[.int .i64 ix] 2) hown hgrow (by simpa using hat))
        clear hown hgrow hat
        go_wp2_with fail
        go_roundw
        case rel =>
          refine ⟨k + 1, m + 1, by omega, by go_num, HB.out, ?_⟩
          have h := HRW.out
          rw [← HIX.out, ← HFS.out, ← HLK.out, ← numTo_succ] at h
          exact h
        case measure => simp [intOf]; omega
    · have hkn : k = n := by omega
      subst hkn
      obtain ⟨A1, c1, hv1, hres1⟩ := own_shape HRW.out.o1
      subst hv1
      have HRS1 := hide hres1
      clear hres1
      go_wp2_with fail
      go_ret
      exact ⟨_, _, rfl, HB.out, by unfold numL; rw [HN.out]; exact HRS1.out⟩
end Go.Proofs.Ytaejgmdeiemhcab
namespace Go.Proofs.Ytaejgmdeiemhcab
open Go Go.RowKit
set_option maxHeartbeats 1000000
theorem isS_any (A : Option Addr) (n c : Nat) (f : List (List Int)) (B : Option Addr) (m d : Nat) (s : List (List Int)) (r : Bool) (w : World) (hz : ZArg 1048576 w A n f B m s) (hr : IsRes f s r) :
    Calls Try.prog 73 #[.agg #[.slice A n c, .slice B m d]] w fun e w' => e = .returned (.bool r) ∧ Below w.heap.size w w' := by
  have HZ := hide hz
  have HB0 := hide ((Below.refl _ w).alloc (Nat.le_refl _) (Obj.cells #[Value.slice A n c, Value.slice B m d] 35))
  have HK0 := hide (Blk.new w 35 [.slice A n c, .slice B m d])
  have hcs := hr.cases hz.sz.fl
  clear hr hz
  rcases hcs with ⟨hp, rfl⟩ | ⟨hp, T, hT, hq⟩
  · have HP := hide hp
    clear hp
    go_enter Try.func73, Try.ntmps73
    go_wp2_with fail
    refine (mapS_any _ _ _ f _ _ _ s false _ (HZ.out.later HB0.out) (by simp [HP.out])).mono ?_
    rintro e w1 ⟨rfl, hb1⟩
    have HB1 := hide (HB0.out.trans (hb1.mono HB0.out.size))
    have HK1 := hide (HK0.out.later hb1)
    have k0 := HK1.out.cell 0 _ rfl
    have k1 := HK1.out.cell 1 _ rfl
    clear hb1
    go_wp2_with fail
    go_ret
    exact ⟨rfl, HB1.out⟩
  · have HP := hide hp
    have HT := hide hT
    clear hp hT
    have hq2 : (Hid (∃ a b, FstCol f s n a b) ∧ r = false) ∨ (Hid (NoCol f s n) ∧ ((T < n * n * n ∧ r = false) ∨ (T = n * n * n ∧ r = true))) := by
      rcases hq with ⟨h1, ⟨h2, h⟩ | ⟨h2, h⟩⟩ | ⟨h1, ⟨h2, h⟩ | ⟨h2, h⟩⟩
      · exact .inr ⟨hide h2, .inl ⟨h1, h⟩⟩
      · exact .inl ⟨hide h2, h⟩
      · exact .inl ⟨hide h2, h⟩
      · exact .inr ⟨hide h2, .inr ⟨h1, h⟩⟩
    clear hq
    rcases hq2 with ⟨HC, rfl⟩ | ⟨HC, ⟨hlt, rfl⟩ | ⟨hte, rfl⟩⟩
    · go_enter Try.func73, Try.ntmps73
      go_wp2_with fail
      refine (mapS_any _ _ _ f _ _ _ s true _ (HZ.out.later HB0.out) (by simp [HP.out])).mono ?_
      rintro e w1 ⟨rfl, hb1⟩
      have HB1 := hide (HB0.out.trans (hb1.mono HB0.out.size))
      have HK1 := hide (HK0.out.later hb1)
      have k0 := HK1.out.cell 0 _ rfl
      have k1 := HK1.out.cell 1 _ rfl
      clear hb1
      go_wp2_with fail
      refine (collS_any _ _ _ f _ _ _ s _ (HZ.out.later HB1.out) HP.out).mono ?_
      rintro e w2 ⟨g, q, ys, rfl, hb2, _, _, hres⟩
      have HB2 := hide (HB1.out.trans (hb2.mono HB1.out.size))
      have HK2 := hide (HK1.out.later hb2)
      have hq9 : q = 4 := by obtain ⟨a, b, hf⟩ := HC.out; rcases hres with ⟨hno, _⟩ | ⟨a', b', _, _, h⟩; exact absurd hno hf.not; exact h
      subst hq9
      clear hb2 hres k0 k1
      have k0 := HK2.out.cell 0 _ rfl
      have k1 := HK2.out.cell 1 _ rfl
      go_wp2_with fail
      go_ret
      exact ⟨rfl, HB2.out⟩
    · go_enter Try.func73, Try.ntmps73
      go_wp2_with fail
      refine (mapS_any _ _ _ f _ _ _ s true _ (HZ.out.later HB0.out) (by simp [HP.out])).mono ?_
      rintro e w1 ⟨rfl, hb1⟩
      have HB1 := hide (HB0.out.trans (hb1.mono HB0.out.size))
      have HK1 := hide (HK0.out.later hb1)
      have k0 := HK1.out.cell 0 _ rfl
      have k1 := HK1.out.cell 1 _ rfl
      clear hb1
      go_wp2_with fail
      refine (collS_any _ _ _ f _ _ _ s _ (HZ.out.later HB1.out) HP.out).mono ?_
      rintro e w2 ⟨g, q, ys, rfl, hb2, _, _, hres⟩
      have HB2 := hide (HB1.out.trans (hb2.mono HB1.out.size))
      have HK2 := hide (HK1.out.later hb2)
      have hq9 : q = 0 := by rcases hres with ⟨_, _, h⟩ | ⟨a', b', hf2, _⟩; exact h; exact absurd HC.out hf2.not
      subst hq9
      clear hb2 hres k0 k1
      have k0 := HK2.out.cell 0 _ rfl
      have k1 := HK2.out.cell 1 _ rfl
      go_wp2_with fail
      refine (faultS_any _ _ _ f _ _ _ s T _ (HZ.out.later HB2.out) HP.out HT.out).mono ?_
      rintro e w3 ⟨g3, q3, ys3, rfl, hb3, _, _, hres⟩
      have HB3 := hide (HB2.out.trans (hb3.mono HB2.out.size))
      have hq9 : q3 = 3 := by rcases hres with ⟨h1, _, h2⟩ | ⟨h1, _, h2⟩ <;> omega
      subst hq9
      clear hb3 hres k0 k1
      go_wp2_with fail
      go_ret
      exact ⟨rfl, HB3.out⟩
    · go_enter Try.func73, Try.ntmps73
      go_wp2_with fail
      refine (mapS_any _ _ _ f _ _ _ s true _ (HZ.out.later HB0.out) (by simp [HP.out])).mono ?_
      rintro e w1 ⟨rfl, hb1⟩
      have HB1 := hide (HB0.out.trans (hb1.mono HB0.out.size))
      have HK1 := hide (HK0.out.later hb1)
      have k0 := HK1.out.cell 0 _ rfl
      have k1 := HK1.out.cell 1 _ rfl
      clear hb1
      go_wp2_with fail
      refine (collS_any _ _ _ f _ _ _ s _ (HZ.out.later HB1.out) HP.out).mono ?_
      rintro e w2 ⟨g, q, ys, rfl, hb2, _, _, hres⟩
      have HB2 := hide (HB1.out.trans (hb2.mono HB1.out.size))
      have HK2 := hide (HK1.out.later hb2)
      have hq9 : q = 0 := by rcases hres with ⟨_, _, h⟩ | ⟨a', b', hf2, _⟩; exact h; exact absurd HC.out hf2.not
      subst hq9
      clear hb2 hres k0 k1
      have k0 := HK2.out.cell 0 _ rfl
      have k1 := HK2.out.cell 1 _ rfl
      go_wp2_with fail
      refine (faultS_any _ _ _ f _ _ _ s T _ (HZ.out.later HB2.out) HP.out HT.out).mono ?_
      rintro e w3 ⟨g3, q3, ys3, rfl, hb3, _, _, hres⟩
      have HB3 := hide (HB2.out.trans (hb3.mono HB2.out.size))
      have hq9 : q3 = 0 := by rcases hres with ⟨h1, _, h2⟩ | ⟨h1, _, h2⟩ <;> omega
      subst hq9
      clear hb3 hres k0 k1
      go_wp2_with fail
      go_ret
      exact ⟨rfl, HB3.out⟩
end Go.Proofs.Ytaejgmdeiemhcab
