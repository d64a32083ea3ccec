import Derived.Test.YtaejgmdeiemhcabZad
import Derived.WalkSpells
import Derived.Test.YtaejgmdeiemhcabZab
import Derived.Test.YtaejgmdeiemhcabZy
import Derived.Deep.Cut
import Derived.Deep.RegionHeld3
import Derived.Deep.AppendLies
import Derived.Test.YtaejgmdeiemhcabZac
import Derived.Test.YtaejgmdeiemhcabZh
import Derived.Test.YtaejgmdeiemhcabZd
import Derived.Test.YtaejgmdeiemhcabZae
namespace Go.Proofs.Ytaejgmdeiemhcab
open Go Go.RowKit
set_option maxHeartbeats 2000000

set_option maxRecDepth 100000 in
theorem isRackI (A : Option Addr) (n c : Nat) (f : List (List Int)) (r : Bool) (w : World) (hn : f.length = n) (hb : n ≤ 1048576) (hbs : ∀ i, i < f.length → (f.getD i []).length ≤ 1048576) (hr : Rd2 w A f) (hres : RkRes f r) :
    Calls Try.prog 56 #[.agg #[.slice A n c]] w fun e w' => e = .returned (.bool r) ∧ Below w.heap.size w w' := by
  have HN := hide hn
  have HBS := hide hbs
  have HRD := hide hr
  have HR := hide hres
  have hnil : ∀ (u : World) (a : Option Addr) (n c : Nat), (binOp .eql 32 (.slice a n c) (.slice none 0 0)).run Try.prog u = .ok (.bool a.isNone) u := fun u a n c => Lib.run_eql_slice_nil u 32 _ a n c 0 0 Try.underlying32
  have HB0 := hide ((Below.refl _ w).alloc (Nat.le_refl _) (Obj.cells #[Value.slice A n c] 49))
  have HK0 := hide (Blk.new w 49 [.slice A n c])
  by_cases ht : Tbl f
  · have HTB := hide ht
    have hTm : ∃ T, FirstK f n T := FirstK.ex f n
    by_cases hp : AllPrm f
    · have HP := hide hp
      obtain ⟨T, hT⟩ := hTm
      have HT := hide hT
      have hiff : r = true ↔ T = n * n * n := by
        have hrr : r = true ↔ Rck f := HR.out
        rw [hrr, hT.iff, ← hn]
        exact ⟨fun h => h.2, fun h => ⟨⟨ht, hp⟩, h⟩⟩
      have HI := hide hiff
      clear hn hbs hr hres ht hp hT hiff
      go_enter Try.func56, Try.ntmps56
      go_wp2_with fail
      refine (isTable_any _ _ _ f true _ HN.out (by omega) (fun i hi => by have := HBS.out i hi; omega) (HRD.out.later HB0.out) (by simp [HTB.out])).mono ?_
      rintro e w1 ⟨rfl, hq1⟩
      have HB1 := hide (HB0.out.trans (hq1.below _))
      have HK1 := hide (HK0.out.later (hq1.below _))
      clear hq1
      have k0 := HK1.out.cell 0 _ rfl
      go_wp2_with fail
      clear k0
      refine (rowsI_any _ _ _ f true _ HN.out hb HBS.out (HRD.out.later HB1.out) ⟨fun _ => HP.out, fun _ => rfl⟩).mono ?_
      rintro e w2 ⟨rfl, hb2⟩
      have HB2 := hide (HB1.out.trans (hb2.mono HB1.out.size))
      have HK2 := hide (HK1.out.later hb2)
      clear hb2
      have k0 := HK2.out.cell 0 _ rfl
      go_wp2_with fail
      clear k0
      refine (kfault_any _ _ _ f T _ HN.out HTB.out (HRD.out.later HB2.out) HT.out).mono ?_
      rintro e w3 (⟨hTe, rfl, hb3⟩ | ⟨hTl, g, rfl, hb3, hg, hob⟩)
      · have hrt : r = true := HI.out.2 hTe
        subst hrt
        have HB3 := hide (HB2.out.trans (hb3.mono HB2.out.size))
        clear hb3 hTe
        go_wp2_with fail
        go_ret
        exact ⟨rfl, HB3.out⟩
      · have hrf : r = false := by
          cases r
          · rfl
          · have := HI.out.1 rfl; omega
        subst hrf
        have HB3 := hide (HB2.out.trans (hb3.mono HB2.out.size))
        clear hb3 hTl hob
        go_wp2_with fail
        go_ret
        exact ⟨rfl, HB3.out⟩
    · have hrf : r = false := by
        cases r
        · rfl
        · exact absurd (HR.out.1 rfl).prm hp
      subst hrf
      have HP := hide hp
      clear hn hbs hr hres ht hp
      go_enter Try.func56, Try.ntmps56
      go_wp2_with fail
      refine (isTable_any _ _ _ f true _ HN.out (by omega) (fun i hi => by have := HBS.out i hi; omega) (HRD.out.later HB0.out) (by simp [HTB.out])).mono ?_
      rintro e w1 ⟨rfl, hq1⟩
      have HB1 := hide (HB0.out.trans (hq1.below _))
      have HK1 := hide (HK0.out.later (hq1.below _))
      clear hq1
      have k0 := HK1.out.cell 0 _ rfl
      go_wp2_with fail
      clear k0
      refine (rowsI_any _ _ _ f false _ HN.out hb HBS.out (HRD.out.later HB1.out) ⟨fun h => (by cases h), fun h => absurd h HP.out⟩).mono ?_
      rintro e w2 ⟨rfl, hb2⟩
      have HB2 := hide (HB1.out.trans (hb2.mono HB1.out.size))
      clear hb2
      go_wp2_with fail
      go_ret
      exact ⟨rfl, HB2.out⟩
  · have hrf : r = false := by
      cases r
      · rfl
      · exact absurd (HR.out.1 rfl).tbl ht
    subst hrf
    have HTB := hide ht
    clear hn hbs hr hres ht
    go_enter Try.func56, Try.ntmps56
    go_wp2_with fail
    refine (isTable_any _ _ _ f false _ HN.out (by omega) (fun i hi => by have := HBS.out i hi; omega) (HRD.out.later HB0.out) (by simp [HTB.out])).mono ?_
    rintro e w1 ⟨rfl, hq1⟩
    have HB1 := hide (HB0.out.trans (hq1.below _))
    clear hq1
    go_wp2_with fail
    go_ret
    exact ⟨rfl, HB1.out⟩
end Go.Proofs.Ytaejgmdeiemhcab
namespace Go.Proofs.Ytaejgmdeiemhcab
open Go Go.RowKit
set_option maxHeartbeats 4000000
theorem shInfo : (Try.prog.info? 71).map (fun i => (i.zero, i.size, i.bytes)) = some (some (.agg #[.int .i64 0, .int .i64 0]), 2, 16) := by kernel_rfl
theorem folP_succ (mp : Nat → Nat → Nat) (K a b : Nat) : folP mp (K + 1) a b = folP mp K a b ++ [(mp K a, mp K b)] := by simp [folP, List.range_succ]
theorem sh_alloc {w : World} {B n : Nat} {t : TypeId} {v : Value} {xs : List Value} {o : Obj} (h : w.ownsRow B t 2 v n xs) : (w.alloc o).ownsRow B t 2 v n xs := ownsRow_below2 h ((Below.refl _ _).alloc (Nat.le_refl _) _)
theorem sh_new {w : World} {a b c d : Value} {t : TypeId} : ∀ j u, [a, b, c, d][j]? = some u → (w.alloc (.cells #[a, b, c, d] t)).cell? ((⟨w.heap.size, 0, none⟩ : Addr).add j) = some u := by
  intro j u hj
  have e : ((⟨w.heap.size, 0, none⟩ : Addr).add j) = ⟨w.heap.size, j, none⟩ := by
    cases j with
    | zero => rfl
    | succ j => simp [Addr.add]
  rw [e, cell_of_row _ _ _ #[a, b, c, d] t (0, 0) (heap_alloc_new _ _)]
  simpa using hj
theorem sh_kept {w w' : World} {v : Value} {k : Nat} {o : Obj} (hg : (w.alloc o).grownBy w' v.ownBlock) (hk : k < w.heap.size) (hne : v.ownBlock = some k → False) : w'.heap[k]? = w.heap[k]? :=
  (hg.block k (by simp; omega) (fun e => hne e.symm)).trans (Below.heap_alloc _ _ _ hk)
set_option maxRecDepth 100000 in
theorem shifted_any (A : Option Addr) (n c : Nat) (f : List (List Int)) (w0 : World) (hn : f.length = n) (h12 : n ≤ 12) (ht : Tbl f) (hr : Rd2 w0 A f) : FolFn Try.prog 94 #[.agg #[.slice A n c]] #[] n (2 * n) (shM f) w0 := by
  intro w a b ha hb hbe0
  obtain ⟨i0, hi, hz0, hz1, hz2⟩ := info_parts shInfo
  have HN := hide hn
  have HT := hide ht
  have HRD := hide (hr.later hbe0)
  have hby : i0.bytes = 16 := hz2
  have h1 : 1 ≤ n := by omega
  clear hn ht hr hbe0
  show Calls Try.prog 94 #[.agg #[.slice A n c], .agg #[.int .i64 (a : Int), .int .i64 (b : Int)]] w _
  have hbb : Below w.heap.size w ((w.alloc (.cells #[.slice A n c] 49)).alloc (.cells #[.int .i64 (a : Int), .int .i64 (b : Int)] 71)) := ((Below.refl _ _).alloc (Nat.le_refl _) _).alloc (by simp) _
  have HK0 := hide ((Blk.new w 49 [.slice A n c]).alloc (.cells #[.int .i64 (a : Int), .int .i64 (b : Int)] 71))
  have HP0 : Hid (Blk ((w.alloc (.cells #[.slice A n c] 49)).alloc (.cells #[.int .i64 (a : Int), .int .i64 (b : Int)] 71)) (w.heap.size + 1) 71 [.int .i64 (a : Int), .int .i64 (b : Int)]) := hide (by have h := Blk.new (w.alloc (.cells #[.slice A n c] 49)) 71 [.int .i64 (a : Int), .int .i64 (b : Int)]; simpa using h)
  obtain ⟨wst, hws⟩ : ∃ wst, wst = ((w.alloc (.cells #[.slice A n c] 49)).alloc (.cells #[.int .i64 (a : Int), .int .i64 (b : Int)] 71)) := ⟨_, rfl⟩
  rw [← hws] at HK0 HP0 hbb
  have HB0 := hide hbb
  have hsz0 : wst.heap.size = w.heap.size + 2 := by rw [hws]; simp
  clear hbb
  go_enter Try.func94, Try.ntmps94
  go_upto_region 1 with fail
  rw [← hws]
  clear hws
  have k0 := HK0.out.cell 0 _ rfl
  go_wp2_with fail
  refine (ksize_any _ _ _ _ (by omega)).mono ?_
  rintro e w1 ⟨rfl, hb1⟩
  have HB1 := hide (HB0.out.trans (hb1.mono HB0.out.size))
  have HK1 := hide (HK0.out.later hb1)
  have HP1 := hide (HP0.out.later hb1)
  have hsz1 : w.heap.size + 2 ≤ w1.heap.size := by have := hb1.size; omega
  clear hb1 k0 HK0 HP0 HB0
  obtain ⟨N, hN2⟩ : ∃ N, 2 * n = N := ⟨_, rfl⟩
  have hm2 : (2 : Int) * (n : Int) = (N : Int) := by omega
  have hN24 : N ≤ 24 := by omega
  have HNN := hide hN2
  clear hN2
  go_wp2_with (refine wpList_make_own _ rfl _ _ 99 rfl w1.heap.size 71 i0 (.agg #[.int .i64 0, .int .i64 0]) 2 Try.underlying99 hi hz0 hz1 .i64 .i64 (N : Int) N rfl rfl rfl (by rw [hby]; omega) (by unfold maxLen; omega) (Nat.le_refl _) ?_; intro w2 hown2 hgrow2; have hbg : Below w1.heap.size w1 w2 := (Below.refl _ w1).grown hgrow2 (Nat.le_refl _) (fun g hg => by cases hg); have HB2 := hide (HB1.out.trans (hbg.mono HB1.out.size)); have HK2 := hide (HK1.out.later hbg); have HP2 := hide (HP1.out.later hbg); have HO2 := hide hown2; have hsz2 : w.heap.size + 2 ≤ w2.heap.size := (by have := hbg.size; omega); have hsz21 := hbg.size; clear hown2 hgrow2 hbg; have k0 := HK2.out.cell 0 _ rfl)
  refine (ksize_any _ _ _ _ (by omega)).mono ?_
  rintro e w3 ⟨rfl, hb3⟩
  have HB3 := hide (HB2.out.trans (hb3.mono HB2.out.size))
  have HK3 := hide (HK2.out.later hb3)
  have HP3 := hide (HP2.out.later hb3)
  have HO3 := hide (ownsRow_below2 HO2.out hb3)
  have hsz3 : w.heap.size + 2 ≤ w3.heap.size := by have := hb3.size; omega
  have hB03 : w1.heap.size ≤ w3.heap.size := Nat.le_trans hsz21 hb3.size
  obtain ⟨B0, hB0⟩ : ∃ B0, w1.heap.size = B0 := ⟨_, rfl⟩
  rw [hB0] at HO3 hsz1 hB03 ⊢
  clear hb3 k0 HB2 HK2 HP2 HO2 HB1 HK1 HP1 hB0 hm2
  obtain ⟨v0, hv0⟩ : ∃ v0, v0 = Value.slice (some ⟨B0, 0, none⟩) 0 N := ⟨_, rfl⟩
  have HS0 : Hid (∃ (z q : Nat), z ≤ n ∧ q = 2 * z ∧ (Value.int .i64 0) = .int .i64 (z : Int) ∧ Below w.heap.size w w3 ∧ Blk w3 w.heap.size 49 [.slice A n c] ∧ Blk w3 (w.heap.size + 1) 71 [.int .i64 (a : Int), .int .i64 (b : Int)] ∧ w3.ownsRow B0 71 2 (.slice (some ⟨B0, 0, none⟩) 0 N) q (flatP (folP (shM f) q a b)) ∧ B0 ≤ w3.heap.size) := hide ⟨0, 0, Nat.zero_le _, rfl, rfl, HB3.out, HK3.out, HP3.out, by simpa [folP, flatP] using HO3.out, hB03⟩
  clear HB3 HK3 HP3 HO3 hv0
  go_wp2_with fail
  go_loopw [5, 13] (fun v i wr => ∃ (z q : Nat), z ≤ n ∧ q = 2 * z ∧ i = .int .i64 (z : Int) ∧ Below w.heap.size w wr ∧ Blk wr w.heap.size 49 [.slice A n c] ∧ Blk wr (w.heap.size + 1) 71 [.int .i64 (a : Int), .int .i64 (b : Int)] ∧ wr.ownsRow B0 71 2 v q (flatP (folP (shM f) q a b)) ∧ B0 ≤ wr.heap.size) (fun _ i _ => n - (intOf i).toNat)
  case atStart => exact HS0.out
  case round =>
    clear HS0
    obtain ⟨z, q, hz, hq, rfl, hbe, hk, hp, hown, hsz⟩ := hrel
    have HBc := hide hbe
    have HKc := hide hk
    have HPc := hide hp
    have HOc := hide hown
    have HQ := hide hq
    clear hbe hk hp hown
    by_cases hlt : z < n
    · have hzz : (z : Int) < n := by omega
      have hq24 : q + 2 ≤ 24 := by omega
      obtain ⟨u0, hu0⟩ : ∃ u, ap f a z = u := ⟨_, rfl⟩
      obtain ⟨u1, hu1⟩ : ∃ u, ap f b z = u := ⟨_, rfl⟩
      obtain ⟨u2, hu2⟩ : ∃ u, ap f z a = u := ⟨_, rfl⟩
      obtain ⟨u3, hu3⟩ : ∃ u, ap f z b = u := ⟨_, rfl⟩
      have HU0 := hide hu0
      have HU1 := hide hu1
      have HU2 := hide hu2
      have HU3 := hide hu3
      have HNB : Hid ((u5.ownBlock = some w.heap.size → False) ∧ (u5.ownBlock = some (w.heap.size + 1) → False)) := hide ⟨fun e => by have := (HOc.out.lt _ e).1; omega, fun e => by have := (HOc.out.lt _ e).1; omega⟩
      clear hu0 hu1 hu2 hu3 hq
      go_upto_region 5 with fail
      have k0 := HKc.out.cell 0 _ rfl
      have p0 := HPc.out.cell 0 _ rfl
      have p1 := HPc.out.cell 1 _ rfl
      have tok0 : True := trivial
      have tok1 : True := trivial
      have tok2 : True := trivial
      go_region_held3 (fun w' => w'.cell? ⟨w.heap.size, 0, none⟩ = some (.slice A n c) ∧ w'.cell? ⟨w.heap.size + 1, 0, none⟩ = some (.int .i64 (a : Int)) ∧ w'.cell? ⟨w.heap.size + 1, 1, none⟩ = some (.int .i64 (b : Int))) (first | exact ⟨k0, p0, p1⟩ | go_keep) (first | (go_at_call 131; have _t := tok0; clear _t tok0; go_must (refine calls_gen fun wc hwc => ?_; (first | have hbx := drew_below hwc | have hbx := eq_below hwc); replace HBc := hide (HBc.out.trans (hbx.mono HBc.out.size)); replace HKc := hide (HKc.out.later hbx); replace HPc := hide (HPc.out.later hbx); replace HOc := hide (ownsRow_below2 HOc.out hbx); replace hsz := Nat.le_trans hsz hbx.size; clear hwc hbx; refine (act_any A n c f a z _ _ HN.out HT.out (HRD.out.later HBc.out) (by omega) (by omega) HU0.out).mono ?_; rintro e wd ⟨rfl, hbd⟩; replace HBc := hide (HBc.out.trans (hbd.mono HBc.out.size)); replace HKc := hide (HKc.out.later hbd); replace HPc := hide (HPc.out.later hbd); replace HOc := hide (ownsRow_below2 HOc.out hbd); replace hsz := Nat.le_trans hsz hbd.size; clear hbd; have k0 := HKc.out.cell 0 _ rfl; have p0 := HPc.out.cell 0 _ rfl; have p1 := HPc.out.cell 1 _ rfl)) | (go_at_call 131; have _t := tok1; clear _t tok1; go_must (refine calls_gen fun wc hwc => ?_; (first | have hbx := drew_below hwc | have hbx := eq_below hwc); replace HBc := hide (HBc.out.trans (hbx.mono HBc.out.size)); replace HKc := hide (HKc.out.later hbx); replace HPc := hide (HPc.out.later hbx); replace HOc := hide (ownsRow_below2 HOc.out hbx); replace hsz := Nat.le_trans hsz hbx.size; clear hwc hbx; refine (act_any A n c f b z _ _ HN.out HT.out (HRD.out.later HBc.out) (by omega) (by omega) HU1.out).mono ?_; rintro e wd ⟨rfl, hbd⟩; replace HBc := hide (HBc.out.trans (hbd.mono HBc.out.size)); replace HKc := hide (HKc.out.later hbd); replace HPc := hide (HPc.out.later hbd); replace HOc := hide (ownsRow_below2 HOc.out hbd); replace hsz := Nat.le_trans hsz hbd.size; clear hbd; have k0 := HKc.out.cell 0 _ rfl; have p0 := HPc.out.cell 0 _ rfl; have p1 := HPc.out.cell 1 _ rfl)) | (go_at_call 131; have _t := tok2; clear _t tok2; go_must (refine calls_gen fun wc hwc => ?_; (first | have hbx := drew_below hwc | have hbx := eq_below hwc); replace HBc := hide (HBc.out.trans (hbx.mono HBc.out.size)); replace HKc := hide (HKc.out.later hbx); replace HPc := hide (HPc.out.later hbx); replace HOc := hide (ownsRow_below2 HOc.out hbx); replace hsz := Nat.le_trans hsz hbx.size; clear hwc hbx; refine (act_any A n c f z a _ _ HN.out HT.out (HRD.out.later HBc.out) (by omega) (by omega) HU2.out).mono ?_; rintro e wd ⟨rfl, hbd⟩; replace HBc := hide (HBc.out.trans (hbd.mono HBc.out.size)); replace HKc := hide (HKc.out.later hbd); replace HPc := hide (HPc.out.later hbd); replace HOc := hide (ownsRow_below2 HOc.out hbd); replace hsz := Nat.le_trans hsz hbd.size; clear hbd; have k0 := HKc.out.cell 0 _ rfl; have p0 := HPc.out.cell 0 _ rfl; have p1 := HPc.out.cell 1 _ rfl)) | (go_at_call 131; go_must (refine calls_gen fun wc hwc => ?_; (first | have hbx := drew_below hwc | have hbx := eq_below hwc); replace HBc := hide (HBc.out.trans (hbx.mono HBc.out.size)); replace HKc := hide (HKc.out.later hbx); replace HPc := hide (HPc.out.later hbx); replace HOc := hide (ownsRow_below2 HOc.out hbx); replace hsz := Nat.le_trans hsz hbx.size; clear hwc hbx; refine (act_any A n c f z b _ _ HN.out HT.out (HRD.out.later HBc.out) (by omega) (by omega) HU3.out).mono ?_; rintro e wd ⟨rfl, hbd⟩; replace HBc := hide (HBc.out.trans (hbd.mono HBc.out.size)); replace HKc := hide (HKc.out.later hbd); replace HPc := hide (HPc.out.later hbd); replace HOc := hide (ownsRow_below2 HOc.out hbd); replace hsz := Nat.le_trans hsz hbd.size; clear hbd; have k0 := HKc.out.cell 0 _ rfl; have p0 := HPc.out.cell 0 _ rfl; have p1 := HPc.out.cell 1 _ rfl)) | (refine step_append_lies _ (by rfl) _ _ _ (by rfl) B0 71 i0 _ 2 16 Try.underlying99 hi hz0 hz1 hz2 rfl (by omega) u5 q (flatP (folP (shM f) q a b)) (by rfl) (sh_alloc HOc.out) ⟨wd.heap.size, 0, none⟩ 2 2 [.int .i64 (u0 : Int), .int .i64 (u1 : Int), .int .i64 (u2 : Int), .int .i64 (u3 : Int)] (by rfl) (by rfl) sh_new (by intro u hu; simp at hu; rcases hu with rfl | rfl | rfl | rfl <;> rfl) (by omega) (by unfold maxLen; omega) (by omega) (by simp; omega) (wd.heap.size + 1) (by simp) ?_; go_must (intro gg cap w3 hown' hgrow _ _; have HO3 := hide hown'; have hrow : ∀ g9, u5.ownBlock = some g9 → w.heap.size ≤ g9 := (fun g9 h9 => by have := (HOc.out.lt g9 h9).1; omega); have hsz9 : B0 ≤ w3.heap.size := (by have h9 := hgrow.size; simp at h9; omega); have HB3 : Hid (Below w.heap.size w w3) := (by first | exact hide ((HBc.out.alloc HBc.out.size _).drew.grown hgrow (by have := HBc.out.size; simp; omega) hrow) | exact hide ((HBc.out.alloc HBc.out.size _).grown hgrow (by have := HBc.out.size; simp; omega) hrow)); have hk9 := sh_kept hgrow (HKc.out.lt) (fun e9 => HNB.out.1 e9); have hp9 := sh_kept hgrow (HPc.out.lt) (fun e9 => HNB.out.2 e9); have HK3 : Hid (Blk w3 w.heap.size 49 [.slice A n c]) := hide (hk9.trans HKc.out); have HP3 : Hid (Blk w3 (w.heap.size + 1) 71 [.int .i64 (a : Int), .int .i64 (b : Int)]) := hide (hp9.trans HPc.out); clear hown' hgrow hk9 hp9 hrow; have k0 := HK3.out.cell 0 _ rfl; have p0 := HP3.out.cell 0 _ rfl; have p1 := HP3.out.cell 1 _ rfl)))
      clear k0 p0 p1
      go_wp2_with fail
      go_roundw
      case rel =>
        refine ⟨z + 1, q + 2, by omega, by have := HQ.out; omega, by go_num, HB3.out, HK3.out, HP3.out, ?_, hsz9⟩
        have h := HO3.out
        have e1 : flatP (folP (shM f) q a b) ++ [.int .i64 (u0 : Int), .int .i64 (u1 : Int), .int .i64 (u2 : Int), .int .i64 (u3 : Int)] = flatP (folP (shM f) (q + 2) a b) := by
          rw [show q + 2 = (q + 1) + 1 from rfl, folP_succ, folP_succ, HQ.out, shM_even, shM_even, shM_odd, shM_odd, HU0.out, HU1.out, HU2.out, HU3.out, flatP_app, flatP_app]
          simp [flatP]
        rw [e1] at h
        exact h
      case measure => simp [intOf]; omega
    · have hzn : z = n := by omega
      subst hzn
      go_wp2_with fail
      go_ret
      have ho := HOc.out
      have hqN : q = N := by have h1 := HQ.out; have h2 := HNN.out; omega
      rcases ho.2 with ⟨_, h0⟩ | ⟨g9, cap, cur, hv, _, hh, hcap, _, hsz9, htk⟩
      · omega
      · subst hv
        refine ⟨g9, cap, by rw [HNN.out, ← hqN]; rfl, HBc.out, fun j u hj => ?_⟩
        rw [HNN.out, ← hqN] at hj
        have hjl : j < (flatP (folP (shM f) q a b)).length := (List.getElem?_eq_some_iff.1 hj).1
        rw [flatP_length, folP_length] at hjl
        rw [cell_of_row _ g9 j cur 71 (0, 0) hh]
        rw [← htk, List.getElem?_take, if_pos (by omega)] at hj
        simpa using hj
end Go.Proofs.Ytaejgmdeiemhcab
namespace Go.Proofs.Ytaejgmdeiemhcab
open Go Go.RowKit
open Classical
/-! The search of the specification for the least congruence: a queue in two rows. -/
def firL (Q : List (Nat × Nat)) : List Int := Q.map fun p => (p.1 : Int)
def secL (Q : List (Nat × Nat)) : List Int := Q.map fun p => (p.2 : Int)
theorem firL_length (Q : List (Nat × Nat)) : (firL Q).length = Q.length := by simp [firL]
theorem secL_length (Q : List (Nat × Nat)) : (secL Q).length = Q.length := by simp [secL]
theorem firL_app (P Q : List (Nat × Nat)) : firL (P ++ Q) = firL P ++ firL Q := by simp [firL]
theorem secL_app (P Q : List (Nat × Nat)) : secL (P ++ Q) = secL P ++ secL Q := by simp [secL]
theorem firL_at {Q R : List (Nat × Nat)} {k : Nat} {q : Nat × Nat} (h : Q[k]? = some q) : (firL (Q ++ R)).getD k 0 = (q.1 : Int) := by
  obtain ⟨hk, e⟩ := List.getElem?_eq_some_iff.1 h
  rw [firL_app, List.getD_eq_getElem?_getD, List.getElem?_append_left (by rw [firL_length]; exact hk)]
  simp [firL, h]
theorem secL_at {Q R : List (Nat × Nat)} {k : Nat} {q : Nat × Nat} (h : Q[k]? = some q) : (secL (Q ++ R)).getD k 0 = (q.2 : Int) := by
  obtain ⟨hk, e⟩ := List.getElem?_eq_some_iff.1 h
  rw [secL_app, List.getD_eq_getElem?_getD, List.getElem?_append_left (by rw [secL_length]; exact hk)]
  simp [secL, h]
/-- What follows from a pair, by the first z elements. -/
def lfNew (f : List (List Int)) (a b : Nat) (z : Nat) : List (Nat × Nat) := (List.range z).flatMap fun z => [(ap f z a, ap f z b), (ap f a z, ap f b z)]
theorem lfNew_succ (f : List (List Int)) (a b z : Nat) : lfNew f a b (z + 1) = lfNew f a b z ++ [(ap f z a, ap f z b), (ap f a z, ap f b z)] := by simp [lfNew, List.range_succ]
theorem lfNew_length (f : List (List Int)) (a b z : Nat) : (lfNew f a b z).length = 2 * z := by
  induction z with
  | zero => rfl
  | succ z ih => rw [lfNew_succ, List.length_append, ih]; simp; omega
theorem lfNew_mem (f : List (List Int)) (a b n : Nat) (p : Nat × Nat) : p ∈ lfNew f a b n ↔ ∃ z, z < n ∧ (p = (ap f z a, ap f z b) ∨ p = (ap f a z, ap f b z)) := by
  unfold lfNew
  rw [List.mem_flatMap]
  constructor
  · rintro ⟨z, hz, h⟩
    exact ⟨z, List.mem_range.1 hz, by simpa using h⟩
  · rintro ⟨z, hz, h⟩
    exact ⟨z, List.mem_range.2 hz, by simpa using h⟩
structure LfS (f : List (List Int)) (n x y : Nat) (L : List Int) (Q : List (Nat × Nat)) (k : Nat) : Prop where
  s : CgS f n x y L (Q.drop k)
  rng : ∀ v ∈ L, 0 ≤ v ∧ v < (n : Int)
  le : k ≤ Q.length
  sz : Q.length + cgCnt n L * (2 * n) ≤ 1 + n * (2 * n)
section
variable {f : List (List Int)} {n x y : Nat} {L : List Int} {Q : List (Nat × Nat)} {k : Nat} {q : Nat × Nat}
theorem LfS.start (hx : x < n) (hy : y < n) : LfS f n x y (unitL n) [(x, y)] 0 :=
  ⟨.init (unitL_length n) hx hy (fun a b ha hb e => by
      have e2 : (unitL n).getD a 0 = (unitL n).getD b 0 := e
      rw [unitL_getD n a ha, unitL_getD n b hb] at e2; omega), (fun v hv => by
    obtain ⟨a, ha, rfl⟩ := List.mem_map.1 hv
    have := List.mem_range.1 ha
    simp
    omega), Nat.zero_le _, by
    have := Nat.mul_le_mul_right (2 * n) (cgCnt_le n (unitL n))
    simp; omega⟩
theorem drop_at (h : Q[k]? = some q) : Q.drop k = q :: Q.drop (k + 1) := by
  obtain ⟨hk, e⟩ := List.getElem?_eq_some_iff.1 h
  rw [List.drop_eq_getElem_cons hk, e]
theorem LfS.inn (h : LfS f n x y L Q k) (hq : Q[k]? = some q) : q.1 < n ∧ q.2 < n := h.s.inn q (by rw [drop_at hq]; simp)
theorem LfS.skip (h : LfS f n x y L Q k) (hq : Q[k]? = some q) (he : lb L q.1 = lb L q.2) : LfS f n x y L Q (k + 1) :=
  ⟨h.s.skip (fun p => by rw [drop_at hq]; simp) he, h.rng, (List.getElem?_eq_some_iff.1 hq).1, h.sz⟩
theorem LfS.join (h : LfS f n x y L Q k) (hx : x < n) (hy : y < n) (hap : ∀ a b, a < n → b < n → ap f a b < n) (hq : Q[k]? = some q) (hne : lb L q.1 ≠ lb L q.2) :
    LfS f n x y (joinL L (lb L q.1) (lb L q.2)) (Q ++ lfNew f q.1 q.2 n) (k + 1) ∧ (Q ++ lfNew f q.1 q.2 n).length - (k + 1) + cgCnt n (joinL L (lb L q.1) (lb L q.2)) * (2 * n + 1) < Q.length - k + cgCnt n L * (2 * n + 1) := by
  have hin := h.inn hq
  have hkl := (List.getElem?_eq_some_iff.1 hq).1
  have hq1 : lb L q.1 ∈ L := lb_mem (by rw [h.s.len]; exact hin.1)
  have hq2 : lb L q.2 ∈ L := lb_mem (by rw [h.s.len]; exact hin.2)
  have hc := cgCnt_join hq1 hq2 hne (h.rng _ hq2)
  have hfl := lfNew_length f q.1 q.2 n
  have hsz := h.sz
  have hm1 : (cgCnt n (joinL L (lb L q.1) (lb L q.2)) + 1) * (2 * n) ≤ cgCnt n L * (2 * n) := Nat.mul_le_mul_right (2 * n) hc
  have hm2 : (cgCnt n (joinL L (lb L q.1) (lb L q.2)) + 1) * (2 * n + 1) ≤ cgCnt n L * (2 * n + 1) := Nat.mul_le_mul_right (2 * n + 1) hc
  rw [Nat.add_mul] at hm1 hm2
  have hdr : (Q ++ lfNew f q.1 q.2 n).drop (k + 1) = Q.drop (k + 1) ++ lfNew f q.1 q.2 n := List.drop_append_of_le_length (by omega)
  refine ⟨⟨?_, fun v hv => ?_, by rw [List.length_append]; omega, ?_⟩, ?_⟩
  · rw [hdr]
    refine h.s.join hx hy hap (q := q) (by rw [drop_at hq]; simp) (.inl ⟨rfl, rfl⟩) (fun p hp => ?_) (fun z hz => ⟨?_, ?_⟩) (fun p hp => ?_)
    · rw [drop_at hq] at hp
      rcases List.mem_cons.1 hp with h1 | h1
      · exact .inr h1
      · exact .inl (List.mem_append_left _ h1)
    · exact List.mem_append_right _ ((lfNew_mem _ _ _ _ _).2 ⟨z, hz, .inr rfl⟩)
    · exact List.mem_append_right _ ((lfNew_mem _ _ _ _ _).2 ⟨z, hz, .inl rfl⟩)
    · rcases List.mem_append.1 hp with h1 | h1
      · exact .inl (by rw [drop_at hq]; exact List.mem_cons_of_mem _ h1)
      · obtain ⟨z, hz, e | e⟩ := (lfNew_mem _ _ _ _ _).1 h1
        · exact .inr ⟨z, hz, .inr e⟩
        · exact .inr ⟨z, hz, .inl e⟩
  · obtain ⟨u, hu, e⟩ := List.mem_map.1 hv
    by_cases h1 : u = lb L q.2
    · rw [if_pos h1] at e; subst e; exact h.rng _ hq1
    · rw [if_neg h1] at e; subst e; exact h.rng _ hu
  · rw [List.length_append, hfl]
    omega
  · rw [List.length_append, hfl]
    omega
theorem LfS.cfL (hn : f.length = n) (ht : Tbl f) (h : LfS f n x y L Q k) (hx : x < n) (hy : y < n) (hk : k = Q.length) : numL L = cfL f x y :=
  (show CgS f n x y L [] by have h1 := h.s; rwa [hk, List.drop_length] at h1).num hn hx hy fun _ _ ha hb => ht.ap_lt hn ha hb
end
section
variable {t : TypeId} {B : Nat} {w w' w1 : World} {v v' v1 v2 : Value} {n1 n2 : Nat} {xs1 xs2 : List Int}
theorem Row2.touch {lo hi : Nat} (h : Row2 t B w v1 v2 n1 n2 xs1 xs2) (ht : Touch lo hi w w') (hB : hi ≤ B) : Row2 t B w' v1 v2 n1 n2 xs1 xs2 := ⟨ownsRow_touch h.o1 ht hB, ownsRow_touch h.o2 ht hB, h.ne⟩
theorem Row2.adds1 {ys : List Int} {k : Nat} {tmp : Obj} (h : Row2 t B w v1 v2 n1 n2 xs1 xs2) (hown : w1.ownsRow B t 1 v' (n1 + k) (ints xs1 ++ ints ys)) (hg : (w.alloc tmp).grownBy w1 v1.ownBlock) (hat : v'.ownBlock = v1.ownBlock ∨ v'.ownBlock = some (w.alloc tmp).heap.size) :
    Row2 t B w1 v' v2 (n1 + k) n2 (xs1 ++ ys) xs2 := by
  have hal : Below w.heap.size w (w.alloc tmp) := (Below.refl _ _).alloc (Nat.le_refl _) _
  have hv2 : v2.ownBlock = none ∨ v2.ownBlock ≠ v1.ownBlock := by
    cases e : v2.ownBlock with
    | none => exact .inl rfl
    | some g => exact .inr (fun e2 => h.ne g e2.symm e)
  refine ⟨by have e : ints (xs1 ++ ys) = ints xs1 ++ ints ys := by simp [ints]
             rw [e]; exact hown, (ownsRow_below h.o2 hal).kept hg hv2, fun g hg1 e2 => ?_⟩
  rcases hat with e | e
  · exact h.ne g (e ▸ hg1) e2
  · have h3 := (own_type h.o2 e2).1
    rw [e] at hg1
    simp at hg1
    omega
theorem Row2.adds2 {ys : List Int} {k : Nat} {tmp : Obj} (h : Row2 t B w v1 v2 n1 n2 xs1 xs2) (hown : w1.ownsRow B t 1 v' (n2 + k) (ints xs2 ++ ints ys)) (hg : (w.alloc tmp).grownBy w1 v2.ownBlock) (hat : v'.ownBlock = v2.ownBlock ∨ v'.ownBlock = some (w.alloc tmp).heap.size) :
    Row2 t B w1 v1 v' n1 (n2 + k) xs1 (xs2 ++ ys) := by
  have hal : Below w.heap.size w (w.alloc tmp) := (Below.refl _ _).alloc (Nat.le_refl _) _
  have hv1 : v1.ownBlock = none ∨ v1.ownBlock ≠ v2.ownBlock := by
    cases e : v1.ownBlock with
    | none => exact .inl rfl
    | some g => exact .inr (fun e2 => h.ne g e e2.symm)
  refine ⟨(ownsRow_below h.o1 hal).kept hg hv1, by have e : ints (xs2 ++ ys) = ints xs2 ++ ints ys := by simp [ints]
                                                   rw [e]; exact hown, fun g hg1 e2 => ?_⟩
  rcases hat with e | e
  · exact h.ne g hg1 (e ▸ e2)
  · have h3 := (own_type h.o1 hg1).1
    rw [e] at e2
    simp at e2
    omega
/-- The blocks below one of the rows are left by growing it. -/
theorem grown_keep {tmp : Obj} {g : Nat} (h : w.ownsRow B t 1 v n1 (ints xs1)) (hg : (w.alloc tmp).grownBy w1 v.ownBlock) (h1 : g < B) (h2 : g < w.heap.size) : w1.heap[g]? = w.heap[g]? :=
  (hg.block g (by simp; omega) (fun e => by
    have := (own_type h e.symm).2.1
    omega)).trans (Below.heap_alloc _ _ _ h2)
theorem own_one (w : World) (t : TypeId) (a : Value) : (w.alloc (.cells #[a] t)).ownsRow w.heap.size t 1 (.slice (some ⟨w.heap.size, 0, none⟩) 1 1) 1 [a] :=
  ⟨by simp, .inr ⟨w.heap.size, 1, #[a], rfl, Nat.le_refl _, heap_alloc_new _ _, Nat.le_refl _, by unfold maxLen; omega, by simp, by simp⟩⟩
theorem row2_one (w : World) (t : TypeId) (a b : Int) : Row2 t w.heap.size ((w.alloc (.cells #[.int .i64 a] t)).alloc (.cells #[.int .i64 b] t)) (.slice (some ⟨w.heap.size, 0, none⟩) 1 1) (.slice (some ⟨w.heap.size + 1, 0, none⟩) 1 1) 1 1 [a] [b] := by
  have h1 := own_one w t (.int .i64 a)
  have h2 := own_one (w.alloc (.cells #[.int .i64 a] t)) t (.int .i64 b)
  refine ⟨?_, ?_, fun g hg e => ?_⟩
  · exact ownsRow_below h1 ((Below.refl _ _).alloc (Nat.le_refl _) _)
  · have hs : (w.alloc (.cells #[.int .i64 a] t)).heap.size = w.heap.size + 1 := by simp
    rw [hs] at h2
    rcases h2 with ⟨hl, hh⟩
    refine ⟨hl, ?_⟩
    rcases hh with h | ⟨g, cap, cur, hv, hg, rest⟩
    · exact .inl h
    · exact .inr ⟨g, cap, cur, hv, by omega, rest⟩
  · simp [Value.ownBlock] at hg e
    omega
theorem Row2.stepx1 {wx : World} {ys : List Int} {k gg cap : Nat} (h : Row2 t B w v1 v2 n1 n2 xs1 xs2) (hbx : Below w.heap.size w wx) (hown : w1.ownsRow B t 1 (.slice (some ⟨gg, 0, none⟩) (n1 + k) cap) (n1 + k) (ints xs1 ++ ints ys)) (hg : wx.grownBy w1 v1.ownBlock) (hat : v1.ownBlock = some gg ∨ gg = w.heap.size + 1) :
    Row2 t B w1 (.slice (some ⟨gg, 0, none⟩) (n1 + k) cap) v2 (n1 + k) n2 (xs1 ++ ys) xs2 := by
  have hv2 : v2.ownBlock = none ∨ v2.ownBlock ≠ v1.ownBlock := by
    cases e : v2.ownBlock with
    | none => exact .inl rfl
    | some g => exact .inr (fun e2 => h.ne g e2.symm e)
  refine ⟨by have e : ints (xs1 ++ ys) = ints xs1 ++ ints ys := by simp [ints]
             rw [e]; exact hown, (ownsRow_below h.o2 hbx).kept hg hv2, fun g hg1 e2 => ?_⟩
  have e3 : gg = g := by simpa [Value.ownBlock] using hg1
  subst e3
  rcases hat with e | e
  · exact h.ne gg e e2
  · have h3 := (own_type h.o2 e2).1
    omega
theorem Row2.stepx2 {wx : World} {ys : List Int} {k gg cap : Nat} (h : Row2 t B w v1 v2 n1 n2 xs1 xs2) (hbx : Below w.heap.size w wx) (hown : w1.ownsRow B t 1 (.slice (some ⟨gg, 0, none⟩) (n2 + k) cap) (n2 + k) (ints xs2 ++ ints ys)) (hg : wx.grownBy w1 v2.ownBlock) (hat : v2.ownBlock = some gg ∨ gg = w.heap.size + 1) :
    Row2 t B w1 v1 (.slice (some ⟨gg, 0, none⟩) (n2 + k) cap) n1 (n2 + k) xs1 (xs2 ++ ys) := by
  have hv1 : v1.ownBlock = none ∨ v1.ownBlock ≠ v2.ownBlock := by
    cases e : v1.ownBlock with
    | none => exact .inl rfl
    | some g => exact .inr (fun e2 => h.ne g e e2.symm)
  refine ⟨(ownsRow_below h.o1 hbx).kept hg hv1, by have e : ints (xs2 ++ ys) = ints xs2 ++ ints ys := by simp [ints]
                                                   rw [e]; exact hown, fun g hg1 e2 => ?_⟩
  have e3 : gg = g := by simpa [Value.ownBlock] using e2
  subst e3
  rcases hat with e | e
  · exact h.ne gg hg1 e
  · have h3 := (own_type h.o1 hg1).1
    omega
theorem grown_keepx {wx : World} {g : Nat} (h : w.ownsRow B t 1 v n1 (ints xs1)) (hbx : Below w.heap.size w wx) (hg : wx.grownBy w1 v.ownBlock) (h1 : g < B) (h2 : g < w.heap.size) : w1.heap[g]? = w.heap[g]? :=
  (hg.block g (Nat.lt_of_lt_of_le h2 hbx.size) (fun e => by
    have := (own_type h e.symm).2.1
    omega)).trans (hbx.block g h2)
theorem grown_lowx {wx w0 : World} {b0 : Nat} (h : w.ownsRow B t 1 v n1 (ints xs1)) (hbx : Below w.heap.size w wx) (hg : wx.grownBy w1 v.ownBlock) (hb : Below b0 w0 w) (h0 : b0 ≤ B) (hs : b0 ≤ w.heap.size) : Below b0 w0 w1 :=
  (hb.trans (hbx.mono hs)).grown hg (Nat.le_trans hs hbx.size) (fun g e => by
    have := (own_type h e).2.1
    omega)
theorem ints_at {xs : List Int} {j : Nat} {a : Int} (h : j < xs.length) (hv : xs.getD j 0 = a) : (ints xs)[j]? = some (.int .i64 a) := by
  subst hv
  simp [ints, h]
theorem addr_j (g j : Nat) : ((⟨g, 0, none⟩ : Addr).add j) = ⟨g, j, none⟩ := by
  cases j with
  | zero => rfl
  | succ j => simp [Addr.add]
theorem two_one {a b : Int} : ∀ u ∈ [Value.int .i64 a, Value.int .i64 b], u.oneCell' = true := by
  intro u hu
  simp at hu
  rcases hu with rfl | rfl <;> rfl
theorem two_new {w : World} {a b : Value} {t : TypeId} : ∀ j u, [a, b][j]? = some u → (w.alloc (.cells #[a, b] t)).cell? ((⟨w.heap.size, 0, none⟩ : Addr).add j) = some u := by
  intro j u hj
  have e : ((⟨w.heap.size, 0, none⟩ : Addr).add j) = ⟨w.heap.size, j, none⟩ := by
    cases j with
    | zero => rfl
    | succ j => simp [Addr.add]
  rw [e, cell_of_row _ _ _ #[a, b] t (0, 0) (heap_alloc_new _ _)]
  simpa using hj
end
end Go.Proofs.Ytaejgmdeiemhcab
namespace Go.Proofs.Ytaejgmdeiemhcab
open Go Go.RowKit
/-- All are elements. -/
def Els (n : Nat) (xs : List Int) : Prop := ∀ i, i < xs.length → 0 ≤ xs.getD i 0 ∧ xs.getD i 0 < (n : Int)
/-- An element of a list, as a natural number. -/
def el (xs : List Int) (i : Nat) : Nat := (xs.getD i 0).toNat
theorem Els.val {n : Nat} {xs : List Int} (h : Els n xs) {i : Nat} (hi : i < xs.length) : xs.getD i 0 = (el xs i : Int) ∧ el xs i < n := by
  have h1 := h i hi
  unfold el
  omega
/-- The set of the first k elements of a list. -/
def sN (xs : List Int) : Nat → Nat
  | 0 => 0
  | k + 1 => sN xs k ||| 2 ^ el xs k
theorem sN_in (xs : List Int) (k x : Nat) : inb (sN xs k) x ↔ ∃ i, i < k ∧ el xs i = x := by
  induction k with
  | zero => exact ⟨fun h => absurd h (inb_zero x), fun ⟨i, hi, _⟩ => by omega⟩
  | succ k ih =>
    show inb (sN xs k ||| 2 ^ el xs k) x ↔ _
    rw [inb_or, ih]
    constructor
    · rintro (⟨i, hi, e⟩ | rfl)
      · exact ⟨i, by omega, e⟩
      · exact ⟨k, by omega, rfl⟩
    · rintro ⟨i, hi, e⟩
      by_cases h : i = k
      · subst h; exact .inr e.symm
      · exact .inl ⟨i, by omega, e⟩
theorem sN_lt {n : Nat} {xs : List Int} (h : Els n xs) {k : Nat} (hk : k ≤ xs.length) : sN xs k < 2 ^ n :=
  set_lt (fun x hx => by
    obtain ⟨i, hi, rfl⟩ := (sN_in xs k x).1 hx
    exact (h.val (by omega)).2)
theorem sN_ne {xs : List Int} {k : Nat} (h : 0 < k) : sN xs k ≠ 0 := by
  intro e
  have h2 : inb (sN xs k) (el xs 0) := (sN_in xs k _).2 ⟨0, h, rfl⟩
  rw [e] at h2
  exact inb_zero _ h2

/-- A set of what holds, below n. -/
theorem set_of (P : Nat → Prop) (n : Nat) : ∃ V, V < 2 ^ n ∧ ∀ x, x < n → (inb V x ↔ P x) := by
  induction n with
  | zero => exact ⟨0, by simp, fun x hx => absurd hx (Nat.not_lt_zero _)⟩
  | succ n ih =>
    obtain ⟨V, hV, h⟩ := ih
    have hn : ¬ inb V n := fun h2 => by have := inb_lt hV h2; omega
    by_cases hp : P n
    · refine ⟨V ||| 2 ^ n, or_lt (Nat.lt_of_lt_of_le hV (Nat.pow_le_pow_right (by decide) (by omega))) (by omega), fun x hx => ?_⟩
      rw [inb_or]
      by_cases e : x = n
      · subst e; simp [hp]
      · rw [← h x (by omega)]; simp [e]
    · refine ⟨V, Nat.lt_of_lt_of_le hV (Nat.pow_le_pow_right (by decide) (by omega)), fun x hx => ?_⟩
      by_cases e : x = n
      · subst e; simp [hp, hn]
      · exact h x (by omega)
/-- V is in each set with S that is closed. -/
def Under (f : List (List Int)) (S V : Nat) : Prop := ∀ T, ClosedF f T → (∀ x, inb S x → inb T x) → ∀ x, inb V x → inb T x
/-- The least closed set with S. -/
structure LeastS (f : List (List Int)) (n S V : Nat) : Prop where
  lt : V < 2 ^ n
  closed : ClosedF f V
  up : ∀ x, inb S x → inb V x
  low : Under f S V
theorem LeastS.uniq {f : List (List Int)} {n S V V' : Nat} (h : LeastS f n S V) (h' : LeastS f n S V') : V = V' :=
  inb_eq (fun x => ⟨h.low V' h'.closed h'.up x, h'.low V h.closed h.up x⟩)
theorem LeastS.ex (f : List (List Int)) (n S : Nat) (hf : ∀ x y, x < n → y < n → ap f x y < n) (hS : S < 2 ^ n) : ∃ V, LeastS f n S V := by
  obtain ⟨V, hV, h⟩ := set_of (fun x => ∀ T, ClosedF f T → (∀ x, inb S x → inb T x) → inb T x) n
  refine ⟨V, hV, ?_, ?_, ?_⟩
  · intro x y hx hy
    have lx := inb_lt hV hx
    have ly := inb_lt hV hy
    refine (h _ (hf x y lx ly)).2 fun T hT hs => hT x y ((h x lx).1 hx T hT hs) ((h y ly).1 hy T hT hs)
  · intro x hx
    exact (h x (inb_lt hS hx)).2 fun T _ hs => hs x hx
  · intro T hT hs x hx
    exact (h x (inb_lt hV hx)).1 hx T hT hs
theorem Under.grow {f : List (List Int)} {S V W : Nat} (h : Under f S V) (hg : GrF f V W) : Under f S W := by
  intro T hT hs x hx
  rcases (hg x).1 hx with h1 | ⟨a, b, ha, hb, rfl⟩
  · exact h T hT hs x h1
  · exact hT a b (h T hT hs a ha) (h T hT hs b hb)
theorem Under.add {f : List (List Int)} {S V a b v : Nat} (h : Under f S V) (ha : inb V a) (hb : inb V b) (hv : ap f a b = v) : Under f S (V ||| 2 ^ v) := by
  intro T hT hs x hx
  rcases (inb_or V v x).1 hx with h1 | rfl
  · exact h T hT hs x h1
  · rw [← hv]; exact hT a b (h T hT hs a ha) (h T hT hs b hb)
def SfRes (f : List (List Int)) (xs : List Int) (zs : List Int) (code : Int) : Prop :=
  (∃ V, (Rck f ∧ Els f.length xs ∧ xs ≠ []) ∧ LeastS f f.length (sN xs xs.length) V ∧ zs = memL f.length V ∧ code = 0) ∨ (¬ Rck f ∧ zs = [] ∧ code = 1) ∨ (Rck f ∧ ¬ Els f.length xs ∧ zs = [] ∧ code = 2) ∨ (Rck f ∧ Els f.length xs ∧ xs = [] ∧ zs = [] ∧ code = 5)
theorem SfRes.ex (f : List (List Int)) (xs : List Int) : ∃ zs code, SfRes f xs zs code ∧ zs.length ≤ 1048576 := by
  by_cases h : Rck f
  · by_cases h2 : Els f.length xs
    · by_cases h3 : xs = []
      · exact ⟨_, _, .inr (.inr (.inr ⟨h, h2, h3, rfl, rfl⟩)), by simp⟩
      · obtain ⟨V, hV⟩ := LeastS.ex f f.length (sN xs xs.length) (fun x y hx hy => h.tbl.ap_lt rfl hx hy) (sN_lt h2 (Nat.le_refl _))
        refine ⟨_, _, .inl ⟨V, ⟨h, h2, h3⟩, hV, rfl, rfl⟩, ?_⟩
        have h4 := mems_length f.length V
        have h5 := h.tbl.2.1
        rw [memL_length]
        omega
    · exact ⟨_, _, .inr (.inr (.inl ⟨h, h2, rfl, rfl⟩)), by simp⟩
  · exact ⟨_, _, .inr (.inl ⟨h, rfl, rfl⟩), by simp⟩
end Go.Proofs.Ytaejgmdeiemhcab
