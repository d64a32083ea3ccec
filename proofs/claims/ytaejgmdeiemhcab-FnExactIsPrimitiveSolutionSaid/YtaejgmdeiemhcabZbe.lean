import Derived.Test.YtaejgmdeiemhcabZbd
import Derived.Test.YtaejgmdeiemhcabZd
import Derived.Deep.OwnRows
import Derived.StillTailTactics
import Derived.Test.YtaejgmdeiemhcabZl
import Derived.Test.YtaejgmdeiemhcabZau
import Derived.Test.YtaejgmdeiemhcabZbb
import Derived.Test.YtaejgmdeiemhcabZas
import Derived.Test.YtaejgmdeiemhcabZak
import Derived.Test.YtaejgmdeiemhcabZaz
import Derived.Test.YtaejgmdeiemhcabZac
import Derived.Test.YtaejgmdeiemhcabZy
import Derived.Deep.Cut
import Derived.Deep.RegionHeld3
import Derived.Deep.QuietTactic
import Derived.BigQuiet
namespace Go.Proofs.Ytaejgmdeiemhcab
open Go Go.RowKit
set_option maxHeartbeats 4000000
/-- The cells of a forest of which k elements are named. -/
def frC (k i : Nat) : Value := if i % 2 = 0 then .int .i64 (if i / 2 < k then ((i / 2 : Nat) : Int) else 0) else .pointer none
theorem frC_set (k : Nat) (i : Nat) : (if i = k * 2 then Value.int .i64 (k : Int) else frC k i) = frC (k + 1) i := by
  unfold frC
  by_cases h : i = k * 2
  · subst h
    rw [if_pos rfl, if_pos (by omega), if_pos (by omega)]
    congr 1
    omega
  · rw [if_neg h]
    by_cases h2 : i % 2 = 0
    · rw [if_pos h2, if_pos h2]
      by_cases h3 : i / 2 < k
      · rw [if_pos h3, if_pos (by omega)]
      · rw [if_neg h3, if_neg (by omega)]
    · rw [if_neg h2, if_neg h2]
theorem made2_at (a b : Value) (n i : Nat) (h : i < n) : (madeCells #[a, b] n)[i]? = some (if i % 2 = 0 then a else b) := by
  unfold madeCells
  rw [Array.getElem?_map, Array.getElem?_range, if_pos h]
  simp only [Option.map_some]
  congr 1
  rcases Nat.mod_two_eq_zero_or_one i with e | e <;> simp [e]
theorem make2 (P : Program) (t e : TypeId) (a b : Value) (i : TypeInfo) (z : Value) (ht : P.underlying t = some (.slice e)) (hi : P.info? e = some i) (hz : i.zero = some z) (hs : i.size = 2) (hb : i.bytes = 16) (hc : z.cells = #[a, b]) (n : Nat) (hn : n ≤ 4096) (w : World) :
    (Instr.makeSlice t (.int .i64 (n : Int)) (.int .i64 (n : Int))).run P w = .ok (.slice (some ⟨w.heap.size, 0, none⟩) n n) (w.alloc (.cells (madeCells #[a, b] (n * 2)) e)) := by
  have hr := run_make (P := P) w t e i z ht hi hz .i64 .i64 n n (by omega) (Int.le_refl _) (by rw [hb]; omega) (by omega)
  simp only [Int.toNat_natCast, hs, hc] at hr
  exact hr
theorem made2_row (w : World) (t : TypeId) (a b : Value) (n : Nat) : (w.alloc (.cells (madeCells #[a, b] (n * 2)) t)).rowIs w.heap.size t (n * 2) (fun i => if i % 2 = 0 then a else b) :=
  ⟨_, heap_alloc_new _ _, size_madeCells _ _, fun i hi => made2_at a b _ i hi⟩
set_option maxRecDepth 100000 in
theorem newFr_any (n : Nat) (w : World) (hn : n ≤ 12) :
    Calls Try.prog 83 #[.int .i64 (n : Int)] w fun e w' => e = .returned (.slice (some ⟨w.heap.size, 0, none⟩) n n) ∧ Below w.heap.size w w' ∧ FrM 130 w' w.heap.size n (fun _ => none) := by
  obtain ⟨i0, hinf, hz0, hz1, hz2⟩ := info_parts frInfo
  have hmk := make2 Try.prog 95 130 (.int .i64 0) (.pointer none) i0 _ Try.underlying95 hinf hz0 hz1 hz2 rfl n (by omega)
  go_enter Try.func83, Try.ntmps83
  go_wp2_with fail
  clear hmk
  go_loopw [9] (fun i wr => ∃ k : Nat, k ≤ n ∧ i = .int .i64 (k : Int) ∧ Below w.heap.size w wr ∧ wr.rowIs w.heap.size 130 (n * 2) (frC k)) (fun i _ => n - (intOf i).toNat)
  case atStart => exact ⟨0, Nat.zero_le _, rfl, (Below.refl _ _).alloc (Nat.le_refl _) _, (made2_row w _ _ _ n).congr fun i _ => by
    unfold frC
    by_cases h : i % 2 = 0
    · rw [if_pos h, if_pos h, if_neg (by omega)]
    · rw [if_neg h, if_neg h]⟩
  case round =>
    obtain ⟨k, hk, rfl, hbe, hrow⟩ := hrel
    have HB := hide hbe
    have HR := hide hrow
    clear hbe hrow
    by_cases hlt : k < n
    · have hltz : (k : Int) < n := by omega
      have f0 := HR.out.cell (i := k * 2) (by omega)
      have f1 := HR.out.frozen (k * 2)
      have HS := hide ((HR.out.set (k * 2) (.int .i64 (k : Int))).congr fun i _ => frC_set k i)
      have HB2 := hide (HB.out.setCell (p := ⟨w.heap.size, k * 2, none⟩) (Nat.le_refl _) (.int .i64 (k : Int)))
      go_wp2_with fail
      go_roundw
      case rel => exact ⟨k + 1, by omega, by go_num, HB2.out, HS.out⟩
      case measure => simp [intOf]; omega
    · have hkn : k = n := by omega
      subst hkn
      go_wp2_with fail
      go_ret
      obtain ⟨cur, h1, _, h3⟩ := HR.out
      refine ⟨rfl, HB.out, cur, h1, fun x hx => ⟨?_, ?_⟩⟩
      · rw [h3 _ (by omega)]
        unfold frC
        rw [if_pos (by omega), if_pos (by omega)]
        congr 2
        omega
      · rw [h3 _ (by omega)]
        unfold frC
        rw [if_neg (by omega)]
        rfl
set_option maxRecDepth 100000 in
theorem frNum_any (n g c : Nat) (L : List Int) (w : World) (hn : n ≤ 12) (hst : frSt 130 g n w L) :
    Calls Try.prog 87 #[.slice (some ⟨g, 0, none⟩) n c] w fun e w' => ∃ c', e = .returned (.slice (some ⟨w.heap.size, 0, none⟩) n c') ∧ Below w.heap.size w w' ∧ OwnB 2 w' w.heap.size (numL L) := by
  obtain ⟨par, rt, dp, hfr, hfm, hL⟩ := hst
  have HFR := hide hfr
  have HFM := hide hfm
  have HL := hide hL
  have hmk := run_make_row' (P := Try.prog) 32 2 (.int .i64 0) 8 Try.underlying32 idInfo rfl .i64 .i64 n (by omega) (by omega)
  clear hfr hfm hL
  go_enter Try.func87, Try.ntmps87
  go_wp2_with fail
  clear hmk
  have hRL := rtL_length n rt
  have HRL := hide hRL
  clear hRL
  go_loopw [10] (fun i wr => ∃ k : Nat, k ≤ n ∧ i = .int .i64 (k : Int) ∧ Below w.heap.size w wr ∧ Row 2 wr w.heap.size ((rtL n rt).take k ++ List.replicate (n - k) 0) ∧ w.heap.size < wr.heap.size) (fun i _ => n - (intOf i).toNat)
  case atStart => exact ⟨0, Nat.zero_le _, rfl, (Below.refl _ _).alloc (Nat.le_refl _) _, by simpa using Row.made 2 w n, by simp⟩
  case round =>
    obtain ⟨k, hk, rfl, hbe, hrow, hsz⟩ := hrel
    have HB := hide hbe
    have HROW := hide hrow
    clear hbe hrow
    by_cases hlt : k < n
    · have hltz : (k : Int) < n := by omega
      go_wp2_with fail
      refine (root_any n g k par rt dp _ HFR.out (HFM.out.later HB.out HFM.out.lt) hlt).mono ?_
      rintro e w4 ⟨rfl, hq4⟩
      have HB4 := hide (HB.out.trans (hq4.below _))
      have HROW4 := hide (HROW.out.later (hq4.below wr.heap.size) hsz)
      have hsz4 : w.heap.size < w4.heap.size := Nat.lt_of_lt_of_le hsz (hq4.below 0).size
      obtain ⟨rk, hrk⟩ : ∃ r, rt k = r := ⟨_, rfl⟩
      have hrkn : rk < n := by rw [← hrk]; exact (HFR.out.rin k hlt).1
      have f0 := (HFM.out.later HB4.out HFM.out.lt).elt hrkn
      have h2 := HROW4.out.cell (i := k) (by have := HRL.out; simp; omega)
      have h3 := HROW4.out.frozen k
      have hat : (rtL n rt).getD k 0 = (rk : Int) := by rw [← hrk]; exact rtL_lb hlt
      have hst := HROW4.out.set k ((rtL n rt).getD k 0)
      rw [fill_step (rtL n rt) n k HRL.out hlt, hat] at hst
      have HST := hide hst
      have HB5 := hide (HB4.out.setCell (p := ⟨w.heap.size, k, none⟩) (Nat.le_refl _) (.int .i64 (rk : Int)))
      rw [hrk]
      clear hq4 hrk hat hst
      go_wp2_with fail
      go_roundw
      case rel => exact ⟨k + 1, by omega, by go_num, HB5.out, HST.out, by simpa [World.setCell] using hsz4⟩
      case measure => simp [intOf]; omega
    · have hkn : k = n := by omega
      subst hkn
      have how : OwnB 2 wr w.heap.size (rtL k rt) := by
        have h := HROW.out.own
        rwa [Nat.sub_self, List.replicate_zero, List.append_nil, List.take_of_length_le (by rw [HRL.out]; exact Nat.le_refl _)] at h
      have HOW := hide how
      clear how
      go_wp2_with fail
      refine (numberAnew_any w.heap.size k k (rtL k rt) _ HRL.out hn (fun v hv => by
        obtain ⟨a, ha, rfl⟩ := List.mem_map.1 hv
        have := (HFR.out.rin a (List.mem_range.1 ha)).1
        omega) HOW.out).mono ?_
      rintro e w5 ⟨rfl, ht5, ho5⟩
      have HB5 := hide (Touch.below HB.out ht5 HB.out.size (by omega))
      have HO5 := hide ho5
      clear ht5 ho5
      go_wp2_with fail
      go_ret
      refine ⟨_, rfl, HB5.out, ?_⟩
      rw [HL.out]
      exact HO5.out
end Go.Proofs.Ytaejgmdeiemhcab
namespace Go.Proofs.Ytaejgmdeiemhcab
open Go Go.RowKit
set_option maxHeartbeats 1000000

theorem nd7I (A : Option Addr) (n c : Nat) (f : List (List Int)) (B : Option Addr) (m d : Nat) (s : List (List Int)) (r : Bool) (w : World) (hz : ZArg 1048576 w A n f B m s) (hr : r = true ↔ NdS f s) :
    Calls Try.prog 47 #[.agg #[.slice A n c, .slice B m d]] w fun e w' => e = .returned (.bool r) ∧ Below w.heap.size w w' := by
  have HZ := hide hz
  have HB0 := hide ((Below.refl _ w).alloc (Nat.le_refl _) (Obj.cells #[Value.slice A n c, Value.slice B m d] 35))
  have HK0 := hide (Blk.new w 35 [.slice A n c, .slice B m d])
  by_cases h1 : SolF f s
  · obtain rfl := hz.same h1.1
    have H1 := hide h1
    have hr2 : r = true ↔ NonF f s := by rw [hr]; exact ⟨fun h => h.2, fun h => ⟨h1, h⟩⟩
    have HR2 := hide hr2
    clear h1 hr2 hr hz
    go_enter Try.func47, Try.ntmps47
    go_wp2_with fail
    refine (isI_any _ _ _ f _ _ _ s true _ (HZ.out.later HB0.out) (by unfold IsRes; simp [H1.out])).mono ?_
    rintro e w1 ⟨rfl, hb1⟩
    have HB1 := hide (HB0.out.trans (hb1.mono HB0.out.size))
    have HK1 := hide (HK0.out.later hb1)
    have k0 := HK1.out.cell 0 _ rfl
    have k1 := HK1.out.cell 1 _ rfl
    clear hb1
    go_wp2_with fail
    refine (nonZ_any _ _ _ f _ _ s r _ (HZ.out.later HB1.out) H1.out.1 HR2.out).mono ?_
    rintro e w2 ⟨rfl, hb2⟩
    have HB2 := hide (HB1.out.trans (hb2.mono HB1.out.size))
    clear hb2 k0 k1
    go_wp2_with fail
    go_ret
    exact ⟨rfl, HB2.out⟩
  · have hrf : r = false := by
      cases r
      · rfl
      · exact absurd (hr.1 rfl).1 h1
    subst hrf
    have H1 := hide h1
    clear h1 hr hz
    go_enter Try.func47, Try.ntmps47
    go_wp2_with fail
    refine (isI_any _ _ _ f _ _ _ s false _ (HZ.out.later HB0.out) (by unfold IsRes; simp [H1.out])).mono ?_
    rintro e w1 ⟨rfl, hb1⟩
    have HB1 := hide (HB0.out.trans (hb1.mono HB0.out.size))
    clear hb1
    go_wp2_with fail
    go_ret
    exact ⟨rfl, HB1.out⟩
end Go.Proofs.Ytaejgmdeiemhcab
namespace Go.Proofs.Ytaejgmdeiemhcab
open Go Go.RowKit
set_option maxHeartbeats 2000000
set_option maxRecDepth 100000 in
theorem orbZ_any (A : Option Addr) (n c : Nat) (f : List (List Int)) (B : Option Addr) (d : Nat) (s : List (List Int)) (w : World) (hz : ZArg 1048576 w A n f B n s) (hg : NdS f s) :
    Calls Try.prog 81 #[.agg #[.slice A n c, .slice B n d]] w fun e w' => ∃ g c', e = .returned (.slice (some ⟨g, 0, none⟩) n c') ∧ Below w.heap.size w w' ∧ w.heap.size ≤ g ∧ OwnB 2 w' g (orbS f s) := by
  have h12 := hz.small hg.map
  have h1 : 1 ≤ n := by have := hg.map.1.1; have := hz.sz.fl; omega
  have HZ := hide hz
  have HG := hide hg
  have HBc := hide ((Below.refl _ w).alloc (Nat.le_refl _) (Obj.cells #[Value.slice A n c, Value.slice B n d] 35))
  have HKc := hide (Blk.new w 35 [.slice A n c, .slice B n d])
  clear hz hg
  go_enter Try.func81, Try.ntmps81
  go_upto_region 1 with fail
  refine wp_gen fun w0 hw0 => ?_
  have HB0 := hide (show Below w.heap.size w w0 by rw [hw0]; exact HBc.out)
  replace HKc := hide (show Blk w0 w.heap.size 35 [.slice A n c, .slice B n d] by rw [hw0]; exact HKc.out)
  clear hw0 HBc
  have HBc := HB0
  clear HB0
  have k0 := HKc.out.cell 0 _ rfl
  have k1 := HKc.out.cell 1 _ rfl
  go_region_held3 (fun w' => w'.cell? ⟨w.heap.size, 0, none⟩ = some (.slice A n c) ∧ w'.cell? ⟨w.heap.size, 1, none⟩ = some (.slice B n d)) (first | exact ⟨k0, k1⟩ | go_keep) (first | (go_at_call 49; go_must (refine calls_gen fun wc hwc => ?_; (first | have hbx := drew_below hwc | have hbx := eq_below hwc); replace HBc := hide (HBc.out.trans (hbx.mono HBc.out.size)); replace HKc := hide (HKc.out.later hbx); clear hwc hbx; refine (size_any _ n _ _ _ _ _ HZ.out.sz.nb).mono ?_; rintro e wd ⟨rfl, hbd⟩; replace HBc := hide (HBc.out.trans (hbd.mono HBc.out.size)); replace HKc := hide (HKc.out.later hbd); clear hbd; have k0 := HKc.out.cell 0 _ rfl; have k1 := HKc.out.cell 1 _ rfl; skip)) | (go_at_call 82; go_must (refine calls_gen fun wc hwc => ?_; (first | have hbx := drew_below hwc | have hbx := eq_below hwc); replace HBc := hide (HBc.out.trans (hbx.mono HBc.out.size)); replace HKc := hide (HKc.out.later hbx); clear hwc hbx; refine (wsyZ_any _ n _ f _ _ s _ (HZ.out.later HBc.out) HG.out.map).mono ?_; rintro e wd ⟨A2, c2, rfl, hbd, hrd⟩; replace HBc := hide (HBc.out.trans (hbd.mono HBc.out.size)); replace HKc := hide (HKc.out.later hbd); clear hbd; have k0 := HKc.out.cell 0 _ rfl; have k1 := HKc.out.cell 1 _ rfl; have HRD := hide hrd; clear hrd)) | (go_at_call 125; go_must (refine calls_gen fun wc hwc => ?_; (first | have hbx := drew_below hwc | have hbx := eq_below hwc); replace HBc := hide (HBc.out.trans (hbx.mono HBc.out.size)); replace HKc := hide (HKc.out.later hbx); replace HRD := hide (HRD.out.later hbx); clear hwc hbx; have HLO := hide HBc.out.size; refine (orbL_any _ (n + n) _ n (bothL f s) _ (bothL_length HZ.out.sz.fl HZ.out.sz.sl) (by omega) h1 h12.2 (HG.out.both HZ.out.sz.fl) HRD.out).mono ?_; rintro e wd ⟨g, c3, rfl, hbd, hg3, how⟩; replace HBc := hide (HBc.out.trans (hbd.mono HBc.out.size)); replace HKc := hide (HKc.out.later hbd); clear hbd; have k0 := HKc.out.cell 0 _ rfl; have k1 := HKc.out.cell 1 _ rfl; have HOW := hide how; have HGL := hide hg3; clear how hg3)))
  clear k0 k1
  go_wp2_with fail
  go_ret
  refine ⟨_, _, rfl, HBc.out, Nat.le_trans HLO.out HGL.out, ?_⟩
  unfold orbS
  rw [HZ.out.sz.fl]
  exact HOW.out
set_option maxRecDepth 100000 in
theorem indZ_any (A : Option Addr) (n c : Nat) (f : List (List Int)) (B : Option Addr) (d : Nat) (s : List (List Int)) (r : Bool) (w : World) (hz : ZArg 1048576 w A n f B n s) (hg : NdS f s) (hr : r = true ↔ orbN f s = 1) :
    Calls Try.prog 50 #[.agg #[.slice A n c, .slice B n d]] w fun e w' => e = .returned (.bool r) ∧ Below w.heap.size w w' := by
  have h12 := hz.small hg.map
  have h1 : 1 ≤ n := by have := hg.map.1.1; have := hz.sz.fl; omega
  have HZ := hide hz
  have HG := hide hg
  have HB0 := hide ((Below.refl _ w).alloc (Nat.le_refl _) (Obj.cells #[Value.slice A n c, Value.slice B n d] 35))
  have HK0 := hide (Blk.new w 35 [.slice A n c, .slice B n d])
  obtain ⟨q, hq⟩ : ∃ q, orbN f s = q := ⟨_, rfl⟩
  rw [hq] at hr
  have hm := orb_max hg
  rw [hq] at hm
  have HM := hide hm
  obtain ⟨m, hm2⟩ : ∃ m, (q : Int) - 1 = m := ⟨_, rfl⟩
  rw [hm2] at HM
  have hr2 : r = true ↔ m = 0 := by rw [hr]; omega
  have HR2 := hide hr2
  clear hz hg hr hq hm hm2 hr2
  go_enter Try.func50, Try.ntmps50
  go_wp2_with fail
  refine (orbZ_any _ n _ f _ _ s _ (HZ.out.later HB0.out) HG.out).mono ?_
  rintro e w1 ⟨g, c1, rfl, hb1, hg1, how⟩
  have HB1 := hide (HB0.out.trans (hb1.mono HB0.out.size))
  have HOW := hide how
  clear hb1 how
  go_wp2_with fail
  refine (max_any _ n _ (orbS f s) m _ (by rw [orbS_length]; exact HZ.out.sz.fl) h1 HZ.out.sz.nb HOW.out.rd HM.out).mono ?_
  rintro e w2 ⟨rfl, hb2⟩
  have HB2 := hide (HB1.out.trans (hb2.mono HB1.out.size))
  clear hb2
  by_cases h0 : m = 0
  · have hrt : r = true := HR2.out.2 h0
    subst hrt
    subst h0
    go_wp2_with fail
    go_ret
    exact ⟨rfl, HB2.out⟩
  · have hrt : r = false := by
      cases r
      · rfl
      · exact absurd (HR2.out.1 rfl) h0
    subst hrt
    have hbeq : (m == 0) = false := by simpa using h0
    go_wp2_with fail
    go_ret
    exact ⟨by simp, HB2.out⟩
end Go.Proofs.Ytaejgmdeiemhcab
namespace Go.Proofs.Ytaejgmdeiemhcab
open Go Go.RowKit
open Classical
set_option maxHeartbeats 4000000
set_option maxRecDepth 100000 in
theorem blS_any (A : Option Addr) (n c : Nat) (f : List (List Int)) (B : Option Addr) (d : Nat) (s : List (List Int)) (x y : Nat) (w : World) (hz : ZArg 1048576 w A n f B n s) (hg : NdS f s) (hx : x < n) (hy : y < n) :
    Calls Try.prog 46 #[.agg #[.slice A n c, .slice B n d], .int .i64 (x : Int), .int .i64 (y : Int)] w fun e w' => ∃ A' c', e = .returned (.slice A' n c') ∧ Below w.heap.size w w' ∧ Res 2 w.heap.size w' A' (blL f s x y) := by
  have hfn := hz.sz.fl
  have h12 := (hz.small hg.map).2
  have h1 : 1 ≤ n := (hz.small hg.map).1
  have hK := bothL_length (f := f) (s := s) hfn (hg.sizes hfn).2.2
  have hgens := hg.both hfn
  have HMP := hide (both_lt hg hfn)
  have HNN := hide (both_nonneg hg hfn)
  have HFN := hide hfn
  have HZ := hide hz
  have HG := hide hg
  have HBc := hide ((Below.refl _ w).alloc (Nat.le_refl _) (Obj.cells #[Value.slice A n c, Value.slice B n d] 35))
  have HKc := hide (Blk.new w 35 [.slice A n c, .slice B n d])
  have HKL := hide hK
  have HRL : Hid (∀ i, i < n + n → ((bothL f s).getD i []).length = n) := hide (fun i hi => (hgens i (by rw [hK]; exact hi)).1)
  clear hz hg hfn hK hgens
  go_enter Try.func46, Try.ntmps46
  go_upto_region 1 with fail
  refine wp_gen fun w0 hw0 => ?_
  replace HBc := hide (show Below w.heap.size w w0 by rw [hw0]; exact HBc.out)
  replace HKc := hide (show Blk w0 w.heap.size 35 [.slice A n c, .slice B n d] by rw [hw0]; exact HKc.out)
  clear hw0
  have k0 := HKc.out.cell 0 _ rfl
  have k1 := HKc.out.cell 1 _ rfl
  go_region_held3 (fun w' => w'.cell? ⟨w.heap.size, 0, none⟩ = some (.slice A n c) ∧ w'.cell? ⟨w.heap.size, 1, none⟩ = some (.slice B n d)) (first | exact ⟨k0, k1⟩ | go_keep) (first | (go_at_call 76; go_must (refine calls_gen fun wc hwc => ?_; (first | have hbx := drew_below hwc | have hbx := eq_below hwc); replace HBc := hide (HBc.out.trans (hbx.mono HBc.out.size)); replace HKc := hide (HKc.out.later hbx); clear hwc hbx; refine (bothS_any _ n _ f _ _ s _ (HZ.out.later HBc.out) HG.out.map).mono ?_; rintro e wL ⟨A7, c7, rfl, hbd, hl⟩; replace HBc := hide (HBc.out.trans (hbd.mono HBc.out.size)); replace HKc := hide (HKc.out.later hbd); clear hbd; have k0 := HKc.out.cell 0 _ rfl; have k1 := HKc.out.cell 1 _ rfl; have HL := hide hl; have HBL := HBc; have HLB := hide (Below.refl wL.heap.size wL); clear hl)) | (go_at_call 62; go_must (refine calls_gen fun wc hwc => ?_; (first | have hbx := drew_below hwc | have hbx := eq_below hwc); replace HBc := hide (HBc.out.trans (hbx.mono HBc.out.size)); replace HKc := hide (HKc.out.later hbx); replace HLB := hide (HLB.out.trans (hbx.mono HLB.out.size)); clear hwc hbx; refine (l01Unit_any n _ (by omega)).mono ?_; rintro e wU ⟨A8, c8, rfl, hbd, hu⟩; replace HBc := hide (HBc.out.trans (hbd.mono HBc.out.size)); replace HKc := hide (HKc.out.later hbd); have HU := hide (hu.mono HLB.out.size); replace HLB := hide (HLB.out.trans (hbd.mono HLB.out.size)); clear hbd hu; have k0 := HKc.out.cell 0 _ rfl; have k1 := HKc.out.cell 1 _ rfl)))
  clear k0 k1 HKc HBc HZ
  obtain ⟨mp, hmp⟩ : ∃ mp, ap (bothL f s) = mp := ⟨_, rfl⟩
  obtain ⟨K, hKe⟩ : ∃ K, n + n = K := ⟨_, rfl⟩
  have hcells := rows_cells (n := n) (K := K) HL.out (by rw [← hKe]; exact HKL.out) h1 (by rw [← hKe]; exact HRL.out) (by rw [← hKe]; exact HNN.out) (by omega)
  rw [hmp] at hcells
  have HMPE := hide hmp
  have HKE := hide hKe
  have HML : Hid (∀ i a, i < K → a < n → mp i a < n) := hide (by rw [← hmp, ← hKe]; exact HMP.out)
  have hK24 : K ≤ 24 := by omega
  rw [hKe]
  obtain ⟨bt, ot, hA7, hbt, hrows⟩ := hcells
  subst hA7
  have HRW := hide hrows
  obtain ⟨g, hA8, hgL, hog⟩ : ∃ g, A8 = some ⟨g, 0, none⟩ ∧ wL.heap.size ≤ g ∧ OwnB 2 wU g (unitN n) := by
    rcases HU.out with ⟨_, h0⟩ | ⟨g, e1, e2, e3⟩
    · have := unitN_length n
      rw [h0] at this
      simp at this
      omega
    · exact ⟨g, e1, e2, e3⟩
  subst hA8
  have HO0 := hide hog
  have o1 := hog.cell (i := y) (by rw [unitN_length]; exact hy)
  have o2 := hog.frozen y
  have hyz : (y : Int) < n := by omega
  have HO1 := hide (hog.set y (x : Int) (by rw [unitN_length]; exact hy))
  have HB1 := hide (HLB.out.setCell (p := ⟨g, y, none⟩) hgL (.int .i64 (x : Int)))
  have HS1 : Hid (BlS mp K n x y ((unitN n).set y (x : Int))) := hide (.start hx hy)
  clear hmp hKe hrows hog HU HL HMP HNN HKL HRL
  go_upto_region 3 with fail
  refine wp_gen fun w1 hw1 => ?_
  replace HO1 := hide (show OwnB 2 w1 g ((unitN n).set y (x : Int)) by rw [hw1]; first | exact HO1.out | simpa [World.drew] using HO1.out)
  replace HB1 := hide (show Below wL.heap.size wL w1 by rw [hw1]; first | exact HB1.out | exact HB1.out.drew)
  clear hw1 o1 o2 HO0 HLB
  go_wp2_with fail
  go_loopg [9] (cgCnt n ((unitN n).set y (x : Int)) * 2 + 1) (fun r v wr => ∃ (L : List Int) (mo : Bool), v = .bool mo ∧ r = cgCnt n L * 2 + (if mo = true then 1 else 0) ∧ Below wL.heap.size wL wr ∧ OwnB 2 wr g L ∧ BlS mp K n x y L ∧ (mo = false → ∀ a, a < n → ∀ b, b < a → Cl1 mp K L a b))
  case atStart => exact ⟨_, true, rfl, by simp, HB1.out, HO1.out, HS1.out, fun h => Bool.noConfusion h⟩
  case round =>
    clear HB1 HO1 HS1
    obtain ⟨L0, mo, rfl, rfl, hbe, hown, hbl, hcl⟩ := hrel
    have HB := hide hbe
    have HO := hide hown
    have HS := hide hbl
    clear hbe hown hbl
    cases mo with
    | false =>
      have HC := hide (hcl rfl)
      have HLN : Hid (L0.length = n) := hide HS.out.len
      have hfin := BlS.blL (f := f) (s := s) HFN.out HG.out (by rw [HMPE.out, HKE.out]; exact HS.out) hx hy (by rw [HMPE.out, HKE.out]; exact HC.out)
      have HF := hide hfin
      clear hcl hfin
      go_wp2_with fail
      refine (renS_any (some ⟨g, 0, none⟩) n c8 L0 _ HLN.out h12 HO.out.rd).mono ?_
      rintro e w9 ⟨A9, c9, rfl, hb9, hres9⟩
      have HBW := hide (HBL.out.trans (HB.out.mono HBL.out.size))
      have HB9 := hide (HBW.out.trans (hb9.mono HBW.out.size))
      have HRS := hide (hres9.mono HBW.out.size)
      clear hb9 hres9
      go_wp2_with fail
      go_ret
      refine ⟨A9, c9, rfl, HB9.out, ?_⟩
      rw [← HF.out]
      exact HRS.out
    | true =>
      clear hcl
      go_wp2_with fail
      go_loopw [9, 10] (fun v i wr => ∃ (a : Nat) (mo : Bool) (L : List Int), a ≤ n ∧ v = .bool mo ∧ i = .int .i64 (a : Int) ∧ Below wL.heap.size wL wr ∧ OwnB 2 wr g L ∧ BlS mp K n x y L ∧ Pas n L0 mo L (∀ a', a' < a → ∀ b', b' < a' → Cl1 mp K L0 a' b')) (fun _ i _ => n - (intOf i).toNat)
      case atStart => exact ⟨0, false, L0, Nat.zero_le _, rfl, rfl, HB.out, HO.out, HS.out, .inl ⟨rfl, rfl, fun a ha => absurd ha (Nat.not_lt_zero _)⟩⟩
      case round =>
        clear HB HO
        obtain ⟨a, mo, L, hale, rfl, rfl, hbe, hown, hbl, hpas⟩ := hrel
        have HB := hide hbe
        have HO := hide hown
        have HS1 := hide hbl
        have HP := hide hpas
        have HLN : Hid (L.length = n) := hide hbl.len
        clear hbe hown hbl hpas
        by_cases hla : a < n
        · have haz : (a : Int) < n := by omega
          go_wp2_with fail
          go_loopw [9, 11] (fun v i wr => ∃ (b : Nat) (mo : Bool) (L : List Int), b ≤ a ∧ v = .bool mo ∧ i = .int .i64 (b : Int) ∧ Below wL.heap.size wL wr ∧ OwnB 2 wr g L ∧ BlS mp K n x y L ∧ Pas n L0 mo L ((∀ a', a' < a → ∀ b', b' < a' → Cl1 mp K L0 a' b') ∧ ∀ b', b' < b → Cl1 mp K L0 a b')) (fun _ i _ => a - (intOf i).toNat)
          case atStart => exact ⟨0, mo, L, Nat.zero_le _, rfl, rfl, HB.out, HO.out, HS1.out, HP.out.imp fun _ h => ⟨h, fun b hb => absurd hb (Nat.not_lt_zero _)⟩⟩
          case round =>
            clear HB HO HS1 HP HLN
            obtain ⟨b, mo, L, hble, rfl, rfl, hbe, hown, hbl, hpas⟩ := hrel
            have HB := hide hbe
            have HO := hide hown
            have HS1 := hide hbl
            have HP := hide hpas
            have HLN : Hid (L.length = n) := hide hbl.len
            clear hbe hown hbl hpas
            by_cases hlb : b < a
            · have hbz : (b : Int) < a := by omega
              have hbn : b < n := by omega
              have hbnz : (b : Int) < n := by omega
              obtain ⟨la, hla2⟩ : ∃ v, lb L a = v := ⟨_, rfl⟩
              obtain ⟨l2, hlb2⟩ : ∃ v, lb L b = v := ⟨_, rfl⟩
              have f0 := HO.out.cell1 (v := la) a (by rw [HLN.out]; exact hla) hla2
              have f1 := HO.out.cell1 (v := l2) b (by rw [HLN.out]; exact hbn) hlb2
              have HLA := hide hla2
              have HLB2 := hide hlb2
              clear hla2 hlb2
              go_wp2_with fail
              go_quiet (fail)
              obtain ⟨w5, hw5⟩ : ∃ w5, wr.drewN nq = w5 := ⟨_, rfl⟩
              have hq5 : Below wr.heap.size wr w5 := by rw [← hw5]; exact bdrewN (Below.refl _ _) nq
              have HBw5 := hide (HB.out.trans (hq5.mono HB.out.size))
              have HOw5 := hide (HO.out.later hq5 HO.out.lt)
              rw [hw5]
              clear hw5 hq5 f0 f1 HB HO
              by_cases hab : la = l2
              · subst hab
                have hbe : (la != la) = false := by simp
                have HAB : Hid (lb L a = lb L b) := hide (HLA.out.trans HLB2.out.symm)
                clear HLA HLB2
                go_wp2_with fail
                go_loopw [9, 12] (fun v i wr => ∃ (k : Nat) (mo : Bool) (L : List Int), k ≤ K ∧ v = .bool mo ∧ i = .int .i64 (k : Int) ∧ Below wL.heap.size wL wr ∧ OwnB 2 wr g L ∧ BlS mp K n x y L ∧ lb L a = lb L b ∧ Pas n L0 mo L (((∀ a', a' < a → ∀ b', b' < a' → Cl1 mp K L0 a' b') ∧ ∀ b', b' < b → Cl1 mp K L0 a b') ∧ ∀ k', k' < k → lb L0 (mp k' a) = lb L0 (mp k' b))) (fun _ i _ => K - (intOf i).toNat)
                case atStart => exact ⟨0, mo, L, Nat.zero_le _, rfl, rfl, HBw5.out, HOw5.out, HS1.out, HAB.out, HP.out.imp fun _ h => ⟨h, fun b hb => absurd hb (Nat.not_lt_zero _)⟩⟩
                case round =>
                  clear HBw5 HOw5 HS1 HP HLN HAB
                  obtain ⟨k, mo, L, hkle, rfl, rfl, hbe2, hown, hbl, hab2, hpas⟩ := hrel
                  have HB := hide hbe2
                  have HO := hide hown
                  have HS1 := hide hbl
                  have HP := hide hpas
                  have HAB := hide hab2
                  have HLN : Hid (L.length = n) := hide hbl.len
                  clear hbe2 hown hbl hpas hab2
                  by_cases hlk : k < K
                  · have hkz : (k : Int) < K := by omega
                    obtain ⟨bk, ok, ck, r0, r1, r2⟩ := HRW.out k hlk
                    obtain ⟨ma, hma⟩ : ∃ v, mp k a = v := ⟨_, rfl⟩
                    obtain ⟨mb, hmb⟩ : ∃ v, mp k b = v := ⟨_, rfl⟩
                    have hman : ma < n := by rw [← hma]; exact HML.out k a hlk hla
                    have hmbn : mb < n := by rw [← hmb]; exact HML.out k b hlk hbn
                    have hmaz : (ma : Int) < n := by omega
                    have hmbz : (mb : Int) < n := by omega
                    have ra := r2 a hla
                    have rb := r2 b hbn
                    rw [hma] at ra
                    rw [hmb] at rb
                    obtain ⟨lu, hlu⟩ : ∃ v, lb L ma = v := ⟨_, rfl⟩
                    obtain ⟨lv, hlv⟩ : ∃ v, lb L mb = v := ⟨_, rfl⟩
                    have f0 : wr.cell? ⟨bt, ot + k, none⟩ = some (.slice (some ⟨bk, ok, none⟩) n ck) := (HB.out.cell (p := ⟨bt, ot + k, none⟩) hbt).trans r0
                    have f1 : wr.cell? ⟨bk, ok + a, none⟩ = some (.int .i64 (ma : Int)) := (HB.out.cell (p := ⟨bk, ok + a, none⟩) r1).trans ra
                    have f2 : wr.cell? ⟨bk, ok + b, none⟩ = some (.int .i64 (mb : Int)) := (HB.out.cell (p := ⟨bk, ok + b, none⟩) r1).trans rb
                    have f3 := HO.out.cell1 (v := lu) ma (by rw [HLN.out]; exact hman) hlu
                    have f4 := HO.out.cell1 (v := lv) mb (by rw [HLN.out]; exact hmbn) hlv
                    have HMA := hide hma
                    have HMB := hide hmb
                    have HLU := hide hlu
                    have HLV := hide hlv
                    clear r0 r1 r2 ra rb hma hmb hlu hlv
                    go_wp2_with fail
                    go_quiet (fail)
                    obtain ⟨w6, hw5⟩ : ∃ w5, wr.drewN nq = w5 := ⟨_, rfl⟩
                    have hq5 : Below wr.heap.size wr w6 := by rw [← hw5]; exact bdrewN (Below.refl _ _) nq
                    have HBw6 := hide (HB.out.trans (hq5.mono HB.out.size))
                    have HOw6 := hide (HO.out.later hq5 HO.out.lt)
                    rw [hw5]
                    clear hw5 hq5 f0 f1 f2 f3 f4 HB HO
                    have HO7 : Hid (OwnB 2 w6 g (jgTo L lv lu 0)) := hide (by simpa [jgTo] using HOw6.out)
                    clear HOw6
                    go_wp2_with fail
                    go_loopw [9, 15] (fun v i wi => ∃ (c' : Nat) (mo' : Bool), c' ≤ n ∧ v = .bool mo' ∧ i = .int .i64 (c' : Int) ∧ Below wL.heap.size wL wi ∧ OwnB 2 wi g (jgTo L lv lu c') ∧ (∀ j, j < c' → lb L j = lu → mo' = true) ∧ (lu = lv → c' = 0 ∧ mo' = mo)) (fun _ i _ => n - (intOf i).toNat)
                    case atStart => exact ⟨0, mo, Nat.zero_le _, rfl, rfl, HBw6.out, HO7.out, fun j hj => absurd hj (Nat.not_lt_zero _), fun _ => ⟨rfl, rfl⟩⟩
                    case round =>
                      clear HBw6 HO7
                      obtain ⟨z, mo', hz, rfl, rfl, hbe4, hown, hmo, heq⟩ := hrel
                      have HBi := hide hbe4
                      have HLi := hide hown
                      have HMO := hide hmo
                      clear hbe4 hown hmo
                      by_cases huv : lu = lv
                      · obtain ⟨hz0, hmo0⟩ := heq huv
                        have hbe3 : (lu != lv) = false := by simp [huv]
                        have hn0 : (z : Int) < n := by omega
                        have HOL : Hid (OwnB 2 wr g L) := hide (by have h := HLi.out; rw [hz0] at h; simpa [jgTo] using h)
                        have HUV := hide huv
                        have HMQ := hide hmo0
                        clear HLi heq huv hz0 hmo0
                        go_wp2_with fail
                        go_roundw
                        case rel => exact ⟨k + 1, mo', L, by omega, rfl, by go_num, HBi.out, HOL.out, HS1.out, HAB.out, by rw [HMQ.out]; exact HP.out.imp fun e h => ⟨h.1, fun k' hk' => by
                          by_cases e2 : k' = k
                          · subst e2; rw [HMA.out, HMB.out, ← e, HLU.out, HLV.out]; exact HUV.out
                          · exact h.2 k' (by omega)⟩⟩
                        case measure => simp [intOf]; omega
                      have hbe3 : (lu != lv) = true := by simpa using huv
                      have HNE := hide huv
                      clear heq huv
                      by_cases hzn : z < n
                      · have hzz : (z : Int) < n := by omega
                        have hjl : z < L.length := by rw [HLN.out]; exact hzn
                        have hc := HLi.out.cell (i := z) (by rw [jgTo_length L lv lu z (by omega)]; exact hjl)
                        rw [jgTo_at L lv lu z hjl] at hc
                        obtain ⟨v, hv⟩ : ∃ v, L.getD z 0 = v := ⟨_, rfl⟩
                        rw [hv] at hc
                        have HV := hide hv
                        have hf := HLi.out.frozen z
                        clear hv
                        by_cases he : v = lu
                        · subst he
                          have hbe5 : (v == v) = true := by simp
                          have hset := HLi.out.set z lv (by rw [jgTo_length L lv v z (by omega)]; exact hjl)
                          rw [jgTo_set L lv v z hjl HV.out] at hset
                          have HST := hide hset
                          clear hset
                          go_wp2_with fail
                          go_roundw
                          case rel => exact ⟨z + 1, true, by omega, rfl, by go_num, HBi.out.setCell (p := ⟨g, z, none⟩) hgL _, HST.out, fun _ _ _ => rfl, fun e => absurd e HNE.out⟩
                          case measure => simp [intOf]; omega
                        · have hbe5 : (v == lu) = false := by simpa using he
                          have hsame := jgTo_same L lv lu z hjl (by rw [HV.out]; exact he)
                          have HST := hide hsame
                          have HNV := hide he
                          clear hsame he
                          go_wp2_with fail
                          go_roundw
                          case rel => exact ⟨z + 1, mo', by omega, rfl, by go_num, HBi.out, by rw [← HST.out]; exact HLi.out, fun j hj hje => by
                            by_cases e : j = z
                            · subst e; exact absurd (HV.out.symm.trans hje) HNV.out
                            · exact HMO.out j (by omega) hje, fun e => absurd e HNE.out⟩
                          case measure => simp [intOf]; omega
                      · have hzn2 : z = n := by omega
                        have hmt : mo' = true := HMO.out ma (by omega) HLU.out
                        subst hmt
                        have hend : jgTo L lv lu z = joinL L lv lu := by rw [hzn2, ← HLN.out]; exact jgTo_end L lv lu
                        have HE : Hid (OwnB 2 wr g (joinL L lv lu)) := hide (by rw [← hend]; exact HLi.out)
                        have hj := HS1.out.join hx hy HML.out hla hbn HAB.out hlk
                        have hfw := HS1.out.fewer HML.out hla hbn hlk (by rw [HMA.out, HMB.out, HLU.out, HLV.out]; exact HNE.out)
                        rw [HMA.out, HMB.out, HLU.out, HLV.out] at hj hfw
                        have HJ := hide hj
                        have HFW := hide hfw
                        have HAB3 := hide (joinL_coarser L lv lu (by rw [HLN.out]; exact hla) (by rw [HLN.out]; exact hbn) HAB.out)
                        subst hzn2
                        clear hend hj hfw HLi HMO
                        go_wp2_with fail
                        go_roundw
                        case rel => exact ⟨k + 1, true, joinL L lv lu, by omega, rfl, by go_num, HBi.out, HE.out, HJ.out, HAB3.out, .inr ⟨rfl, Nat.lt_of_lt_of_le HFW.out HP.out.le⟩⟩
                        case measure => simp [intOf]; omega
                  · have hkk : k = K := by omega
                    go_wp2_with fail
                    go_roundw
                    case rel => exact ⟨b + 1, mo, L, by omega, rfl, by go_num, HB.out, HO.out, HS1.out, HP.out.imp fun _ h => ⟨h.1.1, fun b' hb' => by
                      by_cases e2 : b' = b
                      · subst e2; exact fun _ k' hk' => h.2 k' (by omega)
                      · exact h.1.2 b' (by omega)⟩⟩
                    case measure => simp [intOf]; omega
              · have hbe : (la != l2) = true := by simpa using hab
                have HNAB := hide hab
                clear hab
                go_wp2_with fail
                go_roundw
                case rel => exact ⟨b + 1, mo, L, by omega, rfl, by go_num, HBw5.out, HOw5.out, HS1.out, HP.out.imp fun e h => ⟨h.1, fun b' hb' => by
                  by_cases e2 : b' = b
                  · subst e2; exact fun h3 => absurd (by rw [← e, HLA.out, HLB2.out] at h3; exact h3) HNAB.out
                  · exact h.2 b' (by omega)⟩⟩
                case measure => simp [intOf]; omega
            · have hba : b = a := by omega
              go_wp2_with fail
              go_roundw
              case rel => exact ⟨a + 1, mo, L, by omega, rfl, by go_num, HB.out, HO.out, HS1.out, HP.out.imp fun _ h => fun a' ha' => by
                by_cases e2 : a' = a
                · subst e2; exact fun b' hb' => h.2 b' (by omega)
                · exact h.1 a' (by omega)⟩
              case measure => simp [intOf]; omega
        · have han : a = n := by omega
          go_wp2_with fail
          go_roundg (cgCnt n L * 2 + (if mo = true then 1 else 0))
          case measure =>
            rcases HP.out with ⟨h1, h2, _⟩ | ⟨h1, h2⟩
            · subst h1 h2; simp
            · subst h1; simp; omega
          case rel => exact ⟨L, mo, rfl, rfl, HB.out, HO.out, HS1.out, fun h0 a' ha' b' hb' => by
            rcases HP.out with ⟨_, h2, h3⟩ | ⟨h1, _⟩
            · rw [h2]; exact h3 a' (by omega) b' hb'
            · rw [h0] at h1; exact Bool.noConfusion h1⟩
end Go.Proofs.Ytaejgmdeiemhcab
namespace Go.Proofs.Ytaejgmdeiemhcab
open Go Go.RowKit
set_option maxHeartbeats 1000000

theorem nd7S (A : Option Addr) (n c : Nat) (f : List (List Int)) (B : Option Addr) (m d : Nat) (s : List (List Int)) (r : Bool) (w : World) (hz : ZArg 1048576 w A n f B m s) (hr : r = true ↔ NdS f s) :
    Calls Try.prog 42 #[.agg #[.slice A n c, .slice B m d]] w fun e w' => e = .returned (.bool r) ∧ Below w.heap.size w w' := by
  have HZ := hide hz
  have HB0 := hide ((Below.refl _ w).alloc (Nat.le_refl _) (Obj.cells #[Value.slice A n c, Value.slice B m d] 35))
  have HK0 := hide (Blk.new w 35 [.slice A n c, .slice B m d])
  by_cases h1 : SolF f s
  · obtain rfl := hz.same h1.1
    have H1 := hide h1
    have hr2 : r = true ↔ NonF f s := by rw [hr]; exact ⟨fun h => h.2, fun h => ⟨h1, h⟩⟩
    have HR2 := hide hr2
    clear h1 hr2 hr hz
    go_enter Try.func42, Try.ntmps42
    go_wp2_with fail
    refine (isS_any _ _ _ f _ _ _ s true _ (HZ.out.later HB0.out) (by unfold IsRes; simp [H1.out])).mono ?_
    rintro e w1 ⟨rfl, hb1⟩
    have HB1 := hide (HB0.out.trans (hb1.mono HB0.out.size))
    have HK1 := hide (HK0.out.later hb1)
    have k0 := HK1.out.cell 0 _ rfl
    have k1 := HK1.out.cell 1 _ rfl
    clear hb1
    go_wp2_with fail
    refine (goodS_any _ _ _ f _ _ _ s r _ (HZ.out.later HB1.out) H1.out.1 HR2.out).mono ?_
    rintro e w2 ⟨rfl, hb2⟩
    have HB2 := hide (HB1.out.trans (hb2.mono HB1.out.size))
    clear hb2 k0 k1
    go_wp2_with fail
    go_ret
    exact ⟨rfl, HB2.out⟩
  · have hrf : r = false := by
      cases r
      · rfl
      · exact absurd (hr.1 rfl).1 h1
    subst hrf
    have H1 := hide h1
    clear h1 hr hz
    go_enter Try.func42, Try.ntmps42
    go_wp2_with fail
    refine (isS_any _ _ _ f _ _ _ s false _ (HZ.out.later HB0.out) (by unfold IsRes; simp [H1.out])).mono ?_
    rintro e w1 ⟨rfl, hb1⟩
    have HB1 := hide (HB0.out.trans (hb1.mono HB0.out.size))
    clear hb1
    go_wp2_with fail
    go_ret
    exact ⟨rfl, HB1.out⟩
end Go.Proofs.Ytaejgmdeiemhcab
