import Derived.Test.YtaejgmdeiemhcabZad
import Derived.Test.YtaejgmdeiemhcabZab
import Derived.Test.YtaejgmdeiemhcabZac
import Derived.Test.YtaejgmdeiemhcabZaf
import Derived.Test.YtaejgmdeiemhcabZd
import Derived.Test.YtaejgmdeiemhcabZy
import Derived.Test.YtaejgmdeiemhcabZb
import Derived.Test.YtaejgmdeiemhcabZaa
import Derived.Test.YtaejgmdeiemhcabZt
import Derived.Deep.Cut
import Derived.Deep.RegionHeld3
import Derived.Deep.QuietTactic
import Derived.BigQuiet
import Derived.Test.YtaejgmdeiemhcabZa
namespace Go.Proofs.Ytaejgmdeiemhcab
open Go Go.RowKit
open Classical
set_option maxHeartbeats 4000000
theorem joiningMk_any (g n c : Nat) (w : World) : Calls Try.prog 93 #[.slice (some ⟨g, 0, none⟩) n c] w fun e w' => e = .returned (.func (.func 132) #[] #[.pointer (some ⟨w.heap.size, 0, none⟩)]) ∧ Below w.heap.size w w' ∧ Blk w' w.heap.size 32 [.slice (some ⟨g, 0, none⟩) n c] := by
  have HB0 := hide ((Below.refl _ w).alloc (Nat.le_refl _) (Obj.cells #[Value.slice (some ⟨g, 0, none⟩) n c] 32))
  have HK0 := hide (Blk.new w 32 [.slice (some ⟨g, 0, none⟩) n c])
  go_enter Try.func93, Try.ntmps93
  go_wp2_with fail
  go_ret
  exact ⟨rfl, HB0.out, HK0.out⟩
theorem unit_lb {n a : Nat} (h : a < n) : lb (unitL n) a = (a : Int) := unitL_getD n a h
set_option maxRecDepth 100000 in
theorem congI_any (A : Option Addr) (n c x y : Nat) (f : List (List Int)) (w : World) (hn : f.length = n) (ht : Tbl f) (hr : Rd2 w A f) (hx : x < n) (hy : y < n) :
    Calls Try.prog 58 #[.agg #[.slice A n c], .agg #[.int .i64 (x : Int), .int .i64 (y : Int)]] w fun e w' => ∃ g c', e = .returned (.slice (some ⟨g, 0, none⟩) n c') ∧ Below w.heap.size w w' ∧ w.heap.size ≤ g ∧ OwnB 2 w' g (cfL f x y) := by
  have h12 : n ≤ 12 := by rw [← hn]; exact ht.2.1
  have HN := hide hn
  have HT := hide ht
  have HRD := hide hr
  have HJ0 : Hid (JnS (shM f) (2 * n) n x y (unitL n) [(x, y)]) := hide (.start (unitL_length n) hx hy (fun a b ha hb e => by rw [unit_lb ha, unit_lb hb] at e; omega) (fun v hv => by
    obtain ⟨a, ha, rfl⟩ := List.mem_map.1 hv
    have := List.mem_range.1 ha
    simp
    omega))
  clear hn ht hr
  have hbb : Below w.heap.size w ((w.alloc (.cells #[.slice A n c] 49)).alloc (.cells #[.int .i64 (x : Int), .int .i64 (y : Int)] 71)) := ((Below.refl _ _).alloc (Nat.le_refl _) _).alloc (by simp) _
  have HK0 := hide ((Blk.new w 49 [.slice A n c]).alloc (.cells #[.int .i64 (x : Int), .int .i64 (y : Int)] 71))
  have HP0 : Hid (Blk ((w.alloc (.cells #[.slice A n c] 49)).alloc (.cells #[.int .i64 (x : Int), .int .i64 (y : Int)] 71)) (w.heap.size + 1) 71 [.int .i64 (x : Int), .int .i64 (y : Int)]) := hide (by have h := Blk.new (w.alloc (.cells #[.slice A n c] 49)) 71 [.int .i64 (x : Int), .int .i64 (y : Int)]; simpa using h)
  obtain ⟨wst, hws⟩ : ∃ wst, wst = ((w.alloc (.cells #[.slice A n c] 49)).alloc (.cells #[.int .i64 (x : Int), .int .i64 (y : Int)] 71)) := ⟨_, rfl⟩
  rw [← hws] at HK0 HP0 hbb
  have HB0 := hide hbb
  have hsz0 : wst.heap.size = w.heap.size + 2 := by rw [hws]; simp
  clear hbb
  go_enter Try.func58, Try.ntmps58
  go_upto_region 1 with fail
  rw [← hws]
  clear hws
  have k0 := HK0.out.cell 0 _ rfl
  go_wp2_with fail
  refine (ksize_any _ _ _ _ (by omega)).mono ?_
  rintro e w1 ⟨rfl, hb1⟩
  have HB1 := hide (HB0.out.trans (hb1.mono HB0.out.size))
  have HK1 := hide (HK0.out.later hb1)
  have HP1 := hide (HP0.out.later hb1)
  have hsz1 : w.heap.size + 2 ≤ w1.heap.size := by have := hb1.size; omega
  clear hb1 k0 HK0 HP0 HB0
  go_wp2_with fail
  refine (identityOf_any n _ (by omega)).mono ?_
  rintro e w2 ⟨rfl, hb2, hrow, hs2⟩
  obtain ⟨g, hg⟩ : ∃ g, w1.heap.size = g := ⟨_, rfl⟩
  have HBc := hide (HB1.out.trans (hb2.mono HB1.out.size))
  have HKc := hide (HK1.out.later hb2)
  have HPc := hide (HP1.out.later hb2)
  have HOc : Hid (OwnB 2 w2 g (unitL n)) := hide (by rw [← hg]; exact hrow.own)
  have hsz : w.heap.size + 2 ≤ w2.heap.size := by have := hb2.size; omega
  have hgw : w.heap.size + 2 ≤ g := by omega
  rw [hg]
  clear hb2 hrow hs2 hg HB1 HK1 HP1
  go_upto_region 2 with fail
  have k0 := HKc.out.cell 0 _ rfl
  have p0 := HPc.out.cell 0 _ rfl
  have p1 := HPc.out.cell 1 _ rfl
  go_region_held3 (fun w' => w'.cell? ⟨w.heap.size, 0, none⟩ = some (.slice A n c) ∧ w'.cell? ⟨w.heap.size + 1, 0, none⟩ = some (.int .i64 (x : Int)) ∧ w'.cell? ⟨w.heap.size + 1, 1, none⟩ = some (.int .i64 (y : Int))) (first | exact ⟨k0, p0, p1⟩ | go_keep) (first | (go_at_call 93; go_must (refine calls_gen fun wc hwc => ?_; (first | have hbx := drew_below hwc | have hbx := eq_below hwc); replace HBc := hide (HBc.out.trans (hbx.mono HBc.out.size)); replace HKc := hide (HKc.out.later hbx); replace HPc := hide (HPc.out.later hbx); replace HOc := hide (HOc.out.later hbx HOc.out.lt); replace hsz := Nat.le_trans hsz hbx.size; clear hwc hbx; refine (joiningMk_any g n n wc).mono ?_; rintro e wd ⟨rfl, hbd, hblk⟩; obtain ⟨bx, hbx2⟩ : ∃ bx, wc.heap.size = bx := ⟨_, rfl⟩; rw [hbx2] at hblk ⊢; have HX := hide hblk; have hgbx : g < bx := (by have := HOc.out.lt; omega); have hbxd : bx < wd.heap.size := hblk.lt; have hszc := hsz; replace HBc := hide (HBc.out.trans (hbd.mono HBc.out.size)); replace HKc := hide (HKc.out.later hbd); replace HPc := hide (HPc.out.later hbd); replace HOc := hide (HOc.out.later hbd HOc.out.lt); replace hsz := Nat.le_trans hsz hbd.size; clear hbd hbx2 hblk; have k0 := HKc.out.cell 0 _ rfl; have p0 := HPc.out.cell 0 _ rfl; have p1 := HPc.out.cell 1 _ rfl)) | (go_at_call 84; go_must (refine calls_gen fun wc hwc => ?_; (first | have hbx := drew_below hwc | have hbx := eq_below hwc); replace HBc := hide (HBc.out.trans (hbx.mono HBc.out.size)); replace HKc := hide (HKc.out.later hbx); replace HPc := hide (HPc.out.later hbx); replace HOc := hide (HOc.out.later hbx HOc.out.lt); replace hsz := Nat.le_trans hsz hbx.size; replace HX := hide (HX.out.later hbx); replace hbxd := Nat.lt_of_lt_of_le hbxd hbx.size; clear hwc hbx; refine (joinFrom_any 132 #[] #[.pointer (some ⟨bx, 0, none⟩)] 94 #[.agg #[.slice A n c]] #[] n (2 * n) x y g (bx + 1) (shM f) (jgSt 32 2 bx g n n) w wc (unitL n) (enters_of Try.func132 (by kernel_rfl) rfl) (enters_of Try.func94 (by kernel_rfl) rfl) h12 (by omega) (by omega) hx hy (shM_lt HN.out HT.out) HBc.out (by omega) (by omega) ⟨HX.out, HOc.out⟩ HJ0.out (jgSt.keep (by omega) (by omega)) (joining_any n bx g n g (bx + 1) h12 (by omega) (by omega) (by omega)) (shifted_any A n c f w HN.out h12 HT.out HRD.out)).mono ?_; rintro e wd ⟨rfl, htd, L, hst, hjs⟩; have HBd := hide (Touch.below HBc.out htd HBc.out.size (by omega)); have HKd := hide (HKc.out.touch htd (.inl (by omega))); have HPd := hide (HPc.out.touch htd (.inl (by omega))); have HST := hide hst; have HJS := hide hjs; clear htd hst hjs; have k0 := HKd.out.cell 0 _ rfl; have p0 := HPd.out.cell 0 _ rfl; have p1 := HPd.out.cell 1 _ rfl)))
  all_goals (
    clear k0 p0 p1
    go_wp2_with fail
    obtain ⟨hX, hO⟩ := HST.out
    have HOL := hide hO
    have hgl := hO.lt
    refine (numberAnew_any g n n L _ HJS.out.s.len h12 (fun v hv => by have := HJS.out.rng v hv; omega) HOL.out).mono ?_
    rintro e w5 ⟨rfl, ht5, ho5⟩
    have HB5 := hide (Touch.below HBd.out ht5 HBd.out.size (by omega))
    have HO5 := hide ho5
    clear ht5 ho5 hX hO
    go_wp2_with fail
    go_ret
    refine ⟨g, n, rfl, HB5.out, by omega, ?_⟩
    rw [← HJS.out.s.cfL HN.out HT.out hx hy]
    exact HO5.out)
end Go.Proofs.Ytaejgmdeiemhcab
namespace Go.Proofs.Ytaejgmdeiemhcab
open Go Go.RowKit
theorem rd_two (w : World) (t : TypeId) (x y : Int) : Rd (w.alloc (.cells #[.int .i64 x, .int .i64 y] t)) (some ⟨w.heap.size, 0, none⟩) [x, y] :=
  fun _ => ⟨w.heap.size, 0, rfl, by simp, fun i hi => by
    rw [Nat.zero_add, cell_of_row _ _ _ #[.int .i64 x, .int .i64 y] t (0, 0) (heap_alloc_new _ _)]
    match i, hi with
    | 0, _ => rfl
    | 1, _ => rfl⟩
theorem els2 (n : Nat) (x y : Int) (h : (0 ≤ x ∧ x < (n : Int)) ∧ (0 ≤ y ∧ y < (n : Int))) : ∀ j, j < 2 → 0 ≤ [x, y].getD j 0 ∧ [x, y].getD j 0 < (n : Int) := by
  intro j hj
  match j, hj with
  | 0, _ => exact h.1
  | 1, _ => exact h.2
theorem els2' (n : Nat) (x y : Int) (h : ∀ j, j < 2 → 0 ≤ [x, y].getD j 0 ∧ [x, y].getD j 0 < (n : Int)) : (0 ≤ x ∧ x < (n : Int)) ∧ (0 ≤ y ∧ y < (n : Int)) := ⟨h 0 (by omega), h 1 (by omega)⟩
end Go.Proofs.Ytaejgmdeiemhcab
namespace Go.Proofs.Ytaejgmdeiemhcab
open Go Go.RowKit
open Classical
set_option maxHeartbeats 4000000
theorem unitL_succ (n : Nat) : unitL (n + 1) = unitL n ++ [(n : Int)] := by simp [unitL, List.range_succ]
set_option maxRecDepth 100000 in
theorem from_any (A : Option Addr) (n c x y : Nat) (f : List (List Int)) (w : World) (hn : f.length = n) (ht : Tbl f) (hr : Rd2 w A f) (hx : x < n) (hy : y < n) :
    Calls Try.prog 55 #[.slice A n c, .int .i64 (x : Int), .int .i64 (y : Int)] w fun e w' => ∃ A' c', e = .returned (.slice A' n c') ∧ Below w.heap.size w w' ∧ Res 2 w.heap.size w' A' (cfL f x y) := by
  obtain ⟨i0, hi, hz0, hz1, hz2⟩ := info_parts neInfo
  have h12 : n ≤ 12 := by rw [← hn]; exact ht.2.1
  have h1 : 1 ≤ n := by rw [← hn]; exact ht.1
  have HN := hide hn
  have HT := hide ht
  have HRD := hide hr
  have HAP : Hid (∀ a b, a < n → b < n → ap f a b < n) := hide (fun a b ha hb => ht.ap_lt hn ha hb)
  clear hn ht hr
  go_enter Try.func55, Try.ntmps55
  go_wp2_with fail
  refine wp_gen fun w0 hw0 => ?_
  have HB0 : Hid (Below w.heap.size w w0) := hide (by rw [hw0]; exact (Below.refl _ _).alloc (Nat.le_refl _) _)
  have HO0 : Hid (w0.ownsRow w.heap.size 2 1 (.slice (some ⟨w.heap.size, 0, none⟩) 0 0) 0 (ints (unitL 0))) := hide (by rw [hw0]; exact ne_empty w _)
  clear hw0
  go_loopw [8, 9] (fun v i wr => ∃ k : Nat, k ≤ n ∧ i = .int .i64 (k : Int) ∧ Below w.heap.size w wr ∧ wr.ownsRow w.heap.size 2 1 v k (ints (unitL k))) (fun _ i _ => n - (intOf i).toNat)
  case atStart => exact ⟨0, Nat.zero_le _, rfl, HB0.out, HO0.out⟩
  case round =>
    obtain ⟨k, hk, rfl, hbe, hown⟩ := hrel
    have HB := hide hbe
    have HO := hide hown
    clear hbe hown HB0 HO0
    by_cases hlt : k < n
    · have hltz : (k : Int) < n := by omega
      go_wp2_with (at_builtin; refine wpList_append_own_at _ rfl _ _ 32 rfl w.heap.size 2 i0 (.int .i64 0) 1 8 Try.underlying32 hi hz0 hz1 hz2 rfl (by decide) _ _ _ rfl (HO.out.alloc _) ⟨wr.heap.size, 0, none⟩ 1 1 [.int .i64 (k : Int)] rfl rfl ?a1 ?a2 ?a3 ?a4 ?a5 ?_)
      case a1 => exact ne_new
      case a2 => intro u hu; simp at hu; subst hu; rfl
      case a3 => unfold maxLen; omega
      case a4 => omega
      case a5 => have hs := HB.out.size; simp; omega
      intro v' w9 hown hgrow _ hat
      have HB9 := hide (grown_low HO.out hgrow HB.out (Nat.le_refl _) HB.out.size)
      have HO9 : Hid (w9.ownsRow w.heap.size 2 1 v' (k + 1) (ints (unitL (k + 1)))) := hide (by rw [unitL_succ, ints_snoc]; exact hown)
      clear hown hgrow hat
      go_wp2_with fail
      go_roundw
      case rel => exact ⟨k + 1, by omega, by go_num, HB9.out, HO9.out⟩
      case measure => simp [intOf]; omega
    · have hkn : k = n := by omega
      subst hkn
      obtain ⟨Ag, cg, hv, hres⟩ := own_shape HO.out
      subst hv
      obtain ⟨g, rfl, hog⟩ := own_read HO.out (by omega)
      have hgw : w.heap.size ≤ g := by
        rcases hres with ⟨h0, _⟩ | ⟨g2, h0, h2, _⟩
        · cases h0
        · injection h0 with h0; injection h0 with h0; omega
      have HOG := hide hog
      clear hres hog HO
      go_wp2_with fail
      refine wp_gen fun w2 hw2 => ?_
      obtain ⟨B, hB⟩ : ∃ B, wr.heap.size = B := ⟨_, rfl⟩
      have hwB : w.heap.size ≤ B := by rw [← hB]; exact HB.out.size
      have hbb : Below B wr w2 := by rw [hw2, ← hB]; exact ((Below.refl _ _).alloc (Nat.le_refl _) _).alloc (by simp) _
      have hgB : g < B := by rw [← hB]; exact HOG.out.lt
      have hsz2 : B ≤ w2.heap.size := by rw [hw2]; simp; omega
      have HB2 : Hid (Below w.heap.size w w2) := hide (HB.out.trans (hbb.mono hwB))
      have HL2 : Hid (OwnB 2 w2 g (unitL k)) := hide (HOG.out.later hbb hgB)
      have HR2 : Hid (Row2 2 B w2 (.slice (some ⟨B, 0, none⟩) 1 1) (.slice (some ⟨B + 1, 0, none⟩) 1 1) 1 1 (firL [(x, y)]) (secL [(x, y)])) := hide (by rw [hw2, ← hB]; exact row2_one wr _ _ _)
      have hB2 : (wr.alloc (.cells #[.int .i64 (x : Int)] 2)).heap.size = B + 1 := by rw [← hB]; simp
      rw [hB]
      try rw [hB2]
      clear hw2 hbb HB HOG hB hB2
      go_loopg [10, 11, 12] (1 + cgCnt k (unitL k) * (2 * k + 1)) (fun r v1 v2 i wr => ∃ (L : List Int) (Q : List (Nat × Nat)) (j m : Nat), i = .int .i64 (j : Int) ∧ r = Q.length - j + cgCnt k L * (2 * k + 1) ∧ Q.length = m ∧ Below w.heap.size w wr ∧ OwnB 2 wr g L ∧ Row2 2 B wr v1 v2 m m (firL Q) (secL Q) ∧ LfS f k x y L Q j ∧ B ≤ wr.heap.size)
      case atStart => exact ⟨unitL k, [(x, y)], 0, 1, rfl, rfl, rfl, HB2.out, HL2.out, HR2.out, .start hx hy, hsz2⟩
      case round =>
        clear HB2 HL2 HR2
        obtain ⟨L, Q, j, m, rfl, rfl, hm, hbe, hl, hrw, hs, hsz⟩ := hrel
        have HB := hide hbe
        have HL := hide hl
        have HR := hide hrw
        have HS := hide hs
        have HM := hide hm
        have hjm : j ≤ m := by rw [← hm]; exact hs.le
        have hm512 : m ≤ 512 := by
          have h := hs.sz
          have h2 : k * (2 * k) ≤ 12 * 24 := Nat.mul_le_mul h12 (by omega)
          omega
        clear hbe hl hrw hs hm
        by_cases hlt : j < m
        · have hltz : (j : Int) < m := by omega
          obtain ⟨q, hq⟩ : ∃ q, Q[j]? = some q := ⟨_, List.getElem?_eq_getElem (by rw [HM.out]; exact hlt)⟩
          have hin := HS.out.inn hq
          obtain ⟨a, b⟩ := q
          have ha : a < k := hin.1
          have hb : b < k := hin.2
          have haz : (a : Int) < k := by omega
          have hbz : (b : Int) < k := by omega
          have HQ := hide hq
          obtain ⟨la, hla⟩ : ∃ v, lb L a = v := ⟨_, rfl⟩
          obtain ⟨l2, hl2⟩ : ∃ v, lb L b = v := ⟨_, rfl⟩
          have HLA := hide hla
          have HL2_ := hide hl2
          obtain ⟨A1, c1, hv1, _⟩ := own_shape HR.out.o1
          obtain ⟨A2, c2, hv2, _⟩ := own_shape HR.out.o2
          subst hv1 hv2
          have HLL : Hid (L.length = k) := hide HS.out.s.len
          obtain ⟨g1, rfl, ho1⟩ := own_read HR.out.o1 (by omega)
          obtain ⟨g2, rfl, ho2⟩ := own_read HR.out.o2 (by omega)
          have f0 := ho1.cell1 (v := (a : Int)) j (by rw [firL_length, HM.out]; exact hlt) (by have h := firL_at (R := []) hq; rwa [List.append_nil] at h)
          have f1 := HL.out.cell1 a (by rw [HLL.out]; exact ha) hla
          have f2 := ho2.cell1 (v := (b : Int)) j (by rw [secL_length, HM.out]; exact hlt) (by have h := secL_at (R := []) hq; rwa [List.append_nil] at h)
          have f3 := HL.out.cell1 b (by rw [HLL.out]; exact hb) hl2
          clear ho1 ho2 hq hla hl2 hin
          go_wp2_with fail
          go_quiet (fail)
          obtain ⟨w5, hw5⟩ : ∃ w5, wr.drewN nq = w5 := ⟨_, rfl⟩
          have hq5 : Below wr.heap.size wr w5 := by rw [← hw5]; exact bdrewN (Below.refl _ _) nq
          have HB5 := hide (HB.out.trans (hq5.mono HB.out.size))
          have HL5 := hide (HL.out.later hq5 HL.out.lt)
          have HR5 := hide (HR.out.later hq5)
          have hsz5 : B ≤ w5.heap.size := Nat.le_trans hsz hq5.size
          rw [hw5]
          clear hw5 hq5 f0 f1 f2 f3 HB HL HR
          by_cases hab : la = l2
          · subst hab
            have HS6 := hide (HS.out.skip HQ.out (HLA.out.trans HL2_.out.symm))
            have hml : Q.length - (j + 1) + cgCnt k L * (2 * k + 1) < Q.length - j + cgCnt k L * (2 * k + 1) := by rw [HM.out]; omega
            go_wp2_with fail
            go_roundg (Q.length - (j + 1) + cgCnt k L * (2 * k + 1))
            case measure => exact hml
            case rel => exact ⟨L, Q, j + 1, m, by go_num, rfl, HM.out, HB5.out, HL5.out, HR5.out, HS6.out, hsz5⟩
          · have hbe : (la == l2) = false := by simpa using hab
            have HJ := hide (HS.out.join hx hy HAP.out HQ.out (by show lb L a ≠ lb L b; rw [HLA.out, HL2_.out]; exact hab))
            have HL6 : Hid (OwnB 2 w5 g (jgTo L la l2 0)) := hide (by simpa [jgTo] using HL5.out)
            clear HL5
            go_wp2_with fail
            go_loopw [15] (fun i wi => ∃ z : Nat, z ≤ k ∧ i = .int .i64 (z : Int) ∧ Below w.heap.size w wi ∧ OwnB 2 wi g (jgTo L la l2 z) ∧ Row2 2 B wi (.slice (some ⟨g1, 0, none⟩) m c1) (.slice (some ⟨g2, 0, none⟩) m c2) m m (firL Q) (secL Q) ∧ B ≤ wi.heap.size) (fun i _ => k - (intOf i).toNat)
            case atStart => exact ⟨0, Nat.zero_le _, rfl, HB5.out, HL6.out, HR5.out, hsz5⟩
            case round =>
              obtain ⟨z, hz, rfl, hbe2, hl, hrw, hsi⟩ := hrel
              have HBi := hide hbe2
              have HLi := hide hl
              have HRi := hide hrw
              clear hbe2 hl hrw HB5 HL6 HR5 hsz5
              by_cases hzk : z < k
              · have hzz : (z : Int) < k := by omega
                have hjl : z < L.length := by rw [HLL.out]; exact hzk
                have hc := HLi.out.cell (i := z) (by rw [jgTo_length L la l2 z (by omega)]; exact hjl)
                rw [jgTo_at L la l2 z hjl] at hc
                obtain ⟨v, hv⟩ : ∃ v, L.getD z 0 = v := ⟨_, rfl⟩
                rw [hv] at hc
                have HV := hide hv
                have hf := HLi.out.frozen z
                clear hv
                by_cases he : v = l2
                · subst he
                  have hbe2 : (v == v) = true := by simp
                  have hset := HLi.out.set z la (by rw [jgTo_length L la v z (by omega)]; exact hjl)
                  rw [jgTo_set L la v z hjl HV.out] at hset
                  have HST := hide hset
                  clear hset
                  go_wp2_with fail
                  go_roundw
                  case rel => exact ⟨z + 1, by omega, by go_num, HBi.out.setCell (p := ⟨g, z, none⟩) hgw _, HST.out, HRi.out.touch (lo := g) (hi := g + 1) (touch_set (Touch.refl _ _ _) (p := ⟨g, z, none⟩) ⟨Nat.le_refl _, Nat.lt_succ_self _⟩ _) (by omega), by simpa [World.setCell] using hsi⟩
                  case measure => simp [intOf]; omega
                · have hbe2 : (v == l2) = false := by simpa using he
                  have hsame := jgTo_same L la l2 z hjl (by rw [HV.out]; exact he)
                  have HST := hide hsame
                  clear hsame
                  go_wp2_with fail
                  go_roundw
                  case rel => exact ⟨z + 1, by omega, by go_num, HBi.out, by rw [← HST.out]; exact HLi.out, HRi.out, hsi⟩
                  case measure => simp [intOf]; omega
              · have hzn : z = k := by omega
                have HL7 : Hid (OwnB 2 wr g (joinL L la l2)) := hide (by have h := HLi.out; rw [hzn, ← HLL.out, jgTo_end] at h; exact h)
                obtain rfl := hzn.symm
                clear HLi
                go_wp2_with fail
                go_loopw [10, 11, 16] (fun v1 v2 i wi => ∃ (z q : Nat), z ≤ k ∧ q = 2 * z ∧ i = .int .i64 (z : Int) ∧ Below w.heap.size w wi ∧ OwnB 2 wi g (joinL L la l2) ∧ Row2 2 B wi v1 v2 (m + q) (m + q) (firL (Q ++ lfNew f a b z)) (secL (Q ++ lfNew f a b z)) ∧ B ≤ wi.heap.size) (fun _ _ i _ => k - (intOf i).toNat)
                case atStart => exact ⟨0, 0, Nat.zero_le _, rfl, rfl, HBi.out, HL7.out, by simpa [lfNew] using HRi.out, hsi⟩
                case round =>
                  clear HBi HL7 HRi hsi
                  obtain ⟨z, q, hz, hq2, rfl, hbe2, hl, hrw, hsz0⟩ := hrel
                  have HB0 := hide hbe2
                  have HL0 := hide hl
                  have HR0 := hide hrw
                  have HQ2 := hide hq2
                  have hq24 : q ≤ 24 := by omega
                  have HQL : Hid ((Q ++ lfNew f a b z).length = m + q) := hide (by rw [List.length_append, lfNew_length, HM.out, hq2])
                  clear hbe2 hl hrw hq2
                  by_cases hzk : z < k
                  · have hzz : (z : Int) < k := by omega
                    have hmq : (j : Int) < ((m + q : Nat) : Int) := by omega
                    obtain ⟨mq, hmqe⟩ : ∃ mq, m + q = mq := ⟨_, rfl⟩
                    rw [hmqe] at HR0 HQL hmq
                    have hjmq : j < mq := by omega
                    obtain ⟨tb, to_, hA, htb, htc⟩ := HT.out.cells HRD.out HN.out
                    subst hA
                    obtain ⟨bz, oz, cz, r0, r1, r2⟩ := htc z hzk
                    obtain ⟨ba, oa, ca, s0, s1, s2⟩ := htc a ha
                    obtain ⟨bb, ob, cb, t0, t1, t2⟩ := htc b hb
                    have r3 := r2 a ha
                    have r4 := r2 b hb
                    have s3 := s2 z hzk
                    have t3 := t2 z hzk
                    obtain ⟨ua, hua⟩ : ∃ u, ap f z a = u := ⟨_, rfl⟩
                    obtain ⟨va, hva⟩ : ∃ u, ap f a z = u := ⟨_, rfl⟩
                    obtain ⟨ub, hub⟩ : ∃ u, ap f z b = u := ⟨_, rfl⟩
                    obtain ⟨vb, hvb⟩ : ∃ u, ap f b z = u := ⟨_, rfl⟩
                    rw [hua] at r3
                    rw [hub] at r4
                    rw [hva] at s3
                    rw [hvb] at t3
                    have HE : Hid (lfNew f a b (z + 1) = lfNew f a b z ++ [(ua, ub), (va, vb)]) := hide (by rw [lfNew_succ, hua, hub, hva, hvb])
                    have C0 := hide r0
                    have C3 := hide r3
                    have C4 := hide r4
                    have D0 := hide s0
                    have D3 := hide s3
                    have E0 := hide t0
                    have E3 := hide t3
                    clear htc r0 r2 r3 r4 s0 s2 s3 t0 t2 t3 hua hva hub hvb
                    obtain ⟨A1, c1, hv1, _⟩ := own_shape HR0.out.o1
                    subst hv1
                    obtain ⟨g1, rfl, ho1⟩ := own_read HR0.out.o1 (by omega)
                    have FJa := hide (ints_at (xs := firL (Q ++ lfNew f a b z)) (j := j) (a := (a : Int)) (by rw [firL_length, HQL.out]; exact hjmq) (firL_at HQ.out))
                    have f0 := ho1.cell1 (v := (a : Int)) j (by rw [firL_length, HQL.out]; exact hjmq) (firL_at HQ.out)
                    have f1 : wr.cell? ⟨tb, to_ + z, none⟩ = some (.slice (some ⟨bz, oz, none⟩) k cz) := (HB0.out.cell htb).trans C0.out
                    have f2 : wr.cell? ⟨bz, oz + a, none⟩ = some (.int .i64 (ua : Int)) := (HB0.out.cell r1).trans C3.out
                    have f3 : wr.cell? ⟨tb, to_ + a, none⟩ = some (.slice (some ⟨ba, oa, none⟩) k ca) := (HB0.out.cell htb).trans D0.out
                    have f4 : wr.cell? ⟨ba, oa + z, none⟩ = some (.int .i64 (va : Int)) := (HB0.out.cell s1).trans D3.out
                    clear ho1
                    go_wp2_with fail
                    have hswa : wr.heap.size = wr.heap.size := rfl
                    go_region_held3 (fun w' => w'.cell? ⟨g1, j, none⟩ = some (.int .i64 (a : Int)) ∧ w'.cell? ⟨tb, to_ + z, none⟩ = some (.slice (some ⟨bz, oz, none⟩) k cz) ∧ w'.cell? ⟨bz, oz + a, none⟩ = some (.int .i64 (ua : Int)) ∧ w'.cell? ⟨tb, to_ + a, none⟩ = some (.slice (some ⟨ba, oa, none⟩) k ca) ∧ w'.cell? ⟨ba, oa + z, none⟩ = some (.int .i64 (va : Int))) (first | exact ⟨f0, f1, f2, f3, f4⟩ | go_keep) (first | (refine step_append_keep _ (by rfl) _ _ _ (by rfl) B 2 i0 _ 1 8 Try.underlying32 hi hz0 hz1 hz2 rfl (by omega) (.slice (some ⟨g1, 0, none⟩) mq c1) mq (ints (firL (Q ++ lfNew f a b z))) (by rfl) (HR0.out.o1.alloc _) ⟨wr.heap.size, 0, none⟩ 2 2 [.int .i64 (ua : Int), .int .i64 (va : Int)] (by rfl) (by rfl) two_new two_one (by omega) (by unfold maxLen; omega) (by omega) (by simp; omega) (wr.heap.size + 1) (by simp) ?_; go_must (intro gga capa wa hown hgrow hat _ hkeep; have HBa := hide (grown_lowx HR0.out.o1 (by first | exact (Below.refl _ _).alloc (Nat.le_refl _) _ | exact ((Below.refl _ _).alloc (Nat.le_refl _) _).drew | exact (Below.refl _ _).drew.alloc (Nat.le_refl _) _) hgrow HB0.out (by omega) (by omega)); have HLa := hide (HL0.out.of_block (grown_keepx HR0.out.o1 (by first | exact (Below.refl _ _).alloc (Nat.le_refl _) _ | exact ((Below.refl _ _).alloc (Nat.le_refl _) _).drew | exact (Below.refl _ _).drew.alloc (Nat.le_refl _) _) hgrow (by omega) (by omega))); have HRa := hide (HR0.out.stepx1 (ys := [(ua : Int), (va : Int)]) (k := 2) (by first | exact (Below.refl _ _).alloc (Nat.le_refl _) _ | exact ((Below.refl _ _).alloc (Nat.le_refl _) _).drew | exact (Below.refl _ _).drew.alloc (Nat.le_refl _) _) hown hgrow hat); have hsza : B ≤ wa.heap.size := Nat.le_trans hsz0 (Nat.le_trans (by simp [World.drew]) hgrow.size); have f0 : wa.cell? ⟨g1, j, none⟩ = some (.int .i64 (a : Int)) := (by rw [← addr_j]; exact hkeep _ _ rfl _ _ FJa.out); have f1 : wa.cell? ⟨tb, to_ + z, none⟩ = some (.slice (some ⟨bz, oz, none⟩) k cz) := (HBa.out.cell (p := ⟨tb, to_ + z, none⟩) htb).trans C0.out; have f2 : wa.cell? ⟨bz, oz + a, none⟩ = some (.int .i64 (ua : Int)) := (HBa.out.cell (p := ⟨bz, oz + a, none⟩) r1).trans C3.out; have f3 : wa.cell? ⟨tb, to_ + a, none⟩ = some (.slice (some ⟨ba, oa, none⟩) k ca) := (HBa.out.cell (p := ⟨tb, to_ + a, none⟩) htb).trans D0.out; have f4 : wa.cell? ⟨ba, oa + z, none⟩ = some (.int .i64 (va : Int)) := (HBa.out.cell (p := ⟨ba, oa + z, none⟩) s1).trans D3.out; clear hown hgrow hat hkeep)))
                    clear f0 f1 f2 f3 f4 hswa
                    obtain ⟨A2, c2, hv2, _⟩ := own_shape HRa.out.o2
                    subst hv2
                    obtain ⟨g2, rfl, ho2⟩ := own_read HRa.out.o2 (by omega)
                    have FJb := hide (ints_at (xs := secL (Q ++ lfNew f a b z)) (j := j) (a := (b : Int)) (by rw [secL_length, HQL.out]; exact hjmq) (secL_at HQ.out))
                    have f0 := ho2.cell1 (v := (b : Int)) j (by rw [secL_length, HQL.out]; exact hjmq) (secL_at HQ.out)
                    have f1 : wa.cell? ⟨tb, to_ + z, none⟩ = some (.slice (some ⟨bz, oz, none⟩) k cz) := (HBa.out.cell htb).trans C0.out
                    have f2 : wa.cell? ⟨bz, oz + b, none⟩ = some (.int .i64 (ub : Int)) := (HBa.out.cell r1).trans C4.out
                    have f3 : wa.cell? ⟨tb, to_ + b, none⟩ = some (.slice (some ⟨bb, ob, none⟩) k cb) := (HBa.out.cell htb).trans E0.out
                    have f4 : wa.cell? ⟨bb, ob + z, none⟩ = some (.int .i64 (vb : Int)) := (HBa.out.cell t1).trans E3.out
                    clear ho2
                    go_wp2_with fail
                    have hswb : wa.heap.size = wa.heap.size := rfl
                    go_region_held3 (fun w' => w'.cell? ⟨g2, j, none⟩ = some (.int .i64 (b : Int)) ∧ w'.cell? ⟨tb, to_ + z, none⟩ = some (.slice (some ⟨bz, oz, none⟩) k cz) ∧ w'.cell? ⟨bz, oz + b, none⟩ = some (.int .i64 (ub : Int)) ∧ w'.cell? ⟨tb, to_ + b, none⟩ = some (.slice (some ⟨bb, ob, none⟩) k cb) ∧ w'.cell? ⟨bb, ob + z, none⟩ = some (.int .i64 (vb : Int))) (first | exact ⟨f0, f1, f2, f3, f4⟩ | go_keep) (first | (refine step_append_keep _ (by rfl) _ _ _ (by rfl) B 2 i0 _ 1 8 Try.underlying32 hi hz0 hz1 hz2 rfl (by omega) (.slice (some ⟨g2, 0, none⟩) mq c2) mq (ints (secL (Q ++ lfNew f a b z))) (by rfl) (HRa.out.o2.alloc _) ⟨wa.heap.size, 0, none⟩ 2 2 [.int .i64 (ub : Int), .int .i64 (vb : Int)] (by rfl) (by rfl) two_new two_one (by omega) (by unfold maxLen; omega) (by omega) (by simp; omega) (wa.heap.size + 1) (by simp) ?_; go_must (intro ggb capb wb hown hgrow hat _ hkeep; have HBb := hide (grown_lowx HRa.out.o2 (by first | exact (Below.refl _ _).alloc (Nat.le_refl _) _ | exact ((Below.refl _ _).alloc (Nat.le_refl _) _).drew | exact (Below.refl _ _).drew.alloc (Nat.le_refl _) _) hgrow HBa.out (by omega) (by omega)); have HLb := hide (HLa.out.of_block (grown_keepx HRa.out.o2 (by first | exact (Below.refl _ _).alloc (Nat.le_refl _) _ | exact ((Below.refl _ _).alloc (Nat.le_refl _) _).drew | exact (Below.refl _ _).drew.alloc (Nat.le_refl _) _) hgrow (by omega) (by omega))); have HRb := hide (HRa.out.stepx2 (ys := [(ub : Int), (vb : Int)]) (k := 2) (by first | exact (Below.refl _ _).alloc (Nat.le_refl _) _ | exact ((Below.refl _ _).alloc (Nat.le_refl _) _).drew | exact (Below.refl _ _).drew.alloc (Nat.le_refl _) _) hown hgrow hat); have hszb : B ≤ wb.heap.size := Nat.le_trans hsza (Nat.le_trans (by simp [World.drew]) hgrow.size); have f0 : wb.cell? ⟨g2, j, none⟩ = some (.int .i64 (b : Int)) := (by rw [← addr_j]; exact hkeep _ _ rfl _ _ FJb.out); have f1 : wb.cell? ⟨tb, to_ + z, none⟩ = some (.slice (some ⟨bz, oz, none⟩) k cz) := (HBb.out.cell (p := ⟨tb, to_ + z, none⟩) htb).trans C0.out; have f2 : wb.cell? ⟨bz, oz + b, none⟩ = some (.int .i64 (ub : Int)) := (HBb.out.cell (p := ⟨bz, oz + b, none⟩) r1).trans C4.out; have f3 : wb.cell? ⟨tb, to_ + b, none⟩ = some (.slice (some ⟨bb, ob, none⟩) k cb) := (HBb.out.cell (p := ⟨tb, to_ + b, none⟩) htb).trans E0.out; have f4 : wb.cell? ⟨bb, ob + z, none⟩ = some (.int .i64 (vb : Int)) := (HBb.out.cell (p := ⟨bb, ob + z, none⟩) t1).trans E3.out; clear hown hgrow hat hkeep)))
                    clear f0 f1 f2 f3 f4 hswb
                    go_wp2_with fail
                    go_roundw
                    case rel =>
                      refine ⟨z + 1, q + 2, by omega, by have := HQ2.out; omega, by go_num, HBb.out, HLb.out, ?_, hszb⟩
                      have h := HRb.out
                      rw [show m + (q + 2) = mq + 2 by omega, HE.out, ← List.append_assoc, firL_app, secL_app]
                      exact h
                    case measure => simp [intOf]; omega
                  · have hzn : z = k := by omega
                    obtain rfl := hzn.symm
                    obtain ⟨HJ1, HJ2⟩ := HJ.out
                    have hJ1 := HJ1
                    have hJ2 := HJ2
                    try dsimp only at hJ1 hJ2
                    rw [HLA.out, HL2_.out] at hJ1 hJ2
                    have HJ3 := hide hJ1
                    have HJ4 := hide hJ2
                    clear HJ1 HJ2 hJ1 hJ2
                    go_wp2_with fail
                    go_roundg ((Q ++ lfNew f a b k).length - (j + 1) + cgCnt k (joinL L la l2) * (2 * k + 1))
                    case measure => exact HJ4.out
                    case rel => exact ⟨joinL L la l2, Q ++ lfNew f a b k, j + 1, m + q, by go_num, rfl, HQL.out, HB0.out, HL0.out, HR0.out, HJ3.out, hsz0⟩
        · have hjm2 : j = m := by omega
          subst hjm2
          have HFL := hide (HS.out.cfL HN.out HT.out hx hy HM.out.symm)
          have HLL : Hid (L.length = k) := hide HS.out.s.len
          obtain ⟨A1, c1, hv1, _⟩ := own_shape HR.out.o1
          subst hv1
          go_wp2_with fail
          refine (numS_any (some ⟨g, 0, none⟩) k cg L _ HLL.out h12 HL.out.rd).mono ?_
          rintro e w9 ⟨A9, c9, rfl, hb9, hres9⟩
          have HB9 := hide (HB.out.trans (hb9.mono HB.out.size))
          have HRS := hide (hres9.mono HB.out.size)
          clear hb9 hres9
          go_wp2_with fail
          go_ret
          refine ⟨A9, c9, rfl, HB9.out, ?_⟩
          rw [← HFL.out]
          exact HRS.out
end Go.Proofs.Ytaejgmdeiemhcab
namespace Go.Proofs.Ytaejgmdeiemhcab
open Go Go.RowKit
set_option maxHeartbeats 1000000

set_option maxRecDepth 100000 in
theorem l04Elements_any (n : Nat) (B : Option Addr) (m d : Nat) (xs : List Int) (r : Bool) (w : World) (hn : n ≤ 1048576) (hm : xs.length = m) (hb : m ≤ 1048576) (hr : Rd w B xs) (hres : r = true ↔ Els n xs) :
    Calls Try.prog 54 #[.int .i64 n, .slice B m d] w fun e w' => e = .returned (.bool r) ∧ Below w.heap.size w w' := by
  have HM := hide hm
  have HRES := hide hres
  have HR := hide hr
  clear hm hres hr
  go_enter Try.func54, Try.ntmps54
  go_wp2_with fail
  go_loopw [5] (fun i wr => ∃ k : Nat, k ≤ m ∧ i = .int .i64 k ∧ Below w.heap.size w wr ∧ ∀ j, j < k → 0 ≤ xs.getD j 0 ∧ xs.getD j 0 < (n : Int)) (fun i _ => m - (intOf i).toNat)
  case atStart => exact ⟨0, Nat.zero_le _, rfl, Below.refl _ _, fun j hj => absurd hj (Nat.not_lt_zero _)⟩
  case round =>
    obtain ⟨k, hk, rfl, hbe, hall⟩ := hrel
    have HB := hide hbe
    have HALL := hide hall
    clear hbe hall
    by_cases hlt : k < m
    · obtain ⟨b, o, rfl, hbw, hc⟩ := HR.out (by have := HM.out; omega)
      have hc1 := (HB.out.cell (p := ⟨b, o + k, none⟩) hbw).trans (hc k (by have := HM.out; omega))
      have hltz : (k : Int) < m := by omega
      obtain ⟨x, hx⟩ : ∃ x, xs.getD k 0 = x := ⟨_, rfl⟩
      rw [hx] at hc1
      have HX := hide hx
      clear hx hc
      by_cases h1 : 0 ≤ x ∧ x < (n : Int)
      · have HIN := hide h1
        clear h1
        go_wp2_with fail
        refine (in_any x 0 ((n : Int) - 1) true _ ⟨fun _ => by have := HIN.out; omega, fun _ => rfl⟩).mono ?_
        rintro e w5 ⟨rfl, hq5⟩
        have HB5 := hide (HB.out.trans (hq5.below _))
        clear hq5
        go_wp2_with fail
        go_roundw
        case rel => exact ⟨k + 1, by omega, by go_num, HB5.out, fun j hj => by
          by_cases e : j = k
          · rw [e, HX.out]; exact HIN.out
          · exact HALL.out j (by omega)⟩
        case measure => simp [intOf]; omega
      · have hrf : r = false := by
          cases r
          · rfl
          · exact absurd (by have h := HRES.out.1 rfl k (by have := HM.out; omega); rw [HX.out] at h; exact h) h1
        subst hrf
        have HIN := hide h1
        clear h1
        go_wp2_with fail
        refine (in_any x 0 ((n : Int) - 1) false _ (by simp only [Bool.false_eq_true, false_iff]; have := HIN.out; omega)).mono ?_
        rintro e w5 ⟨rfl, hq5⟩
        have HB5 := hide (HB.out.trans (hq5.below _))
        clear hq5
        go_wp2_with fail
        go_ret
        exact ⟨rfl, HB5.out⟩
    · have hkn : k = m := by omega
      subst hkn
      have hrt : r = true := HRES.out.2 fun i hi => HALL.out i (by have := HM.out; omega)
      subst hrt
      go_wp2_with fail
      go_ret
      exact ⟨rfl, HB.out⟩
end Go.Proofs.Ytaejgmdeiemhcab
