import Derived.Test.YtanldiildinbdaaZbw
namespace Go.Proofs.Ytanldiildinbdaa
open Go Go.RowKit
open Classical
set_option maxHeartbeats 4000000
/-- The map after k pairs. -/
noncomputable def bkV (f s : List (List Int)) (n : Nat) : Nat → Value → Option Value
  | 0 => fun _ => none
  | k + 1 => fun key => if key = pkey (ledK f s n k).1 (ledK f s n k).2 then some (pkey (k / n) (k % n)) else bkV f s n k key
theorem bkV_at {f s : List (List Int)} {n : Nat} (hc : NoCol f s n) : ∀ k, k ≤ n * n → ∀ j, j < k → bkV f s n k (pkey (ledK f s n j).1 (ledK f s n j).2) = some (pkey (j / n) (j % n))
  | 0, _, j, hj => absurd hj (Nat.not_lt_zero _)
  | k + 1, hk, j, hj => by
    unfold bkV
    by_cases e : j = k
    · subst e
      rw [if_pos rfl]
    · rw [if_neg (fun h => hc j k (by omega) (by omega) e (Prod.ext (pkey_inj h).1 (pkey_inj h).2))]
      exact bkV_at hc k (by omega) j (by omega)
theorem bkV_all {f s : List (List Int)} {n : Nat} (hp : PMap f s) (hn : f.length = n) (hc : NoCol f s n) : ∀ x y, x < n → y < n → bkV f s n (n * n) (pkey x y) = some (pkey (bk f s n x y / n) (bk f s n x y % n)) := fun x y hx hy => by
  have h := bk_spec hp hn hc hx hy
  have h2 := bkV_at hc (n * n) (Nat.le_refl _) _ h.1
  rw [h.2] at h2
  exact h2

theorem bkV_next {f s : List (List Int)} {n k b x y u v : Nat} {w : World} (hq : ledK f s n k = (u, v)) (hx : k / n = x) (hy : k % n = y) (h : MapV w b (k + 1) (fun key => if key = pkey u v then some (pkey x y) else bkV f s n k key)) : MapV w b (k + 1) (bkV f s n (k + 1)) := by
  refine h.congr (fun key => ?_)
  show _ = (if key = pkey (ledK f s n k).1 (ledK f s n k).2 then some (pkey (k / n) (k % n)) else bkV f s n k key)
  rw [hq, hx, hy]
theorem pairsAt_of {w w' : World} {g n : Nat} (hs : w.heap.size ≤ w'.heap.size) (h : PairsAt w g n) (e : w'.heap[g]? = w.heap[g]?) : PairsAt w' g n := by
  refine ⟨Nat.lt_of_lt_of_le h.1 hs, fun j hj => ?_⟩
  rw [World.cell?_of_block (a := ⟨g, j * 2, none⟩) e, World.cell?_of_block (a := ⟨g, j * 2 + 1, none⟩) e]
  exact h.2 j hj

set_option maxRecDepth 100000 in
theorem bkI_any (A : Option Addr) (n c : Nat) (f : List (List Int)) (B : Option Addr) (m d : Nat) (s : List (List Int)) (zf zg : List (List Int)) (code : Int) (kz kw : Nat) (w : World) (hz : ZArg 1048576 w A n f B m s) (hr : BkRes f s zf zg code) (hk : ZSz 1048576 zf kz zg kw) :
    Calls Try.prog 35 #[.agg #[.slice A n c, .slice B m d]] w (ZPost 31 2 kz kw zf zg code w) := by
  have hnb := hz.sz.nb
  have HZ := hide hz
  have HFL := hide hz.sz.fl
  rcases hr with ⟨hp, rfl, rfl, rfl⟩ | ⟨hp, rfl, rfl, rfl⟩
  · have HS := hide hp
    have HP := hide hp.1
    have hc := hp.2.1
    rw [hz.sz.fl] at hc
    have HC := hide hc
    have h12 := hz.small hp.1
    obtain rfl : kz = n := by rw [← hk.fl, grid_length, HFL.out]
    obtain rfl : kw = kz := by rw [← hk.sl, grid_length, HFL.out]
    clear hp hz hk hc
    obtain ⟨N, hN⟩ : ∃ N, kw * kw = N := ⟨_, rfl⟩
    have hN144 : N ≤ 144 := by rw [← hN]; exact sq_le kw h12.2
    have HN := hide hN
    clear hN
    have hmm := @run_makeMap Try.prog
    go_enter Try.func35, Try.ntmps35
    go_wp2_with fail
    refine calls_gen fun w0 hw0 => ?_
    have hb0 : Below w.heap.size w w0 := by rw [hw0]; exact ((Below.refl _ _).alloc (Nat.le_refl _) _).alloc (by simp) _
    have HB0 := hide hb0
    have HK0 : Hid (Blk w0 w.heap.size 27 [.slice A kw c, .slice B m d]) := hide (by rw [hw0]; exact (Blk.new _ _ _).alloc _)
    have HR0 : Hid (Blk w0 (w.heap.size + 1) 27 [.slice none 0 0, .slice none 0 0]) := hide (by rw [hw0]; have h := Blk.new (w.alloc (Obj.cells #[Value.slice A kw c, Value.slice B m d] 27)) 27 [.slice none 0 0, .slice none 0 0]; simpa using h)
    clear hw0 hb0
    refine (isI_any _ _ _ f _ _ _ s true _ (HZ.out.later HB0.out) (by simp [IsRes, HS.out])).mono ?_
    rintro e w1 ⟨rfl, hb1⟩
    have HB1 := hide (HB0.out.trans (hb1.mono HB0.out.size))
    have HK1 := hide (HK0.out.later hb1)
    have HR1 := hide (HR0.out.later hb1)
    have k0 := fun o1 o2 => ((HK1.out.alloc o1).alloc o2).cell 0 _ rfl
    have k1 := fun o1 o2 => ((HK1.out.alloc o1).alloc o2).cell 1 _ rfl
    clear hb1
    go_wp2_with fail
    clear k0 k1 hmm
    refine calls_gen fun w2 hw2 => ?_
    have hb2 : Below w1.heap.size w1 w2 := by rw [hw2]; exact ((Below.refl _ _).alloc (Nat.le_refl _) _).alloc (by simp) _
    have HM2 : Hid (MapV w2 w1.heap.size 0 (fun _ => none)) := hide (by rw [hw2]; exact (MapV.made w1).later ((Below.refl _ _).alloc (Nat.le_refl _) _))
    have HT2 : Hid (Blk w2 (w1.heap.size + 1) 64 [.map (some w1.heap.size)]) := hide (by rw [hw2]; have h := Blk.new (w1.alloc (Obj.map #[] 0)) 64 [.map (some w1.heap.size)]; simpa using h)
    have HB2 := hide hb2
    clear hw2 hb2
    refine (size_any _ _ _ _ _ _ _ hnb).mono ?_
    rintro e w3 ⟨rfl, hb3⟩
    have HB3 := hide (HB2.out.trans (hb3.mono HB2.out.size))
    have HM3 := hide (HM2.out.later hb3)
    have HT3 := hide (HT2.out.later hb3)
    clear hb3
    go_wp2_with fail
    refine (pairsOf_any kw N _ h12.1 h12.2 HN.out).mono ?_
    rintro e w4 ⟨g, rfl, hb4, hg4, hpa⟩
    have HB4 := hide (HB3.out.trans (hb4.mono HB3.out.size))
    have HM4 := hide (HM3.out.later hb4)
    have HT4 := hide (HT3.out.later hb4)
    have HA4 := hide hpa
    have hMg : w1.heap.size + 1 < g := by have := HT3.out.lt; omega
    clear hb4 hpa
    go_wp2_with fail
    go_outline
    go_loopw [16] (fun i wr => ∃ k : Nat, k ≤ N ∧ i = .int .i64 k ∧ Below w1.heap.size w1 wr ∧ Blk wr (w1.heap.size + 1) 64 [.map (some w1.heap.size)] ∧ PairsAt wr g kw ∧ MapV wr w1.heap.size k (bkV f s kw k)) (fun i _ => N - (intOf i).toNat)
    case atStart => exact ⟨0, Nat.zero_le _, rfl, HB4.out, HT4.out, HA4.out, HM4.out⟩
    case round =>
      obtain ⟨k, hk, rfl, hbe, htt, hpa, hmm⟩ := hrel
      have HB := hide hbe
      have HT := hide htt
      have HPA := hide hpa
      have HMM := hide hmm
      clear hbe htt hpa hmm
      by_cases hlt : k < N
      · have hkz : (k : Int) < N := by omega
        obtain ⟨p0, p1⟩ := HPA.out.2 k (by rw [HN.out]; exact hlt)
        have hxn : k / kw < kw := div_lt_sq (by rw [HN.out]; exact hlt)
        have hyn : k % kw < kw := mod_lt_sq (by rw [HN.out]; exact hlt)
        obtain ⟨x, hx⟩ : ∃ x, k / kw = x := ⟨_, rfl⟩
        obtain ⟨y, hy⟩ : ∃ y, k % kw = y := ⟨_, rfl⟩
        rw [hx] at p0 hxn
        rw [hy] at p1 hyn
        have hu := HP.out.lt1 HFL.out hxn hyn
        have hv := HP.out.lt2 HFL.out hxn hyn
        have hq : ledK f s kw k = (ap f x y, ap s x y) := by unfold ledK; rw [hx, hy]
        obtain ⟨u, hue⟩ : ∃ u, ap f x y = u := ⟨_, rfl⟩
        obtain ⟨v, hve⟩ : ∃ v, ap s x y = v := ⟨_, rfl⟩
        rw [hue, hve] at hq
        rw [hue] at hu
        rw [hve] at hv
        have HX := hide hx
        have HY := hide hy
        have HQ := hide hq
        have HUE := hide hue
        have HVE := hide hve
        clear hq hue hve hx hy
        go_wp2_with fail
        clear p0 p1
        refine wp_gen fun w5 hw5 => ?_
        obtain ⟨P, hPe⟩ : ∃ P, wr.heap.size = P := ⟨_, rfl⟩
        have hbx : Below wr.heap.size wr w5 := by rw [hw5]; exact (Below.refl _ _).alloc (Nat.le_refl _) _
        have HPp : Hid (Blk w5 P 53 [.int .i64 x, .int .i64 y]) := hide (by rw [hw5, ← hPe]; exact Blk.new _ _ _)
        have HBp := hide (HB.out.trans (hbx.mono HB.out.size))
        have HBb := hide (HT.out.later hbx)
        have HA := hide (HPA.out.later hbx)
        have HM := hide (HMM.out.later hbx)
        rw [hPe]
        have hPn : w1.heap.size + 1 < P := by rw [← hPe]; exact HT.out.lt
        have hn1 : w.heap.size < w1.heap.size := HK1.out.lt
        clear hw5 hbx hPe
        have k0 := (HK1.out.later HBp.out).cell 0 _ rfl
        have k1 := (HK1.out.later HBp.out).cell 1 _ rfl
        have k2 := HBb.out.cell 0 _ rfl
        have p0 := HPp.out.cell 0 _ rfl
        have p1 := HPp.out.cell 1 _ rfl
        go_region_held3 (fun w' => w'.cell? ⟨w.heap.size, 0, none⟩ = some (.slice A kw c) ∧ w'.cell? ⟨w.heap.size, 1, none⟩ = some (.slice B m d) ∧ w'.cell? ⟨w1.heap.size + 1, 0, none⟩ = some (.map (some w1.heap.size)) ∧ w'.cell? ⟨P, 0, none⟩ = some (.int .i64 x) ∧ w'.cell? ⟨P, 1, none⟩ = some (.int .i64 y)) (first | exact ⟨k0, k1, k2, p0, p1⟩ | exact ⟨m0, m1, m2, m3, m4⟩ | go_keep) (first | (go_at_call 64; go_must (refine calls_gen fun wc hwc => ?_; (first | (have hbx := drew_below hwc) | (have hbx := eq_below hwc)); replace HBp := hide (HBp.out.trans (hbx.mono HBp.out.size)); replace HBb := hide (HBb.out.later hbx); replace HA := hide (HA.out.later hbx); replace HM := hide (HM.out.later hbx); replace HPp := hide (HPp.out.later hbx); clear hwc hbx; refine (lead_any _ _ _ f _ _ _ s x y _ (HZ.out.later (HB1.out.trans (HBp.out.mono HB1.out.size))) HP.out hxn hyn).mono ?_; rintro e wd ⟨rfl, hbd⟩; replace HBp := hide (HBp.out.trans (hbd.mono HBp.out.size)); replace HBb := hide (HBb.out.later hbd); replace HA := hide (HA.out.later hbd); replace HM := hide (HM.out.later hbd); replace HPp := hide (HPp.out.later hbd); clear hbd; rw [HUE.out, HVE.out]; obtain ⟨kl, hkey⟩ := mp_key wd u v (by omega) (by omega); obtain ⟨wu, hup0, hmu, hgu⟩ := HM.out.update (t := 64) Try.underlying64 (by unfold maxLen; omega) hkey (pkey x y); have hup : (Instr.mapUpdate 64 (.map (some w1.heap.size)) (.agg #[.int .i64 (u : Int), .int .i64 (v : Int)]) (.agg #[.int .i64 (x : Int), .int .i64 (y : Int)])).run Try.prog wd = .ok () wu := hup0; have HMU := hide hmu; have hfr : ∀ i, i < wd.heap.size → i ≠ w1.heap.size → wu.heap[i]? = wd.heap[i]? := fun i h1 h2 => hgu.block i h1 (fun e => by injection e with e; omega); have HBu : Hid (Below w1.heap.size w1 wu) := hide (HBp.out.grown hgu HBp.out.size (fun j e => by injection e with e; omega)); have HKu : Hid (Blk wu w.heap.size 27 [.slice A kw c, .slice B m d]) := hide ((hfr _ (HK1.out.later HBp.out).lt (by omega)).trans (HK1.out.later HBp.out)); have HTu : Hid (Blk wu (w1.heap.size + 1) 64 [.map (some w1.heap.size)]) := hide ((hfr _ HBb.out.lt (by omega)).trans HBb.out); have HPu : Hid (Blk wu P 53 [.int .i64 x, .int .i64 y]) := hide ((hfr _ HPp.out.lt (by omega)).trans HPp.out); have HAu : Hid (PairsAt wu g kw) := hide (pairsAt_of hgu.size HA.out (hfr g HA.out.1 (by omega))); have m0 := HKu.out.cell 0 _ rfl; have m1 := HKu.out.cell 1 _ rfl; have m2 := HTu.out.cell 0 _ rfl; have m3 := HPu.out.cell 0 _ rfl; have m4 := HPu.out.cell 1 _ rfl; clear hup0 hmu hgu hkey hfr; have k0 := (HK1.out.later HBp.out).cell 0 _ rfl; have k1 := (HK1.out.later HBp.out).cell 1 _ rfl; have k2 := HBb.out.cell 0 _ rfl; have p0 := HPp.out.cell 0 _ rfl; have p1 := HPp.out.cell 1 _ rfl)))
        all_goals go_wp2_with fail
        all_goals go_roundw
        case rel => exact ⟨k + 1, by omega, by go_num, HBu.out, HTu.out, HAu.out, bkV_next HQ.out HX.out HY.out HMU.out⟩
        case measure => simp [intOf]; omega
      · have hkn : k = N := by omega
        subst hkn
        have HK := hide (HK1.out.later HB.out)
        have HR := hide (HR1.out.later HB.out)
        have k0 := HK.out.cell 0 _ rfl
        have k1 := HK.out.cell 1 _ rfl
        go_wp2_with fail
        clear k0 k1
        refine (size_any _ _ _ _ _ _ _ hnb).mono ?_
        rintro e w5 ⟨rfl, hb5⟩
        have HB5 := hide (HB.out.trans (hb5.mono HB.out.size))
        have HM5 := hide (HMM.out.later hb5)
        have HT5 := hide (HT.out.later hb5)
        have HR5 := hide (HR.out.later hb5)
        clear hb5
        go_wp2_with fail
        have hall := bkV_all HP.out HFL.out HC.out
        rw [HN.out] at hall
        refine (pmo_any 67 _ _ (bk1 f s kw) (bk2 f s kw) _ (enters_of Try.func67 (by kernel_rfl) rfl) h12.1 h12.2 (bkC_any f s kw (w1.heap.size + 1) w1.heap.size k _ _ h12.2 HT5.out HM5.out hall)).mono ?_
        rintro e w6 ⟨A3, c3, B3, d3, rfl, hb6, ho6⟩
        have HB6 := hide (HB1.out.trans ((HB5.out.trans (hb6.mono HB5.out.size)).mono HB1.out.size))
        have HB51 := hide (HB1.out.trans (HB5.out.mono HB1.out.size))
        have HR6 := hide (HR5.out.later hb6)
        have HO6 := hide ho6
        have HRL := hide HR5.out.lt
        have k2 := HR6.out.cell 0 _ rfl
        have k3 := HR6.out.cell 1 _ rfl
        have k4 := HR6.out.frozen 0
        have k5 := HR6.out.frozen 1
        clear hb6 ho6 hall
        go_wp2_with fail
        refine bp_gen fun wf hwf => ?_
        obtain ⟨q0, q1, hbf, hof⟩ := zend hwf HR6.out (by omega) HRL.out HB6.out HB51.out.size HO6.out
        clear hwf k2 k3 k4 k5
        rw [HFL.out]
        exact bodyPost_ret (v := .tuple #[.agg #[.slice A3 kw c3, .slice B3 kw d3], .int .i64 0]) (by simp [results, Try.results35, go_sem, q0, q1]) rfl ⟨_, _, _, _, rfl, hbf, hof⟩
  · have HP := hide hp
    obtain rfl : kz = 0 := by simpa using hk.fl.symm
    obtain rfl : kw = 0 := by simpa using hk.sl.symm
    clear hp hz hk
    go_enter Try.func35, Try.ntmps35
    go_wp2_with fail
    refine calls_gen fun w0 hw0 => ?_
    have hb0 : Below w.heap.size w w0 := by rw [hw0]; exact ((Below.refl _ _).alloc (Nat.le_refl _) _).alloc (by simp) _
    have HB0 := hide hb0
    have HR0 : Hid (Blk w0 (w.heap.size + 1) 27 [.slice none 0 0, .slice none 0 0]) := hide (by rw [hw0]; have h := Blk.new (w.alloc (Obj.cells #[Value.slice A n c, Value.slice B m d] 27)) 27 [.slice none 0 0, .slice none 0 0]; simpa using h)
    clear hw0 hb0
    refine (isI_any _ _ _ f _ _ _ s false _ (HZ.out.later HB0.out) (by simp [IsRes, HP.out])).mono ?_
    rintro e w1 ⟨rfl, hb1⟩
    have HB1 := hide (HB0.out.trans (hb1.mono HB0.out.size))
    have HR1 := hide (HR0.out.later hb1)
    have k2 := HR1.out.cell 0 _ rfl
    have k3 := HR1.out.cell 1 _ rfl
    have k4 := HR1.out.frozen 0
    have k5 := HR1.out.frozen 1
    clear hb1
    go_wp2_with fail
    refine bp_gen fun wf hwf => ?_
    obtain ⟨q0, q1, hbf, hof⟩ := zend (ts := 31) (t := 2) (w2 := w1) hwf HR1.out (by omega) HR1.out.lt HB1.out HB1.out.size (ObjZ.empty (Nat.le_refl _))
    clear hwf k2 k3 k4 k5
    exact bodyPost_ret (v := .tuple #[.agg #[.slice none 0 0, .slice none 0 0], .int .i64 1]) (by simp [results, Try.results35, go_sem, q0, q1]) rfl ⟨_, _, _, _, rfl, hbf, hof⟩
end Go.Proofs.Ytanldiildinbdaa
