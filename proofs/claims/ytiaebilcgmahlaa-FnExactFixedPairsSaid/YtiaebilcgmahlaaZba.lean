import Derived.Test.YtiaebilcgmahlaaZaw
import Derived.Test.YtiaebilcgmahlaaZao
import Derived.Test.YtiaebilcgmahlaaZw
import Derived.Test.YtiaebilcgmahlaaZr
import Derived.Test.YtiaebilcgmahlaaZz
import Derived.Test.YtiaebilcgmahlaaZo
import Derived.Test.YtiaebilcgmahlaaZs
import Derived.Test.YtiaebilcgmahlaaZam
import Derived.StillTailTactics
import Derived.Deep.Cut
import Derived.Deep.RegionHeld3
namespace Go.Proofs.Ytiaebilcgmahlaa
open Go Go.RowKit
open Classical
set_option maxHeartbeats 4000000
/-- The fixed pairs among the first k. -/
noncomputable def fpTo (f s : List (List Int)) (n : Nat) : Nat → List (List Int)
  | 0 => []
  | k + 1 => if ap f (k / n) (k % n) = k / n ∧ ap s (k / n) (k % n) = k % n then fpTo f s n k ++ [[((k / n : Nat) : Int), ((k % n : Nat) : Int)]] else fpTo f s n k
theorem fpTo_len (f s : List (List Int)) (n k : Nat) : (fpTo f s n k).length ≤ k := by
  induction k with
  | zero => simp [fpTo]
  | succ k ih =>
    unfold fpTo
    split
    · simp; omega
    · omega
theorem fpTo_row (f s : List (List Int)) (n k i : Nat) (hi : i < (fpTo f s n k).length) : ((fpTo f s n k).getD i []).length = 2 := by
  have h : ∀ p, p ∈ fpTo f s n k → p.length = 2 := by
    induction k with
    | zero => intro p hp; simp [fpTo] at hp
    | succ k ih =>
      have ih' : ∀ p, p ∈ fpTo f s n k → p.length = 2 := by
        clear hi
        clear ih
        induction k with
        | zero => intro p hp; simp [fpTo] at hp
        | succ k ih2 =>
          intro p hp
          unfold fpTo at hp
          split at hp
          · rcases List.mem_append.1 hp with hp | hp
            · exact ih2 p hp
            · simp at hp; subst hp; rfl
          · exact ih2 p hp
      intro p hp
      unfold fpTo at hp
      split at hp
      · rcases List.mem_append.1 hp with hp | hp
        · exact ih' p hp
        · simp at hp; subst hp; rfl
      · exact ih' p hp
  exact h _ (by simp [hi])
def FixR (f s : List (List Int)) (zs : List (List Int)) (code : Int) : Prop := (SolF f s ∧ zs = fpTo f s f.length (f.length * f.length) ∧ code = 0) ∨ (¬ SolF f s ∧ zs = [] ∧ code = 1)
theorem FixR.ex (f s : List (List Int)) : ∃ zs code, FixR f s zs code ∧ zs.length ≤ 1048576 ∧ ∀ i, i < zs.length → (zs.getD i []).length ≤ 1048576 := by
  by_cases h : SolF f s
  · have h12 := h.1.1.2.1
    have h1 := fpTo_len f s f.length (f.length * f.length)
    have h2 := sq_le f.length h12
    exact ⟨_, _, .inl ⟨h, rfl, rfl⟩, by omega, fun i hi => by rw [fpTo_row _ _ _ _ _ hi]; omega⟩
  · exact ⟨_, _, .inr ⟨h, rfl, rfl⟩, by simp, by simp⟩
set_option maxRecDepth 100000 in
theorem fxpI (A : Option Addr) (n c : Nat) (f : List (List Int)) (B : Option Addr) (m d : Nat) (s : List (List Int)) (zs : List (List Int)) (code : Int) (kz : Nat) (w : World) (hz : ZArg 1048576 w A n f B m s) (hr : FixR f s zs code) (hkz : zs.length = kz) :
    Calls Try.prog 47 #[.agg #[.slice A n c, .slice B m d]] w (TPost 25 2 kz zs code w) := by
  have HZ := hide hz
  have HKZ := hide hkz
  have HB0 := hide ((Below.refl _ w).alloc (Nat.le_refl _) (Obj.cells #[Value.slice A n c, Value.slice B m d] 29))
  have HK0 := hide (Blk.new w 29 [.slice A n c, .slice B m d])
  rcases hr with ⟨hs, hzs, rfl⟩ | ⟨hs, rfl, rfl⟩
  · have HS := hide hs
    have HP : Hid (PMap f s) := hide hs.1
    obtain rfl := (hz.same hs.1).symm
    have HFL := hide hz.sz.fl
    have h12 := hz.small hs.1
    have hnb := hz.sz.nb
    rw [hz.sz.fl] at hzs
    obtain ⟨N, hN⟩ : ∃ N, n * n = N := ⟨_, rfl⟩
    have hN144 : N ≤ 144 := by rw [← hN]; exact sq_le n h12.2
    rw [hN] at hzs
    have HN := hide hN
    have HZS := hide hzs
    obtain ⟨i2, hj, hy0, hy1, hy2⟩ := info_parts neInfo2
    clear hz hs hzs hN hkz
    go_enter Try.func47, Try.ntmps47
    have k0 := HK0.out.cell 0 _ rfl
    have k1 := HK0.out.cell 1 _ rfl
    go_wp2_with fail
    clear k0 k1
    refine (isI_any _ _ _ f _ _ _ s true _ (HZ.out.later HB0.out) ⟨fun _ => HS.out, fun _ => rfl⟩).mono ?_
    rintro e w1 ⟨rfl, hb1⟩
    have HB1 := hide (HB0.out.trans (hb1.mono HB0.out.size))
    have HK1 := hide (HK0.out.later hb1)
    clear hb1
    go_upto_region 4 with fail
    refine wp_gen fun w1b hw1b => ?_
    obtain ⟨v0, hv0⟩ : ∃ q, w1.heap.size = q := ⟨_, rfl⟩
    have hb1b : Below w1.heap.size w1 w1b := by rw [hw1b]; exact (Below.refl _ _).alloc (Nat.le_refl _) _
    have HL1 : Hid (LstV 25 2 w1.heap.size w1b (.slice (some ⟨w1.heap.size, 0, none⟩) 0 0) [] []) := hide (by rw [hw1b]; exact LstV.start w1 _ _)
    have HB1b := hide (HB1.out.trans (hb1b.mono HB1.out.size))
    have HK1b := hide (HK1.out.later hb1b)
    have hs1 : w.heap.size < w1.heap.size := HK1.out.lt
    rw [hv0] at HL1 hs1 ⊢
    clear hw1b hb1b hv0
    have k0 := HK1b.out.cell 0 _ rfl
    have k1 := HK1b.out.cell 1 _ rfl
    go_wp2_with fail
    refine (size_any _ _ _ _ _ _ _ hnb).mono ?_
    rintro e w2 ⟨rfl, hb2⟩
    have HB2 := hide (HB1b.out.trans (hb2.mono HB1b.out.size))
    have HK2 := hide (HK1b.out.later hb2)
    have HL2 := hide (HL1.out.later hb2)
    clear hb2 k0 k1
    go_wp2_with fail
    refine (pairsOf_any n N _ h12.1 h12.2 HN.out).mono ?_
    rintro e w3 ⟨g, rfl, hb3, hg3, hpa⟩
    have HB3 := hide (HB2.out.trans (hb3.mono HB2.out.size))
    have HK3 := hide (HK2.out.later hb3)
    have HL3 := hide (HL2.out.later hb3)
    have HPA3 := hide hpa
    have hgv : ∀ v0', (Value.slice (some ⟨v0, 0, none⟩) 0 0).ownBlock = some v0' → v0' < g := by
      intro v0' e
      simp [Value.ownBlock] at e
      have h := (own_lt HL2.out.own (g := v0) rfl).2
      omega
    have HGV : Hid (∀ h, (Value.slice (some ⟨v0, 0, none⟩) 0 0).ownBlock = some h → h ≠ g) := hide (fun h e e2 => by have := hgv h e; omega)
    have hv03 : v0 ≤ w3.heap.size := by have h := (own_lt HL3.out.own (g := v0) rfl).2; omega
    clear hb3 hpa hgv
    go_wp2_with fail
    go_loopw [4, 15] (fun v i wr => ∃ (k : Nat) (vals : List Value), k ≤ N ∧ i = .int .i64 k ∧ Below w.heap.size w wr ∧ Blk wr w.heap.size 29 [.slice A n c, .slice B n d] ∧ PairsAt wr g n ∧ LstV 25 2 v0 wr v (fpTo f s n k) vals ∧ (∀ h, v.ownBlock = some h → h ≠ g) ∧ v0 ≤ wr.heap.size) (fun _ i _ => N - (intOf i).toNat)
    case atStart => exact ⟨0, [], Nat.zero_le _, rfl, HB3.out, HK3.out, HPA3.out, HL3.out, HGV.out, hv03⟩
    case round =>
      obtain ⟨k, vals, hk, rfl, hbe, hkk, hpa, hl, hgv, hv0r⟩ := hrel
      clear HB3 HK3 HPA3 HL3 HGV
      have HB := hide hbe
      have HK := hide hkk
      have HPA := hide hpa
      have HL := hide hl
      have HGV := hide hgv
      clear hbe hkk hpa hl hgv
      by_cases hlt : k < N
      · have hkz : (k : Int) < N := by omega
        obtain ⟨p0, p1⟩ := HPA.out.2 k (by rw [HN.out]; exact hlt)
        have hxn : k / n < n := div_lt_sq (by rw [HN.out]; exact hlt)
        have hyn : k % n < n := mod_lt_sq (by rw [HN.out]; exact hlt)
        have hstep : fpTo f s n (k + 1) = if ap f (k / n) (k % n) = k / n ∧ ap s (k / n) (k % n) = k % n then fpTo f s n k ++ [[((k / n : Nat) : Int), ((k % n : Nat) : Int)]] else fpTo f s n k := rfl
        obtain ⟨x, hx⟩ : ∃ x, k / n = x := ⟨_, rfl⟩
        obtain ⟨y, hy⟩ : ∃ y, k % n = y := ⟨_, rfl⟩
        rw [hx] at p0 hxn hstep
        rw [hy] at p1 hyn hstep
        obtain ⟨u, hue⟩ : ∃ u, ap f x y = u := ⟨_, rfl⟩
        obtain ⟨v, hve⟩ : ∃ v, ap s x y = v := ⟨_, rfl⟩
        rw [hue, hve] at hstep
        have HU := hide hue
        have HV := hide hve
        have HST := hide hstep
        clear hue hve hx hy hstep
        go_upto_region 7 with fail
        refine wp_gen fun w4 hw4 => ?_
        obtain ⟨P, hPe⟩ : ∃ P, wr.heap.size = P := ⟨_, rfl⟩
        have hb4 : Below wr.heap.size wr w4 := by rw [hw4]; exact (Below.refl _ _).alloc (Nat.le_refl _) _
        have HBc : Hid (Below w.heap.size w w4) := hide (HB.out.trans (hb4.mono HB.out.size))
        have HKc := hide (HK.out.later hb4)
        have HPc : Hid (Blk w4 P 94 [.int .i64 x, .int .i64 y]) := hide (by rw [hw4, ← hPe]; exact Blk.new _ _ _)
        have HAc := hide (HPA.out.later hb4)
        have HLc := hide (HL.out.later hb4)
        have hPv : v0 ≤ P := by omega
        have hsc : P < w4.heap.size := HPc.out.lt
        rw [hPe]
        clear hw4 hb4 p0 p1 hPe HB HK HPA HL
        have k0 := HKc.out.cell 0 _ rfl
        have k1 := HKc.out.cell 1 _ rfl
        have k2 := HPc.out.cell 0 _ rfl
        have k3 := HPc.out.cell 1 _ rfl
        have hcs : (((u : Int) = x) ∧ ((v : Int) = y)) ∨ (¬ ((u : Int) = x)) ∨ (((u : Int) = x) ∧ ¬ ((v : Int) = y)) := by omega
        rcases hcs with ⟨e1, e2⟩ | e1 | ⟨e1, e2⟩
        · have hst2 : fpTo f s n (k + 1) = fpTo f s n k ++ [[(x : Int), (y : Int)]] := by rw [HST.out, if_pos ⟨by omega, by omega⟩]
          have HS2 := hide hst2
          clear hst2
          go_region_held3 (fun w' => w'.cell? ⟨w.heap.size, 0, none⟩ = some (.slice A n c) ∧ w'.cell? ⟨w.heap.size, 1, none⟩ = some (.slice B n d) ∧ w'.cell? ⟨P, 0, none⟩ = some (.int .i64 x) ∧ w'.cell? ⟨P, 1, none⟩ = some (.int .i64 y)) (first | exact ⟨k0, k1, k2, k3⟩ | go_keep) (first | (go_at_call 80; go_must (refine calls_gen fun wc hwc => ?_; (first | have hbx := drew_below hwc | have hbx := eq_below hwc); replace HBc := hide (HBc.out.trans (hbx.mono HBc.out.size)); replace HKc := hide (HKc.out.later hbx); replace HPc := hide (HPc.out.later hbx); replace HAc := hide (HAc.out.later hbx); replace HLc := hide (HLc.out.later hbx); have hs5 := hbx.size; clear hwc hbx; refine (lead_any _ _ _ f _ _ _ s x y _ (HZ.out.later HBc.out) HP.out hxn hyn).mono ?_; rintro e wd ⟨rfl, hbd⟩; have HSZ : Hid (P < wd.heap.size) := hide (by have := hbd.size; omega); replace HBc := hide (HBc.out.trans (hbd.mono HBc.out.size)); replace HKc := hide (HKc.out.later hbd); replace HPc := hide (HPc.out.later hbd); replace HAc := hide (HAc.out.later hbd); replace HLc := hide (HLc.out.later hbd); clear hbd hs5; have k0 := HKc.out.cell 0 _ rfl; have k1 := HKc.out.cell 1 _ rfl; have k2 := HPc.out.cell 0 _ rfl; have k3 := HPc.out.cell 1 _ rfl; rw [HU.out, HV.out])))
          obtain ⟨fl, hfl⟩ : ∃ fl, (fpTo f s n k).length = fl := ⟨_, rfl⟩
          have hfk := fpTo_len f s n k
          rw [hfl] at hfk
          have HF := hide hfl
          have hsd : v0 ≤ wd.heap.size := by have h1 := HSZ.out; omega
          have hswd : w.heap.size ≤ wd.heap.size := HBc.out.size
          have hal1 : Below wd.heap.size wd (wd.alloc (.cells #[.int .i64 x, .int .i64 y] 2)) := (Below.refl _ _).alloc (Nat.le_refl _) _
          have HOW : Hid ((wd.alloc (.cells #[.int .i64 x, .int .i64 y] 2)).ownsRow v0 25 1 u4 fl vals) := hide (by rw [← hfl]; exact ownsRow_below HLc.out.own hal1)
          have HRW : Hid (Obj1 2 wd.heap.size (wd.alloc (.cells #[.int .i64 x, .int .i64 y] 2)).heap.size (wd.alloc (.cells #[.int .i64 x, .int .i64 y] 2)) (some ⟨wd.heap.size, 0, none⟩) [(x : Int), (y : Int)]) := hide (.inr ⟨wd.heap.size, rfl, Nat.le_refl _, by simp, Row.own (heap_alloc_new _ _)⟩)
          have HAL := hide hal1
          clear hfl hal1
          go_wp2_with (at_builtin; refine wpList_append_own_at _ rfl _ _ 22 rfl v0 25 i2 (.slice none 0 0) 1 24 Try.underlying22 hj hy0 hy1 hy2 rfl (by decide) _ _ _ rfl (HOW.out.alloc _) ⟨wd.heap.size + 1, 0, none⟩ 1 1 [.slice (some ⟨wd.heap.size, 0, none⟩) 2 2] rfl rfl ?f1 ?f2 ?f3 ?f4 ?f5 ?_)
          case f1 => have h := ne_new (w := wd.alloc (.cells #[.int .i64 x, .int .i64 y] 2)) (v := .slice (some ⟨wd.heap.size, 0, none⟩) 2 2) (t := 25); simpa using h
          case f2 => intro u hu; simp at hu; subst hu; rfl
          case f3 => unfold maxLen; omega
          case f4 => omega
          case f5 => simp; omega
          intro v9 w9 hown9 hgrow9 _ hat9
          have hal2 : Below w.heap.size w (wd.alloc (.cells #[.int .i64 x, .int .i64 y] 2)) := HBc.out.alloc hswd _
          have hal3 : Below (wd.alloc (.cells #[.int .i64 x, .int .i64 y] 2)).heap.size (wd.alloc (.cells #[.int .i64 x, .int .i64 y] 2)) ((wd.alloc (.cells #[.int .i64 x, .int .i64 y] 2)).alloc (.cells #[.slice (some ⟨wd.heap.size, 0, none⟩) 2 2] 25)) := (Below.refl _ _).alloc (Nat.le_refl _) _
          have HB9 : Hid (Below w.heap.size w w9) := hide ((hal2.alloc (by simp; omega) _).grown hgrow9 (by simp; omega) (fun g hg => by have h := ((HOW.out.alloc (.cells #[.slice (some ⟨wd.heap.size, 0, none⟩) 2 2] 25)).lt g hg).1; omega))
          have HL9 : Hid (LstV 25 2 v0 w9 v9 (fpTo f s n k ++ [[(x : Int), (y : Int)]]) (vals ++ [.slice (some ⟨wd.heap.size, 0, none⟩) 2 2])) := hide (LstV.push (r := [(x : Int), (y : Int)]) (c := 2) (tmp := .cells #[.slice (some ⟨wd.heap.size, 0, none⟩) 2 2] 25) (by decide) hsd HLc.out HAL.out HRW.out (by rw [HF.out]; exact hown9) hgrow9)
          have hnk : ∀ b, b < wd.heap.size → u4.ownBlock ≠ some b → w9.heap[b]? = wd.heap[b]? := fun b hb hne => ((hgrow9.block b (by simp; omega) (fun e => hne e.symm)).trans (hal3.block b (by simp; omega))).trans (HAL.out.block b hb)
          have HK9 : Hid (Blk w9 w.heap.size 29 [.slice A n c, .slice B n d]) := hide ((hnk _ HKc.out.lt (fun e => by have h := (own_lt HLc.out.own e).1; omega)).trans HKc.out)
          have hgne : u4.ownBlock ≠ some g := fun e => HGV.out g e rfl
          have hgl : g < wd.heap.size := HAc.out.1
          have HA9 : Hid (PairsAt w9 g n) := hide ⟨by have h := hgrow9.size; simp at h; omega, fun q hq => ⟨(World.cell?_of_block (a := ⟨g, q * 2, none⟩) (hnk g hgl hgne)).trans (HAc.out.2 q hq).1, (World.cell?_of_block (a := ⟨g, q * 2 + 1, none⟩) (hnk g hgl hgne)).trans (HAc.out.2 q hq).2⟩⟩
          have HG9 : Hid (∀ h, v9.ownBlock = some h → h ≠ g) := hide (by
            intro h hh e
            rcases hat9 with e2 | e2
            · rw [e2] at hh; exact HGV.out h hh e
            · rw [hh] at e2
              injection e2 with e2
              omega)
          have hv9 : v0 ≤ w9.heap.size := by have h := hgrow9.size; simp at h; omega
          clear hown9 hgrow9 hat9 hal2 hal3 hnk
          go_wp2_with fail
          go_roundw
          case rel => exact ⟨k + 1, _, by omega, by go_num, HB9.out, HK9.out, HA9.out, by rw [HS2.out]; exact HL9.out, HG9.out, hv9⟩
          case measure => simp [intOf]; omega
        all_goals
          have hst2 : fpTo f s n (k + 1) = fpTo f s n k := by rw [HST.out, if_neg (by omega)]
          have HS2 := hide hst2
          clear hst2
          go_region_held3 (fun w' => w'.cell? ⟨w.heap.size, 0, none⟩ = some (.slice A n c) ∧ w'.cell? ⟨w.heap.size, 1, none⟩ = some (.slice B n d) ∧ w'.cell? ⟨P, 0, none⟩ = some (.int .i64 x) ∧ w'.cell? ⟨P, 1, none⟩ = some (.int .i64 y)) (first | exact ⟨k0, k1, k2, k3⟩ | go_keep) (first | (go_at_call 80; go_must (refine calls_gen fun wc hwc => ?_; (first | have hbx := drew_below hwc | have hbx := eq_below hwc); replace HBc := hide (HBc.out.trans (hbx.mono HBc.out.size)); replace HKc := hide (HKc.out.later hbx); replace HPc := hide (HPc.out.later hbx); replace HAc := hide (HAc.out.later hbx); replace HLc := hide (HLc.out.later hbx); have hs5 := hbx.size; clear hwc hbx; refine (lead_any _ _ _ f _ _ _ s x y _ (HZ.out.later HBc.out) HP.out hxn hyn).mono ?_; rintro e wd ⟨rfl, hbd⟩; have HSZ : Hid (P < wd.heap.size) := hide (by have := hbd.size; omega); replace HBc := hide (HBc.out.trans (hbd.mono HBc.out.size)); replace HKc := hide (HKc.out.later hbd); replace HPc := hide (HPc.out.later hbd); replace HAc := hide (HAc.out.later hbd); replace HLc := hide (HLc.out.later hbd); clear hbd hs5; have k0 := HKc.out.cell 0 _ rfl; have k1 := HKc.out.cell 1 _ rfl; have k2 := HPc.out.cell 0 _ rfl; have k3 := HPc.out.cell 1 _ rfl; rw [HU.out, HV.out])))
          go_wp2_with fail
          go_roundw
          case rel => exact ⟨k + 1, vals, by omega, by go_num, HBc.out, HKc.out, HAc.out, by rw [HS2.out]; exact HLc.out, HGV.out, by have := HSZ.out; omega⟩
          case measure => simp [intOf]; omega
      · have hkn : k = N := by omega
        subst hkn
        obtain ⟨A9, c9, hv9, hobj9⟩ := HL.out.shape
        rw [← HZS.out, HKZ.out] at hv9
        subst hv9
        have HO := hide hobj9
        have hvv : w.heap.size ≤ v0 := by omega
        clear hobj9
        go_wp2_with fail
        go_ret2
        exact ⟨_, _, rfl, HB.out, by rw [HZS.out]; exact HO.out.mono hvv (Nat.le_refl _)⟩
  · obtain rfl : kz = 0 := by simpa using hkz.symm
    have HS := hide hs
    clear hz hs hkz
    go_enter Try.func47, Try.ntmps47
    have k0 := HK0.out.cell 0 _ rfl
    have k1 := HK0.out.cell 1 _ rfl
    go_wp2_with fail
    clear k0 k1
    refine (isI_any _ _ _ f _ _ _ s false _ (HZ.out.later HB0.out) ⟨fun h => absurd h (by simp), fun h => absurd h HS.out⟩).mono ?_
    rintro e w1 ⟨rfl, hb1⟩
    have HB1 := hide (HB0.out.trans (hb1.mono HB0.out.size))
    clear hb1
    go_wp2_with fail
    go_ret2
    exact ⟨_, _, rfl, HB1.out, .inl ⟨rfl, rfl⟩⟩
end Go.Proofs.Ytiaebilcgmahlaa
