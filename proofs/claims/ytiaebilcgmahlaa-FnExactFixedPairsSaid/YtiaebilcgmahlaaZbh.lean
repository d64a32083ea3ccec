import Derived.Test.YtiaebilcgmahlaaZba
namespace Go.Proofs.Ytiaebilcgmahlaa
open Go Go.RowKit
open Classical
set_option maxHeartbeats 4000000
set_option maxRecDepth 100000 in
theorem fxpS (A : Option Addr) (n c : Nat) (f : List (List Int)) (B : Option Addr) (m d : Nat) (s : List (List Int)) (zs : List (List Int)) (code : Int) (kz : Nat) (w : World) (hz : ZArg 1048576 w A n f B m s) (hr : FixR f s zs code) (hkz : zs.length = kz) :
    Calls Try.prog 46 #[.agg #[.slice A n c, .slice B m d]] w (TPost 25 2 kz zs code w) := by
  have HZ := hide hz
  have HKZ := hide hkz
  have HB0 := hide ((Below.refl _ w).alloc (Nat.le_refl _) (Obj.cells #[Value.slice A n c, Value.slice B m d] 29))
  have HK0 := hide (Blk.new w 29 [.slice A n c, .slice B m d])
  rcases hr with ⟨hs, hzs, rfl⟩ | ⟨hs, rfl, rfl⟩
  · have HS := hide hs
    have HP : Hid (PMap f s) := hide hs.1
    obtain rfl := (hz.same hs.1).symm
    have HFL := hide hz.sz.fl
    have h12 := hz.small hs.1
    rw [hz.sz.fl] at hzs
    obtain ⟨N, hN⟩ : ∃ N, n * n = N := ⟨_, rfl⟩
    have hN144 : N ≤ 144 := by rw [← hN]; exact sq_le n h12.2
    rw [hN] at hzs
    have HN := hide hN
    have HZS := hide hzs
    obtain ⟨i2, hj, hy0, hy1, hy2⟩ := info_parts neInfo2
    clear hz hs hzs hN hkz
    go_enter Try.func46, Try.ntmps46
    have k0 := HK0.out.cell 0 _ rfl
    have k1 := HK0.out.cell 1 _ rfl
    go_wp2_with fail
    clear k0 k1
    refine (isS_any _ _ _ f _ _ _ s true _ (HZ.out.later HB0.out) ⟨fun _ => HS.out, fun _ => rfl⟩).mono ?_
    rintro e w1 ⟨rfl, hb1⟩
    have HB1 := hide (HB0.out.trans (hb1.mono HB0.out.size))
    have HK1 := hide (HK0.out.later hb1)
    clear hb1
    go_upto_region 4 with fail
    refine wp_gen fun w1b hw1b => ?_
    obtain ⟨v0, hv0⟩ : ∃ q, w1.heap.size = q := ⟨_, rfl⟩
    have hb1b : Below w1.heap.size w1 w1b := by rw [hw1b]; exact (Below.refl _ _).alloc (Nat.le_refl _) _
    have HL1 : Hid (LstV 25 2 w1.heap.size w1b (.slice (some ⟨w1.heap.size, 0, none⟩) 0 0) [] []) := hide (by rw [hw1b]; exact LstV.start w1 _ _)
    have HB1b := hide (HB1.out.trans (hb1b.mono HB1.out.size))
    have HK1b := hide (HK1.out.later hb1b)
    have hs1 : w.heap.size < w1.heap.size := HK1.out.lt
    have hs1b : w1.heap.size ≤ w1b.heap.size := hb1b.size
    rw [hv0] at HL1 hs1 hs1b ⊢
    clear hw1b hb1b hv0 HB1 HK1
    go_wp2_with fail
    go_loopw [4, 5] (fun v i wr => ∃ (x q : Nat) (vals : List Value), x ≤ n ∧ q = x * n ∧ i = .int .i64 x ∧ Below w.heap.size w wr ∧ Blk wr w.heap.size 29 [.slice A n c, .slice B n d] ∧ LstV 25 2 v0 wr v (fpTo f s n q) vals ∧ v0 ≤ wr.heap.size) (fun _ i _ => n - (intOf i).toNat)
    case atStart => exact ⟨0, 0, [], Nat.zero_le _, by simp, rfl, HB1b.out, HK1b.out, HL1.out, hs1b⟩
    case round =>
      obtain ⟨x, q, vals, hx, hq, rfl, hbe, hkk, hl, hv0r⟩ := hrel
      clear HB1b HK1b HL1 hs1b
      have HQ := hide hq
      have HB := hide hbe
      have HK := hide hkk
      have HL := hide hl
      clear hq hbe hkk hl
      have k0 := HK.out.cell 0 _ rfl
      have k1 := HK.out.cell 1 _ rfl
      by_cases hlt : x < n
      · have hxz : (x : Int) < n := by omega
        go_wp2_with fail
        clear k0 k1
        obtain ⟨wo, rfl⟩ : ∃ wo : World, wo = wr := ⟨_, rfl⟩
        go_loopw [4, 6] (fun v i wr => ∃ (y p : Nat) (vals : List Value), y ≤ n ∧ p = x * n + y ∧ i = .int .i64 y ∧ Below w.heap.size w wr ∧ Blk wr w.heap.size 29 [.slice A n c, .slice B n d] ∧ LstV 25 2 v0 wr v (fpTo f s n p) vals ∧ v0 ≤ wr.heap.size) (fun _ i _ => n - (intOf i).toNat)
        case atStart => exact ⟨0, q, vals, Nat.zero_le _, by rw [HQ.out]; rfl, rfl, HB.out, HK.out, HL.out, hv0r⟩
        case round =>
          obtain ⟨y, p, vals2, hy, hp, rfl, hbe2, hkk2, hl2, hv0r2⟩ := hrel
          clear HB HK HL HQ
          have HPQ := hide hp
          have HB := hide hbe2
          have HK := hide hkk2
          have HL := hide hl2
          clear hp hbe2 hkk2 hl2
          have k0 := HK.out.cell 0 _ rfl
          have k1 := HK.out.cell 1 _ rfl
          by_cases hlty : y < n
          · have hyz : (y : Int) < n := by omega
            have hpN : p < N := by have h := pair_lt n x y hlt hlty; rw [HN.out, ← HPQ.out] at h; exact h
            have hstep : fpTo f s n (p + 1) = if ap f x y = x ∧ ap s x y = y then fpTo f s n p ++ [[(x : Int), (y : Int)]] else fpTo f s n p := by
              have h : fpTo f s n (p + 1) = if ap f (p / n) (p % n) = p / n ∧ ap s (p / n) (p % n) = p % n then fpTo f s n p ++ [[((p / n : Nat) : Int), ((p % n : Nat) : Int)]] else fpTo f s n p := rfl
              rw [HPQ.out, pair_div n x y hlty, pair_mod n x y hlty, ← HPQ.out] at h
              exact h
            obtain ⟨bA, oA, bB, oB, bx, ox, cx, bY, oy, cy, eA, eB, j1, j2, j3, j4, l1, l2, l3, l4⟩ := (HZ.out.later HB.out).reads HP.out hlt hlty
            obtain ⟨u, hue⟩ : ∃ u, ap f x y = u := ⟨_, rfl⟩
            obtain ⟨v, hve⟩ : ∃ v, ap s x y = v := ⟨_, rfl⟩
            rw [hue] at hstep j3
            rw [hve] at hstep j4
            have HST := hide hstep
            subst eA
            subst eB
            clear hue hve hstep l1 l2 l3 l4
            have hcs : (((u : Int) = x) ∧ ((v : Int) = y)) ∨ (¬ ((u : Int) = x)) ∨ (((u : Int) = x) ∧ ¬ ((v : Int) = y)) := by omega
            rcases hcs with ⟨e1, e2⟩ | e1 | ⟨e1, e2⟩
            · have hst2 : fpTo f s n (p + 1) = fpTo f s n p ++ [[(x : Int), (y : Int)]] := by rw [HST.out, if_pos ⟨by omega, by omega⟩]
              have HS2 := hide hst2
              have b1 : ((u : Int) == (x : Int)) = true := by simpa using e1
              have b2 : ((v : Int) == (y : Int)) = true := by simpa using e2
              obtain ⟨fl, hfl⟩ : ∃ fl, (fpTo f s n p).length = fl := ⟨_, rfl⟩
              have hfk := fpTo_len f s n p
              rw [hfl] at hfk
              have HF := hide hfl
              have hswd : w.heap.size ≤ wr.heap.size := HB.out.size
              have hal1 : Below wr.heap.size wr (wr.alloc (.cells #[.int .i64 x, .int .i64 y] 2)) := (Below.refl _ _).alloc (Nat.le_refl _) _
              have HOW : Hid ((wr.alloc (.cells #[.int .i64 x, .int .i64 y] 2)).ownsRow v0 25 1 u4 fl vals2) := hide (by rw [← hfl]; exact ownsRow_below HL.out.own hal1)
              have HRW : Hid (Obj1 2 wr.heap.size (wr.alloc (.cells #[.int .i64 x, .int .i64 y] 2)).heap.size (wr.alloc (.cells #[.int .i64 x, .int .i64 y] 2)) (some ⟨wr.heap.size, 0, none⟩) [(x : Int), (y : Int)]) := hide (.inr ⟨wr.heap.size, rfl, Nat.le_refl _, by simp, Row.own (heap_alloc_new _ _)⟩)
              have HAL := hide hal1
              clear hst2 hfl hal1 e1 e2
              go_wp2_with (at_builtin; refine wpList_append_own_at _ rfl _ _ 22 rfl v0 25 i2 (.slice none 0 0) 1 24 Try.underlying22 hj hy0 hy1 hy2 rfl (by decide) _ _ _ rfl (HOW.out.alloc _) ⟨wr.heap.size + 1, 0, none⟩ 1 1 [.slice (some ⟨wr.heap.size, 0, none⟩) 2 2] rfl rfl ?f1 ?f2 ?f3 ?f4 ?f5 ?_)
              case f1 => have h := ne_new (w := wr.alloc (.cells #[.int .i64 x, .int .i64 y] 2)) (v := .slice (some ⟨wr.heap.size, 0, none⟩) 2 2) (t := 25); simpa using h
              case f2 => intro u hu; simp at hu; subst hu; rfl
              case f3 => unfold maxLen; omega
              case f4 => omega
              case f5 => simp; omega
              intro v9 w9 hown9 hgrow9 _ hat9
              have hal2 : Below w.heap.size w (wr.alloc (.cells #[.int .i64 x, .int .i64 y] 2)) := HB.out.alloc hswd _
              have hal3 : Below (wr.alloc (.cells #[.int .i64 x, .int .i64 y] 2)).heap.size (wr.alloc (.cells #[.int .i64 x, .int .i64 y] 2)) ((wr.alloc (.cells #[.int .i64 x, .int .i64 y] 2)).alloc (.cells #[.slice (some ⟨wr.heap.size, 0, none⟩) 2 2] 25)) := (Below.refl _ _).alloc (Nat.le_refl _) _
              have HB9 : Hid (Below w.heap.size w w9) := hide ((hal2.alloc (by simp; omega) _).grown hgrow9 (by simp; omega) (fun g hg => by have h := ((HOW.out.alloc (.cells #[.slice (some ⟨wr.heap.size, 0, none⟩) 2 2] 25)).lt g hg).1; omega))
              have HL9 : Hid (LstV 25 2 v0 w9 v9 (fpTo f s n p ++ [[(x : Int), (y : Int)]]) (vals2 ++ [.slice (some ⟨wr.heap.size, 0, none⟩) 2 2])) := hide (LstV.push (r := [(x : Int), (y : Int)]) (c := 2) (tmp := .cells #[.slice (some ⟨wr.heap.size, 0, none⟩) 2 2] 25) (by decide) hv0r2 HL.out HAL.out HRW.out (by rw [HF.out]; exact hown9) hgrow9)
              have hnk : ∀ b, b < wr.heap.size → u4.ownBlock ≠ some b → w9.heap[b]? = wr.heap[b]? := fun b hb hne => ((hgrow9.block b (by simp; omega) (fun e => hne e.symm)).trans (hal3.block b (by simp; omega))).trans (HAL.out.block b hb)
              have HK9 : Hid (Blk w9 w.heap.size 29 [.slice (some ⟨bA, oA, none⟩) n c, .slice (some ⟨bB, oB, none⟩) n d]) := hide ((hnk _ HK.out.lt (fun e => by have h := (own_lt HL.out.own e).1; omega)).trans HK.out)
              have hv9 : v0 ≤ w9.heap.size := by have h := hgrow9.size; simp at h; omega
              clear hown9 hgrow9 hat9 hal2 hal3 hnk
              go_wp2_with fail
              go_roundw
              case rel => exact ⟨y + 1, p + 1, _, by omega, by rw [HPQ.out]; omega, by go_num, HB9.out, HK9.out, by rw [HS2.out]; exact HL9.out, hv9⟩
              case measure => simp [intOf]; omega
            · have hst2 : fpTo f s n (p + 1) = fpTo f s n p := by rw [HST.out, if_neg (by omega)]
              have HS2 := hide hst2
              have b1 : ((u : Int) == (x : Int)) = false := by simpa using e1
              clear hst2 e1
              go_wp2_with fail
              go_roundw
              case rel => exact ⟨y + 1, p + 1, vals2, by omega, by rw [HPQ.out]; omega, by go_num, HB.out, HK.out, by rw [HS2.out]; exact HL.out, hv0r2⟩
              case measure => simp [intOf]; omega
            · have hst2 : fpTo f s n (p + 1) = fpTo f s n p := by rw [HST.out, if_neg (by omega)]
              have HS2 := hide hst2
              have b1 : ((u : Int) == (x : Int)) = true := by simpa using e1
              have b2 : ((v : Int) == (y : Int)) = false := by simpa using e2
              clear hst2 e1 e2
              go_wp2_with fail
              go_roundw
              case rel => exact ⟨y + 1, p + 1, vals2, by omega, by rw [HPQ.out]; omega, by go_num, HB.out, HK.out, by rw [HS2.out]; exact HL.out, hv0r2⟩
              case measure => simp [intOf]; omega
          · have hyn : y = n := by omega
            subst hyn
            go_wp2_with fail
            go_roundw
            case rel => exact ⟨x + 1, p, vals2, by omega, by rw [HPQ.out, Nat.add_mul]; omega, by go_num, HB.out, HK.out, HL.out, hv0r2⟩
            case measure => simp [intOf]; omega
      · have hxn : x = n := by omega
        subst hxn
        have hqn : q = N := by rw [HQ.out, HN.out]
        subst hqn
        obtain ⟨A9, c9, hv9, hobj9⟩ := HL.out.shape
        rw [← HZS.out, HKZ.out] at hv9
        subst hv9
        have HO := hide hobj9
        have hvv : w.heap.size ≤ v0 := by omega
        clear hobj9
        go_wp2_with fail
        go_ret2
        exact ⟨_, _, rfl, HB.out, by rw [HZS.out]; exact HO.out.mono hvv (Nat.le_refl _)⟩
  · obtain rfl : kz = 0 := by simpa using hkz.symm
    have HS := hide hs
    clear hz hs hkz
    go_enter Try.func46, Try.ntmps46
    have k0 := HK0.out.cell 0 _ rfl
    have k1 := HK0.out.cell 1 _ rfl
    go_wp2_with fail
    clear k0 k1
    refine (isS_any _ _ _ f _ _ _ s false _ (HZ.out.later HB0.out) ⟨fun h => absurd h (by simp), fun h => absurd h HS.out⟩).mono ?_
    rintro e w1 ⟨rfl, hb1⟩
    have HB1 := hide (HB0.out.trans (hb1.mono HB0.out.size))
    clear hb1
    go_wp2_with fail
    go_ret2
    exact ⟨_, _, rfl, HB1.out, .inl ⟨rfl, rfl⟩⟩
end Go.Proofs.Ytiaebilcgmahlaa
