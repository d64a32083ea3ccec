import Derived.Test.YtaejgmdeiemhcaaZbf
import Derived.Test.YtaejgmdeiemhcaaZbe
import Derived.Test.YtaejgmdeiemhcaaZap
import Derived.Test.YtaejgmdeiemhcaaZs
import Derived.Test.YtaejgmdeiemhcaaZar
import Derived.Test.YtaejgmdeiemhcaaZi
import Derived.Test.YtaejgmdeiemhcaaZac
import Derived.Deep.Cut
namespace Go.Proofs.Ytaejgmdeiemhcaa
open Go Go.RowKit
open Classical
set_option maxHeartbeats 4000000
theorem dcInfo : (Try.prog.info? 2).map (fun i => (i.zero, i.size, i.bytes)) = some (some (.int .i64 0), 1, 8) := by kernel_rfl
theorem own_low2 {ts : TypeId} {B B' n : Nat} {w : World} {v : Value} {xs : List Value} (h : w.ownsRow B ts 1 v n xs) (hB : B' ≤ B) : w.ownsRow B' ts 1 v n xs := by
  refine ⟨h.1, ?_⟩
  rcases h.2 with h2 | ⟨g, cap, cur, e, hg, r⟩
  · exact .inl h2
  · exact .inr ⟨g, cap, cur, e, Nat.le_trans hB hg, r⟩
theorem row2_begin (w : World) (t : TypeId) : Row2 t w.heap.size ((w.alloc (.cells #[] t)).alloc (.cells #[] t)) (.slice (some ⟨w.heap.size, 0, none⟩) 0 0) (.slice (some ⟨w.heap.size + 1, 0, none⟩) 0 0) 0 0 [] [] := by
  have h1 := ne_empty w t
  have h2 := ne_empty (w.alloc (.cells #[] t)) t
  have hs : (w.alloc (.cells #[] t)).heap.size = w.heap.size + 1 := by simp
  rw [hs] at h2
  exact ⟨by simpa [ints] using ownsRow_below h1 ((Below.refl _ _).alloc (Nat.le_refl _) _), by simpa [ints] using (own_low2 h2 (by omega)), fun g e1 e2 => by simp [Value.ownBlock] at e1 e2; omega⟩
theorem dec_kept {t : TypeId} {wr w9 : World} {g : Nat} {xs : List Int} {v : Value} {tmp : Obj} (h : OwnB t wr g xs) (hg : (wr.alloc tmp).grownBy w9 v.ownBlock) (hne : v.ownBlock ≠ some g) : OwnB t w9 g xs := by
  have h1 := h.later ((Below.refl wr.heap.size wr).alloc (Nat.le_refl _) tmp) h.lt
  exact h1.of_block (hg.block g h1.lt (fun e => hne e.symm))
theorem dec_ne {wr : World} {g : Nat} {v v' : Value} {tmp : Obj} (hl : g < wr.heap.size) (hne : v.ownBlock ≠ some g) (hat : v'.ownBlock = v.ownBlock ∨ v'.ownBlock = some (wr.alloc tmp).heap.size) : v'.ownBlock ≠ some g := by
  rcases hat with e | e
  · rw [e]; exact hne
  · rw [e]
    simp
    omega
set_option maxRecDepth 100000 in
theorem decI (A : Option Addr) (n c : Nat) (f : List (List Int)) (B : Option Addr) (m d : Nat) (s : List (List Int)) (xs ys : List Int) (code : Int) (kz ky : Nat) (w : World) (hz : ZArg 1048576 w A n f B m s) (hr : DecRes f s xs ys code) (hk : xs.length = kz) (hy : ys.length = ky) :
    Calls Try.prog 46 #[.agg #[.slice A n c, .slice B m d]] w (DPost 2 kz ky xs ys code w) := by
  have HZ := hide hz
  have HB0 := hide ((Below.refl _ w).alloc (Nat.le_refl _) (Obj.cells #[Value.slice A n c, Value.slice B m d] 28))
  have HK0 := hide (Blk.new w 28 [.slice A n c, .slice B m d])
  obtain ⟨i0, hi, hz0, hz1, hz2⟩ := info_parts dcInfo
  rcases hr with ⟨hg, ho, hxs, hys, rfl⟩ | ⟨hg, ho, rfl, rfl, rfl⟩ | ⟨hg, rfl, rfl, rfl⟩
  · obtain rfl := hz.same hg.map
    rw [hz.sz.fl] at hxs hys
    subst hxs
    subst hys
    subst hk
    subst hy
    have h1 := (hg.sizes hz.sz.fl).1
    have h12 := (hg.sizes hz.sz.fl).2.1
    have HG := hide hg
    have HOR := hide ho
    clear hg hz ho
    go_enter Try.func46, Try.ntmps46
    go_wp2_with fail
    refine (nd7I _ _ _ f _ _ _ s true _ (HZ.out.later HB0.out) (by simp [HG.out])).mono ?_
    rintro e w1 ⟨rfl, hb1⟩
    have HB1 := hide (HB0.out.trans (hb1.mono HB0.out.size))
    have HK1 := hide (HK0.out.later hb1)
    have k0 := HK1.out.cell 0 _ rfl
    have k1 := HK1.out.cell 1 _ rfl
    clear hb1
    go_wp2_with fail
    refine (indZ_any _ _ _ f _ _ s false _ (HZ.out.later HB1.out) HG.out (by simp [HOR.out])).mono ?_
    rintro e w2 ⟨rfl, hb2⟩
    have HB2 := hide (HB1.out.trans (hb2.mono HB1.out.size))
    have HK2 := hide (HK1.out.later hb2)
    clear hb2 k0 k1
    have k0 := fun o p => ((HK2.out.alloc o).alloc p).cell 0 _ rfl
    have k1 := fun o p => ((HK2.out.alloc o).alloc p).cell 1 _ rfl
    go_wp2_with fail
    refine calls_gen fun w3 hw3 => ?_
    obtain ⟨B0, hB0⟩ : ∃ B0, w2.heap.size = B0 := ⟨_, rfl⟩
    have hb3 : Below w2.heap.size w2 w3 := by rw [hw3]; exact ((Below.refl _ _).alloc (Nat.le_refl _) _).alloc (by simp) _
    have HR3 : Hid (Row2 2 B0 w3 (.slice (some ⟨B0, 0, none⟩) 0 0) (.slice (some ⟨B0 + 1, 0, none⟩) 0 0) 0 0 [] []) := hide (by rw [hw3, ← hB0]; exact row2_begin w2 _)
    have HBL := hide HB2.out.size
    have hs3 : w3.heap.size = B0 + 2 := by rw [hw3, ← hB0]; simp
    rw [hB0] at HBL ⊢
    have HB3 := hide (HB2.out.trans (hb3.mono HB2.out.size))
    clear hw3 k0 k1 hb3
    refine (orbZ_any _ _ _ f _ _ s _ (HZ.out.later HB3.out) HG.out).mono ?_
    rintro e w5 ⟨g, c4, rfl, hb4, hg4, how⟩
    have HB5 := hide (HB3.out.trans (hb4.mono HB3.out.size))
    have HRS := hide (HR3.out.later hb4)
    have HOW := hide how
    have HSZ : Hid (B0 ≤ w5.heap.size) := hide (by have := hb4.size; omega)
    have M1 : Hid ((Value.slice (some ⟨B0, 0, none⟩) 0 0).ownBlock ≠ some g) := hide (by simp [Value.ownBlock]; omega)
    have M2 : Hid ((Value.slice (some ⟨B0 + 1, 0, none⟩) 0 0).ownBlock ≠ some g) := hide (by simp [Value.ownBlock]; omega)
    obtain ⟨u1, hu1⟩ : ∃ u1, u1 = Value.slice (some ⟨B0, 0, none⟩) 0 0 := ⟨_, rfl⟩
    obtain ⟨u2, hu2⟩ : ∃ u2, u2 = Value.slice (some ⟨B0 + 1, 0, none⟩) 0 0 := ⟨_, rfl⟩
    rw [← hu1] at M1 HRS
    rw [← hu2] at M2 HRS
    clear hb4 how hg4 HB3 HR3
    go_wp2_with fail
    have HST0 : Hid (∃ (k n1 n2 : Nat), k ≤ m ∧ (Value.int .i64 0) = .int .i64 (k : Int) ∧ n1 = (memTo (orbS f s) 0 k).length ∧ n2 = (notTo (orbS f s) k).length ∧ Below w.heap.size w w5 ∧ Row2 2 B0 w5 u1 u2 n1 n2 (memTo (orbS f s) 0 k) (notTo (orbS f s) k) ∧ OwnB 2 w5 g (orbS f s) ∧ u1.ownBlock ≠ some g ∧ u2.ownBlock ≠ some g ∧ B0 ≤ w5.heap.size) := hide ⟨0, 0, 0, Nat.zero_le _, rfl, rfl, rfl, HB5.out, HRS.out, HOW.out, M1.out, M2.out, HSZ.out⟩
    subst hu1
    subst hu2
    clear HB5 HRS HOW M1 M2 HSZ
    go_loopw [5, 6, 19] (fun v1 v2 i wr => ∃ (k n1 n2 : Nat), k ≤ m ∧ i = .int .i64 k ∧ n1 = (memTo (orbS f s) 0 k).length ∧ n2 = (notTo (orbS f s) k).length ∧ Below w.heap.size w wr ∧ Row2 2 B0 wr v1 v2 n1 n2 (memTo (orbS f s) 0 k) (notTo (orbS f s) k) ∧ OwnB 2 wr g (orbS f s) ∧ v1.ownBlock ≠ some g ∧ v2.ownBlock ≠ some g ∧ B0 ≤ wr.heap.size) (fun _ _ i _ => m - (intOf i).toNat)
    case atStart => exact HST0.out
    case round =>
      clear HST0
      obtain ⟨k, n1, n2, hk, rfl, hn1, hn2, hbe, hrow, how, hv1, hv2, hsz⟩ := hrel
      have HB := hide hbe
      have HRW := hide hrow
      have HO := hide how
      have N1G := hide hv1
      have N2G := hide hv2
      have HN1 := hide hn1
      have HN2 := hide hn2
      have hm1 := memTo_le (orbS f s) 0 k
      have hm2 := notTo_le (orbS f s) k
      rw [← HN1.out] at hm1
      rw [← HN2.out] at hm2
      clear hbe hrow how hv1 hv2 hn1 hn2
      by_cases hlt : k < m
      · have hltz : (k : Int) < m := by omega
        have hck := HO.out.cell (i := k) (by rw [orbS_length, HZ.out.sz.fl]; exact hlt)
        obtain ⟨x, hx⟩ : ∃ x, (orbS f s).getD k 0 = x := ⟨_, rfl⟩
        rw [hx] at hck
        have HX := hide hx
        clear hx
        by_cases he : x = 0
        · subst he
          have hst := memTo_hit (orbS f s) 0 k HX.out
          have hst2 := notTo_miss (orbS f s) k HX.out
          have HST := hide hst
          have HST2 := hide hst2
          clear hst hst2
          go_wp2_with (at_builtin; refine wpList_append_own_at _ rfl _ _ 37 rfl B0 2 i0 (.int .i64 0) 1 8 Try.underlying37 hi hz0 hz1 hz2 rfl (by decide) _ _ _ rfl (HRW.out.o1.alloc _) ⟨wr.heap.size, 0, none⟩ 1 1 [.int .i64 k] rfl rfl ?a1 ?a2 ?a3 ?a4 ?a5 ?_)
          case a1 => exact ne_new
          case a2 => intro u hu; simp at hu; subst hu; rfl
          case a3 => unfold maxLen; omega
          case a4 => omega
          case a5 => simp; omega
          intro v' w9 hown hgrow _ hat
          have HB9 := hide (grown_low HRW.out.o1 hgrow HB.out HBL.out HB.out.size)
          have hat2 : v'.ownBlock = u5.ownBlock ∨ v'.ownBlock = some (wr.alloc (.cells #[.int .i64 k] 2)).heap.size := by simpa using hat
          have HRW9 := hide (HRW.out.add1 (tmp := .cells #[.int .i64 k] 2) hown hgrow hat2)
          have HO9 := hide (dec_kept HO.out hgrow N1G.out)
          have N9 := hide (dec_ne HO.out.lt N1G.out hat2)
          have hsz9 : B0 ≤ w9.heap.size := by have h := hgrow.size; simp at h; omega
          clear hown hgrow hat hat2
          go_wp2_with fail
          go_roundw
          case rel => exact ⟨k + 1, n1 + 1, n2, by omega, by go_num, by rw [HST.out, List.length_append, HN1.out]; rfl, by rw [HST2.out]; exact HN2.out, HB9.out, by rw [HST.out, HST2.out]; exact HRW9.out, HO9.out, N9.out, N2G.out, hsz9⟩
          case measure => simp [intOf]; omega
        · have hbeq : ((x : Int) == 0) = false := by simpa using he
          have hst := memTo_miss (orbS f s) 0 k (by rw [HX.out]; exact he)
          have hst2 := notTo_hit (orbS f s) k (by rw [HX.out]; exact he)
          have HST := hide hst
          have HST2 := hide hst2
          clear hst hst2
          go_wp2_with (at_builtin; refine wpList_append_own_at _ rfl _ _ 37 rfl B0 2 i0 (.int .i64 0) 1 8 Try.underlying37 hi hz0 hz1 hz2 rfl (by decide) _ _ _ rfl (HRW.out.o2.alloc _) ⟨wr.heap.size, 0, none⟩ 1 1 [.int .i64 k] rfl rfl ?b1 ?b2 ?b3 ?b4 ?b5 ?_)
          case b1 => exact ne_new
          case b2 => intro u hu; simp at hu; subst hu; rfl
          case b3 => unfold maxLen; omega
          case b4 => omega
          case b5 => simp; omega
          intro v' w9 hown hgrow _ hat
          have HB9 := hide (grown_low HRW.out.o2 hgrow HB.out HBL.out HB.out.size)
          have hat2 : v'.ownBlock = u6.ownBlock ∨ v'.ownBlock = some (wr.alloc (.cells #[.int .i64 k] 2)).heap.size := by simpa using hat
          have HRW9 := hide (HRW.out.add2 (tmp := .cells #[.int .i64 k] 2) hown hgrow hat2)
          have HO9 := hide (dec_kept HO.out hgrow N2G.out)
          have N9 := hide (dec_ne HO.out.lt N2G.out hat2)
          have hsz9 : B0 ≤ w9.heap.size := by have h := hgrow.size; simp at h; omega
          clear hown hgrow hat hat2
          go_wp2_with fail
          go_roundw
          case rel => exact ⟨k + 1, n1, n2 + 1, by omega, by go_num, by rw [HST.out]; exact HN1.out, by rw [HST2.out, List.length_append, HN2.out]; rfl, HB9.out, by rw [HST.out, HST2.out]; exact HRW9.out, HO9.out, N1G.out, N9.out, hsz9⟩
          case measure => simp [intOf]; omega
      · have hkn : k = m := by omega
        subst hkn
        go_wp2_with fail
        go_ret3
        obtain ⟨A', c', B', d', e1, e2, hobj⟩ := HRW.out.objD
        refine ⟨A', c', B', d', by rw [← HN1.out, ← HN2.out, ← e1, ← e2]; rfl, HB.out, hobj.mono HBL.out (Nat.le_refl _)⟩
  · obtain rfl := hz.same hg.map
    obtain rfl : kz = 0 := by simpa using hk.symm
    obtain rfl : ky = 0 := by simpa using hy.symm
    have h1 := (hg.sizes hz.sz.fl).1
    have h12 := (hg.sizes hz.sz.fl).2.1
    have HG := hide hg
    have HOR := hide ho
    clear hg hz ho hk hy
    go_enter Try.func46, Try.ntmps46
    go_wp2_with fail
    refine (nd7I _ _ _ f _ _ _ s true _ (HZ.out.later HB0.out) (by simp [HG.out])).mono ?_
    rintro e w1 ⟨rfl, hb1⟩
    have HB1 := hide (HB0.out.trans (hb1.mono HB0.out.size))
    have HK1 := hide (HK0.out.later hb1)
    have k0 := HK1.out.cell 0 _ rfl
    have k1 := HK1.out.cell 1 _ rfl
    clear hb1
    go_wp2_with fail
    refine (indZ_any _ _ _ f _ _ s true _ (HZ.out.later HB1.out) HG.out (by simp [HOR.out])).mono ?_
    rintro e w2 ⟨rfl, hb2⟩
    have HB2 := hide (HB1.out.trans (hb2.mono HB1.out.size))
    have HK2 := hide (HK1.out.later hb2)
    clear hb2 k0 k1
    go_wp2_with fail
    go_ret3
    exact ⟨_, _, _, _, rfl, HB2.out, .nil _ _ _ _⟩
  · obtain rfl : kz = 0 := by simpa using hk.symm
    obtain rfl : ky = 0 := by simpa using hy.symm
    have HG := hide hg
    clear hg hz hk hy
    go_enter Try.func46, Try.ntmps46
    go_wp2_with fail
    refine (nd7I _ _ _ f _ _ _ s false _ (HZ.out.later HB0.out) (by simp [HG.out])).mono ?_
    rintro e w1 ⟨rfl, hb1⟩
    have HB1 := hide (HB0.out.trans (hb1.mono HB0.out.size))
    clear hb1
    go_wp2_with fail
    go_ret3
    exact ⟨_, _, _, _, rfl, HB1.out, .nil _ _ _ _⟩
set_option maxRecDepth 100000 in
theorem decS (A : Option Addr) (n c : Nat) (f : List (List Int)) (B : Option Addr) (m d : Nat) (s : List (List Int)) (xs ys : List Int) (code : Int) (kz ky : Nat) (w : World) (hz : ZArg 1048576 w A n f B m s) (hr : DecRes f s xs ys code) (hk : xs.length = kz) (hy : ys.length = ky) :
    Calls Try.prog 45 #[.agg #[.slice A n c, .slice B m d]] w (DPost 2 kz ky xs ys code w) := by
  have HZ := hide hz
  have HB0 := hide ((Below.refl _ w).alloc (Nat.le_refl _) (Obj.cells #[Value.slice A n c, Value.slice B m d] 28))
  have HK0 := hide (Blk.new w 28 [.slice A n c, .slice B m d])
  obtain ⟨i0, hi, hz0, hz1, hz2⟩ := info_parts dcInfo
  rcases hr with ⟨hg, ho, hxs, hys, rfl⟩ | ⟨hg, ho, rfl, rfl, rfl⟩ | ⟨hg, rfl, rfl, rfl⟩
  · obtain rfl := hz.same hg.map
    rw [hz.sz.fl] at hxs hys
    subst hxs
    subst hys
    subst hk
    subst hy
    have h1 := (hg.sizes hz.sz.fl).1
    have h12 := (hg.sizes hz.sz.fl).2.1
    have HG := hide hg
    have HOR := hide ho
    clear hg hz ho
    go_enter Try.func45, Try.ntmps45
    go_wp2_with fail
    refine (nd7S _ _ _ f _ _ _ s true _ (HZ.out.later HB0.out) (by simp [HG.out])).mono ?_
    rintro e w1 ⟨rfl, hb1⟩
    have HB1 := hide (HB0.out.trans (hb1.mono HB0.out.size))
    have HK1 := hide (HK0.out.later hb1)
    have k0 := HK1.out.cell 0 _ rfl
    have k1 := HK1.out.cell 1 _ rfl
    clear hb1
    go_wp2_with fail
    refine (orbS_any _ _ _ f _ _ s _ (HZ.out.later HB1.out) HG.out).mono ?_
    rintro e w2 ⟨A2, c2, rfl, hb2, hobj⟩
    have HB2 := hide (HB1.out.trans (hb2.mono HB1.out.size))
    have HO2 := hide hobj
    clear hb2 hobj k0 k1
    go_wp2_with fail
    refine (greatest_any _ _ _ (orbS f s) (orbN f s : Int) _ (by rw [orbS_length]; exact HZ.out.sz.fl) (by omega) HO2.out.rd (orb_12 HG.out HZ.out.sz.fl) (orb_great HG.out HZ.out.sz.fl)).mono ?_
    rintro e w3 ⟨rfl, hq3⟩
    have HB3 := hide (HB2.out.trans (hq3.below _))
    obtain ⟨q, hq⟩ : ∃ q, orbN f s = q := ⟨_, rfl⟩
    rw [hq]
    have hq1 : ¬ q = 1 := by rw [← hq]; exact HOR.out
    have hbq : ((q : Int) == 1) = false := by simpa using (by omega : ¬ (q : Int) = 1)
    have hres : ∃ g, A2 = some ⟨g, 0, none⟩ ∧ OwnB 2 w3 g (orbS f s) := by
      rcases HO2.out with ⟨_, h0⟩ | ⟨g, e1, _, e2⟩
      · have h2 := orbS_length f s
        rw [h0, HZ.out.sz.fl] at h2
        simp at h2
        omega
      · exact ⟨g, e1, e2.later (hq3.below w2.heap.size) e2.lt⟩
    obtain ⟨g, rfl, how⟩ := hres
    have hgl := how.lt
    have HOW0 := hide how
    clear hq3 hq how
    go_upto_region 7 with fail
    refine wp_gen fun w5 hw5 => ?_
    obtain ⟨B0, hB0⟩ : ∃ B0, w3.heap.size = B0 := ⟨_, rfl⟩
    have hb5 : Below w3.heap.size w3 w5 := by rw [hw5]; exact ((Below.refl _ _).alloc (Nat.le_refl _) _).alloc (by simp) _
    have HRS : Hid (Row2 2 B0 w5 (.slice (some ⟨B0, 0, none⟩) 0 0) (.slice (some ⟨B0 + 1, 0, none⟩) 0 0) 0 0 [] []) := hide (by rw [hw5, ← hB0]; exact row2_begin w3 _)
    have HBL := hide HB3.out.size
    have HSZ : Hid (B0 ≤ w5.heap.size) := hide (by rw [hw5, ← hB0]; simp; omega)
    rw [hB0] at HBL hgl ⊢
    have HB5 := hide (HB3.out.trans (hb5.mono HB3.out.size))
    have HOW := hide (HOW0.out.later hb5 HOW0.out.lt)
    have M1 : Hid ((Value.slice (some ⟨B0, 0, none⟩) 0 0).ownBlock ≠ some g) := hide (by simp [Value.ownBlock]; omega)
    have M2 : Hid ((Value.slice (some ⟨B0 + 1, 0, none⟩) 0 0).ownBlock ≠ some g) := hide (by simp [Value.ownBlock]; omega)
    obtain ⟨u1, hu1⟩ : ∃ u1, u1 = Value.slice (some ⟨B0, 0, none⟩) 0 0 := ⟨_, rfl⟩
    obtain ⟨u2, hu2⟩ : ∃ u2, u2 = Value.slice (some ⟨B0 + 1, 0, none⟩) 0 0 := ⟨_, rfl⟩
    rw [← hu1] at M1 HRS
    rw [← hu2] at M2 HRS
    clear hw5 hb5
    go_wp2_with fail
    have HST0 : Hid (∃ (k n1 n2 : Nat), k ≤ m ∧ (Value.int .i64 0) = .int .i64 (k : Int) ∧ n1 = (memTo (orbS f s) 0 k).length ∧ n2 = (notTo (orbS f s) k).length ∧ Below w.heap.size w w5 ∧ Row2 2 B0 w5 u1 u2 n1 n2 (memTo (orbS f s) 0 k) (notTo (orbS f s) k) ∧ OwnB 2 w5 g (orbS f s) ∧ u1.ownBlock ≠ some g ∧ u2.ownBlock ≠ some g ∧ B0 ≤ w5.heap.size) := hide ⟨0, 0, 0, Nat.zero_le _, rfl, rfl, rfl, HB5.out, HRS.out, HOW.out, M1.out, M2.out, HSZ.out⟩
    subst hu1
    subst hu2
    clear HB5 HRS HOW M1 M2 HSZ
    go_loopw [6, 7, 8] (fun v1 v2 i wr => ∃ (k n1 n2 : Nat), k ≤ m ∧ i = .int .i64 k ∧ n1 = (memTo (orbS f s) 0 k).length ∧ n2 = (notTo (orbS f s) k).length ∧ Below w.heap.size w wr ∧ Row2 2 B0 wr v1 v2 n1 n2 (memTo (orbS f s) 0 k) (notTo (orbS f s) k) ∧ OwnB 2 wr g (orbS f s) ∧ v1.ownBlock ≠ some g ∧ v2.ownBlock ≠ some g ∧ B0 ≤ wr.heap.size) (fun _ _ i _ => m - (intOf i).toNat)
    case atStart => exact HST0.out
    case round =>
      clear HST0
      obtain ⟨k, n1, n2, hk, rfl, hn1, hn2, hbe, hrow, how, hv1, hv2, hsz⟩ := hrel
      have HB := hide hbe
      have HRW := hide hrow
      have HO := hide how
      have N1G := hide hv1
      have N2G := hide hv2
      have HN1 := hide hn1
      have HN2 := hide hn2
      have hm1 := memTo_le (orbS f s) 0 k
      have hm2 := notTo_le (orbS f s) k
      rw [← HN1.out] at hm1
      rw [← HN2.out] at hm2
      clear hbe hrow how hv1 hv2 hn1 hn2
      by_cases hlt : k < m
      · have hltz : (k : Int) < m := by omega
        have hck := HO.out.cell (i := k) (by rw [orbS_length, HZ.out.sz.fl]; exact hlt)
        obtain ⟨x, hx⟩ : ∃ x, (orbS f s).getD k 0 = x := ⟨_, rfl⟩
        rw [hx] at hck
        have HX := hide hx
        clear hx
        by_cases he : x = 0
        · subst he
          have hst := memTo_hit (orbS f s) 0 k HX.out
          have hst2 := notTo_miss (orbS f s) k HX.out
          have HST := hide hst
          have HST2 := hide hst2
          clear hst hst2
          go_wp2_with (at_builtin; refine wpList_append_own_at _ rfl _ _ 37 rfl B0 2 i0 (.int .i64 0) 1 8 Try.underlying37 hi hz0 hz1 hz2 rfl (by decide) _ _ _ rfl (HRW.out.o1.alloc _) ⟨wr.heap.size, 0, none⟩ 1 1 [.int .i64 k] rfl rfl ?a1 ?a2 ?a3 ?a4 ?a5 ?_)
          case a1 => exact ne_new
          case a2 => intro u hu; simp at hu; subst hu; rfl
          case a3 => unfold maxLen; omega
          case a4 => omega
          case a5 => simp; omega
          intro v' w9 hown hgrow _ hat
          have HB9 := hide (grown_low HRW.out.o1 hgrow HB.out HBL.out HB.out.size)
          have hat2 : v'.ownBlock = u6.ownBlock ∨ v'.ownBlock = some (wr.alloc (.cells #[.int .i64 k] 2)).heap.size := by simpa using hat
          have HRW9 := hide (HRW.out.add1 (tmp := .cells #[.int .i64 k] 2) hown hgrow hat2)
          have HO9 := hide (dec_kept HO.out hgrow N1G.out)
          have N9 := hide (dec_ne HO.out.lt N1G.out hat2)
          have hsz9 : B0 ≤ w9.heap.size := by have h := hgrow.size; simp at h; omega
          clear hown hgrow hat hat2
          go_wp2_with fail
          go_roundw
          case rel => exact ⟨k + 1, n1 + 1, n2, by omega, by go_num, by rw [HST.out, List.length_append, HN1.out]; rfl, by rw [HST2.out]; exact HN2.out, HB9.out, by rw [HST.out, HST2.out]; exact HRW9.out, HO9.out, N9.out, N2G.out, hsz9⟩
          case measure => simp [intOf]; omega
        · have hbeq : ((x : Int) == 0) = false := by simpa using he
          have hst := memTo_miss (orbS f s) 0 k (by rw [HX.out]; exact he)
          have hst2 := notTo_hit (orbS f s) k (by rw [HX.out]; exact he)
          have HST := hide hst
          have HST2 := hide hst2
          clear hst hst2
          go_wp2_with (at_builtin; refine wpList_append_own_at _ rfl _ _ 37 rfl B0 2 i0 (.int .i64 0) 1 8 Try.underlying37 hi hz0 hz1 hz2 rfl (by decide) _ _ _ rfl (HRW.out.o2.alloc _) ⟨wr.heap.size, 0, none⟩ 1 1 [.int .i64 k] rfl rfl ?b1 ?b2 ?b3 ?b4 ?b5 ?_)
          case b1 => exact ne_new
          case b2 => intro u hu; simp at hu; subst hu; rfl
          case b3 => unfold maxLen; omega
          case b4 => omega
          case b5 => simp; omega
          intro v' w9 hown hgrow _ hat
          have HB9 := hide (grown_low HRW.out.o2 hgrow HB.out HBL.out HB.out.size)
          have hat2 : v'.ownBlock = u7.ownBlock ∨ v'.ownBlock = some (wr.alloc (.cells #[.int .i64 k] 2)).heap.size := by simpa using hat
          have HRW9 := hide (HRW.out.add2 (tmp := .cells #[.int .i64 k] 2) hown hgrow hat2)
          have HO9 := hide (dec_kept HO.out hgrow N2G.out)
          have N9 := hide (dec_ne HO.out.lt N2G.out hat2)
          have hsz9 : B0 ≤ w9.heap.size := by have h := hgrow.size; simp at h; omega
          clear hown hgrow hat hat2
          go_wp2_with fail
          go_roundw
          case rel => exact ⟨k + 1, n1, n2 + 1, by omega, by go_num, by rw [HST.out]; exact HN1.out, by rw [HST2.out, List.length_append, HN2.out]; rfl, HB9.out, by rw [HST.out, HST2.out]; exact HRW9.out, HO9.out, N1G.out, N9.out, hsz9⟩
          case measure => simp [intOf]; omega
      · have hkn : k = m := by omega
        subst hkn
        go_wp2_with fail
        go_ret3
        obtain ⟨A', c', B', d', e1, e2, hobj⟩ := HRW.out.objD
        refine ⟨A', c', B', d', by rw [← HN1.out, ← HN2.out, ← e1, ← e2]; rfl, HB.out, hobj.mono HBL.out (Nat.le_refl _)⟩
  · obtain rfl := hz.same hg.map
    obtain rfl : kz = 0 := by simpa using hk.symm
    obtain rfl : ky = 0 := by simpa using hy.symm
    have h1 := (hg.sizes hz.sz.fl).1
    have h12 := (hg.sizes hz.sz.fl).2.1
    have HG := hide hg
    have HOR := hide ho
    clear hg hz ho hk hy
    go_enter Try.func45, Try.ntmps45
    go_wp2_with fail
    refine (nd7S _ _ _ f _ _ _ s true _ (HZ.out.later HB0.out) (by simp [HG.out])).mono ?_
    rintro e w1 ⟨rfl, hb1⟩
    have HB1 := hide (HB0.out.trans (hb1.mono HB0.out.size))
    have HK1 := hide (HK0.out.later hb1)
    have k0 := HK1.out.cell 0 _ rfl
    have k1 := HK1.out.cell 1 _ rfl
    clear hb1
    go_wp2_with fail
    refine (orbS_any _ _ _ f _ _ s _ (HZ.out.later HB1.out) HG.out).mono ?_
    rintro e w2 ⟨A2, c2, rfl, hb2, hobj⟩
    have HB2 := hide (HB1.out.trans (hb2.mono HB1.out.size))
    have HO2 := hide hobj
    clear hb2 hobj k0 k1
    go_wp2_with fail
    refine (greatest_any _ _ _ (orbS f s) (orbN f s : Int) _ (by rw [orbS_length]; exact HZ.out.sz.fl) (by omega) HO2.out.rd (orb_12 HG.out HZ.out.sz.fl) (orb_great HG.out HZ.out.sz.fl)).mono ?_
    rintro e w3 ⟨rfl, hq3⟩
    have HB3 := hide (HB2.out.trans (hq3.below _))
    obtain ⟨q, hq⟩ : ∃ q, orbN f s = q := ⟨_, rfl⟩
    rw [hq]
    have hq1 : q = 1 := by rw [← hq]; exact HOR.out
    subst hq1
    clear hq3
    go_wp2_with fail
    go_ret3
    exact ⟨_, _, _, _, rfl, HB3.out, .nil _ _ _ _⟩
  · obtain rfl : kz = 0 := by simpa using hk.symm
    obtain rfl : ky = 0 := by simpa using hy.symm
    have HG := hide hg
    clear hg hz hk hy
    go_enter Try.func45, Try.ntmps45
    go_wp2_with fail
    refine (nd7S _ _ _ f _ _ _ s false _ (HZ.out.later HB0.out) (by simp [HG.out])).mono ?_
    rintro e w1 ⟨rfl, hb1⟩
    have HB1 := hide (HB0.out.trans (hb1.mono HB0.out.size))
    clear hb1
    go_wp2_with fail
    go_ret3
    exact ⟨_, _, _, _, rfl, HB1.out, .nil _ _ _ _⟩
end Go.Proofs.Ytaejgmdeiemhcaa
