import Derived.Test.YtbhlcfcmjildmaaGt
import Derived.Test.YtbhlcfcmjildmaaGp
import Derived.Test.YtbhlcfcmjildmaaGr
import Derived.Test.YtbhlcfcmjildmaaGh
import Derived.Test.YtbhlcfcmjildmaaGg
import Derived.Test.YtbhlcfcmjildmaaGl
import Derived.Test.YtbhlcfcmjildmaaGe
namespace Go.Proofs.Ytbhlcfcmjildmaa
open Go Go.RowKit Go.Shelf
open Classical
attribute [local go_sem] Oper.semAt_some
set_option maxHeartbeats 4000000
set_option maxRecDepth 100000 in
theorem gwBad (A : Option Addr) (n c : Nat) (f : List (List Int)) (B : Option Addr) (k d : Nat) (s : List (List Int)) (code : Int) (w : World) (hz : ZArg 1048576 w A n f B k s) (hres : (¬ SolF f s ∧ code = 1) ∨ (SolF f s ∧ ¬ (NonF f s ∧ InvF f s) ∧ code = 5) ∨ (SolF f s ∧ (NonF f s ∧ InvF f s) ∧ 5 < f.length ∧ code = 3)) :
    Calls Try.prog 10 #[.agg #[.slice A n c, .slice B k d]] w fun e w' => e = .returned (.tuple #[.slice none 0 0, .int .i64 code]) ∧ Below w.heap.size w w' := by
  have HZ := hide hz
  have HB0 := hide ((Below.refl _ w).alloc (Nat.le_refl _) (Obj.cells #[Value.slice A n c, Value.slice B k d] 29))
  have HK0 := hide (Blk.new w 29 [.slice A n c, .slice B k d])
  obtain ⟨r, hr⟩ : ∃ r : Bool, r = true ↔ SolF f s := bool_of _
  have HR := hide hr
  have HRES := hide hres
  clear hz hr hres
  go_enter Try.func10, Try.ntmps10
  have k0 := HK0.out.cell 0 _ rfl
  have k1 := HK0.out.cell 1 _ rfl
  go_wp2_with fail
  clear k0 k1
  refine (isI_any _ _ _ f _ _ _ s r _ (HZ.out.later HB0.out) HR.out).mono ?_
  rintro e w1 ⟨rfl, hb1⟩
  have HB1 := hide (HB0.out.trans (hb1.mono HB0.out.size))
  have HK1 := hide (HK0.out.later hb1)
  clear hb1
  cases r with
  | false =>
    have hns : ¬ SolF f s := fun h => by have := HR.out.2 h; cases this
    obtain rfl : code = 1 := by
      rcases HRES.out with ⟨_, h⟩ | ⟨h, _⟩ | ⟨h, _⟩
      · exact h
      · exact absurd h hns
      · exact absurd h hns
    clear hns
    go_wp2_with fail
    go_ret2
    exact ⟨rfl, HB1.out⟩
  | true =>
    have hs := HR.out.1 rfl
    obtain rfl := (HZ.out.same hs.1).symm
    have hn := HZ.out.sz.fl
    have HS := hide hs
    have HN := hide hn
    have h12 := HZ.out.small hs.1
    clear hs hn
    obtain ⟨r1, hr1⟩ : ∃ r1 : Bool, r1 = true ↔ NonF f s := bool_of _
    obtain ⟨r3, hr3⟩ : ∃ r3 : Bool, r3 = true ↔ InvF f s := bool_of _
    have HR1 := hide hr1
    have HR3 := hide hr3
    have BAD : Hid (¬ (NonF f s ∧ InvF f s) → code = 5) := hide (fun hno => by
      rcases HRES.out with ⟨h, _⟩ | ⟨_, _, h⟩ | ⟨_, h, _⟩
      · exact absurd HS.out h
      · exact h
      · exact absurd h hno)
    have BIG : Hid (NonF f s ∧ InvF f s → 5 < n ∧ code = 3) := hide (fun hyes => by
      rcases HRES.out with ⟨h, _⟩ | ⟨_, h, _⟩ | ⟨_, _, h1, h⟩
      · exact absurd HS.out h
      · exact absurd hyes h
      · exact ⟨by rw [HN.out] at h1; exact h1, h⟩)
    clear hr1 hr3
    have k0 := HK1.out.cell 0 _ rfl
    have k1 := HK1.out.cell 1 _ rfl
    go_wp2_with fail
    clear k0 k1
    refine (nonZ_any _ _ _ f _ _ s r1 _ (HZ.out.later HB1.out) HS.out.1 HR1.out).mono ?_
    rintro e w2 ⟨rfl, hb2⟩
    have HB2 := hide (HB1.out.trans (hb2.mono HB1.out.size))
    have HK2 := hide (HK1.out.later hb2)
    clear hb2
    have k0 := HK2.out.cell 0 _ rfl
    have k1 := HK2.out.cell 1 _ rfl
    cases r1 with
    | false =>
      obtain rfl := BAD.out (fun h => by have h2 := HR1.out.2 h.1; cases h2)
      clear HR1
      go_wp2_with fail
      go_ret2
      exact ⟨rfl, HB2.out⟩
    | true =>
      have HND := hide (HR1.out.1 rfl)
      clear HR1
      go_wp2_with fail
      clear k0 k1
      refine (invZ_any _ _ _ f _ _ s r3 _ (HZ.out.later HB2.out) HS.out.1 HR3.out).mono ?_
      rintro e w3 ⟨rfl, hb3⟩
      have HB3 := hide (HB2.out.trans (hb3.mono HB2.out.size))
      have HK3 := hide (HK2.out.later hb3)
      clear hb3
      have k0 := HK3.out.cell 0 _ rfl
      have k1 := HK3.out.cell 1 _ rfl
      cases r3 with
      | false =>
        obtain rfl := BAD.out (fun h => by have h2 := HR3.out.2 h.2; cases h2)
        clear HR3
        go_wp2_with fail
        go_ret2
        exact ⟨rfl, HB3.out⟩
      | true =>
        obtain ⟨h5, rfl⟩ := BIG.out ⟨HND.out, HR3.out.1 rfl⟩
        have h5z : (5 : Int) < n := by omega
        clear HR3 BAD BIG
        go_wp2_with fail
        clear k0 k1
        refine (size_any A n c B n d _ HZ.out.sz.nb).mono ?_
        rintro e w4 ⟨rfl, hb4⟩
        have HB4 := hide (HB3.out.trans (hb4.mono HB3.out.size))
        clear hb4
        go_wp2_with fail
        go_ret2
        exact ⟨rfl, HB4.out.alloc (by have := HB4.out.size; omega) _⟩
set_option maxRecDepth 100000 in
theorem gwGood (A : Option Addr) (n c : Nat) (f : List (List Int)) (B : Option Addr) (d : Nat) (s : List (List Int)) (w : World) (hz : ZArg 1048576 w A n f B n s) (hs : SolF f s) (hno : NonF f s) (hin : InvF f s) (h5 : n ≤ 5) :
    Calls Try.prog 10 #[.agg #[.slice A n c, .slice B n d]] w (RPost 2 (gaL (leH f) (leH s) n (nws (leH f) (leH s) (wds n n)) (nws (leH f) (leH s) (wds n n)).length).length (gaL (leH f) (leH s) n (nws (leH f) (leH s) (wds n n)) (nws (leH f) (leH s) (wds n n)).length) 0 w) := by
  have HZ := hide hz
  have h12 := hz.small hs.1
  have HPB := hide (hs.pb hz.sz.fl)
  have HS := hide hs
  have HNO := hide hno
  have HIV := hide hin
  have HB0 := hide ((Below.refl _ w).alloc (Nat.le_refl _) (Obj.cells #[Value.slice A n c, Value.slice B n d] 29))
  have HK0 := hide (Blk.new w 29 [.slice A n c, .slice B n d])
  have hp5 : n ^ n ≤ 5000 := by
    have : n = 0 ∨ n = 1 ∨ n = 2 ∨ n = 3 ∨ n = 4 ∨ n = 5 := by omega
    rcases this with h | h | h | h | h | h <;> subst h <;> decide
  obtain ⟨Z, hZ⟩ : ∃ Z, nws (leH f) (leH s) (wds n n) = Z := ⟨_, rfl⟩
  have HZE := hide hZ
  obtain ⟨M, hM⟩ : ∃ M, Z.length = M := ⟨_, rfl⟩
  have HM := hide hM
  rw [hZ, hM]
  clear hz hs hno hin hZ hM
  refine (callsIn_wide (n := 6)).1 ?_
  refine callsIn_of_wp_marks Try.func10 rfl trivial ?_ rfl
  simp only [Try.ntmps10, List.size_toArray, List.length_cons, List.length_nil, Nat.reduceAdd, Nat.reduceSub, Array.replicate_succ, Array.replicate_zero, List.push_toArray, List.append_toArray, List.nil_append, List.cons_append]
  refine wpIn_wide.2 ?_
  have k0 := HK0.out.cell 0 _ rfl
  have k1 := HK0.out.cell 1 _ rfl
  go_wp2_with fail
  clear k0 k1
  refine (isI_any _ _ _ f _ _ _ s true _ (HZ.out.later HB0.out) ⟨fun _ => HS.out, fun _ => rfl⟩).mono ?_
  rintro e w1 ⟨rfl, hb1⟩
  have HB1 := hide (HB0.out.trans (hb1.mono HB0.out.size))
  have HK1 := hide (HK0.out.later hb1)
  clear hb1
  have k0 := HK1.out.cell 0 _ rfl
  have k1 := HK1.out.cell 1 _ rfl
  go_wp2_with fail
  clear k0 k1
  refine (nonZ_any _ _ _ f _ _ s true _ (HZ.out.later HB1.out) HS.out.1 ⟨fun _ => HNO.out, fun _ => rfl⟩).mono ?_
  rintro e w2 ⟨rfl, hb2⟩
  have HB2 := hide (HB1.out.trans (hb2.mono HB1.out.size))
  have HK2 := hide (HK1.out.later hb2)
  clear hb2
  have k0 := HK2.out.cell 0 _ rfl
  have k1 := HK2.out.cell 1 _ rfl
  go_wp2_with fail
  clear k0 k1
  refine (invZ_any _ _ _ f _ _ s true _ (HZ.out.later HB2.out) HS.out.1 ⟨fun _ => HIV.out, fun _ => rfl⟩).mono ?_
  rintro e w3 ⟨rfl, hb3⟩
  have HB3 := hide (HB2.out.trans (hb3.mono HB2.out.size))
  have HK3 := hide (HK2.out.later hb3)
  clear hb3
  have h5z : ¬ (5 : Int) < (n : Int) := by omega
  have k0 := HK3.out.cell 0 _ rfl
  have k1 := HK3.out.cell 1 _ rfl
  go_wp2_with fail
  clear k0 k1
  refine (size_any A n c B n d _ HZ.out.sz.nb).mono ?_
  rintro e w4 ⟨rfl, hb4⟩
  have HB4 := hide (HB3.out.trans (hb4.mono HB3.out.size))
  have HK4 := hide (HK3.out.later hb4)
  clear hb4
  obtain ⟨nb, hnb⟩ : ∃ q, w4.heap.size = q := ⟨_, rfl⟩
  have hwn : w.heap.size < nb := by have h := HK4.out.lt; omega
  go_wp2_with fail
  refine calls_gen fun w5 hw5 => ?_
  have hb5 : Below w4.heap.size w4 w5 := by rw [hw5]; exact (Below.refl _ _).alloc (Nat.le_refl _) _
  have HB5 := hide (HB4.out.trans (hb5.mono HB4.out.size))
  have HK5 := hide (HK4.out.later hb5)
  have HN5 : Hid (Blk w5 nb 2 [.int .i64 n]) := hide (by rw [hw5, ← hnb]; exact Blk.new w4 2 [.int .i64 n])
  clear hw5 hb5
  clear hnb
  refine (tuples_any n n _ h12.1 h12.2 (by omega)).mono ?_
  rintro e w6 (⟨_, v6, rfl, hb6, ht6⟩ | ⟨hp, _⟩)
  case inr => omega
  have HB6 := hide (HB5.out.trans (hb6.mono HB5.out.size))
  have HK6 := hide (HK5.out.later hb6)
  have HN6 := hide (HN5.out.later hb6)
  have hlen : ∀ t, t ∈ wds n n → t.length ≤ 12 := fun t ht => by rw [((wds_mem n t).1 ht).1]; omega
  have hpos : 0 < n ^ n := Nat.pow_pos h12.1
  obtain ⟨g, cg, hv, _, _, hgB, hgl, _⟩ := ht6.at hlen (i := 0) (by rw [wds_len]; exact hpos)
  rw [wds_len] at hv
  subst hv
  obtain ⟨N, hN⟩ : ∃ N, n ^ n = N := ⟨_, rfl⟩
  have HNN := hide hN
  have HT := hide ht6
  have hnl5 : nb < w5.heap.size := HN5.out.lt
  have hgn : nb < g := by have h2 : w5.heap.size ≤ g := hgB; omega
  rw [hN] at hp5 HT ⊢
  clear hb6 ht6 hlen hpos hN hgB
  have k0 := fun o => (HK6.out.alloc o).cell 0 _ rfl
  have k1 := fun o => (HK6.out.alloc o).cell 1 _ rfl
  have n0 := fun o => (HN6.out.alloc o).cell 0 _ rfl
  have hn6 : nb < w6.heap.size := HN6.out.lt
  obtain ⟨W0, hW0⟩ : ∃ q, w6.heap.size = q := ⟨_, rfl⟩
  have HW0 := hide hW0
  clear hW0
  go_wp2_with fail
  clear k0 k1 n0
  refine calls_gen fun w7 hw7 => ?_
  have hb7 : Below w6.heap.size w6 w7 := by rw [hw7]; exact (Below.refl _ _).alloc (Nat.le_refl _) _
  have HB7 := hide (HB6.out.trans (hb7.mono HB6.out.size))
  have HT7 := hide (HT.out.later hb7)
  have HK7 := hide (HK6.out.later hb7)
  have HN7 := hide (HN6.out.later hb7)
  have HS7 : Hid (w7.heap.size = W0 + 1) := hide (by rw [hw7]; simp [HW0.out])
  have HX7 : Hid (Blk w7 W0 26 [.slice none 0 0]) := hide (by rw [hw7, ← HW0.out]; exact Blk.new w6 26 [.slice none 0 0])
  clear hw7 hb7
  rw [HW0.out] at hgl hn6 ⊢
  refine (orbC_any A B (some ⟨g, 0, none⟩) n c n d N cg n _).mono ?_
  rintro e w8 ⟨rfl, hw8⟩
  have hs7 : w7.heap.size = W0 + 1 := HS7.out
  have hb8 : Below w7.heap.size w7 w8 := by rw [hw8]; exact (((Below.refl _ _).alloc (Nat.le_refl _) _).alloc (by simp) _).alloc (by simp; omega) _
  have HB8 := hide (HB7.out.trans (hb8.mono HB7.out.size))
  have HT8 := hide (HT7.out.later hb8)
  have HK8 := hide (HK7.out.later hb8)
  have HN8 := hide (HN7.out.later hb8)
  have HX8 := hide (HX7.out.later hb8)
  have HS8 : Hid (w8.heap.size = W0 + 4) := hide (by rw [hw8]; simp [hs7])
  have HP1 : Hid (Blk w8 (W0 + 1) 29 [.slice A n c, .slice B n d]) := hide (by
    rw [hw8]
    have h := Blk.new w7 29 [.slice A n c, .slice B n d]
    rw [hs7] at h
    exact (h.alloc _).alloc _)
  have HP2 : Hid (Blk w8 (W0 + 2) 54 [.slice (some ⟨g, 0, none⟩) N cg]) := hide (by
    rw [hw8]
    have h := Blk.new (w7.alloc (.cells #[.slice A n c, .slice B n d] 29)) 54 [.slice (some ⟨g, 0, none⟩) N cg]
    rw [World.size_alloc, hs7] at h
    exact h.alloc _)
  have HP3 : Hid (Blk w8 (W0 + 3) 3 [.int .i64 n]) := hide (by
    rw [hw8]
    have h := Blk.new ((w7.alloc (.cells #[.slice A n c, .slice B n d] 29)).alloc (.cells #[.slice (some ⟨g, 0, none⟩) N cg] 54)) 3 [.int .i64 n]
    simpa [hs7] using h)
  clear hw8 hb8
  rw [hs7]
  clear hs7
  have e3 : W0 + 1 + 1 = W0 + 2 := rfl
  have e4 : W0 + 1 + 2 = W0 + 3 := rfl
  rw [e3, e4]
  clear e3 e4
  go_wp2_with fail
  have hs8 : w8.heap.size = W0 + 4 := HS8.out
  have hPBo := HPB.out
  have hfr : frs (leH f) (leH s) (wds n n) = nws (leH f) (leH s) (wds n n) := frs_all hPBo (by omega)
  have hZ := HZE.out
  have hM := HM.out
  have hnl : Z.length ≤ 5000 := by have h := nws_len (h1 := leH f) (h2 := leH s) (wds n n); rw [wds_len, HNN.out, hZ] at h; omega
  have HZN : Hid (∀ i, i < Z.length → (Z.getD i []) ∈ wds n n) := hide (fun i hi => by
    have h := tgetD_mem Z i [] hi
    rw [← hZ] at h ⊢
    exact ((nws_mem _ _).1 h).1)
  rw [hZ] at hfr
  have HFR := hide hfr
  rw [hM] at hnl
  have hfm : (frs (leH f) (leH s) (wds n n)).length = M := by rw [hfr, hM]
  have h0 : ∀ L, w8.heap.size + 2 ≤ L → GwJ w W0 w.heap.size nb n [.slice A n c, .slice B n d] [] L (fun b => b < w.heap.size ∨ b = W0 + 1 ∨ b = W0 + 2 ∨ b = W0 + 3 ∨ b = g) w8 := fun L hL =>
    ⟨HB8.out, ⟨none, 0, 0, HX8.out, rfl, .inl ⟨rfl, rfl⟩, fun g hg => by cases hg⟩, HK8.out, HN8.out, fun h => by rcases h with h | h | h | h | h <;> omega, by omega, by omega, by omega⟩
  have hor := orbI_any A n c f B d s n N g cg (W0 + 2) (W0 + 1) (W0 + 3) _ (wds n n) (fun b => b < w.heap.size ∨ b = W0 + 1 ∨ b = W0 + 2 ∨ b = W0 + 3 ∨ b = g) w w8 HZ.out HS.out (by omega) (by rw [wds_len, HNN.out]) hp5 (fun t ht => ((wds_mem n t).1 ht).1) (fun t ht => wds_tup (by omega) ht) (fun t ht y hy => hy.wds hPBo (by omega) ht) HB8.out (fun b hb => .inl hb) (fun b hb => by rcases hb with h | h | h | h | h <;> omega) (.inr (.inr (.inl rfl))) (.inr (.inl rfl)) (.inr (.inr (.inr (.inl rfl)))) (.inr (.inr (.inr (.inr rfl)))) HP2.out HP1.out HP3.out HT8.out 5
  rw [hfm] at hor
  have HNL := hide hnl
  clear hfr hfm hM hPBo hZ
  generalize decide ((5 : Int) < (n : Int)) = b24
  refine (wpIn_wide (n := 5)).1 ?_
  refine wpIn_iterN (gf := 69) (lb := #[.pointer (some ⟨W0 + 2, 0, none⟩), .pointer (some ⟨W0 + 1, 0, none⟩), .pointer (some ⟨W0 + 3, 0, none⟩)]) rfl (enters_of Try.func69 (by kernel_rfl) rfl) (N := M) (T := OrbT f s (wds n n)) (U0 := fun b => b < w.heap.size ∨ b = W0 + 1 ∨ b = W0 + 2 ∨ b = W0 + 3 ∨ b = g) hor
    (fun k L v U W h => by obtain ⟨bm, C, rfl, _⟩ := h; rfl) (fun k L v U W W' h hk => h.keep hk) (fun b hb => by rcases hb with h | h | h | h | h <;> omega)
    (fun k L U W => GwJ w W0 w.heap.size nb n [.slice A n c, .slice B n d] (gaL (leH f) (leH s) n Z k) L U W) (fun _ _ _ _ _ => False)
    (fun k L U U' W W' hL h hs hu => h.step (by omega) hs hu) (fun k L U W b o o' hb _ _ ho hc h => h.put o' (by omega) ho hc) (fun _ _ _ _ _ _ _ _ _ _ _ _ h => h)
    (fun L hL => h0 L (by omega))
    (fun k v a' W => ∃ (p0 p1 p2 p3 p4 p5 p6 p7 p8 p9 p10 p11 : Int) (R bm : Nat), v = #[.agg #[.int .i64 p0, .int .i64 p1, .int .i64 p2, .int .i64 p3, .int .i64 p4, .int .i64 p5, .int .i64 p6, .int .i64 p7, .int .i64 p8, .int .i64 p9, .int .i64 p10, .int .i64 p11], .map (some bm)] ∧ pad12 (Z.getD k []) = [p0, p1, p2, p3, p4, p5, p6, p7, p8, p9, p10, p11] ∧ w8.heap.size + 2 ≤ R ∧ Blk W R 61 [.int .i64 p0, .int .i64 p1, .int .i64 p2, .int .i64 p3, .int .i64 p4, .int .i64 p5, .int .i64 p6, .int .i64 p7, .int .i64 p8, .int .i64 p9, .int .i64 p10, .int .i64 p11] ∧ a' = { tmps := #[.agg #[.slice A n c, .slice B n d], .pointer (some ⟨w.heap.size, 0, none⟩), .slice none 0 0, .int .i64 0, .pointer (some ⟨nb, 0, none⟩), .slice (some ⟨g, 0, none⟩) N cg, .bool true, .pointer (some ⟨W0, 0, none⟩), .pointer (some ⟨R, 0, none⟩), .map (some bm), .agg #[.slice A n c, .slice B n d], .bool true, .bool false, .agg #[.slice A n c, .slice B n d], .bool true, .bool false, .bool false, .agg #[.slice A n c, .slice B n d], .bool true, .bool false, .bool false, .agg #[.slice A n c, .slice B n d], .int .i64 n, .int .i64 n, .bool b24, .tuple #[.slice (some ⟨g, 0, none⟩) N cg, .bool true], .int .i64 n, .int .i64 n, .tuple #[.slice (some ⟨g, 0, none⟩) N cg, .bool true], .slice (some ⟨g, 0, none⟩) N cg, .bool true, .agg #[.slice A n c, .slice B n d], .slice (some ⟨g, 0, none⟩) N cg, .int .i64 n, .func (.func 69) #[] #[.pointer (some ⟨W0 + 2, 0, none⟩), .pointer (some ⟨W0 + 1, 0, none⟩), .pointer (some ⟨W0 + 3, 0, none⟩)], .agg #[.int .i64 p0, .int .i64 p1, .int .i64 p2, .int .i64 p3, .int .i64 p4, .int .i64 p5, .int .i64 p6, .int .i64 p7, .int .i64 p8, .int .i64 p9, .int .i64 p10, .int .i64 p11], .map (some bm), undef, undef, undef, undef, undef, undef, undef], defers := [] })
    (fun k v a' W b o o' hb ho hc h => ?hap) ?assign ?body ?done ?stop
  case hap =>
    obtain ⟨p0, p1, p2, p3, p4, p5, p6, p7, p8, p9, p10, p11, R, bm, e0, e1, e2, e3, e4⟩ := h
    refine ⟨p0, p1, p2, p3, p4, p5, p6, p7, p8, p9, p10, p11, R, bm, e0, e1, e2, (World.putObj_heap_other (fun e => ?_)).trans e3, e4⟩
    subst e
    rw [show W.heap[R]? = _ from e3] at ho
    injection ho with ho
    subst ho
    cases hc
  case assign =>
    intro l k L v U W K' hT hsz hK
    obtain ⟨bm, C, rfl, hUb, hCls, hMet, hLW, hUW⟩ := hT
    have hlf : ((frs (leH f) (leH s) (wds n n)).getD k []).length ≤ 12 := by
      rw [HFR.out]
      by_cases h : k < Z.length
      · have h2 := ((wds_mem n _).1 (HZN.out k h)).1; omega
      · simp [List.getD_eq_getElem?_getD, List.getElem?_eq_none (Nat.le_of_not_lt h)]
    have hpp := pad12_length hlf
    obtain ⟨pp, hppe⟩ : ∃ pp, pad12 ((frs (leH f) (leH s) (wds n n)).getD k []) = pp := ⟨_, rfl⟩
    rw [hppe] at hpp
    obtain ⟨p0, p1, p2, p3, p4, p5, p6, p7, p8, p9, p10, p11, rfl⟩ := list12 hpp
    have hkp : tkey ((frs (leH f) (leH s) (wds n n)).getD k []) = .agg #[.int .i64 p0, .int .i64 p1, .int .i64 p2, .int .i64 p3, .int .i64 p4, .int .i64 p5, .int .i64 p6, .int .i64 p7, .int .i64 p8, .int .i64 p9, .int .i64 p10, .int .i64 p11] := by unfold tkey; rw [hppe]; rfl
    rw [hkp]
    rw [HFR.out] at hppe
    gi_wp2
    exact hK _ _ ((Below.refl _ _).alloc (Nat.le_refl _) _) ⟨p0, p1, p2, p3, p4, p5, p6, p7, p8, p9, p10, p11, W.heap.size, bm, by rw [hkp], hppe, hsz, Blk.new _ _ _, rfl⟩
  case body =>
    rintro l k L v U a' W hk hL hUU hI hT ⟨p0, p1, p2, p3, p4, p5, p6, p7, p8, p9, p10, p11, R, bm, hv, hpad, hR, hbR, rfl⟩ hsz
    obtain ⟨bm2, C, hv2, hUb, hCls, hMet, hLW, hUW⟩ := hT
    obtain rfl : bm2 = bm := by
      have h := congrArg (fun x => x.getD 1 undef) (hv2.symm.trans hv)
      simpa using h
    rw [HFR.out] at hCls
    have hkM : k < Z.length := by rw [HM.out]; exact hk
    have htw := HZN.out k hkM
    obtain ⟨t, ht⟩ : ∃ t, Z.getD k [] = t := ⟨_, rfl⟩
    have HGA : Hid (gaL (leH f) (leH s) n Z (k + 1) = if Full (leH f) (leH s) n t then t else gaL (leH f) (leH s) n Z k) := hide (by rw [← ht]; rfl)
    rw [ht] at hCls htw hpad
    have htl : t.length = n := ((wds_mem n t).1 htw).1
    have hPBo := HPB.out
    have HCW : Hid (∀ p, p ∈ C → p ∈ wds n n) := hide (fun p hp => Tch.wds hPBo (by omega) htw ((hCls.2 p).1 hp))
    have hC5 : C.length ≤ 5000 := by
      have h := tnodup_le hCls.1 HCW.out
      rw [wds_len, HNN.out] at h
      omega
    have hC0 : 0 < C.length := List.length_pos_of_mem ((hCls.2 t).2 .refl)
    have HRT : Hid (Rd W (some ⟨R, 0, none⟩) t) := hide (fun _ => ⟨R, 0, rfl, hbR.lt, fun i hi => by
      have h1 := Blk.cell (w := W) hbR i ((.int .i64 ((pad12 t).getD i 0)) : Value) (by
        rw [hpad]
        have hi12 : i < 12 := by omega
        rcases i with _ | _ | _ | _ | _ | _ | _ | _ | _ | _ | _ | _ | i
        all_goals first | rfl | omega)
      rw [Nat.zero_add, h1, pad12_at hi]⟩)
    obtain ⟨r0, hr0⟩ : ∃ r0 : Bool, r0 = true ↔ Full (leH f) (leH s) n t := bool_of _
    have HR0 := hide hr0
    have HCLS := hide hCls
    have HMET := hide hMet
    have HI := hide hI
    have HLW := hide hLW
    have HTL := hide htl
    have HBR := hide hbR
    have k0 := hI.ss.cell 0 _ rfl
    have k1 := hI.ss.cell 1 _ rfl
    have hn5z : (n : Int) ≤ 12 := by omega
    clear hI hCls hMet hLW hUW hUb htw ht hPBo hr0 hpad hbR hv hv2 htl
    gi_wp2
    refine ⟨trivial, ?_⟩
    refine (CallsIn.inRound l (callsIn_wide.2 (divAll_any A n c B n d bm2 n C r0 _ h12.1 h12.2 HMET.out HCLS.out.1 (fun p hp => ((wds_mem n p).1 (HCW.out p hp)).1) (fun p hp => (wds_tup (by omega) (HCW.out p hp)).sm (by omega)) h12.1 h12.2 (fun p hp => by
      obtain ⟨hl, hv⟩ := (wds_mem n p).1 (HCW.out p hp)
      exact hv _ (tgetD_mem p 0 0 (by omega))) hC0 hC5 (by rw [HR0.out]; exact full_cls HCLS.out)))).mono ?_
    rintro e W1 ⟨rfl, hb1⟩
    cases r0 with
    | false =>
      have hnf : ¬ Full (leH f) (leH s) n t := fun h => by have := HR0.out.2 h; cases this
      have HGE : Hid (gaL (leH f) (leH s) n Z (k + 1) = gaL (leH f) (leH s) n Z k) := hide (by rw [HGA.out, if_neg hnf])
      have hfin := HI.out.keep (D := w8.heap.size) (by omega) hb1
      rw [← HGE.out] at hfin
      have HFIN := hide hfin
      clear hnf hfin hb1 k0 k1
      gi_wp2
      exact HFIN.out
    | true =>
      have HGE : Hid (gaL (leH f) (leH s) n Z (k + 1) = t) := hide (by rw [HGA.out, if_pos (HR0.out.1 rfl)])
      have n0 := (HI.out.nn.later hb1).cell 0 _ rfl
      obtain ⟨A0, m0, c0, hx0, _⟩ := HI.out.ex
      have HX0 := hide hx0
      have HB1 := hide hb1
      have HRT1 := hide (HRT.out.later hb1)
      clear hb1 k0 k1 hx0
      gi_wp2
      refine ⟨trivial, ?_⟩
      refine (CallsIn.inRound l (callsIn_wide.2 (cloneN_any (some ⟨R, 0, none⟩) n _ t _ HTL.out (by omega) HRT1.out))).mono ?_
      rintro e W2 ⟨A5, c5, rfl, hb2, hres, _⟩
      have gk := ((HX0.out.later HB1.out).later hb2).cell 0 _ rfl
      have gf := ((HX0.out.later HB1.out).later hb2).frozen 0
      have hfin := HI.out.set (D := w8.heap.size) (c := c5) (by omega) (by omega) (by omega) (by omega) HLW.out HB1.out hb2 hres HTL.out
      rw [← HGE.out] at hfin
      have HFIN := hide hfin
      clear hfin hb2 hres n0
      gi_wp2
      exact HFIN.out
  case done =>
    rintro L U W hI hD
    obtain ⟨A5, m5, c5, hx, hm5, ho, hgL⟩ := hI.ex
    obtain rfl := hm5
    have gk := hx.cell 0 _ rfl
    have hL := hD
    have hbf : Below w.heap.size w (W.putObj w8.heap.size (.deferred none)) := hI.below.grown (grownBy_putObj' W _ _) hI.below.size (fun k e => by cases e; omega)
    have hrf : Res 2 w.heap.size (W.putObj w8.heap.size (.deferred none)) A5 (gaL (leH f) (leH s) n Z M) := by
      rcases ho with ho | ⟨g5, e1, e2, e3, cur, e4, e5⟩
      · exact .inl ho
      · refine .inr ⟨g5, e1, by omega, cur, (World.putObj_heap_other (fun e => ?_)).trans e4, e5⟩
        rw [e] at e4
        rw [e4] at hD
        cases hD
    have HRF := hide hrf
    have HBF := hide hbf
    have HDD := hide hD
    clear hI hD hbf hrf ho hx hL
    gi_wp2
    go_wp2_with fail
    refine ⟨by simp, .inl ⟨_, _, rfl, run_takeDeferred HDD.out, ?_⟩⟩
    refine ⟨_, ?_, A5, c5, rfl, HBF.out, HRF.out⟩
    refine (results_tmp2 (t := 2) (u := 3) rfl _ _ _).trans ?_
    rfl
  case stop =>
    rintro c k L U W _ h _
    exact h.elim
theorem gwI (A : Option Addr) (n c : Nat) (f : List (List Int)) (B : Option Addr) (k d : Nat) (s : List (List Int)) (zs : List Int) (code : Int) (kz : Nat) (w : World) (hz : ZArg 1048576 w A n f B k s) (hres : GwR f s zs code) (hkz : zs.length = kz) :
    Calls Try.prog 10 #[.agg #[.slice A n c, .slice B k d]] w (RPost 2 kz zs code w) := by
  have bad : zs = [] → ((¬ SolF f s ∧ code = 1) ∨ (SolF f s ∧ ¬ (NonF f s ∧ InvF f s) ∧ code = 5) ∨ (SolF f s ∧ (NonF f s ∧ InvF f s) ∧ 5 < f.length ∧ code = 3)) → Calls Try.prog 10 #[.agg #[.slice A n c, .slice B k d]] w (RPost 2 kz zs code w) := fun e h => by
    subst e
    obtain rfl : kz = 0 := by simpa using hkz.symm
    refine (gwBad A n c f B k d s code w hz h).mono ?_
    rintro e w' ⟨rfl, hb⟩
    exact ⟨none, 0, rfl, hb, .inl ⟨rfl, rfl⟩⟩
  rcases hres with ⟨h1, h2, h3⟩ | ⟨h1, h2, h3, h4⟩ | ⟨h1, h2, h3, h4, h5⟩ | ⟨h1, h2, h3, rfl, i, h4, h5, h6, h7⟩
  · exact bad h2 (.inl ⟨h1, h3⟩)
  · exact bad h3 (.inr (.inl ⟨h1, h2, h4⟩))
  · exact bad h4 (.inr (.inr ⟨h1, h2, h3, h5⟩))
  · obtain rfl := (hz.same h1.1).symm
    have hn := hz.sz.fl
    rw [hn] at h3 h4 h5 h6 h7
    have e := gaL_one h4 h5 h6
    rw [← h7] at e
    have h := gwGood A n c f B d s w hz h1 h2.1 h2.2 h3
    rw [e, hkz] at h
    exact h
end Go.Proofs.Ytbhlcfcmjildmaa
