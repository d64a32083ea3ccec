import Derived.Test.YtbhlcfcmjildmaaGs
import Derived.Test.YtbhlcfcmjildmaaGr
import Derived.Shelf.RegionOpen
import Derived.LoopNIn
import Derived.LoopIn
import Derived.RegionIn
import Derived.Test.YtbhlcfcmjildmaaGq
import Derived.Test.YtbhlcfcmjildmaaGg
import Derived.Test.YtbhlcfcmjildmaaGa
import Derived.Test.YtbhlcfcmjildmaaGb
import Derived.Deep.Cut
import Derived.Deep.DeepCutAuto
import Derived.Deep.RegionHeld3
namespace Go.Proofs.Ytbhlcfcmjildmaa
open Go Go.RowKit Go.Shelf
open Classical
attribute [local go_sem] Oper.semAt_some
attribute [-go_sem] Builtin.append_
set_option maxHeartbeats 4000000
theorem OrbT.keep {f s : List (List Int)} {Ls : List (List Int)} {k L : Nat} {v : Array Value} {U : Nat → Prop} {W W' : World} (h : OrbT f s Ls k L v U W) (hk : KeepU U W W') : OrbT f s Ls k L v U W' := by
  obtain ⟨bm, C, h1, h2, h3, h4, h5, h6⟩ := h
  exact ⟨bm, C, h1, h2, h3, MapN.of_block h4 (hk.2 bm h4.lt h2), Nat.lt_of_lt_of_le h5 hk.1, fun b hb => Nat.lt_of_lt_of_le (h6 b hb) hk.1⟩
set_option maxRecDepth 100000 in
theorem normI_any (A : Option Addr) (n c : Nat) (f : List (List Int)) (B : Option Addr) (d : Nat) (s : List (List Int)) (K N g cg B0 : Nat) (Ls : List (List Int)) (w : World) (hz : ZArg 1048576 w A n f B n s) (hs : SolF f s) (hK : K ≤ 12) (hN : Ls.length = N) (hNb : N ≤ 5000) (hlk : ∀ t, t ∈ Ls → t.length = K) (htu : ∀ t, t ∈ Ls → Tup n t) (hcl : ∀ t, t ∈ Ls → ∀ y, Tch (leH f) (leH s) t y → y ∈ Ls) (hvl : TupS w B0 (.slice (some ⟨g, 0, none⟩) N cg) Ls) (hg : g < w.heap.size) :
    Calls Try.prog 47 #[.agg #[.slice A n c, .slice B n d], .slice (some ⟨g, 0, none⟩) N cg, .int .i64 K] w fun e w' => ∃ v vals, e = .returned v ∧ Below w.heap.size w w' ∧ LstV 26 2 w.heap.size w' v (frs (leH f) (leH s) Ls) vals := by
  have HZ := hide hz
  have HS := hide hs
  have HN := hide hN
  have HLK := hide hlk
  have HTU := hide htu
  have HCLO := hide hcl
  have HVL := hide hvl
  clear hz hs hN hlk htu hcl hvl
  refine (callsIn_wide (n := 6)).1 ?_
  refine callsIn_of_wp_marks Try.func47 rfl trivial ?_ rfl
  simp only [Try.ntmps47, List.size_toArray, List.length_cons, List.length_nil, Nat.reduceAdd, Nat.reduceSub, Array.replicate_succ, Array.replicate_zero, List.push_toArray, List.append_toArray, List.nil_append, List.cons_append]
  refine wpIn_wide.2 ?_
  go_wp2_with fail
  obtain ⟨W0, hW0⟩ : ∃ q, w.heap.size = q := ⟨_, rfl⟩
  have HW0 := hide hW0
  refine calls_gen fun w1 hw1 => ?_
  have HB1 : Hid (Below w.heap.size w w1) := hide (by rw [hw1]; exact ((((Below.refl _ w).alloc (Nat.le_refl _) _).alloc (by simp) _).alloc (by simp; omega) _).alloc (by simp; omega) _)
  have HS1 : Hid (w1.heap.size = W0 + 4) := hide (by rw [hw1]; simp [hW0])
  have HK1 : Hid (Blk w1 (W0 + 1) 3 [.int .i64 K]) := hide (by
    rw [hw1]
    have h := Blk.new (w.alloc (.cells #[.slice A n c, .slice B n d] 29)) 3 [.int .i64 K]
    rw [World.size_alloc, hW0] at h
    exact (h.alloc _).alloc _)
  have HX1 : Hid (Blk w1 (W0 + 3) 22 [.slice (some ⟨W0 + 2, 0, none⟩) 0 0]) := hide (by
    rw [hw1]
    have h := Blk.new (((w.alloc (.cells #[.slice A n c, .slice B n d] 29)).alloc (.cells #[.int .i64 K] 3)).alloc (.cells #[] 26)) 22 [.slice (some ⟨W0 + 2, 0, none⟩) 0 0]
    simpa [hW0] using h)
  have HR1 : Hid (LstV 26 2 (W0 + 2) w1 (.slice (some ⟨W0 + 2, 0, none⟩) 0 0) [] []) := hide (by
    have h := LstV.start ((w.alloc (.cells #[.slice A n c, .slice B n d] 29)).alloc (.cells #[.int .i64 K] 3)) 26 2
    have e : ((w.alloc (.cells #[.slice A n c, .slice B n d] 29)).alloc (.cells #[.int .i64 K] 3)).heap.size = W0 + 2 := by simp [hW0]
    rw [e] at h
    rw [hw1]
    exact h.later ((Below.refl _ _).alloc (Nat.le_refl _) _))
  clear hw1
  refine (orbC_any A B (some ⟨g, 0, none⟩) n c n d N cg K _).mono ?_
  rintro e w2 ⟨rfl, hw2⟩
  have hs1 : w1.heap.size = W0 + 4 := HS1.out
  have hb2 : Below w1.heap.size w1 w2 := by rw [hw2]; exact (((Below.refl _ _).alloc (Nat.le_refl _) _).alloc (by simp) _).alloc (by simp; omega) _
  have HB2 := hide (HB1.out.trans (hb2.mono HB1.out.size))
  have HX2 := hide (HX1.out.later hb2)
  have HR2 := hide (HR1.out.later hb2)
  have HK2 := hide (HK1.out.later hb2)
  have HS2 : Hid (w2.heap.size = W0 + 7) := hide (by rw [hw2]; simp [hs1])
  have HP4 : Hid (Blk w2 (W0 + 4) 29 [.slice A n c, .slice B n d]) := hide (by
    rw [hw2]
    have h := Blk.new w1 29 [.slice A n c, .slice B n d]
    rw [hs1] at h
    exact (h.alloc _).alloc _)
  have HP5 : Hid (Blk w2 (W0 + 5) 54 [.slice (some ⟨g, 0, none⟩) N cg]) := hide (by
    rw [hw2]
    have h := Blk.new (w1.alloc (.cells #[.slice A n c, .slice B n d] 29)) 54 [.slice (some ⟨g, 0, none⟩) N cg]
    rw [World.size_alloc, hs1] at h
    exact h.alloc _)
  have HP6 : Hid (Blk w2 (W0 + 6) 3 [.int .i64 K]) := hide (by
    rw [hw2]
    have h := Blk.new ((w1.alloc (.cells #[.slice A n c, .slice B n d] 29)).alloc (.cells #[.slice (some ⟨g, 0, none⟩) N cg] 54)) 3 [.int .i64 K]
    simpa [hs1] using h)
  clear hw2 hb2
  rw [hs1, hW0]
  clear hs1
  have e1 : W0 + 1 + 1 + 1 = W0 + 3 := rfl
  have e2 : W0 + 1 + 1 = W0 + 2 := rfl
  have e3 : W0 + 4 + 1 = W0 + 5 := rfl
  have e4 : W0 + 4 + 2 = W0 + 6 := rfl
  rw [e1, e2, e3, e4]
  clear e1 e2 e3 e4
  go_wp2_with fail
  have hs2 : w2.heap.size = W0 + 7 := HS2.out
  have hgW : g < W0 := by omega
  have h0 : ∀ L, w2.heap.size + 2 ≤ L → NaI w w2.heap.size (W0 + 3) (W0 + 1) (W0 + 2) K [] L (fun b => b < w.heap.size ∨ b = W0 + 4 ∨ b = W0 + 5 ∨ b = W0 + 6) w2 := fun L hL =>
    ⟨HB2.out, ⟨_, [], HX2.out, HR2.out, HR2.out.ltF (.inl (by omega)), fun g0 hg0 => by
      have e : W0 + 2 = g0 := by simpa [Value.ownBlock] using hg0
      exact ⟨fun h => by rcases h with h | h | h | h <;> omega, .inl (by omega)⟩⟩, HK2.out, fun h => by rcases h with h | h | h | h <;> omega, by omega, by omega⟩
  have hlf : ∀ k, ((frs (leH f) (leH s) Ls).getD k []).length ≤ 12 := fun k => by
    by_cases h : k < (frs (leH f) (leH s) Ls).length
    · rw [HLK.out _ (frs_sub _ _ (tgetD_mem _ k [] h))]; exact hK
    · simp [List.getD_eq_getElem?_getD, List.getElem?_eq_none (Nat.le_of_not_lt h)]
  have HLF := hide hlf
  clear hlf
  refine (wpIn_wide (n := 5)).1 ?_
  refine wpIn_iterN (gf := 69) (lb := #[.pointer (some ⟨W0 + 5, 0, none⟩), .pointer (some ⟨W0 + 4, 0, none⟩), .pointer (some ⟨W0 + 6, 0, none⟩)]) rfl (enters_of Try.func69 (by kernel_rfl) rfl) (N := (frs (leH f) (leH s) Ls).length) (T := OrbT f s Ls) (U0 := fun b => b < w.heap.size ∨ b = W0 + 4 ∨ b = W0 + 5 ∨ b = W0 + 6)
    (orbI_any A n c f B d s K N g cg (W0 + 5) (W0 + 4) (W0 + 6) B0 Ls _ w w2 HZ.out HS.out hK HN.out hNb HLK.out HTU.out HCLO.out HB2.out (fun b hb => .inl hb) (fun b hb => by rcases hb with h | h | h | h <;> omega) (.inr (.inr (.inl rfl))) (.inr (.inl rfl)) (.inr (.inr (.inr rfl))) (.inl hg) HP5.out HP4.out HP6.out (HVL.out.later HB2.out) 5)
    (fun k L v U W h => by obtain ⟨bm, C, rfl, _⟩ := h; rfl) (fun k L v U W W' h hk => h.keep hk) (fun b hb => by rcases hb with h | h | h | h <;> omega)
    (fun k L U W => NaI w w2.heap.size (W0 + 3) (W0 + 1) (W0 + 2) K ((frs (leH f) (leH s) Ls).take k) L U W) (fun _ _ _ _ _ => False)
    (fun k L U U' W W' hL h hs hu => h.step (by omega) hs hu) (fun k L U W b o o' hb _ _ ho hc h => h.put o' (by omega) ho hc) (fun _ _ _ _ _ _ _ _ _ _ _ _ h => h)
    (fun L hL => h0 L (by omega))
    (fun k v a' W => ∃ (p0 p1 p2 p3 p4 p5 p6 p7 p8 p9 p10 p11 : Int) (R : Nat) (u15 : Value), pad12 ((frs (leH f) (leH s) Ls).getD k []) = [p0, p1, p2, p3, p4, p5, p6, p7, p8, p9, p10, p11] ∧ w2.heap.size + 2 ≤ R ∧ Blk W R 61 [.int .i64 p0, .int .i64 p1, .int .i64 p2, .int .i64 p3, .int .i64 p4, .int .i64 p5, .int .i64 p6, .int .i64 p7, .int .i64 p8, .int .i64 p9, .int .i64 p10, .int .i64 p11] ∧ a' = { tmps := #[.agg #[.slice A n c, .slice B n d], .slice (some ⟨g, 0, none⟩) N cg, .int .i64 K, .pointer (some ⟨W0, 0, none⟩), undef, .pointer (some ⟨W0 + 1, 0, none⟩), .slice none 0 0, .pointer (some ⟨W0 + 3, 0, none⟩), .pointer (some ⟨R, 0, none⟩), .slice (some ⟨W0 + 2, 0, none⟩) 0 0, .agg #[.slice A n c, .slice B n d], .slice (some ⟨g, 0, none⟩) N cg, .int .i64 K, .func (.func 69) #[] #[.pointer (some ⟨W0 + 5, 0, none⟩), .pointer (some ⟨W0 + 4, 0, none⟩), .pointer (some ⟨W0 + 6, 0, none⟩)], .agg #[.int .i64 p0, .int .i64 p1, .int .i64 p2, .int .i64 p3, .int .i64 p4, .int .i64 p5, .int .i64 p6, .int .i64 p7, .int .i64 p8, .int .i64 p9, .int .i64 p10, .int .i64 p11], u15, undef, undef, undef, undef, undef, undef, undef], defers := [] })
    (fun k v a' W b o o' hb ho hc h => ?hap) ?assign ?body ?done ?stop
  case hap =>
    obtain ⟨p0, p1, p2, p3, p4, p5, p6, p7, p8, p9, p10, p11, R, u15, e1, e2, e3, e4⟩ := h
    refine ⟨p0, p1, p2, p3, p4, p5, p6, p7, p8, p9, p10, p11, R, u15, e1, e2, (World.putObj_heap_other (fun e => ?_)).trans e3, e4⟩
    subst e
    rw [show W.heap[R]? = _ from e3] at ho
    injection ho with ho
    subst ho
    cases hc
  case assign =>
    intro l k L v U W K' hT hsz hK
    obtain ⟨bm, C, rfl, _⟩ := hT
    have hpp := pad12_length (HLF.out k)
    obtain ⟨pp, hppe⟩ : ∃ pp, pad12 ((frs (leH f) (leH s) Ls).getD k []) = pp := ⟨_, rfl⟩
    rw [hppe] at hpp
    obtain ⟨p0, p1, p2, p3, p4, p5, p6, p7, p8, p9, p10, p11, rfl⟩ := list12 hpp
    have hkp : tkey ((frs (leH f) (leH s) Ls).getD k []) = .agg #[.int .i64 p0, .int .i64 p1, .int .i64 p2, .int .i64 p3, .int .i64 p4, .int .i64 p5, .int .i64 p6, .int .i64 p7, .int .i64 p8, .int .i64 p9, .int .i64 p10, .int .i64 p11] := by unfold tkey; rw [hppe]; rfl
    rw [hkp]
    gi_wp2
    exact hK _ _ ((Below.refl _ _).alloc (Nat.le_refl _) _) ⟨p0, p1, p2, p3, p4, p5, p6, p7, p8, p9, p10, p11, W.heap.size, _, hppe, hsz, Blk.new _ _ _, rfl⟩
  case body =>
    rintro l k L v U a' W hk hL hUU hI hT ⟨p0, p1, p2, p3, p4, p5, p6, p7, p8, p9, p10, p11, R, u15, hpad, hR, hbR, rfl⟩ hsz
    obtain ⟨vr, vals, hbx, hrow, hfl, hfar⟩ := hI.ex
    have HTK := hide (take_next (L := frs (leH f) (leH s) Ls) hk)
    have htL := frs_sub _ _ (tgetD_mem (frs (leH f) (leH s) Ls) k [] hk)
    obtain ⟨t, ht⟩ : ∃ t, (frs (leH f) (leH s) Ls).getD k [] = t := ⟨_, rfl⟩
    rw [ht] at hpad htL HTK
    have htl : t.length = K := HLK.out t htL
    have hkb : k ≤ 5000 := by have h := frs_len (h1 := leH f) (h2 := leH s) Ls; rw [HN.out] at h; omega
    have HRT : Hid (Rd W.drew (some ⟨R, 0, none⟩) t) := hide (fun _ => ⟨R, 0, rfl, hbR.lt, fun i hi => by
      have h1 := Blk.cell (w := W.drew) hbR i ((.int .i64 ((pad12 t).getD i 0)) : Value) (by
        rw [hpad]
        have hi12 : i < 12 := by omega
        rcases i with _ | _ | _ | _ | _ | _ | _ | _ | _ | _ | _ | _ | i
        all_goals first | rfl | omega)
      rw [Nat.zero_add, h1, pad12_at hi]⟩)
    have HTL := hide htl
    have HNOT : Hid (∀ g, vr.ownBlock = some g → g ≠ W0 + 3) := hide fun g hg e => by
      rcases hrow.own.2 with ⟨h6, _⟩ | ⟨g2, cap, cur, hv, hB, hh, _⟩
      · rw [h6] at hg; simp [Value.ownBlock] at hg
      · rw [hv] at hg
        have e2 : g2 = g := by simpa [Value.ownBlock] using hg
        subst e2 e
        have h5 := hh.symm.trans hbx
        injection h5 with h5
        injection h5 with _ h6
        exact absurd h6 (by decide)
    have HNOTV : Hid (∀ u, u ∈ vals → u.ownBlock ≠ some (W0 + 3)) := hide fun u hu e => by
      obtain ⟨i, hi, hu2⟩ := List.getElem_of_mem hu
      have hil : i < ((frs (leH f) (leH s) Ls).take k).length := by have := ownsRow_len hrow.own; omega
      obtain ⟨A9, c9, h1, h2⟩ := hrow.row i hil
      have h3 : vals[i]? = some u := by rw [List.getElem?_eq_getElem hi, hu2]
      rw [h3] at h1; injection h1 with h1; subst h1
      rcases h2 with ⟨rfl, _⟩ | ⟨g9, rfl, e2, e3, cur, e4, _⟩
      · simp [Value.ownBlock] at e
      · have e5 : g9 = W0 + 3 := by simpa [Value.ownBlock] using e
        subst e5
        have h5 := e4.symm.trans hbx
        injection h5 with h5
        injection h5 with _ h6
        exact absurd h6 (by decide)
    have hlen : ((frs (leH f) (leH s) Ls).take k).length = k := by rw [List.length_take]; omega
    have HLEN := hide hlen
    have HNU := hide hI.nU
    have HNL := hide hI.nL
    have HNK := hide hI.nK
    have HBW := hide hI.below
    have HBX := hide hbx
    have HRW := hide hrow
    have HFL := hide hfl
    have HFAR := hide hfar
    have HKKb := hide hI.kk
    have HSW := hide hsz
    obtain ⟨_, _, _, _, _, _, hLW, hUW⟩ := hT
    have HLW := hide hLW
    have HUW := hide hUW
    obtain ⟨i2, hi, hz0, hz1, hz2⟩ := info_parts neInfo2
    have k0 := hbx.cell 0 _ rfl
    have kf := hbx.frozen 0
    have kK := hI.kk.cell 0 _ rfl
    have HBR := hide hbR
    have hK12z : (K : Int) ≤ 12 := by omega
    clear hI hbx hrow hfl hfar hR hbR hsz hlen hLW hUW htL htl hpad
    have hmx : Try.prog.follows Departure.mixedOrders = true := by kernel_rfl
    have HBD : Hid (Blk W.drew (W0 + 3) 22 [vr]) := hide HBX.out
    have HRD : Hid (LstV 26 2 (W0 + 2) W.drew vr ((frs (leH f) (leH s) Ls).take k) vals) := hide (HRW.out.later ((Below.refl _ _).drew))
    gi_wp2
    gi_region_with_o (first
      | (refine ⟨trivial, ?_⟩; gi_at_call 41; refine (CallsIn.inRound l (callsIn_wide.2 (cloneN_any (some ⟨R, 0, none⟩) K _ t _ HTL.out (by omega) HRT.out))).mono ?_; rintro e W1 ⟨A5, c5, rfl, hb1, hres, _⟩; obtain ⟨g9, c9, W2, hr, hgr, hat, hl, hx2⟩ := nas_put (c5 := c5) hi hz0 hz1 hz2 HBD.out HRD.out (by have := HSW.out; show W0 + 2 ≤ W.heap.size; omega) hb1 HLEN.out hkb HNOT.out HTL.out hres.obj; have k0' : W1.cell? ⟨W0 + 3, 0, none⟩ = some vr := (HBD.out.later hb1).cell 0 _ rfl; have k2' : W2.cell? ⟨W0 + 3, 0, none⟩ = some vr := hx2.cell 0 _ rfl; have kne : W0 + 3 < W1.heap.size := (HBD.out.later hb1).lt; have kne2 : W0 + 3 ≠ W1.heap.size := Nat.ne_of_lt kne; have k3' : (W1.alloc (.cells #[.slice A5 K c5] 26)).cell? ⟨W0 + 3, 0, none⟩ = some vr := ((HBD.out.later hb1).later ((Below.refl _ _).alloc (Nat.le_refl _) _)).cell 0 _ rfl; have kf2 : W2.frozen? ⟨W0 + 3, 0, none⟩ = false := hx2.frozen 0; have HGR := hide hgr; have HAT := hide hat; have HO := hide hl; have HX2 := hide hx2; have HB1 := hide hb1; have HRS := hide hres.obj; clear hgr hat hl hx2 hb1 hres))
    all_goals
      have hfin := nas_fin HBW.out HRW.out HFL.out HKKb.out HFAR.out HLW.out HUW.out HNU.out HNL.out HNK.out (by omega) (by omega) (by omega) (by omega) (by omega) HSW.out HB1.out HRS.out HGR.out HAT.out HO.out HX2.out HNOT.out HNOTV.out
      rw [← HTK.out] at hfin
      exact hfin
  case done =>
    rintro L U W hI hD
    obtain ⟨v, vals, hbx, hl, _, _⟩ := hI.ex
    rw [List.take_of_length_le (Nat.le_refl _)] at hl
    have k0 := hbx.cell 0 _ rfl
    have hl2 : LstV 26 2 (W0 + 2) (W.putObj w2.heap.size (.deferred none)) v (frs (leH f) (leH s) Ls) vals := hl.skip (hl.cellsF hD rfl) (by simp) (fun b _ hn => World.putObj_heap_other hn)
    have HL2 := hide (hl2.monoB (B' := w.heap.size) (by omega))
    have hbf : Below w.heap.size w (W.putObj w2.heap.size (.deferred none)) := hI.below.grown (grownBy_putObj' W _ _) hI.below.size (fun k e => by cases e; omega)
    have HBF := hide hbf
    have HDD := hide hD
    clear hI hbx hl hl2 hD hbf
    gi_wp2
    go_wp2_with fail
    refine ⟨by simp, .inl ⟨_, _, rfl, run_takeDeferred HDD.out, ?_⟩⟩
    refine ⟨_, ?_, v, vals, rfl, HBF.out, HL2.out⟩
    refine (results_tmp (t := 6) rfl _ _ _).trans ?_
    rfl
  case stop =>
    rintro c k L U W _ h _
    exact h.elim
end Go.Proofs.Ytbhlcfcmjildmaa
namespace Go.Proofs.Ytbhlcfcmjildmaa
open Go Go.RowKit
open Classical
set_option maxHeartbeats 4000000
theorem LstV.at2 {ts t : TypeId} {B g c N : Nat} {w : World} {rows : List (List Int)} {vals : List Value} (h : LstV ts t B w (.slice (some ⟨g, 0, none⟩) N c) rows vals) {i : Nat} (hi : i < rows.length) : ∃ A ci, w.cell? ⟨g, i, none⟩ = some (.slice A (rows.getD i []).length ci) ∧ Obj1 t B w.heap.size w A (rows.getD i []) := by
  obtain ⟨A, ci, h1, h2⟩ := h.row i hi
  obtain ⟨g', c', hv, _, hc⟩ := own_look h.own (by omega)
  injection hv with hv
  injection hv with hv
  injection hv with hv
  subst hv
  exact ⟨A, ci, hc i _ h1, h2⟩
theorem FstL.le {L : List (List Int)} {q : Nat} {fl : List Int} (h : FstL L q fl) : fl.length ≤ q := by
  have h2 := tnodup_le (m := (List.range q).map fun r => (L.getD r []).getD 0 0) h.1 (fun v hv => by
    obtain ⟨r, hr, e⟩ := (h.2 v).1 hv
    exact List.mem_map.2 ⟨r, List.mem_range.2 hr, e⟩)
  simpa using h2
set_option maxRecDepth 100000 in
theorem gwS (A : Option Addr) (n c : Nat) (f : List (List Int)) (B : Option Addr) (k d : Nat) (s : List (List Int)) (zs : List Int) (code : Int) (kz : Nat) (w : World) (hz : ZArg 1048576 w A n f B k s) (hres : GwR f s zs code) (hkz : zs.length = kz) :
    Calls Try.prog 8 #[.agg #[.slice A n c, .slice B k d]] w (RPost 2 kz zs code w) := by
  have HZ := hide hz
  have HKZ := hide hkz
  have HB0 := hide ((Below.refl _ w).alloc (Nat.le_refl _) (Obj.cells #[Value.slice A n c, Value.slice B k d] 29))
  have HK0 := hide (Blk.new w 29 [.slice A n c, .slice B k d])
  by_cases hs : SolF f s
  · have HS := hide hs
    obtain rfl := (hz.same hs.1).symm
    have HN := hide hz.sz.fl
    have h12 := hz.small hs.1
    have HPB := hide (hs.pb hz.sz.fl)
    have BAD : Hid (¬ (NonF f s ∧ InvF f s) → zs = [] ∧ code = 5) := hide (fun hno => by
      rcases hres with ⟨h, _⟩ | ⟨_, _, h⟩ | ⟨_, h, _⟩ | ⟨_, h, _⟩
      · exact absurd HS.out h
      · exact h
      · exact absurd h hno
      · exact absurd h hno)
    have BIG : Hid (NonF f s ∧ InvF f s → 5 < n → zs = [] ∧ code = 3) := hide (fun hyes h5 => by
      rw [← HN.out] at h5
      rcases hres with ⟨h, _⟩ | ⟨_, h, _⟩ | ⟨_, _, _, h⟩ | ⟨_, _, h, _⟩
      · exact absurd HS.out h
      · exact absurd hyes h
      · exact h
      · omega)
    have GOOD : Hid (NonF f s ∧ InvF f s → n ≤ 5 → code = 0 ∧ ∃ i, i < (nws (leH f) (leH s) (wds n n)).length ∧ Full (leH f) (leH s) n ((nws (leH f) (leH s) (wds n n)).getD i []) ∧ (∀ j, j < (nws (leH f) (leH s) (wds n n)).length → Full (leH f) (leH s) n ((nws (leH f) (leH s) (wds n n)).getD j []) → j = i) ∧ zs = (nws (leH f) (leH s) (wds n n)).getD i []) := hide (fun hyes h5 => by
      rcases hres with ⟨h, _⟩ | ⟨_, h, _⟩ | ⟨_, _, h, _⟩ | ⟨_, _, _, h⟩
      · exact absurd HS.out h
      · exact absurd hyes h
      · have := HN.out; omega
      · rw [HN.out] at h; exact h)
    clear hz hkz hres hs
    obtain ⟨i0', hinf, hz0, hz1, hz2⟩ := info_parts oaInfo
    go_enter Try.func8, Try.ntmps8
    have k0 := HK0.out.cell 0 _ rfl
    have k1 := HK0.out.cell 1 _ rfl
    go_wp2_with fail
    clear k0 k1
    refine (isS_any _ _ _ f _ _ _ s true _ (HZ.out.later HB0.out) ⟨fun _ => HS.out, fun _ => rfl⟩).mono ?_
    rintro e w1 ⟨rfl, hb1⟩
    have HB3 := hide (HB0.out.trans (hb1.mono HB0.out.size))
    have HK3 := hide (HK0.out.later hb1)
    clear hb1
    have k0 := HK3.out.cell 0 _ rfl
    have k1 := HK3.out.cell 1 _ rfl
    obtain ⟨r1, hr1⟩ : ∃ r1 : Bool, r1 = true ↔ NonF f s := bool_of _
    obtain ⟨r3, hr3⟩ : ∃ r3 : Bool, r3 = true ↔ InvF f s := bool_of _
    have HR1 := hide hr1
    have HR3 := hide hr3
    clear hr1 hr3
    go_wp2_with fail
    refine (goodS_any _ _ _ f _ _ _ s r1 _ (HZ.out.later HB3.out) HS.out.1 HR1.out).mono ?_
    rintro e w4 ⟨rfl, hb4⟩
    have HB4 := hide (HB3.out.trans (hb4.mono HB3.out.size))
    have HK4 := hide (HK3.out.later hb4)
    clear hb4 k0 k1
    have k0 := HK4.out.cell 0 _ rfl
    have k1 := HK4.out.cell 1 _ rfl
    cases r1 with
    | false =>
      obtain ⟨rfl, rfl⟩ := BAD.out (fun h => by have h2 := HR1.out.2 h.1; cases h2)
      obtain rfl : kz = 0 := by simpa using HKZ.out.symm
      clear HR1
      go_wp2_with fail
      go_ret2
      exact ⟨_, _, rfl, HB4.out, .inl ⟨rfl, rfl⟩⟩
    | true =>
      have HND := hide (HR1.out.1 rfl)
      clear HR1
      go_wp2_with fail
      refine (twiceS_any _ _ _ f _ _ _ s r3 _ (HZ.out.later HB4.out) HS.out.1 HR3.out).mono ?_
      rintro e w5 ⟨rfl, hb5⟩
      have HB5 := hide (HB4.out.trans (hb5.mono HB4.out.size))
      have HK5 := hide (HK4.out.later hb5)
      clear hb5 k0 k1
      have k0 := HK5.out.cell 0 _ rfl
      have k1 := HK5.out.cell 1 _ rfl
      cases r3 with
      | false =>
        obtain ⟨rfl, rfl⟩ := BAD.out (fun h => by have h2 := HR3.out.2 h.2; cases h2)
        obtain rfl : kz = 0 := by simpa using HKZ.out.symm
        clear HR3
        go_wp2_with fail
        go_ret2
        exact ⟨_, _, rfl, HB5.out, .inl ⟨rfl, rfl⟩⟩
      | true =>
        have HINV := hide (HR3.out.1 rfl)
        clear HR3
        by_cases h5 : n ≤ 5
        · obtain ⟨rfl, i0, hi0, hfull, huniq, rfl⟩ := GOOD.out ⟨HND.out, HINV.out⟩ h5
          have HFULL := hide hfull
          have HUNIQ := hide huniq
          have HI0 := hide hi0
          have hpw : n ^ n ≤ 5000 := by
            have : n = 0 ∨ n = 1 ∨ n = 2 ∨ n = 3 ∨ n = 4 ∨ n = 5 := by omega
            rcases this with h | h | h | h | h | h <;> subst h <;> decide
          have h5z : ¬ (5 : Int) < n := by omega
          clear hfull huniq hi0 BAD BIG GOOD
          go_wp2_with fail
          refine (normals_any A n c f B d s n _ (HZ.out.later HB5.out) HS.out (by omega) hpw).mono ?_
          rintro e w6 ⟨v6, vals6, rfl, hb6, hl6⟩
          have HB6 := hide (HB5.out.trans (hb6.mono HB5.out.size))
          have HK6 := hide (HK5.out.later hb6)
          have HPW := hide hpw
          obtain ⟨Z, hZ⟩ : ∃ Z, nws (leH f) (leH s) (wds n n) = Z := ⟨_, rfl⟩
          have HZN : Hid (∀ i, i < Z.length → (Z.getD i []) ∈ wds n n) := hide (fun i hi => by
            have h := tgetD_mem Z i [] hi
            rw [← hZ] at h ⊢
            exact ((nws_mem _ _).1 h).1)
          have HZE := hide hZ
          rw [hZ] at hl6 HI0 HFULL HUNIQ HKZ ⊢
          obtain ⟨gZ, cZ, hv6, hgZ, hcZ⟩ := own_look hl6.own (by have := HI0.out; omega)
          subst hv6
          have HL6 := hide hl6
          have HGZ := hide hgZ
          obtain ⟨NZ, hNZ⟩ : ∃ N, Z.length = N := ⟨_, rfl⟩
          rw [hNZ]
          have HNZ := hide hNZ
          have hi0 := HI0.out
          have hgl6 := HK6.out.lt
          obtain ⟨bw, hbw⟩ : ∃ b, w6.heap.size = b := ⟨_, rfl⟩
          have HBE := hide hbw
          have HLO6 := hide hl6.lo
          have hNZb : NZ ≤ 5000 := by
            rw [← hNZ, ← hZ]
            have h := nws_len (h1 := leH f) (h2 := leH s) (wds n n)
            rw [wds_len] at h
            omega
          clear k0 k1 hb6 hl6 hcZ hZ hpw hNZ hbw
          have hi0b : i0 < NZ := by have := HI0.out; have := HNZ.out; omega
          go_wp2_with fail
          go_loopw [6, 7, 8, 9, 10] (fun iv _ _ _ _ wx => ∃ i : Nat, i ≤ i0 ∧ iv = .int .i64 i ∧ Below bw w6 wx) (fun iv _ _ _ _ _ => NZ - (intOf iv).toNat)
          case atStart => exact ⟨0, Nat.zero_le _, rfl, by rw [← HBE.out]; exact Below.refl _ _⟩
          case round =>
            obtain ⟨wx, rfl⟩ : ∃ x, x = wr := ⟨wr, rfl⟩
            obtain ⟨i, hi, rfl, hbe⟩ := hrel
            have HB := hide hbe
            have hiN : i < NZ := by omega
            have hiz : (i : Int) < NZ := by omega
            have hiZ : i < Z.length := by rw [HNZ.out]; exact hiN
            have HLx := hide (HL6.out.later (by rw [HBE.out]; exact hbe))
            obtain ⟨Ai, ci, hci, hobi⟩ := HLx.out.at2 hiZ
            obtain ⟨t, ht⟩ : ∃ t, Z.getD i [] = t := ⟨_, rfl⟩
            have htw := HZN.out i hiZ
            rw [ht] at hci hobi htw
            have htl := ((wds_mem n t).1 htw).1
            rw [htl] at hci
            have HT := hide ht
            have HTL := hide htl
            have HTW := hide htw
            have HTT := hide (wds_tup (by omega) htw)
            have HTIN : Hid (Inn n t) := hide ((wds_mem n t).1 htw).2
            have HRT := hide hobi.rd
            have HOB := hide hobi
            have HIZ := hide hiZ
            have HXZ : Hid (gZ < wx.heap.size) := hide (by have h1 := hbe.size; have h2 := HBE.out; have := HGZ.out; omega)
            have HFEW : Hid (FewT (leH f) (leH s) t 5000) := hide (by
              obtain ⟨C, hC⟩ := Cls.ex HPB.out HTT.out
              refine ⟨C, hC, ?_⟩
              have h := tnodup_le hC.1 (fun y hy => Tch.wds HPB.out (by omega) htw ((hC.2 y).1 hy))
              rw [wds_len] at h
              have := HPW.out
              omega)
            have HKw : Hid (Blk wx w.heap.size 29 [.slice A n c, .slice B n d]) := hide ((hbe.block w.heap.size (by rw [← HBE.out]; exact hgl6)).trans HK6.out)
            have HBw : Hid (Below w.heap.size w wx) := hide (HB6.out.trans (hbe.mono (by rw [← HBE.out]; exact Nat.le_of_lt hgl6)))
            have HZw := hide (HZ.out.later HBw.out)
            have HBc := hide (Below.refl wx.heap.size wx)
            have HCI := hide hci
            have kk0 := HKw.out.cell 0 _ rfl
            have kk1 := HKw.out.cell 1 _ rfl
            have kx := hci
            clear hbe hci hobi ht htl htw hiZ
            go_upto_region 12 with fail
            go_cut [7, 8] (fun v7 v8 wy => ∃ (L : List (List Int)) (gL cL : Nat) (valsL : List Value), v7 = .slice (some ⟨gL, 0, none⟩) L.length cL ∧ v8 = .bool true ∧ Below wx.heap.size wx wy ∧ Cls (leH f) (leH s) t L ∧ L.length ≤ 5000 ∧ LstV 26 2 wx.heap.size wy (.slice (some ⟨gL, 0, none⟩) L.length cL) L valsL)
            case first =>
              go_region_held3 (fun w' => w'.cell? ⟨w.heap.size, 0, none⟩ = some (.slice A n c) ∧ w'.cell? ⟨w.heap.size, 1, none⟩ = some (.slice B n d) ∧ w'.cell? ⟨gZ, i, none⟩ = some (.slice Ai n ci)) (first | exact ⟨kk0, kk1, kx⟩ | go_keep) (first | (go_at_call 31; go_must (refine calls_gen fun wc hwc => ?_; (first | have hbx := drew_below hwc | have hbx := eq_below hwc); replace HBc := hide (HBc.out.trans (hbx.mono HBc.out.size)); replace HKw := hide (HKw.out.later hbx); clear hwc hbx; have HSZ := hide HBc.out.size; refine (classS_both A n c f B d s Ai n ci t 5000 _ (HZw.out.later HBc.out) HS.out HTT.out HTL.out (fun h => absurd h (by omega)) (HRT.out.later HBc.out) (by omega) (by omega)).mono ?_; rintro e wd ⟨v7, r7, rfl, hbd, hi7, hme7⟩; replace HBc := hide (HBc.out.trans (hbd.mono HBc.out.size)); replace HKw := hide (HKw.out.later hbd); clear hbd; have kk0 := HKw.out.cell 0 _ rfl; have kk1 := HKw.out.cell 1 _ rfl; obtain rfl : r7 = true := hi7.2 HFEW.out; obtain ⟨L, gL, cL, valsL, rfl, hcl, hlL, hlL2, _, _, _⟩ := hme7 rfl; have HCL := hide hcl; have HLN := hide hlL; have HLL := hide (hlL2.monoB (B' := wx.heap.size) HSZ.out); clear hi7 hme7 hcl hlL hlL2; have kx := (HBc.out.cell (p := ⟨gZ, i, none⟩) HXZ.out).trans HCI.out)))
              all_goals go_wp2_with fail
              all_goals go_meet
              all_goals first | exact ⟨_, _, _, _, rfl, rfl, HBc.out, HCL.out, HLN.out, HLL.out⟩ | exact ⟨_, _, _, _, rfl, rfl, HBc.out.drew, HCL.out, HLN.out, HLL.out.later ((Below.refl _ _).drew)⟩
            case rest =>
              obtain ⟨L, gL, cL, valsL, rfl, rfl, hby, hcl, hlL, hll⟩ := hcut
              have HBY := hide hby
              have HCL := hide hcl
              have HLL := hide hll
              have HXL := hide hll.lo
              obtain ⟨NL, hNL⟩ : ∃ N, L.length = N := ⟨_, rfl⟩
              have HNL := hide hNL
              rw [hNL] at hlL ⊢
              obtain ⟨bf, hbf⟩ : ∃ b, wc.heap.size = b := ⟨_, rfl⟩
              have HBF := hide hbf
              have hxf : wx.heap.size ≤ bf := by rw [← hbf]; exact hby.size
              clear hby hcl hll hNL kk0 kk1 kx HKw HZw HBc HRT
              go_upto_region 14 with fail
              refine wp_gen fun w8 hw8 => ?_
              have HB8 : Hid (Below bf wc w8) := hide (by rw [hw8, ← hbf]; exact (Below.refl _ _).alloc (Nat.le_refl _) _)
              have HO8 : Hid (w8.ownsRow bf 2 1 (.slice (some ⟨bf, 0, none⟩) 0 0) ([] : List Int).length (ints [])) := hide (by rw [hw8, ← hbf]; exact oa_empty wc _)
              clear hw8 hbf
              go_wp2_with fail
              go_loopw [9, 10] (fun fv kv wy => ∃ (fl : List Int) (q : Nat), q ≤ NL ∧ kv = .int .i64 q ∧ Below bf wc wy ∧ wy.ownsRow bf 2 1 fv fl.length (ints fl) ∧ FstL L q fl) (fun _ kv _ => NL - (intOf kv).toNat)
              case atStart => exact ⟨[], 0, Nat.zero_le _, rfl, HB8.out, HO8.out, FstL.nil L⟩
              case round =>
                obtain ⟨wy, rfl⟩ : ∃ x, x = wr := ⟨wr, rfl⟩
                obtain ⟨fl, q, hq, rfl, hbq, how, hfst⟩ := hrel
                have HBQ := hide hbq
                have HOW := hide how
                have HFST := hide hfst
                have hflq := hfst.le
                obtain ⟨Af, cf, hv, hres⟩ := own_shape how
                subst hv
                have HRF := hide hres.obj.rd
                have HLy := hide (HLL.out.later (by rw [HBF.out]; exact hbq))
                have hszy := hbq.size
                have hwcf := HBF.out
                obtain ⟨ml, hml⟩ : ∃ m, fl.length = m := ⟨_, rfl⟩
                have HML := hide hml
                rw [hml] at hflq HOW ⊢
                clear hbq how hfst hres HB8 HO8 hml
                by_cases hqn : q < NL
                · have hqz : (q : Int) < NL := by omega
                  have hqL : q < L.length := by rw [HNL.out]; exact hqn
                  obtain ⟨Aq, cq, hcq, hrdq⟩ := HLy.out.at hqL
                  obtain ⟨p, hp⟩ : ∃ p, L.getD q [] = p := ⟨_, rfl⟩
                  rw [hp] at hcq hrdq
                  have hpl : p.length = n := by rw [← HTL.out, ← hp]; exact ((HCL.out.2 _).1 (tgetD_mem L q [] hqL)).len
                  rw [hpl] at hcq
                  obtain ⟨bq, oq, rfl, hblt, hc⟩ := hrdq (by omega)
                  have hc0 := hc 0 (by omega)
                  rw [Nat.add_zero] at hc0
                  obtain ⟨v, hv⟩ : ∃ v, p.getD 0 0 = v := ⟨_, rfl⟩
                  rw [hv] at hc0
                  have HHD : Hid ((L.getD q []).getD 0 0 = v) := hide (by rw [hp, hv])
                  obtain ⟨r, hr⟩ : ∃ r : Bool, r = true ↔ v ∈ fl := bool_of _
                  have HR := hide hr
                  have HCQ := hide hcq
                  have HC0 := hide hc0
                  have hnz : (0 : Int) < n := by omega
                  have hgLl : gL < wy.heap.size := by
                    have h := HLy.out.own
                    rcases h.2 with ⟨hv, _⟩ | ⟨g', cap, cur, hv, _, hh, _⟩
                    · cases hv
                    · injection hv with hv
                      injection hv with hv
                      injection hv with hv
                      subst hv
                      exact (Array.getElem?_eq_some_iff.1 hh).1
                  clear hp hv hr hc hpl
                  go_wp2_with fail
                  refine (has_any Af ml cf fl v r _ HML.out (by omega) HRF.out HR.out).mono ?_
                  rintro e w9 ⟨rfl, hq9⟩
                  have hb9 := hq9.below wy.heap.size
                  have HB9 := hide (HBQ.out.trans (hb9.mono (by omega)))
                  have HOW9 := hide (ownsRow_below HOW.out hb9)
                  have hcq9 := (hb9.cell (p := ⟨gL, q, none⟩) hgLl).trans HCQ.out
                  have hc09 := (hb9.cell (p := ⟨bq, oq, none⟩) hblt).trans HC0.out
                  clear hq9 hb9 hcq hc0
                  cases r with
                  | true =>
                    have HFN := hide (HFST.out.old (by rw [HHD.out]; exact HR.out.1 rfl))
                    clear HR
                    go_wp2_with fail
                    go_roundw
                    case rel => exact ⟨fl, q + 1, by omega, by go_num, HB9.out, by rw [HML.out]; exact HOW9.out, HFN.out⟩
                    case measure => simp [intOf]; omega
                  | false =>
                    have HFN := hide (HFST.out.new (by rw [HHD.out]; exact fun h => by have h2 := HR.out.2 h; cases h2))
                    rw [HHD.out] at HFN
                    clear HR
                    have hs9 : bf ≤ w9.heap.size := by have := HB9.out.size; omega
                    go_wp2_with (at_builtin; refine wpList_append_own_at _ rfl _ _ 26 rfl bf 2 i0' (.int .i64 0) 1 8 Try.underlying26 hinf hz0 hz1 hz2 rfl (by decide) _ _ _ rfl (HOW9.out.alloc _) ⟨w9.heap.size, 0, none⟩ 1 1 [.int .i64 v] rfl rfl (World.news_of_block (cs := #[.int .i64 v]) (t := 2) (fr := (0, 0)) (heap_alloc_new w9 _)) ?f2 ?f3 ?f4 ?f5 ?_)
                    case f2 => intro u hu; simp at hu; subst hu; rfl
                    case f3 => unfold maxLen; omega
                    case f4 => omega
                    case f5 => simp; omega
                    intro v10 w10 hown10 hgrow10 _ _
                    have hol := fun g hg => (HOW9.out.alloc (.cells #[.int .i64 v] 2)).lt g hg
                    have HB10 : Hid (Below bf wc w10) := hide ((HB9.out.alloc hs9 _).grown hgrow10 (by simp; omega) (fun g hg => by have := (hol g hg).1; omega))
                    have HOW10 : Hid (w10.ownsRow bf 2 1 v10 (fl ++ [v]).length (ints (fl ++ [v]))) := hide (by
                      rw [List.length_append, HML.out]
                      have e : ints (fl ++ [v]) = ints fl ++ [.int .i64 v] := by simp [ints]
                      rw [e]
                      exact hown10)
                    clear hown10 hgrow10 hol hcq9 hc09
                    go_wp2_with fail
                    go_roundw
                    case rel => exact ⟨fl ++ [v], q + 1, by omega, by go_num, HB10.out, HOW10.out, HFN.out⟩
                    case measure => simp [intOf]; omega
                · have hqe : q = NL := by omega
                  have hqz : ¬ (q : Int) < NL := by omega
                  have hfin := FstL.full (lamS_of HS.out HN.out HND.out.1 HINV.out) h12.1 HTIN.out HTL.out HCL.out (by rw [HNL.out, ← hqe]; exact HFST.out)
                  rw [HML.out] at hfin
                  have HFIN := hide hfin
                  have HBxy : Hid (Below wx.heap.size wx wy) := hide (HBY.out.trans (HBQ.out.mono hxf))
                  have kz2 := (HBxy.out.cell (p := ⟨gZ, i, none⟩) HXZ.out).trans HCI.out
                  clear hfin
                  by_cases hmn : ml = n
                  · have hmz : ((ml : Int) == (n : Int)) = true := by rw [hmn]; simp
                    have hie : i = i0 := HUNIQ.out i HIZ.out (by rw [HT.out]; exact HFIN.out.2.1 hmn)
                    have hkn : kz = n := by rw [← HKZ.out, ← hie, HT.out]; exact HTL.out
                    have hbf : Below w.heap.size w wy := HBw.out.trans (HBxy.out.mono HBw.out.size)
                    have HBf := hide hbf
                    have HRO : Hid (Res 2 w.heap.size wy Ai t) := hide ((HOB.out.later HBxy.out).res HB5.out.size)
                    have HIE := hide hie
                    have HKN := hide hkn
                    clear hbf hie hkn hmn HFIN
                    go_wp2_with fail
                    go_ret2
                    refine ⟨Ai, ci, by rw [HKN.out]; rfl, HBf.out, ?_⟩
                    rw [← HIE.out]
                    have h := HRO.out
                    rw [← HT.out, ← HZE.out, List.getD_eq_getElem?_getD] at h
                    exact h
                  · have hmz : ((ml : Int) == (n : Int)) = false := by simp; omega
                    have hine : i ≠ i0 := fun e => hmn (HFIN.out.2.2 (by rw [← HT.out, e]; exact HFULL.out))
                    have HBn : Hid (Below bw w6 wy) := hide (HB.out.trans (HBxy.out.mono (by have := HB.out.size; have := HBE.out; omega)))
                    go_wp2_with fail
                    go_roundw
                    case rel => exact ⟨i + 1, by omega, by go_num, HBn.out⟩
                    case measure => simp [intOf]; omega
        · obtain ⟨rfl, rfl⟩ := BIG.out ⟨HND.out, HINV.out⟩ (by omega)
          obtain rfl : kz = 0 := by simpa using HKZ.out.symm
          have h5z : (5 : Int) < n := by omega
          clear BAD BIG GOOD
          go_wp2_with fail
          go_ret2
          exact ⟨_, _, rfl, HB5.out, .inl ⟨rfl, rfl⟩⟩
  · have HS := hide hs
    obtain ⟨rfl, rfl⟩ : zs = [] ∧ code = 1 := by
      rcases hres with ⟨_, h⟩ | ⟨h, _⟩ | ⟨h, _⟩ | ⟨h, _⟩
      · exact h
      · exact absurd h hs
      · exact absurd h hs
      · exact absurd h hs
    obtain rfl : kz = 0 := by simpa using hkz.symm
    clear hz hkz hres hs
    go_enter Try.func8, Try.ntmps8
    have k0 := HK0.out.cell 0 _ rfl
    have k1 := HK0.out.cell 1 _ rfl
    go_wp2_with fail
    clear k0 k1
    refine (isS_any _ _ _ f _ _ _ s false _ (HZ.out.later HB0.out) ⟨fun h => absurd h (by simp), fun h => absurd h HS.out⟩).mono ?_
    rintro e w1 ⟨rfl, hb1⟩
    have HB1 := hide (HB0.out.trans (hb1.mono HB0.out.size))
    clear hb1
    go_wp2_with fail
    go_ret2
    exact ⟨_, _, rfl, HB1.out, .inl ⟨rfl, rfl⟩⟩
end Go.Proofs.Ytbhlcfcmjildmaa
namespace Go.Proofs.Ytbhlcfcmjildmaa
open Go Go.RowKit Go.Shelf
open Classical
set_option maxHeartbeats 4000000
/-- The last of the first k rows that all elements divide. -/
noncomputable def gaL (h1 h2 : Nat → Nat → Int) (n : Nat) (Z : List (List Int)) : Nat → List Int
  | 0 => []
  | k + 1 => if Full h1 h2 n (Z.getD k []) then Z.getD k [] else gaL h1 h2 n Z k
theorem gaL_one {h1 h2 : Nat → Nat → Int} {n : Nat} {Z : List (List Int)} {i : Nat} (hi : i < Z.length) (hf : Full h1 h2 n (Z.getD i [])) (hu : ∀ j, j < Z.length → Full h1 h2 n (Z.getD j []) → j = i) : gaL h1 h2 n Z Z.length = Z.getD i [] := by
  have h : ∀ k, k ≤ Z.length → i < k → gaL h1 h2 n Z k = Z.getD i [] := by
    intro k
    induction k with
    | zero => intro _ h; omega
    | succ k ih =>
      intro hk hik
      unfold gaL
      by_cases h : Full h1 h2 n (Z.getD k [])
      · rw [if_pos h, hu k (by omega) h]
      · rw [if_neg h]
        exact ih (by omega) (by
          have : i ≠ k := fun e => h (e ▸ hf)
          omega)
  exact h _ (Nat.le_refl _) hi
/-- All elements divide a word, told by its class. -/
theorem full_cls {h1 h2 : Nat → Nat → Int} {n : Nat} {t : List Int} {C : List (List Int)} (hC : Cls h1 h2 t C) : Full h1 h2 n t ↔ ∀ x : Nat, x < n → ∃ p, p ∈ C ∧ p.getD 0 0 = x := by
  constructor
  · intro h x hx
    obtain ⟨p, h1, h2⟩ := h x (by omega) (by omega)
    exact ⟨p, (hC.2 p).2 h1, h2⟩
  · intro h x h0 h1
    obtain ⟨p, h2, h3⟩ := h x.toNat (by omega)
    exact ⟨p, (hC.2 p).1 h2, by omega⟩
/-- What the loop over the orbits holds: the row so far, in a box; the pair and the number of letters. -/
structure GwJ (w : World) (gb sb nb n : Nat) (S : List Value) (r : List Int) (L : Nat) (U : Nat → Prop) (W : World) : Prop where
  below : Below w.heap.size w W
  ex : ∃ A m c, Blk W gb 26 [.slice A m c] ∧ r.length = m ∧ Obj1 2 (gb + 1) W.heap.size W A r ∧ ∀ g, A = some ⟨g, 0, none⟩ → g ≠ L
  ss : Blk W sb 29 S
  nn : Blk W nb 2 [.int .i64 n]
  nU : ¬ U gb
  nL : gb ≠ L
  sL : sb ≠ L
  nnL : nb ≠ L
theorem GwJ.step {w W W' : World} {gb sb nb n : Nat} {S : List Value} {r : List Int} {L : Nat} {U U' : Nat → Prop} (h : GwJ w gb sb nb n S r L U W) (hL : w.heap.size ≤ L) (hs : StepL L W W') (hu : ∀ b, U' b → U b ∨ W.heap.size ≤ b) : GwJ w gb sb nb n S r L U' W' := by
  obtain ⟨A, m, c, h1, h2, h3, h4⟩ := h.ex
  have hlt := h1.lt
  refine ⟨hs.below h.below h.below.size hL, ⟨A, m, c, (hs.same _ hlt h.nL).trans h1, h2, ?_, h4⟩, (hs.same _ h.ss.lt h.sL).trans h.ss, (hs.same _ h.nn.lt h.nnL).trans h.nn, fun h5 => ?_, h.nL, h.sL, h.nnL⟩
  · rcases h3 with h3 | ⟨g, e1, e2, e3, e4⟩
    · exact .inl h3
    · exact .inr ⟨g, e1, e2, Nat.lt_of_lt_of_le e3 hs.size, e4.of_block (hs.same g e3 (h4 g e1))⟩
  · rcases hu _ h5 with h6 | h6
    · exact h.nU h6
    · omega
theorem GwJ.put {w W : World} {gb sb nb n : Nat} {S : List Value} {r : List Int} {L b : Nat} {U : Nat → Prop} {o : Obj} (o' : Obj) (h : GwJ w gb sb nb n S r L U W) (hb : w.heap.size ≤ b) (ho : W.heap[b]? = some o) (hc : o.isCells = false) : GwJ w gb sb nb n S r L U (W.putObj b o') := by
  obtain ⟨A, m, c, h1, h2, h3, h4⟩ := h.ex
  have hne : ∀ g cs ty, W.heap[g]? = some (.cells cs ty (0, 0)) → g ≠ b := fun g cs ty hg e => by
    subst e
    rw [hg] at ho
    injection ho with ho
    subst ho
    cases hc
  refine ⟨h.below.grown (grownBy_putObj' W b o') h.below.size (fun k e => by cases e; exact hb), ⟨A, m, c, (World.putObj_heap_other (hne _ _ _ h1)).trans h1, h2, ?_, h4⟩, (World.putObj_heap_other (hne _ _ _ h.ss)).trans h.ss, (World.putObj_heap_other (hne _ _ _ h.nn)).trans h.nn, h.nU, h.nL, h.sL, h.nnL⟩
  rcases h3 with h3 | ⟨g, e1, e2, e3, cur, e4, e5⟩
  · exact .inl h3
  · exact .inr ⟨g, e1, e2, by simpa using e3, cur, (World.putObj_heap_other (hne _ _ _ e4)).trans e4, e5⟩
theorem GwJ.keep {w W W1 : World} {gb sb nb n D : Nat} {S : List Value} {r : List Int} {L : Nat} {U : Nat → Prop} (h : GwJ w gb sb nb n S r L U W) (hD : D + 2 ≤ W.heap.size) (hb : Below W.heap.size W W1) : KeepR D W W1 ∧ KeepU U W W1 ∧ GwJ w gb sb nb n S r L U W1 := by
  have hsz := hb.size
  obtain ⟨A, m, c, h1, h2, h3, h4⟩ := h.ex
  refine ⟨⟨hsz, fun b h5 h6 => hb.block b (by omega)⟩, ⟨hsz, fun b h5 _ => hb.block b h5⟩, ⟨h.below.trans (hb.mono h.below.size), ⟨A, m, c, h1.later hb, h2, ?_, h4⟩, h.ss.later hb, h.nn.later hb, h.nU, h.nL, h.sL, h.nnL⟩⟩
  exact (h3.later hb).mono (Nat.le_refl _) hsz
theorem GwJ.set {w W W1 W2 : World} {gb sb nb n D : Nat} {S : List Value} {r r' : List Int} {L m c : Nat} {U : Nat → Prop} {A : Option Addr} (h : GwJ w gb sb nb n S r L U W) (hw : w.heap.size ≤ gb) (hgD : gb < D) (hsn : sb < gb ∧ nb < gb) (hD : D + 2 ≤ W.heap.size) (hL : L < W.heap.size) (hb1 : Below W.heap.size W W1) (hb2 : Below W1.heap.size W1 W2) (hr : Res 2 W1.heap.size W2 A r') (hm : r'.length = m) :
    KeepR D W (W2.setCell ⟨gb, 0, none⟩ (.slice A m c)) ∧ KeepU U W (W2.setCell ⟨gb, 0, none⟩ (.slice A m c)) ∧ GwJ w gb sb nb n S r' L U (W2.setCell ⟨gb, 0, none⟩ (.slice A m c)) := by
  have hb := hb1.trans (hb2.mono hb1.size)
  have hsz := hb.size
  have hs1 := hb1.size
  obtain ⟨A0, m0, c0, h1, _, _, _⟩ := h.ex
  have hgl := h1.lt
  have hsf : (W2.setCell ⟨gb, 0, none⟩ (.slice A m c)).heap.size = W2.heap.size := by simp [World.setCell]
  have hst : ∀ b, b ≠ gb → (W2.setCell ⟨gb, 0, none⟩ (.slice A m c)).heap[b]? = W2.heap[b]? := fun b hn => Below.heap_setCell W2 ⟨gb, 0, none⟩ _ b hn
  refine ⟨⟨by omega, fun b h5 h6 => (hst b (by omega)).trans (hb.block b (by omega))⟩, ⟨by omega, fun b h5 h6 => (hst b (fun e => h.nU (e ▸ h6))).trans (hb.block b h5)⟩, ⟨?_, ⟨A, m, c, (h1.later hb).set 0 _, hm, ?_, fun g hg => ?_⟩, (hst sb (by omega)).trans (h.ss.later hb), (hst nb (by omega)).trans (h.nn.later hb), h.nU, h.nL, h.sL, h.nnL⟩⟩
  · exact (h.below.trans (hb.mono h.below.size)).setCell (p := ⟨gb, 0, none⟩) hw _
  · rcases hr with hr | ⟨g, e1, e2, e3⟩
    · exact .inl hr
    · exact .inr ⟨g, e1, by omega, by rw [hsf]; exact e3.lt, e3.far (p := ⟨gb, 0, none⟩) (by show g ≠ gb; omega) _⟩
  · rcases hr with ⟨h5, _⟩ | ⟨g2, e1, e2, _⟩
    · rw [h5] at hg; cases hg
    · rw [e1] at hg
      injection hg with hg
      injection hg with hg
      omega
end Go.Proofs.Ytbhlcfcmjildmaa
