import Derived.Test.YtiaebilcgmahlaaCr
import Derived.Test.YtiaebilcgmahlaaCq
import Derived.Shelf.RegionOpen
import Derived.LoopNIn
import Derived.LoopIn
import Derived.RegionIn
import Derived.Test.YtiaebilcgmahlaaCb
import Derived.Test.YtiaebilcgmahlaaCf
import Derived.Test.YtiaebilcgmahlaaCl
import Derived.Test.YtiaebilcgmahlaaCe
namespace Go.Proofs.Ytiaebilcgmahlaa
open Go Go.RowKit Go.Shelf
open Classical
attribute [local go_sem] Oper.semAt_some
attribute [-go_sem] Builtin.append_
set_option maxHeartbeats 4000000
theorem OrbT.keep {f s : List (List Int)} {Ls : List (List Int)} {k L : Nat} {v : Array Value} {U : Nat → Prop} {W W' : World} (h : OrbT f s Ls k L v U W) (hk : KeepU U W W') : OrbT f s Ls k L v U W' := by
  obtain ⟨bm, C, h1, h2, h3, h4, h5, h6⟩ := h
  exact ⟨bm, C, h1, h2, h3, MapN.of_block h4 (hk.2 bm h4.lt h2), Nat.lt_of_lt_of_le h5 hk.1, fun b hb => Nat.lt_of_lt_of_le (h6 b hb) hk.1⟩
set_option maxRecDepth 100000 in
theorem normI_any (A : Option Addr) (n c : Nat) (f : List (List Int)) (B : Option Addr) (d : Nat) (s : List (List Int)) (K N g cg B0 : Nat) (Ls : List (List Int)) (w : World) (hz : ZArg 1048576 w A n f B n s) (hs : SolF f s) (hK : K ≤ 12) (hN : Ls.length = N) (hNb : N ≤ 5000) (hlk : ∀ t, t ∈ Ls → t.length = K) (htu : ∀ t, t ∈ Ls → Tup n t) (hcl : ∀ t, t ∈ Ls → ∀ y, Tch (leH f) (leH s) t y → y ∈ Ls) (hvl : TupS w B0 (.slice (some ⟨g, 0, none⟩) N cg) Ls) (hg : g < w.heap.size) :
    Calls Try.prog 75 #[.agg #[.slice A n c, .slice B n d], .slice (some ⟨g, 0, none⟩) N cg, .int .i64 K] w fun e w' => ∃ v vals, e = .returned v ∧ Below w.heap.size w w' ∧ LstV 25 2 w.heap.size w' v (frs (leH f) (leH s) Ls) vals := by
  have HZ := hide hz
  have HS := hide hs
  have HN := hide hN
  have HLK := hide hlk
  have HTU := hide htu
  have HCLO := hide hcl
  have HVL := hide hvl
  clear hz hs hN hlk htu hcl hvl
  refine (callsIn_wide (n := 6)).1 ?_
  refine callsIn_of_wp_marks Try.func75 rfl trivial ?_ rfl
  simp only [Try.ntmps75, List.size_toArray, List.length_cons, List.length_nil, Nat.reduceAdd, Nat.reduceSub, Array.replicate_succ, Array.replicate_zero, List.push_toArray, List.append_toArray, List.nil_append, List.cons_append]
  refine wpIn_wide.2 ?_
  go_wp2_with fail
  obtain ⟨W0, hW0⟩ : ∃ q, w.heap.size = q := ⟨_, rfl⟩
  have HW0 := hide hW0
  refine calls_gen fun w1 hw1 => ?_
  have HB1 : Hid (Below w.heap.size w w1) := hide (by rw [hw1]; exact ((((Below.refl _ w).alloc (Nat.le_refl _) _).alloc (by simp) _).alloc (by simp; omega) _).alloc (by simp; omega) _)
  have HS1 : Hid (w1.heap.size = W0 + 4) := hide (by rw [hw1]; simp [hW0])
  have HK1 : Hid (Blk w1 (W0 + 1) 3 [.int .i64 K]) := hide (by
    rw [hw1]
    have h := Blk.new (w.alloc (.cells #[.slice A n c, .slice B n d] 29)) 3 [.int .i64 K]
    rw [World.size_alloc, hW0] at h
    exact (h.alloc _).alloc _)
  have HX1 : Hid (Blk w1 (W0 + 3) 22 [.slice (some ⟨W0 + 2, 0, none⟩) 0 0]) := hide (by
    rw [hw1]
    have h := Blk.new (((w.alloc (.cells #[.slice A n c, .slice B n d] 29)).alloc (.cells #[.int .i64 K] 3)).alloc (.cells #[] 25)) 22 [.slice (some ⟨W0 + 2, 0, none⟩) 0 0]
    simpa [hW0] using h)
  have HR1 : Hid (LstV 25 2 (W0 + 2) w1 (.slice (some ⟨W0 + 2, 0, none⟩) 0 0) [] []) := hide (by
    have h := LstV.start ((w.alloc (.cells #[.slice A n c, .slice B n d] 29)).alloc (.cells #[.int .i64 K] 3)) 25 2
    have e : ((w.alloc (.cells #[.slice A n c, .slice B n d] 29)).alloc (.cells #[.int .i64 K] 3)).heap.size = W0 + 2 := by simp [hW0]
    rw [e] at h
    rw [hw1]
    exact h.later ((Below.refl _ _).alloc (Nat.le_refl _) _))
  clear hw1
  refine (orbC_any A B (some ⟨g, 0, none⟩) n c n d N cg K _).mono ?_
  rintro e w2 ⟨rfl, hw2⟩
  have hs1 : w1.heap.size = W0 + 4 := HS1.out
  have hb2 : Below w1.heap.size w1 w2 := by rw [hw2]; exact (((Below.refl _ _).alloc (Nat.le_refl _) _).alloc (by simp) _).alloc (by simp; omega) _
  have HB2 := hide (HB1.out.trans (hb2.mono HB1.out.size))
  have HX2 := hide (HX1.out.later hb2)
  have HR2 := hide (HR1.out.later hb2)
  have HK2 := hide (HK1.out.later hb2)
  have HS2 : Hid (w2.heap.size = W0 + 7) := hide (by rw [hw2]; simp [hs1])
  have HP4 : Hid (Blk w2 (W0 + 4) 29 [.slice A n c, .slice B n d]) := hide (by
    rw [hw2]
    have h := Blk.new w1 29 [.slice A n c, .slice B n d]
    rw [hs1] at h
    exact (h.alloc _).alloc _)
  have HP5 : Hid (Blk w2 (W0 + 5) 73 [.slice (some ⟨g, 0, none⟩) N cg]) := hide (by
    rw [hw2]
    have h := Blk.new (w1.alloc (.cells #[.slice A n c, .slice B n d] 29)) 73 [.slice (some ⟨g, 0, none⟩) N cg]
    rw [World.size_alloc, hs1] at h
    exact h.alloc _)
  have HP6 : Hid (Blk w2 (W0 + 6) 3 [.int .i64 K]) := hide (by
    rw [hw2]
    have h := Blk.new ((w1.alloc (.cells #[.slice A n c, .slice B n d] 29)).alloc (.cells #[.slice (some ⟨g, 0, none⟩) N cg] 73)) 3 [.int .i64 K]
    simpa [hs1] using h)
  clear hw2 hb2
  rw [hs1, hW0]
  clear hs1
  have e1 : W0 + 1 + 1 + 1 = W0 + 3 := rfl
  have e2 : W0 + 1 + 1 = W0 + 2 := rfl
  have e3 : W0 + 4 + 1 = W0 + 5 := rfl
  have e4 : W0 + 4 + 2 = W0 + 6 := rfl
  rw [e1, e2, e3, e4]
  clear e1 e2 e3 e4
  go_wp2_with fail
  have hs2 : w2.heap.size = W0 + 7 := HS2.out
  have hgW : g < W0 := by omega
  have h0 : ∀ L, w2.heap.size + 2 ≤ L → NaI w w2.heap.size (W0 + 3) (W0 + 1) (W0 + 2) K [] L (fun b => b < w.heap.size ∨ b = W0 + 4 ∨ b = W0 + 5 ∨ b = W0 + 6) w2 := fun L hL =>
    ⟨HB2.out, ⟨_, [], HX2.out, HR2.out, HR2.out.ltF (.inl (by omega)), fun g0 hg0 => by
      have e : W0 + 2 = g0 := by simpa [Value.ownBlock] using hg0
      exact ⟨fun h => by rcases h with h | h | h | h <;> omega, .inl (by omega)⟩⟩, HK2.out, fun h => by rcases h with h | h | h | h <;> omega, by omega, by omega⟩
  have hlf : ∀ k, ((frs (leH f) (leH s) Ls).getD k []).length ≤ 12 := fun k => by
    by_cases h : k < (frs (leH f) (leH s) Ls).length
    · rw [HLK.out _ (frs_sub _ _ (tgetD_mem _ k [] h))]; exact hK
    · simp [List.getD_eq_getElem?_getD, List.getElem?_eq_none (Nat.le_of_not_lt h)]
  have HLF := hide hlf
  clear hlf
  refine (wpIn_wide (n := 5)).1 ?_
  refine wpIn_iterN (gf := 103) (lb := #[.pointer (some ⟨W0 + 5, 0, none⟩), .pointer (some ⟨W0 + 4, 0, none⟩), .pointer (some ⟨W0 + 6, 0, none⟩)]) rfl (enters_of Try.func103 (by kernel_rfl) rfl) (N := (frs (leH f) (leH s) Ls).length) (T := OrbT f s Ls) (U0 := fun b => b < w.heap.size ∨ b = W0 + 4 ∨ b = W0 + 5 ∨ b = W0 + 6)
    (orbI_any A n c f B d s K N g cg (W0 + 5) (W0 + 4) (W0 + 6) B0 Ls _ w w2 HZ.out HS.out hK HN.out hNb HLK.out HTU.out HCLO.out HB2.out (fun b hb => .inl hb) (fun b hb => by rcases hb with h | h | h | h <;> omega) (.inr (.inr (.inl rfl))) (.inr (.inl rfl)) (.inr (.inr (.inr rfl))) (.inl hg) HP5.out HP4.out HP6.out (HVL.out.later HB2.out) 5)
    (fun k L v U W h => by obtain ⟨bm, C, rfl, _⟩ := h; rfl) (fun k L v U W W' h hk => h.keep hk) (fun b hb => by rcases hb with h | h | h | h <;> omega)
    (fun k L U W => NaI w w2.heap.size (W0 + 3) (W0 + 1) (W0 + 2) K ((frs (leH f) (leH s) Ls).take k) L U W) (fun _ _ _ _ _ => False)
    (fun k L U U' W W' hL h hs hu => h.step (by omega) hs hu) (fun k L U W b o o' hb _ _ ho hc h => h.put o' (by omega) ho hc) (fun _ _ _ _ _ _ _ _ _ _ _ _ h => h)
    (fun L hL => h0 L (by omega))
    (fun k v a' W => ∃ (p0 p1 p2 p3 p4 p5 p6 p7 p8 p9 p10 p11 : Int) (R : Nat) (u15 : Value), pad12 ((frs (leH f) (leH s) Ls).getD k []) = [p0, p1, p2, p3, p4, p5, p6, p7, p8, p9, p10, p11] ∧ w2.heap.size + 2 ≤ R ∧ Blk W R 65 [.int .i64 p0, .int .i64 p1, .int .i64 p2, .int .i64 p3, .int .i64 p4, .int .i64 p5, .int .i64 p6, .int .i64 p7, .int .i64 p8, .int .i64 p9, .int .i64 p10, .int .i64 p11] ∧ a' = { tmps := #[.agg #[.slice A n c, .slice B n d], .slice (some ⟨g, 0, none⟩) N cg, .int .i64 K, .pointer (some ⟨W0, 0, none⟩), undef, .pointer (some ⟨W0 + 1, 0, none⟩), .slice none 0 0, .pointer (some ⟨W0 + 3, 0, none⟩), .pointer (some ⟨R, 0, none⟩), .slice (some ⟨W0 + 2, 0, none⟩) 0 0, .agg #[.slice A n c, .slice B n d], .slice (some ⟨g, 0, none⟩) N cg, .int .i64 K, .func (.func 103) #[] #[.pointer (some ⟨W0 + 5, 0, none⟩), .pointer (some ⟨W0 + 4, 0, none⟩), .pointer (some ⟨W0 + 6, 0, none⟩)], .agg #[.int .i64 p0, .int .i64 p1, .int .i64 p2, .int .i64 p3, .int .i64 p4, .int .i64 p5, .int .i64 p6, .int .i64 p7, .int .i64 p8, .int .i64 p9, .int .i64 p10, .int .i64 p11], u15, undef, undef, undef, undef, undef, undef, undef], defers := [] })
    (fun k v a' W b o o' hb ho hc h => ?hap) ?assign ?body ?done ?stop
  case hap =>
    obtain ⟨p0, p1, p2, p3, p4, p5, p6, p7, p8, p9, p10, p11, R, u15, e1, e2, e3, e4⟩ := h
    refine ⟨p0, p1, p2, p3, p4, p5, p6, p7, p8, p9, p10, p11, R, u15, e1, e2, (World.putObj_heap_other (fun e => ?_)).trans e3, e4⟩
    subst e
    rw [show W.heap[R]? = _ from e3] at ho
    injection ho with ho
    subst ho
    cases hc
  case assign =>
    intro l k L v U W K' hT hsz hK
    obtain ⟨bm, C, rfl, _⟩ := hT
    have hpp := pad12_length (HLF.out k)
    obtain ⟨pp, hppe⟩ : ∃ pp, pad12 ((frs (leH f) (leH s) Ls).getD k []) = pp := ⟨_, rfl⟩
    rw [hppe] at hpp
    obtain ⟨p0, p1, p2, p3, p4, p5, p6, p7, p8, p9, p10, p11, rfl⟩ := list12 hpp
    have hkp : tkey ((frs (leH f) (leH s) Ls).getD k []) = .agg #[.int .i64 p0, .int .i64 p1, .int .i64 p2, .int .i64 p3, .int .i64 p4, .int .i64 p5, .int .i64 p6, .int .i64 p7, .int .i64 p8, .int .i64 p9, .int .i64 p10, .int .i64 p11] := by unfold tkey; rw [hppe]; rfl
    rw [hkp]
    gi_wp2
    exact hK _ _ ((Below.refl _ _).alloc (Nat.le_refl _) _) ⟨p0, p1, p2, p3, p4, p5, p6, p7, p8, p9, p10, p11, W.heap.size, _, hppe, hsz, Blk.new _ _ _, rfl⟩
  case body =>
    rintro l k L v U a' W hk hL hUU hI hT ⟨p0, p1, p2, p3, p4, p5, p6, p7, p8, p9, p10, p11, R, u15, hpad, hR, hbR, rfl⟩ hsz
    obtain ⟨vr, vals, hbx, hrow, hfl, hfar⟩ := hI.ex
    have HTK := hide (take_next (L := frs (leH f) (leH s) Ls) hk)
    have htL := frs_sub _ _ (tgetD_mem (frs (leH f) (leH s) Ls) k [] hk)
    obtain ⟨t, ht⟩ : ∃ t, (frs (leH f) (leH s) Ls).getD k [] = t := ⟨_, rfl⟩
    rw [ht] at hpad htL HTK
    have htl : t.length = K := HLK.out t htL
    have hkb : k ≤ 5000 := by have h := frs_len (h1 := leH f) (h2 := leH s) Ls; rw [HN.out] at h; omega
    have HRT : Hid (Rd W.drew (some ⟨R, 0, none⟩) t) := hide (fun _ => ⟨R, 0, rfl, hbR.lt, fun i hi => by
      have h1 := Blk.cell (w := W.drew) hbR i ((.int .i64 ((pad12 t).getD i 0)) : Value) (by
        rw [hpad]
        have hi12 : i < 12 := by omega
        rcases i with _ | _ | _ | _ | _ | _ | _ | _ | _ | _ | _ | _ | i
        all_goals first | rfl | omega)
      rw [Nat.zero_add, h1, pad12_at hi]⟩)
    have HTL := hide htl
    have HNOT : Hid (∀ g, vr.ownBlock = some g → g ≠ W0 + 3) := hide fun g hg e => by
      rcases hrow.own.2 with ⟨h6, _⟩ | ⟨g2, cap, cur, hv, hB, hh, _⟩
      · rw [h6] at hg; simp [Value.ownBlock] at hg
      · rw [hv] at hg
        have e2 : g2 = g := by simpa [Value.ownBlock] using hg
        subst e2 e
        have h5 := hh.symm.trans hbx
        injection h5 with h5
        injection h5 with _ h6
        exact absurd h6 (by decide)
    have HNOTV : Hid (∀ u, u ∈ vals → u.ownBlock ≠ some (W0 + 3)) := hide fun u hu e => by
      obtain ⟨i, hi, hu2⟩ := List.getElem_of_mem hu
      have hil : i < ((frs (leH f) (leH s) Ls).take k).length := by have := ownsRow_len hrow.own; omega
      obtain ⟨A9, c9, h1, h2⟩ := hrow.row i hil
      have h3 : vals[i]? = some u := by rw [List.getElem?_eq_getElem hi, hu2]
      rw [h3] at h1; injection h1 with h1; subst h1
      rcases h2 with ⟨rfl, _⟩ | ⟨g9, rfl, e2, e3, cur, e4, _⟩
      · simp [Value.ownBlock] at e
      · have e5 : g9 = W0 + 3 := by simpa [Value.ownBlock] using e
        subst e5
        have h5 := e4.symm.trans hbx
        injection h5 with h5
        injection h5 with _ h6
        exact absurd h6 (by decide)
    have hlen : ((frs (leH f) (leH s) Ls).take k).length = k := by rw [List.length_take]; omega
    have HLEN := hide hlen
    have HNU := hide hI.nU
    have HNL := hide hI.nL
    have HNK := hide hI.nK
    have HBW := hide hI.below
    have HBX := hide hbx
    have HRW := hide hrow
    have HFL := hide hfl
    have HFAR := hide hfar
    have HKKb := hide hI.kk
    have HSW := hide hsz
    obtain ⟨_, _, _, _, _, _, hLW, hUW⟩ := hT
    have HLW := hide hLW
    have HUW := hide hUW
    obtain ⟨i2, hi, hz0, hz1, hz2⟩ := info_parts neInfo2
    have k0 := hbx.cell 0 _ rfl
    have kf := hbx.frozen 0
    have kK := hI.kk.cell 0 _ rfl
    have HBR := hide hbR
    have hK12z : (K : Int) ≤ 12 := by omega
    clear hI hbx hrow hfl hfar hR hbR hsz hlen hLW hUW htL htl hpad
    have hmx : Try.prog.follows Departure.mixedOrders = true := by kernel_rfl
    have HBD : Hid (Blk W.drew (W0 + 3) 22 [vr]) := hide HBX.out
    have HRD : Hid (LstV 25 2 (W0 + 2) W.drew vr ((frs (leH f) (leH s) Ls).take k) vals) := hide (HRW.out.later ((Below.refl _ _).drew))
    gi_wp2
    gi_region_with_o (first
      | (refine ⟨trivial, ?_⟩; gi_at_call 100; refine (CallsIn.inRound l (callsIn_wide.2 (cloneN_any (some ⟨R, 0, none⟩) K _ t _ HTL.out (by omega) HRT.out))).mono ?_; rintro e W1 ⟨A5, c5, rfl, hb1, hres, _⟩; obtain ⟨g9, c9, W2, hr, hgr, hat, hl, hx2⟩ := nas_put (c5 := c5) hi hz0 hz1 hz2 HBD.out HRD.out (by have := HSW.out; show W0 + 2 ≤ W.heap.size; omega) hb1 HLEN.out hkb HNOT.out HTL.out hres.obj; have k0' : W1.cell? ⟨W0 + 3, 0, none⟩ = some vr := (HBD.out.later hb1).cell 0 _ rfl; have k2' : W2.cell? ⟨W0 + 3, 0, none⟩ = some vr := hx2.cell 0 _ rfl; have kne : W0 + 3 < W1.heap.size := (HBD.out.later hb1).lt; have kne2 : W0 + 3 ≠ W1.heap.size := Nat.ne_of_lt kne; have k3' : (W1.alloc (.cells #[.slice A5 K c5] 25)).cell? ⟨W0 + 3, 0, none⟩ = some vr := ((HBD.out.later hb1).later ((Below.refl _ _).alloc (Nat.le_refl _) _)).cell 0 _ rfl; have kf2 : W2.frozen? ⟨W0 + 3, 0, none⟩ = false := hx2.frozen 0; have HGR := hide hgr; have HAT := hide hat; have HO := hide hl; have HX2 := hide hx2; have HB1 := hide hb1; have HRS := hide hres.obj; clear hgr hat hl hx2 hb1 hres))
    all_goals
      have hfin := nas_fin HBW.out HRW.out HFL.out HKKb.out HFAR.out HLW.out HUW.out HNU.out HNL.out HNK.out (by omega) (by omega) (by omega) (by omega) (by omega) HSW.out HB1.out HRS.out HGR.out HAT.out HO.out HX2.out HNOT.out HNOTV.out
      rw [← HTK.out] at hfin
      exact hfin
  case done =>
    rintro L U W hI hD
    obtain ⟨v, vals, hbx, hl, _, _⟩ := hI.ex
    rw [List.take_of_length_le (Nat.le_refl _)] at hl
    have k0 := hbx.cell 0 _ rfl
    have hl2 : LstV 25 2 (W0 + 2) (W.putObj w2.heap.size (.deferred none)) v (frs (leH f) (leH s) Ls) vals := hl.skip (hl.cellsF hD rfl) (by simp) (fun b _ hn => World.putObj_heap_other hn)
    have HL2 := hide (hl2.monoB (B' := w.heap.size) (by omega))
    have hbf : Below w.heap.size w (W.putObj w2.heap.size (.deferred none)) := hI.below.grown (grownBy_putObj' W _ _) hI.below.size (fun k e => by cases e; omega)
    have HBF := hide hbf
    have HDD := hide hD
    clear hI hbx hl hl2 hD hbf
    gi_wp2
    go_wp2_with fail
    refine ⟨by simp, .inl ⟨_, _, rfl, run_takeDeferred HDD.out, ?_⟩⟩
    refine ⟨_, ?_, v, vals, rfl, HBF.out, HL2.out⟩
    refine (results_tmp (t := 6) rfl _ _ _).trans ?_
    rfl
  case stop =>
    rintro c k L U W _ h _
    exact h.elim
end Go.Proofs.Ytiaebilcgmahlaa
namespace Go.Proofs.Ytiaebilcgmahlaa
open Go Go.RowKit
open Classical
set_option maxHeartbeats 8000000
theorem natI_own {w : World} {B : Nat} {t : TypeId} {v : Value} {qn : List Nat} (h : w.ownsRow B t 1 v qn.length (ints (natI qn))) {i : Nat} (hi : i < qn.length) : ∃ g c, v = .slice (some ⟨g, 0, none⟩) qn.length c ∧ g < w.heap.size ∧ w.cell? ⟨g, i, none⟩ = some (.int .i64 ((qn.getD i 0 : Nat) : Int)) := by
  obtain ⟨g, c, hv, hg, hc⟩ := own_look h (by omega)
  refine ⟨g, c, hv, hg, hc i _ ?_⟩
  rw [← natI_at hi]
  have hl : i < (natI qn).length := by rw [natI_len]; exact hi
  simp [ints, hl]
theorem own_far {w : World} {B n : Nat} {e : TypeId} {v : Value} {xs : List Value} (h : w.ownsRow B e 1 v n xs) {p : Addr} (hp : p.block < B) (u : Value) : (w.setCell p u).ownsRow B e 1 v n xs := by
  refine ⟨h.1, ?_⟩
  rcases h.2 with h2 | ⟨g, cap, cur, hv, hg, hh, r⟩
  · exact .inl h2
  · exact .inr ⟨g, cap, cur, hv, hg, (Below.heap_setCell w p u g (by omega)).trans hh, r⟩
set_option maxRecDepth 100000 in
theorem ctS (A : Option Addr) (n c : Nat) (f : List (List Int)) (B : Option Addr) (k d : Nat) (s : List (List Int)) (x v code : Int) (w : World) (hz : ZArg 1048576 w A n f B k s) (hlo : -9223372036854775808 ≤ x) (hhi : x ≤ 9223372036854775807) (hres : CtR f s x v code) :
    Calls Try.prog 27 #[.agg #[.slice A n c, .slice B k d], .int .i64 x] w fun e w' => e = .returned (.tuple #[.int .i64 v, .int .i64 code]) ∧ Below w.heap.size w w' := by
  have HZ := hide hz
  have HRES := hide hres
  have HB0 := hide ((Below.refl _ w).alloc (Nat.le_refl _) (Obj.cells #[Value.slice A n c, Value.slice B k d] 29))
  have HK0 := hide (Blk.new w 29 [.slice A n c, .slice B k d])
  obtain ⟨wc, hwc⟩ : ∃ wc, CtC f s x wc := CtC.ex f s x
  have HWC := hide hwc
  obtain ⟨r, hr⟩ : ∃ r : Bool, r = true ↔ SolF f s := bool_of _
  have HR := hide hr
  clear hz hres hwc hr
  go_enter Try.func27, Try.ntmps27
  have k0 := HK0.out.cell 0 _ rfl
  have k1 := HK0.out.cell 1 _ rfl
  go_wp2_with fail
  clear k0 k1
  refine (isS_any _ _ _ f _ _ _ s r _ (HZ.out.later HB0.out) HR.out).mono ?_
  rintro e w1 ⟨rfl, hb1⟩
  have HB1 := hide (HB0.out.trans (hb1.mono HB0.out.size))
  have HK1 := hide (HK0.out.later hb1)
  clear hb1
  cases r with
  | false =>
    have hns : ¬ SolF f s := fun h => by have := HR.out.2 h; cases this
    have hw1 : wc = 1 := HWC.out.uniq (.inl ⟨hns, rfl⟩)
    subst hw1
    obtain ⟨rfl, rfl⟩ : v = 0 ∧ code = 1 := by
      rcases HRES.out.cases HWC.out with ⟨h, _⟩ | ⟨_, h1, h2⟩
      · omega
      · exact ⟨h1, h2⟩
    clear hns
    go_wp2_with fail
    go_ret2
    exact ⟨rfl, HB1.out⟩
  | true =>
    have hs := HR.out.1 rfl
    obtain rfl := (HZ.out.same hs.1).symm
    have hn := HZ.out.sz.fl
    have h12 := HZ.out.small hs.1
    have HPB := hide (hs.pb hn)
    have HPM : Hid (PMap f s) := hide hs.1
    have HS := hide hs
    have HN := hide hn
    obtain ⟨r2, hr2⟩ : ∃ r : Bool, r = true ↔ (0 ≤ x ∧ x ≤ 12) := bool_of _
    have HR2 := hide hr2
    clear hs hn hr2
    go_wp2_with fail
    refine (in_any x 0 12 r2 _ HR2.out).mono ?_
    rintro e w2 ⟨rfl, hq2⟩
    have hb2 := hq2.below w1.heap.size
    have HB2 := hide (HB1.out.trans (hb2.mono HB1.out.size))
    have HK2 := hide (HK1.out.later hb2)
    clear hq2 hb2
    cases r2 with
    | false =>
      have hnx : ¬ (0 ≤ x ∧ x ≤ 12) := fun h => by have := HR2.out.2 h; cases this
      have hw2 : wc = 2 := HWC.out.uniq (.inr (.inl ⟨HS.out, hnx, rfl⟩))
      subst hw2
      obtain ⟨rfl, rfl⟩ : v = 0 ∧ code = 2 := by
        rcases HRES.out.cases HWC.out with ⟨h, _⟩ | ⟨_, h1, h2⟩
        · omega
        · exact ⟨h1, h2⟩
      clear hnx
      go_wp2_with fail
      go_ret2
      exact ⟨rfl, HB2.out⟩
    | true =>
      obtain ⟨hx0, hx8⟩ := HR2.out.1 rfl
      obtain ⟨K, rfl⟩ : ∃ K : Nat, x = K := ⟨x.toNat, by omega⟩
      have hK : K ≤ 12 := by omega
      clear hx0 hx8 HR2 hlo hhi
      have k0 := HK2.out.cell 0 _ rfl
      have k1 := HK2.out.cell 1 _ rfl
      go_wp2_with fail
      go_loopw [7, 8] (fun sv iv wr => ∃ j : Nat, j ≤ K ∧ iv = .int .i64 j ∧ sv = .int .i64 ((n ^ j : Nat) : Int) ∧ n ^ j ≤ 5000 ∧ wr = w2) (fun _ iv _ => K - (intOf iv).toNat)
      case atStart => exact ⟨0, Nat.zero_le _, rfl, by simp, by simp, rfl⟩
      case round =>
        obtain ⟨j, hj2, rfl, rfl, hp5, hwr⟩ := hrel
        have hwr := hwr.symm
        subst hwr
        by_cases hlt : j < K
        · obtain ⟨p, hp2⟩ : ∃ p, n ^ j = p := ⟨_, rfl⟩
          rw [hp2] at hp5 ⊢
          have hjz : (j : Int) < K := by omega
          obtain ⟨q, hq⟩ : ∃ q, n ^ (j + 1) = q := ⟨_, rfl⟩
          have hqb : q ≤ 60000 := by
            have h : q = p * n := by rw [← hp2, ← hq, Nat.pow_succ]
            have h2 : p * n ≤ 5000 * 12 := Nat.mul_le_mul hp5 h12.2
            omega
          have hpq : (p : Int) * (n : Int) = (q : Int) := by rw [← hp2, ← hq, Nat.pow_succ]; push_cast; rfl
          have hpq0 : 0 ≤ (p : Int) * (n : Int) := by rw [hpq]; omega
          have hpq1 : (p : Int) * (n : Int) ≤ 60000 := by rw [hpq]; omega
          have HQ := hide hq
          clear hp2 hq
          by_cases hbig : 5000 < q
          · have hbz : (5000 : Int) < (q : Int) := by omega
            have hKM : q ≤ n ^ K := by rw [← HQ.out]; exact Nat.pow_le_pow_right h12.1 hlt
            have hw3 : wc = 3 := HWC.out.uniq (.inr (.inr (.inl ⟨HS.out, ⟨by omega, by omega⟩, by rw [HN.out, Int.toNat_natCast]; omega, rfl⟩)))
            subst hw3
            obtain ⟨rfl, rfl⟩ : v = 0 ∧ code = 3 := by
              rcases HRES.out.cases HWC.out with ⟨h, _⟩ | ⟨_, h1, h2⟩
              · omega
              · exact ⟨h1, h2⟩
            clear hKM
            go_wp2_with fail
            go_ret2
            exact ⟨rfl, HB2.out⟩
          · have hbz : ¬ (5000 : Int) < (q : Int) := by omega
            go_wp2_with fail
            go_roundw
            case rel => exact ⟨j + 1, by omega, by go_num, by rw [HQ.out], by rw [HQ.out]; omega, by first | rfl | trivial⟩
            case measure => simp [intOf]; omega
        · have hjK : j = K := by omega
          have hjz : ¬ (K : Int) < K := by omega
          rw [hjK] at hp5 ⊢
          clear hjK hlt hj2 k0 k1
          obtain ⟨size, hsz⟩ : ∃ z, n ^ K = z := ⟨_, rfl⟩
          have HSZ := hide hsz
          rw [hsz] at hp5 ⊢
          have hmk := run_make_row' (P := Try.prog) 69 4 (.bool false) 1 Try.underlying69 boInfo rfl .i64 .i64 size (by omega) (by omega)
          have hw0 : wc = 0 := HWC.out.uniq (.inr (.inr (.inr ⟨HS.out, ⟨by omega, by omega⟩, by rw [HN.out, Int.toNat_natCast, hsz]; exact hp5, rfl⟩)))
          obtain ⟨rfl, rfl⟩ : v = ((nws (leH f) (leH s) (wds n K)).length : Int) ∧ code = 0 := by
            rcases HRES.out.cases HWC.out with ⟨_, h1, h2⟩ | ⟨h, _⟩
            · rw [HN.out, Int.toNat_natCast] at h1
              exact ⟨h1, h2⟩
            · exact absurd hw0 h
          obtain ⟨i0, hi, hz0, hz1, hz2⟩ := info_parts clInfo
          clear hsz hw0
          go_wp2_with fail
          clear hmk
          refine wp_gen fun w3 hw3 => ?_
          obtain ⟨gs, hgs⟩ : ∃ g, w2.heap.size = g := ⟨_, rfl⟩
          have HBB3 : Hid (BoolB 4 w3 gs size (fun _ => false)) := hide (by rw [hw3, ← hgs]; exact BoolB.made 4 w2 size)
          have HB3 : Hid (Below gs w2 w3) := hide (by rw [hw3, ← hgs]; exact (Below.refl _ _).alloc (Nat.le_refl _) _)
          have HGS := hide hgs
          have hb0 : w.heap.size < gs := by rw [← hgs]; exact HK2.out.lt
          rw [hgs]
          clear hw3 hgs
          go_loopw [10, 11, 12, 13, 14, 15, 16] (fun cv wv _ _ _ _ _ wx => ∃ (j : Nat) (F : Nat → Bool), j ≤ size ∧ wv = .int .i64 j ∧ cv = .int .i64 (((nws (leH f) (leH s) ((wds n K).take j)).length : Nat) : Int) ∧ Below gs w2 wx ∧ BoolB 4 wx gs size F ∧ ∀ i, i < size → (F i = true ↔ ∃ y, y ∈ nws (leH f) (leH s) ((wds n K).take j) ∧ Tch (leH f) (leH s) y (dig n K i))) (fun _ v _ _ _ _ _ _ => size - (intOf v).toNat)
          case atStart => exact ⟨0, fun _ => false, Nat.zero_le _, rfl, by simp [nws], HB3.out, HBB3.out, fun i hi => by simp [nws]⟩
          case round =>
            obtain ⟨wx, rfl⟩ : ∃ x, x = wr := ⟨wr, rfl⟩
            obtain ⟨st, F, hj3, rfl, rfl, hbe, hbb, hF⟩ := hrel
            have HB := hide hbe
            have HBB := hide hbb
            have HF := hide hF
            clear hbe hbb hF HB3 HBB3
            obtain ⟨cn, hcn⟩ : ∃ c, (nws (leH f) (leH s) ((wds n K).take st)).length = c := ⟨_, rfl⟩
            have hcn5 : cn ≤ 5000 := by
              have h := nws_len (h1 := leH f) (h2 := leH s) ((wds n K).take st)
              rw [hcn, List.length_take, wds_len, HSZ.out] at h
              omega
            have HCN := hide hcn
            rw [hcn]
            clear hcn
            by_cases hlt : st < size
            · have hjz : (st : Int) < size := by omega
              have hjp : st < n ^ K := by rw [HSZ.out]; exact hlt
              have HNX := hide (nws_next (h1 := leH f) (h2 := leH s) hjp)
              have HMT := hide (nws_met HPB.out hK hjp)
              have hcell := HBB.out.cell hlt
              have hfroz := HBB.out.frozen st
              obtain ⟨q, hq⟩ : ∃ q, F st = q := ⟨_, rfl⟩
              rw [hq] at hcell
              have HQ := hide hq
              clear hq
              cases q with
              | true =>
                have hnn : nws (leH f) (leH s) ((wds n K).take (st + 1)) = nws (leH f) (leH s) ((wds n K).take st) := by
                  rw [HNX.out, if_neg (HMT.out.1 ((HF.out st hlt).1 HQ.out)), List.append_nil]
                have HNN := hide hnn
                clear hnn
                go_wp2_with fail
                go_roundw
                case rel => exact ⟨st + 1, F, by omega, by go_num, by rw [HNN.out, HCN.out], HB.out, HBB.out, by rw [HNN.out]; exact HF.out⟩
                case measure => simp [intOf]; omega
              | false =>
                have hnw : IsNw (leH f) (leH s) (dig n K st) := by
                  by_cases h : IsNw (leH f) (leH s) (dig n K st)
                  · exact h
                  · have h2 := (HF.out st hlt).2 (HMT.out.2 h)
                    rw [HQ.out] at h2; cases h2
                have HNN : Hid (nws (leH f) (leH s) ((wds n K).take (st + 1)) = nws (leH f) (leH s) ((wds n K).take st) ++ [dig n K st]) := hide (by rw [HNX.out, if_pos hnw])
                clear hnw HNX HMT
                go_upto_region 20 with fail
                refine wp_gen fun w4 hw4 => ?_
                obtain ⟨gq, hgq⟩ : ∃ g, wx.heap.size = g := ⟨_, rfl⟩
                have hss : (wx.setCell ⟨gs, st, none⟩ (.bool true)).heap.size = gq := by rw [← hgq]; simp [World.setCell]
                have hgsq : gs < gq := by rw [← hgq]; exact HBB.out.lt
                have HBB4 : Hid (BoolB 4 w4 gs size (fun a => if a = st then true else F a)) := hide (by rw [hw4]; exact (HBB.out.set st).later ((Below.refl _ _).alloc (Nat.le_refl _) _))
                have HB4 : Hid (Below gs w2 w4) := hide (by rw [hw4]; exact (HB.out.setCell (p := ⟨gs, st, none⟩) (Nat.le_refl _) _).alloc (by rw [hss]; omega) _)
                have HQ4 : Hid (w4.ownsRow (gs + 1) 2 1 (.slice (some ⟨gq, 0, none⟩) 1 1) [st].length (ints (natI [st]))) := hide (by
                  refine ⟨rfl, .inr ⟨gq, 1, #[.int .i64 st], rfl, hgsq, ?_, Nat.le_refl _, by unfold maxLen; omega, rfl, rfl⟩⟩
                  rw [hw4, ← hss]
                  exact heap_alloc_new _ _)
                have HCU4 := hide (CuI.start (h1 := leH f) (h2 := leH s) (n := n) (K := K) (F := F) hlt)
                rw [hgq]
                clear hw4 hcell hfroz hss
                go_wp2_with fail
                go_loopw [12, 13, 14, 15, 16] (fun qv iv _ _ _ we => ∃ (qn : List Nat) (i : Nat) (F' : Nat → Bool), i ≤ qn.length ∧ iv = .int .i64 i ∧ Below gs w2 we ∧ BoolB 4 we gs size F' ∧ we.ownsRow (gs + 1) 2 1 qv qn.length (ints (natI qn)) ∧ CuI (leH f) (leH s) n K size st F qn i 0 F') (fun _ iv _ _ _ _ => size - (intOf iv).toNat)
                case atStart => exact ⟨[st], 0, _, Nat.zero_le _, rfl, HB4.out, HBB4.out, HQ4.out, HCU4.out⟩
                case round =>
                  obtain ⟨we, rfl⟩ : ∃ x, x = wr := ⟨wr, rfl⟩
                  obtain ⟨qn, i, F', hiq, rfl, hbe, hbb, how, hcu⟩ := hrel
                  have HBe := hide hbe
                  have HBBe := hide hbb
                  have HOWe := hide how
                  have HCU := hide hcu
                  clear hbe hbb how hcu HB4 HBB4 HQ4 HCU4
                  have hql := HCU.out.len
                  by_cases hiq2 : i < qn.length
                  · obtain ⟨g5, c5, hv5, hg5, hcq5⟩ := natI_own HOWe.out hiq2
                    subst hv5
                    obtain ⟨a, ha⟩ : ∃ a, qn.getD i 0 = a := ⟨_, rfl⟩
                    rw [ha] at hcq5
                    have has : a < size := by rw [← ha]; exact HCU.out.lt _ (tgetD_mem qn i 0 hiq2)
                    have HA := hide ha
                    obtain ⟨ql, hqle⟩ : ∃ l, qn.length = l := ⟨_, rfl⟩
                    have HQL := hide hqle
                    rw [hqle] at hiq2 hql ⊢
                    have hiz : (i : Int) < ql := by omega
                    clear ha hqle hiq
                    go_wp2_with fail
                    clear hcq5
                    refine (digitsS_any n K a _ h12.1 h12.2 hK (by omega)).mono ?_
                    rintro e w5 ⟨rfl, hb5, hrow5⟩
                    obtain ⟨gT, hgT⟩ : ∃ g, we.heap.size = g := ⟨_, rfl⟩
                    have hgsT : gs < gT := by rw [← hgT]; exact HBBe.out.lt
                    have HB5 := hide (HBe.out.trans (hb5.mono (by omega)))
                    have HBB5 := hide (HBBe.out.later hb5)
                    have HOW5 := hide (ownsRow_below HOWe.out hb5)
                    rw [hgT] at hrow5
                    have HROW5 := hide hrow5
                    have HNE5 : Hid (∀ g, (Value.slice (some ⟨g5, 0, none⟩) ql c5).ownBlock = some g → g ≠ gT) := hide (fun g hg => by
                      have e : g5 = g := by simpa [Value.ownBlock] using hg
                      omega)
                    rw [hgT]
                    clear hb5 hrow5 hgT
                    go_wp2_with fail
                    go_loopw [12, 15, 16] (fun qv jv _ wf => ∃ (qn : List Nat) (j : Nat) (F' : Nat → Bool), jv = .int .i64 j ∧ j ≤ K ∧ i < qn.length ∧ qn.getD i 0 = a ∧ Below gs w2 wf ∧ BoolB 4 wf gs size F' ∧ wf.ownsRow (gs + 1) 2 1 qv qn.length (ints (natI qn)) ∧ CuI (leH f) (leH s) n K size st F qn i j F' ∧ Row 2 wf gT (dig n K a) ∧ ∀ g, qv.ownBlock = some g → g ≠ gT) (fun _ jv _ _ => K - (intOf jv).toNat)
                    case atStart => exact ⟨qn, 0, F', rfl, Nat.zero_le _, by rw [HQL.out]; exact hiq2, HA.out, HB5.out, HBB5.out, by have h := HOW5.out; first | exact h | (rw [HQL.out] at h ⊢; exact h), HCU.out, HROW5.out, HNE5.out⟩
                    case round =>
                      clear HB5 HBB5 HOW5 HROW5 HNE5 HCU HQL HA HOWe HBBe HBe
                      obtain ⟨wf, rfl⟩ : ∃ x, x = wr := ⟨wr, rfl⟩
                      obtain ⟨qn, j, F', rfl, hjK, hiq3, ha, hbe, hbb, how, hcu, hrow, hne⟩ := hrel
                      have HA := hide ha
                      have HBf := hide hbe
                      have HBBf := hide hbb
                      have HOWf := hide how
                      have HCU := hide hcu
                      have HROWf := hide hrow
                      have HNEf := hide hne
                      have HIQ := hide hiq3
                      have hql3 := hcu.len
                      clear ha hbe hbb how hcu hrow hne hiq3
                      by_cases hjk : j + 1 < K
                      · have hjkz : (j : Int) + 1 < K := by omega
                        have hmv := HCU.out.mv HPB.out hK HSZ.out HIQ.out hjk
                        rw [HA.out] at hmv
                        obtain ⟨y, hy⟩ : ∃ y, mvL (leH f) (leH s) (dig n K a) j = y := ⟨_, rfl⟩
                        rw [hy] at hmv
                        have HY := hide hy
                        have HYW := hide hmv.1
                        obtain ⟨hnl, hnd⟩ := numW_wds K y hmv.1
                        obtain ⟨nx, hnx⟩ : ∃ nx, numW n y = nx := ⟨_, rfl⟩
                        rw [hnx, HSZ.out] at hnl
                        rw [hnx] at hnd
                        have HNXE := hide hnx
                        have HND := hide hnd
                        have HBw := hide (HB2.out.trans (HBf.out.mono (Nat.le_of_lt hb0)))
                        have HKf : Hid (Blk wf w.heap.size 29 [.slice A n c, .slice B n d]) := hide ((HBf.out.block w.heap.size hb0).trans HK2.out)
                        have HRT : Hid (Rd wf (some ⟨gT, 0, none⟩) (dig n K a)) := hide (fun _ => ⟨gT, 0, rfl, HROWf.out.lt, fun i hi => by have h := HROWf.out.cell hi; rw [Nat.zero_add]; exact h⟩)
                        have HTT : Hid (Tup n (dig n K a)) := hide (wds_tup hK (dig_mem (by rw [HSZ.out, ← HA.out]; exact HCU.out.lt _ (tgetD_mem qn i 0 HIQ.out))))
                        have k0 := HKf.out.cell 0 _ rfl
                        have k1 := HKf.out.cell 1 _ rfl
                        clear hmv hy hnx hnd
                        go_wp2_with fail
                        clear k0 k1
                        refine (moveS_any A n c f B d s (some ⟨gT, 0, none⟩) K K (dig n K a) j _ (HZ.out.later HBw.out) HPM.out (dig_len n K a) HRT.out HTT.out hjk).mono ?_
                        rintro e w6 ⟨A6, c6, rfl, hb6, hres6⟩
                        rw [HY.out] at hres6
                        have hgsf : gs ≤ wf.heap.size := Nat.le_of_lt HBBf.out.lt
                        have HB6 := hide (HBf.out.trans (hb6.mono hgsf))
                        have HBB6 := hide (HBBf.out.later hb6)
                        have HOW6 := hide (ownsRow_below HOWf.out hb6)
                        have HROW6 := hide (HROWf.out.later hb6 HROWf.out.lt)
                        have HR6 := hide hres6.obj.rd
                        clear hb6 hres6
                        go_wp2_with fail
                        refine (numberS_any n K c6 A6 y _ h12.1 HYW.out (by rw [HSZ.out]; exact hp5) hK HR6.out).mono ?_
                        rintro e w7 ⟨rfl, hb7⟩
                        have hgs6 : gs ≤ w6.heap.size := Nat.le_of_lt HBB6.out.lt
                        have HB7 := hide (HB6.out.trans (hb7.mono hgs6))
                        have HBB7 := hide (HBB6.out.later hb7)
                        have HOW7 := hide (ownsRow_below HOW6.out hb7)
                        have HROW7 := hide (HROW6.out.later hb7 HROW6.out.lt)
                        rw [HNXE.out]
                        clear hb7 HB6 HBB6 HOW6 HROW6 HR6 HRT HTT
                        have hnxz : (nx : Int) < size := by omega
                        have hcx := HBB7.out.cell hnl
                        have hfx := HBB7.out.frozen nx
                        obtain ⟨b, hb⟩ : ∃ b, F' nx = b := ⟨_, rfl⟩
                        rw [hb] at hcx
                        have HBV := hide hb
                        have HNDM : Hid (dig n K nx = mvL (leH f) (leH s) (dig n K (qn.getD i 0)) j) := hide (by rw [HA.out, HY.out]; exact HND.out)
                        clear hb
                        cases b with
                        | true =>
                          have HCU7 := hide (HCU.out.old HPB.out hK HSZ.out HIQ.out hjk hlt HF.out HQ.out hnl HNDM.out HBV.out)
                          go_wp2_with fail
                          go_roundw
                          case rel => exact ⟨qn, j + 1, F', by go_num, by omega, HIQ.out, HA.out, HB7.out, HBB7.out, HOW7.out, HCU7.out, HROW7.out, HNEf.out⟩
                          case measure => simp [intOf]; omega
                        | false =>
                          have HCU7 := hide (HCU.out.new HPB.out hK HSZ.out HIQ.out hjk hnl HNDM.out HBV.out)
                          go_upto_region 30 with fail
                          refine wp_gen fun w8 hw8 => ?_
                          have HB8 : Hid (Below gs w2 w8) := hide (by rw [hw8]; exact HB7.out.setCell (p := ⟨gs, nx, none⟩) (Nat.le_refl _) _)
                          have HBB8 : Hid (BoolB 4 w8 gs size (fun a => if a = nx then true else F' a)) := hide (by rw [hw8]; exact HBB7.out.set nx)
                          obtain ⟨ql, hqle⟩ : ∃ l, qn.length = l := ⟨_, rfl⟩
                          have HQL := hide hqle
                          have HOW8 : Hid (w8.ownsRow (gs + 1) 2 1 u12 ql (ints (natI qn))) := hide (by rw [hw8, ← hqle]; exact own_far HOW7.out (p := ⟨gs, nx, none⟩) (Nat.lt_succ_self _) _)
                          have HROW8 : Hid (Row 2 w8 gT (dig n K a)) := hide (by rw [hw8]; exact HROW7.out.far (p := ⟨gs, nx, none⟩) (by show gT ≠ gs; omega) _)
                          have hs8 : gs < w8.heap.size := HBB8.out.lt
                          have hqb : ql ≤ 5000 := by omega
                          clear hw8 hqle hcx hfx HB7 HBB7 HOW7 HROW7
                          go_wp2_with (at_builtin; refine wpList_append_own_at _ rfl _ _ 25 rfl (gs + 1) 2 i0 (.int .i64 0) 1 8 Try.underlying25 hi hz0 hz1 hz2 rfl (by decide) _ _ _ rfl (HOW8.out.alloc _) ⟨w8.heap.size, 0, none⟩ 1 1 [.int .i64 nx] rfl rfl (World.news_of_block (cs := #[.int .i64 nx]) (t := 2) (fr := (0, 0)) (heap_alloc_new w8 _)) ?f2 ?f3 ?f4 ?f5 ?_)
                          case f2 => intro u hu; simp at hu; subst hu; rfl
                          case f3 => unfold maxLen; omega
                          case f4 => omega
                          case f5 => simp; omega
                          intro v9 w9 hown9 hgrow9 _ hat9
                          have hal : Below w8.heap.size w8 (w8.alloc (.cells #[.int .i64 nx] 2)) := (Below.refl _ _).alloc (Nat.le_refl _) _
                          have hol := fun g hg => (HOW8.out.alloc (.cells #[.int .i64 nx] 2)).lt g hg
                          have HB9 : Hid (Below gs w2 w9) := hide ((HB8.out.alloc (Nat.le_of_lt hs8) _).grown hgrow9 (by simp; omega) (fun g hg => by have := (hol g hg).1; omega))
                          have HBB9 : Hid (BoolB 4 w9 gs size (fun a => if a = nx then true else F' a)) := hide ((HBB8.out.later hal).of_block (hgrow9.block gs (HBB8.out.later hal).lt (fun e => by have := (hol gs e.symm).1; omega)))
                          have HROW9 : Hid (Row 2 w9 gT (dig n K a)) := hide (by
                            have h1 := HROW8.out.later hal HROW8.out.lt
                            exact (hgrow9.block gT h1.lt (fun e => HNEf.out gT e.symm rfl)).trans h1)
                          have HOW9 : Hid (w9.ownsRow (gs + 1) 2 1 v9 (qn ++ [nx]).length (ints (natI (qn ++ [nx])))) := hide (by
                            rw [natI_app, List.length_append, HQL.out]
                            have e : ints (natI qn ++ [(nx : Int)]) = ints (natI qn) ++ [.int .i64 nx] := by simp [ints]
                            rw [e]
                            exact hown9)
                          have hgTl := HROW8.out.lt
                          have hne9 : ∀ g, v9.ownBlock = some g → g ≠ gT := by
                            intro g hg e
                            rcases hat9 with e2 | e2
                            · rw [e2] at hg; exact HNEf.out g hg e
                            · rw [hg] at e2
                              injection e2 with e2
                              try simp at e2
                              omega
                          have HNE9 := hide hne9
                          have HIQ9 : Hid (i < (qn ++ [nx]).length ∧ (qn ++ [nx]).getD i 0 = a) := hide ⟨by have := HIQ.out; simp; omega, by rw [← HA.out]; simp only [List.getD_eq_getElem?_getD]; rw [List.getElem?_append_left HIQ.out]⟩
                          clear hown9 hgrow9 hat9 hal hol hne9 HOW8 HROW8 HBB8 HB8
                          go_wp2_with fail
                          go_roundw
                          case rel => exact ⟨qn ++ [nx], j + 1, _, by go_num, by omega, HIQ9.out.1, HIQ9.out.2, HB9.out, HBB9.out, HOW9.out, HCU7.out, HROW9.out, HNE9.out⟩
                          case measure => simp [intOf]; omega
                      · have hjkz : ¬ (j : Int) + 1 < K := by omega
                        have HCUn := hide (HCU.out.next (by omega : K ≤ j + 1))
                        have hiq4 := HIQ.out
                        go_wp2_with fail
                        go_roundw
                        case rel => exact ⟨qn, i + 1, F', by omega, by go_num, HBf.out, HBBf.out, HOWf.out, HCUn.out⟩
                        case measure => simp [intOf]; omega
                  · have hil : i = qn.length := by omega
                    have hfin := HCU.out
                    rw [hil] at hfin
                    have HFIN := hide (hfin.fin HSZ.out HF.out)
                    obtain ⟨A5, c5, hv5⟩ : ∃ A5 c5, u12 = .slice A5 qn.length c5 := by
                      rcases HOWe.out.2 with ⟨h1, h2⟩ | ⟨g, cap, cur, h1, _⟩
                      · exact ⟨none, 0, by rw [h1, h2]⟩
                      · exact ⟨_, _, h1⟩
                    subst hv5
                    obtain ⟨ql, hqle⟩ : ∃ l, qn.length = l := ⟨_, rfl⟩
                    rw [hqle] at hil ⊢
                    have hiz : ¬ (i : Int) < ql := by omega
                    clear hfin hqle
                    go_wp2_with fail
                    go_roundw
                    case rel => exact ⟨st + 1, F', by omega, by go_num, by rw [HNN.out, List.length_append, HCN.out]; rfl, HBe.out, HBBe.out, by rw [HNN.out]; exact HFIN.out⟩
                    case measure => simp [intOf]; omega
            · have hsz2 : st = size := by omega
              have hjz : ¬ (st : Int) < size := by omega
              have hall : (wds n K).take st = wds n K := List.take_of_length_le (by rw [wds_len, HSZ.out]; omega)
              rw [hall] at HCN
              have HBz : Hid (Below w.heap.size w wx) := hide (HB2.out.trans (HB.out.mono (Nat.le_of_lt hb0)))
              clear HF hall
              go_wp2_with fail
              go_ret2
              exact ⟨by rw [HCN.out]; rfl, HBz.out⟩
end Go.Proofs.Ytiaebilcgmahlaa
namespace Go.Proofs.Ytiaebilcgmahlaa
open Go Go.RowKit Go.Shelf
open Classical
attribute [local go_sem] Oper.semAt_some
set_option maxHeartbeats 4000000
/-- A round has written one element; nothing was drawn. -/
theorem BoxI.next0 {w W : World} {D L g : Nat} {Bs : List (Nat × TypeId × List Value)} {t : TypeId} {xs : List Int} {U : Nat → Prop} {i : Nat} {v : Int} (h : BoxI w D Bs g t xs L U W) (hi : i < xs.length) : KeepR D W (W.setCell ⟨g, i, none⟩ (.int .i64 v)) ∧ KeepU U W (W.setCell ⟨g, i, none⟩ (.int .i64 v)) ∧ BoxI w D Bs g t (xs.set i v) L U (W.setCell ⟨g, i, none⟩ (.int .i64 v)) := by
  have hu := h.up
  have hsz : (W.setCell ⟨g, i, none⟩ (.int .i64 v)).heap.size = W.heap.size := by simp [World.setCell]
  have hsame : ∀ b, b ≠ g → (W.setCell ⟨g, i, none⟩ (.int .i64 v)).heap[b]? = W.heap[b]? := fun b hb => Below.heap_setCell W ⟨g, i, none⟩ _ b hb
  refine ⟨⟨by omega, fun b h2 h3 => hsame b (by omega)⟩, ⟨by omega, fun b h2 h3 => hsame b fun e => h.nU (e ▸ h3)⟩, ⟨?_, fun p hp => ?_, h.own.set i v hi, h.nU, h.nL, h.low, h.up⟩⟩
  · exact h.below.setCell (p := ⟨g, i, none⟩) h.low _
  · obtain ⟨h1, h3, h4, h5, h6⟩ := h.bx p hp
    exact ⟨(hsame _ h6).trans h1, h3, h4, h5, h6⟩
set_option maxRecDepth 100000 in
theorem ctBad (A : Option Addr) (n c : Nat) (f : List (List Int)) (B : Option Addr) (k d : Nat) (s : List (List Int)) (x wc : Int) (w : World) (hz : ZArg 1048576 w A n f B k s) (hwc : CtC f s x wc) (h0 : wc ≠ 0) :
    Calls Try.prog 28 #[.agg #[.slice A n c, .slice B k d], .int .i64 x] w fun e w' => e = .returned (.tuple #[.int .i64 0, .int .i64 wc]) ∧ Below w.heap.size w w' := by
  have HZ := hide hz
  have HB0 := hide ((Below.refl _ w).alloc (Nat.le_refl _) (Obj.cells #[Value.slice A n c, Value.slice B k d] 29))
  have HK0 := hide (Blk.new w 29 [.slice A n c, .slice B k d])
  have HWC := hide hwc
  obtain ⟨r, hr⟩ : ∃ r : Bool, r = true ↔ SolF f s := bool_of _
  have HR := hide hr
  clear hz hwc hr
  go_enter Try.func28, Try.ntmps28
  have k0 := HK0.out.cell 0 _ rfl
  have k1 := HK0.out.cell 1 _ rfl
  go_wp2_with fail
  clear k0 k1
  refine (isI_any _ _ _ f _ _ _ s r _ (HZ.out.later HB0.out) HR.out).mono ?_
  rintro e w1 ⟨rfl, hb1⟩
  have HB1 := hide (HB0.out.trans (hb1.mono HB0.out.size))
  have HK1 := hide (HK0.out.later hb1)
  clear hb1
  cases r with
  | false =>
    have hns : ¬ SolF f s := fun h => by have := HR.out.2 h; cases this
    have hw1 : wc = 1 := HWC.out.uniq (.inl ⟨hns, rfl⟩)
    subst hw1
    clear hns
    go_wp2_with fail
    go_ret2
    exact ⟨rfl, HB1.out⟩
  | true =>
    have hs := HR.out.1 rfl
    obtain rfl := (HZ.out.same hs.1).symm
    have hn := HZ.out.sz.fl
    have h12 := HZ.out.small hs.1
    have HS := hide hs
    have HN := hide hn
    clear hs hn
    by_cases hx : 0 ≤ x ∧ x ≤ 12
    · obtain ⟨hx0, hx8⟩ := hx
      obtain ⟨K, rfl⟩ : ∃ K : Nat, x = K := ⟨x.toNat, by omega⟩
      have hK8z : ¬ (12 : Int) < (K : Int) := by omega
      have hK0z : ¬ (K : Int) < 0 := by omega
      have k0 := HK1.out.cell 0 _ rfl
      have k1 := HK1.out.cell 1 _ rfl
      go_wp2_with fail
      clear k0 k1
      refine (size_any A n c B n d _ HZ.out.sz.nb).mono ?_
      rintro e w2 ⟨rfl, hb2⟩
      have HB2 := hide (HB1.out.trans (hb2.mono HB1.out.size))
      clear hb2
      go_wp2_with fail
      refine (tuples_any n K _ h12.1 h12.2 (by omega)).mono ?_
      rintro e w3 (⟨hp, _⟩ | ⟨hp, rfl, hb3⟩)
      · exact absurd (HWC.out.uniq (.inr (.inr (.inr ⟨HS.out, ⟨by omega, by omega⟩, by rw [HN.out, Int.toNat_natCast]; exact hp, rfl⟩)))) h0
      · have HB3 := hide (HB2.out.trans (hb3.mono HB2.out.size))
        have hw3 : wc = 3 := HWC.out.uniq (.inr (.inr (.inl ⟨HS.out, ⟨by omega, by omega⟩, by rw [HN.out, Int.toNat_natCast]; exact hp, rfl⟩)))
        subst hw3
        clear hb3 hp
        go_wp2_with fail
        go_ret2
        exact ⟨rfl, HB3.out⟩
    · have hw2 : wc = 2 := HWC.out.uniq (.inr (.inl ⟨HS.out, hx, rfl⟩))
      subst hw2
      by_cases hx0 : x < 0
      · clear hx
        go_wp2_with fail
        go_ret2
        exact ⟨rfl, HB1.out⟩
      · have hx8 : 12 < x := by omega
        clear hx
        go_wp2_with fail
        go_ret2
        exact ⟨rfl, HB1.out⟩
set_option maxRecDepth 100000 in
theorem ctGood (A : Option Addr) (n c : Nat) (f : List (List Int)) (B : Option Addr) (d : Nat) (s : List (List Int)) (K : Nat) (w : World) (hz : ZArg 1048576 w A n f B n s) (hs : SolF f s) (hK : K ≤ 12) (hp5 : n ^ K ≤ 5000) :
    Calls Try.prog 28 #[.agg #[.slice A n c, .slice B n d], .int .i64 K] w fun e w' => e = .returned (.tuple #[.int .i64 ((nws (leH f) (leH s) (wds n K)).length : Int), .int .i64 0]) ∧ Below w.heap.size w w' := by
  have HZ := hide hz
  have h12 := hz.small hs.1
  have HPB := hide (hs.pb hz.sz.fl)
  have HS := hide hs
  have HB0 := hide ((Below.refl _ w).alloc (Nat.le_refl _) (Obj.cells #[Value.slice A n c, Value.slice B n d] 29))
  have HK0 := hide (Blk.new w 29 [.slice A n c, .slice B n d])
  clear hz hs
  refine (callsIn_wide (n := 6)).1 ?_
  refine callsIn_of_wp_marks Try.func28 rfl trivial ?_ rfl
  simp only [Try.ntmps28, List.size_toArray, List.length_cons, List.length_nil, Nat.reduceAdd, Nat.reduceSub, Array.replicate_succ, Array.replicate_zero, List.push_toArray, List.append_toArray, List.nil_append, List.cons_append]
  refine wpIn_wide.2 ?_
  have k0 := HK0.out.cell 0 _ rfl
  have k1 := HK0.out.cell 1 _ rfl
  go_wp2_with fail
  clear k0 k1
  refine (isI_any _ _ _ f _ _ _ s true _ (HZ.out.later HB0.out) ⟨fun _ => HS.out, fun _ => rfl⟩).mono ?_
  rintro e w1 ⟨rfl, hb1⟩
  have HB1 := hide (HB0.out.trans (hb1.mono HB0.out.size))
  have HK1 := hide (HK0.out.later hb1)
  clear hb1
  have hK8z : ¬ (12 : Int) < (K : Int) := by omega
  have hK0z : ¬ (K : Int) < 0 := by omega
  have k0 := HK1.out.cell 0 _ rfl
  have k1 := HK1.out.cell 1 _ rfl
  go_wp2_with fail
  clear k0 k1
  refine (size_any A n c B n d _ HZ.out.sz.nb).mono ?_
  rintro e w2 ⟨rfl, hb2⟩
  have HB2 := hide (HB1.out.trans (hb2.mono HB1.out.size))
  have HK2 := hide (HK1.out.later hb2)
  clear hb2
  go_wp2_with fail
  refine (tuples_any n K _ h12.1 h12.2 hK).mono ?_
  rintro e w3 (⟨_, v3, rfl, hb3, ht3⟩ | ⟨hp, _⟩)
  case inr => omega
  have HB3 := hide (HB2.out.trans (hb3.mono HB2.out.size))
  have HK3 := hide (HK2.out.later hb3)
  have hlen : ∀ t, t ∈ wds n K → t.length ≤ 12 := fun t ht => by rw [((wds_mem K t).1 ht).1]; omega
  have hpos : 0 < n ^ K := Nat.pow_pos h12.1
  obtain ⟨g, cg, hv, _, _, hgB, hgl, _⟩ := ht3.at hlen (i := 0) (by rw [wds_len]; exact hpos)
  rw [wds_len] at hv
  subst hv
  obtain ⟨N, hN⟩ : ∃ N, n ^ K = N := ⟨_, rfl⟩
  have HNN := hide hN
  have HT := hide ht3
  have hs23 : w2.heap.size ≤ g := hgB
  rw [hN] at hp5 HT ⊢
  have hs3 : w.heap.size < w3.heap.size := HK3.out.lt
  clear hb3 ht3 hlen hpos hN
  have k0 := HK3.out.cell 0 _ rfl
  have k1 := HK3.out.cell 1 _ rfl
  go_wp2_with fail
  clear k0 k1
  obtain ⟨W0, hW0⟩ : ∃ q, w3.heap.size = q := ⟨_, rfl⟩
  rw [hW0] at hgl hs3
  refine calls_gen fun w4 hw4 => ?_
  have hb4 : Below w3.heap.size w3 w4 := by rw [hw4]; exact (Below.refl _ _).alloc (Nat.le_refl _) _
  have HB4 := hide (HB3.out.trans (hb4.mono HB3.out.size))
  have HT4 := hide (HT.out.later hb4)
  have HS4 : Hid (w4.heap.size = W0 + 1) := hide (by rw [hw4]; simp [hW0])
  have HX4 : Hid (OwnB 2 w4 W0 [(((0 : Nat) : Int))]) := hide (by rw [hw4, ← hW0]; exact Row.own (Blk.new w3 2 [.int .i64 0]))
  clear hw4 hb4
  rw [hW0]
  refine (orbC_any A B (some ⟨g, 0, none⟩) n c n d N cg K _).mono ?_
  rintro e w5 ⟨rfl, hw5⟩
  have hs4 : w4.heap.size = W0 + 1 := HS4.out
  have hb5 : Below w4.heap.size w4 w5 := by rw [hw5]; exact (((Below.refl _ _).alloc (Nat.le_refl _) _).alloc (by simp) _).alloc (by simp; omega) _
  have HB5 := hide (HB4.out.trans (hb5.mono HB4.out.size))
  have HT5 := hide (HT4.out.later hb5)
  have HX5 : Hid (OwnB 2 w5 W0 [(((0 : Nat) : Int))]) := hide (HX4.out.later hb5 HX4.out.lt)
  have HS5 : Hid (w5.heap.size = W0 + 4) := hide (by rw [hw5]; simp [hs4])
  have HP1 : Hid (Blk w5 (W0 + 1) 29 [.slice A n c, .slice B n d]) := hide (by
    rw [hw5]
    have h := Blk.new w4 29 [.slice A n c, .slice B n d]
    rw [hs4] at h
    exact (h.alloc _).alloc _)
  have HP2 : Hid (Blk w5 (W0 + 2) 73 [.slice (some ⟨g, 0, none⟩) N cg]) := hide (by
    rw [hw5]
    have h := Blk.new (w4.alloc (.cells #[.slice A n c, .slice B n d] 29)) 73 [.slice (some ⟨g, 0, none⟩) N cg]
    rw [World.size_alloc, hs4] at h
    exact h.alloc _)
  have HP3 : Hid (Blk w5 (W0 + 3) 3 [.int .i64 K]) := hide (by
    rw [hw5]
    have h := Blk.new ((w4.alloc (.cells #[.slice A n c, .slice B n d] 29)).alloc (.cells #[.slice (some ⟨g, 0, none⟩) N cg] 73)) 3 [.int .i64 K]
    simpa [hs4] using h)
  clear hw5 hb5
  rw [hs4]
  clear hs4 hW0
  have e3 : W0 + 1 + 1 = W0 + 2 := rfl
  have e4 : W0 + 1 + 2 = W0 + 3 := rfl
  rw [e3, e4]
  clear e3 e4
  go_wp2_with fail
  have hs5 : w5.heap.size = W0 + 4 := HS5.out
  have hPBo := HPB.out
  have hfr : frs (leH f) (leH s) (wds n K) = nws (leH f) (leH s) (wds n K) := frs_all hPBo hK
  have hnl : (nws (leH f) (leH s) (wds n K)).length ≤ 5000 := by have h := nws_len (h1 := leH f) (h2 := leH s) (wds n K); rw [wds_len, HNN.out] at h; omega
  obtain ⟨M, hM⟩ : ∃ M, (nws (leH f) (leH s) (wds n K)).length = M := ⟨_, rfl⟩
  have HM := hide hM
  rw [hM] at hnl
  have hfm : (frs (leH f) (leH s) (wds n K)).length = M := by rw [hfr, hM]
  have h0 : ∀ L, w5.heap.size + 2 ≤ L → BoxI w w5.heap.size [] W0 2 [(((0 : Nat) : Int))] L (fun b => b < w.heap.size ∨ b = W0 + 1 ∨ b = W0 + 2 ∨ b = W0 + 3 ∨ b = g) w5 := fun L hL =>
    ⟨HB5.out, fun p hp => absurd hp List.not_mem_nil, HX5.out, fun h => by rcases h with h | h | h | h | h <;> omega, by omega, by omega, by omega⟩
  have hor := orbI_any A n c f B d s K N g cg (W0 + 2) (W0 + 1) (W0 + 3) _ (wds n K) (fun b => b < w.heap.size ∨ b = W0 + 1 ∨ b = W0 + 2 ∨ b = W0 + 3 ∨ b = g) w w5 HZ.out HS.out hK (by rw [wds_len, HNN.out]) hp5 (fun t ht => ((wds_mem K t).1 ht).1) (fun t ht => wds_tup hK ht) (fun t ht y hy => hy.wds hPBo hK ht) HB5.out (fun b hb => .inl hb) (fun b hb => by rcases hb with h | h | h | h | h <;> omega) (.inr (.inr (.inl rfl))) (.inr (.inl rfl)) (.inr (.inr (.inr (.inl rfl)))) (.inr (.inr (.inr (.inr rfl)))) HP2.out HP1.out HP3.out HT5.out 5
  rw [hfm] at hor
  clear hfr hfm hM hPBo
  generalize decide ((K : Int) < 0) = b13
  generalize decide ((12 : Int) < (K : Int)) = b16
  refine (wpIn_wide (n := 5)).1 ?_
  refine wpIn_iterN (gf := 103) (lb := #[.pointer (some ⟨W0 + 2, 0, none⟩), .pointer (some ⟨W0 + 1, 0, none⟩), .pointer (some ⟨W0 + 3, 0, none⟩)]) rfl (enters_of Try.func103 (by kernel_rfl) rfl) (N := M) (T := OrbT f s (wds n K)) (U0 := fun b => b < w.heap.size ∨ b = W0 + 1 ∨ b = W0 + 2 ∨ b = W0 + 3 ∨ b = g) hor
    (fun k L v U W h => by obtain ⟨bm, C, rfl, _⟩ := h; rfl) (fun k L v U W W' h hk => h.keep hk) (fun b hb => by rcases hb with h | h | h | h | h <;> omega)
    (fun k L U W => BoxI w w5.heap.size [] W0 2 [((k : Nat) : Int)] L U W) (fun _ _ _ _ _ => False)
    (fun k L U U' W W' hL h hs hu => h.step (by omega) hs hu) (fun k L U W b o o' hb _ _ ho hc h => h.put o' hb (by omega)) (fun _ _ _ _ _ _ _ _ _ _ _ _ h => h)
    (fun L hL => h0 L (by omega))
    (fun k v a' W => ∃ (u31 u32 : Value), a' = { tmps := #[.agg #[.slice A n c, .slice B n d], .int .i64 K, .pointer (some ⟨w.heap.size, 0, none⟩), undef, .int .i64 0, .int .i64 0, .slice (some ⟨g, 0, none⟩) N cg, .bool true, .pointer (some ⟨W0, 0, none⟩), .agg #[.slice A n c, .slice B n d], .bool true, .bool false, .int .i64 K, .bool b13, .bool b13, .int .i64 K, .bool b16, .bool (b13 || b16), .tuple #[.slice (some ⟨g, 0, none⟩) N cg, .bool true], .agg #[.slice A n c, .slice B n d], .int .i64 n, .int .i64 K, .tuple #[.slice (some ⟨g, 0, none⟩) N cg, .bool true], .slice (some ⟨g, 0, none⟩) N cg, .bool true, .bool true, .bool false, .agg #[.slice A n c, .slice B n d], .slice (some ⟨g, 0, none⟩) N cg, .int .i64 K, .func (.func 103) #[] #[.pointer (some ⟨W0 + 2, 0, none⟩), .pointer (some ⟨W0 + 1, 0, none⟩), .pointer (some ⟨W0 + 3, 0, none⟩)], u31, u32, undef, undef, undef], defers := [] })
    (fun k v a' W b o o' hb ho hc h => h) ?assign ?body ?done ?stop
  case assign =>
    intro l k L v U W K' hT hsz hK
    obtain ⟨bm, C, rfl, _⟩ := hT
    gi_wp2
    exact hK _ _ (Below.refl _ _) ⟨_, _, rfl⟩
  case body =>
    rintro l k L v U a' W hk hL hUU hI hT ⟨u31, u32, rfl⟩ hsz
    have r0 : W.cell? ⟨W0, 0, none⟩ = some (.int .i64 (k : Int)) := hI.own.cell (i := 0) (by simp)
    have rf := hI.own.frozen 0
    have hkz : (k : Int) ≤ 5000 := by omega
    have HI := hide hI
    clear hI hT
    gi_wp2
    have hfin := HI.out.next0 (i := 0) (v := (k : Int) + 1) (by simp)
    exact hfin
  case done =>
    rintro L U W hI hD
    have r0 : W.cell? ⟨W0, 0, none⟩ = some (.int .i64 (M : Int)) := hI.own.cell (i := 0) (by simp)
    have hbf : Below w.heap.size w (W.putObj w5.heap.size (.deferred none)) := hI.below.grown (grownBy_putObj' W _ _) hI.below.size (fun k e => by cases e; omega)
    have HBF := hide hbf
    have HDD := hide hD
    clear hI hD hbf
    gi_wp2
    go_wp2_with fail
    refine ⟨by simp, .inl ⟨_, _, rfl, run_takeDeferred HDD.out, ?_⟩⟩
    refine ⟨_, ?_, by rw [HM.out], HBF.out⟩
    refine (results_tmp2 (t := 4) (u := 5) rfl _ _ _).trans ?_
    rfl
  case stop =>
    rintro c k L U W _ h _
    exact h.elim
theorem ctI (A : Option Addr) (n c : Nat) (f : List (List Int)) (B : Option Addr) (k d : Nat) (s : List (List Int)) (x v code : Int) (w : World) (hz : ZArg 1048576 w A n f B k s) (hlo : -9223372036854775808 ≤ x) (hhi : x ≤ 9223372036854775807) (hres : CtR f s x v code) :
    Calls Try.prog 28 #[.agg #[.slice A n c, .slice B k d], .int .i64 x] w fun e w' => e = .returned (.tuple #[.int .i64 v, .int .i64 code]) ∧ Below w.heap.size w w' := by
  rcases hres with ⟨h1, h2, rfl⟩ | ⟨h1, h2, rfl⟩
  · exact ctBad A n c f B k d s x code w hz h1 h2
  · obtain ⟨hs, hx, hp⟩ := h1.zero
    obtain rfl := (hz.same hs.1).symm
    have hn := hz.sz.fl
    obtain ⟨K, rfl⟩ : ∃ K : Nat, x = K := ⟨x.toNat, by omega⟩
    rw [hn, Int.toNat_natCast] at hp h2
    subst h2
    exact ctGood A n c f B d s K w hz hs (by omega) hp
end Go.Proofs.Ytiaebilcgmahlaa
