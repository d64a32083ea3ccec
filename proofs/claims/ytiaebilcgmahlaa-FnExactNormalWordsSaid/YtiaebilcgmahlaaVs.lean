import Derived.Test.YtiaebilcgmahlaaVr
import Derived.Test.YtiaebilcgmahlaaVq
import Derived.Shelf.RegionOpen
import Derived.LoopNIn
import Derived.LoopIn
import Derived.RegionIn
import Derived.Test.YtiaebilcgmahlaaVl
import Derived.Test.YtiaebilcgmahlaaVe
namespace Go.Proofs.Ytiaebilcgmahlaa
open Go Go.RowKit Go.Shelf
open Classical
attribute [local go_sem] Oper.semAt_some
attribute [-go_sem] Builtin.append_
set_option maxHeartbeats 4000000
theorem OrbT.keep {f s : List (List Int)} {Ls : List (List Int)} {k L : Nat} {v : Array Value} {U : Nat → Prop} {W W' : World} (h : OrbT f s Ls k L v U W) (hk : KeepU U W W') : OrbT f s Ls k L v U W' := by
  obtain ⟨bm, C, h1, h2, h3, h4, h5, h6⟩ := h
  exact ⟨bm, C, h1, h2, h3, MapN.of_block h4 (hk.2 bm h4.lt h2), Nat.lt_of_lt_of_le h5 hk.1, fun b hb => Nat.lt_of_lt_of_le (h6 b hb) hk.1⟩
set_option maxRecDepth 100000 in
theorem normI_any (A : Option Addr) (n c : Nat) (f : List (List Int)) (B : Option Addr) (d : Nat) (s : List (List Int)) (K N g cg B0 : Nat) (Ls : List (List Int)) (w : World) (hz : ZArg 1048576 w A n f B n s) (hs : SolF f s) (hK : K ≤ 12) (hN : Ls.length = N) (hNb : N ≤ 5000) (hlk : ∀ t, t ∈ Ls → t.length = K) (htu : ∀ t, t ∈ Ls → Tup n t) (hcl : ∀ t, t ∈ Ls → ∀ y, Tch (leH f) (leH s) t y → y ∈ Ls) (hvl : TupS w B0 (.slice (some ⟨g, 0, none⟩) N cg) Ls) (hg : g < w.heap.size) :
    Calls Try.prog 75 #[.agg #[.slice A n c, .slice B n d], .slice (some ⟨g, 0, none⟩) N cg, .int .i64 K] w fun e w' => ∃ v vals, e = .returned v ∧ Below w.heap.size w w' ∧ LstV 25 2 w.heap.size w' v (frs (leH f) (leH s) Ls) vals := by
  have HZ := hide hz
  have HS := hide hs
  have HN := hide hN
  have HLK := hide hlk
  have HTU := hide htu
  have HCLO := hide hcl
  have HVL := hide hvl
  clear hz hs hN hlk htu hcl hvl
  refine (callsIn_wide (n := 6)).1 ?_
  refine callsIn_of_wp_marks Try.func75 rfl trivial ?_ rfl
  simp only [Try.ntmps75, List.size_toArray, List.length_cons, List.length_nil, Nat.reduceAdd, Nat.reduceSub, Array.replicate_succ, Array.replicate_zero, List.push_toArray, List.append_toArray, List.nil_append, List.cons_append]
  refine wpIn_wide.2 ?_
  go_wp2_with fail
  obtain ⟨W0, hW0⟩ : ∃ q, w.heap.size = q := ⟨_, rfl⟩
  have HW0 := hide hW0
  refine calls_gen fun w1 hw1 => ?_
  have HB1 : Hid (Below w.heap.size w w1) := hide (by rw [hw1]; exact ((((Below.refl _ w).alloc (Nat.le_refl _) _).alloc (by simp) _).alloc (by simp; omega) _).alloc (by simp; omega) _)
  have HS1 : Hid (w1.heap.size = W0 + 4) := hide (by rw [hw1]; simp [hW0])
  have HK1 : Hid (Blk w1 (W0 + 1) 3 [.int .i64 K]) := hide (by
    rw [hw1]
    have h := Blk.new (w.alloc (.cells #[.slice A n c, .slice B n d] 29)) 3 [.int .i64 K]
    rw [World.size_alloc, hW0] at h
    exact (h.alloc _).alloc _)
  have HX1 : Hid (Blk w1 (W0 + 3) 22 [.slice (some ⟨W0 + 2, 0, none⟩) 0 0]) := hide (by
    rw [hw1]
    have h := Blk.new (((w.alloc (.cells #[.slice A n c, .slice B n d] 29)).alloc (.cells #[.int .i64 K] 3)).alloc (.cells #[] 25)) 22 [.slice (some ⟨W0 + 2, 0, none⟩) 0 0]
    simpa [hW0] using h)
  have HR1 : Hid (LstV 25 2 (W0 + 2) w1 (.slice (some ⟨W0 + 2, 0, none⟩) 0 0) [] []) := hide (by
    have h := LstV.start ((w.alloc (.cells #[.slice A n c, .slice B n d] 29)).alloc (.cells #[.int .i64 K] 3)) 25 2
    have e : ((w.alloc (.cells #[.slice A n c, .slice B n d] 29)).alloc (.cells #[.int .i64 K] 3)).heap.size = W0 + 2 := by simp [hW0]
    rw [e] at h
    rw [hw1]
    exact h.later ((Below.refl _ _).alloc (Nat.le_refl _) _))
  clear hw1
  refine (orbC_any A B (some ⟨g, 0, none⟩) n c n d N cg K _).mono ?_
  rintro e w2 ⟨rfl, hw2⟩
  have hs1 : w1.heap.size = W0 + 4 := HS1.out
  have hb2 : Below w1.heap.size w1 w2 := by rw [hw2]; exact (((Below.refl _ _).alloc (Nat.le_refl _) _).alloc (by simp) _).alloc (by simp; omega) _
  have HB2 := hide (HB1.out.trans (hb2.mono HB1.out.size))
  have HX2 := hide (HX1.out.later hb2)
  have HR2 := hide (HR1.out.later hb2)
  have HK2 := hide (HK1.out.later hb2)
  have HS2 : Hid (w2.heap.size = W0 + 7) := hide (by rw [hw2]; simp [hs1])
  have HP4 : Hid (Blk w2 (W0 + 4) 29 [.slice A n c, .slice B n d]) := hide (by
    rw [hw2]
    have h := Blk.new w1 29 [.slice A n c, .slice B n d]
    rw [hs1] at h
    exact (h.alloc _).alloc _)
  have HP5 : Hid (Blk w2 (W0 + 5) 73 [.slice (some ⟨g, 0, none⟩) N cg]) := hide (by
    rw [hw2]
    have h := Blk.new (w1.alloc (.cells #[.slice A n c, .slice B n d] 29)) 73 [.slice (some ⟨g, 0, none⟩) N cg]
    rw [World.size_alloc, hs1] at h
    exact h.alloc _)
  have HP6 : Hid (Blk w2 (W0 + 6) 3 [.int .i64 K]) := hide (by
    rw [hw2]
    have h := Blk.new ((w1.alloc (.cells #[.slice A n c, .slice B n d] 29)).alloc (.cells #[.slice (some ⟨g, 0, none⟩) N cg] 73)) 3 [.int .i64 K]
    simpa [hs1] using h)
  clear hw2 hb2
  rw [hs1, hW0]
  clear hs1
  have e1 : W0 + 1 + 1 + 1 = W0 + 3 := rfl
  have e2 : W0 + 1 + 1 = W0 + 2 := rfl
  have e3 : W0 + 4 + 1 = W0 + 5 := rfl
  have e4 : W0 + 4 + 2 = W0 + 6 := rfl
  rw [e1, e2, e3, e4]
  clear e1 e2 e3 e4
  go_wp2_with fail
  have hs2 : w2.heap.size = W0 + 7 := HS2.out
  have hgW : g < W0 := by omega
  have h0 : ∀ L, w2.heap.size + 2 ≤ L → NaI w w2.heap.size (W0 + 3) (W0 + 1) (W0 + 2) K [] L (fun b => b < w.heap.size ∨ b = W0 + 4 ∨ b = W0 + 5 ∨ b = W0 + 6) w2 := fun L hL =>
    ⟨HB2.out, ⟨_, [], HX2.out, HR2.out, HR2.out.ltF (.inl (by omega)), fun g0 hg0 => by
      have e : W0 + 2 = g0 := by simpa [Value.ownBlock] using hg0
      exact ⟨fun h => by rcases h with h | h | h | h <;> omega, .inl (by omega)⟩⟩, HK2.out, fun h => by rcases h with h | h | h | h <;> omega, by omega, by omega⟩
  have hlf : ∀ k, ((frs (leH f) (leH s) Ls).getD k []).length ≤ 12 := fun k => by
    by_cases h : k < (frs (leH f) (leH s) Ls).length
    · rw [HLK.out _ (frs_sub _ _ (tgetD_mem _ k [] h))]; exact hK
    · simp [List.getD_eq_getElem?_getD, List.getElem?_eq_none (Nat.le_of_not_lt h)]
  have HLF := hide hlf
  clear hlf
  refine (wpIn_wide (n := 5)).1 ?_
  refine wpIn_iterN (gf := 103) (lb := #[.pointer (some ⟨W0 + 5, 0, none⟩), .pointer (some ⟨W0 + 4, 0, none⟩), .pointer (some ⟨W0 + 6, 0, none⟩)]) rfl (enters_of Try.func103 (by kernel_rfl) rfl) (N := (frs (leH f) (leH s) Ls).length) (T := OrbT f s Ls) (U0 := fun b => b < w.heap.size ∨ b = W0 + 4 ∨ b = W0 + 5 ∨ b = W0 + 6)
    (orbI_any A n c f B d s K N g cg (W0 + 5) (W0 + 4) (W0 + 6) B0 Ls _ w w2 HZ.out HS.out hK HN.out hNb HLK.out HTU.out HCLO.out HB2.out (fun b hb => .inl hb) (fun b hb => by rcases hb with h | h | h | h <;> omega) (.inr (.inr (.inl rfl))) (.inr (.inl rfl)) (.inr (.inr (.inr rfl))) (.inl hg) HP5.out HP4.out HP6.out (HVL.out.later HB2.out) 5)
    (fun k L v U W h => by obtain ⟨bm, C, rfl, _⟩ := h; rfl) (fun k L v U W W' h hk => h.keep hk) (fun b hb => by rcases hb with h | h | h | h <;> omega)
    (fun k L U W => NaI w w2.heap.size (W0 + 3) (W0 + 1) (W0 + 2) K ((frs (leH f) (leH s) Ls).take k) L U W) (fun _ _ _ _ _ => False)
    (fun k L U U' W W' hL h hs hu => h.step (by omega) hs hu) (fun k L U W b o o' hb _ _ ho hc h => h.put o' (by omega) ho hc) (fun _ _ _ _ _ _ _ _ _ _ _ _ h => h)
    (fun L hL => h0 L (by omega))
    (fun k v a' W => ∃ (p0 p1 p2 p3 p4 p5 p6 p7 p8 p9 p10 p11 : Int) (R : Nat) (u15 : Value), pad12 ((frs (leH f) (leH s) Ls).getD k []) = [p0, p1, p2, p3, p4, p5, p6, p7, p8, p9, p10, p11] ∧ w2.heap.size + 2 ≤ R ∧ Blk W R 65 [.int .i64 p0, .int .i64 p1, .int .i64 p2, .int .i64 p3, .int .i64 p4, .int .i64 p5, .int .i64 p6, .int .i64 p7, .int .i64 p8, .int .i64 p9, .int .i64 p10, .int .i64 p11] ∧ a' = { tmps := #[.agg #[.slice A n c, .slice B n d], .slice (some ⟨g, 0, none⟩) N cg, .int .i64 K, .pointer (some ⟨W0, 0, none⟩), undef, .pointer (some ⟨W0 + 1, 0, none⟩), .slice none 0 0, .pointer (some ⟨W0 + 3, 0, none⟩), .pointer (some ⟨R, 0, none⟩), .slice (some ⟨W0 + 2, 0, none⟩) 0 0, .agg #[.slice A n c, .slice B n d], .slice (some ⟨g, 0, none⟩) N cg, .int .i64 K, .func (.func 103) #[] #[.pointer (some ⟨W0 + 5, 0, none⟩), .pointer (some ⟨W0 + 4, 0, none⟩), .pointer (some ⟨W0 + 6, 0, none⟩)], .agg #[.int .i64 p0, .int .i64 p1, .int .i64 p2, .int .i64 p3, .int .i64 p4, .int .i64 p5, .int .i64 p6, .int .i64 p7, .int .i64 p8, .int .i64 p9, .int .i64 p10, .int .i64 p11], u15, undef, undef, undef, undef, undef, undef, undef], defers := [] })
    (fun k v a' W b o o' hb ho hc h => ?hap) ?assign ?body ?done ?stop
  case hap =>
    obtain ⟨p0, p1, p2, p3, p4, p5, p6, p7, p8, p9, p10, p11, R, u15, e1, e2, e3, e4⟩ := h
    refine ⟨p0, p1, p2, p3, p4, p5, p6, p7, p8, p9, p10, p11, R, u15, e1, e2, (World.putObj_heap_other (fun e => ?_)).trans e3, e4⟩
    subst e
    rw [show W.heap[R]? = _ from e3] at ho
    injection ho with ho
    subst ho
    cases hc
  case assign =>
    intro l k L v U W K' hT hsz hK
    obtain ⟨bm, C, rfl, _⟩ := hT
    have hpp := pad12_length (HLF.out k)
    obtain ⟨pp, hppe⟩ : ∃ pp, pad12 ((frs (leH f) (leH s) Ls).getD k []) = pp := ⟨_, rfl⟩
    rw [hppe] at hpp
    obtain ⟨p0, p1, p2, p3, p4, p5, p6, p7, p8, p9, p10, p11, rfl⟩ := list12 hpp
    have hkp : tkey ((frs (leH f) (leH s) Ls).getD k []) = .agg #[.int .i64 p0, .int .i64 p1, .int .i64 p2, .int .i64 p3, .int .i64 p4, .int .i64 p5, .int .i64 p6, .int .i64 p7, .int .i64 p8, .int .i64 p9, .int .i64 p10, .int .i64 p11] := by unfold tkey; rw [hppe]; rfl
    rw [hkp]
    gi_wp2
    exact hK _ _ ((Below.refl _ _).alloc (Nat.le_refl _) _) ⟨p0, p1, p2, p3, p4, p5, p6, p7, p8, p9, p10, p11, W.heap.size, _, hppe, hsz, Blk.new _ _ _, rfl⟩
  case body =>
    rintro l k L v U a' W hk hL hUU hI hT ⟨p0, p1, p2, p3, p4, p5, p6, p7, p8, p9, p10, p11, R, u15, hpad, hR, hbR, rfl⟩ hsz
    obtain ⟨vr, vals, hbx, hrow, hfl, hfar⟩ := hI.ex
    have HTK := hide (take_next (L := frs (leH f) (leH s) Ls) hk)
    have htL := frs_sub _ _ (tgetD_mem (frs (leH f) (leH s) Ls) k [] hk)
    obtain ⟨t, ht⟩ : ∃ t, (frs (leH f) (leH s) Ls).getD k [] = t := ⟨_, rfl⟩
    rw [ht] at hpad htL HTK
    have htl : t.length = K := HLK.out t htL
    have hkb : k ≤ 5000 := by have h := frs_len (h1 := leH f) (h2 := leH s) Ls; rw [HN.out] at h; omega
    have HRT : Hid (Rd W.drew (some ⟨R, 0, none⟩) t) := hide (fun _ => ⟨R, 0, rfl, hbR.lt, fun i hi => by
      have h1 := Blk.cell (w := W.drew) hbR i ((.int .i64 ((pad12 t).getD i 0)) : Value) (by
        rw [hpad]
        have hi12 : i < 12 := by omega
        rcases i with _ | _ | _ | _ | _ | _ | _ | _ | _ | _ | _ | _ | i
        all_goals first | rfl | omega)
      rw [Nat.zero_add, h1, pad12_at hi]⟩)
    have HTL := hide htl
    have HNOT : Hid (∀ g, vr.ownBlock = some g → g ≠ W0 + 3) := hide fun g hg e => by
      rcases hrow.own.2 with ⟨h6, _⟩ | ⟨g2, cap, cur, hv, hB, hh, _⟩
      · rw [h6] at hg; simp [Value.ownBlock] at hg
      · rw [hv] at hg
        have e2 : g2 = g := by simpa [Value.ownBlock] using hg
        subst e2 e
        have h5 := hh.symm.trans hbx
        injection h5 with h5
        injection h5 with _ h6
        exact absurd h6 (by decide)
    have HNOTV : Hid (∀ u, u ∈ vals → u.ownBlock ≠ some (W0 + 3)) := hide fun u hu e => by
      obtain ⟨i, hi, hu2⟩ := List.getElem_of_mem hu
      have hil : i < ((frs (leH f) (leH s) Ls).take k).length := by have := ownsRow_len hrow.own; omega
      obtain ⟨A9, c9, h1, h2⟩ := hrow.row i hil
      have h3 : vals[i]? = some u := by rw [List.getElem?_eq_getElem hi, hu2]
      rw [h3] at h1; injection h1 with h1; subst h1
      rcases h2 with ⟨rfl, _⟩ | ⟨g9, rfl, e2, e3, cur, e4, _⟩
      · simp [Value.ownBlock] at e
      · have e5 : g9 = W0 + 3 := by simpa [Value.ownBlock] using e
        subst e5
        have h5 := e4.symm.trans hbx
        injection h5 with h5
        injection h5 with _ h6
        exact absurd h6 (by decide)
    have hlen : ((frs (leH f) (leH s) Ls).take k).length = k := by rw [List.length_take]; omega
    have HLEN := hide hlen
    have HNU := hide hI.nU
    have HNL := hide hI.nL
    have HNK := hide hI.nK
    have HBW := hide hI.below
    have HBX := hide hbx
    have HRW := hide hrow
    have HFL := hide hfl
    have HFAR := hide hfar
    have HKKb := hide hI.kk
    have HSW := hide hsz
    obtain ⟨_, _, _, _, _, _, hLW, hUW⟩ := hT
    have HLW := hide hLW
    have HUW := hide hUW
    obtain ⟨i2, hi, hz0, hz1, hz2⟩ := info_parts neInfo2
    have k0 := hbx.cell 0 _ rfl
    have kf := hbx.frozen 0
    have kK := hI.kk.cell 0 _ rfl
    have HBR := hide hbR
    have hK12z : (K : Int) ≤ 12 := by omega
    clear hI hbx hrow hfl hfar hR hbR hsz hlen hLW hUW htL htl hpad
    have hmx : Try.prog.follows Departure.mixedOrders = true := by kernel_rfl
    have HBD : Hid (Blk W.drew (W0 + 3) 22 [vr]) := hide HBX.out
    have HRD : Hid (LstV 25 2 (W0 + 2) W.drew vr ((frs (leH f) (leH s) Ls).take k) vals) := hide (HRW.out.later ((Below.refl _ _).drew))
    gi_wp2
    gi_region_with_o (first
      | (refine ⟨trivial, ?_⟩; gi_at_call 100; refine (CallsIn.inRound l (callsIn_wide.2 (cloneN_any (some ⟨R, 0, none⟩) K _ t _ HTL.out (by omega) HRT.out))).mono ?_; rintro e W1 ⟨A5, c5, rfl, hb1, hres, _⟩; obtain ⟨g9, c9, W2, hr, hgr, hat, hl, hx2⟩ := nas_put (c5 := c5) hi hz0 hz1 hz2 HBD.out HRD.out (by have := HSW.out; show W0 + 2 ≤ W.heap.size; omega) hb1 HLEN.out hkb HNOT.out HTL.out hres.obj; have k0' : W1.cell? ⟨W0 + 3, 0, none⟩ = some vr := (HBD.out.later hb1).cell 0 _ rfl; have k2' : W2.cell? ⟨W0 + 3, 0, none⟩ = some vr := hx2.cell 0 _ rfl; have kne : W0 + 3 < W1.heap.size := (HBD.out.later hb1).lt; have kne2 : W0 + 3 ≠ W1.heap.size := Nat.ne_of_lt kne; have k3' : (W1.alloc (.cells #[.slice A5 K c5] 25)).cell? ⟨W0 + 3, 0, none⟩ = some vr := ((HBD.out.later hb1).later ((Below.refl _ _).alloc (Nat.le_refl _) _)).cell 0 _ rfl; have kf2 : W2.frozen? ⟨W0 + 3, 0, none⟩ = false := hx2.frozen 0; have HGR := hide hgr; have HAT := hide hat; have HO := hide hl; have HX2 := hide hx2; have HB1 := hide hb1; have HRS := hide hres.obj; clear hgr hat hl hx2 hb1 hres))
    all_goals
      have hfin := nas_fin HBW.out HRW.out HFL.out HKKb.out HFAR.out HLW.out HUW.out HNU.out HNL.out HNK.out (by omega) (by omega) (by omega) (by omega) (by omega) HSW.out HB1.out HRS.out HGR.out HAT.out HO.out HX2.out HNOT.out HNOTV.out
      rw [← HTK.out] at hfin
      exact hfin
  case done =>
    rintro L U W hI hD
    obtain ⟨v, vals, hbx, hl, _, _⟩ := hI.ex
    rw [List.take_of_length_le (Nat.le_refl _)] at hl
    have k0 := hbx.cell 0 _ rfl
    have hl2 : LstV 25 2 (W0 + 2) (W.putObj w2.heap.size (.deferred none)) v (frs (leH f) (leH s) Ls) vals := hl.skip (hl.cellsF hD rfl) (by simp) (fun b _ hn => World.putObj_heap_other hn)
    have HL2 := hide (hl2.monoB (B' := w.heap.size) (by omega))
    have hbf : Below w.heap.size w (W.putObj w2.heap.size (.deferred none)) := hI.below.grown (grownBy_putObj' W _ _) hI.below.size (fun k e => by cases e; omega)
    have HBF := hide hbf
    have HDD := hide hD
    clear hI hbx hl hl2 hD hbf
    gi_wp2
    go_wp2_with fail
    refine ⟨by simp, .inl ⟨_, _, rfl, run_takeDeferred HDD.out, ?_⟩⟩
    refine ⟨_, ?_, v, vals, rfl, HBF.out, HL2.out⟩
    refine (results_tmp (t := 6) rfl _ _ _).trans ?_
    rfl
  case stop =>
    rintro c k L U W _ h _
    exact h.elim
end Go.Proofs.Ytiaebilcgmahlaa
namespace Go.Proofs.Ytiaebilcgmahlaa
open Go Go.RowKit
open Classical
set_option maxHeartbeats 4000000
set_option maxRecDepth 100000 in
theorem nmI (A : Option Addr) (n c : Nat) (f : List (List Int)) (B : Option Addr) (k d : Nat) (s : List (List Int)) (x : Int) (zs : List (List Int)) (code : Int) (kz : Nat) (w : World) (hz : ZArg 1048576 w A n f B k s) (hlo : -9223372036854775808 ≤ x) (hhi : x ≤ 9223372036854775807) (hres : NmR f s x zs code) (hkz : zs.length = kz) :
    Calls Try.prog 39 #[.agg #[.slice A n c, .slice B k d], .int .i64 x] w (TPost 25 2 kz zs code w) := by
  have HZ := hide hz
  have HRES := hide hres
  have HKZ := hide hkz
  have HB0 := hide ((Below.refl _ w).alloc (Nat.le_refl _) (Obj.cells #[Value.slice A n c, Value.slice B k d] 29))
  have HK0 := hide (Blk.new w 29 [.slice A n c, .slice B k d])
  obtain ⟨wc, hwc⟩ : ∃ wc, ManyC f s x wc := ManyC.ex f s x
  have HWC := hide hwc
  obtain ⟨r, hr⟩ : ∃ r : Bool, r = true ↔ SolF f s := bool_of _
  have HR := hide hr
  clear hz hres hwc hr hkz
  go_enter Try.func39, Try.ntmps39
  have k0 := HK0.out.cell 0 _ rfl
  have k1 := HK0.out.cell 1 _ rfl
  go_wp2_with fail
  clear k0 k1
  refine (isI_any _ _ _ f _ _ _ s r _ (HZ.out.later HB0.out) HR.out).mono ?_
  rintro e w1 ⟨rfl, hb1⟩
  have HB1 := hide (HB0.out.trans (hb1.mono HB0.out.size))
  have HK1 := hide (HK0.out.later hb1)
  clear hb1
  cases r with
  | false =>
    have hns : ¬ SolF f s := fun h => by have := HR.out.2 h; cases this
    have hw1 : wc = 1 := HWC.out.uniq (.inl ⟨hns, rfl⟩)
    subst hw1
    obtain ⟨rfl, rfl⟩ : zs = [] ∧ code = 1 := by
      rcases HRES.out.cases HWC.out with ⟨h, _⟩ | ⟨_, h1, h2⟩
      · omega
      · exact ⟨h1, h2⟩
    obtain rfl : kz = 0 := by simpa using HKZ.out.symm
    clear hns
    go_wp2_with fail
    go_ret2
    exact ⟨_, _, rfl, HB1.out, .inl ⟨rfl, rfl⟩⟩
  | true =>
    have hs := HR.out.1 rfl
    obtain rfl := (HZ.out.same hs.1).symm
    have hn := HZ.out.sz.fl
    have h12 := HZ.out.small hs.1
    have HS := hide hs
    have HN := hide hn
    clear hs hn
    by_cases hx : 0 ≤ x ∧ x ≤ 8
    · obtain ⟨hx0, hx8⟩ := hx
      obtain ⟨K, rfl⟩ : ∃ K : Nat, x = K := ⟨x.toNat, by omega⟩
      have hK8 : K ≤ 8 := by omega
      have hK8z : ¬ (8 : Int) < (K : Int) := by omega
      have hK0z : ¬ (K : Int) < 0 := by omega
      have k0 := HK1.out.cell 0 _ rfl
      have k1 := HK1.out.cell 1 _ rfl
      go_wp2_with fail
      clear k0 k1
      refine (size_any A n c B n d _ HZ.out.sz.nb).mono ?_
      rintro e w2 ⟨rfl, hb2⟩
      have HB2 := hide (HB1.out.trans (hb2.mono HB1.out.size))
      have HK2 := hide (HK1.out.later hb2)
      clear hb2
      go_wp2_with fail
      refine (tuples_any n K _ h12.1 h12.2 (by omega)).mono ?_
      rintro e w3 (⟨hp, v3, rfl, hb3, ht3⟩ | ⟨hp, rfl, hb3⟩)
      · have HB3 := hide (HB2.out.trans (hb3.mono HB2.out.size))
        have HK3 := hide (HK2.out.later hb3)
        have hlen : ∀ t, t ∈ wds n K → t.length ≤ 12 := fun t ht => by rw [((wds_mem K t).1 ht).1]; omega
        have hpos : 0 < n ^ K := Nat.pow_pos h12.1
        obtain ⟨g, cg, hv, _, _, hgB, hgl, _⟩ := ht3.at hlen (i := 0) (by rw [wds_len]; exact hpos)
        rw [wds_len] at hv
        subst hv
        obtain ⟨N, hN⟩ : ∃ N, n ^ K = N := ⟨_, rfl⟩
        have HNN := hide hN
        have HT := hide ht3
        rw [hN] at hp HT ⊢
        clear hb3 ht3 hlen hpos hN
        have k0 := HK3.out.cell 0 _ rfl
        have k1 := HK3.out.cell 1 _ rfl
        go_wp2_with fail
        clear k0 k1
        have hPB := HS.out.pb HN.out
        have hm := normI_any A n c f B d s K N g cg _ (wds n K) w3 (HZ.out.later HB3.out) HS.out (by omega) (by rw [wds_len, HNN.out]) hp (fun t ht => ((wds_mem K t).1 ht).1) (fun t ht => wds_tup (by omega) ht) (fun t ht y hy => hy.wds hPB (by omega) ht) HT.out hgl
        rw [frs_all hPB (by omega)] at hm
        refine hm.mono ?_
        clear hm hPB
        rintro e w4 ⟨v4, vals4, rfl, hb4, hl4⟩
        have HB4 := hide (HB3.out.trans (hb4.mono HB3.out.size))
        obtain ⟨rfl, rfl⟩ : zs = nws (leH f) (leH s) (wds n K) ∧ code = 0 := by
          have hw0 : wc = 0 := HWC.out.uniq (.inr (.inr (.inr ⟨HS.out, ⟨by omega, by omega⟩, by rw [HN.out, Int.toNat_natCast, HNN.out]; exact hp, rfl⟩)))
          rcases HRES.out.cases HWC.out with ⟨_, h1, h2⟩ | ⟨h, _⟩
          · rw [HN.out, Int.toNat_natCast] at h1
            exact ⟨h1, h2⟩
          · exact absurd hw0 h
        obtain ⟨A', c', hv, hobj⟩ := hl4.shape
        rw [HKZ.out] at hv
        subst hv
        have HO := hide (hobj.mono (lo' := w.heap.size) HB3.out.size (Nat.le_refl _))
        clear hb4 hl4 hobj
        go_wp2_with fail
        go_ret2
        exact ⟨_, _, rfl, HB4.out, HO.out⟩
      · have HB3 := hide (HB2.out.trans (hb3.mono HB2.out.size))
        have hw3 : wc = 3 := HWC.out.uniq (.inr (.inr (.inl ⟨HS.out, ⟨by omega, by omega⟩, by rw [HN.out, Int.toNat_natCast]; exact hp, rfl⟩)))
        subst hw3
        obtain ⟨rfl, rfl⟩ : zs = [] ∧ code = 3 := by
          rcases HRES.out.cases HWC.out with ⟨h, _⟩ | ⟨_, h1, h2⟩
          · omega
          · exact ⟨h1, h2⟩
        obtain rfl : kz = 0 := by simpa using HKZ.out.symm
        clear hb3 hp
        go_wp2_with fail
        go_ret2
        exact ⟨_, _, rfl, HB3.out, .inl ⟨rfl, rfl⟩⟩
    · have hw2 : wc = 2 := HWC.out.uniq (.inr (.inl ⟨HS.out, hx, rfl⟩))
      subst hw2
      obtain ⟨rfl, rfl⟩ : zs = [] ∧ code = 2 := by
        rcases HRES.out.cases HWC.out with ⟨h, _⟩ | ⟨_, h1, h2⟩
        · omega
        · exact ⟨h1, h2⟩
      obtain rfl : kz = 0 := by simpa using HKZ.out.symm
      by_cases hx0 : x < 0
      · clear hx
        go_wp2_with fail
        go_ret2
        exact ⟨_, _, rfl, HB1.out, .inl ⟨rfl, rfl⟩⟩
      · have hx8 : 8 < x := by omega
        clear hx
        go_wp2_with fail
        go_ret2
        exact ⟨_, _, rfl, HB1.out, .inl ⟨rfl, rfl⟩⟩
set_option maxRecDepth 100000 in
theorem ncI (A : Option Addr) (n c : Nat) (f : List (List Int)) (B : Option Addr) (k d : Nat) (s : List (List Int)) (x v code : Int) (w : World) (hz : ZArg 1048576 w A n f B k s) (hlo : -9223372036854775808 ≤ x) (hhi : x ≤ 9223372036854775807) (hres : NcR f s x v code) :
    Calls Try.prog 37 #[.agg #[.slice A n c, .slice B k d], .int .i64 x] w fun e w' => e = .returned (.tuple #[.int .i64 v, .int .i64 code]) ∧ Below w.heap.size w w' := by
  have HZ := hide hz
  obtain ⟨zs, hq, _, hv⟩ := hres
  have HQ := hide hq
  have HV := hide hv
  have HB0 := hide ((Below.refl _ w).alloc (Nat.le_refl _) (Obj.cells #[Value.slice A n c, Value.slice B k d] 29))
  have HK0 := hide (Blk.new w 29 [.slice A n c, .slice B k d])
  clear hz hq hv
  go_enter Try.func37, Try.ntmps37
  have k0 := HK0.out.cell 0 _ rfl
  have k1 := HK0.out.cell 1 _ rfl
  go_wp2_with fail
  clear k0 k1
  refine (nmI A n c f B k d s x zs code _ _ (HZ.out.later HB0.out) hlo hhi HQ.out rfl).mono ?_
  rintro e w1 ⟨A1, c1, rfl, hb1, _⟩
  have HB1 := hide (HB0.out.trans (hb1.mono HB0.out.size))
  obtain ⟨N, hN⟩ : ∃ N, zs.length = N := ⟨_, rfl⟩
  have HN := hide hN
  rw [hN]
  clear hb1 hN
  go_wp2_with fail
  go_ret2
  exact ⟨by rw [HV.out, HN.out]; rfl, HB1.out⟩
end Go.Proofs.Ytiaebilcgmahlaa
