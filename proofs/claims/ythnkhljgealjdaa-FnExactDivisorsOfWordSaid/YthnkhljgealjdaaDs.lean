import Derived.Test.YthnkhljgealjdaaDr
import Derived.Test.YthnkhljgealjdaaDp
import Derived.Shelf.RegionOpen
import Derived.LoopNIn
import Derived.LoopIn
import Derived.RegionIn
import Derived.Deep.Cut
import Derived.Deep.DeepCutAuto
import Derived.Deep.RegionHeld3
namespace Go.Proofs.Ythnkhljgealjdaa
open Go Go.RowKit Go.Shelf
open Classical
attribute [local go_sem] Oper.semAt_some
attribute [-go_sem] Builtin.append_
set_option maxHeartbeats 4000000
theorem OrbT.keep {f s : List (List Int)} {Ls : List (List Int)} {k L : Nat} {v : Array Value} {U : Nat → Prop} {W W' : World} (h : OrbT f s Ls k L v U W) (hk : KeepU U W W') : OrbT f s Ls k L v U W' := by
  obtain ⟨bm, C, h1, h2, h3, h4, h5, h6⟩ := h
  exact ⟨bm, C, h1, h2, h3, MapN.of_block h4 (hk.2 bm h4.lt h2), Nat.lt_of_lt_of_le h5 hk.1, fun b hb => Nat.lt_of_lt_of_le (h6 b hb) hk.1⟩
set_option maxRecDepth 100000 in
theorem normI_any (A : Option Addr) (n c : Nat) (f : List (List Int)) (B : Option Addr) (d : Nat) (s : List (List Int)) (K N g cg B0 : Nat) (Ls : List (List Int)) (w : World) (hz : ZArg 1048576 w A n f B n s) (hs : SolF f s) (hK : K ≤ 12) (hN : Ls.length = N) (hNb : N ≤ 5000) (hlk : ∀ t, t ∈ Ls → t.length = K) (htu : ∀ t, t ∈ Ls → Tup n t) (hcl : ∀ t, t ∈ Ls → ∀ y, Tch (leH f) (leH s) t y → y ∈ Ls) (hvl : TupS w B0 (.slice (some ⟨g, 0, none⟩) N cg) Ls) (hg : g < w.heap.size) :
    Calls Try.prog 23 #[.agg #[.slice A n c, .slice B n d], .slice (some ⟨g, 0, none⟩) N cg, .int .i64 K] w fun e w' => ∃ v vals, e = .returned v ∧ Below w.heap.size w w' ∧ LstV 25 2 w.heap.size w' v (frs (leH f) (leH s) Ls) vals := by
  have HZ := hide hz
  have HS := hide hs
  have HN := hide hN
  have HLK := hide hlk
  have HTU := hide htu
  have HCLO := hide hcl
  have HVL := hide hvl
  clear hz hs hN hlk htu hcl hvl
  refine (callsIn_wide (n := 6)).1 ?_
  refine callsIn_of_wp_marks Try.func23 rfl trivial ?_ rfl
  simp only [Try.ntmps23, List.size_toArray, List.length_cons, List.length_nil, Nat.reduceAdd, Nat.reduceSub, Array.replicate_succ, Array.replicate_zero, List.push_toArray, List.append_toArray, List.nil_append, List.cons_append]
  refine wpIn_wide.2 ?_
  go_wp2_with fail
  obtain ⟨W0, hW0⟩ : ∃ q, w.heap.size = q := ⟨_, rfl⟩
  have HW0 := hide hW0
  refine calls_gen fun w1 hw1 => ?_
  have HB1 : Hid (Below w.heap.size w w1) := hide (by rw [hw1]; exact ((((Below.refl _ w).alloc (Nat.le_refl _) _).alloc (by simp) _).alloc (by simp; omega) _).alloc (by simp; omega) _)
  have HS1 : Hid (w1.heap.size = W0 + 4) := hide (by rw [hw1]; simp [hW0])
  have HK1 : Hid (Blk w1 (W0 + 1) 3 [.int .i64 K]) := hide (by
    rw [hw1]
    have h := Blk.new (w.alloc (.cells #[.slice A n c, .slice B n d] 29)) 3 [.int .i64 K]
    rw [World.size_alloc, hW0] at h
    exact (h.alloc _).alloc _)
  have HX1 : Hid (Blk w1 (W0 + 3) 22 [.slice (some ⟨W0 + 2, 0, none⟩) 0 0]) := hide (by
    rw [hw1]
    have h := Blk.new (((w.alloc (.cells #[.slice A n c, .slice B n d] 29)).alloc (.cells #[.int .i64 K] 3)).alloc (.cells #[] 25)) 22 [.slice (some ⟨W0 + 2, 0, none⟩) 0 0]
    simpa [hW0] using h)
  have HR1 : Hid (LstV 25 2 (W0 + 2) w1 (.slice (some ⟨W0 + 2, 0, none⟩) 0 0) [] []) := hide (by
    have h := LstV.start ((w.alloc (.cells #[.slice A n c, .slice B n d] 29)).alloc (.cells #[.int .i64 K] 3)) 25 2
    have e : ((w.alloc (.cells #[.slice A n c, .slice B n d] 29)).alloc (.cells #[.int .i64 K] 3)).heap.size = W0 + 2 := by simp [hW0]
    rw [e] at h
    rw [hw1]
    exact h.later ((Below.refl _ _).alloc (Nat.le_refl _) _))
  clear hw1
  refine (orbC_any A B (some ⟨g, 0, none⟩) n c n d N cg K _).mono ?_
  rintro e w2 ⟨rfl, hw2⟩
  have hs1 : w1.heap.size = W0 + 4 := HS1.out
  have hb2 : Below w1.heap.size w1 w2 := by rw [hw2]; exact (((Below.refl _ _).alloc (Nat.le_refl _) _).alloc (by simp) _).alloc (by simp; omega) _
  have HB2 := hide (HB1.out.trans (hb2.mono HB1.out.size))
  have HX2 := hide (HX1.out.later hb2)
  have HR2 := hide (HR1.out.later hb2)
  have HK2 := hide (HK1.out.later hb2)
  have HS2 : Hid (w2.heap.size = W0 + 7) := hide (by rw [hw2]; simp [hs1])
  have HP4 : Hid (Blk w2 (W0 + 4) 29 [.slice A n c, .slice B n d]) := hide (by
    rw [hw2]
    have h := Blk.new w1 29 [.slice A n c, .slice B n d]
    rw [hs1] at h
    exact (h.alloc _).alloc _)
  have HP5 : Hid (Blk w2 (W0 + 5) 44 [.slice (some ⟨g, 0, none⟩) N cg]) := hide (by
    rw [hw2]
    have h := Blk.new (w1.alloc (.cells #[.slice A n c, .slice B n d] 29)) 44 [.slice (some ⟨g, 0, none⟩) N cg]
    rw [World.size_alloc, hs1] at h
    exact h.alloc _)
  have HP6 : Hid (Blk w2 (W0 + 6) 3 [.int .i64 K]) := hide (by
    rw [hw2]
    have h := Blk.new ((w1.alloc (.cells #[.slice A n c, .slice B n d] 29)).alloc (.cells #[.slice (some ⟨g, 0, none⟩) N cg] 44)) 3 [.int .i64 K]
    simpa [hs1] using h)
  clear hw2 hb2
  rw [hs1, hW0]
  clear hs1
  have e1 : W0 + 1 + 1 + 1 = W0 + 3 := rfl
  have e2 : W0 + 1 + 1 = W0 + 2 := rfl
  have e3 : W0 + 4 + 1 = W0 + 5 := rfl
  have e4 : W0 + 4 + 2 = W0 + 6 := rfl
  rw [e1, e2, e3, e4]
  clear e1 e2 e3 e4
  go_wp2_with fail
  have hs2 : w2.heap.size = W0 + 7 := HS2.out
  have hgW : g < W0 := by omega
  have h0 : ∀ L, w2.heap.size + 2 ≤ L → NaI w w2.heap.size (W0 + 3) (W0 + 1) (W0 + 2) K [] L (fun b => b < w.heap.size ∨ b = W0 + 4 ∨ b = W0 + 5 ∨ b = W0 + 6) w2 := fun L hL =>
    ⟨HB2.out, ⟨_, [], HX2.out, HR2.out, HR2.out.ltF (.inl (by omega)), fun g0 hg0 => by
      have e : W0 + 2 = g0 := by simpa [Value.ownBlock] using hg0
      exact ⟨fun h => by rcases h with h | h | h | h <;> omega, .inl (by omega)⟩⟩, HK2.out, fun h => by rcases h with h | h | h | h <;> omega, by omega, by omega⟩
  have hlf : ∀ k, ((frs (leH f) (leH s) Ls).getD k []).length ≤ 12 := fun k => by
    by_cases h : k < (frs (leH f) (leH s) Ls).length
    · rw [HLK.out _ (frs_sub _ _ (tgetD_mem _ k [] h))]; exact hK
    · simp [List.getD_eq_getElem?_getD, List.getElem?_eq_none (Nat.le_of_not_lt h)]
  have HLF := hide hlf
  clear hlf
  refine (wpIn_wide (n := 5)).1 ?_
  refine wpIn_iterN (gf := 47) (lb := #[.pointer (some ⟨W0 + 5, 0, none⟩), .pointer (some ⟨W0 + 4, 0, none⟩), .pointer (some ⟨W0 + 6, 0, none⟩)]) rfl (enters_of Try.func47 (by kernel_rfl) rfl) (N := (frs (leH f) (leH s) Ls).length) (T := OrbT f s Ls) (U0 := fun b => b < w.heap.size ∨ b = W0 + 4 ∨ b = W0 + 5 ∨ b = W0 + 6)
    (orbI_any A n c f B d s K N g cg (W0 + 5) (W0 + 4) (W0 + 6) B0 Ls _ w w2 HZ.out HS.out hK HN.out hNb HLK.out HTU.out HCLO.out HB2.out (fun b hb => .inl hb) (fun b hb => by rcases hb with h | h | h | h <;> omega) (.inr (.inr (.inl rfl))) (.inr (.inl rfl)) (.inr (.inr (.inr rfl))) (.inl hg) HP5.out HP4.out HP6.out (HVL.out.later HB2.out) 5)
    (fun k L v U W h => by obtain ⟨bm, C, rfl, _⟩ := h; rfl) (fun k L v U W W' h hk => h.keep hk) (fun b hb => by rcases hb with h | h | h | h <;> omega)
    (fun k L U W => NaI w w2.heap.size (W0 + 3) (W0 + 1) (W0 + 2) K ((frs (leH f) (leH s) Ls).take k) L U W) (fun _ _ _ _ _ => False)
    (fun k L U U' W W' hL h hs hu => h.step (by omega) hs hu) (fun k L U W b o o' hb _ _ ho hc h => h.put o' (by omega) ho hc) (fun _ _ _ _ _ _ _ _ _ _ _ _ h => h)
    (fun L hL => h0 L (by omega))
    (fun k v a' W => ∃ (p0 p1 p2 p3 p4 p5 p6 p7 p8 p9 p10 p11 : Int) (R : Nat) (u15 : Value), pad12 ((frs (leH f) (leH s) Ls).getD k []) = [p0, p1, p2, p3, p4, p5, p6, p7, p8, p9, p10, p11] ∧ w2.heap.size + 2 ≤ R ∧ Blk W R 46 [.int .i64 p0, .int .i64 p1, .int .i64 p2, .int .i64 p3, .int .i64 p4, .int .i64 p5, .int .i64 p6, .int .i64 p7, .int .i64 p8, .int .i64 p9, .int .i64 p10, .int .i64 p11] ∧ a' = { tmps := #[.agg #[.slice A n c, .slice B n d], .slice (some ⟨g, 0, none⟩) N cg, .int .i64 K, .pointer (some ⟨W0, 0, none⟩), undef, .pointer (some ⟨W0 + 1, 0, none⟩), .slice none 0 0, .pointer (some ⟨W0 + 3, 0, none⟩), .pointer (some ⟨R, 0, none⟩), .slice (some ⟨W0 + 2, 0, none⟩) 0 0, .agg #[.slice A n c, .slice B n d], .slice (some ⟨g, 0, none⟩) N cg, .int .i64 K, .func (.func 47) #[] #[.pointer (some ⟨W0 + 5, 0, none⟩), .pointer (some ⟨W0 + 4, 0, none⟩), .pointer (some ⟨W0 + 6, 0, none⟩)], .agg #[.int .i64 p0, .int .i64 p1, .int .i64 p2, .int .i64 p3, .int .i64 p4, .int .i64 p5, .int .i64 p6, .int .i64 p7, .int .i64 p8, .int .i64 p9, .int .i64 p10, .int .i64 p11], u15, undef, undef, undef, undef, undef, undef, undef], defers := [] })
    (fun k v a' W b o o' hb ho hc h => ?hap) ?assign ?body ?done ?stop
  case hap =>
    obtain ⟨p0, p1, p2, p3, p4, p5, p6, p7, p8, p9, p10, p11, R, u15, e1, e2, e3, e4⟩ := h
    refine ⟨p0, p1, p2, p3, p4, p5, p6, p7, p8, p9, p10, p11, R, u15, e1, e2, (World.putObj_heap_other (fun e => ?_)).trans e3, e4⟩
    subst e
    rw [show W.heap[R]? = _ from e3] at ho
    injection ho with ho
    subst ho
    cases hc
  case assign =>
    intro l k L v U W K' hT hsz hK
    obtain ⟨bm, C, rfl, _⟩ := hT
    have hpp := pad12_length (HLF.out k)
    obtain ⟨pp, hppe⟩ : ∃ pp, pad12 ((frs (leH f) (leH s) Ls).getD k []) = pp := ⟨_, rfl⟩
    rw [hppe] at hpp
    obtain ⟨p0, p1, p2, p3, p4, p5, p6, p7, p8, p9, p10, p11, rfl⟩ := list12 hpp
    have hkp : tkey ((frs (leH f) (leH s) Ls).getD k []) = .agg #[.int .i64 p0, .int .i64 p1, .int .i64 p2, .int .i64 p3, .int .i64 p4, .int .i64 p5, .int .i64 p6, .int .i64 p7, .int .i64 p8, .int .i64 p9, .int .i64 p10, .int .i64 p11] := by unfold tkey; rw [hppe]; rfl
    rw [hkp]
    gi_wp2
    exact hK _ _ ((Below.refl _ _).alloc (Nat.le_refl _) _) ⟨p0, p1, p2, p3, p4, p5, p6, p7, p8, p9, p10, p11, W.heap.size, _, hppe, hsz, Blk.new _ _ _, rfl⟩
  case body =>
    rintro l k L v U a' W hk hL hUU hI hT ⟨p0, p1, p2, p3, p4, p5, p6, p7, p8, p9, p10, p11, R, u15, hpad, hR, hbR, rfl⟩ hsz
    obtain ⟨vr, vals, hbx, hrow, hfl, hfar⟩ := hI.ex
    have HTK := hide (take_next (L := frs (leH f) (leH s) Ls) hk)
    have htL := frs_sub _ _ (tgetD_mem (frs (leH f) (leH s) Ls) k [] hk)
    obtain ⟨t, ht⟩ : ∃ t, (frs (leH f) (leH s) Ls).getD k [] = t := ⟨_, rfl⟩
    rw [ht] at hpad htL HTK
    have htl : t.length = K := HLK.out t htL
    have hkb : k ≤ 5000 := by have h := frs_len (h1 := leH f) (h2 := leH s) Ls; rw [HN.out] at h; omega
    have HRT : Hid (Rd W.drew (some ⟨R, 0, none⟩) t) := hide (fun _ => ⟨R, 0, rfl, hbR.lt, fun i hi => by
      have h1 := Blk.cell (w := W.drew) hbR i ((.int .i64 ((pad12 t).getD i 0)) : Value) (by
        rw [hpad]
        have hi12 : i < 12 := by omega
        rcases i with _ | _ | _ | _ | _ | _ | _ | _ | _ | _ | _ | _ | i
        all_goals first | rfl | omega)
      rw [Nat.zero_add, h1, pad12_at hi]⟩)
    have HTL := hide htl
    have HNOT : Hid (∀ g, vr.ownBlock = some g → g ≠ W0 + 3) := hide fun g hg e => by
      rcases hrow.own.2 with ⟨h6, _⟩ | ⟨g2, cap, cur, hv, hB, hh, _⟩
      · rw [h6] at hg; simp [Value.ownBlock] at hg
      · rw [hv] at hg
        have e2 : g2 = g := by simpa [Value.ownBlock] using hg
        subst e2 e
        have h5 := hh.symm.trans hbx
        injection h5 with h5
        injection h5 with _ h6
        exact absurd h6 (by decide)
    have HNOTV : Hid (∀ u, u ∈ vals → u.ownBlock ≠ some (W0 + 3)) := hide fun u hu e => by
      obtain ⟨i, hi, hu2⟩ := List.getElem_of_mem hu
      have hil : i < ((frs (leH f) (leH s) Ls).take k).length := by have := ownsRow_len hrow.own; omega
      obtain ⟨A9, c9, h1, h2⟩ := hrow.row i hil
      have h3 : vals[i]? = some u := by rw [List.getElem?_eq_getElem hi, hu2]
      rw [h3] at h1; injection h1 with h1; subst h1
      rcases h2 with ⟨rfl, _⟩ | ⟨g9, rfl, e2, e3, cur, e4, _⟩
      · simp [Value.ownBlock] at e
      · have e5 : g9 = W0 + 3 := by simpa [Value.ownBlock] using e
        subst e5
        have h5 := e4.symm.trans hbx
        injection h5 with h5
        injection h5 with _ h6
        exact absurd h6 (by decide)
    have hlen : ((frs (leH f) (leH s) Ls).take k).length = k := by rw [List.length_take]; omega
    have HLEN := hide hlen
    have HNU := hide hI.nU
    have HNL := hide hI.nL
    have HNK := hide hI.nK
    have HBW := hide hI.below
    have HBX := hide hbx
    have HRW := hide hrow
    have HFL := hide hfl
    have HFAR := hide hfar
    have HKKb := hide hI.kk
    have HSW := hide hsz
    obtain ⟨_, _, _, _, _, _, hLW, hUW⟩ := hT
    have HLW := hide hLW
    have HUW := hide hUW
    obtain ⟨i2, hi, hz0, hz1, hz2⟩ := info_parts neInfo2
    have k0 := hbx.cell 0 _ rfl
    have kf := hbx.frozen 0
    have kK := hI.kk.cell 0 _ rfl
    have HBR := hide hbR
    have hK12z : (K : Int) ≤ 12 := by omega
    clear hI hbx hrow hfl hfar hR hbR hsz hlen hLW hUW htL htl hpad
    have hmx : Try.prog.follows Departure.mixedOrders = true := by kernel_rfl
    have HBD : Hid (Blk W.drew (W0 + 3) 22 [vr]) := hide HBX.out
    have HRD : Hid (LstV 25 2 (W0 + 2) W.drew vr ((frs (leH f) (leH s) Ls).take k) vals) := hide (HRW.out.later ((Below.refl _ _).drew))
    gi_wp2
    gi_region_with_o (first
      | (refine ⟨trivial, ?_⟩; gi_at_call 34; refine (CallsIn.inRound l (callsIn_wide.2 (cloneN_any (some ⟨R, 0, none⟩) K _ t _ HTL.out (by omega) HRT.out))).mono ?_; rintro e W1 ⟨A5, c5, rfl, hb1, hres, _⟩; obtain ⟨g9, c9, W2, hr, hgr, hat, hl, hx2⟩ := nas_put (c5 := c5) hi hz0 hz1 hz2 HBD.out HRD.out (by have := HSW.out; show W0 + 2 ≤ W.heap.size; omega) hb1 HLEN.out hkb HNOT.out HTL.out hres.obj; have k0' : W1.cell? ⟨W0 + 3, 0, none⟩ = some vr := (HBD.out.later hb1).cell 0 _ rfl; have k2' : W2.cell? ⟨W0 + 3, 0, none⟩ = some vr := hx2.cell 0 _ rfl; have kne : W0 + 3 < W1.heap.size := (HBD.out.later hb1).lt; have kne2 : W0 + 3 ≠ W1.heap.size := Nat.ne_of_lt kne; have k3' : (W1.alloc (.cells #[.slice A5 K c5] 25)).cell? ⟨W0 + 3, 0, none⟩ = some vr := ((HBD.out.later hb1).later ((Below.refl _ _).alloc (Nat.le_refl _) _)).cell 0 _ rfl; have kf2 : W2.frozen? ⟨W0 + 3, 0, none⟩ = false := hx2.frozen 0; have HGR := hide hgr; have HAT := hide hat; have HO := hide hl; have HX2 := hide hx2; have HB1 := hide hb1; have HRS := hide hres.obj; clear hgr hat hl hx2 hb1 hres))
    all_goals
      have hfin := nas_fin HBW.out HRW.out HFL.out HKKb.out HFAR.out HLW.out HUW.out HNU.out HNL.out HNK.out (by omega) (by omega) (by omega) (by omega) (by omega) HSW.out HB1.out HRS.out HGR.out HAT.out HO.out HX2.out HNOT.out HNOTV.out
      rw [← HTK.out] at hfin
      exact hfin
  case done =>
    rintro L U W hI hD
    obtain ⟨v, vals, hbx, hl, _, _⟩ := hI.ex
    rw [List.take_of_length_le (Nat.le_refl _)] at hl
    have k0 := hbx.cell 0 _ rfl
    have hl2 : LstV 25 2 (W0 + 2) (W.putObj w2.heap.size (.deferred none)) v (frs (leH f) (leH s) Ls) vals := hl.skip (hl.cellsF hD rfl) (by simp) (fun b _ hn => World.putObj_heap_other hn)
    have HL2 := hide (hl2.monoB (B' := w.heap.size) (by omega))
    have hbf : Below w.heap.size w (W.putObj w2.heap.size (.deferred none)) := hI.below.grown (grownBy_putObj' W _ _) hI.below.size (fun k e => by cases e; omega)
    have HBF := hide hbf
    have HDD := hide hD
    clear hI hbx hl hl2 hD hbf
    gi_wp2
    go_wp2_with fail
    refine ⟨by simp, .inl ⟨_, _, rfl, run_takeDeferred HDD.out, ?_⟩⟩
    refine ⟨_, ?_, v, vals, rfl, HBF.out, HL2.out⟩
    refine (results_tmp (t := 6) rfl _ _ _).trans ?_
    rfl
  case stop =>
    rintro c k L U W _ h _
    exact h.elim
end Go.Proofs.Ythnkhljgealjdaa
namespace Go.Proofs.Ythnkhljgealjdaa
open Go Go.RowKit
open Classical
set_option maxHeartbeats 8000000
section
variable {h1 h2 b1 b2 : Nat → Nat → Int} {n : Nat}
theorem IsNw.uniq (hp : PB n h1 h2 b1 b2) {t y z : List Int} (ht : Tup n t) (hy : Tch h1 h2 t y) (hyn : IsNw h1 h2 y) (hz : Tch h1 h2 t z) (hzn : IsNw h1 h2 z) : y = z := by
  have hyt := hy.tup hp ht
  have hzt := hz.tup hp ht
  have k1 := hyn z ((hy.symm hp ht).trans hz)
  have k2 := hzn y ((hz.symm hp ht).trans hy)
  by_cases e : y = z
  · exact e
  · rcases lessL_tri y z e with h | h
    · rw [h] at k2; cases k2
    · rw [h] at k1; cases k1
end
/-- The normal word of a begin of a word of a small class. -/
theorem begin_normal {f s : List (List Int)} {n : Nat} (hs : SolF f s) (hn : f.length = n) {x p z : List Int} {L : List (List Int)} {j : Nat} (hx : Wrd n x) (hL : Cls (leH f) (leH s) x L) (hl : L.length ≤ 1000) (hp : p ∈ L) (hz : Tch (leH f) (leH s) (p.take j) z) (hzn : IsNw (leH f) (leH s) z) : NwR f s (p.take j) z 0 := by
  have hpb := hs.pb hn
  have hpT := (hL.2 p).1 hp
  have hpt := hpT.tup hpb hx.tup
  have hlen := hpT.len
  have h8 := hx.1
  have hwt : Wrd n (p.take j) := ⟨by rw [List.length_take]; omega, fun i hi => hpt.mem _ (List.mem_of_mem_take (tgetD_mem (p.take j) i 0 hi))⟩
  obtain ⟨C, hC⟩ := Cls.ex hpb hwt.tup
  obtain ⟨C', ha, _, hm⟩ := asc_ex C hC.1
  have hC' := hC.sorted ha hm
  have hle : C'.length ≤ L.length := by
    have h := tnodup_le ha.nodup (m := L.map (List.take j)) (fun y hy => begins_closed hL j (p.take j) (List.mem_map.2 ⟨p, hp, rfl⟩) y ((hC'.2 y).1 hy))
    simpa using h
  have hleast := ha.least (z := z) ((hC'.2 z).2 hz) (fun r hr => hzn r ((hz.symm hpb hwt.tup).trans ((hC'.2 r).1 hr)))
  exact ⟨C', .inl ⟨.inl ⟨hs, wrds1.2 (by rw [hn]; exact hwt), rfl⟩, .inl ⟨hC', ha, by omega, rfl⟩⟩, hleast.2.symm⟩
/-- What the level of the divisors holds after some words. -/
def LvI (f s : List (List Int)) (L : List (List Int)) (j i : Nat) (rows : List (List Int)) : Prop := Asc rows ∧ (∀ t, t ∈ rows → t.length = j) ∧ ∀ t, t ∈ rows ↔ ∃ r, r < i ∧ Tch (leH f) (leH s) ((L.getD r []).take j) t ∧ IsNw (leH f) (leH s) t
theorem LvI.nil (f s L : List (List Int)) (j : Nat) : LvI f s L j 0 [] := ⟨List.Pairwise.nil, fun t h => absurd h List.not_mem_nil, fun t => ⟨fun h => absurd h List.not_mem_nil, fun ⟨r, h, _⟩ => by omega⟩⟩
theorem LvI.more {f s : List (List Int)} {n : Nat} (hs : SolF f s) (hn : f.length = n) {L rows rows' : List (List Int)} {j i : Nat} {z : List Int} (h : LvI f s L j i rows) (ht : Tup n ((L.getD i []).take j)) (hz : Tch (leH f) (leH s) ((L.getD i []).take j) z) (hzn : IsNw (leH f) (leH s) z) (hzl : z.length = j) (ha : Asc rows') (hm : ∀ t, t ∈ rows' ↔ t = z ∨ t ∈ rows) : LvI f s L j (i + 1) rows' := by
  have hpb := hs.pb hn
  refine ⟨ha, fun t htm => ?_, fun t => ?_⟩
  · rcases (hm t).1 htm with e | e
    · rw [e]; exact hzl
    · exact h.2.1 t e
  · rw [hm, h.2.2]
    constructor
    · rintro (rfl | ⟨r, h1, h2⟩)
      · exact ⟨i, by omega, hz, hzn⟩
      · exact ⟨r, by omega, h2⟩
    · rintro ⟨r, h1, h2, h3⟩
      by_cases e : r = i
      · subst e; exact .inl (IsNw.uniq hpb ht h2 h3 hz hzn)
      · exact .inr ⟨r, by omega, h2, h3⟩
theorem LvI.fin {f s : List (List Int)} {n : Nat} (hs : SolF f s) (hn : f.length = n) {x : List Int} {L rows : List (List Int)} {j : Nat} (hx : Wrd n x) (hL : Cls (leH f) (leH s) x L) (ha : Asc L) (h : LvI f s L j L.length rows) : rows = dvK f s L j := by
  have hpb := hs.pb hn
  have hlen : ∀ p, p ∈ L → p.length = x.length := fun p hp => ((hL.2 p).1 hp).len
  obtain ⟨k1, k2⟩ := frs_norm hpb (WAsc.begins ha hlen j) (fun t ht => by
    obtain ⟨p, hp, rfl⟩ := List.mem_map.1 ht
    have hpt := ((hL.2 p).1 hp).tup hpb hx.tup
    exact Tup.of_mem (by have := hpt.1; rw [List.length_take]; omega) (fun v hv => hpt.mem v (List.mem_of_mem_take hv))) (begins_closed hL j)
  refine Asc.eq h.1 k1 (fun t => ?_)
  show t ∈ rows ↔ t ∈ frs (leH f) (leH s) (L.map (List.take j))
  rw [h.2.2, k2]
  constructor
  · rintro ⟨r, hr, hT, hN⟩
    exact ⟨begins_closed hL j _ (List.mem_map.2 ⟨_, tgetD_mem L r [] hr, rfl⟩) t hT, hN⟩
  · rintro ⟨hm, hN⟩
    obtain ⟨p, hp, rfl⟩ := List.mem_map.1 hm
    obtain ⟨r, hr, e⟩ := List.getElem_of_mem hp
    have e2 : L.getD r [] = p := by simp [hr, e]
    exact ⟨r, hr, by rw [e2]; exact .refl, hN⟩
set_option maxRecDepth 100000 in
theorem dsS (A : Option Addr) (n c : Nat) (f : List (List Int)) (B : Option Addr) (k d : Nat) (s : List (List Int)) (C : Option Addr) (m : Nat) (x : List Int) (zs : List (List Int)) (code : Int) (kz : Nat) (w : World) (hz : ZArg 1048576 w A n f B k s) (hm : x.length = m) (hb : m ≤ 1048576) (hr : Rd w C x) (hres : DsR f s x zs code) (hkz : zs.length = kz) :
    Calls Try.prog 5 #[.agg #[.slice A n c, .slice B k d], .slice C m m] w (TPost 25 2 kz zs code w) := by
  have HZ := hide hz
  have HM := hide hm
  have HR := hide hr
  have HKZ := hide hkz
  obtain ⟨L, hL, hcase⟩ := hres
  have HC := hide hL
  have HCASE := hide hcase
  have HB0 := hide ((Below.refl _ w).alloc (Nat.le_refl _) (Obj.cells #[Value.slice A n c, Value.slice B k d] 29))
  have HK0 := hide (Blk.new w 29 [.slice A n c, .slice B k d])
  have d0 : ¬ code = 0 → (code != 0) = true := fun h => by simpa using h
  clear hz hm hr hkz hL hcase
  go_enter Try.func5, Try.ntmps5
  have k0 := HK0.out.cell 0 _ rfl
  have k1 := HK0.out.cell 1 _ rfl
  go_wp2_with fail
  clear k0 k1
  refine (cowC_any A n c f B k d s C m m x L code _ (HZ.out.later HB0.out) HM.out hb (fun h => h) (HR.out.later HB0.out) HC.out).mono ?_
  rintro e w1 ⟨v1, vals1, rfl, hb1, hl1, hcv1⟩
  have HB1 := hide (HB0.out.trans (hb1.mono HB0.out.size))
  have HK1 := hide (HK0.out.later hb1)
  have hK1l := HK1.out.lt
  by_cases hc0 : code = 0
  · subst hc0
    obtain ⟨hwd, hcl, hasc, hll⟩ := HC.out.zero
    obtain ⟨hs, hw⟩ := hwd.zero rfl
    obtain rfl := (HZ.out.same hs.1).symm
    have hn := HZ.out.sz.fl
    have hw1 := wrds1.1 hw
    rw [hn] at hw1
    have hm8 : m ≤ 8 := by rw [← HM.out]; exact hw1.1
    have hzs : zs = dvL f s L (m + 1) := by
      rcases HCASE.out with ⟨_, h⟩ | ⟨h, _⟩
      · rw [h, HM.out]
      · exact absurd rfl h
    have HZS := hide hzs
    have HS := hide hs
    have HN := hide hn
    have HWX := hide hw1
    have HCL := hide hcl
    have HASC := hide hasc
    have HL1 := hide hl1
    have HCV := hide hcv1
    obtain ⟨gL, cL, hv, hgL, hcells⟩ := own_look hl1.own hcl.pos
    subst hv
    have HCELL := hide hcells
    obtain ⟨N, hN⟩ : ∃ N, L.length = N := ⟨_, rfl⟩
    have HNN := hide hN
    rw [hN] at hll ⊢
    clear hb1 hwd hcl hasc hs hw hn hw1 hl1 hcv1 hcells hN hzs d0 HC HCASE
    go_upto_region 5 with fail
    refine wp_gen fun w2 hw2 => ?_
    obtain ⟨b1, hb1e⟩ : ∃ b, w1.heap.size = b := ⟨_, rfl⟩
    have HBE := hide hb1e
    have HB2 : Hid (Below b1 w1 w2) := hide (by rw [hw2, ← hb1e]; exact (Below.refl _ _).alloc (Nat.le_refl _) _)
    have HL2 : Hid (LstV 25 2 b1 w2 (.slice (some ⟨b1, 0, none⟩) 0 0) [] []) := hide (by rw [hw2, ← hb1e]; exact LstV.start w1 _ _)
    have hs2 : b1 ≤ w2.heap.size := by rw [← hb1e]; have := HB2.out.size; exact this
    rw [hb1e] at hgL hK1l ⊢
    clear hw2 hb1e
    go_wp2_with fail
    go_loopw [8, 9, 10, 11, 12, 13] (fun ov kv _ _ _ _ wx => ∃ (j : Nat) (vals : List Value), j ≤ m + 1 ∧ kv = .int .i64 j ∧ Below b1 w1 wx ∧ LstV 25 2 b1 wx ov (dvL f s L j) vals ∧ b1 ≤ wx.heap.size) (fun _ kv _ _ _ _ _ => m + 1 - (intOf kv).toNat)
    case atStart => exact ⟨0, [], Nat.zero_le _, rfl, HB2.out, HL2.out, hs2⟩
    case round =>
      obtain ⟨wx, rfl⟩ : ∃ x, x = wr := ⟨wr, rfl⟩
      obtain ⟨j, vals, hj, rfl, hbe, hlst, hsx⟩ := hrel
      have HB := hide hbe
      have HL := hide hlst
      clear hbe hlst HB2 HL2
      by_cases hjm : j ≤ m
      · have hjz : (j : Int) ≤ m := by omega
        go_upto_region 9 with fail
        refine wp_gen fun wy hwy => ?_
        obtain ⟨b3, hb3e⟩ : ∃ b, wx.heap.size = b := ⟨_, rfl⟩
        have HB3 : Hid (Below b3 wx wy) := hide (by rw [hwy, ← hb3e]; exact (Below.refl _ _).alloc (Nat.le_refl _) _)
        have HL3 : Hid (LstV 25 2 b3 wy (.slice (some ⟨b3, 0, none⟩) 0 0) [] []) := hide (by rw [hwy, ← hb3e]; exact LstV.start wx _ _)
        have HB3E := hide hb3e
        rw [hb3e]
        clear hwy hb3e
        go_wp2_with fail
        go_loopw [10, 11, 12, 13] (fun lv iv _ _ we => ∃ (i g cg rl : Nat) (rows : List (List Int)) (lvals : List Value), i ≤ N ∧ iv = .int .i64 i ∧ lv = .slice (some ⟨g, 0, none⟩) rl cg ∧ rows.length = rl ∧ Below b3 wx we ∧ LstV 25 2 b3 we lv rows lvals ∧ LvI f s L j i rows ∧ rl ≤ i) (fun _ iv _ _ _ => N - (intOf iv).toNat)
        case atStart => exact ⟨0, b3, 0, 0, [], [], Nat.zero_le _, rfl, rfl, rfl, HB3.out, HL3.out, LvI.nil f s L j, Nat.le_refl _⟩
        case round =>
          obtain ⟨we, rfl⟩ : ∃ x, x = wr := ⟨wr, rfl⟩
          obtain ⟨i, g, cg, rl, rows, lvals, hi, rfl, rfl, hrl, hbe, hle, hlv, hrli⟩ := hrel
          have HBe := hide hbe
          have HLe := hide hle
          have HLV := hide hlv
          have HRL := hide hrl
          clear hbe hle hlv hrl HB3 HL3
          have hb3we : b3 ≤ we.heap.size := by have h1 := HB3E.out; have h2 := HBe.out.size; omega
          have HBw : Hid (Below b1 w1 we) := hide (HB.out.trans (HBe.out.mono (by have := HB3E.out; omega)))
          by_cases hiN : i < N
          · have hiz : (i : Int) < N := by omega
            have hiL : i < L.length := by rw [HNN.out]; exact hiN
            obtain ⟨Ai, ci, hvi, hobj⟩ := HL1.out.row i hiL
            obtain ⟨hcap, gi, rfl⟩ := HCV.out i _ _ _ hvi
            have eX2 : gL < we.heap.size := by have h1 := HBw.out.size; have h2 := HBE.out; omega
            have eX3 := (HBw.out.cell (p := ⟨gL, i, none⟩) hgL).trans (HCELL.out i _ hvi)
            obtain ⟨p, hp⟩ : ∃ p, L.getD i [] = p := ⟨_, rfl⟩
            rw [hp] at hvi hobj hcap eX3
            have hpL : p ∈ L := by rw [← hp]; exact tgetD_mem L i [] hiL
            have hpT := (HCL.out.2 p).1 hpL
            have hpl : p.length = m := by rw [hpT.len]; exact HM.out
            rw [hpl] at hcap eX3
            have hPB := HS.out.pb HN.out
            have hpt := hpT.tup hPB HWX.out.tup
            have htt : Tup n (p.take j) := Tup.of_mem (by have := hpt.1; rw [List.length_take]; omega) (fun v hv => hpt.mem v (List.mem_of_mem_take hv))
            obtain ⟨z, hzT, hzN⟩ := IsNw.ex hPB htt
            have hzl : z.length = j := by rw [hzT.len, List.length_take]; omega
            have HP := hide hp
            have HTT := hide htt
            have HZT := hide hzT
            have HZN := hide hzN
            have HZL := hide hzl
            have HNW := hide (begin_normal HS.out HN.out HWX.out HCL.out (by rw [HNN.out]; exact hll) hpL hzT hzN)
            have HTL : Hid ((p.take j).length = j) := hide (by rw [List.length_take]; omega)
            have HRT : Hid (Rd we (some ⟨gi, 0, none⟩) (p.take j)) := hide ((hobj.rd.later (by have h := HBw.out; rw [← HBE.out] at h; exact h)).take j)
            have HKw : Hid (Blk we w.heap.size 29 [.slice A n c, .slice B n d]) := hide ((HBw.out.block w.heap.size hK1l).trans HK1.out)
            have HZw := hide (HZ.out.later (HB1.out.trans (HBw.out.mono (Nat.le_of_lt hK1l))))
            have HBc := hide (Below.refl we.heap.size we)
            have hjc : (j : Int) ≤ ci := by omega
            have kk0 := HKw.out.cell 0 _ rfl
            have kk1 := HKw.out.cell 1 _ rfl
            have kx := eX3
            clear hvi hobj hp hpL hpT hpl hPB hpt htt hzT hzN hzl
            go_upto_region 12 with fail
            go_cut [12, 13] (fun vn vc wx => ∃ A6 c6, vn = .slice A6 j c6 ∧ vc = .int .i64 0 ∧ Below we.heap.size we wx ∧ Obj1 2 we.heap.size wx.heap.size wx A6 z)
            case first =>
              go_region_held3 (fun w' => w'.cell? ⟨w.heap.size, 0, none⟩ = some (.slice A n c) ∧ w'.cell? ⟨w.heap.size, 1, none⟩ = some (.slice B n d) ∧ w'.cell? ⟨gL, i, none⟩ = some (.slice (some ⟨gi, 0, none⟩) m ci)) (first | exact ⟨kk0, kk1, kx⟩ | go_keep) (first | (go_at_call 18; go_must (refine calls_gen fun wc hwc => ?_; (first | have hbx := drew_below hwc | have hbx := eq_below hwc); replace HBc := hide (HBc.out.trans (hbx.mono HBc.out.size)); replace HKw := hide (HKw.out.later hbx); clear hwc hbx; have HSZ := hide HBc.out.size; refine (nwQ_any A n c f B n d s ⟨gi, 0, none⟩ j ci (p.take j) z 0 j _ (HZw.out.later HBc.out) HTL.out (by omega) (HRT.out.later HBc.out) HNW.out HZL.out).mono ?_; rintro e wd ⟨A6, c6, rfl, hbd, hres⟩; replace HBc := hide (HBc.out.trans (hbd.mono HBc.out.size)); replace HKw := hide (HKw.out.later hbd); clear hbd; have kk0 := HKw.out.cell 0 _ rfl; have kk1 := HKw.out.cell 1 _ rfl; have HRES := hide hres.obj; clear hres; have kx := (HBc.out.cell (p := ⟨gL, i, none⟩) eX2).trans eX3)))
              all_goals go_wp2_with fail
              all_goals go_meet
              all_goals refine ⟨_, _, rfl, rfl, ?_⟩
              all_goals first | exact ⟨HBc.out, HRES.out.mono HSZ.out (Nat.le_refl _)⟩ | exact ⟨HBc.out.drew, (HRES.out.mono HSZ.out (Nat.le_refl _)).later ((Below.refl _ _).drew)⟩
            case rest =>
              obtain ⟨A6, c6, rfl, rfl, hb6, hres6⟩ := hcut
              have HB6 := hide hb6
              have HR6 := hide hres6
              have hs6 : we.heap.size ≤ wc.heap.size := hb6.size
              have HBn := hide (HBe.out.trans (hb6.mono hb3we))
              clear hb6 hres6 HKw HZw HBc kk0 kk1 kx HRT HNW eX3
              go_wp2_with fail
              by_cases h0 : rl = 0
              · subst h0
                have hr0 : rows = [] := List.eq_nil_of_length_eq_zero HRL.out
                have hlv0 : lvals = [] := by have h := ownsRow_len HLe.out.own; rw [hr0] at h; exact List.eq_nil_of_length_eq_zero (by simpa using h)
                subst hr0 hlv0
                refine (put0_any g cg b3 j c6 A6 _ (ownsRow_below HLe.out.own HB6.out) (by omega)).mono ?_
                rintro e w8 ⟨g', cap', rfl, hb8, hch8, hown8⟩
                have HB8 := hide (HBn.out.trans hb8)
                have HLn := hide (LstV.ins (w0 := we) (k := 0) (p := z) (by decide) hb3we HLe.out HB6.out HR6.out hch8 (Nat.zero_le _) (n := 1) rfl (by rw [HZL.out]; simpa using hown8))
                have HLVn := hide (HLV.out.more HS.out HN.out (by rw [HP.out]; exact HTT.out) (by rw [HP.out]; exact HZT.out) HZN.out HZL.out (rows' := insL [] 0 z) (HLV.out.1.ins (Plc.start [] z) List.not_mem_nil) (fun t => insL_mem [] 0 z t))
                clear hb8 hch8 hown8
                go_wp2_with fail
                go_roundw
                case rel => exact ⟨i + 1, g', cap', 1, _, _, by omega, by go_num, rfl, by rw [insL_length]; rfl, HB8.out, HLn.out, HLVn.out, by omega⟩
                case measure => simp [intOf]; omega
              · have hlv9 := HLe.out.later HB6.out
                refine (put_any g rl cg b3 j c6 A6 lvals rows z _ (by have h := hlv9.own; rw [HRL.out] at h; exact h) ⟨ownsRow_len hlv9.own, hlv9.row⟩ HRL.out (by omega) (by omega) (fun q hq => HLV.out.2.1 _ (tgetD_mem rows q [] hq)) HZL.out (by omega) HLV.out.1 HR6.out.rd (by omega)).mono ?_
                clear hlv9
                rintro e w8 ⟨kk, hplc, ⟨hin, rfl, hq8⟩ | ⟨hnin, g', cap', rfl, hb8, hch8, _, hown8⟩⟩
                · have HB8 := hide (HBn.out.trans ((hq8.below wc.heap.size).mono (by omega)))
                  have HLn := hide ((HLe.out.later HB6.out).later (hq8.below wc.heap.size))
                  have HLVn := hide (HLV.out.more HS.out HN.out (by rw [HP.out]; exact HTT.out) (by rw [HP.out]; exact HZT.out) HZN.out HZL.out HLV.out.1 (fun t => ⟨.inr, fun h => by rcases h with h | h; rw [h]; exact hin; exact h⟩))
                  clear hq8 hplc
                  go_wp2_with fail
                  go_roundw
                  case rel => exact ⟨i + 1, g, cg, rl, rows, lvals, by omega, by go_num, rfl, HRL.out, HB8.out, HLn.out, HLVn.out, by omega⟩
                  case measure => simp [intOf]; omega
                · have HB8 := hide (HBn.out.trans hb8)
                  have hkl := hplc.top
                  have HLn := hide (LstV.ins (w0 := we) (k := kk) (p := z) (by decide) hb3we HLe.out HB6.out HR6.out hch8 hkl (n := rl + 1) (by rw [HRL.out]) (by rw [HZL.out]; exact hown8))
                  have HLVn := hide (HLV.out.more HS.out HN.out (by rw [HP.out]; exact HTT.out) (by rw [HP.out]; exact HZT.out) HZN.out HZL.out (rows' := insL rows kk z) (HLV.out.1.ins hplc hnin) (fun t => insL_mem rows kk z t))
                  clear hb8 hch8 hown8 hplc
                  go_wp2_with fail
                  go_roundw
                  case rel => exact ⟨i + 1, g', cap', rl + 1, _, _, by omega, by go_num, rfl, by rw [insL_length, HRL.out], HB8.out, HLn.out, HLVn.out, by omega⟩
                  case measure => simp [intOf]; omega
          · have hiN2 : i = N := by omega
            have hiz : ¬ (i : Int) < N := by omega
            have hrows : rows = dvK f s L j := by
              have h := HLV.out
              rw [hiN2, ← HNN.out] at h
              exact h.fin HS.out HN.out HWX.out HCL.out HASC.out
            have HROWS := hide hrows
            have hrl5 : rl ≤ 1000 := by omega
            have hrl0 : 0 < rows.length := by
              have hL0 := HCL.out.pos
              have hm0 : L.getD 0 [] ∈ L := tgetD_mem L 0 [] hL0
              obtain ⟨z, hz, _⟩ := frs_cover (h1 := leH f) (h2 := leH s) (L.map (List.take j)) ((L.getD 0 []).take j) (List.mem_map.2 ⟨_, hm0, rfl⟩)
              rw [hrows]
              exact List.length_pos_of_mem hz
            obtain ⟨g2, c2, hv2, hg2, hcl2⟩ := own_look HLe.out.own hrl0
            rw [HRL.out] at hv2
            injection hv2 with hv2 _ hv3
            injection hv2 with hv2
            injection hv2 with hv2
            subst hv2 hv3
            obtain ⟨dl, hdl⟩ : ∃ l, (dvL f s L j).length = l := ⟨_, rfl⟩
            have HDL := hide hdl
            have hdlb : dl ≤ 9000 := by
              have h := dvL_len f s L j
              rw [hdl, HNN.out] at h
              have h2 : j * N ≤ 8 * 1000 := Nat.mul_le_mul (by omega) hll
              omega
            have hsx3 : wx.heap.size = b3 := HB3E.out
            have HLw := hide (HL.out.later (by have h := HBe.out; rw [← hsx3] at h; exact h))
            have HOW : Hid (we.ownsRow b1 25 1 u8 dl vals) := hide (by have h := HLw.out.own; rw [hdl] at h; exact h)
            have HNEWS : Hid (∀ q u, lvals[q]? = some u → we.cell? ((⟨g, 0, none⟩ : Addr).add q) = some u) := hide (fun q u hu => by
              have h := hcl2 q u hu
              rw [show (⟨g, 0, none⟩ : Addr).add q = ⟨g, q, none⟩ by simp [Addr.add]; try omega]
              exact h)
            have HLLN : Hid (lvals.length = rl * 1) := hide (by have h := ownsRow_len HLe.out.own; rw [HRL.out] at h; omega)
            have HONE := hide HLe.out.oneC
            obtain ⟨i2, hi2, hz0, hz1, hz2⟩ := info_parts neInfo2
            have hb1we : b1 ≤ we.heap.size := by omega
            clear hrows hrl0 hcl2 hdl
            go_wp2_with (at_builtin; refine wpList_append_own_at _ rfl _ _ 22 rfl b1 25 i2 (.slice none 0 0) 1 24 Try.underlying22 hi2 hz0 hz1 hz2 rfl (by decide) _ _ _ rfl HOW.out ⟨g, 0, none⟩ rl cg lvals rfl HLLN.out HNEWS.out HONE.out ?f3 ?f4 ?f5 ?_)
            case f3 => unfold maxLen; omega
            case f4 => omega
            intro v9 w9 hown9 hgrow9 _ hat9
            have HLc := hide (LstV.concat (w0 := wx) (w := we) (by decide) hsx HL.out (by have h := HBe.out; rw [← hsx3] at h; exact h) (by have h := HLe.out; rw [← hsx3] at h; exact h) (by rw [HDL.out, HRL.out]; exact hown9) hgrow9)
            have HB9 : Hid (Below b1 w1 w9) := hide (HBw.out.grown hgrow9 hb1we (fun g0 hg0 => (HOW.out.lt g0 hg0).1))
            have hs9 : b1 ≤ w9.heap.size := Nat.le_trans hb1we hgrow9.size
            clear hown9 hgrow9 hat9
            go_wp2_with fail
            go_roundw
            case rel =>
              refine ⟨j + 1, vals ++ lvals, by omega, by go_num, HB9.out, ?_, hs9⟩
              have h := HLc.out
              rw [HROWS.out] at h
              exact h
            case measure => simp [intOf]; omega
      · have hjm2 : j = m + 1 := by omega
        have hjz : ¬ (j : Int) ≤ m := by omega
        rw [hjm2, ← HZS.out] at HL
        obtain ⟨A', c', hv, hobj⟩ := HL.out.shape
        rw [HKZ.out] at hv
        subst hv
        have HO := hide (hobj.mono (lo' := w.heap.size) (Nat.le_of_lt hK1l) (Nat.le_refl _))
        have HBf : Hid (Below w.heap.size w wx) := hide (HB1.out.trans (HB.out.mono (Nat.le_of_lt hK1l)))
        clear hobj
        go_wp2_with fail
        go_ret2
        exact ⟨_, _, rfl, HBf.out, HO.out⟩
  · obtain rfl : zs = [] := by
      rcases HCASE.out with ⟨h, _⟩ | ⟨_, h⟩
      · exact absurd h hc0
      · exact h
    obtain rfl : kz = 0 := by simpa using HKZ.out.symm
    have hcb := d0 hc0
    clear d0 hl1 hcv1
    go_wp2_with fail
    go_ret2
    exact ⟨_, _, rfl, HB1.out, .inl ⟨rfl, rfl⟩⟩
end Go.Proofs.Ythnkhljgealjdaa
