import Derived.Test.YtkagfjofjbpfeaaZbp
import Derived.Test.YtkagfjofjbpfeaaZbi
import Derived.Test.YtkagfjofjbpfeaaZbc
import Derived.Test.YtkagfjofjbpfeaaZn
import Derived.Test.YtkagfjofjbpfeaaZt
import Derived.RangeFuncLeaves
import Derived.RangeFuncBox
import Derived.LoopNIn
import Derived.LoopIn
import Derived.RegionIn
import Derived.RangeFuncCalls
import Derived.Deep.Cut
import Derived.Deep.DeepCutAuto
import Derived.Test.YtkagfjofjbpfeaaZs
import Derived.Deep.AppendLies
namespace Go.Proofs.Ytkagfjofjbpfeaa
open Go Go.RowKit Go.Shelf
attribute [local go_sem] Oper.semAt_some
set_option maxHeartbeats 4000000
set_option maxRecDepth 100000 in
theorem gmI_any (A : Option Addr) (n c : Nat) (f : List (List Int)) (B : Option Addr) (k d : Nat) (s : List (List Int)) (C : Option Addr) (m : Nat) (xs : List Int) (zs : List Int) (code : Int) (kz : Nat) (w : World) (hz : ZArg 1048576 w A n f B k s) (hm : xs.length = m) (hb : m ≤ 1048576) (hr : Rd w C xs) (hres : GmRes f s xs zs code) (hkz : zs.length = kz) :
    Calls Try.prog 40 #[.agg #[.slice A n c, .slice B k d], .slice C m m] w fun e w' => ∃ A' c', e = .returned (.tuple #[.slice A' kz c', .int .i64 code]) ∧ Below w.heap.size w w' ∧ Res 2 w.heap.size w' A' zs := by
  have HZ := hide hz
  have HM := hide hm
  have HR := hide hr
  have HB0 := hide ((Below.refl _ w).alloc (Nat.le_refl _) (Obj.cells #[Value.slice A n c, Value.slice B k d] 44))
  have HK0 := hide (Blk.new w 44 [.slice A n c, .slice B k d])
  obtain ⟨hgc, hcase⟩ := hres
  have HGC := hide hgc
  rcases hcase with ⟨rfl, rfl⟩ | ⟨hc0, rfl⟩
  · obtain ⟨hs, htp, hnon⟩ : SolF f s ∧ Tup f.length xs ∧ NonF f s := by
      rcases hgc with ⟨h1, h2, h3, _⟩ | ⟨_, _, _, h⟩ | ⟨_, _, h⟩ | ⟨_, h⟩
      · exact ⟨h1, h2, h3⟩
      · omega
      · omega
      · omega
    have HP : Hid (PMap f s) := hide hs.1
    obtain rfl := (hz.same hs.1).symm
    have HN := hide hz.sz.fl
    have h12 := (hz.small hs.1).2
    rw [hz.sz.fl] at htp
    have HTP := hide htp
    have hm12 : m ≤ 12 := by rw [← hm]; exact htp.1
    obtain rfl : m = kz := by rw [← hkz]; unfold gmA; rw [gmL_length, hm]
    clear hz hm hr hgc hs htp hnon hkz
    refine (callsIn_wide (n := 6)).1 ?_
    refine callsIn_of_wp_marks Try.func40 rfl trivial ?_ rfl
    simp only [Try.ntmps40, List.size_toArray, List.length_cons, List.length_nil, Nat.reduceAdd, Nat.reduceSub, Array.replicate_succ, Array.replicate_zero, List.push_toArray, List.append_toArray, List.nil_append, List.cons_append]
    refine wpIn_wide.2 ?_
    have k0 := HK0.out.cell 0 _ rfl
    have k1 := HK0.out.cell 1 _ rfl
    go_wp2_with fail
    clear k0 k1
    refine (guFault_any A B C n c n d m m f s xs 0 _ (HZ.out.later HB0.out) HM.out hb (HR.out.later HB0.out) HGC.out).mono ?_
    rintro e w1 ⟨rfl, hb1⟩
    have HB1 := hide (HB0.out.trans (hb1.mono HB0.out.size))
    have HK1 := hide (HK0.out.later hb1)
    clear hb1
    go_wp2_with fail
    refine (cloneN_any C m m xs _ HM.out hb (HR.out.later HB1.out)).mono ?_
    rintro e w2 ⟨A3, c3, rfl, hb2, ho2, hcap⟩
    have HB2 := hide (HB1.out.trans (hb2.mono HB1.out.size))
    have HK2 := hide (HK1.out.later hb2)
    have HO2 := hide ho2
    clear hb2 ho2
    go_upto_region 5 with fail
    refine wp_gen fun w3 hw3 => ?_
    have hb3 : Below w2.heap.size w2 w3 := by rw [hw3]; first | exact (Below.refl _ _).alloc (Nat.le_refl _) _ | exact ((Below.refl _ _).alloc (Nat.le_refl _) _).setCell (p := ⟨w2.heap.size, 0, none⟩) (Nat.le_refl _) _
    have HB3 := hide (HB2.out.trans (hb3.mono HB2.out.size))
    have HK3 := hide (HK2.out.later hb3)
    have HL3 : Hid (Blk w3 w2.heap.size 31 [.slice A3 m c3]) := hide (by rw [hw3]; first | exact Blk.new _ _ _ | exact (Blk.new _ _ _).set 0 _)
    have HS3 : Hid (w3.heap.size = w2.heap.size + 1) := hide (by rw [hw3]; simp)
    have HO3 : Hid (Res 2 w1.heap.size w3 A3 xs) := hide (by
      rcases HO2.out with h | ⟨g, h1, h2, h3⟩
      · exact .inl h
      · exact .inr ⟨g, h1, h2, h3.later hb3 h3.lt⟩)
    have hbl0 : w.heap.size < w2.heap.size := HK2.out.lt
    have HO2L : Hid (∀ g, A3 = some ⟨g, 0, none⟩ → 0 < xs.length → g < w2.heap.size) := hide fun g e _ => by
      rcases HO2.out with ⟨h, _⟩ | ⟨g2, h1, _, h3⟩
      · rw [h] at e; cases e
      · rw [h1] at e; injection e with e; injection e with e; rw [← e]; exact h3.lt
    clear hw3 hb3
    obtain ⟨bl, hbl⟩ : ∃ q, w2.heap.size = q := ⟨_, rfl⟩
    rw [hbl] at HL3 HS3 hbl0 HO2L ⊢
    clear hbl
    have l0 := HL3.out.cell 0 _ rfl
    by_cases h0 : m = 0
    · subst h0
      have hx0 : xs = [] := List.length_eq_zero_iff.1 HM.out
      subst hx0
      go_wp2_with fail
      go_loopw [21] (fun i wr => i = .int .i64 0 ∧ wr = w3) (fun _ _ => 0)
      case atStart => exact ⟨rfl, rfl⟩
      case round =>
        obtain ⟨rfl, rfl⟩ := hrel
        go_wp2_with fail
        exact ⟨.tuple #[.slice A3 0 c3, .int .i64 0], (results_tmp2 (t := 4) (u := 5) rfl _ _ _).trans rfl, A3, c3, rfl, HB3.out, HO3.out.mono HB1.out.size⟩
    · obtain ⟨g, rfl, hg, hown⟩ : ∃ g, A3 = some ⟨g, 0, none⟩ ∧ w1.heap.size ≤ g ∧ OwnB 2 w3 g xs := by
        rcases HO3.out with ⟨_, h⟩ | h
        · exact absurd (by rw [← HM.out, h]; rfl) h0
        · exact h
      have HOW := hide hown
      have hgb : g < bl := HO2L.out g rfl (by have := HM.out; omega)
      have hgw : w.heap.size < g := Nat.lt_of_lt_of_le HK1.out.lt hg
      have HGW := hide (And.intro hgb hgw)
      clear HO3 hown hgb hgw HO2L
      obtain ⟨bA, oA, rfl, hbA, hcA⟩ := HP.out.1.cells HZ.out.fst HN.out
      obtain ⟨bC, oC, rfl, hbC, hcC⟩ := HR.out (by have := HM.out; omega)
      have HCA := hide hcA
      have HBA := hide hbA
      clear hcA hcC hbC hbA
      go_wp2_with fail
      refine wp_loop (fun a W => ∃ (k : Nat) (Ds : List Nat) (u3 u6 u8 u9 u10 u11 u12 u13 u14 u15 u16 u17 u18 u19 u22 u23 u24 u25 u26 u27 u28 u29 u30 u31 u32 u33 u34 u35 u36 u37 u38 u39 u40 u41 u42 u43 u44 u45 : Value), k ≤ m ∧ a = { tmps := #[.agg #[.slice (some ⟨bA, oA, none⟩) n c, .slice B n d], .slice (some ⟨bC, oC, none⟩) m m, .pointer (some ⟨w.heap.size, 0, none⟩), u3, .slice none 0 0, .int .i64 0, u6, .pointer (some ⟨bl, 0, none⟩), u8, u9, u10, u11, u12, u13, u14, u15, u16, u17, u18, u19, .int .i64 m, .int .i64 (k : Int), u22, u23, u24, u25, u26, u27, u28, u29, u30, u31, u32, u33, u34, u35, u36, u37, u38, u39, u40, u41, u42, u43, u44, u45], defers := mks Ds } ∧ w3.heap.size ≤ W.heap.size ∧ Ds.Nodup ∧ (∀ D ∈ Ds, w3.heap.size ≤ D ∧ D < W.heap.size ∧ W.heap[D]? = some (.deferred (some []))) ∧ Below w.heap.size w W ∧ Blk W w.heap.size 44 [.slice (some ⟨bA, oA, none⟩) n c, .slice B n d] ∧ Blk W bl 31 [.slice (some ⟨g, 0, none⟩) m c3] ∧ OwnB 2 W g (gmL f xs k ++ xs.drop k)) (fun a _ => m - (intOf (a.tmps.getD 21 undef)).toNat) ?h0 ?round
      case h0 => exact ⟨0, [], _, _, _, _, _, _, _, _, _, _, _, _, _, _, _, _, _, _, _, _, _, _, _, _, _, _, _, _, _, _, _, _, _, _, _, _, _, _, Nat.zero_le _, rfl, Nat.le_refl _, List.nodup_nil, fun D h => absurd h List.not_mem_nil, HB3.out, HK3.out, HL3.out, by rw [show gmL f xs 0 ++ xs.drop 0 = xs by simp [gmL]]; exact HOW.out⟩
      case round =>
        clear l0
        rintro a wr hrel
        obtain ⟨k, Ds, u3, u6, u8, u9, u10, u11, u12, u13, u14, u15, u16, u17, u18, u19, u22, u23, u24, u25, u26, u27, u28, u29, u30, u31, u32, u33, u34, u35, u36, u37, u38, u39, u40, u41, u42, u43, u44, u45, hk, rfl, hwr, hnd, hds, hbe, hsb, hlb, how⟩ := hrel
        have HNDD := hide hnd
        have HWR := hide hwr
        have HDS := hide hds
        have HBE := hide hbe
        have HSB := hide hsb
        have HLB := hide hlb
        have HOW2 := hide how
        have l0 := hlb.cell 0 _ rfl
        clear hwr hnd hds hbe hsb hlb how
        by_cases hlt : k < m
        · have hltz : (k : Int) < (m : Int) := by omega
          go_upto_region 8 with fail
          refine wp_gen fun w4 hw4 => ?_
          have hb4 : Below wr.heap.size wr w4 := by rw [hw4]; first | exact (Below.refl _ _).alloc (Nat.le_refl _) _ | exact ((Below.refl _ _).alloc (Nat.le_refl _) _).setCell (p := ⟨wr.heap.size, 0, none⟩) (Nat.le_refl _) _
          have HI4 : Hid (Blk w4 wr.heap.size 3 [.int .i64 (k : Int)]) := hide (by rw [hw4]; first | exact Blk.new _ _ _ | exact (Blk.new _ _ _).set 0 _)
          have HS4 : Hid (w4.heap.size = wr.heap.size + 1) := hide (by rw [hw4]; simp)
          have HB4 := hide hb4
          clear hw4 hb4 l0
          obtain ⟨bi, hbi⟩ : ∃ q, wr.heap.size = q := ⟨_, rfl⟩
          rw [hbi] at HI4 HS4 ⊢
          have HBI := hide hbi
          clear hbi
          have i0 := HI4.out.cell 0 _ rfl
          go_wp2_with fail
          refine (bwdC_any _ _ k m _ rfl).mono ?_
          rintro e w5 ⟨rfl, hw5⟩
          have hb5 : Below w4.heap.size w4 w5 := by rw [hw5]; exact (Below.refl _ _).alloc (Nat.le_refl _) _
          have HB5 := hide (HB4.out.trans (hb5.mono HB4.out.size))
          have HI5 := hide (HI4.out.later hb5)
          have HP5 : Hid (Blk w5 w4.heap.size 31 [.slice (some ⟨bC, oC, none⟩) k m]) := hide (by rw [hw5]; exact Blk.new _ _ _)
          have HS5 : Hid (w5.heap.size = w4.heap.size + 1) := hide (by rw [hw5]; simp)
          clear hw5 hb5 i0
          obtain ⟨pz, hpz⟩ : ∃ q, w4.heap.size = q := ⟨_, rfl⟩
          rw [hpz] at HP5 HS4 HS5 ⊢
          clear hpz
          go_wp2_with fail
          have hwr0 : w3.heap.size ≤ bi := by rw [← HBI.out]; exact HWR.out
          have HWZ := hide hwr0
          clear hwr0
          have h0 : ∀ L, w5.heap.size + 2 ≤ L → BoxI w w5.heap.size [(w.heap.size, 44, [.slice (some ⟨bA, oA, none⟩) n c, .slice B n d]), (bl, 31, [.slice (some ⟨g, 0, none⟩) m c3]), (bi, 3, [.int .i64 (k : Int)])] g 2 (gmT f xs k 0) L (fun b => b < w.heap.size ∨ b = pz) w5 ∧ ∀ E ∈ Ds, E < w5.heap.size ∧ E ≠ L ∧ E ≠ g ∧ w5.heap[E]? = some (.deferred (some [])) := fun L hL => by
            have hs0 := HBI.out
            have hs1 := HS4.out
            have hs2 := HS5.out
            have hs3 := HS3.out
            have hs4 := HWZ.out
            have hs5 := HGW.out
            have hs6 := hbl0
            have he : gmL f xs k ++ xs.drop k = gmT f xs k 0 := gmT_start f xs HTP.out k (by have := HM.out; omega)
            have ho := HOW2.out
            rw [he] at ho
            refine ⟨⟨HBE.out.trans (HB5.out.mono HBE.out.size), ?_, ho.later HB5.out ho.lt, fun h => by rcases h with h | h <;> omega, by omega, by omega, by omega⟩, fun E hE => ?_⟩
            · simp only [List.forall_mem_cons]
              exact ⟨⟨HSB.out.later HB5.out, by omega, by omega, by omega, by omega⟩, ⟨HLB.out.later HB5.out, by omega, by omega, by omega, by omega⟩, ⟨HI5.out, by omega, by omega, by omega, by omega⟩, fun p hp => absurd hp List.not_mem_nil⟩
            · obtain ⟨e1, e2, e3⟩ := HDS.out E hE
              exact ⟨by omega, by omega, by omega, (HB5.out.block E (by omega)).trans e3⟩
          refine (wpIn_wide (n := 5)).1 ?_
          refine wpIn_iterN (gf := 112) (lb := #[.pointer (some ⟨pz, 0, none⟩)]) rfl (enters_of Try.func112 (by kernel_rfl) rfl) (N := k) (U0 := fun b => b < w.heap.size ∨ b = pz) (bwdI_any (some ⟨bC, oC, none⟩) k m xs pz _ w w5 (by have := HM.out; omega) (by omega) HR.out (HBE.out.trans (HB5.out.mono HBE.out.size)) (fun b hb => .inl hb) (.inr rfl) HP5.out 5) (fun t L v U W h => by rw [h]; rfl) (fun t L v U W W' h hk => h) (fun b hb => by have hs1 := HS4.out; have hs2 := HS5.out; have hs0 := HBI.out; have hs4 := HWZ.out; have hs3 := HS3.out; have hs6 := hbl0; rcases hb with h | h <;> omega)
            (fun t L U W => BoxI w w5.heap.size [(w.heap.size, 44, [.slice (some ⟨bA, oA, none⟩) n c, .slice B n d]), (bl, 31, [.slice (some ⟨g, 0, none⟩) m c3]), (bi, 3, [.int .i64 (k : Int)])] g 2 (gmT f xs k t) L U W ∧ ∀ E ∈ Ds, E < w5.heap.size ∧ E ≠ L ∧ E ≠ g ∧ W.heap[E]? = some (.deferred (some []))) (fun _ _ _ _ _ => False)
            (fun t L U U' W W' hL h hs hu => ⟨h.1.step (by have hs1 := HS4.out; have hs2 := HS5.out; have hs0 := HBI.out; have hs4 := HWZ.out; have hs3 := HS3.out; have hs6 := hbl0; omega) hs hu, fun E hE => by obtain ⟨e1, e2, e3, e4⟩ := h.2 E hE; exact ⟨e1, e2, e3, (hs.same E (Array.getElem?_eq_some_iff.1 e4).1 e2).trans e4⟩⟩)
            (fun t L U W b o o' hb hb2 _ ho hc h => ⟨h.1.put o' hb (by have hs1 := HS4.out; have hs2 := HS5.out; have hs0 := HBI.out; have hs4 := HWZ.out; have hs3 := HS3.out; have hs6 := hbl0; omega), fun E hE => by obtain ⟨e1, e2, e3, e4⟩ := h.2 E hE; exact ⟨e1, e2, e3, (World.putObj_heap_other (by omega)).trans e4⟩⟩) (fun _ _ _ _ _ _ _ _ _ _ _ _ h => h)
            (fun L hL => h0 L (by omega)) (fun t v a' W => t < k → ∃ (u3 u4 u5 u6 u9 u11 u12 u13 u14 u15 u16 u17 u18 u19 u20 u21 u22 u23 u24 u25 u26 u27 u28 u29 u30 u31 u32 u33 u34 u35 u36 u37 u38 u39 u40 u41 u42 u43 u44 u45 : Value), a' = { tmps := #[.agg #[.slice (some ⟨bA, oA, none⟩) n c, .slice B n d], .slice (some ⟨bC, oC, none⟩) m m, .pointer (some ⟨w.heap.size, 0, none⟩), u3, u4, u5, u6, .pointer (some ⟨bl, 0, none⟩), .pointer (some ⟨bi, 0, none⟩), u9, .int .i64 ((elN xs (k - 1 - t) : Nat) : Int), u11, u12, u13, u14, u15, u16, u17, u18, u19, u20, u21, u22, u23, u24, u25, u26, u27, u28, u29, u30, u31, u32, u33, u34, u35, u36, u37, u38, u39, u40, u41, u42, u43, u44, u45], defers := [] }) (fun t v a' W b o o' hb ho hc h => h) ?assign ?body ?done ?stop
          case assign =>
            intro l t L v U W K' hT hsz hK
            subst hT
            gi_wp2
            refine hK _ _ (Below.refl _ _) fun htk => ?_
            have hel := (HTP.out.el (j := k - 1 - t) (by have := HM.out; omega)).1
            first | rw [hel] | (rw [List.getD_eq_getElem?_getD] at hel; rw [hel])
            exact ⟨_, _, _, _, _, _, _, _, _, _, _, _, _, _, _, _, _, _, _, _, _, _, _, _, _, _, _, _, _, _, _, _, _, _, _, _, _, _, _, _, rfl⟩
          case body =>
            rintro l t L v U a' W htk hL hUU ⟨hI, hDs⟩ hT hax hsz
            obtain ⟨u3, u4, u5, u6, u9, u11, u12, u13, u14, u15, u16, u17, u18, u19, u20, u21, u22, u23, u24, u25, u26, u27, u28, u29, u30, u31, u32, u33, u34, u35, u36, u37, u38, u39, u40, u41, u42, u43, u44, u45, rfl⟩ := hax htk
            have hbx := hI.bx
            simp only [List.forall_mem_cons] at hbx
            obtain ⟨b1, b2, b3, _⟩ := hbx
            have s0 := b1.1.cell 0 _ rfl
            have q0 := b2.1.cell 0 _ rfl
            have i0 := b3.1.cell 0 _ rfl
            have hkx : k < xs.length := by have := HM.out; omega
            have hxn := (HTP.out.el (j := k - 1 - t) (by omega)).2
            have hcur := gmIn_lt HP.out.1 HN.out HTP.out hkx t (by omega)
            have hlen := gmT_length f xs k t hkx
            have r0 := hI.own.cell (i := k) (by rw [hlen]; exact hkx)
            rw [gmT_at] at r0
            have rf := hI.own.frozen k
            obtain ⟨bx, ox, cx, q1, q2, q3⟩ := HCA.out (elN xs (k - 1 - t)) hxn
            have q4 := q3 _ hcur
            replace q1 := (hI.below.cell (p := ⟨bA, oA + elN xs (k - 1 - t), none⟩) HBA.out).trans q1
            replace q4 := (hI.below.cell (p := ⟨bx, ox + gmIn f xs k (elN xs k) t, none⟩) q2).trans q4
            have HST := hide (gmT_set f xs k t)
            have hsv : ap f (elN xs (k - 1 - t)) (gmIn f xs k (elN xs k) t) = gmIn f xs k (elN xs k) (t + 1) := rfl
            rw [hsv] at q4
            obtain ⟨x, hx⟩ : ∃ x, elN xs (k - 1 - t) = x := ⟨_, rfl⟩
            obtain ⟨u, hu⟩ : ∃ u, gmIn f xs k (elN xs k) t = u := ⟨_, rfl⟩
            obtain ⟨v2, hv2⟩ : ∃ v, gmIn f xs k (elN xs k) (t + 1) = v := ⟨_, rfl⟩
            rw [hx] at hxn q1 ⊢
            rw [hu] at hcur r0 q4
            rw [hv2] at q4 HST
            have hxz : (x : Int) < n := by omega
            have huz : (u : Int) < n := by omega
            have hkc : (k : Int) < (m : Int) := by omega
            have HI := hide hI
            have HDD := hide hDs
            have hmx : Try.prog.follows Departure.mixedOrders = true := by kernel_rfl
            have HHL : Hid (k < (gmT f xs k t).length) := hide (by rw [hlen]; exact hkx)
            clear hI hDs b1 b2 b3 q3 hlen hkx hx hu hv2 hsv hax hT h0
            gi_wp2
            refine wpIn_round_tail 14 hmx (by kernel_rfl) (by rfl) (fun ⟨_, _, h⟩ => h) ?_
            simp only [List.take_succ_cons, List.take_zero, List.drop_succ_cons, List.drop_zero]
            repeat still_step
            try refine wpStill_nil ?_
            go_wp2_with fail
            obtain ⟨k1, k2, k3⟩ := BoxI.next (i := k) (v := (v2 : Int)) (W1 := (W.setCell ⟨g, k, none⟩ (.int .i64 (v2 : Int))).drew) HI.out HHL.out rfl
            rw [HST.out] at k3
            exact ⟨k1, k2, k3, fun E hE => by obtain ⟨e1, e2, e3, e4⟩ := HDD.out E hE; exact ⟨e1, e2, e3, (Below.heap_setCell W ⟨g, k, none⟩ _ E e3).trans e4⟩⟩
          case done =>
            rintro L U W ⟨hI, hDs⟩ hD
            have he := gmT_end f xs k
            have ho := hI.own
            rw [he] at ho
            have HOE := hide ho
            have HIB := hide hI.below
            have hbx := hI.bx
            simp only [List.forall_mem_cons] at hbx
            obtain ⟨b1, b2, b3, _⟩ := hbx
            have HB1' := hide b1.1
            have HB2' := hide b2.1
            have HDD := hide hDs
            have HD := hide hD
            clear hI hDs ho b1 b2 b3 hD he h0
            gi_wp2
            go_wp2_with fail
            have hDl := (Array.getElem?_eq_some_iff.1 HD.out).1
            have hs1 := HS4.out
            have hs2 := HS5.out
            have hs0 := HBI.out
            have hs4 := HWZ.out
            refine ⟨⟨k + 1, w5.heap.size :: Ds, _, _, _, _, _, _, _, _, _, _, _, _, _, _, _, _, _, _, _, _, _, _, _, _, _, _, _, _, _, _, _, _, _, _, _, _, _, _, by omega, rfl, by omega, List.nodup_cons.2 ⟨fun h => by have := (HDD.out _ h).1; omega, HNDD.out⟩, fun E hE => ?_, HIB.out, HB1'.out, HB2'.out, HOE.out⟩, ?_⟩
            · rcases List.mem_cons.1 hE with h | h
              · subst h; exact ⟨by omega, hDl, HD.out⟩
              · obtain ⟨e1, e2, e3, e4⟩ := HDD.out E h
                exact ⟨(HDS.out E h).1, (Array.getElem?_eq_some_iff.1 e4).1, e4⟩
            · simp [intOf]; omega
          case stop =>
            rintro c k L U W _ h _
            exact h.elim
        · have hkm : k = m := by omega
          subst hkm
          go_wp2_with fail
          refine leaves_mks Ds _ HNDD.out (fun D hD => (HDS.out D hD).2.2) ?_
          have hgx : g ∉ Ds := fun h => by have h1 := (HDS.out g h).1; have h2 := HGW.out; have h3 := HS3.out; omega
          have hcl : Below w.heap.size w (closeW Ds wr) := closeW_below Ds wr HBE.out fun D hD => by have h1 := (HDS.out D hD).1; have h2 := HB3.out.size; omega
          have hoe := HOW2.out
          rw [List.drop_eq_nil_of_le (by have := HM.out; omega), List.append_nil] at hoe
          exact ⟨.tuple #[.slice (some ⟨g, 0, none⟩) k c3, .int .i64 0], (results_tmp2 (t := 4) (u := 5) rfl _ _ _).trans rfl, _, _, rfl, hcl, .inr ⟨g, rfl, by have := HGW.out; omega, by unfold gmA; rw [HM.out]; exact hoe.of_block (closeW_same Ds wr hgx)⟩⟩
  · obtain rfl : kz = 0 := by rw [← hkz]; rfl
    clear hz hm hr hgc hkz
    have hcz : (code != (0 : Int)) = true := by simp [hc0]
    go_enter Try.func40, Try.ntmps40
    have k0 := HK0.out.cell 0 _ rfl
    have k1 := HK0.out.cell 1 _ rfl
    go_wp2_with fail
    clear k0 k1
    refine (guFault_any A B C n c k d m m f s xs code _ (HZ.out.later HB0.out) HM.out hb (HR.out.later HB0.out) HGC.out).mono ?_
    rintro e w1 ⟨rfl, hb1⟩
    have HB1 := hide (HB0.out.trans (hb1.mono HB0.out.size))
    clear hb1
    go_wp2_with fail
    go_ret2
    exact ⟨_, _, rfl, HB1.out, .inl ⟨rfl, rfl⟩⟩
end Go.Proofs.Ytkagfjofjbpfeaa
namespace Go.Proofs.Ytkagfjofjbpfeaa
open Go Go.RowKit
set_option maxHeartbeats 4000000

set_option maxRecDepth 100000 in
theorem gmS_any (A : Option Addr) (n c : Nat) (f : List (List Int)) (B : Option Addr) (k d : Nat) (s : List (List Int)) (C : Option Addr) (m e : Nat) (xs : List Int) (zs : List Int) (code : Int) (kz : Nat) (w : World) (hz : ZArg 1048576 w A n f B k s) (hm : xs.length = m) (hb : m ≤ 1048576) (hr : Rd w C xs) (hres : GmRes f s xs zs code) (hkz : zs.length = kz) :
    Calls Try.prog 38 #[.agg #[.slice A n c, .slice B k d], .slice C m e] w fun e w' => ∃ A' c', e = .returned (.tuple #[.slice A' kz c', .int .i64 code]) ∧ Below w.heap.size w w' ∧ Res 2 w.heap.size w' A' zs := by
  have HZ := hide hz
  have HM := hide hm
  have HR := hide hr
  have HB0 := hide ((Below.refl _ w).alloc (Nat.le_refl _) (Obj.cells #[Value.slice A n c, Value.slice B k d] 44))
  have HK0 := hide (Blk.new w 44 [.slice A n c, .slice B k d])
  obtain ⟨hgc, hcase⟩ := hres
  have HGC := hide hgc
  rcases hcase with ⟨rfl, rfl⟩ | ⟨hc0, rfl⟩
  · obtain ⟨hs, htp, hnon⟩ : SolF f s ∧ Tup f.length xs ∧ NonF f s := by
      rcases hgc with ⟨h1, h2, h3, _⟩ | ⟨_, _, _, h⟩ | ⟨_, _, h⟩ | ⟨_, h⟩
      · exact ⟨h1, h2, h3⟩
      · omega
      · omega
      · omega
    have HP : Hid (PMap f s) := hide hs.1
    have HPM : Hid (AllPrm f) := hide hnon.1
    obtain rfl := (hz.same hs.1).symm
    have HN := hide hz.sz.fl
    have h12 := (hz.small hs.1).2
    rw [hz.sz.fl] at htp
    have HTP := hide htp
    have hm12 : m ≤ 12 := by rw [← hm]; exact htp.1
    obtain rfl : kz = m := by rw [← hkz]; unfold gmA; rw [gmL_length, hm]
    obtain ⟨b1, o1, hA, hbw, hcc⟩ := HP.out.1.cells hz.fst HN.out
    obtain ⟨_, _, hA', _, hcr⟩ := rd_rows HP.out.1 hz.fst HN.out
    subst hA
    injection hA' with hA'
    injection hA' with e1 e2
    subst e1
    subst e2
    have HC := hide hcc
    have HCR := hide hcr
    obtain ⟨i0, hi, hz0, hz1, hz2⟩ := info_parts neInfo
    clear hz hm hr hgc hs htp hnon hkz hcc hcr
    go_enter Try.func38, Try.ntmps38
    have k0 := HK0.out.cell 0 _ rfl
    have k1 := HK0.out.cell 1 _ rfl
    go_wp2_with fail
    clear k0 k1
    refine (guCodeS_any _ B C n c n d kz e f s xs 0 _ (HZ.out.later HB0.out) HM.out hb (HR.out.later HB0.out) HGC.out).mono ?_
    rintro e w1 ⟨rfl, hb1⟩
    have HB1 := hide (HB0.out.trans (hb1.mono HB0.out.size))
    have HK1 := hide (HK0.out.later hb1)
    clear hb1
    go_wp2_with fail
    go_loopw [7, 8] (fun v i wr => ∃ (k : Nat) (A' : Option Addr) (c' : Nat), k ≤ kz ∧ i = .int .i64 k ∧ v = .slice A' k c' ∧ Below w1.heap.size w1 wr ∧ w1.heap.size < wr.heap.size ∧ wr.ownsRow w1.heap.size 2 1 v k (ints (gmL f xs k))) (fun _ i _ => kz - (intOf i).toNat)
    case atStart => exact ⟨0, _, _, Nat.zero_le _, rfl, rfl, (Below.refl _ _).alloc (Nat.le_refl _) _, by simp, by simpa [ints, gmL] using ne_empty w1 _⟩
    case round =>
      obtain ⟨k, Ao, co, hk, rfl, rfl, hbe, hsz, hoe⟩ := hrel
      have HBr := hide hbe
      have HOr := hide hoe
      clear hbe hoe
      have HBW := hide (HB1.out.trans (HBr.out.mono HB1.out.size))
      by_cases hlt : k < kz
      · have hkx : k < xs.length := by have := HM.out; omega
        have hkz : (k : Int) < kz := by omega
        obtain ⟨bt, ot, hCt, hbt, hct⟩ := HR.out (by omega)
        have t1 := (HBW.out.cell (p := ⟨bt, ot + k, none⟩) hbt).trans (hct k hkx)
        have hel := HTP.out.el hkx
        rw [hel.1] at t1
        have HCT := hide hct
        subst hCt
        clear hct
        go_wp2_with fail
        clear t1
        obtain ⟨wo, rfl⟩ : ∃ wo : World, wo = wr := ⟨_, rfl⟩
        go_loopw [9, 10] (fun v i wi => ∃ t : Nat, t ≤ k ∧ i = .int .i64 ((k : Int) - 1 - t) ∧ v = .int .i64 ((gmIn f xs k (elN xs k) t : Nat) : Int) ∧ Below wo.heap.size wo wi) (fun _ i _ => (intOf i + 1).toNat)
        case atStart => exact ⟨0, Nat.zero_le _, by simp, rfl, Below.refl _ _⟩
        case round =>
          obtain ⟨t, ht, rfl, rfl, hbi⟩ := hrel
          have HBI := hide hbi
          clear hbi
          by_cases hltt : t < k
          · obtain ⟨j, hj⟩ : ∃ j : Nat, j + 1 + t = k := ⟨k - 1 - t, by omega⟩
            have hjz : (k : Int) - 1 - t = (j : Int) := by omega
            have hjm : (j : Int) < kz := by omega
            have hj1 : IntKind.i64.wrap ((j : Int) - 1) = (j : Int) - 1 := IntWalk.i64_in _ (by omega)
            have hjn : (j : Int) - 1 = (k : Int) - 1 - ((t + 1 : Nat) : Int) := by omega
            have hel2 := HTP.out.el (j := j) (by omega)
            have hcur := gmIn_lt HP.out.1 HN.out HTP.out hkx t (by omega)
            have hsv : gmIn f xs k (elN xs k) (t + 1) = ap f (elN xs j) (gmIn f xs k (elN xs k) t) := by
              have e : k - 1 - t = j := by omega
              show ap f (elN xs (k - 1 - t)) _ = _
              rw [e]
            have t2 := (((HBW.out.trans (HBI.out.mono HBW.out.size))).cell (p := ⟨bt, ot + j, none⟩) hbt).trans (HCT.out j (by omega))
            rw [hel2.1] at t2
            have hn1 := hel2.2
            obtain ⟨b, hbe⟩ : ∃ b, elN xs j = b := ⟨_, rfl⟩
            rw [hbe] at hn1 hsv t2
            obtain ⟨u, hue⟩ : ∃ u, gmIn f xs k (elN xs k) t = u := ⟨_, rfl⟩
            rw [hue] at hcur hsv ⊢
            obtain ⟨v, hve⟩ : ∃ v, ap f b u = v := ⟨_, rfl⟩
            rw [hve] at hsv
            obtain ⟨bx, ox, cx, q1, q2, q3⟩ := HC.out b hn1
            have q4 := q3 u hcur
            rw [hve] at q4
            replace q1 := ((HBW.out.trans (HBI.out.mono HBW.out.size)).cell (p := ⟨b1, o1 + b, none⟩) hbw).trans q1
            replace q4 := ((HBW.out.trans (HBI.out.mono HBW.out.size)).cell (p := ⟨bx, ox + u, none⟩) q2).trans q4
            have HSV := hide hsv
            have hbz : (b : Int) < n := by omega
            have huz : (u : Int) < n := by omega
            have k0 := ((HK1.out.later HBr.out).later HBI.out).cell 0 _ rfl
            rw [hjz]
            clear hbe hue hve q3
            go_wp2_with fail
            go_quiet (fail)
            clear k0 q1 q4 t2
            go_wp2_with fail
            go_roundw
            case rel => exact ⟨t + 1, by omega, by first | rw [← hjn, hj1] | (congr 1 <;> omega), by rw [HSV.out], by first | exact HBI.out | exact HBI.out.drew | exact bdrewN HBI.out _⟩
            case measure => simp [intOf]; omega
          · have htk : t = k := by omega
            subst htk
            have hm1 : (t : Int) - 1 - t = -1 := by omega
            rw [hm1]
            have HOI := hide (ownsRow_below HOr.out HBI.out)
            have hsI : w1.heap.size < wr.heap.size := by have := HBI.out.size; omega
            have HBX := hide (HBr.out.trans (HBI.out.mono HBr.out.size))
            go_wp2_with (at_builtin; refine wpList_append_own _ rfl _ _ 31 rfl w1.heap.size 2 i0 (.int .i64 0) 1 8 Try.underlying31 hi hz0 hz1 hz2 rfl (by decide) _ _ _ rfl (HOI.out.alloc _) ⟨wr.heap.size, 0, none⟩ 1 1 [.int .i64 (gmIn f xs t (elN xs t) t : Nat)] rfl rfl ?c1 ?c2 ?c3 ?c4 ?c5 ?_)
            try (case c1 => exact ne_new)
            try (case c2 => first | rfl | (intro u hu; simp at hu; subst hu; rfl))
            try (case c3 => first | omega | (unfold maxLen; omega))
            try (case c4 => omega)
            try (case c5 => first | omega | (simp; omega))
            intro v' w3 hown' hgrow _
            obtain ⟨gg, cap, hv'⟩ := own_form hown'
            subst hv'
            have HO3 := hide hown'
            have HB3 : Hid (Below w1.heap.size w1 w3) := hide ((HBX.out.alloc HBX.out.size _).grown hgrow (by simp; omega) (fun g hg => ((HOI.out.alloc (.cells #[.int .i64 (gmIn f xs t (elN xs t) t : Nat)] 2)).lt g hg).1))
            have hs3 : w1.heap.size < w3.heap.size := by have := hgrow.size; simp at this; omega
            clear hown' hgrow
            go_wp2_with fail
            go_roundw
            case rel => exact ⟨t + 1, _, _, by omega, by go_num, rfl, HB3.out, hs3, by have h := HO3.out; rw [← ints_snoc, ← gmL_succ] at h; exact h⟩
            case measure => simp [intOf]; omega
      · have hkn : k = kz := by omega
        subst hkn
        have h := HOr.out
        go_wp2_with fail
        go_ret2
        obtain ⟨A2, c2, hv, hres⟩ := own_shape h
        injection hv with e1 e2 e3
        subst e1
        subst e3
        exact ⟨_, _, rfl, HBW.out, by have h2 := hres.mono (B' := w.heap.size) HB1.out.size; unfold gmA; rw [HM.out]; exact h2⟩
  · obtain rfl : kz = 0 := by rw [← hkz]; rfl
    clear hz hm hr hgc hkz
    have hcz : (code != (0 : Int)) = true := by simp [hc0]
    go_enter Try.func38, Try.ntmps38
    have k0 := HK0.out.cell 0 _ rfl
    have k1 := HK0.out.cell 1 _ rfl
    go_wp2_with fail
    clear k0 k1
    refine (guCodeS_any A B C n c k d m e f s xs code _ (HZ.out.later HB0.out) HM.out hb (HR.out.later HB0.out) HGC.out).mono ?_
    rintro e w1 ⟨rfl, hb1⟩
    have HB1 := hide (HB0.out.trans (hb1.mono HB0.out.size))
    clear hb1
    go_wp2_with fail
    go_ret2
    exact ⟨_, _, rfl, HB1.out, .inl ⟨rfl, rfl⟩⟩
end Go.Proofs.Ytkagfjofjbpfeaa
