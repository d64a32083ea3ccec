import Derived.Test.YtbhlcfcmjildmaaGq
import Derived.Test.YtbhlcfcmjildmaaGp
import Derived.Test.YtbhlcfcmjildmaaGd
import Derived.Test.YtbhlcfcmjildmaaGn
import Derived.Test.YtbhlcfcmjildmaaGj
import Derived.Laws.MakeOwn
import Derived.Test.YtbhlcfcmjildmaaGl
namespace Go.Proofs.Ytbhlcfcmjildmaa
open Go Go.RowKit
open Classical
set_option maxHeartbeats 4000000
theorem StepL.set {L : Nat} {W W' : World} (h : StepL L W W') (i : Nat) (v : Value) : StepL L W (W'.setCell ⟨L, i, none⟩ v) :=
  ⟨h.os, h.tape, h.output, by have := h.size; simpa [World.setCell] using this, fun b hb hn => (Below.heap_setCell W' ⟨L, i, none⟩ v b hn).trans (h.same b hb hn)⟩
theorem LstV.step {ts t : TypeId} {B : Nat} {w w' : World} {v : Value} {rows : List (List Int)} {vals : List Value} (h : LstV ts t B w v rows vals) (hs : w.heap.size ≤ w'.heap.size) (he : ∀ b, B ≤ b → b < w.heap.size → w'.heap[b]? = w.heap[b]?) : LstV ts t B w' v rows vals := by
  refine ⟨⟨h.own.1, ?_⟩, fun i hi => ?_, h.ne⟩
  · rcases h.own.2 with h2 | ⟨g, cap, cur, hv, hg, hh, r⟩
    · exact .inl h2
    · exact .inr ⟨g, cap, cur, hv, hg, (he g hg (Array.getElem?_eq_some_iff.1 hh).1).trans hh, r⟩
  · obtain ⟨A, c, h1, h2⟩ := h.row i hi
    refine ⟨A, c, h1, ?_⟩
    rcases h2 with h2 | ⟨g, e1, e2, e3, e4⟩
    · exact .inl h2
    · exact .inr ⟨g, e1, e2, by omega, e4.of_block (he g e2 e3)⟩
theorem LstV.lo {ts t : TypeId} {B g c N : Nat} {w : World} {rows : List (List Int)} {vals : List Value} (h : LstV ts t B w (.slice (some ⟨g, 0, none⟩) N c) rows vals) : B ≤ g := by
  rcases h.own.2 with ⟨hv, _⟩ | ⟨g', cap, cur, hv, hg, _⟩
  · cases hv
  · injection hv with hv
    injection hv with hv
    injection hv with hv
    omega
theorem LstV.at {ts t : TypeId} {B g c N : Nat} {w : World} {rows : List (List Int)} {vals : List Value} (h : LstV ts t B w (.slice (some ⟨g, 0, none⟩) N c) rows vals) {i : Nat} (hi : i < rows.length) : ∃ A ci, w.cell? ⟨g, i, none⟩ = some (.slice A (rows.getD i []).length ci) ∧ Rd w A (rows.getD i []) := by
  obtain ⟨A, ci, h1, h2⟩ := h.row i hi
  obtain ⟨g', c', hv, _, hc⟩ := own_look h.own (by omega)
  injection hv with hv
  injection hv with hv
  injection hv with hv
  subst hv
  exact ⟨A, ci, hc i _ h1, h2.rd⟩
theorem nws_next {h1 h2 : Nat → Nat → Int} {n K j : Nat} (hj : j < n ^ K) : nws h1 h2 ((wds n K).take (j + 1)) = nws h1 h2 ((wds n K).take j) ++ (if IsNw h1 h2 (dig n K j) then [dig n K j] else []) := by
  rw [wds_take n K j hj, nws_app]
theorem wrap64_sm (n : Int) (h : -9223372036854775808 ≤ n ∧ n ≤ 9223372036854775807) : wrap64 n = n := by unfold wrap64; omega
theorem rep_set (m : Nat) (tl : List Int) (x : Int) : (List.replicate (m + 1) 0 ++ tl).set m x = List.replicate m 0 ++ x :: tl := by
  rw [List.set_append_left _ _ (by simp), List.replicate_succ', List.set_append_right _ _ (by simp)]
  simp
theorem wds_pre {n k : Nat} {p : List Int} (hp : p ∈ wds n k) {i : Nat} (hi : i ≤ k) : p.take i ∈ wds n i := by
  obtain ⟨h1, h2⟩ := (wds_mem k p).1 hp
  exact (wds_mem i _).2 ⟨by rw [List.length_take]; omega, fun v hv => h2 v (List.mem_of_mem_take hv)⟩
set_option maxRecDepth 100000 in
theorem normals_any (A : Option Addr) (n c : Nat) (f : List (List Int)) (B : Option Addr) (d : Nat) (s : List (List Int)) (K : Nat) (w : World) (hz : ZArg 1048576 w A n f B n s) (hs : SolF f s) (hK : K ≤ 8) (hp : n ^ K ≤ 5000) :
    Calls Try.prog 30 #[.agg #[.slice A n c, .slice B n d], .int .i64 K] w fun e w' => ∃ v vals, e = .returned v ∧ Below w.heap.size w w' ∧ LstV 26 2 w.heap.size w' v (nws (leH f) (leH s) (wds n K)) vals := by
  have h12 := hz.small hs.1
  have HPB := hide (hs.pb hz.sz.fl)
  have HZ := hide hz
  have HS := hide hs
  have HB0 := hide ((Below.refl _ w).alloc (Nat.le_refl _) (Obj.cells #[Value.slice A n c, Value.slice B n d] 29))
  have HK0 := hide (Blk.new w 29 [.slice A n c, .slice B n d])
  obtain ⟨size, hsz⟩ : ∃ z, n ^ K = z := ⟨_, rfl⟩
  have HSZ := hide hsz
  rw [hsz] at hp
  have hmk := run_make_row' (P := Try.prog) 76 4 (.bool false) 1 Try.underlying76 boInfo rfl .i64 .i64 size (by omega) (by omega)
  have HMK2 := hide (run_make_row' (P := Try.prog) 26 2 (.int .i64 0) 8 Try.underlying26 clInfo rfl .i64 .i64 K (by omega) (by omega))
  obtain ⟨i2, hj, hy0, hy1, hy2⟩ := info_parts neInfo2
  clear hz hs hsz
  go_enter Try.func30, Try.ntmps30
  have k0 := HK0.out.cell 0 _ rfl
  have k1 := HK0.out.cell 1 _ rfl
  go_wp2_with fail
  clear k0 k1
  refine wp_gen fun w1 hw1 => ?_
  have HB1 : Hid (Below w.heap.size w w1) := hide (by rw [hw1]; exact HB0.out)
  have HK1 : Hid (Blk w1 w.heap.size 29 [.slice A n c, .slice B n d]) := hide (by rw [hw1]; exact HK0.out)
  clear hw1 HB0 HK0
  go_loopw [6, 7] (fun sv iv wr => ∃ j : Nat, j ≤ K ∧ iv = .int .i64 j ∧ sv = .int .i64 ((n ^ j : Nat) : Int) ∧ wr = w1) (fun _ i _ => K - (intOf i).toNat)
  case atStart => exact ⟨0, Nat.zero_le _, rfl, by simp, rfl⟩
  case round =>
    obtain ⟨j, hj2, rfl, rfl, hwr⟩ := hrel
    have hwr := hwr.symm
    subst hwr
    by_cases hlt : j < K
    · obtain ⟨p, hp2⟩ : ∃ p, n ^ j = p := ⟨_, rfl⟩
      have hpb : p ≤ 429981696 := by rw [← hp2]; exact pow_le12 h12.2 (by omega)
      rw [hp2]
      have hjz : (j : Int) < K := by omega
      obtain ⟨q, hq⟩ : ∃ q, n ^ (j + 1) = q := ⟨_, rfl⟩
      have hqb : q ≤ 429981696 := by rw [← hq]; exact pow_le12 h12.2 (by omega)
      have hpq : (p : Int) * (n : Int) = (q : Int) := by rw [← hp2, ← hq, Nat.pow_succ]; push_cast; rfl
      have hpq0 : 0 ≤ (p : Int) * (n : Int) := by rw [hpq]; omega
      have hpq1 : (p : Int) * (n : Int) ≤ 429981696 := by rw [hpq]; omega
      have HQ := hide hq
      have HPQ := hide hpq
      clear hp2 hq hpq hmk
      go_wp2_with fail
      go_roundw
      case rel => exact ⟨j + 1, by omega, by go_num, by rw [HPQ.out, HQ.out], by first | rfl | trivial⟩
      case measure => simp [intOf]; omega
    · have hjK : j = K := by omega
      have hjz : ¬ (K : Int) < K := by omega
      rw [hjK]
      clear hjK hlt hj2
      rw [HSZ.out]
      go_wp2_with fail
      clear hmk
      refine wp_gen fun w3 hw3 => ?_
      obtain ⟨gs, hgs⟩ : ∃ g, w1.heap.size = g := ⟨_, rfl⟩
      have HBB3 : Hid (BoolB 4 w3 gs size (fun _ => false)) := hide (by rw [hw3, ← hgs]; exact (BoolB.made 4 w1 size).later ((Below.refl _ _).alloc (Nat.le_refl _) _))
      have HB3 : Hid (Below gs w1 w3) := hide (by rw [hw3, ← hgs]; exact ((Below.refl _ _).alloc (Nat.le_refl _) _).alloc (by simp) _)
      have HL3 : Hid (LstV 26 2 (gs + 1) w3 (.slice (some ⟨gs + 1, 0, none⟩) 0 0) [] []) := hide (by
        have h := LstV.start (w1.alloc (.cells (madeCells #[.bool false] size) 4)) 26 2
        have e : (w1.alloc (.cells (madeCells #[.bool false] size) 4)).heap.size = gs + 1 := by simp [hgs]
        rw [e] at h
        rw [hw3]
        exact h)
      have HGS := hide hgs
      have hb0 : w.heap.size < gs := by rw [← hgs]; exact HK1.out.lt
      rw [hgs]
      clear hw3 hgs
      go_loopw [9, 10, 11, 12, 13, 14, 15, 16, 17, 18] (fun ov wv _ _ _ _ _ _ _ _ wx => ∃ (j : Nat) (vals : List Value) (F : Nat → Bool), j ≤ size ∧ wv = .int .i64 j ∧ Below gs w1 wx ∧ LstV 26 2 (gs + 1) wx ov (nws (leH f) (leH s) ((wds n K).take j)) vals ∧ BoolB 4 wx gs size F ∧ ∀ i, i < size → (F i = true ↔ ∃ y, y ∈ nws (leH f) (leH s) ((wds n K).take j) ∧ Tch (leH f) (leH s) y (dig n K i))) (fun _ v _ _ _ _ _ _ _ _ _ => size - (intOf v).toNat)
      case atStart => exact ⟨0, [], fun _ => false, Nat.zero_le _, rfl, HB3.out, HL3.out, HBB3.out, fun i hi => by simp [nws]⟩
      case round =>
        obtain ⟨wx, rfl⟩ : ∃ wx, wx = wr := ⟨wr, rfl⟩
        obtain ⟨j, vals, F, hj3, rfl, hbe, hlst, hbb, hF⟩ := hrel
        have HB := hide hbe
        have HL := hide hlst
        have HBB := hide hbb
        have HF := hide hF
        clear hbe hlst hbb hF HB3 HL3 HBB3
        by_cases hlt : j < size
        · have hjz : (j : Int) < size := by omega
          have hjp : j < n ^ K := by rw [HSZ.out]; exact hlt
          have HNX := hide (nws_next (h1 := leH f) (h2 := leH s) hjp)
          have HMT := hide (nws_met HPB.out (by omega) hjp)
          have hcell := HBB.out.cell hlt
          obtain ⟨q, hq⟩ : ∃ q, F j = q := ⟨_, rfl⟩
          rw [hq] at hcell
          have HQ := hide hq
          clear hq
          cases q with
          | true =>
            have hnn : nws (leH f) (leH s) ((wds n K).take (j + 1)) = nws (leH f) (leH s) ((wds n K).take j) := by
              rw [HNX.out, if_neg (HMT.out.1 ((HF.out j hlt).1 HQ.out)), List.append_nil]
            have HNN := hide hnn
            clear hnn
            go_wp2_with fail
            go_roundw
            case rel => exact ⟨j + 1, vals, F, by omega, by go_num, HB.out, by rw [HNN.out]; exact HL.out, HBB.out, by rw [HNN.out]; exact HF.out⟩
            case measure => simp [intOf]; omega
          | false =>
            have hnw : IsNw (leH f) (leH s) (dig n K j) := by
              by_cases h : IsNw (leH f) (leH s) (dig n K j)
              · exact h
              · have h2 := (HF.out j hlt).2 (HMT.out.2 h)
                rw [HQ.out] at h2; cases h2
            have HNN : Hid (nws (leH f) (leH s) ((wds n K).take (j + 1)) = nws (leH f) (leH s) ((wds n K).take j) ++ [dig n K j]) := hide (by rw [HNX.out, if_pos hnw])
            have hmk2 := HMK2.out
            clear hnw HNX HMT HQ
            go_wp2_with fail
            clear hmk2 hcell
            refine wp_gen fun w4 hw4 => ?_
            obtain ⟨gW, hgW⟩ : ∃ g, wx.heap.size = g := ⟨_, rfl⟩
            have hbW : Below wx.heap.size wx w4 := by rw [hw4]; exact (Below.refl _ _).alloc (Nat.le_refl _) _
            have HROW : Hid (Row 2 w4 gW (List.replicate K 0)) := hide (by rw [hw4, ← hgW]; exact Row.made 2 wx K)
            have HBW := hide (by rw [hgW] at hbW; exact hbW)
            have HGW := hide hgW
            have hgl : gs < gW := by rw [← hgW]; exact HBB.out.lt
            rw [hgW]
            clear hw4 hgW hbW
            go_loopw [12, 13] (fun rv iv wd => ∃ (m rest : Nat) (tl : List Int), m ≤ K ∧ iv = .int .i64 ((m : Int) - 1) ∧ rv = .int .i64 rest ∧ rest ≤ 5000 ∧ Below gW wx wd ∧ tl.length = K - m ∧ dig n K j = dig n m rest ++ tl ∧ Row 2 wd gW (List.replicate m 0 ++ tl)) (fun _ iv _ => (intOf iv + 1).toNat)
            case atStart => exact ⟨K, j, [], Nat.le_refl _, by first | rfl | go_num, rfl, by omega, HBW.out, by simp, by simp, by simpa using HROW.out⟩
            case round =>
              obtain ⟨m, rest, tl, hm, rfl, rfl, hrest, hbd, htl, hdig, hrow⟩ := hrel
              have HBD := hide hbd
              have HTL := hide htl
              have HDIG := hide hdig
              have HROWD := hide hrow
              clear hbd htl hdig hrow HROW HBW
              rcases m with _ | m
              · have hword : tl = dig n K j := by have h := HDIG.out; simpa [dig] using h.symm
                have HWORD := hide hword
                have HROW : Hid (Row 2 wr gW (dig n K j)) := hide (by rw [← hword]; simpa using HROWD.out)
                obtain ⟨wd, rfl⟩ : ∃ wd, wd = wr := ⟨wr, rfl⟩
                have hszd : gW < wd.heap.size := HROW.out.lt
                have HBd : Hid (Below wx.heap.size wx wd) := hide (by rw [HGW.out]; exact HBD.out)
                have HLd := hide (HL.out.later HBd.out)
                have HBBd := hide (HBB.out.later HBd.out)
                have HB4 := hide (HB.out.trans (HBd.out.mono (by rw [HGW.out]; omega)))
                have HOBJ : Hid (Obj1 2 wx.heap.size wd.heap.size wd (some ⟨gW, 0, none⟩) (dig n K j)) := hide (.inr ⟨gW, rfl, by rw [HGW.out]; exact Nat.le_refl _, hszd, HROW.out.own⟩)
                have hdl : (dig n K j).length = K := dig_len n K j
                obtain ⟨N0, hN0⟩ : ∃ N, (nws (leH f) (leH s) ((wds n K).take j)).length = N := ⟨_, rfl⟩
                have hN0b : N0 ≤ 5000 := by
                  have h := nws_len (h1 := leH f) (h2 := leH s) ((wds n K).take j)
                  rw [hN0, List.length_take, wds_len, HSZ.out] at h
                  omega
                have HN0 := hide hN0
                have HOW : Hid (wd.ownsRow (gs + 1) 26 1 u9 N0 vals) := hide (by have h := HLd.out.own; rw [hN0] at h; exact h)
                clear hword HDIG HROWD HTL hN0 hdl
                have h0z : ((0 : Nat) : Int) - 1 < 0 := by omega
                go_wp2_with (at_builtin; refine wpList_append_own_at _ rfl _ _ 22 rfl (gs + 1) 26 i2 (.slice none 0 0) 1 24 Try.underlying22 hj hy0 hy1 hy2 rfl (by decide) _ _ _ rfl (HOW.out.alloc _) ⟨wd.heap.size, 0, none⟩ 1 1 [.slice (some ⟨gW, 0, none⟩) K K] rfl rfl ?f1 ?f2 ?f3 ?f4 ?f5 ?_)
                case f1 => exact ne_new
                case f2 => intro u hu; simp at hu; subst hu; rfl
                case f3 => unfold maxLen; omega
                case f4 => omega
                case f5 => simp; omega
                intro v9 w9 hown9 hgrow9 _ hat9
                have hal : Below wd.heap.size wd (wd.alloc (.cells #[.slice (some ⟨gW, 0, none⟩) K K] 26)) := (Below.refl _ _).alloc (Nat.le_refl _) _
                have hgsd : gs ≤ wd.heap.size := by omega
                have hbx : gs + 1 ≤ wx.heap.size := by rw [HGW.out]; omega
                have HB9 : Hid (Below gs w1 w9) := hide ((HB4.out.alloc hgsd _).grown hgrow9 (by simp; omega) (fun g hg => by have := ((HOW.out.alloc (.cells #[.slice (some ⟨gW, 0, none⟩) K K] 26)).lt g hg).1; omega))
                have HBB9 : Hid (BoolB 4 w9 gs size F) := hide ((HBBd.out.later hal).of_block (hgrow9.block gs (HBBd.out.later hal).lt (fun e => by have := ((HOW.out.alloc (.cells #[.slice (some ⟨gW, 0, none⟩) K K] 26)).lt gs e.symm).1; omega)))
                have HL9 : Hid (LstV 26 2 (gs + 1) w9 v9 (nws (leH f) (leH s) ((wds n K).take (j + 1))) (vals ++ [.slice (some ⟨gW, 0, none⟩) (dig n K j).length K])) := hide (by
                  rw [HNN.out]
                  exact LstV.push (tmp := .cells #[.slice (some ⟨gW, 0, none⟩) K K] 26) (by decide) hbx HL.out HBd.out HOBJ.out (by rw [HN0.out, dig_len]; exact hown9) hgrow9)
                have HROW9 : Hid (Rd w9 (some ⟨gW, 0, none⟩) (dig n K j)) := hide (by
                  have h1 : Row 2 (wd.alloc (.cells #[.slice (some ⟨gW, 0, none⟩) K K] 26)) gW (dig n K j) := HROW.out.later hal hszd
                  have h2 : Row 2 w9 gW (dig n K j) := (hgrow9.block gW h1.lt (fun e => by have := (HL.out.own.lt gW e.symm).2; have := HGW.out; omega)).trans h1
                  exact fun _ => ⟨gW, 0, rfl, h2.lt, fun i hi => by have h := h2.cell hi; rw [Nat.zero_add]; exact h⟩)
                obtain ⟨g9, c9, hv9, _, _⟩ := own_look hown9 (by omega)
                subst hv9
                have HBw9 := hide (HB1.out.trans (HB9.out.mono (Nat.le_of_lt hb0)))
                have HK9 : Hid (Blk w9 w.heap.size 29 [.slice A n c, .slice B n d]) := hide ((HB9.out.block w.heap.size hb0).trans HK1.out)
                have hgs9 : gs < w9.heap.size := HBB9.out.lt
                clear hown9 hgrow9 hat9 hal HOW HN0 hN0b HB4 HBBd HLd HBd HOBJ HROW HWORD HBD
                have k0 := HK9.out.cell 0 _ rfl
                have k1 := HK9.out.cell 1 _ rfl
                have HDM : Hid (dig n K j ∈ wds n K) := hide (dig_mem hjp)
                have HFEW : Hid (FewT (leH f) (leH s) (dig n K j) 5000) := hide (by
                  obtain ⟨C, hC⟩ := Cls.ex HPB.out (wds_tup (by omega) HDM.out)
                  refine ⟨C, hC, ?_⟩
                  have h := tnodup_le hC.1 (fun y hy => Tch.wds HPB.out (by omega) HDM.out ((hC.2 y).1 hy))
                  rw [wds_len, HSZ.out] at h
                  omega)
                go_wp2_with fail
                clear k0 k1
                refine (classS_both A n c f B d s (some ⟨gW, 0, none⟩) K K (dig n K j) 5000 _ (HZ.out.later HBw9.out) HS.out (wds_tup (by omega) HDM.out) (dig_len n K j) (fun h => h) HROW9.out (by omega) (by omega)).mono ?_
                rintro e w10 ⟨v10, r10, rfl, hb10, hi10, hme10⟩
                obtain rfl : r10 = true := hi10.2 HFEW.out
                obtain ⟨L, gL, cL, valsL, rfl, hcl, hlL, hlL2, _, _, _⟩ := hme10 rfl
                have HCL := hide hcl
                have HLL := hide hlL2
                have HB10 := hide (HB9.out.trans (hb10.mono (Nat.le_of_lt hgs9)))
                have HL10 := hide (HL9.out.later hb10)
                have HBB10 := hide (HBB9.out.later hb10)
                obtain ⟨NL, hNL⟩ : ∃ N, L.length = N := ⟨_, rfl⟩
                have HNL := hide hNL
                rw [hNL] at hlL HLL ⊢
                clear hb10 hi10 hme10 hcl hlL2 hNL HFEW HK9 HBw9 HB9 HBB9 HL9 HROW9
                go_wp2_with fail
                go_loopw [16, 17, 18] (fun jv _ _ we => ∃ (q : Nat) (F' : Nat → Bool), q ≤ NL ∧ jv = .int .i64 q ∧ StepL gs w10 we ∧ BoolB 4 we gs size F' ∧ ∀ i, i < size → (F' i = true ↔ (F i = true ∨ ∃ r, r < q ∧ L.getD r [] = dig n K i))) (fun jv _ _ _ => NL - (intOf jv).toNat)
                case atStart => exact ⟨0, F, Nat.zero_le _, rfl, StepL.of gs (Below.refl _ _), HBB10.out, fun i hi => ⟨.inl, fun h => by rcases h with h | ⟨r, h, _⟩; exact h; omega⟩⟩
                case round =>
                  obtain ⟨we, rfl⟩ : ∃ x, x = wr := ⟨wr, rfl⟩
                  obtain ⟨q, F', hq, rfl, hst, hbb, hF'⟩ := hrel
                  have HST := hide hst
                  have HBE := hide hbb
                  have HF' := hide hF'
                  have HLE := hide (HLL.out.step hst.size (fun b hb1 hb2 => hst.same b hb2 (by omega)))
                  clear hst hbb hF'
                  by_cases hlq : q < NL
                  · have hqz : (q : Int) < NL := by omega
                    have hql : q < L.length := by rw [HNL.out]; exact hlq
                    obtain ⟨Aq, cq, hcq, hrdq⟩ := HLE.out.at hql
                    obtain ⟨p, hp⟩ : ∃ p, L.getD q [] = p := ⟨_, rfl⟩
                    rw [hp] at hcq hrdq
                    have hpw : p ∈ wds n K := Tch.wds HPB.out (by omega) HDM.out ((HCL.out.2 p).1 (by rw [← hp]; exact tgetD_mem L q [] hql))
                    have hpl := ((wds_mem K p).1 hpw).1
                    rw [hpl] at hcq
                    have HP := hide hp
                    have HPW := hide hpw
                    have HPL := hide hpl
                    have HRDQ := hide hrdq
                    have HCQ := hide hcq
                    have HQL := hide hql
                    clear hp hpw hpl hrdq hcq hql
                    go_wp2_with fail
                    go_loopw [17, 18] (fun nv iv wf => ∃ i2 : Nat, i2 ≤ K ∧ iv = .int .i64 i2 ∧ nv = .int .i64 ((numW n (p.take i2) : Nat) : Int) ∧ wf = we) (fun _ iv _ => K - (intOf iv).toNat)
                    case atStart => exact ⟨0, Nat.zero_le _, rfl, by simp [numW], rfl⟩
                    case round =>
                      obtain ⟨i3, hi3, rfl, rfl, hwf⟩ := hrel
                      have hwf := hwf.symm
                      subst hwf
                      have hcq := HCQ.out
                      obtain ⟨nq, hnq⟩ : ∃ nq, numW n (p.take i3) = nq := ⟨_, rfl⟩
                      have hnqb : nq ≤ 429981696 := by
                        have h := (numW_wds i3 _ (wds_pre HPW.out hi3)).1
                        have h2 := pow_le12 (n := n) (j := i3) h12.2 (by omega)
                        rw [hnq] at h
                        omega
                      rw [hnq]
                      by_cases hli : i3 < K
                      · have hiz : (i3 : Int) < K := by omega
                        obtain ⟨b, o, rfl, hblt, hc⟩ := HRDQ.out (by have := HPL.out; omega)
                        have hcx := hc i3 (by have := HPL.out; omega)
                        obtain ⟨x, hx⟩ : ∃ x, p.getD i3 0 = x := ⟨_, rfl⟩
                        rw [hx] at hcx
                        have hxr := ((wds_mem K p).1 HPW.out).2 x (by rw [← hx]; exact tgetD_mem p i3 0 (by have := HPL.out; omega))
                        have htk : p.take (i3 + 1) = p.take i3 ++ [x] := by
                          have hl : i3 < p.length := by have := HPL.out; omega
                          rw [List.take_succ_eq_append_getElem hl, ← hx]
                          simp [hl]
                        have hnx : numW n (p.take (i3 + 1)) = nq * n + x.toNat := by rw [htk, numW_app, hnq]
                        have hnxb : numW n (p.take (i3 + 1)) ≤ 429981696 := by
                          have h := (numW_wds (i3 + 1) _ (wds_pre HPW.out hli)).1
                          have h2 := pow_le12 (n := n) (j := i3 + 1) h12.2 (by omega)
                          omega
                        have hmul : (nq : Int) * (n : Int) = ((nq * n : Nat) : Int) := by push_cast; rfl
                        obtain ⟨pr, hpr⟩ : ∃ pr, nq * n = pr := ⟨_, rfl⟩
                        rw [hpr] at hmul hnx
                        have hm0 : 0 ≤ (nq : Int) * (n : Int) := by rw [hmul]; omega
                        have hm1 : (nq : Int) * (n : Int) ≤ 429981696 := by rw [hmul]; omega
                        have hm2 : (nq : Int) * (n : Int) + x ≤ 429981696 := by rw [hmul]; omega
                        have HMUL := hide hmul
                        have HNX := hide hnx
                        clear hmul hnx htk hpr hx hc hnq hnxb
                        go_wp2_with fail
                        go_roundw
                        case rel => exact ⟨i3 + 1, by omega, by go_num, by rw [HMUL.out, HNX.out]; congr 1; omega, by first | rfl | trivial⟩
                        case measure => simp [intOf]; omega
                      · have hiK : i3 = K := by omega
                        have hiz : ¬ (i3 : Int) < K := by omega
                        have hpt : p.take i3 = p := List.take_of_length_le (by have := HPL.out; omega)
                        rw [hpt] at hnq
                        obtain ⟨hn1, hn2⟩ := numW_wds K p HPW.out
                        rw [hnq] at hn1 hn2
                        have hnp := hn1
                        rw [HSZ.out] at hn1
                        have hnz : (nq : Int) < size := by omega
                        have hnzz : 0 ≤ (nq : Int) := by omega
                        have hs1 := HBE.out.cell hn1
                        have hs2 := HBE.out.frozen nq
                        obtain ⟨y, hy⟩ : ∃ y, F' nq = y := ⟨_, rfl⟩
                        rw [hy] at hs1
                        have HN2 := hide hn2
                        clear hy hpt hnq hn2
                        go_wp2_with fail
                        go_roundw
                        case rel =>
                          refine ⟨q + 1, fun i => if i = nq then true else F' i, by omega, by go_num, HST.out.set _ _, HBE.out.set nq, fun i hi => ?_⟩
                          have hin : i < n ^ K := by rw [HSZ.out]; exact hi
                          show (if i = nq then true else F' i) = true ↔ _
                          by_cases e : i = nq
                          · subst e
                            rw [if_pos rfl]
                            exact ⟨fun _ => .inr ⟨q, by omega, by rw [HP.out, HN2.out]⟩, fun _ => rfl⟩
                          · rw [if_neg e, HF'.out i hi]
                            constructor
                            · rintro (h | ⟨r, h1, h2⟩)
                              · exact .inl h
                              · exact .inr ⟨r, by omega, h2⟩
                            · rintro (h | ⟨r, h1, h2⟩)
                              · exact .inl h
                              · by_cases er : r = q
                                · subst er
                                  rw [HP.out, ← HN2.out] at h2
                                  exact absurd (dig_inj K _ _ hin hnp h2.symm) e
                                · exact .inr ⟨r, by omega, h2⟩
                        case measure => simp [intOf]; omega
                  · have hqN : q = NL := by omega
                    have hqz : ¬ (q : Int) < NL := by omega
                    have hgs10 : gs ≤ w10.heap.size := Nat.le_of_lt HBB10.out.lt
                    have HBf := hide (StepL.below HB10.out HST.out hgs10 (Nat.le_refl _))
                    have HLf := hide (HL10.out.step HST.out.size (fun b hb1 hb2 => HST.out.same b hb2 (by omega)))
                    go_wp2_with fail
                    go_roundw
                    case rel =>
                      refine ⟨j + 1, _, F', by omega, by go_num, HBf.out, HLf.out, HBE.out, fun i hi => ?_⟩
                      rw [HF'.out i hi, HNN.out, HF.out i hi]
                      constructor
                      · rintro (⟨y, h1, h2⟩ | ⟨r, h1, h2⟩)
                        · exact ⟨y, List.mem_append_left _ h1, h2⟩
                        · refine ⟨dig n K j, List.mem_append_right _ (by simp), (HCL.out.2 _).1 ?_⟩
                          rw [← h2]
                          exact tgetD_mem L r [] (by rw [HNL.out]; omega)
                      · rintro ⟨y, h1, h2⟩
                        rcases List.mem_append.1 h1 with h1 | h1
                        · exact .inl ⟨y, h1, h2⟩
                        · obtain rfl : y = dig n K j := by simpa using h1
                          obtain ⟨r, hr, e⟩ := List.getElem_of_mem ((HCL.out.2 _).2 h2)
                          exact .inr ⟨r, by rw [hqN, ← HNL.out]; exact hr, by simp [hr, e]⟩
                    case measure => simp [intOf]; omega
              · have hst1 := HROWD.out.cell (i := m) (by simp; omega)
                have hst2 := HROWD.out.frozen m
                obtain ⟨y, hy⟩ : ∃ y, (List.replicate (m + 1) 0 ++ tl).getD m 0 = y := ⟨_, rfl⟩
                rw [hy] at hst1
                have hmz : ¬ ((m + 1 : Nat) : Int) - 1 < 0 := by omega
                have hmk : ((m + 1 : Nat) : Int) - 1 < K := by omega
                have hmm : ((m + 1 : Nat) : Int) - 1 = m := by omega
                have hn0 : (n : Int) ≠ 0 := by omega
                have hmod : (rest : Int).tmod (n : Int) = ((rest % n : Nat) : Int) := (Int.ofNat_tmod rest n).symm
                have hdiv : (rest : Int).tdiv (n : Int) = ((rest / n : Nat) : Int) := (Int.ofNat_tdiv rest n).symm
                clear hy
                rw [hmm]
                go_wp2_with fail
                go_roundw
                case rel =>
                  have hd1 : (rest : Int) / (n : Int) = ((rest / n : Nat) : Int) := by simp
                  have hd2 : rest / n ≤ 5000 := Nat.le_trans (Nat.div_le_self _ _) hrest
                  obtain ⟨rd, hrd⟩ : ∃ r, rest / n = r := ⟨_, rfl⟩
                  rw [hrd] at hd1 hd2
                  refine ⟨m, rd, ((rest % n : Nat) : Int) :: tl, by omega, rfl, by rw [hd1, wrap64_sm _ (by omega)], by omega, HBD.out.setCell (p := ⟨gW, m, none⟩) (Nat.le_refl _) _, by have := HTL.out; simp; omega, by rw [HDIG.out, ← hrd]; simp [dig], ?_⟩
                  have h := HROWD.out.set m ((rest : Int) % (n : Int))
                  rw [rep_set] at h
                  have hd3 : (rest : Int) % (n : Int) = ((rest % n : Nat) : Int) := by simp
                  rw [hd3] at h ⊢
                  exact h
                case measure => simp [intOf]
        · have hjs : j = size := by omega
          subst hjs
          have hall : (wds n K).take j = wds n K := List.take_of_length_le (by rw [wds_len, HSZ.out]; exact Nat.le_refl _)
          rw [hall] at HL
          clear HF HBB hall
          have hjz : ¬ (j : Int) < j := by omega
          go_wp2_with fail
          go_ret
          have HBz : Below w.heap.size w wx := HB1.out.trans (HB.out.mono (Nat.le_of_lt hb0))
          have HLz := HL.out.monoB (B' := w.heap.size) (by omega)
          exact ⟨_, rfl, HBz, vals, HLz⟩
end Go.Proofs.Ytbhlcfcmjildmaa
namespace Go.Proofs.Ytbhlcfcmjildmaa
open Go Go.RowKit
open Classical
set_option maxHeartbeats 8000000
/-- All words of a list with one letter more. -/
def extL (n : Nat) (L : List (List Int)) : List (List Int) := L.flatMap fun t => (List.range n).map fun x : Nat => t ++ [(x : Int)]
theorem extL_wds (n k : Nat) : wds n (k + 1) = extL n (wds n k) := rfl
theorem extL_app (n : Nat) (L : List (List Int)) (t : List Int) : extL n (L ++ [t]) = extL n L ++ (List.range n).map fun x : Nat => t ++ [(x : Int)] := by simp [extL]
theorem TupS.far {w : World} {B : Nat} {v : Value} {L : List (List Int)} (h : TupS w B v L) {p : Addr} (hp : ∀ g, v.ownBlock = some g → g ≠ p.block) (u : Value) : TupS (w.setCell p u) B v L := by
  obtain ⟨hl, h⟩ := h
  refine ⟨hl, ?_⟩
  rcases h with h | ⟨g, cap, cur, hv, hb2, hh, rest⟩
  · exact .inl h
  · exact .inr ⟨g, cap, cur, hv, hb2, (Below.heap_setCell w p u g (hp g (by rw [hv]; rfl))).trans hh, rest⟩
theorem TupS.monoB {w : World} {B B' : Nat} {v : Value} {L : List (List Int)} (h : TupS w B v L) (hB : B' ≤ B) : TupS w B' v L := by
  obtain ⟨hl, h⟩ := h
  refine ⟨hl, ?_⟩
  rcases h with h | ⟨g, cap, cur, hv, hb2, rest⟩
  · exact .inl h
  · exact .inr ⟨g, cap, cur, hv, by omega, rest⟩
theorem pad12_snoc {t : List Int} {j : Nat} (ht : t.length = j) (hj : j < 12) (y x : Int) : ((pad12 t).set j y).set j x = pad12 (t ++ [x]) := by
  subst ht
  unfold pad12
  rw [List.set_set, List.set_append_right _ _ (by omega), Nat.sub_self]
  have e : 12 - t.length = (12 - (t ++ [x]).length) + 1 := by simp; omega
  rw [e, List.replicate_succ]
  simp
theorem pad12_set0 (t : List Int) (j : Nat) : ∃ y, (pad12 t).set j y = pad12 t := ⟨(pad12 t).getD j 0, by
  by_cases h : j < (pad12 t).length
  · simp [h]
  · exact List.set_eq_of_length_le (by omega)⟩
/-- What tuplesOf returns. -/
def TupP (n K : Nat) (w : World) (e : Ending) (w' : World) : Prop := (n ^ K ≤ 5000 ∧ ∃ v, e = .returned (.tuple #[v, .bool true]) ∧ Below w.heap.size w w' ∧ TupS w' w.heap.size v (wds n K)) ∨ (5000 < n ^ K ∧ e = .returned (.tuple #[.slice none 0 0, .bool false]) ∧ Below w.heap.size w w')
set_option maxRecDepth 100000 in
theorem tuples_any (n K : Nat) (w : World) (h1 : 1 ≤ n) (h12 : n ≤ 12) (hK : K ≤ 12) :
    Calls Try.prog 38 #[.int .i64 n, .int .i64 K, .int .i64 5000] w (TupP n K w) := by
  obtain ⟨i0, hi, hz0, hz1, hz2⟩ := info_parts tqInfo
  go_enter Try.func38, Try.ntmps38
  go_upto_region 2 with fail
  refine wp_gen fun w1 hw1 => ?_
  have HB1 : Hid (Below w.heap.size w w1) := hide (by rw [hw1]; exact (Below.refl _ _).alloc (Nat.le_refl _) _)
  have HT1 : Hid (TupS w1 w.heap.size (.slice (some ⟨w.heap.size, 0, none⟩) 1 1) (wds n 0)) := hide (by
    rw [hw1]
    refine ⟨rfl, .inr ⟨w.heap.size, 1, _, rfl, Nat.le_refl _, heap_alloc_new _ _, Nat.le_refl _, by unfold maxLen; omega, rfl, ?_⟩⟩
    rfl)
  clear hw1
  go_wp2_with fail
  go_loopw [8, 9, 10, 12, 13, 17] (fun lv _ _ _ _ iv wr => ∃ j : Nat, j ≤ K ∧ iv = .int .i64 j ∧ Below w.heap.size w wr ∧ TupS wr w.heap.size lv (wds n j) ∧ n ^ j ≤ 5000) (fun _ _ _ _ _ iv _ => K - (intOf iv).toNat)
  case atStart => exact ⟨0, Nat.zero_le _, rfl, HB1.out, HT1.out, by simp⟩
  case round =>
    obtain ⟨wx, rfl⟩ : ∃ x, x = wr := ⟨wr, rfl⟩
    obtain ⟨j, hj, rfl, hbe, hts, hp5⟩ := hrel
    have HB := hide hbe
    have HT := hide hts
    clear HB1 HT1 hbe hts
    by_cases hlt : j < K
    · have hjz : (j : Int) < K := by omega
      have hlen : ∀ t, t ∈ wds n j → t.length ≤ 12 := fun t ht => by rw [((wds_mem j t).1 ht).1]; omega
      have hpos : 0 < n ^ j := Nat.pow_pos h1
      obtain ⟨g, cg, hv, hcap, hcm, hgB, hgl, _⟩ := HT.out.at hlen (i := 0) (by rw [wds_len]; exact hpos)
      rw [wds_len] at hv hcap
      subst hv
      obtain ⟨N, hN⟩ : ∃ N, n ^ j = N := ⟨_, rfl⟩
      have HN := hide hN
      obtain ⟨M, hM⟩ : ∃ M, n ^ (j + 1) = M := ⟨_, rfl⟩
      have HM := hide hM
      have hNM : (N : Int) * (n : Int) = (M : Int) := by rw [← hN, ← hM, Nat.pow_succ]; push_cast; rfl
      have HLEN := hide hlen
      rw [hN] at hp5 hpos hcap HT ⊢
      have hMb : M ≤ 60000 := by
        have h : M = N * n := by rw [← hN, ← hM, Nat.pow_succ]
        have h2 : N * n ≤ 5000 * 12 := Nat.mul_le_mul hp5 h12
        omega
      have hNM0 : 0 ≤ (N : Int) * (n : Int) := by rw [hNM]; omega
      have hNM1 : (N : Int) * (n : Int) ≤ 60000 := by rw [hNM]; omega
      clear hN hM hlen
      by_cases hbig : 5000 < M
      · have hbz : (5000 : Int) < (M : Int) := by omega
        have hbz2 : (5000 : Int) < (N : Int) * (n : Int) := by rw [hNM]; omega
        go_wp2_with fail
        go_ret2
        have hKM : M ≤ n ^ K := by rw [← HM.out]; exact Nat.pow_le_pow_right h1 hlt
        exact Or.inr ⟨by omega, rfl, HB.out⟩
      · have hbz : ¬ (5000 : Int) < (M : Int) := by omega
        have hbz2 : ¬ (5000 : Int) < (N : Int) * (n : Int) := by rw [hNM]; omega
        obtain ⟨wm, hmk, hown, hgrow⟩ := run_make_own (P := Try.prog) wx wx.heap.size 54 61 i0 (.agg #[.int .i64 0, .int .i64 0, .int .i64 0, .int .i64 0, .int .i64 0, .int .i64 0, .int .i64 0, .int .i64 0, .int .i64 0, .int .i64 0, .int .i64 0, .int .i64 0]) 12 Try.underlying54 hi hz0 hz1 .i64 .i64 M (by rw [hz2]; omega) (by unfold maxLen; omega) (Nat.le_refl _)
        have hbm : Below wx.heap.size wx wm := (Below.refl _ _).grown hgrow (Nat.le_refl _) (fun g hg => by cases hg)
        obtain ⟨b2, hb2⟩ : ∃ b, wx.heap.size = b := ⟨_, rfl⟩
        rw [hb2] at hmk hown hbm hgl
        have HBM := hide hbm
        have HTM : Hid (TupS wm b2 (.slice (some ⟨b2, 0, none⟩) 0 M) []) := hide hown
        have HB2 := hide hb2
        have hsm : b2 ≤ wm.heap.size := by rw [← hb2]; exact hgrow.size
        clear hown hgrow hbm hb2
        go_wp2_with fail
        clear hmk
        go_loopw [10, 12, 13, 33] (fun ov _ _ qv we => ∃ q : Nat, q ≤ N ∧ qv = .int .i64 q ∧ Below b2 wm we ∧ TupS we b2 ov (extL n ((wds n j).take q))) (fun _ _ _ qv _ => N - (intOf qv).toNat)
        case atStart => exact ⟨0, Nat.zero_le _, rfl, Below.refl _ _, by simpa [extL] using HTM.out⟩
        case round =>
          obtain ⟨we, rfl⟩ : ∃ x, x = wr := ⟨wr, rfl⟩
          obtain ⟨q, hq, rfl, hbe, hte⟩ := hrel
          have HBE := hide hbe
          have HTE := hide hte
          clear hbe hte HTM
          by_cases hlq : q < N
          · have hqz : (q : Int) < N := by omega
            obtain ⟨g', cg', hv', _, _, _, _, hcl⟩ := HT.out.at HLEN.out (i := q) (by rw [wds_len, HN.out]; exact hlq)
            injection hv' with hv1 hv2 hv3
            injection hv1 with hv1
            injection hv1 with hv1
            subst hv1
            clear hv2 hv3
            obtain ⟨t, ht⟩ : ∃ t, (wds n j).getD q [] = t := ⟨_, rfl⟩
            rw [ht] at hcl
            have htm : t ∈ wds n j := by rw [← ht]; exact tgetD_mem _ q [] (by rw [wds_len, HN.out]; exact hlq)
            have htl : t.length = j := ((wds_mem j t).1 htm).1
            have HTK : Hid ((wds n j).take (q + 1) = (wds n j).take q ++ [t]) := hide (by
              have hl : q < (wds n j).length := by rw [wds_len, HN.out]; exact hlq
              rw [List.take_succ_eq_append_getElem hl, ← ht]
              simp [hl])
            have HTL := hide htl
            have htp := pad12_length (xs := t) (by omega)
            obtain ⟨tp, htpe⟩ : ∃ tp, pad12 t = tp := ⟨_, rfl⟩
            rw [htpe] at htp hcl
            have hbw := HBM.out.trans HBE.out
            obtain ⟨t0, t1, t2, t3, t4, t5, t6, t7, t8, t9, t10, t11, rfl⟩ := list12 htp
            have HTP := hide htpe
            have kc0 : we.cell? ⟨g, q * 12 + 0, none⟩ = some (.int .i64 t0) := (hbw.cell (p := ⟨g, q * 12 + 0, none⟩) hgl).trans (hcl 0 (by omega))
            have kc1 : we.cell? ⟨g, q * 12 + 1, none⟩ = some (.int .i64 t1) := (hbw.cell (p := ⟨g, q * 12 + 1, none⟩) hgl).trans (hcl 1 (by omega))
            have kc2 : we.cell? ⟨g, q * 12 + 2, none⟩ = some (.int .i64 t2) := (hbw.cell (p := ⟨g, q * 12 + 2, none⟩) hgl).trans (hcl 2 (by omega))
            have kc3 : we.cell? ⟨g, q * 12 + 3, none⟩ = some (.int .i64 t3) := (hbw.cell (p := ⟨g, q * 12 + 3, none⟩) hgl).trans (hcl 3 (by omega))
            have kc4 : we.cell? ⟨g, q * 12 + 4, none⟩ = some (.int .i64 t4) := (hbw.cell (p := ⟨g, q * 12 + 4, none⟩) hgl).trans (hcl 4 (by omega))
            have kc5 : we.cell? ⟨g, q * 12 + 5, none⟩ = some (.int .i64 t5) := (hbw.cell (p := ⟨g, q * 12 + 5, none⟩) hgl).trans (hcl 5 (by omega))
            have kc6 : we.cell? ⟨g, q * 12 + 6, none⟩ = some (.int .i64 t6) := (hbw.cell (p := ⟨g, q * 12 + 6, none⟩) hgl).trans (hcl 6 (by omega))
            have kc7 : we.cell? ⟨g, q * 12 + 7, none⟩ = some (.int .i64 t7) := (hbw.cell (p := ⟨g, q * 12 + 7, none⟩) hgl).trans (hcl 7 (by omega))
            have kc8 : we.cell? ⟨g, q * 12 + 8, none⟩ = some (.int .i64 t8) := (hbw.cell (p := ⟨g, q * 12 + 8, none⟩) hgl).trans (hcl 8 (by omega))
            have kc9 : we.cell? ⟨g, q * 12 + 9, none⟩ = some (.int .i64 t9) := (hbw.cell (p := ⟨g, q * 12 + 9, none⟩) hgl).trans (hcl 9 (by omega))
            have kc10 : we.cell? ⟨g, q * 12 + 10, none⟩ = some (.int .i64 t10) := (hbw.cell (p := ⟨g, q * 12 + 10, none⟩) hgl).trans (hcl 10 (by omega))
            have kc11 : we.cell? ⟨g, q * 12 + 11, none⟩ = some (.int .i64 t11) := (hbw.cell (p := ⟨g, q * 12 + 11, none⟩) hgl).trans (hcl 11 (by omega))
            rw [Nat.add_zero] at kc0
            clear htp htpe hcl hbw ht htm htl
            go_upto_region 11 with fail
            refine wp_gen fun wa hwa => ?_
            obtain ⟨tb, htb⟩ : ∃ tb, we.heap.size = tb := ⟨_, rfl⟩
            have hba : Below we.heap.size we wa := by rw [hwa]; exact (Below.refl _ _).alloc (Nat.le_refl _) _
            have hb2e : b2 ≤ we.heap.size := by have := HBE.out.size; omega
            have HROW : Hid (Row 61 wa tb (pad12 t)) := hide (by rw [hwa, ← htb, HTP.out]; exact Blk.new _ _ _)
            have HBa := hide (HBE.out.trans (hba.mono hb2e))
            have HTa := hide (HTE.out.later hba)
            have HNE : Hid (∀ g, u10.ownBlock = some g → g ≠ tb) := hide (fun g hg => by have := (HTE.out.lt g hg).2; omega)
            rw [htb] at hb2e ⊢
            clear hwa hba htb kc0 kc1 kc2 kc3 kc4 kc5 kc6 kc7 kc8 kc9 kc10 kc11
            go_wp2_with fail
            go_loopw [10, 13, 38] (fun ov _ xv wb => ∃ (x : Nat) (y : Int), x ≤ n ∧ xv = .int .i64 x ∧ Below b2 wm wb ∧ Row 61 wb tb ((pad12 t).set j y) ∧ TupS wb b2 ov (extL n ((wds n j).take q) ++ (List.range x).map fun v : Nat => t ++ [(v : Int)]) ∧ (∀ g, ov.ownBlock = some g → g ≠ tb)) (fun _ _ xv _ => n - (intOf xv).toNat)
            case atStart =>
              obtain ⟨y, hy⟩ := pad12_set0 t j
              exact ⟨0, y, Nat.zero_le _, rfl, HBa.out, by rw [hy]; exact HROW.out, by simpa using HTa.out, HNE.out⟩
            case round =>
              obtain ⟨wb, rfl⟩ : ∃ x, x = wr := ⟨wr, rfl⟩
              obtain ⟨x, y, hx, rfl, hbb, hrow, htt, hne⟩ := hrel
              have HBB := hide hbb
              have HRW := hide hrow
              have HTT := hide htt
              have HNE2 := hide hne
              clear hbb hrow htt hne HROW HBa HTa HNE
              by_cases hlx : x < n
              · have hxz : (x : Int) < n := by omega
                have hj12 : j < 12 := by omega
                have hl12 : j < ((pad12 t).set j y).length := by rw [List.length_set, pad12_length (by have := HTL.out; omega)]; exact hj12
                have hs1 := HRW.out.cell hl12
                have hs2 := HRW.out.frozen j
                obtain ⟨y2, hy2⟩ : ∃ y2, ((pad12 t).set j y).getD j 0 = y2 := ⟨_, rfl⟩
                rw [hy2] at hs1
                clear hy2 hl12
                go_upto_region 15 with fail
                refine wp_gen fun wc hwc => ?_
                have HRC : Hid (Row 61 wc tb (pad12 (t ++ [(x : Int)]))) := hide (by rw [hwc]; have h := HRW.out.set j (x : Int); rw [pad12_snoc HTL.out hj12] at h; exact h)
                have HBC : Hid (Below b2 wm wc) := hide (by rw [hwc]; exact HBB.out.setCell (p := ⟨tb, j, none⟩) hb2e _)
                have HTC : Hid (TupS wc b2 u10 (extL n ((wds n j).take q) ++ (List.range x).map fun v : Nat => t ++ [(v : Int)])) := hide (by rw [hwc]; exact HTT.out.far (p := ⟨tb, j, none⟩) HNE2.out _)
                have hnl : (t ++ [(x : Int)]).length ≤ 12 := by have := HTL.out; simp; omega
                have hnp := pad12_length hnl
                obtain ⟨np, hnpe⟩ : ∃ np, pad12 (t ++ [(x : Int)]) = np := ⟨_, rfl⟩
                rw [hnpe] at hnp HRC
                obtain ⟨n0, n1, n2, n3, n4, n5, n6, n7, n8, n9, n10, n11, rfl⟩ := list12 hnp
                have HNP := hide hnpe
                obtain ⟨dl, hdl⟩ : ∃ dl, (extL n ((wds n j).take q) ++ (List.range x).map fun v : Nat => t ++ [(v : Int)]).length = dl := ⟨_, rfl⟩
                have hdlb : dl ≤ 60000 := by
                  have h : (extL n ((wds n j).take q)).length ≤ 60000 - 12 := by
                    have h9 : ∀ L : List (List Int), (extL n L).length = L.length * n := by
                      intro L
                      induction L with
                      | nil => simp [extL]
                      | cons a L ih => simp only [extL, List.flatMap_cons, List.length_append, List.length_map, List.length_range, List.length_cons, Nat.succ_mul] at ih ⊢; omega
                    rw [h9, List.length_take, wds_len, HN.out]
                    have h3 : min q N ≤ 4999 := by omega
                    have h4 : min q N * n ≤ 4999 * 12 := Nat.mul_le_mul h3 h12
                    omega
                  simp at hdl
                  omega
                have HDL := hide hdl
                have HOW : Hid (wc.ownsRow b2 61 12 u10 dl (tcells (extL n ((wds n j).take q) ++ (List.range x).map fun v : Nat => t ++ [(v : Int)]))) := hide (by rw [← hdl]; exact HTC.out)
                have hsc := HBC.out.size
                have hcs : b2 ≤ wc.heap.size := by omega
                have htbc := HRC.out.lt
                have k0 := HRC.out
                have ky0 : wc.cell? ⟨tb, 0, none⟩ = some (.int .i64 n0) := HRC.out.cell (i := 0) (by simp)
                have ky1 : wc.cell? ⟨tb, 1, none⟩ = some (.int .i64 n1) := HRC.out.cell (i := 1) (by simp)
                have ky2 : wc.cell? ⟨tb, 2, none⟩ = some (.int .i64 n2) := HRC.out.cell (i := 2) (by simp)
                have ky3 : wc.cell? ⟨tb, 3, none⟩ = some (.int .i64 n3) := HRC.out.cell (i := 3) (by simp)
                have ky4 : wc.cell? ⟨tb, 4, none⟩ = some (.int .i64 n4) := HRC.out.cell (i := 4) (by simp)
                have ky5 : wc.cell? ⟨tb, 5, none⟩ = some (.int .i64 n5) := HRC.out.cell (i := 5) (by simp)
                have ky6 : wc.cell? ⟨tb, 6, none⟩ = some (.int .i64 n6) := HRC.out.cell (i := 6) (by simp)
                have ky7 : wc.cell? ⟨tb, 7, none⟩ = some (.int .i64 n7) := HRC.out.cell (i := 7) (by simp)
                have ky8 : wc.cell? ⟨tb, 8, none⟩ = some (.int .i64 n8) := HRC.out.cell (i := 8) (by simp)
                have ky9 : wc.cell? ⟨tb, 9, none⟩ = some (.int .i64 n9) := HRC.out.cell (i := 9) (by simp)
                have ky10 : wc.cell? ⟨tb, 10, none⟩ = some (.int .i64 n10) := HRC.out.cell (i := 10) (by simp)
                have ky11 : wc.cell? ⟨tb, 11, none⟩ = some (.int .i64 n11) := HRC.out.cell (i := 11) (by simp)
                clear hwc hnl hnp hnpe hdl k0 hs1 hs2
                go_wp2_with (at_builtin; refine wpList_append_own_at _ rfl _ _ 54 rfl b2 61 i0 (.agg #[.int .i64 0, .int .i64 0, .int .i64 0, .int .i64 0, .int .i64 0, .int .i64 0, .int .i64 0, .int .i64 0, .int .i64 0, .int .i64 0, .int .i64 0, .int .i64 0]) 12 96 Try.underlying54 hi hz0 hz1 hz2 rfl (by decide) _ _ _ rfl (HOW.out.alloc _) ⟨wc.heap.size, 0, none⟩ 1 1 [.int .i64 n0, .int .i64 n1, .int .i64 n2, .int .i64 n3, .int .i64 n4, .int .i64 n5, .int .i64 n6, .int .i64 n7, .int .i64 n8, .int .i64 n9, .int .i64 n10, .int .i64 n11] rfl rfl (World.news_of_block (cs := #[.int .i64 n0, .int .i64 n1, .int .i64 n2, .int .i64 n3, .int .i64 n4, .int .i64 n5, .int .i64 n6, .int .i64 n7, .int .i64 n8, .int .i64 n9, .int .i64 n10, .int .i64 n11]) (t := 61) (fr := (0, 0)) (heap_alloc_new wc _)) ?f2 ?f3 ?f4 ?f5 ?_)
                case f2 => simp [Value.oneCell']
                case f3 => unfold maxLen; omega
                case f4 => omega
                case f5 => simp; omega
                intro v9 w9 hown9 hgrow9 _ hat9
                have hal : Below wc.heap.size wc (wc.alloc (.cells #[.int .i64 n0, .int .i64 n1, .int .i64 n2, .int .i64 n3, .int .i64 n4, .int .i64 n5, .int .i64 n6, .int .i64 n7, .int .i64 n8, .int .i64 n9, .int .i64 n10, .int .i64 n11] 61)) := (Below.refl _ _).alloc (Nat.le_refl _) _
                have HB9 : Hid (Below b2 wm w9) := hide ((HBC.out.alloc hcs _).grown hgrow9 (by simp; omega) (fun g hg => ((HOW.out.alloc (.cells #[.int .i64 n0, .int .i64 n1, .int .i64 n2, .int .i64 n3, .int .i64 n4, .int .i64 n5, .int .i64 n6, .int .i64 n7, .int .i64 n8, .int .i64 n9, .int .i64 n10, .int .i64 n11] 61)).lt g hg).1))
                have HT9 : Hid (TupS w9 b2 v9 (extL n ((wds n j).take q) ++ (List.range (x + 1)).map fun v : Nat => t ++ [(v : Int)])) := hide (by
                  have e : (List.range (x + 1)).map (fun v : Nat => t ++ [(v : Int)]) = (List.range x).map (fun v : Nat => t ++ [(v : Int)]) ++ [t ++ [(x : Int)]] := by rw [List.range_succ, List.map_append]; rfl
                  rw [e, ← List.append_assoc]
                  unfold TupS
                  rw [List.length_append, tcells_snoc, HNP.out, HDL.out]
                  exact hown9)
                have HR9 : Hid (Row 61 w9 tb (pad12 (t ++ [(x : Int)]))) := hide (by
                  rw [HNP.out]
                  have h1 := HRC.out.later hal htbc
                  exact (hgrow9.block tb h1.lt (fun e => HNE2.out tb e.symm rfl)).trans h1)
                have hne9 : ∀ g, v9.ownBlock = some g → g ≠ tb := by
                  intro g hg e
                  rcases hat9 with e2 | e2
                  · rw [e2] at hg; exact HNE2.out g hg e
                  · rw [hg] at e2
                    injection e2 with e2
                    try simp at e2
                    omega
                have HNE9 := hide hne9
                clear hown9 hgrow9 hat9 hal hne9 HOW HRC HTC HBC
                clear ky0 ky1 ky2 ky3 ky4 ky5 ky6 ky7 ky8 ky9 ky10 ky11
                go_wp2_with fail
                go_roundw
                case rel =>
                  refine ⟨x + 1, (x : Int), by omega, by go_num, HB9.out, ?_, HT9.out, HNE9.out⟩
                  have h := pad12_snoc HTL.out hj12 (x : Int) (x : Int)
                  rw [List.set_set] at h
                  rw [h]
                  exact HR9.out
                case measure => simp [intOf]; omega
              · have hxn : x = n := by omega
                have hxz : ¬ (x : Int) < n := by omega
                go_wp2_with fail
                go_roundw
                case rel =>
                  refine ⟨q + 1, by omega, by go_num, HBB.out, ?_⟩
                  have h := HTT.out
                  rw [hxn] at h
                  rw [HTK.out, extL_app]
                  exact h
                case measure => simp [intOf]; omega
          · have hqN : q = N := by omega
            have hqz : ¬ (q : Int) < N := by omega
            have hall : extL n ((wds n j).take q) = wds n (j + 1) := by
              rw [extL_wds, List.take_of_length_le (by rw [wds_len, HN.out]; omega)]
            rw [hall] at HTE
            have HBf : Hid (Below w.heap.size w we) := hide (HB.out.trans ((HBM.out.trans HBE.out).mono (by have := HB.out.size; have := HB2.out; omega)))
            have HTf : Hid (TupS we w.heap.size u10 (wds n (j + 1))) := hide (TupS.monoB HTE.out (by have := HB.out.size; have := HB2.out; omega))
            clear hall
            go_wp2_with fail
            go_roundw
            case rel => exact ⟨j + 1, by omega, by go_num, HBf.out, HTf.out, by rw [HM.out]; omega⟩
            case measure => simp [intOf]; omega
    · have hjK : j = K := by omega
      have hjz : ¬ (j : Int) < K := by omega
      rw [hjK] at HT hp5
      go_wp2_with fail
      go_ret2
      exact Or.inl ⟨hp5, _, rfl, HB.out, HT.out⟩
end Go.Proofs.Ytbhlcfcmjildmaa
namespace Go.Proofs.Ytbhlcfcmjildmaa
open Go Go.RowKit
open Classical
set_option maxHeartbeats 1000000
/-- Nondegenerate involutive solutions are such maps. -/
theorem lamS_of {f s : List (List Int)} {n : Nat} (hs : SolF f s) (hn : f.length = n) (hp : AllPrm f) (hi : InvF f s) : LamS n (leH f) (leH s) := by
  have ht := hs.1.1
  have hl : s.length = n := by rw [← hs.1.2.2]; exact hn
  have lt1 : ∀ x y, x < n → y < n → ap f x y < n := fun x y hx hy => ht.ap_lt hn hx hy
  have lt2 : ∀ x y, x < n → y < n → ap s x y < n := fun x y hx hy => hs.1.2.1.ap_lt hl hx hy
  refine ⟨fun x y hx hy => ?_, fun x y hx hy => ?_, fun x y z hx hy hz => ?_, fun x y hx hy => ?_, fun x y y' hx hy hy' e => ?_, fun x y hx hy => ?_⟩
  · have := lt1 x y hx hy; unfold leH; omega
  · have := lt2 x y hx hy; unfold leH; omega
  · have h3 := hs.2.2.1 _ (by rw [hn]; exact trip_lt hx hy hz)
    rw [hn] at h3
    unfold Eq3 at h3
    rw [trip_of hy hz] at h3
    have h4 := congrArg Prod.fst h3
    simp only [lef, rig, doAt, at0, at1, if_pos, Nat.one_ne_zero, if_false] at h4
    unfold leH
    simp only [Int.toNat_natCast]
    rw [← h4]
  · have h3 := (hi x y (by omega) (by omega)).1
    unfold leH
    simp only [Int.toNat_natCast]
    rw [h3]
  · unfold leH at e
    have e2 : ap f x y = ap f x y' := by omega
    have hr := hp x (by omega)
    have hrl : (f.getD x []).length = n := ht.row_len hn hx
    have h5 : ∀ v, v < n → (f.getD x []).getD v 0 = ((ap f x v : Nat) : Int) := fun v hv => by
      have := hr.2.2.1 _ (tgetD_mem (f.getD x []) v 0 (by omega))
      unfold ap
      omega
    have h6 : (f.getD x []).getD y 0 = (f.getD x []).getD y' 0 := by rw [h5 y hy, h5 y' hy', e2]
    clear h5
    generalize f.getD x [] = row at hr hrl h6
    have h7 : row[y]'(by omega) = row[y']'(by omega) := by simpa [hrl, hy, hy'] using h6
    exact (List.getElem_inj (h₀ := by omega) (h₁ := by omega) hr.2.2.2).1 h7
  · have h3 := sol_spec ht hp hn hx hy
    exact ⟨sol f x y, h3.1, by unfold leH; rw [h3.2.2.2]⟩
/-- Among the normal words with n letters exactly one is divided by all elements. -/
theorem garside_one {h1 h2 b1 b2 : Nat → Nat → Int} {n : Nat} (h : LamS n h1 h2) (hp : PB n h1 h2 b1 b2) (hn : 1 ≤ n) (hn12 : n ≤ 12) : ∃ i, i < (nws h1 h2 (wds n n)).length ∧ Full h1 h2 n ((nws h1 h2 (wds n n)).getD i []) ∧ ∀ j, j < (nws h1 h2 (wds n n)).length → Full h1 h2 n ((nws h1 h2 (wds n n)).getD j []) → j = i := by
  have hin : ∀ j, j < (nws h1 h2 (wds n n)).length → Inn n ((nws h1 h2 (wds n n)).getD j []) ∧ ((nws h1 h2 (wds n n)).getD j []).length = n ∧ IsNw h1 h2 ((nws h1 h2 (wds n n)).getD j []) := fun j hj => by
    obtain ⟨a, b⟩ := (nws_mem _ _).1 (tgetD_mem (nws h1 h2 (wds n n)) j [] hj)
    obtain ⟨c, d⟩ := (wds_mem n _).1 a
    exact ⟨d, c, b⟩
  have full_tch : ∀ w w', Inn n w → Tch h1 h2 w w' → w.length = n → Full h1 h2 n w → Full h1 h2 n w' := fun w w' hw hT hl hf x hx hx2 => by
    obtain ⟨u, hu, e⟩ := hf x hx hx2
    exact ⟨u, (hT.symm hp (Tup.of_mem (by omega) hw)).trans hu, e⟩
  obtain ⟨w, hw, hl, hf⟩ := h.full_ex hn
  have hwt : Tup n w := Tup.of_mem (by omega) hw
  obtain ⟨z, hzT, hzN⟩ := IsNw.ex hp hwt
  have hzw : z ∈ wds n n := hzT.wds hp hn12 ((wds_mem n w).2 ⟨hl, hw⟩)
  obtain ⟨i, hi, e⟩ := List.getElem_of_mem ((nws_mem (h1 := h1) (h2 := h2) (wds n n) z).2 ⟨hzw, hzN⟩)
  have e2 : (nws h1 h2 (wds n n)).getD i [] = z := by simp [hi, e]
  refine ⟨i, hi, by rw [e2]; exact full_tch w z hw hzT hl hf, fun j hj hfj => ?_⟩
  obtain ⟨k1, k2, k3⟩ := hin j hj
  obtain ⟨m1, m2, m3⟩ := hin i hi
  have hfi : Full h1 h2 n ((nws h1 h2 (wds n n)).getD i []) := by rw [e2]; exact full_tch w z hw hzT hl hf
  have hT := h.full_uniq hn k1 k2 m1 m2 hfj hfi
  have ht1 : Tup n ((nws h1 h2 (wds n n)).getD j []) := Tup.of_mem (by omega) k1
  have ht2 : Tup n ((nws h1 h2 (wds n n)).getD i []) := Tup.of_mem (by omega) m1
  have q1 := k3 _ hT
  have q2 := m3 _ (hT.symm hp ht1)
  have heq : (nws h1 h2 (wds n n)).getD i [] = (nws h1 h2 (wds n n)).getD j [] := by
    by_cases e : (nws h1 h2 (wds n n)).getD i [] = (nws h1 h2 (wds n n)).getD j []
    · exact e
    · rcases lessL_tri _ _ e with h3 | h3
      · rw [h3] at q1; cases q1
      · rw [h3] at q2; cases q2
  have hnd : (nws h1 h2 (wds n n)).Nodup := by
    unfold nws
    exact List.Nodup.sublist List.filter_sublist (wds_asc n n).nodup
  have h7 : (nws h1 h2 (wds n n))[j]'hj = (nws h1 h2 (wds n n))[i]'hi := by simpa [hj, hi] using heq.symm
  exact (List.getElem_inj (h₀ := hj) (h₁ := hi) hnd).1 h7
end Go.Proofs.Ytbhlcfcmjildmaa
