import Derived.Test.YtnkggphffinekabIdentI
import Derived.Test.YtnkggphffinekabAdvI
import Derived.Test.YtnkggphffinekabPermsF
import Derived.Test.YtnkggphffinekabCloneI
import Derived.Test.YtnkggphffinekabLst
namespace Go.Proofs.Ytnkggphffinekab
open Go Go.RowKit
set_option maxHeartbeats 2000000

theorem aiInfo2 : (Try.prog.info? 31).map (fun i => (i.zero, i.size, i.bytes)) = some (some (.slice none 0 0), 1, 24) := by kernel_rfl

theorem allI_any (n : Int) (zs : List (List Int)) (code : Int) (k : Nat) (w : World) (_hlo : -9223372036854775808 ≤ n) (_hhi : n ≤ 9223372036854775807) (hr : PermsRes n zs code) (hk : zs.length = k) :
    Calls Try.prog 31 #[.int .i64 n] w (TPost 31 2 k zs code w) := by
  obtain ⟨i0, hi, hz0, hz1, hz2⟩ := info_parts aiInfo2
  rcases hr with ⟨h1, h7, rfl, rfl⟩ | ⟨hno, rfl, rfl⟩
  · obtain ⟨m, rfl⟩ := Int.eq_ofNat_of_zero_le (show 0 ≤ n by omega)
    have HP := hide (perms_all m (by omega) (by omega))
    rw [Int.toNat_natCast] at hk ⊢
    have HK := hide hk
    have hk5 : k ≤ 5040 := by have := HP.out.most; omega
    have hk1 : 0 < k := by have := HP.out.pos; omega
    clear hk
    go_enter Try.func31, Try.ntmps31
    go_wp2_with fail
    refine (identityOf_any m _ (by omega)).mono ?_
    rintro e w1 ⟨rfl, hb1, hrow1, hs1⟩
    have HB1 := hide hb1
    have HR1 := hide hrow1
    have HS1 := hide hs1
    clear hb1 hrow1 hs1
    go_wp2_with fail
    refine (clone_any w.heap.size 0 m m (unitL m) _ (unitL_length m) (by omega) (by have := HS1.out; omega) (fun i hi => by rw [Nat.zero_add]; exact HR1.out.cell hi)).mono ?_
    rintro e w2 ⟨A2, c2, rfl, hb2, hres2⟩
    have HB2 := hide hb2
    have HR2 := hide hres2.obj
    clear hb2 hres2
    go_wp2_with fail
    have hl1 : ((permsS m).take 1) = [unitL m] := by
      have hl : 0 < (permsS m).length := HP.out.pos
      have hf := HP.out.first
      have e := List.take_succ_eq_append_getElem hl
      have e2 : (permsS m)[0] = unitL m := by
        rw [show unitL m = unit m from rfl, ← hf]
        simp [hl]
      rw [List.take_zero, List.nil_append, e2] at e
      exact e
    have hlst : LstV 31 2 (w.heap.size + 1) (w2.alloc (.cells #[.slice A2 m c2] 31)) (.slice (some ⟨w2.heap.size, 0, none⟩) 1 1) ((permsS m).take 1) [.slice A2 m c2] := by
      rw [hl1]
      have hs1 := HS1.out
      have hs2 := HB2.out.size
      have h := LstV.single (ts := 31) (c := c2) (HR2.out.mono (lo' := w.heap.size + 1) (by omega) (Nat.le_refl _)) (by omega)
      rw [unitL_length] at h
      exact h
    have HL := hide hlst
    have hbelow : Below w.heap.size w (w2.alloc (.cells #[.slice A2 m c2] 31)) := (HB1.out.trans (HB2.out.mono HB1.out.size)).alloc (by have := HB1.out.size; have := HB2.out.size; omega) _
    have HBE := hide hbelow
    have hrow2 : Row 2 (w2.alloc (.cells #[.slice A2 m c2] 31)) w.heap.size ((permsS m).getD 0 []) := by
      rw [HP.out.first]
      have h1 := HR1.out.later (w' := w2) HB2.out (by have := HS1.out; omega)
      exact h1.later ((Below.refl _ _).alloc (Nat.le_refl _) _) (by have := HS1.out; have := HB2.out.size; omega)
    have HRR := hide hrow2
    have hsz : w.heap.size + 1 ≤ (w2.alloc (.cells #[.slice A2 m c2] 31)).heap.size := by have := HS1.out; have := HB2.out.size; simp; omega
    have HSZ := hide hsz
    clear hl1 hlst hbelow hrow2 hsz
    go_loopg [5] (k - 1) (fun r v wr => ∃ (q : Nat) (vals : List Value), r + q + 1 = k ∧ Below w.heap.size w wr ∧ LstV 31 2 (w.heap.size + 1) wr v ((permsS m).take (q + 1)) vals ∧ Row 2 wr w.heap.size ((permsS m).getD q []) ∧ w.heap.size + 1 ≤ wr.heap.size)
    case atStart => exact ⟨0, _, by omega, HBE.out, HL.out, HRR.out, HSZ.out⟩
    case round =>
      obtain ⟨q, vals, hq, hbe, hlst, hrow, hsz⟩ := hrel
      have HQ := hide hq
      have HBE := hide hbe
      have HL := hide hlst
      have HRR := hide hrow
      have hqk : q < k := by omega
      clear hq hbe hlst hrow
      have hlq : ((permsS m).getD q []).length = m := HP.out.len q (by have := HK.out; omega)
      have HLQ := hide hlq
      have hnx := HP.out.next q (by have := HK.out; omega)
      rw [HK.out] at hnx
      have HNX := hide hnx
      clear hlq hnx
      go_wp2_with fail
      refine (advance_any w.heap.size m m ((permsS m).getD q []) _ HLQ.out (by omega) (Nat.le_refl _) (by omega) HRR.out).mono ?_
      rintro e w3 hpost
      rcases hpost with ⟨hn, rfl, ho, hr⟩ | ⟨p', hn, rfl, ho, hr⟩
      · have hq1 : ¬ q + 1 < k := fun h => by
          have := HNX.out
          rw [if_pos h, hn] at this
          cases this
        have HO := hide ho
        have HL3 := hide (HL.out.of_blocks (w' := w3) (fun j h1 h2 => ho.block j h2 (fun e => by have e2 : j = w.heap.size := (by simpa using e); omega)) ho.size)
        have HB3 := hide (Only.below ho (B := w.heap.size) (fun a ha => by cases ha; exact Nat.le_refl _) (by omega))
        clear hn ho hr
        go_wp2_with fail
        go_ret2
        have hqk' : q + 1 = k := by omega
        have h := HL3.out
        rw [hqk', List.take_of_length_le (by have := HK.out; omega)] at h
        obtain ⟨A', c', hv, hobj⟩ := h.shape
        have hK := HK.out
        refine ⟨A', c', ?_, HBE.out.trans HB3.out, hobj.mono (by omega) (Nat.le_refl _)⟩
        rw [← hK, ← hv]
        rfl
      · have hq1 : q + 1 < k := by
          rcases Nat.lt_or_ge (q + 1) k with h | h
          · exact h
          · have := HNX.out
            rw [if_neg (by omega), hn] at this
            cases this
        have hp' : p' = (permsS m).getD (q + 1) [] := by
          have := HNX.out
          rw [if_pos hq1, hn] at this
          injection this
        have hl3 := HL.out.of_blocks (w' := w3) (fun j h1 h2 => ho.block j h2 (fun e => by have e2 : j = w.heap.size := (by simpa using e); omega)) ho.size
        have HL3 := hide hl3
        have HB3 := hide (HBE.out.trans (Only.below ho (B := w.heap.size) (fun a ha => by cases ha; exact Nat.le_refl _) (by omega)))
        have hs3 := ho.size
        have hlp : p'.length = m := by rw [hp']; exact HP.out.len (q + 1) (by have := HK.out; omega)
        have HLP := hide hlp
        have HPP := hide hp'
        have HR3 := hide hr
        clear hn ho hr hl3 hlp hp'
        go_wp2_with fail
        refine (clone_any w.heap.size 0 m m p' _ HLP.out (by omega) (by omega) (fun i hi => by rw [Nat.zero_add]; exact HR3.out.cell hi)).mono ?_
        rintro e w4 ⟨A4, c4, rfl, hb4, hres4⟩
        have HB4 := hide hb4
        have HR4 := hide hres4.obj
        have HL4 := hide (HL3.out.later hb4)
        have hs4 := hb4.size
        clear hb4 hres4
        have hlt : ((permsS m).take (q + 1)).length = q + 1 := by have := HK.out; simp; omega
        have HLT := hide hlt
        have hown : w4.ownsRow (w.heap.size + 1) 31 1 u5 (q + 1) vals := by have := HL4.out.own; rwa [hlt] at this
        have HOW := hide hown
        clear hown hlt
        go_wp2_with (at_builtin; refine wpList_append_own _ rfl _ _ 22 rfl (w.heap.size + 1) 31 i0 (.slice none 0 0) 1 24 Try.underlying22 hi hz0 hz1 hz2 rfl (by decide) _ _ _ rfl (HOW.out.alloc _) ⟨w4.heap.size, 0, none⟩ 1 1 [.slice A4 m c4] rfl rfl ?c1 ?c2 ?c3 ?c4 ?c5 ?_)
        case c1 =>
          intro j u hj
          match j, hj with
          | 0, hj => simp at hj; subst hj; simp [Addr.add, World.cell?_alloc_new]
        case c2 => intro u hu; simp at hu; subst hu; rfl
        case c3 => unfold maxLen; omega
        case c4 => omega
        case c5 => simp; omega
        intro v' w5 hown' hgrow _
        have HO' := hide hown'
        have HG := hide hgrow
        clear hown' hgrow
        go_wp2_with fail
        go_roundg (k - 1 - (q + 1))
        case measure => have := HQ.out; omega
        case rel =>
          have hB5 : Below w.heap.size w w5 := ((HB3.out.trans (HB4.out.mono HB3.out.size)).alloc (by omega) _).grown HG.out (by simp; omega) (fun g hg => by have := ((HOW.out.alloc (.cells #[.slice A4 m c4] 31)).lt g hg).1; omega)
          have hpush := LstV.push (tmp := .cells #[.slice A4 m c4] 31) (A := A4) (c := c4) (r := p') (w1 := w5) (v' := v') (by decide) (by omega) HL3.out HB4.out HR4.out (by rw [HLT.out, HLP.out]; exact HO'.out) HG.out
          have e : (permsS m).take (q + 1 + 1) = (permsS m).take (q + 1) ++ [p'] := by
            have hl : q + 1 < (permsS m).length := by have := HK.out; omega
            rw [List.take_succ_eq_append_getElem hl, HPP.out]
            simp [hl]
          have hg : Row 2 w5 w.heap.size ((permsS m).getD (q + 1) []) := by
            rw [← HPP.out]
            have h4 := HR3.out.later (w' := w4) HB4.out (by omega)
            have h5 : Row 2 (w4.alloc (.cells #[.slice A4 m c4] 31)) w.heap.size p' := h4.later ((Below.refl _ _).alloc (Nat.le_refl _) _) (by omega)
            exact (HG.out.block w.heap.size (by simp; omega) (fun e => by have := ((HOW.out.alloc (.cells #[.slice A4 m c4] 31)).lt _ e.symm).1; omega)).trans h5
          exact ⟨q + 1, vals ++ [.slice A4 p'.length c4], by omega, hB5, by rw [e]; exact hpush, hg, by have := hB5.size; have := HG.out.size; simp at this; omega⟩
  · by_cases h1 : n < 1
    · obtain rfl : k = 0 := by simpa using hk.symm
      clear hk hno
      go_enter Try.func31, Try.ntmps31
      go_wp2_with fail
      go_ret2
      exact ⟨_, _, rfl, Below.refl _ _, .inl ⟨rfl, rfl⟩⟩
    · have h7 : 7 < n := by omega
      obtain rfl : k = 0 := by simpa using hk.symm
      clear hk hno
      go_enter Try.func31, Try.ntmps31
      go_wp2_with fail
      go_ret2
      exact ⟨_, _, rfl, Below.refl _ _, .inl ⟨rfl, rfl⟩⟩
end Go.Proofs.Ytnkggphffinekab
