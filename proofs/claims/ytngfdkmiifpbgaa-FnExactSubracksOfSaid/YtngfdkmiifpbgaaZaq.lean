import Derived.Test.YtngfdkmiifpbgaaZai
import Derived.Test.YtngfdkmiifpbgaaZt
import Derived.Test.YtngfdkmiifpbgaaZam
import Derived.Test.YtngfdkmiifpbgaaZaj
namespace Go.Proofs.Ytngfdkmiifpbgaa
open Go Go.RowKit
set_option maxHeartbeats 2000000

set_option maxRecDepth 100000 in
theorem sbwI (A : Option Addr) (n c : Nat) (f : List (List Int)) (zs : List Int) (code : Int) (k : Nat) (w : World) (hn : f.length = n) (hb : n ≤ 1048576) (hbs : ∀ i, i < f.length → (f.getD i []).length ≤ 1048576) (hr : Rd2 w A f) (hres : SbRes f zs code) (hk : zs.length = k) :
    Calls Try.prog 48 #[.agg #[.slice A n c]] w (RPost 2 k zs code w) := by
  have HN := hide hn
  have HBS := hide hbs
  have HRD := hide hr
  have HB0 := hide ((Below.refl _ w).alloc (Nat.le_refl _) (Obj.cells #[Value.slice A n c] 48))
  have HK0 := hide (Blk.new w 48 [.slice A n c])
  rcases hres with ⟨hp, rfl, rfl⟩ | ⟨hp, rfl, rfl⟩
  · obtain ⟨k0, hk0⟩ : ∃ k0, n = k0 := ⟨_, rfl⟩
    subst hk0
    have HTB := hide hp.tbl
    have HFL := hide hn
    have HK0L := hide hk
    have h1 : 1 ≤ n := by rw [← hn]; exact hp.tbl.1
    have h12 : n ≤ 12 := by rw [← hn]; exact hp.tbl.2.1
    obtain ⟨P, hP⟩ : ∃ P, 2 ^ n = P := ⟨_, rfl⟩
    have hP12 : P ≤ 4096 := by rw [← hP]; exact pow_le n h12
    have hP1 : 2 ≤ P := by rw [← hP]; exact (Nat.pow_le_pow_right (by decide : 0 < 2) h1 : 2 ^ 1 ≤ 2 ^ n)
    have g1 : (2 : Int) ^ n = (P : Int) := by rw [← hP]; simp
    have HPW := hide hP
    clear hk hP
    obtain ⟨i0, hi, hz0, hz1, hz2⟩ := info_parts neInfo
    have HRK : Hid (RkRes f true) := hide (by unfold RkRes; simp [hp])
    have HP := hide hp
    clear hn hbs hr hp
    go_enter Try.func48, Try.ntmps48
    go_wp2_with fail
    refine (isRackI _ _ _ f true _ HN.out hb HBS.out (HRD.out.later HB0.out) HRK.out).mono ?_
    rintro e w1 ⟨rfl, hb1⟩
    have HB1 := hide (HB0.out.trans (hb1.mono HB0.out.size))
    have HK1 := hide (HK0.out.later hb1)
    clear hb1
    have k0 := fun o => (HK1.out.alloc o).cell 0 _ rfl
    go_wp2_with fail
    clear k0
    refine (ksize_any _ n _ _ (by omega)).mono ?_
    rintro e w2 ⟨rfl, hb2⟩
    have HO1 : Hid (w2.ownsRow (w.heap.size + 1) 2 1 (.slice (some ⟨w1.heap.size, 0, none⟩) 0 0) 0 []) := hide (ownsRow_below (ownsRow_mono (B := w1.heap.size) (by have := HK1.out.lt; omega) (ne_empty w1 _)) hb2)
    have HB2 := hide ((HB1.out.alloc HB1.out.size (.cells #[] 2)).trans (hb2.mono (by have := HB1.out.size; simp; omega)))
    have HK2 := hide ((HK1.out.alloc (.cells #[] 2)).later hb2)
    have hs2 : w.heap.size + 1 ≤ w2.heap.size := HK2.out.lt
    clear hb2
    go_wp2_with fail
    go_loopw [4, 13] (fun v i wr => ∃ S : Nat, 0 ≤ S ∧ S ≤ P ∧ i = .int .i64 S ∧ Below w.heap.size w wr ∧ Blk wr w.heap.size 48 [.slice A n c] ∧ wr.ownsRow (w.heap.size + 1) 2 1 v (sbN f S).length (ints (sbL f S)) ∧ w.heap.size + 1 ≤ wr.heap.size) (fun _ i _ => P - (intOf i).toNat)
    case atStart => exact ⟨0, Nat.le_refl _, by omega, rfl, HB2.out, HK2.out, by simpa [ints, sbL, sbN] using HO1.out, hs2⟩
    case round =>
      obtain ⟨S, hlo, hk, rfl, hbe, hkk, hown, hsz⟩ := hrel
      have HB := hide hbe
      have HK := hide hkk
      have HO := hide hown
      clear hbe hkk hown
      have kk := HK.out.cell 0 _ rfl
      by_cases hlt : S < P
      · have hkz : (S : Int) < P := by omega
        have hml := sbN_length f S
        obtain ⟨l, hl⟩ : ∃ l, (sbN f S).length = l := ⟨_, rfl⟩
        rw [hl] at hml HO
        have HL := hide hl
        clear hl
        by_cases hs : SubF f S
        · have HYES := hide hs
          clear hs
          go_wp2_with fail
          clear kk
          refine (isSubrack_any _ n _ f S true _ HN.out HTB.out (HRD.out.later HB.out) (by rw [HPW.out]; exact hlt) (by simp [HYES.out])).mono ?_
          rintro e w5 ⟨rfl, hb5⟩
          have HB5 := hide (HB.out.trans (hb5.mono HB.out.size))
          have HK5 := hide (HK.out.later hb5)
          have HO5 := hide (ownsRow_below HO.out hb5)
          have hs5 : w.heap.size + 1 ≤ w5.heap.size := by have := hb5.size; omega
          clear hb5
          go_wp2_with (at_builtin; refine wpList_append_own _ rfl _ _ 42 rfl (w.heap.size + 1) 2 i0 (.int .i64 0) 1 8 Try.underlying42 hi hz0 hz1 hz2 rfl (by decide) _ _ _ rfl (HO5.out.alloc _) ⟨w5.heap.size, 0, none⟩ 1 1 [.int .i64 (S : Int)] rfl rfl ?a1 ?a2 ?a3 ?a4 ?a5 ?_)
          try (case a1 => exact ne_new)
          try (case a2 => first | rfl | (intro u hu; simp at hu; subst hu; rfl))
          try (case a3 => first | omega | (unfold maxLen; omega))
          try (case a4 => omega)
          try (case a5 => first | omega | (simp; omega))
          intro v' w6 hown' hgrow _
          have HO' := hide hown'
          have HG := hide hgrow
          clear hown' hgrow
          go_wp2_with fail
          go_roundw
          case rel =>
            have hlow : w.heap.size ≤ w5.heap.size := by omega
            have hs1 : w.heap.size + 1 ≤ (w5.alloc (.cells #[.int .i64 (S : Int)] 2)).heap.size := by simp; omega
            have hB1 : Below w.heap.size w w6 := (HB5.out.alloc hlow _).grown HG.out (by simp; omega) (fun g hg => by have h := ((HO5.out.alloc (.cells #[.int .i64 (S : Int)] 2)).lt g hg).1; omega)
            have hB2 : Below (w.heap.size + 1) (w5.alloc (.cells #[.int .i64 (S : Int)] 2)) w6 := (Below.refl _ _).grown HG.out hs1 (fun g hg => ((HO5.out.alloc (.cells #[.int .i64 (S : Int)] 2)).lt g hg).1)
            have hK1 : Blk w6 w.heap.size 48 [.slice A n c] := (hB2.block w.heap.size (by omega)).trans (HK5.out.alloc _)
            refine ⟨S + 1, by omega, by omega, by go_num, hB1, hK1, ?_, by have := hB2.size; simp at this; omega⟩
            rw [sbL_yes HYES.out, sbN_yes HYES.out, List.length_append, HL.out]
            exact HO'.out
          case measure => simp [intOf]; omega
        · have HNO := hide hs
          clear hs
          go_wp2_with fail
          clear kk
          refine (isSubrack_any _ n _ f S false _ HN.out HTB.out (HRD.out.later HB.out) (by rw [HPW.out]; exact hlt) (by simp [HNO.out])).mono ?_
          rintro e w5 ⟨rfl, hb5⟩
          have HB5 := hide (HB.out.trans (hb5.mono HB.out.size))
          have HK5 := hide (HK.out.later hb5)
          have HO5 := hide (ownsRow_below HO.out hb5)
          have hs5 : w.heap.size + 1 ≤ w5.heap.size := by have := hb5.size; omega
          clear hb5
          go_wp2_with fail
          go_roundw
          case rel => exact ⟨S + 1, by omega, by omega, by go_num, HB5.out, HK5.out, by rw [sbL_no HNO.out, sbN_no HNO.out, HL.out]; exact HO5.out, hs5⟩
          case measure => simp [intOf]; omega
      · have hkn : S = P := by omega
        subst hkn
        go_wp2_with fail
        have h := HO.out
        obtain ⟨A', c', hv, hres⟩ := own_shape h
        subst hv
        go_ret2
        exact ⟨A', c', by rw [← HK0L.out, HFL.out, HPW.out, sbL_length]; rfl, HB.out, by rw [HFL.out, HPW.out]; exact hres.mono (by omega)⟩
  · have hk0 : k = 0 := by rw [← hk]; rfl
    subst hk0
    clear hk
    have HRK : Hid (RkRes f false) := hide (by unfold RkRes; simp [hp])
    have HP := hide hp
    clear hn hbs hr hp
    go_enter Try.func48, Try.ntmps48
    go_wp2_with fail
    refine (isRackI _ _ _ f false _ HN.out hb HBS.out (HRD.out.later HB0.out) HRK.out).mono ?_
    rintro e w1 ⟨rfl, hb1⟩
    have HB1 := hide (HB0.out.trans (hb1.mono HB0.out.size))
    have HK1 := hide (HK0.out.later hb1)
    clear hb1
    go_wp2_with fail
    go_ret2
    exact ⟨_, _, rfl, HB1.out, .inl ⟨rfl, rfl⟩⟩
end Go.Proofs.Ytngfdkmiifpbgaa
