import Derived.Test.YtkflmhmbkilmpabDoorSpI
import Derived.Test.YtkflmhmbkilmpabDoorReadI
import Derived.Test.YtkflmhmbkilmpabDoorTblI
import Derived.Test.YtkflmhmbkilmpabDoorLst2
import Derived.Test.YtkflmhmbkilmpabDoorNe
namespace Go.Proofs.YtkflmhmbkilmpabDoor
open Go Go.RowKit
set_option maxHeartbeats 4000000

theorem blk_grown {w w1 : World} {B n g : Nat} {ts tz : TypeId} {v : Value} {xs cs : List Value} {tmp : Obj} (hne : ts ≠ tz) (hb : Blk w g tz cs) (ho : w.ownsRow B ts 1 v n xs) (hg : (w.alloc tmp).grownBy w1 v.ownBlock) : Blk w1 g tz cs :=
  (hg.block g (by have := hb.lt; simp; omega) (fun e => by
    obtain ⟨_, _, cur, h1⟩ := own_type ho e.symm
    have h2 : w.heap[g]? = some (.cells cs.toArray tz (0, 0)) := hb
    rw [h1] at h2
    cases h2
    exact hne rfl)).trans (hb.later ((Below.refl _ _).alloc (Nat.le_refl _) _))

set_option maxRecDepth 100000 in
theorem parseTableI (s : ByteArray) (zs : List (List Int)) (code : Int) (k : Nat) (w : World) (hb : s.size ≤ 1048576) (hmx : MaxL w) (hres : PtRes s zs code) (hk : zs.length = k) :
    Calls Tryd.prog 11 #[.string s] w (fun e w' => ∃ A' c', e = .returned (.tuple #[.slice A' k c', .int .i64 code]) ∧ Below w.heap.size w w' ∧ Obj2 39 2 w.heap.size w'.heap.size w' A' zs) := by
  have HRES := hide hres
  have HKK := hide hk
  have HMX := hide hmx
  obtain ⟨N, hN⟩ : ∃ N, (parts 47 s).length = N := ⟨_, rfl⟩
  have h1N : 1 ≤ N := by rw [← hN]; exact parts_pos 47 s
  have hNs : N ≤ s.size + 1 := by rw [← hN]; exact (parts_sz 47 s).1
  have HN := hide hN
  clear hres hk hN hmx
  obtain ⟨i2, hj, hy0, hy1, hy2⟩ := info_parts neInfo2
  by_cases hlen : s.size ≤ 155
  · have hlz : ¬ (155 : Int) < s.size := by omega
    go_enter Tryd.func11, Tryd.ntmps11
    go_wp2_with fail
    refine calls_gen fun wt hwt => ?_
    have HBt : Hid (Below w.heap.size w wt) := hide (by rw [hwt]; exact (Below.refl _ _).alloc (Nat.le_refl _) _)
    have HLt : Hid (LstV 39 2 w.heap.size wt (.slice (some ⟨w.heap.size, 0, none⟩) 0 0) [] []) := hide (by rw [hwt]; exact LstV.start w _ _)
    have hst : w.heap.size ≤ wt.heap.size := by rw [hwt]; simp
    clear hwt
    refine (split_any s _ hb (HMX.out.later HBt.out)).mono ?_
    rintro e w1 ⟨rfl, hb1, hblk⟩
    rw [HN.out]
    have HB1 := hide (HBt.out.trans (hb1.mono HBt.out.size))
    have HL1 := hide (HLt.out.later hb1)
    have hs1 : w.heap.size ≤ w1.heap.size := by have := hb1.size; omega
    obtain ⟨g, hg⟩ : ∃ g, wt.heap.size = g := ⟨_, rfl⟩
    rw [hg] at hblk
    rw [hg]
    have HG1 := hide hblk
    clear hb1 hblk hg HBt HLt
    go_wp2_with fail
    go_loopw [4, 16] (fun v i wr => ∃ (x : Nat) (vals : List Value), x ≤ N ∧ i = .int .i64 x ∧ Below w.heap.size w wr ∧ LstV 39 2 w.heap.size wr v ((rowsL s).take x) vals ∧ w.heap.size ≤ wr.heap.size ∧ Blk wr g 9 ((parts 47 s).map Value.string) ∧ ∀ i, i < x → AllDig ((parts 47 s).getD i ByteArray.empty)) (fun _ i _ => N - (intOf i).toNat)
    case atStart => exact ⟨0, [], Nat.zero_le _, rfl, HB1.out, by simpa using HL1.out, hs1, HG1.out, fun i hi => absurd hi (Nat.not_lt_zero _)⟩
    case round =>
      obtain ⟨x, vals, hx, rfl, hbe, hlst, hsz, hgb, hall⟩ := hrel
      have HGB := hide hgb
      clear hgb
      have HB := hide hbe
      have HL := hide hlst
      have HALL := hide hall
      clear hbe hlst hall
      by_cases hlt : x < N
      · have hxz : (x : Int) < N := by omega
        have c0 : wr.cell? ⟨g, x, none⟩ = some (.string ((parts 47 s).getD x ByteArray.empty)) := HGB.out.cell x _ (by have := HN.out; simp [List.getD_eq_getElem?_getD, show x < (parts 47 s).length by omega])
        obtain ⟨p, hp⟩ : ∃ p, (parts 47 s).getD x ByteArray.empty = p := ⟨_, rfl⟩
        rw [hp] at c0
        have HP := hide hp
        have hps : p.size ≤ s.size := by
          have h := (parts_sz 47 s).2 p (by rw [← hp]; have := HN.out; simp [List.getD_eq_getElem?_getD, this, hlt])
          exact h
        clear hp
        by_cases hd : AllDig p
        · have HD := hide hd
          have HRR : Hid (ReadRes p (readL p) true) := hide (.inl ⟨hd, rfl, rfl⟩)
          obtain ⟨m, hm⟩ : ∃ m, (readL p).length = m := ⟨_, rfl⟩
          have hms : m ≤ 1048576 := by rw [← hm, readL_length]; omega
          have HM := hide hm
          clear hd hm
          go_wp2_with fail
          refine (elementsOf_any p (readL p) true m _ (by omega) HRR.out HM.out).mono ?_
          rintro e w2 ⟨A2, c2, rfl, hb2, hr2⟩
          have HB2 := hide hb2
          have HR2 := hide hr2.obj
          clear c0 hb2 hr2
          have HTM : Hid (((rowsL s).take x).length = x) := hide (by rw [List.length_take, (rowsL_at (by rw [HN.out]; exact hlt)).2, HN.out]; omega)
          have HL2 := hide (HL.out.later HB2.out)
          have HGB2 := hide (HGB.out.later HB2.out)
          have HOW2 : Hid (w2.ownsRow w.heap.size 39 1 u4 x vals) := hide (by have h := HL2.out.own; rw [HTM.out] at h; exact h)
          have hs3 : w.heap.size ≤ w2.heap.size := by have := HB2.out.size; omega
          go_wp2_with (at_builtin; refine wpList_append_own _ rfl _ _ 22 rfl w.heap.size 39 i2 (.slice none 0 0) 1 24 Tryd.underlying22 hj hy0 hy1 hy2 rfl (by decide) _ _ _ rfl (HOW2.out.alloc _) ⟨w2.heap.size, 0, none⟩ 1 1 [.slice A2 m c2] rfl rfl ?c1 ?c2 ?c3 ?c4 ?c5 ?_)
          case c1 => exact ne_new
          case c2 => intro u hu; simp at hu; subst hu; rfl
          case c3 => unfold maxLen; omega
          case c4 => omega
          case c5 => simp; omega
          intro v' w7 hown7 hgrow7 _
          have HO7 := hide hown7
          have HG7 := hide hgrow7
          clear hown7 hgrow7
          go_wp2_with fail
          go_roundw
          case rel =>
            have hB7 : Below w.heap.size w w7 := ((HB.out.trans (HB2.out.mono HB.out.size)).alloc hs3 _).grown HG7.out (by simp; omega) (fun g hg => (HOW2.out.alloc (.cells #[.slice A2 m c2] 39)).lt g hg |>.1)
            have hpush := LstV.push (tmp := .cells #[.slice A2 m c2] 39) (A := A2) (c := c2) (r := readL p) (w1 := w7) (v' := v') (by decide) hsz HL.out HB2.out HR2.out (by rw [HTM.out, HM.out]; exact HO7.out) HG7.out
            refine ⟨x + 1, vals ++ [.slice A2 (readL p).length c2], by omega, by go_num, hB7, ?_, by have := hB7.size; omega, blk_grown (by decide) HGB2.out HOW2.out HG7.out, fun i hi => ?_⟩
            · rw [rowsL_take (by rw [HN.out]; exact hlt), HP.out]
              exact hpush
            · by_cases e : i = x
              · rw [e, HP.out]; exact HD.out
              · exact HALL.out i (by omega)
          case measure => simp [intOf]; omega
        · have HRR : Hid (ReadRes p [] false) := hide (.inr ⟨hd, rfl, rfl⟩)
          have HBAD : Hid (zs = [] ∧ code = 6) := hide (by
            rcases HRES.out with ⟨hgd, _, _⟩ | ⟨_, h2, h3⟩
            · exact absurd ((allP_iff N HN.out).1 hgd.1 x hlt) (by rw [HP.out]; exact hd)
            · exact ⟨h2, h3⟩)
          clear hd
          go_wp2_with fail
          refine (elementsOf_any p [] false 0 _ (by omega) HRR.out rfl).mono ?_
          rintro e w2 ⟨A2, c2, rfl, hb2, hr2⟩
          have HB2 := hide (HB.out.trans (hb2.mono HB.out.size))
          clear c0 hb2 hr2
          obtain ⟨hz, hk0⟩ := HBAD.out
          subst hz
          subst hk0
          have hk0 : k = 0 := by rw [← HKK.out]; rfl
          subst hk0
          go_wp2_with fail
          exact bodyPost_ret (v := .tuple #[.slice none 0 0, .int .i64 6]) (by simp [results, Tryd.results11, go_sem]) rfl ⟨none, 0, rfl, HB2.out, .inl ⟨rfl, rfl⟩⟩
      · have hxn : x = N := by omega
        subst hxn
        have HLEN : Hid ((rowsL s).length = x) := hide (by rw [(rowsL_at (i := 0) (by rw [HN.out]; omega)).2, HN.out])
        have hl := HL.out
        rw [List.take_of_length_le (by rw [HLEN.out]; exact Nat.le_refl _)] at hl
        obtain ⟨A', c', hv, hobj⟩ := hl.shape
        rw [HLEN.out] at hv
        subst hv
        have HOBJ := hide hobj
        have HBT := HB
        clear hl hobj
        have hs1 : w.heap.size ≤ w.heap.size := Nat.le_refl _
        have HRB : Hid (∀ i, i < (rowsL s).length → ((rowsL s).getD i []).length ≤ 1048576) := hide (fun i hi => by
          have h := rowsL_at (s := s) (i := i) (by rw [HN.out]; have := HLEN.out; omega)
          rw [h.1, readL_length]
          have h2 := (parts_sz 47 s).2 ((parts 47 s).getD i ByteArray.empty) (by have := HN.out; have := HLEN.out; simp [List.getD_eq_getElem?_getD, show i < (parts 47 s).length by omega])
          omega)
        by_cases ht : Tbl (rowsL s)
        · have HT := hide ht
          have HGOOD : Hid (zs = rowsL s ∧ code = 0) := hide (by
            rcases HRES.out with ⟨_, h2, h3⟩ | ⟨hgd, _, _⟩
            · exact ⟨h2, h3⟩
            · exact absurd ⟨(allP_iff x HN.out).2 HALL.out, ht⟩ hgd)
          clear ht
          go_wp2_with fail
          refine (isTable_any _ x _ (rowsL s) true _ HLEN.out (by omega) (fun i hi => by have := HRB.out i hi; omega) HOBJ.out.rd ⟨fun _ => HT.out, fun _ => rfl⟩).mono ?_
          rintro e w3 ⟨rfl, hq⟩
          have HQ := hide hq
          clear hq
          obtain ⟨hz, hk0⟩ := HGOOD.out
          subst hz
          subst hk0
          have hk0 : k = x := by rw [← HKK.out]; exact HLEN.out
          subst hk0
          go_wp2_with fail
          exact bodyPost_ret (v := .tuple #[.slice A' k c', .int .i64 0]) (by simp [results, Tryd.results11, go_sem]) rfl ⟨_, _, rfl, HBT.out.trans (HQ.out.below _), ((HOBJ.out.later (HQ.out.below _)).mono hs1 (HQ.out.below 0).size)⟩
        · have HT := hide ht
          have HBAD : Hid (zs = [] ∧ code = 6) := hide (by
            rcases HRES.out with ⟨hgd, _, _⟩ | ⟨_, h2, h3⟩
            · exact absurd hgd.2 ht
            · exact ⟨h2, h3⟩)
          clear ht
          go_wp2_with fail
          refine (isTable_any _ x _ (rowsL s) false _ HLEN.out (by omega) (fun i hi => by have := HRB.out i hi; omega) HOBJ.out.rd ⟨fun h => (by cases h), fun h => absurd h HT.out⟩).mono ?_
          rintro e w3 ⟨rfl, hq⟩
          have HQ := hide hq
          clear hq
          obtain ⟨hz, hk0⟩ := HBAD.out
          subst hz
          subst hk0
          have hk0 : k = 0 := by rw [← HKK.out]; rfl
          subst hk0
          go_wp2_with fail
          exact bodyPost_ret (v := .tuple #[.slice none 0 0, .int .i64 6]) (by simp [results, Tryd.results11, go_sem]) rfl ⟨none, 0, rfl, HBT.out.trans (HQ.out.below _), .inl ⟨rfl, rfl⟩⟩
  · have hlz : (155 : Int) < s.size := by omega
    have HBAD : Hid (zs = [] ∧ code = 6) := hide (by
      rcases HRES.out with ⟨hgd, _, _⟩ | ⟨_, h2, h3⟩
      · exact absurd (tbl_short hgd.2) hlen
      · exact ⟨h2, h3⟩)
    obtain ⟨hz, hk0⟩ := HBAD.out
    subst hz
    subst hk0
    have hk0 : k = 0 := by rw [← HKK.out]; rfl
    subst hk0
    go_enter Tryd.func11, Tryd.ntmps11
    go_wp2_with fail
    exact bodyPost_ret (v := .tuple #[.slice none 0 0, .int .i64 6]) (by simp [results, Tryd.results11, go_sem]) rfl (by first | exact ⟨none, 0, rfl, Below.refl _ _, .inl ⟨rfl, rfl⟩⟩ | exact ⟨none, ⟨0, rfl⟩, Below.refl _ _, .inl ⟨rfl, rfl⟩⟩)
end Go.Proofs.YtkflmhmbkilmpabDoor
