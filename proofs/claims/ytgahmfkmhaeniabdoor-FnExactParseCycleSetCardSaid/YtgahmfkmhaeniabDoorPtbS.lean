import Derived.Test.YtgahmfkmhaeniabDoorSplS
import Derived.Test.YtgahmfkmhaeniabDoorReadS
import Derived.Test.YtgahmfkmhaeniabDoorTblS
import Derived.Test.YtgahmfkmhaeniabDoorLst
import Derived.Test.YtgahmfkmhaeniabDoorNe
namespace Go.Proofs.YtgahmfkmhaeniabDoor
open Go Go.RowKit
set_option maxHeartbeats 4000000

/-- The cells of a slice of texts. -/
theorem str_cells {w : World} {B n : Nat} {t : TypeId} {v : Value} {ps : List ByteArray} (h : w.ownsRow B t 1 v n (ps.map Value.string)) (h1 : 1 ≤ n) :
    ∃ g cap, v = .slice (some ⟨g, 0, none⟩) n cap ∧ g < w.heap.size ∧ ∀ i, i < n → w.cell? ⟨g, i, none⟩ = some (.string (ps.getD i ByteArray.empty)) := by
  have h0 := h
  obtain ⟨hl, h⟩ := h
  rcases h with ⟨hv, h0⟩ | ⟨g, cap, cur, hv, hg, hh, h2, h3, h4, h5⟩
  · omega
  · subst hv
    refine ⟨g, cap, rfl, (Array.getElem?_eq_some_iff.1 hh).1, fun i hi => ?_⟩
    rw [World.ownsRow.cellAt h0 i (by omega)]
    simp at hl
    have hi2 : i < ps.length := by omega
    simp [hi2]
set_option maxRecDepth 100000 in
theorem l01Parse_any (s : ByteArray) (zs : List (List Int)) (code : Int) (ok : Bool) (k : Nat) (w : World) (hb : s.size ≤ 1048576) (hres : PtRes s zs code) (hok : ok = true ↔ code = 0) (hk : zs.length = k) :
    Calls Tryd.prog 9 #[.string s] w (fun e w' => ∃ A' c', e = .returned (.tuple #[.slice A' k c', .bool ok]) ∧ Below w.heap.size w w' ∧ Obj2 39 2 w.heap.size w'.heap.size w' A' zs) := by
  have HRES := hide hres
  have HOKK := hide hok
  have HKK := hide hk
  obtain ⟨N, hN⟩ : ∃ N, (parts 47 s).length = N := ⟨_, rfl⟩
  have h1N : 1 ≤ N := by rw [← hN]; exact parts_pos 47 s
  have hNs : N ≤ s.size + 1 := by rw [← hN]; exact (parts_sz 47 s).1
  have HN := hide hN
  clear hres hok hk hN
  obtain ⟨i2, hj, hy0, hy1, hy2⟩ := info_parts neInfo2
  go_enter Tryd.func9, Tryd.ntmps9
  go_wp2_with fail
  refine (l01Split_any s 47 _ hb).mono ?_
  rintro e w1 ⟨v0, rfl, hb1, ho1⟩
  rw [HN.out] at ho1
  obtain ⟨g, cap, rfl, hg, hcl⟩ := str_cells ho1 h1N
  have HB1 := hide hb1
  have HC := hide hcl
  clear hb1 ho1 hcl
  go_wp2_with fail
  go_loopw [5, 6] (fun v i wr => ∃ (x : Nat) (vals : List Value), x ≤ N ∧ i = .int .i64 x ∧ Below w1.heap.size w1 wr ∧ LstV 39 2 w1.heap.size wr v ((rowsL s).take x) vals ∧ w1.heap.size ≤ wr.heap.size ∧ ∀ i, i < x → AllDig ((parts 47 s).getD i ByteArray.empty)) (fun _ i _ => N - (intOf i).toNat)
  case atStart => exact ⟨0, [], Nat.zero_le _, rfl, (Below.refl _ _).alloc (Nat.le_refl _) _, by simpa using LstV.start w1 _ _, by simp, fun i hi => absurd hi (Nat.not_lt_zero _)⟩
  case round =>
    obtain ⟨x, vals, hx, rfl, hbe, hlst, hsz, hall⟩ := hrel
    have HB := hide hbe
    have HL := hide hlst
    have HALL := hide hall
    clear hbe hlst hall
    by_cases hlt : x < N
    · have hxz : (x : Int) < N := by omega
      have c0 := (HB.out.cell (p := ⟨g, x, none⟩) hg).trans (HC.out x hlt)
      obtain ⟨p, hp⟩ : ∃ p, (parts 47 s).getD x ByteArray.empty = p := ⟨_, rfl⟩
      rw [hp] at c0
      have HP := hide hp
      have hps : p.size ≤ s.size := by
        have h := (parts_sz 47 s).2 p (by rw [← hp]; have := HN.out; simp [List.getD_eq_getElem?_getD, this, hlt])
        exact h
      clear hp
      by_cases hd : AllDig p
      · have HD := hide hd
        have HRR : Hid (ReadRes p (readL p) true) := hide (.inl ⟨hd, rfl, rfl⟩)
        obtain ⟨m, hm⟩ : ∃ m, (readL p).length = m := ⟨_, rfl⟩
        have hms : m ≤ 1048576 := by rw [← hm, readL_length]; omega
        have HM := hide hm
        clear hd hm
        go_wp2_with fail
        refine (l01Read_any p (readL p) true m _ (by omega) HRR.out HM.out).mono ?_
        rintro e w2 ⟨A2, c2, rfl, hb2, hr2⟩
        have HB2 := hide hb2
        have HR2 := hide hr2.obj
        clear c0 hb2 hr2
        have HTM : Hid (((rowsL s).take x).length = x) := hide (by rw [List.length_take, (rowsL_at (by rw [HN.out]; exact hlt)).2, HN.out]; omega)
        have HL2 := hide (HL.out.later HB2.out)
        have HOW2 : Hid (w2.ownsRow w1.heap.size 39 1 u5 x vals) := hide (by have h := HL2.out.own; rw [HTM.out] at h; exact h)
        have hs3 : w1.heap.size ≤ w2.heap.size := by have := HB2.out.size; omega
        go_wp2_with (at_builtin; refine wpList_append_own _ rfl _ _ 22 rfl w1.heap.size 39 i2 (.slice none 0 0) 1 24 Tryd.underlying22 hj hy0 hy1 hy2 rfl (by decide) _ _ _ rfl (HOW2.out.alloc _) ⟨w2.heap.size, 0, none⟩ 1 1 [.slice A2 m c2] rfl rfl ?c1 ?c2 ?c3 ?c4 ?c5 ?_)
        case c1 => exact ne_new
        case c2 => intro u hu; simp at hu; subst hu; rfl
        case c3 => unfold maxLen; omega
        case c4 => omega
        case c5 => simp; omega
        intro v' w7 hown7 hgrow7 _
        have HO7 := hide hown7
        have HG7 := hide hgrow7
        clear hown7 hgrow7
        go_wp2_with fail
        go_roundw
        case rel =>
          have hB7 : Below w1.heap.size w1 w7 := ((HB.out.trans (HB2.out.mono HB.out.size)).alloc hs3 _).grown HG7.out (by simp; omega) (fun g hg => (HOW2.out.alloc (.cells #[.slice A2 m c2] 39)).lt g hg |>.1)
          have hpush := LstV.push (tmp := .cells #[.slice A2 m c2] 39) (A := A2) (c := c2) (r := readL p) (w1 := w7) (v' := v') (by decide) hsz HL.out HB2.out HR2.out (by rw [HTM.out, HM.out]; exact HO7.out) HG7.out
          refine ⟨x + 1, vals ++ [.slice A2 (readL p).length c2], by omega, by go_num, hB7, ?_, by have := hB7.size; omega, fun i hi => ?_⟩
          · rw [rowsL_take (by rw [HN.out]; exact hlt), HP.out]
            exact hpush
          · by_cases e : i = x
            · rw [e, HP.out]; exact HD.out
            · exact HALL.out i (by omega)
        case measure => simp [intOf]; omega
      · have HRR : Hid (ReadRes p [] false) := hide (.inr ⟨hd, rfl, rfl⟩)
        have HBAD : Hid (zs = [] ∧ ok = false) := hide (by
          rcases HRES.out with ⟨hgd, _, _⟩ | ⟨_, h2, h3⟩
          · exact absurd ((allP_iff N HN.out).1 hgd.1 x hlt) (by rw [HP.out]; exact hd)
          · refine ⟨h2, ?_⟩
            cases ok
            · rfl
            · exact absurd (HOKK.out.1 rfl) (by rw [h3]; decide))
        clear hd
        go_wp2_with fail
        refine (l01Read_any p [] false 0 _ (by omega) HRR.out rfl).mono ?_
        rintro e w2 ⟨A2, c2, rfl, hb2, hr2⟩
        have HB2 := hide ((HB1.out.trans (HB.out.mono HB1.out.size)).trans (hb2.mono (by have := HB1.out.size; omega)))
        clear c0 hb2 hr2
        obtain ⟨hz, hk0⟩ := HBAD.out
        subst hz
        subst hk0
        have hk0 : k = 0 := by rw [← HKK.out]; rfl
        subst hk0
        go_wp2_with fail
        exact bodyPost_ret (v := .tuple #[.slice none 0 0, .bool false]) (by simp [results, Tryd.results9, go_sem]) rfl ⟨none, 0, rfl, HB2.out, .inl ⟨rfl, rfl⟩⟩
    · have hxn : x = N := by omega
      subst hxn
      have HLEN : Hid ((rowsL s).length = x) := hide (by rw [(rowsL_at (i := 0) (by rw [HN.out]; omega)).2, HN.out])
      have hl := HL.out
      rw [List.take_of_length_le (by rw [HLEN.out]; exact Nat.le_refl _)] at hl
      obtain ⟨A', c', hv, hobj⟩ := hl.shape
      rw [HLEN.out] at hv
      subst hv
      have HOBJ := hide hobj
      have HBT := hide (HB1.out.trans (HB.out.mono HB1.out.size))
      clear hl hobj
      have hs1 := HB1.out.size
      have HRB : Hid (∀ i, i < (rowsL s).length → ((rowsL s).getD i []).length ≤ 1048576) := hide (fun i hi => by
        have h := rowsL_at (s := s) (i := i) (by rw [HN.out]; have := HLEN.out; omega)
        rw [h.1, readL_length]
        have h2 := (parts_sz 47 s).2 ((parts 47 s).getD i ByteArray.empty) (by have := HN.out; have := HLEN.out; simp [List.getD_eq_getElem?_getD, show i < (parts 47 s).length by omega])
        omega)
      by_cases ht : Tbl (rowsL s)
      · have HT := hide ht
        have HGOOD : Hid (zs = rowsL s ∧ ok = true) := hide (by
          rcases HRES.out with ⟨_, h2, h3⟩ | ⟨hgd, _, _⟩
          · exact ⟨h2, HOKK.out.2 h3⟩
          · exact absurd ⟨(allP_iff x HN.out).2 HALL.out, ht⟩ hgd)
        clear ht
        go_wp2_with fail
        refine (l01Table_any _ x _ (rowsL s) true _ HLEN.out (by omega) (fun i hi => by have := HRB.out i hi; omega) HOBJ.out.rd ⟨fun _ => HT.out, fun _ => rfl⟩).mono ?_
        rintro e w3 ⟨rfl, hq⟩
        have HQ := hide hq
        clear hq
        obtain ⟨hz, hk0⟩ := HGOOD.out
        subst hz
        subst hk0
        have hk0 : k = x := by rw [← HKK.out]; exact HLEN.out
        subst hk0
        go_wp2_with fail
        exact bodyPost_ret (v := .tuple #[.slice A' k c', .bool true]) (by simp [results, Tryd.results9, go_sem]) rfl ⟨_, _, rfl, HBT.out.trans (HQ.out.below _), ((HOBJ.out.later (HQ.out.below _)).mono hs1 (HQ.out.below 0).size)⟩
      · have HT := hide ht
        have HBAD : Hid (zs = [] ∧ ok = false) := hide (by
          rcases HRES.out with ⟨hgd, _, _⟩ | ⟨_, h2, h3⟩
          · exact absurd hgd.2 ht
          · refine ⟨h2, ?_⟩
            cases ok
            · rfl
            · exact absurd (HOKK.out.1 rfl) (by rw [h3]; decide))
        clear ht
        go_wp2_with fail
        refine (l01Table_any _ x _ (rowsL s) false _ HLEN.out (by omega) (fun i hi => by have := HRB.out i hi; omega) HOBJ.out.rd ⟨fun h => (by cases h), fun h => absurd h HT.out⟩).mono ?_
        rintro e w3 ⟨rfl, hq⟩
        have HQ := hide hq
        clear hq
        obtain ⟨hz, hk0⟩ := HBAD.out
        subst hz
        subst hk0
        have hk0 : k = 0 := by rw [← HKK.out]; rfl
        subst hk0
        go_wp2_with fail
        exact bodyPost_ret (v := .tuple #[.slice none 0 0, .bool false]) (by simp [results, Tryd.results9, go_sem]) rfl ⟨none, 0, rfl, HBT.out.trans (HQ.out.below _), .inl ⟨rfl, rfl⟩⟩
end Go.Proofs.YtgahmfkmhaeniabDoor
