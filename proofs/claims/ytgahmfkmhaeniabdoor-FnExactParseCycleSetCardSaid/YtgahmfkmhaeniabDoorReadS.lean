import Derived.Test.YtgahmfkmhaeniabDoorProg
import Derived.Test.YtgahmfkmhaeniabDoorRdF
import Derived.Test.YtgahmfkmhaeniabDoorIn
namespace Go.Proofs.YtgahmfkmhaeniabDoor
open Go Go.RowKit
set_option maxHeartbeats 2000000

theorem rdsInfo : (Tryd.prog.info? 2).map (fun i => (i.zero, i.size, i.bytes)) = some (some (.int .i64 0), 1, 8) := by kernel_rfl
theorem rds_new {w : World} {v : Value} {t : TypeId} : ∀ j u, [v][j]? = some u → (w.alloc (.cells #[v] t)).cell? ((⟨w.heap.size, 0, none⟩ : Addr).add j) = some u := by
  intro j u hj
  match j, hj with
  | 0, hj => simp at hj; subst hj; simp [Addr.add, World.cell?_alloc_new]
theorem rds_empty (w : World) (t : TypeId) : (w.alloc (.cells #[] t)).ownsRow w.heap.size t 1 (.slice (some ⟨w.heap.size, 0, none⟩) 0 0) 0 [] :=
  ⟨by simp, .inr ⟨w.heap.size, 0, #[], rfl, Nat.le_refl _, heap_alloc_new _ _, Nat.le_refl _, by unfold maxLen; omega, by simp, by simp⟩⟩
theorem rds_take (zs : List Int) (k : Nat) (y : Int) (h : k < zs.length) (hy : zs.getD k 0 = y) : ints (zs.take k) ++ [.int .i64 y] = ints (zs.take (k + 1)) := by
  rw [List.take_succ_eq_append_getElem h]
  have : zs[k] = y := by simpa [h] using hy
  simp [ints, this]

theorem l01Read_any (s : ByteArray) (xs : List Int) (ok : Bool) (k : Nat) (w : World) (hb : s.size ≤ 1048576) (hr : ReadRes s xs ok) (hk : xs.length = k) :
    Calls Tryd.prog 17 #[.string s] w (BPost 2 k xs ok w) := by
  obtain ⟨i0, hi, hz0, hz1, hz2⟩ := info_parts rdsInfo
  have HR := hide hr
  have HK := hide hk
  clear hr hk
  have HZ : Hid ((readL s).length = s.size) := hide (readL_length s)
  go_enter Tryd.func17, Tryd.ntmps17
  go_wp2_with fail
  go_loopw [4, 5] (fun v i wr => ∃ k : Nat, k ≤ s.size ∧ i = .int .i64 k ∧ Below w.heap.size w wr ∧ wr.ownsRow w.heap.size 2 1 v k (ints ((readL s).take k)) ∧ w.heap.size ≤ wr.heap.size ∧ ∀ j, j < k → 0 ≤ (readL s).getD j 0) (fun _ i _ => s.size - (intOf i).toNat)
  case atStart => exact ⟨0, Nat.zero_le _, rfl, (Below.refl _ _).alloc (Nat.le_refl _) _, by simpa [ints] using rds_empty w _, by simp, fun j hj => absurd hj (Nat.not_lt_zero _)⟩
  case round =>
    obtain ⟨i, hi', rfl, hbe, hown, hsz, hall⟩ := hrel
    have HB := hide hbe
    have HO := hide hown
    have HALL := hide hall
    clear hbe hown hall
    by_cases hlt : i < s.size
    · have hg := readL_getD s i hlt
      have hbt : (s[i].toNat : Int) < 256 := by have := s[i].toNat_lt; omega
      have HG := hide hg
      clear hg
      have hltz : (i : Int) < s.size := by omega
      by_cases h1 : 48 ≤ s[i].toNat ∧ s[i].toNat ≤ 57
      · obtain ⟨h1a, h1b⟩ := h1
        have hu : ub s[i].toNat = (s[i].toNat : Int) - 48 := by unfold ub; rw [if_pos ⟨h1a, h1b⟩]
        have HU := hide hu
        clear hu
        go_wp2_with fail
        refine (in_any _ _ _ true _ (by simp; omega)).mono ?_
        rintro e w1 ⟨rfl, hq1⟩
        have HQ1 := hide hq1
        have HO1 : Hid (w1.ownsRow w.heap.size 2 1 u4 i (ints ((readL s).take i))) := hide (by
          obtain ⟨q, rfl⟩ := hq1
          exact HO.out)
        have hsz1 : w.heap.size ≤ w1.heap.size := by have := hq1.size; omega
        clear hq1
        go_wp2_with (at_builtin; refine wpList_append_own _ rfl _ _ 39 rfl w.heap.size 2 i0 (.int .i64 0) 1 8 Tryd.underlying39 hi hz0 hz1 hz2 rfl (by decide) _ _ _ rfl (HO1.out.alloc _) ⟨w1.heap.size, 0, none⟩ 1 1 [.int .i64 ((s[i].toNat : Int) - 48)] rfl rfl ?c1 ?c2 ?c3 ?c4 ?c5 ?_)
        case c1 => exact rds_new
        case c2 => intro u hu; simp at hu; subst hu; rfl
        case c3 => unfold maxLen; omega
        case c4 => omega
        case c5 => simp; omega
        intro v' w2 hown' hgrow _
        have HO' := hide hown'
        have HGR := hide hgrow
        clear hown' hgrow
        go_wp2_with fail
        go_roundw
        case rel =>
          have hB1 : Below w.heap.size w w2 := ((HB.out.trans (HQ1.out.below _)).alloc hsz1 _).grown HGR.out (by simp; omega) (fun g hg => (HO1.out.alloc (.cells #[.int .i64 ((s[i].toNat : Int) - 48)] 2)).lt g hg |>.1)
          have h := HO'.out
          rw [rds_take _ i _ (by have := HZ.out; omega) (HG.out.trans HU.out)] at h
          refine ⟨i + 1, by omega, by go_num, hB1, h, by have := hB1.size; omega, fun j hj => ?_⟩
          by_cases e : j = i
          · subst e; rw [HG.out, HU.out]; omega
          · exact HALL.out j (by omega)
        case measure => simp [intOf]; omega
      · by_cases h2 : 97 ≤ s[i].toNat ∧ s[i].toNat ≤ 98
        · obtain ⟨h2a, h2b⟩ := h2
          have hu : ub s[i].toNat = (s[i].toNat : Int) - 97 + 10 := by unfold ub; rw [if_neg h1, if_pos ⟨h2a, h2b⟩]; omega
          have HU := hide hu
          clear hu h1
          go_wp2_with fail
          refine (in_any _ _ _ false _ (by simp; omega)).mono ?_
          rintro e w1 ⟨rfl, hq1⟩
          have HQ1 := hide hq1
          clear hq1
          go_wp2_with fail
          refine (in_any _ _ _ true _ (by simp; omega)).mono ?_
          rintro e w3 ⟨rfl, hq3⟩
          have HQ3 := hide (HQ1.out.trans hq3)
          have HO1 : Hid (w3.ownsRow w.heap.size 2 1 u4 i (ints ((readL s).take i))) := hide (by
            obtain ⟨q, h⟩ := HQ3.out
            rw [h]
            exact HO.out)
          have hsz1 : w.heap.size ≤ w3.heap.size := by have := HQ3.out.size; omega
          clear hq3
          go_wp2_with (at_builtin; refine wpList_append_own _ rfl _ _ 39 rfl w.heap.size 2 i0 (.int .i64 0) 1 8 Tryd.underlying39 hi hz0 hz1 hz2 rfl (by decide) _ _ _ rfl (HO1.out.alloc _) ⟨w3.heap.size, 0, none⟩ 1 1 [.int .i64 ((s[i].toNat : Int) - 97 + 10)] rfl rfl ?d1 ?d2 ?d3 ?d4 ?d5 ?_)
          case d1 => exact rds_new
          case d2 => intro u hu; simp at hu; subst hu; rfl
          case d3 => unfold maxLen; omega
          case d4 => omega
          case d5 => simp; omega
          intro v' w2 hown' hgrow _
          have HO' := hide hown'
          have HGR := hide hgrow
          clear hown' hgrow
          go_wp2_with fail
          go_roundw
          case rel =>
            have hB1 : Below w.heap.size w w2 := ((HB.out.trans (HQ3.out.below _)).alloc hsz1 _).grown HGR.out (by simp; omega) (fun g hg => (HO1.out.alloc (.cells #[.int .i64 ((s[i].toNat : Int) - 97 + 10)] 2)).lt g hg |>.1)
            have h := HO'.out
            rw [rds_take _ i _ (by have := HZ.out; omega) (HG.out.trans HU.out)] at h
            refine ⟨i + 1, by omega, by go_num, hB1, h, by have := hB1.size; omega, fun j hj => ?_⟩
            by_cases e : j = i
            · subst e; rw [HG.out, HU.out]; omega
            · exact HALL.out j (by omega)
          case measure => simp [intOf]; omega
        · have hu : ub s[i].toNat = -1 := by unfold ub; rw [if_neg h1, if_neg h2]
          have HU := hide hu
          have f1 : ¬ ((48 : Int) ≤ (s[i].toNat : Int) ∧ (s[i].toNat : Int) ≤ 57) := by omega
          have f2 : ¬ ((97 : Int) ≤ (s[i].toNat : Int) ∧ (s[i].toNat : Int) ≤ 98) := by omega
          have F1 := hide f1
          have F2 := hide f2
          clear hu h1 h2 f1 f2
          go_wp2_with fail
          refine (in_any _ _ _ false _ ⟨fun h => (by cases h), fun h => absurd h F1.out⟩).mono ?_
          rintro e w1 ⟨rfl, hq1⟩
          have HQ1 := hide hq1
          clear hq1
          go_wp2_with fail
          refine (in_any _ _ _ false _ ⟨fun h => (by cases h), fun h => absurd h F2.out⟩).mono ?_
          rintro e w3 ⟨rfl, hq3⟩
          have HQ3 := hide (HQ1.out.trans hq3)
          clear hq3
          go_wp2_with fail
          go_ret2
          have hno : ¬ AllDig s := fun h => by have := h i hlt; rw [HG.out, HU.out] at this; omega
          rcases HR.out with ⟨h, _⟩ | ⟨_, h1, h2⟩
          · exact absurd h hno
          · subst h1
            subst h2
            have hk := HK.out
            simp at hk
            subst hk
            exact ⟨_, _, rfl, HB.out.trans (HQ3.out.below _), .inl ⟨rfl, rfl⟩⟩
    · have hin : i = s.size := by omega
      subst hin
      go_wp2_with fail
      go_ret2
      rcases HR.out with ⟨_, h1, h2⟩ | ⟨h, _⟩
      · subst h1
        subst h2
        have h := HO.out
        have hk := HK.out
        have hz := HZ.out
        rw [List.take_of_length_le (by omega)] at h
        rw [hz] at hk
        subst hk
        obtain ⟨A', c', hv, hres⟩ := own_shape h
        exact ⟨A', c', by rw [← hv]; rfl, HB.out, hres⟩
      · exact absurd HALL.out h
end Go.Proofs.YtgahmfkmhaeniabDoor
