import Derived.Test.YtgahmfkmhaeniaaGrowS
import Derived.Test.YtgahmfkmhaeniaaIn
namespace Go.Proofs.Ytgahmfkmhaeniaa
open Go Go.RowKit
set_option maxHeartbeats 2000000

theorem l01Perms_any (n : Nat) (w : World) (h1 : 1 ≤ n) (h7 : n ≤ 7) :
    Calls Try.prog 127 #[.int .i64 n] w fun e w' => ∃ A' c', e = .returned (.slice A' (permsS n).length c') ∧ Below w.heap.size w w' ∧ Obj2 31 2 w.heap.size w'.heap.size w' A' (permsS n) := by
  have HP := hide (perms_all n h1 h7)
  go_enter Try.func127, Try.ntmps127
  go_wp2_with fail
  have hal : Below w.heap.size w ((w.alloc (.cells #[] 2)).alloc (.cells #[] 31)) := ((Below.refl _ _).alloc (Nat.le_refl _) _).alloc (by simp) _
  have HAL := hide hal
  have hlst : LstV 31 2 w.heap.size ((w.alloc (.cells #[] 2)).alloc (.cells #[] 31)) (.slice (some ⟨w.heap.size + 1, 0, none⟩) 0 0) [] [] := by
    have h := LstV.start (w.alloc (.cells #[] 2)) 31 2
    obtain ⟨h1, h2, h3⟩ := h
    obtain ⟨h4, h5⟩ := h1
    refine ⟨⟨h4, ?_⟩, fun i hi => by simp at hi, fun i j u u' g _ hu => by simp at hu⟩
    rcases h5 with ⟨h5, _⟩ | ⟨g, cap, cur, hv, hg, r⟩
    · cases h5
    · exact .inr ⟨g, cap, cur, by simpa using hv, by simp at hg; omega, r⟩
  have HL := hide hlst
  have hob : Obj1 2 w.heap.size ((w.alloc (.cells #[] 2)).alloc (.cells #[] 31)).heap.size ((w.alloc (.cells #[] 2)).alloc (.cells #[] 31)) (some ⟨w.heap.size, 0, none⟩) [] :=
    .inr ⟨w.heap.size, rfl, Nat.le_refl _, by simp; omega, #[], (Below.heap_alloc _ _ _ (by simp)).trans (heap_alloc_new _ _), fun i hi => by simp at hi⟩
  have HO := hide hob
  clear hal hlst hob
  refine (grow_any w.heap.size n n 0 0 w.heap.size [] _ [] [] _ rfl (by omega) (by omega) (by simp; omega) HO.out HL.out (fun i u g hu => by simp at hu) (by have := HP.out.most; show 0 + (permsS n).length ≤ _; omega)).mono ?_
  rintro e w1 ⟨v', vals', rfl, hk, hb, hB, hl⟩
  have HL1 := hide hl
  have HB1 := hide hb
  clear hk hb hl
  go_wp2_with fail
  go_ret
  obtain ⟨A', c', hv, hobj⟩ := HL1.out.shape
  exact ⟨A', c', by rw [show [] ++ growS n n [] = permsS n from rfl] at hv; rw [← hv]; rfl, HAL.out.trans HB1.out, hobj⟩
end Go.Proofs.Ytgahmfkmhaeniaa
