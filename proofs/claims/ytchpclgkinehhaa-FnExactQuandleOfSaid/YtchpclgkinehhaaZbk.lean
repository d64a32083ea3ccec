import Derived.Test.YtchpclgkinehhaaZt
import Derived.Test.YtchpclgkinehhaaZa
import Derived.Test.YtchpclgkinehhaaZh
namespace Go.Proofs.Ytchpclgkinehhaa
open Go Go.RowKit
set_option maxHeartbeats 1000000

set_option maxRecDepth 100000 in
theorem kinkS_any (A : Option Addr) (n c : Nat) (f : List (List Int)) (w : World) (hn : f.length = n) (ht : Tbl f) (hr : Rd2 w A f) :
    Calls Try.prog 79 #[.agg #[.slice A n c]] w fun e w' => ∃ A' c', e = .returned (.slice A' n c') ∧ Below w.heap.size w w' ∧ Res 2 w.heap.size w' A' (kinkL f) := by
  have h1 : 1 ≤ n := by rw [← hn]; exact ht.1
  have h12 : n ≤ 12 := by rw [← hn]; exact ht.2.1
  obtain ⟨b, o, rfl, hb, hc⟩ := ht.cells hr hn
  have HC := hide hc
  have HN := hide hn
  have HZ : Hid ((kinkL f).length = n) := hide ((kinkL_length f).trans hn)
  obtain ⟨i0, hi, hz0, hz1, hz2⟩ := info_parts kqInfo
  have HB0 := hide (((Below.refl _ w).alloc (Nat.le_refl _) (Obj.cells #[Value.slice (some ⟨b, o, none⟩) n c] 27)).alloc (by simp) (Obj.cells #[] 2))
  have HK0 := hide ((Blk.new w 27 [.slice (some ⟨b, o, none⟩) n c]).alloc (Obj.cells #[] 2))
  have HE0 := hide (kq_empty (w.alloc (Obj.cells #[Value.slice (some ⟨b, o, none⟩) n c] 27)) 2)
  clear hn ht hr hc
  go_enter Try.func79, Try.ntmps79
  go_wp2_with fail
  go_loopw [3, 4] (fun v i wr => ∃ k : Nat, k ≤ n ∧ i = .int .i64 k ∧ Below w.heap.size w wr ∧ Blk wr w.heap.size 27 [.slice (some ⟨b, o, none⟩) n c] ∧ wr.ownsRow (w.heap.size + 1) 2 1 v k (ints ((kinkL f).take k)) ∧ w.heap.size + 1 ≤ wr.heap.size) (fun _ i _ => n - (intOf i).toNat)
  case atStart => exact ⟨0, Nat.zero_le _, rfl, HB0.out, HK0.out, by simpa [ints] using HE0.out, by simp⟩
  case round =>
    obtain ⟨k, hk, rfl, hbe, hkk, hown, hsz⟩ := hrel
    have HB := hide hbe
    have HK := hide hkk
    have HO := hide hown
    clear hbe hkk hown
    have k0 := HK.out.cell 0 _ rfl
    by_cases hlt : k < n
    · obtain ⟨bx, ox, cx, r1, r2, r3⟩ := HC.out k hlt
      have e1 := r3 k hlt
      obtain ⟨u, hu⟩ : ∃ u, ap f k k = u := ⟨_, rfl⟩
      rw [hu] at e1
      have HU := hide hu
      replace r1 := (HB.out.cell (p := ⟨b, o + k, none⟩) hb).trans r1
      replace e1 := (HB.out.cell (p := ⟨bx, ox + k, none⟩) r2).trans e1
      clear r3 hu
      have hltz : (k : Int) < n := by omega
      go_wp2_with (at_builtin; refine wpList_append_own _ rfl _ _ 31 rfl (w.heap.size + 1) 2 i0 (.int .i64 0) 1 8 Try.underlying31 hi hz0 hz1 hz2 rfl (by decide) _ _ _ rfl (HO.out.alloc _) ⟨wr.heap.size, 0, none⟩ 1 1 [.int .i64 (u : Int)] rfl rfl ?c1 ?c2 ?c3 ?c4 ?c5 ?_)
      case c1 => exact kq_new
      case c2 => intro u hu; simp at hu; subst hu; rfl
      case c3 => unfold maxLen; omega
      case c4 => omega
      case c5 => simp; omega
      intro v' w1 hown' hgrow _
      have HO' := hide hown'
      have HG := hide hgrow
      clear hown' hgrow k0
      go_wp2_with fail
      go_roundw
      case rel =>
        have hlow : w.heap.size ≤ wr.heap.size := by omega
        have hs1 : w.heap.size + 1 ≤ (wr.alloc (.cells #[.int .i64 (u : Int)] 2)).heap.size := by simp; omega
        have hB1 : Below w.heap.size w w1 := (HB.out.alloc hlow _).grown HG.out (by simp; omega) (fun g hg => by have h := ((HO.out.alloc (.cells #[.int .i64 (u : Int)] 2)).lt g hg).1; omega)
        have hB2 : Below (w.heap.size + 1) (wr.alloc (.cells #[.int .i64 (u : Int)] 2)) w1 := (Below.refl _ _).grown HG.out hs1 (fun g hg => ((HO.out.alloc (.cells #[.int .i64 (u : Int)] 2)).lt g hg).1)
        have hK1 : Blk w1 w.heap.size 27 [.slice (some ⟨b, o, none⟩) n c] := (hB2.block w.heap.size (by omega)).trans (HK.out.alloc _)
        refine ⟨k + 1, by omega, by go_num, hB1, hK1, ?_, by have := hB2.size; simp at this; omega⟩
        have h := HO'.out
        rw [kq_take _ k (u : Int) (by have := HZ.out; omega) (by rw [kinkL_getD f k (by have := HN.out; omega), HU.out])] at h
        exact h
      case measure => simp [intOf]; omega
    · have hkn : k = n := by omega
      subst hkn
      go_wp2_with fail
      have h := HO.out
      rw [List.take_of_length_le (by have := HZ.out; omega)] at h
      go_ret
      obtain ⟨A', c', hv, hres⟩ := own_shape h
      exact ⟨A', c', by rw [← hv]; rfl, HB.out, hres.mono (by omega)⟩
end Go.Proofs.Ytchpclgkinehhaa
