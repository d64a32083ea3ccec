import Derived.Test.YtchpclgkinehhaaZaa
import Derived.Test.YtchpclgkinehhaaZa
import Derived.Test.YtchpclgkinehhaaZh
namespace Go.Proofs.Ytchpclgkinehhaa
open Go Go.RowKit
set_option maxHeartbeats 1000000

set_option maxRecDepth 100000 in
theorem quS_any (A : Option Addr) (n c : Nat) (f : List (List Int)) (r : Bool) (w : World) (hn : f.length = n) (ht : Tbl f) (hr : Rd2 w A f) (hrc : r = true ↔ QuF f) :
    Calls Try.prog 64 #[.agg #[.slice A n c]] w fun e w' => e = .returned (.bool r) ∧ Below w.heap.size w w' := by
  have h1 : 1 ≤ n := by rw [← hn]; exact ht.1
  have h12 : n ≤ 12 := by rw [← hn]; exact ht.2.1
  obtain ⟨b, o, rfl, hb, hc⟩ := ht.cells hr hn
  have HC := hide hc
  have HN := hide hn
  have HRC := hide hrc
  have HB0 := hide ((Below.refl _ w).alloc (Nat.le_refl _) (Obj.cells #[Value.slice (some ⟨b, o, none⟩) n c] 27))
  have HK0 := hide (Blk.new w 27 [.slice (some ⟨b, o, none⟩) n c])
  clear hn ht hr hc hrc
  go_enter Try.func64, Try.ntmps64
  go_wp2_with fail
  go_loopw [3] (fun i wr => ∃ k : Nat, k ≤ n ∧ i = .int .i64 k ∧ Below w.heap.size w wr ∧ Blk wr w.heap.size 27 [.slice (some ⟨b, o, none⟩) n c] ∧ ∀ i, i < k → ap f i i = i) (fun i _ => n - (intOf i).toNat)
  case atStart => exact ⟨0, Nat.zero_le _, rfl, HB0.out, HK0.out, fun i hi => absurd hi (Nat.not_lt_zero _)⟩
  case round =>
    obtain ⟨k, hk, rfl, hbe, hkk, hall⟩ := hrel
    have HB := hide hbe
    have HK := hide hkk
    have HALL := hide hall
    clear hbe hkk hall
    have k0 := HK.out.cell 0 _ rfl
    by_cases hlt : k < n
    · obtain ⟨bx, ox, cx, r1, r2, r3⟩ := HC.out k hlt
      have e1 := r3 k hlt
      obtain ⟨u, hu⟩ : ∃ u, ap f k k = u := ⟨_, rfl⟩
      rw [hu] at e1
      have HU := hide hu
      replace r1 := (HB.out.cell (p := ⟨b, o + k, none⟩) hb).trans r1
      replace e1 := (HB.out.cell (p := ⟨bx, ox + k, none⟩) r2).trans e1
      clear r3 hu
      have hltz : (k : Int) < n := by omega
      by_cases hcs : u = k
      · subst hcs
        go_wp2_with fail
        go_roundw
        case rel => exact ⟨u + 1, by omega, by go_num, HB.out, HK.out, fun i hi => by
          by_cases e : i = u
          · subst e; exact HU.out
          · exact HALL.out i (by omega)⟩
        case measure => simp [intOf]; omega
      · have hcz : ¬ (u : Int) = k := by omega
        have hrf : r = false := by
          cases r
          · rfl
          · have h := HRC.out.1 rfl k (by have := HN.out; omega)
            rw [HU.out] at h
            exact absurd h hcs
        subst hrf
        go_wp2_with fail
        go_ret
        exact ⟨rfl, HB.out⟩
    · have hkn : k = n := by omega
      subst hkn
      have hrt : r = true := HRC.out.2 (fun x hx => HALL.out x (by have := HN.out; omega))
      subst hrt
      go_wp2_with fail
      go_ret
      exact ⟨rfl, HB.out⟩
end Go.Proofs.Ytchpclgkinehhaa
