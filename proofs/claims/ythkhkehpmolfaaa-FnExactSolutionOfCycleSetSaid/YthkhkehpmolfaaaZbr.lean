import Derived.Test.YthkhkehpmolfaaaZbn
import Derived.Test.YthkhkehpmolfaaaZap
import Derived.Test.YthkhkehpmolfaaaZah
import Derived.Test.YthkhkehpmolfaaaZn
import Derived.Test.YthkhkehpmolfaaaZa
namespace Go.Proofs.Ythkhkehpmolfaaa
open Go Go.RowKit
set_option maxHeartbeats 2000000
theorem ivsInfo2 : (Try.prog.info? 31).map (fun i => (i.zero, i.size, i.bytes)) = some (some (.slice none 0 0), 1, 24) := by kernel_rfl

set_option maxRecDepth 100000 in
/-- The inverses of the rows of a table of permutations. -/
theorem inverses_any (A : Option Addr) (n c : Nat) (f : List (List Int)) (w : World) (hn : f.length = n) (ht : Tbl f) (hp : AllPrm f) (hr : Rd2 w A f) :
    Calls Try.prog 94 #[.slice A n c] w fun e w' => ∃ A' c', e = .returned (.slice A' n c') ∧ Below w.heap.size w w' ∧ Obj2 31 2 w.heap.size w'.heap.size w' A' (dualL f) := by
  have HN := hide hn
  have HTB := hide ht
  have HPM := hide hp
  have HRD := hide hr
  have h1 : 1 ≤ n := by rw [← hn]; exact ht.1
  have h12 : n ≤ 12 := by rw [← hn]; exact ht.2.1
  have hmk := run_make_row' (P := Try.prog) 22 31 (.slice none 0 0) 24 Try.underlying22 ivsInfo2 rfl .i64 .i64 n (by omega) (by omega)
  clear hn ht hp hr
  go_enter Try.func94, Try.ntmps94
  go_wp2_with fail
  clear hmk
  refine wp_gen fun w0 hw0 => ?_
  obtain ⟨G, hG⟩ : ∃ G, w.heap.size = G := ⟨_, rfl⟩
  have HBm : Hid (Below G w w0) := hide (by rw [hw0, ← hG]; exact (Below.refl _ w).alloc (Nat.le_refl _) _)
  have HFm : Hid (Fil 31 2 n 0 (fun i => backTo (f.getD i []) n) G G w0) := hide (by rw [hw0, ← hG]; exact Fil.start w (Nat.le_refl _))
  have HG := hide hG
  rw [hG]
  clear hw0 hG
  go_loopw [11] (fun i wr => ∃ k : Nat, k ≤ n ∧ i = .int .i64 k ∧ Below G w wr ∧ Fil 31 2 n k (fun i => backTo (f.getD i []) n) G G wr) (fun i _ => n - (intOf i).toNat)
  case atStart => exact ⟨0, Nat.zero_le _, rfl, HBm.out, HFm.out⟩
  case round =>
    obtain ⟨k, hk, rfl, hbe, hff⟩ := hrel
    have HBc := hide hbe
    have HFc := hide hff
    clear hbe hff
    by_cases hlt : k < n
    · have hkl : Hid (k < f.length) := hide (by have := HN.out; omega)
      obtain ⟨b, o, hA, hbw, hc⟩ := (HRD.out.later (by have h := HBc.out; rw [← HG.out] at h; exact h)) (by have := hkl.out; omega)
      obtain ⟨Ak, ck, hcell, hrd⟩ := hc k hkl.out
      have hl := HTB.out.row_len HN.out hlt
      rw [hl] at hcell
      have HL := hide hl
      have HRR := hide hrd
      have hltz : (k : Int) < n := by omega
      subst hA
      clear hc hrd hl
      go_wp2_with fail
      refine (inverse_any Ak n ck (f.getD k []) _ HL.out (by omega) HRR.out (by have h := (HPM.out k hkl.out).2.2.1; rw [HL.out] at h; exact h)).mono ?_
      rintro e wd ⟨A5, c5, rfl, hbd, hres⟩
      have HPU := hide (HFc.out.push (c := c5) hbd hres hlt)
      have HBd := hide (HBc.out.trans (hbd.mono (by have h := HBc.out.size; rw [HG.out] at h; exact h)))
      have HFd := hide (HFc.out.later hbd)
      have HLB : Hid ((backTo (f.getD k []) n).length = n) := hide (by rw [backTo_length]; exact HL.out)
      clear hbd hres
      rw [HLB.out] at HPU
      obtain ⟨⟨v0, hv0⟩, hz0⟩ := HFd.out.at k hlt
      go_wp2_with fail
      go_roundw
      case rel => exact ⟨k + 1, by omega, by go_num, HBd.out.setCell (p := ⟨G, k, none⟩) (Nat.le_refl _) _, HPU.out⟩
      case measure => simp [intOf]; omega
    · have hkn : k = n := by omega
      subst hkn
      have HO := hide HFc.out.done
      go_wp2_with fail
      have hdl : dualL f = (List.range k).map (fun i => backTo (f.getD i []) k) := by unfold dualL rowsL; rw [HN.out]
      go_ret
      refine ⟨_, _, rfl, ?_, ?_⟩
      · have h := HBc.out
        rw [← HG.out] at h
        exact h
      · rw [hdl]
        have h := HO.out
        rw [← HG.out] at h ⊢
        exact h
end Go.Proofs.Ythkhkehpmolfaaa
