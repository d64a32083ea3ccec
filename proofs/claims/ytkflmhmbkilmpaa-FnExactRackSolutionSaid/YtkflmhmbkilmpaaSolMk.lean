import Derived.Test.YtkflmhmbkilmpaaZArg
import Derived.Test.YtkflmhmbkilmpaaBlk
import Derived.Test.YtkflmhmbkilmpaaMarkII
namespace Go.Proofs.Ytkflmhmbkilmpaa
open Go Go.RowKit
set_option maxHeartbeats 1000000

theorem markZ (ts t : TypeId) (hne : ts ≠ t) (lo hi : Nat) (A : Option Addr) (n c : Nat) (B : Option Addr) (m d : Nat) (k : Int) (f s : List (List Int)) (w : World) (sz : ZSz 1048576 f n s m) (ht : tot f + tot s ≤ 2305843009213693952) (hk : 0 ≤ k) (hk2 : k ≤ 1152921504606846976) (hr : ObjZ ts t lo hi w A f B s) (hhi : hi ≤ w.heap.size) :
    Calls Try.prog 29 #[.agg #[.slice A n c, .slice B m d], .int .i64 k] w fun e w' => e = .returned (.int .i64 (k + (tot f : Int) + (tot s : Int))) ∧ Touch lo hi w w' ∧ ObjZ ts t lo hi w' A (marks2 k f) B (marks2 (k + (tot f : Int)) s) := by
  obtain ⟨mid, h1, h2, h3, h4⟩ := hr
  have HNE := hide hne
  have SZ := hide sz
  have H3 := hide h3
  have H4 := hide h4
  have HT := hide ht
  have HTF := hide sz.totf
  clear hne sz h3 h4 ht
  have htf := HTF.out
  obtain ⟨F, hF⟩ : ∃ F, tot f = F := ⟨_, rfl⟩
  obtain ⟨S, hS⟩ : ∃ S, tot s = S := ⟨_, rfl⟩
  rw [hF, hS]
  rw [hF] at htf
  have HF := hide hF
  have HS := hide hS
  have hk0 : Below w.heap.size w (w.alloc (Obj.cells #[Value.slice A n c, Value.slice B m d] 40)) := (Below.refl _ w).alloc (Nat.le_refl _) _
  have HB0 := hide hk0
  have HK0 := hide (Blk.new w 40 [.slice A n c, .slice B m d])
  clear hF hS hk0
  go_enter Try.func29, Try.ntmps29
  go_wp2_with fail
  refine (markT ts t HNE.out lo mid _ _ _ _ f _ SZ.out.fl SZ.out.nb SZ.out.nr (by have := HT.out; omega) hk (by omega) (H3.out.later HB0.out)).mono ?_
  rintro e w1 ⟨rfl, ht1, ho1⟩
  have HT1 := hide ((Touch.of_below HB0.out).trans (ht1.wide (Nat.le_refl _) h2))
  have HO1 := hide ho1
  have HP1 := hide (((H4.out.later HB0.out).far ht1 (.inr (Nat.le_refl _))))
  have HK1 := hide (HK0.out.touch ht1 (.inr (by omega)))
  have k1 := HK1.out.cell 1 _ rfl
  clear ht1 ho1
  rw [HF.out]
  go_wp2_with fail
  refine (markT ts t HNE.out mid hi _ _ _ _ s _ SZ.out.sl SZ.out.mb SZ.out.mr (by have := HT.out; omega) (by omega) (by omega) HP1.out).mono ?_
  rintro e w2 ⟨rfl, ht2, ho2⟩
  have HT2 := hide (HT1.out.trans (ht2.wide h1 (Nat.le_refl _)))
  have HO2 := hide (HO1.out.far ht2 (.inl (Nat.le_refl _)))
  have HP2 := hide ho2
  clear ht2 ho2
  rw [HS.out]
  go_wp2_with fail
  go_ret
  exact ⟨rfl, HT2.out, mid, h1, h2, HO2.out, HP2.out⟩

theorem heldZ (A : Option Addr) (n c : Nat) (B : Option Addr) (m d : Nat) (k : Int) (f s : List (List Int)) (w : World) (sz : ZSz 1048576 f n s m) (ht : tot f + tot s ≤ 2305843009213693952) (hk : 0 ≤ k) (hk2 : k ≤ 1152921504606846976) (hf : Rd2 w A (marks2 k f)) (hs : Rd2 w B (marks2 (k + (tot f : Int)) s)) :
    Calls Try.prog 30 #[.agg #[.slice A n c, .slice B m d], .int .i64 k] w fun e w' => e = .returned (.int .i64 (k + (tot f : Int) + (tot s : Int))) ∧ Below w.heap.size w w' := by
  have SZ := hide sz
  have HT := hide ht
  have HTF := hide sz.totf
  have HTG := hide sz.totg
  have HRF := hide hf
  have HRS := hide hs
  clear sz ht hf hs
  have htf := HTF.out
  have htg := HTG.out
  obtain ⟨F, hF⟩ : ∃ F, tot f = F := ⟨_, rfl⟩
  obtain ⟨S, hS⟩ : ∃ S, tot s = S := ⟨_, rfl⟩
  rw [hF, hS]
  rw [hF] at htf
  rw [hS] at htg
  have HF := hide hF
  have HS := hide hS
  have HB0 := hide ((Below.refl _ w).alloc (Nat.le_refl _) (Obj.cells #[Value.slice A n c, Value.slice B m d] 40))
  have HK0 := hide (Blk.new w 40 [.slice A n c, .slice B m d])
  clear hF hS
  go_enter Try.func30, Try.ntmps30
  go_wp2_with fail
  refine (heldT _ _ _ _ f _ SZ.out.fl SZ.out.nb SZ.out.nr (by have := HT.out; omega) hk (by omega) (HRF.out.later HB0.out)).mono ?_
  rintro e w1 ⟨rfl, hq1⟩
  have HB1 := hide (HB0.out.trans (hq1.below _))
  have k1 := (HK0.out.later (hq1.below _)).cell 1 _ rfl
  clear hq1
  rw [HF.out]
  have hn1 : ¬ (k + (F : Int) < 0) := by omega
  go_wp2_with fail
  refine (heldT _ _ _ _ s _ SZ.out.sl SZ.out.mb SZ.out.mr (by have := HT.out; omega) (by omega) (by omega) (by rw [← HF.out]; exact HRS.out.later HB1.out)).mono ?_
  rintro e w2 ⟨rfl, hq2⟩
  have HB2 := hide (HB1.out.trans (hq2.below _))
  clear hq2
  rw [HS.out]
  have hn2 : ¬ (k + (F : Int) + (S : Int) < 0) := by omega
  go_wp2_with fail
  go_ret
  exact ⟨rfl, HB2.out⟩
end Go.Proofs.Ytkflmhmbkilmpaa
