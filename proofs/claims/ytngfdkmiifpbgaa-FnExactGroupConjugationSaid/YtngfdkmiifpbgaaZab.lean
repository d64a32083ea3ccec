import Derived.Test.YtngfdkmiifpbgaaZe
import Derived.Test.YtngfdkmiifpbgaaZc
namespace Go.Proofs.Ytngfdkmiifpbgaa
open Go Go.RowKit
set_option maxHeartbeats 1000000

theorem eqK_any (A B : Option Addr) (n c m d : Nat) (f g : List (List Int)) (r : Bool) (w : World) (hn : f.length = n) (hm : g.length = m) (hb : n ≤ 1048576) (hb2 : m ≤ 1048576)
    (hbs : ∀ i, i < f.length → (f.getD i []).length ≤ 1048576) (hbt : ∀ i, i < g.length → (g.getD i []).length ≤ 1048576) (hx : Rd2 w A f) (hy : Rd2 w B g) (hr : r = true ↔ f = g) :
    Calls Try.prog 42 #[.agg #[.slice A n c], .agg #[.slice B m d]] w fun e w' => e = .returned (.bool r) ∧ Below w.heap.size w w' := by
  have HN := hide hn
  have HM := hide hm
  have HBS := hide hbs
  have HBT := hide hbt
  clear hn hm hbs hbt
  have HB0 := hide (((Below.refl _ w).alloc (Nat.le_refl _) (Obj.cells #[Value.slice A n c] 48)).alloc (by simp) (Obj.cells #[Value.slice B m d] 48))
  cases r
  · have HR := hide hr
    clear hr
    go_enter Try.func42, Try.ntmps42
    go_wp2_with fail
    refine (eqq_any _ _ _ _ _ _ f g false _ HN.out HM.out (by omega) (by omega) (fun i hi => by have := HBS.out i hi; omega) (fun i hi => by have := HBT.out i hi; omega) (hx.later HB0.out) (hy.later HB0.out) (by simpa using HR.out)).mono ?_
    rintro e w1 ⟨rfl, hq1⟩
    have HB1 := hide (HB0.out.trans (hq1.below _))
    clear hq1
    go_wp2_with fail
    go_ret
    exact ⟨rfl, HB1.out⟩
  · have HR := hide hr
    clear hr
    go_enter Try.func42, Try.ntmps42
    go_wp2_with fail
    refine (eqq_any _ _ _ _ _ _ f g true _ HN.out HM.out (by omega) (by omega) (fun i hi => by have := HBS.out i hi; omega) (fun i hi => by have := HBT.out i hi; omega) (hx.later HB0.out) (hy.later HB0.out) (by simpa using HR.out)).mono ?_
    rintro e w1 ⟨rfl, hq1⟩
    have HB1 := hide (HB0.out.trans (hq1.below _))
    clear hq1
    go_wp2_with fail
    go_ret
    exact ⟨rfl, HB1.out⟩
theorem markK (ts t : TypeId) (hne : ts ≠ t) (lo hi : Nat) (A : Option Addr) (n c : Nat) (k : Int) (f : List (List Int)) (w : World) (hn : f.length = n) (hb : n ≤ 1048576) (hbs : ∀ i, i < f.length → (f.getD i []).length ≤ 1048576) (ht : tot f ≤ 2305843009213693952) (hk : 0 ≤ k) (hk2 : k ≤ 1152921504606846976) (hr : Obj2 ts t lo hi w A f) :
    Calls Try.prog 43 #[.agg #[.slice A n c], .int .i64 k] w fun e w' => e = .returned (.int .i64 (k + (tot f : Int))) ∧ Touch lo hi w w' ∧ Obj2 ts t lo hi w' A (marks2 k f) := by
  have HNE := hide hne
  have HN := hide hn
  have HBS := hide hbs
  have HT := hide ht
  have HB0 := hide ((Below.refl _ w).alloc (Nat.le_refl _) (Obj.cells #[Value.slice A n c] 48))
  have htf : tot f ≤ 1099511627776 := tot_bound f (by omega) hbs
  clear hne hn hbs ht
  obtain ⟨F, hF⟩ : ∃ F, tot f = F := ⟨_, rfl⟩
  rw [hF] at htf ⊢
  have HF := hide hF
  clear hF
  go_enter Try.func43, Try.ntmps43
  go_wp2_with fail
  refine (markT ts t HNE.out lo hi _ _ _ _ f _ HN.out hb HBS.out HT.out hk (by omega) (hr.later HB0.out)).mono ?_
  rintro e w1 ⟨rfl, ht1, ho1⟩
  have HT1 := hide ((Touch.of_below HB0.out).trans ht1)
  have HO1 := hide ho1
  clear ht1 ho1
  rw [HF.out]
  go_wp2_with fail
  go_ret
  exact ⟨rfl, HT1.out, HO1.out⟩
theorem heldK (A : Option Addr) (n c : Nat) (k : Int) (f : List (List Int)) (w : World) (hn : f.length = n) (hb : n ≤ 1048576) (hbs : ∀ i, i < f.length → (f.getD i []).length ≤ 1048576) (ht : tot f ≤ 2305843009213693952) (hk : 0 ≤ k) (hk2 : k ≤ 1152921504606846976) (hf : Rd2 w A (marks2 k f)) :
    Calls Try.prog 44 #[.agg #[.slice A n c], .int .i64 k] w fun e w' => e = .returned (.int .i64 (k + (tot f : Int))) ∧ Below w.heap.size w w' := by
  have HN := hide hn
  have HBS := hide hbs
  have HT := hide ht
  have HB0 := hide ((Below.refl _ w).alloc (Nat.le_refl _) (Obj.cells #[Value.slice A n c] 48))
  have htf : tot f ≤ 1099511627776 := tot_bound f (by omega) hbs
  clear hn hbs ht
  have HRF := hide hf
  clear hf
  obtain ⟨F, hF⟩ : ∃ F, tot f = F := ⟨_, rfl⟩
  rw [hF] at htf ⊢
  have HF := hide hF
  clear hF
  go_enter Try.func44, Try.ntmps44
  go_wp2_with fail
  refine (heldT _ _ _ _ f _ HN.out hb HBS.out HT.out hk (by omega) (HRF.out.later HB0.out)).mono ?_
  rintro e w1 ⟨rfl, hq1⟩
  have HB1 := hide (HB0.out.trans (hq1.below _))
  clear hq1
  rw [HF.out]
  have hn1 : ¬ (k + (F : Int) < 0) := by omega
  go_wp2_with fail
  go_ret
  exact ⟨rfl, HB1.out⟩
end Go.Proofs.Ytngfdkmiifpbgaa
