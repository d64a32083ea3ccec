import Derived.Test.YtkflmhmbkilmpacZArg
import Derived.Test.YtkflmhmbkilmpacBlk
import Derived.Test.YtkflmhmbkilmpacCopyT
import Derived.Test.YtkflmhmbkilmpacSzII
import Derived.Test.YtkflmhmbkilmpacEqII
import Derived.Test.YtkflmhmbkilmpacMarkII
import Derived.Test.YtkflmhmbkilmpacObjZ
namespace Go.Proofs.Ytkflmhmbkilmpac
open Go Go.RowKit
set_option maxHeartbeats 1000000

theorem szGroup (A : Option Addr) (n c : Nat) (f : List (List Int)) (L : Int) (w : World) (hn : f.length = n) (hb : n ≤ 9223372036854775807) (hbs : ∀ i, i < f.length → (f.getD i []).length ≤ 9223372036854775807) (h0 : 0 ≤ L) (h1 : L ≤ 1048576) (hr : Rd2 w A f) :
    Calls Try.prog 35 #[.agg #[.slice A n c], .int .i64 L] w fun e w' => ∃ r, Szd L f r ∧ e = .returned (.int .i64 r) ∧ Below w.heap.size w w' := by
  have HN := hide hn
  have HBS := hide hbs
  clear hn hbs
  go_enter Try.func35, Try.ntmps35
  go_wp2_with fail
  have HB0 := hide ((Below.refl _ w).alloc (Nat.le_refl _) (Obj.cells #[Value.slice A n c] 45))
  refine (szz_any _ _ _ f L _ HN.out hb HBS.out h0 h1 (hr.later HB0.out)).mono ?_
  rintro e w1 ⟨l, hsz, rfl, rfl⟩
  rcases hsz with rfl | ⟨p, q, u, y⟩
  · go_wp2_with fail
    go_ret
    exact ⟨-1, .inl rfl, rfl, HB0.out⟩
  · have U := hide u
    have Y := hide y
    clear u y
    go_wp2_with fail
    go_ret
    exact ⟨l, .inr ⟨p, q, U.out, Y.out⟩, rfl, HB0.out⟩

theorem copyGroup (A : Option Addr) (n c : Nat) (f : List (List Int)) (w : World) (hn : f.length = n) (hb : n ≤ 1048576) (hbs : ∀ i, i < f.length → (f.getD i []).length ≤ 1048576) (hr : Rd2 w A f) :
    Calls Try.prog 37 #[.agg #[.slice A n c]] w fun e w' => ∃ A' c', e = .returned (.agg #[.slice A' n c']) ∧ Below w.heap.size w w' ∧ Obj2 33 2 w.heap.size w'.heap.size w' A' f := by
  have HN := hide hn
  have HBS := hide hbs
  clear hn hbs
  go_enter Try.func37, Try.ntmps37
  go_wp2_with fail
  have HB0 := hide (((((Below.refl _ w).alloc (Nat.le_refl _) (Obj.cells #[Value.slice A n c] 45)).alloc (by simp) (Obj.cells #[Value.slice none 0 0] 48)).alloc (by simp; omega) (Obj.cells #[Value.slice none 0 0] 48)))
  have HK0 := hide (Blk.new ((w.alloc (Obj.cells #[Value.slice A n c] 45)).alloc (Obj.cells #[Value.slice none 0 0] 48)) 48 [.slice none 0 0])
  have HR0 := hide ((Blk.new (w.alloc (Obj.cells #[Value.slice A n c] 45)) 48 [.slice none 0 0]).alloc (Obj.cells #[Value.slice none 0 0] 48))
  refine (copyT _ _ _ f _ HN.out hb HBS.out (hr.later HB0.out)).mono ?_
  rintro e w1 ⟨A1, rfl, hb1, ho1⟩
  have hs1 := hb1.size
  simp at hs1
  have HB1 := hide (HB0.out.trans (hb1.mono (by simp; omega)))
  have HO1 := hide ho1
  have HK1 := hide (HK0.out.later hb1)
  have HR1 := hide (HR0.out.later hb1)
  clear hb1 ho1 HK0 HR0
  simp at HK1 HR1
  have k0 := HK1.out.cell 0 _ rfl
  have k1 := HK1.out.frozen 0
  have k3 := HR1.out.cell 0 _ rfl
  have k5 := HR1.out.frozen 0
  go_wp2_with fail
  refine bp_gen fun wf hwf => ?_
  have HRF : Hid (Blk wf (w.heap.size + 1) 48 [.slice A1 n n]) := hide (by rw [hwf]; exact (HR1.out.far (by simp) _).set 0 _)
  have HBF : Hid (Below w.heap.size w wf) := hide (by rw [hwf]; exact (HB1.out.setCell (by simp; omega) _).setCell (by simp) _)
  have HOF : Hid (Obj2 33 2 w.heap.size wf.heap.size wf A1 f) := hide (by rw [hwf]; exact (((HO1.out.set (by simp) _).set (by simp) _).mono (by simp; omega) (by simp [World.setCell])))
  have q0 := HRF.out.cell 0 _ rfl
  clear hwf k0 k1 k3 k5
  exact bodyPost_ret (v := .agg #[.slice A1 n n]) (by simp [results, Try.results37, go_sem, q0]) rfl ⟨_, _, rfl, HBF.out, HOF.out⟩

theorem eqGroup (A B : Option Addr) (n c m d : Nat) (f g : List (List Int)) (r : Bool) (w : World) (hn : f.length = n) (hm : g.length = m) (hb : n ≤ 1048576) (hb2 : m ≤ 1048576)
    (hbs : ∀ i, i < f.length → (f.getD i []).length ≤ 1048576) (hbt : ∀ i, i < g.length → (g.getD i []).length ≤ 1048576) (hx : Rd2 w A f) (hy : Rd2 w B g) (hr : r = true ↔ f = g) :
    Calls Try.prog 39 #[.agg #[.slice A n c], .agg #[.slice B m d]] w fun e w' => e = .returned (.bool r) ∧ Below w.heap.size w w' := by
  have HN := hide hn
  have HM := hide hm
  have HBS := hide hbs
  have HBT := hide hbt
  clear hn hm hbs hbt
  have HB0 := hide (((Below.refl _ w).alloc (Nat.le_refl _) (Obj.cells #[Value.slice A n c] 48)).alloc (by simp) (Obj.cells #[Value.slice B m d] 48))
  cases r
  · have HR := hide hr
    clear hr
    go_enter Try.func39, Try.ntmps39
    go_wp2_with fail
    refine (eqq_any _ _ _ _ _ _ f g false _ HN.out HM.out (by omega) (by omega) (fun i hi => by have := HBS.out i hi; omega) (fun i hi => by have := HBT.out i hi; omega) (hx.later HB0.out) (hy.later HB0.out) (by simpa using HR.out)).mono ?_
    rintro e w1 ⟨rfl, hq1⟩
    have HB1 := hide (HB0.out.trans (hq1.below _))
    clear hq1
    go_wp2_with fail
    go_ret
    exact ⟨rfl, HB1.out⟩
  · have HR := hide hr
    clear hr
    go_enter Try.func39, Try.ntmps39
    go_wp2_with fail
    refine (eqq_any _ _ _ _ _ _ f g true _ HN.out HM.out (by omega) (by omega) (fun i hi => by have := HBS.out i hi; omega) (fun i hi => by have := HBT.out i hi; omega) (hx.later HB0.out) (hy.later HB0.out) (by simpa using HR.out)).mono ?_
    rintro e w1 ⟨rfl, hq1⟩
    have HB1 := hide (HB0.out.trans (hq1.below _))
    clear hq1
    go_wp2_with fail
    go_ret
    exact ⟨rfl, HB1.out⟩
theorem markGroup (ts t : TypeId) (hne : ts ≠ t) (lo hi : Nat) (A : Option Addr) (n c : Nat) (k : Int) (f : List (List Int)) (w : World) (hn : f.length = n) (hb : n ≤ 1048576) (hbs : ∀ i, i < f.length → (f.getD i []).length ≤ 1048576) (ht : tot f ≤ 2305843009213693952) (hk : 0 ≤ k) (hk2 : k ≤ 1152921504606846976) (hr : Obj2 ts t lo hi w A f) :
    Calls Try.prog 40 #[.agg #[.slice A n c], .int .i64 k] w fun e w' => e = .returned (.int .i64 (k + (tot f : Int))) ∧ Touch lo hi w w' ∧ Obj2 ts t lo hi w' A (marks2 k f) := by
  have HNE := hide hne
  have HN := hide hn
  have HBS := hide hbs
  have HT := hide ht
  have HB0 := hide ((Below.refl _ w).alloc (Nat.le_refl _) (Obj.cells #[Value.slice A n c] 48))
  have htf : tot f ≤ 1099511627776 := tot_bound f (by omega) hbs
  clear hne hn hbs ht
  obtain ⟨F, hF⟩ : ∃ F, tot f = F := ⟨_, rfl⟩
  rw [hF] at htf ⊢
  have HF := hide hF
  clear hF
  go_enter Try.func40, Try.ntmps40
  go_wp2_with fail
  refine (markT ts t HNE.out lo hi _ _ _ _ f _ HN.out hb HBS.out HT.out hk (by omega) (hr.later HB0.out)).mono ?_
  rintro e w1 ⟨rfl, ht1, ho1⟩
  have HT1 := hide ((Touch.of_below HB0.out).trans ht1)
  have HO1 := hide ho1
  clear ht1 ho1
  rw [HF.out]
  go_wp2_with fail
  go_ret
  exact ⟨rfl, HT1.out, HO1.out⟩
end Go.Proofs.Ytkflmhmbkilmpac
