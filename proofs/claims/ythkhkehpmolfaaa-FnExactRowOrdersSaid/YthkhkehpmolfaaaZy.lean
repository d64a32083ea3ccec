import Derived.Test.YthkhkehpmolfaaaZw
import Derived.Test.YthkhkehpmolfaaaZu
namespace Go.Proofs.Ythkhkehpmolfaaa
open Go Go.RowKit
set_option maxHeartbeats 2000000

set_option maxRecDepth 100000 in
theorem isCycIW (A : Option Addr) (n c : Nat) (f : List (List Int)) (r : Bool) (w : World) (hn : f.length = n) (hb : n ≤ 1048576) (hbs : ∀ i, i < f.length → (f.getD i []).length ≤ 1048576) (hr : Rd2 w A f) (hres : CyRes f r) :
    Calls Try.prog 17 #[.agg #[.slice A n c]] w fun e w' => e = .returned (.bool r) ∧ Below w.heap.size w w' := by
  have HN := hide hn
  have HBS := hide hbs
  have HRD := hide hr
  have HB0 := hide ((Below.refl _ w).alloc (Nat.le_refl _) (Obj.cells #[Value.slice A n c] 27))
  have HK0 := hide (Blk.new w 27 [.slice A n c])
  have HRS := hide hres
  clear hn hbs hr hres
  go_enter Try.func17, Try.ntmps17
  go_wp2_with fail
  refine (isCycD _ _ _ f r _ HN.out hb HBS.out (HRD.out.later HB0.out) HRS.out).mono ?_
  rintro e w1 ⟨rfl, hb1⟩
  have HB1 := hide (HB0.out.trans (hb1.mono HB0.out.size))
  clear hb1
  go_wp2_with fail
  go_ret
  exact ⟨rfl, HB1.out⟩

set_option maxRecDepth 100000 in
theorem sqsIW (A : Option Addr) (n c : Nat) (f : List (List Int)) (zs : List Int) (code : Int) (k : Nat) (w : World) (hn : f.length = n) (hb : n ≤ 1048576) (hbs : ∀ i, i < f.length → (f.getD i []).length ≤ 1048576) (hr : Rd2 w A f) (hres : DqRes f zs code) (hk : zs.length = k) :
    Calls Try.prog 26 #[.agg #[.slice A n c]] w (RPost 2 k zs code w) := by
  have HN := hide hn
  have HBS := hide hbs
  have HRD := hide hr
  have HB0 := hide ((Below.refl _ w).alloc (Nat.le_refl _) (Obj.cells #[Value.slice A n c] 27))
  have HK0 := hide (Blk.new w 27 [.slice A n c])
  rcases hres with ⟨ht, rfl, rfl⟩ | ⟨ht, rfl, rfl⟩
  · have hk2 : k = n := by rw [← hk, kinkL_length, hn]
    subst hk2
    have HTB := hide ht
    clear hn hbs hr ht hk
    go_enter Try.func26, Try.ntmps26
    go_wp2_with fail
    refine (isTable_any _ _ _ f true _ HN.out (by omega) (fun i hi => by have := HBS.out i hi; omega) (HRD.out.later HB0.out) (by simp [HTB.out])).mono ?_
    rintro e w1 ⟨rfl, hq1⟩
    have HB1 := hide (HB0.out.trans (hq1.below _))
    have HK1 := hide (HK0.out.later (hq1.below _))
    clear hq1
    have k0 := HK1.out.cell 0 _ rfl
    go_wp2_with fail
    clear k0
    refine (squares_any _ _ _ f _ HN.out HTB.out (HRD.out.later HB1.out)).mono ?_
    rintro e w2 ⟨g, rfl, hb2, hg, hob⟩
    have HB2 := hide (HB1.out.trans (hb2.mono HB1.out.size))
    have HO2 := hide hob
    have hlo := HB1.out.size
    clear hb2 hob
    go_wp2_with fail
    go_ret2
    exact ⟨_, _, rfl, HB2.out, .inr ⟨g, rfl, by omega, HO2.out⟩⟩
  · subst hk
    have HTB := hide ht
    clear hn hbs hr ht
    go_enter Try.func26, Try.ntmps26
    go_wp2_with fail
    refine (isTable_any _ _ _ f false _ HN.out (by omega) (fun i hi => by have := HBS.out i hi; omega) (HRD.out.later HB0.out) (by simp [HTB.out])).mono ?_
    rintro e w1 ⟨rfl, hq1⟩
    have HB1 := hide (HB0.out.trans (hq1.below _))
    clear hq1
    go_wp2_with fail
    go_ret2
    exact ⟨_, _, rfl, HB1.out, .inl ⟨rfl, rfl⟩⟩

set_option maxRecDepth 100000 in
theorem cyfIW (A : Option Addr) (n c : Nat) (f : List (List Int)) (zs : List Int) (code : Int) (k : Nat) (w : World) (hn : f.length = n) (hb : n ≤ 1048576) (hbs : ∀ i, i < f.length → (f.getD i []).length ≤ 1048576) (hr : Rd2 w A f) (hres : CyFRes f zs code) (hk : zs.length = k) :
    Calls Try.prog 20 #[.agg #[.slice A n c]] w (RPost 2 k zs code w) := by
  have HN := hide hn
  have HBS := hide hbs
  have HRD := hide hr
  have HB0 := hide ((Below.refl _ w).alloc (Nat.le_refl _) (Obj.cells #[Value.slice A n c] 27))
  have HK0 := hide (Blk.new w 27 [.slice A n c])
  have hnil : ∀ (u : World) (a : Option Addr) (n c : Nat), (binOp .eql 31 (.slice a n c) (.slice none 0 0)).run Try.prog u = .ok (.bool a.isNone) u := fun u a n c => Lib.run_eql_slice_nil u 31 _ a n c 0 0 Try.underlying31
  rcases hres with ⟨T, ht, hT, hcase⟩ | ⟨ht, rfl, rfl⟩
  · have HTB := hide ht
    rw [hn] at hT hcase
    have HT := hide hT
    have HC := hide hcase
    have HKZ := hide hk
    clear hn hbs hr ht hT hcase hk
    go_enter Try.func20, Try.ntmps20
    go_wp2_with fail
    refine (isTable_any _ _ _ f true _ HN.out (by omega) (fun i hi => by have := HBS.out i hi; omega) (HRD.out.later HB0.out) (by simp [HTB.out])).mono ?_
    rintro e w1 ⟨rfl, hq1⟩
    have HB1 := hide (HB0.out.trans (hq1.below _))
    have HK1 := hide (HK0.out.later (hq1.below _))
    clear hq1
    have k0 := HK1.out.cell 0 _ rfl
    go_wp2_with fail
    clear k0
    refine (dfault_any _ _ _ f T _ HN.out HTB.out (HRD.out.later HB1.out) HT.out).mono ?_
    rintro e w3 (⟨hTe, rfl, hb3⟩ | ⟨hTl, g, rfl, hb3, hg, hob⟩)
    · obtain ⟨rfl, rfl⟩ : zs = [] ∧ code = 4 := by
        rcases HC.out with ⟨h, _, _⟩ | ⟨_, h1, h2⟩
        · omega
        · exact ⟨h1, h2⟩
      have hk0 : k = 0 := by rw [← HKZ.out]; rfl
      subst hk0
      have HB3 := hide (HB1.out.trans (hb3.mono HB1.out.size))
      clear hb3 hTe
      go_wp2_with fail
      go_ret2
      exact ⟨_, _, rfl, HB3.out, .inl ⟨rfl, rfl⟩⟩
    · obtain ⟨rfl, rfl⟩ : zs = lst3 (trip n T) ∧ code = 0 := by
        rcases HC.out with ⟨_, h1, h2⟩ | ⟨h, _, _⟩
        · exact ⟨h1, h2⟩
        · omega
      have hk3 : k = 3 := by rw [← HKZ.out]; rfl
      subst hk3
      have HB3 := hide (HB1.out.trans (hb3.mono HB1.out.size))
      have HO3 := hide hob
      have hlo := HB1.out.size
      clear hb3 hob
      go_wp2_with fail
      go_ret2
      exact ⟨_, _, rfl, HB3.out, .inr ⟨g, rfl, by omega, HO3.out⟩⟩
  · subst hk
    have HTB := hide ht
    clear hn hbs hr ht
    go_enter Try.func20, Try.ntmps20
    go_wp2_with fail
    refine (isTable_any _ _ _ f false _ HN.out (by omega) (fun i hi => by have := HBS.out i hi; omega) (HRD.out.later HB0.out) (by simp [HTB.out])).mono ?_
    rintro e w1 ⟨rfl, hq1⟩
    have HB1 := hide (HB0.out.trans (hq1.below _))
    clear hq1
    go_wp2_with fail
    go_ret2
    exact ⟨_, _, rfl, HB1.out, .inl ⟨rfl, rfl⟩⟩

set_option maxRecDepth 100000 in
theorem isCycSW (A : Option Addr) (n c : Nat) (f : List (List Int)) (r : Bool) (w : World) (hn : f.length = n) (hb : n ≤ 1048576) (hbs : ∀ i, i < f.length → (f.getD i []).length ≤ 1048576) (hr : Rd2 w A f) (hres : CyRes f r) :
    Calls Try.prog 15 #[.agg #[.slice A n c]] w fun e w' => e = .returned (.bool r) ∧ Below w.heap.size w w' := by
  have HN := hide hn
  have HBS := hide hbs
  have HRD := hide hr
  have HB0 := hide ((Below.refl _ w).alloc (Nat.le_refl _) (Obj.cells #[Value.slice A n c] 27))
  have HK0 := hide (Blk.new w 27 [.slice A n c])
  have HRS := hide hres
  clear hn hbs hr hres
  go_enter Try.func15, Try.ntmps15
  go_wp2_with fail
  refine (isCycS _ _ _ f r _ HN.out hb HBS.out (HRD.out.later HB0.out) HRS.out).mono ?_
  rintro e w1 ⟨rfl, hb1⟩
  have HB1 := hide (HB0.out.trans (hb1.mono HB0.out.size))
  clear hb1
  go_wp2_with fail
  go_ret
  exact ⟨rfl, HB1.out⟩

set_option maxRecDepth 100000 in
theorem sqsSW (A : Option Addr) (n c : Nat) (f : List (List Int)) (zs : List Int) (code : Int) (k : Nat) (w : World) (hn : f.length = n) (hb : n ≤ 1048576) (hbs : ∀ i, i < f.length → (f.getD i []).length ≤ 1048576) (hr : Rd2 w A f) (hres : DqRes f zs code) (hk : zs.length = k) :
    Calls Try.prog 25 #[.agg #[.slice A n c]] w (RPost 2 k zs code w) := by
  have HN := hide hn
  have HBS := hide hbs
  have HRD := hide hr
  have HB0 := hide ((Below.refl _ w).alloc (Nat.le_refl _) (Obj.cells #[Value.slice A n c] 27))
  have HK0 := hide (Blk.new w 27 [.slice A n c])
  rcases hres with ⟨ht, rfl, rfl⟩ | ⟨ht, rfl, rfl⟩
  · have hk2 : k = n := by rw [← hk, kinkL_length, hn]
    subst hk2
    have HTB := hide ht
    clear hn hbs hr ht hk
    go_enter Try.func25, Try.ntmps25
    go_wp2_with fail
    refine (l01Table_any _ _ _ f true _ HN.out (by omega) (fun i hi => by have := HBS.out i hi; omega) (HRD.out.later HB0.out) (by simp [HTB.out])).mono ?_
    rintro e w1 ⟨rfl, hq1⟩
    have HB1 := hide (HB0.out.trans (hq1.below _))
    have HK1 := hide (HK0.out.later (hq1.below _))
    clear hq1
    have k0 := HK1.out.cell 0 _ rfl
    go_wp2_with fail
    clear k0
    refine (squaresS_any _ _ _ f _ HN.out HTB.out (HRD.out.later HB1.out)).mono ?_
    rintro e w2 ⟨A2, c2, rfl, hb2, hob⟩
    have HB2 := hide (HB1.out.trans (hb2.mono HB1.out.size))
    have HO2 := hide hob
    have hlo := HB1.out.size
    clear hb2 hob
    go_wp2_with fail
    go_ret2
    exact ⟨_, _, rfl, HB2.out, HO2.out.mono hlo⟩
  · subst hk
    have HTB := hide ht
    clear hn hbs hr ht
    go_enter Try.func25, Try.ntmps25
    go_wp2_with fail
    refine (l01Table_any _ _ _ f false _ HN.out (by omega) (fun i hi => by have := HBS.out i hi; omega) (HRD.out.later HB0.out) (by simp [HTB.out])).mono ?_
    rintro e w1 ⟨rfl, hq1⟩
    have HB1 := hide (HB0.out.trans (hq1.below _))
    clear hq1
    go_wp2_with fail
    go_ret2
    exact ⟨_, _, rfl, HB1.out, .inl ⟨rfl, rfl⟩⟩

set_option maxRecDepth 100000 in
theorem cyfSW (A : Option Addr) (n c : Nat) (f : List (List Int)) (zs : List Int) (code : Int) (k : Nat) (w : World) (hn : f.length = n) (hb : n ≤ 1048576) (hbs : ∀ i, i < f.length → (f.getD i []).length ≤ 1048576) (hr : Rd2 w A f) (hres : CyFRes f zs code) (hk : zs.length = k) :
    Calls Try.prog 19 #[.agg #[.slice A n c]] w (RPost 2 k zs code w) := by
  have HN := hide hn
  have HBS := hide hbs
  have HRD := hide hr
  have HB0 := hide ((Below.refl _ w).alloc (Nat.le_refl _) (Obj.cells #[Value.slice A n c] 27))
  have HK0 := hide (Blk.new w 27 [.slice A n c])
  rcases hres with ⟨T, ht, hT, hcase⟩ | ⟨ht, rfl, rfl⟩
  · have HTB := hide ht
    rw [hn] at hT hcase
    have HT := hide hT
    have HC := hide hcase
    have HKZ := hide hk
    clear hn hbs hr ht hT hcase hk
    go_enter Try.func19, Try.ntmps19
    go_wp2_with fail
    refine (l01Table_any _ _ _ f true _ HN.out (by omega) (fun i hi => by have := HBS.out i hi; omega) (HRD.out.later HB0.out) (by simp [HTB.out])).mono ?_
    rintro e w1 ⟨rfl, hq1⟩
    have HB1 := hide (HB0.out.trans (hq1.below _))
    have HK1 := hide (HK0.out.later (hq1.below _))
    clear hq1
    have k0 := HK1.out.cell 0 _ rfl
    go_wp2_with fail
    clear k0
    refine (faultD_any _ _ _ f T _ HN.out HTB.out (HRD.out.later HB1.out) HT.out).mono ?_
    rintro e w3 (⟨hTe, g, rfl, hb3⟩ | ⟨hTl, g, rfl, hb3, hg, hob⟩)
    · obtain ⟨rfl, rfl⟩ : zs = [] ∧ code = 4 := by
        rcases HC.out with ⟨h, _, _⟩ | ⟨_, h1, h2⟩
        · omega
        · exact ⟨h1, h2⟩
      have hk0 : k = 0 := by rw [← HKZ.out]; rfl
      subst hk0
      have HB3 := hide (HB1.out.trans (hb3.mono HB1.out.size))
      clear hb3 hTe
      go_wp2_with fail
      go_ret2
      exact ⟨_, _, rfl, HB3.out, .inl ⟨rfl, rfl⟩⟩
    · obtain ⟨rfl, rfl⟩ : zs = lst3 (trip n T) ∧ code = 0 := by
        rcases HC.out with ⟨_, h1, h2⟩ | ⟨h, _, _⟩
        · exact ⟨h1, h2⟩
        · omega
      have hk3 : k = 3 := by rw [← HKZ.out]; rfl
      subst hk3
      have HB3 := hide (HB1.out.trans (hb3.mono HB1.out.size))
      have HO3 := hide hob
      have hlo := HB1.out.size
      clear hb3 hob
      go_wp2_with fail
      go_ret2
      exact ⟨_, _, rfl, HB3.out, .inr ⟨g, rfl, by omega, HO3.out⟩⟩
  · subst hk
    have HTB := hide ht
    clear hn hbs hr ht
    go_enter Try.func19, Try.ntmps19
    go_wp2_with fail
    refine (l01Table_any _ _ _ f false _ HN.out (by omega) (fun i hi => by have := HBS.out i hi; omega) (HRD.out.later HB0.out) (by simp [HTB.out])).mono ?_
    rintro e w1 ⟨rfl, hq1⟩
    have HB1 := hide (HB0.out.trans (hq1.below _))
    clear hq1
    go_wp2_with fail
    go_ret2
    exact ⟨_, _, rfl, HB1.out, .inl ⟨rfl, rfl⟩⟩

end Go.Proofs.Ythkhkehpmolfaaa
