import Derived.Test.YthknnpkalhachaaZar
import Derived.Test.YthknnpkalhachaaZc
import Derived.Test.YthknnpkalhachaaZaq
import Derived.Test.YthknnpkalhachaaZj
import Derived.Test.YthknnpkalhachaaZw
import Derived.Test.YthknnpkalhachaaZan
import Derived.Test.YthknnpkalhachaaZp
import Derived.Test.YthknnpkalhachaaZm
import Derived.Deep.Cut
import Derived.StillTailTactics
import Derived.Test.YthknnpkalhachaaZab
import Derived.Test.YthknnpkalhachaaZy
import Derived.Test.YthknnpkalhachaaZn
import Derived.Test.YthknnpkalhachaaZr
import Derived.Test.YthknnpkalhachaaZd
namespace Go.Proofs.Ythknnpkalhachaa
open Go Go.RowKit
set_option maxHeartbeats 2000000

set_option maxRecDepth 100000 in
theorem isTup_any (n : Nat) (A : Option Addr) (m c : Nat) (xs : List Int) (r : Bool) (w : World) (hm : xs.length = m) (hb : m ≤ 1048576) (hr : Rd w A xs) (hrr : r = true ↔ Tup n xs) :
    Calls Try.prog 118 #[.int .i64 n, .slice A m c] w fun e w' => e = .returned (.bool r) ∧ Quiet w w' := by
  have HM := hide hm
  have HR := hide hr
  have HRR := hide hrr
  clear hr hrr
  by_cases h12 : m ≤ 12
  · have hrr : r = true ↔ ∀ j, j < m → 0 ≤ xs.getD j 0 ∧ xs.getD j 0 < (n : Int) := by
      rw [HRR.out]; unfold Tup; rw [HM.out]; exact ⟨fun h => h.2, fun h => ⟨h12, h⟩⟩
    have HE := hide hrr
    clear hrr hm
    go_enter Try.func118, Try.ntmps118
    go_wp2_with fail
    refine (els_any n _ m _ xs r _ HM.out (by omega) (by first | exact HR.out | exact HR.out.later (Below.refl _ _).drew) HE.out).mono ?_
    rintro e w2 ⟨rfl, hq⟩
    have HQ : Hid (Quiet w w2) := hide hq
    clear hq
    go_wp2_with fail
    go_ret
    exact ⟨rfl, HQ.out⟩
  · have hrf : r = false := by
      cases r
      · rfl
      · exact absurd (by have h := (HRR.out.1 rfl).1; omega) h12
    subst hrf
    have d1 : decide (m ≤ 12) = false := by simp; omega
    have d2 : decide ((m : Int) ≤ 12) = false := by simp; omega
    go_enter Try.func118, Try.ntmps118
    go_wp2_with fail
    go_ret
    exact ⟨rfl, Quiet.refl _⟩

set_option maxRecDepth 100000 in
theorem guFault_any (A B C : Option Addr) (n c k d m e : Nat) (f s : List (List Int)) (xs : List Int) (code : Int) (w : World) (hz : ZArg 1048576 w A n f B k s) (hm : xs.length = m) (hb : m ≤ 1048576) (hr : Rd w C xs) (hc : GuC f s xs code) :
    Calls Try.prog 73 #[.agg #[.slice A n c, .slice B k d], .slice C m e] w fun e w' => e = .returned (.int .i64 code) ∧ Below w.heap.size w w' := by
  have HZ := hide hz
  have HM := hide hm
  have HR := hide hr
  have HB0 := hide ((Below.refl _ w).alloc (Nat.le_refl _) (Obj.cells #[Value.slice A n c, Value.slice B k d] 27))
  have HK0 := hide (Blk.new w 27 [.slice A n c, .slice B k d])
  by_cases hs : SolF f s
  · have HS := hide hs
    have HP : Hid (PMap f s) := hide hs.1
    obtain rfl := (hz.same hs.1).symm
    have h12 := (hz.small hs.1).2
    have HTF : Hid (IsRes f s true) := hide ⟨fun _ => HS.out, fun _ => rfl⟩
    obtain ⟨r1, hr1⟩ : ∃ r : Bool, r = true ↔ Tup n xs := bool_of _
    obtain ⟨r2, hr2⟩ : ∃ r : Bool, r = true ↔ NonF f s := bool_of _
    have HT := hide hr1
    have HN2 := hide hr2
    have hFL := hz.sz.fl
    have HC : Hid ((r1 = true ∧ r2 = true ∧ code = 0) ∨ (r1 = true ∧ r2 = false ∧ code = 5) ∨ (r1 = false ∧ code = 2)) := hide (by
      rcases hc with ⟨_, h1, h2, h3⟩ | ⟨_, h1, h2, h3⟩ | ⟨_, h1, h2⟩ | ⟨h, _⟩
      · rw [hFL] at h1; exact .inl ⟨hr1.2 h1, hr2.2 h2, h3⟩
      · rw [hFL] at h1; refine .inr (.inl ⟨hr1.2 h1, ?_, h3⟩); cases r2; rfl; exact absurd (hr2.1 rfl) h2
      · rw [hFL] at h1; refine .inr (.inr ⟨?_, h2⟩); cases r1; rfl; exact absurd (hr1.1 rfl) h1
      · exact absurd hs h)
    clear hz hm hr hc hs hr1 hr2 hFL
    go_enter Try.func73, Try.ntmps73
    have k0 := HK0.out.cell 0 _ rfl
    have k1 := HK0.out.cell 1 _ rfl
    go_wp2_with fail
    clear k0 k1
    refine (isI_any _ _ _ f _ _ _ s true _ (HZ.out.later HB0.out) HTF.out).mono ?_
    rintro e w1 ⟨rfl, hb1⟩
    have HB1 := hide (HB0.out.trans (hb1.mono HB0.out.size))
    have HK1 := hide (HK0.out.later hb1)
    clear hb1
    have k0 := HK1.out.cell 0 _ rfl
    have k1 := HK1.out.cell 1 _ rfl
    go_wp2_with fail
    clear k0 k1
    refine (size_any _ _ _ _ _ _ _ (by omega)).mono ?_
    rintro e w2 ⟨rfl, hb2⟩
    have HB2 := hide (HB1.out.trans (hb2.mono HB1.out.size))
    have HK2 := hide (HK1.out.later hb2)
    clear hb2
    go_wp2_with fail
    refine (isTup_any n _ m _ xs r1 _ HM.out hb (HR.out.later HB2.out) HT.out).mono ?_
    rintro e w3 ⟨rfl, hq3⟩
    have HB3 := hide (HB2.out.trans (hq3.below _))
    have HK3 := hide (HK2.out.later (hq3.below _))
    clear hq3
    cases r1 with
    | false =>
      have hcc : code = 2 := by
        rcases HC.out with ⟨h, _⟩ | ⟨h, _⟩ | ⟨_, h⟩
        · cases h
        · cases h
        · exact h
      subst hcc
      go_wp2_with fail
      go_ret
      exact ⟨rfl, HB3.out⟩
    | true =>
      have k0 := HK3.out.cell 0 _ rfl
      have k1 := HK3.out.cell 1 _ rfl
      go_wp2_with fail
      clear k0 k1
      refine (nonZ_any _ _ _ f _ _ s r2 _ (HZ.out.later HB3.out) HP.out HN2.out).mono ?_
      rintro e w4 ⟨rfl, hb4⟩
      have HB4 := hide (HB3.out.trans (hb4.mono HB3.out.size))
      clear hb4
      cases r2 with
      | false =>
        have hcc : code = 5 := by
          rcases HC.out with ⟨_, h, _⟩ | ⟨_, _, h⟩ | ⟨h, _⟩
          · cases h
          · exact h
          · cases h
        subst hcc
        go_wp2_with fail
        go_ret
        exact ⟨rfl, HB4.out⟩
      | true =>
        have hcc : code = 0 := by
          rcases HC.out with ⟨_, _, h⟩ | ⟨_, h, _⟩ | ⟨h, _⟩
          · exact h
          · cases h
          · cases h
        subst hcc
        go_wp2_with fail
        go_ret
        exact ⟨rfl, HB4.out⟩
  · have HTF : Hid (IsRes f s false) := hide ⟨fun h => (by cases h), fun h => absurd h hs⟩
    have hcc : code = 1 := by
      rcases hc with ⟨h, _⟩ | ⟨h, _⟩ | ⟨h, _⟩ | ⟨_, h⟩
      · exact absurd h hs
      · exact absurd h hs
      · exact absurd h hs
      · exact h
    subst hcc
    clear hz hm hr hc hs
    go_enter Try.func73, Try.ntmps73
    have k0 := HK0.out.cell 0 _ rfl
    have k1 := HK0.out.cell 1 _ rfl
    go_wp2_with fail
    clear k0 k1
    refine (isI_any _ _ _ f _ _ _ s false _ (HZ.out.later HB0.out) HTF.out).mono ?_
    rintro e w1 ⟨rfl, hb1⟩
    have HB1 := hide (HB0.out.trans (hb1.mono HB0.out.size))
    clear hb1
    go_wp2_with fail
    go_ret
    exact ⟨rfl, HB1.out⟩
end Go.Proofs.Ythknnpkalhachaa
namespace Go.Proofs.Ythknnpkalhachaa
open Go Go.RowKit
/-! The guitar map, element by element. -/
/-- The list while the k-th element is being found: t lambda are done. -/
def gmT (f : List (List Int)) (xs : List Int) (k t : Nat) : List Int := gmL f xs k ++ ((gmIn f xs k (elN xs k) t : Nat) : Int) :: xs.drop (k + 1)
theorem gmT_length (f : List (List Int)) (xs : List Int) (k t : Nat) (hk : k < xs.length) : (gmT f xs k t).length = xs.length := by
  simp [gmT, gmL_length]; omega
theorem gmT_at (f : List (List Int)) (xs : List Int) (k t : Nat) : (gmT f xs k t).getD k 0 = ((gmIn f xs k (elN xs k) t : Nat) : Int) := by
  have h : (gmL f xs k).length = k := gmL_length f xs k
  simp [gmT, h]
theorem gmT_set (f : List (List Int)) (xs : List Int) (k t : Nat) : (gmT f xs k t).set k ((gmIn f xs k (elN xs k) (t + 1) : Nat) : Int) = gmT f xs k (t + 1) := by
  have h : (gmL f xs k).length = k := gmL_length f xs k
  unfold gmT
  rw [List.set_append_right _ _ (by omega), h, Nat.sub_self]
  rfl
theorem gmT_start (f : List (List Int)) (xs : List Int) {n : Nat} (hx : Tup n xs) (k : Nat) (hk : k < xs.length) : gmL f xs k ++ xs.drop k = gmT f xs k 0 := by
  unfold gmT
  rw [List.drop_eq_getElem_cons hk]
  have h := (hx.el hk).1
  have e : xs.getD k 0 = xs[k] := by simp [hk]
  rw [← e, h]
  rfl
theorem gmT_end (f : List (List Int)) (xs : List Int) (k : Nat) : gmT f xs k k = gmL f xs (k + 1) ++ xs.drop (k + 1) := by
  unfold gmT
  rw [gmL_succ]
  simp
end Go.Proofs.Ythknnpkalhachaa
namespace Go.Proofs.Ythknnpkalhachaa
open Go Go.RowKit
/-- A tuple behind a move. -/
def mvL (h1 h2 : Nat → Nat → Int) (xs : List Int) (k : Nat) : List Int := (xs.set k (h1 (elN xs k) (elN xs (k + 1)))).set (k + 1) (h2 (elN xs k) (elN xs (k + 1)))
theorem mvL_length (h1 h2 : Nat → Nat → Int) (xs : List Int) (k : Nat) : (mvL h1 h2 xs k).length = xs.length := by simp [mvL]
/-- What a move answers. -/
def MvR (n : Nat) (h1 h2 : Nat → Nat → Int) (xs : List Int) (k : Int) (zs : List Int) (code : Int) : Prop :=
  ((Tup n xs ∧ 0 ≤ k ∧ k + 2 ≤ (xs.length : Int)) ∧ zs = mvL h1 h2 xs k.toNat ∧ code = 0) ∨ (¬ (Tup n xs ∧ 0 ≤ k ∧ k + 2 ≤ (xs.length : Int)) ∧ zs = [] ∧ code = 2)
theorem MvR.ex (n : Nat) (h1 h2 : Nat → Nat → Int) (xs : List Int) (k : Int) : ∃ zs code, MvR n h1 h2 xs k zs code ∧ zs.length ≤ 1048576 := by
  by_cases h : Tup n xs ∧ 0 ≤ k ∧ k + 2 ≤ (xs.length : Int)
  · exact ⟨_, _, .inl ⟨h, rfl, rfl⟩, by rw [mvL_length]; have := h.1.1; omega⟩
  · exact ⟨_, _, .inr ⟨h, rfl, rfl⟩, by simp⟩
def GdR (good : Prop) (R : List Int → Int → Prop) (zs : List Int) (code : Int) : Prop := (good ∧ R zs code) ∨ (¬ good ∧ zs = [] ∧ code = 1)
theorem GdR.ex {good : Prop} {R : List Int → Int → Prop} (h : ∃ zs code, R zs code ∧ zs.length ≤ 1048576) : ∃ zs code, GdR good R zs code ∧ zs.length ≤ 1048576 := by
  by_cases hg : good
  · obtain ⟨zs, code, h1, h2⟩ := h
    exact ⟨zs, code, .inl ⟨hg, h1⟩, h2⟩
  · exact ⟨_, _, .inr ⟨hg, rfl, rfl⟩, by simp⟩
def leH (f : List (List Int)) : Nat → Nat → Int := fun x y => ((ap f x y : Nat) : Int)
def caH1 : Nat → Nat → Int := fun _ y => (y : Int)
def caH2 (f : List (List Int)) : Nat → Nat → Int := fun x y => ((ap f y x : Nat) : Int)
def TmRes (f s : List (List Int)) (xs : List Int) (k : Int) : List Int → Int → Prop := GdR (SolF f s) (MvR f.length (leH f) (leH s) xs k)
theorem TmRes.ex (f s : List (List Int)) (xs : List Int) (k : Int) : ∃ zs code, TmRes f s xs k zs code ∧ zs.length ≤ 1048576 := GdR.ex (MvR.ex _ _ _ _ _)
def RmRes (f : List (List Int)) (xs : List Int) (k : Int) : List Int → Int → Prop := GdR (Rck f) (MvR f.length caH1 (caH2 f) xs k)
theorem RmRes.ex (f : List (List Int)) (xs : List Int) (k : Int) : ∃ zs code, RmRes f xs k zs code ∧ zs.length ≤ 1048576 := GdR.ex (MvR.ex _ _ _ _ _)
end Go.Proofs.Ythknnpkalhachaa
namespace Go.Proofs.Ythknnpkalhachaa
open Go Go.RowKit
set_option maxHeartbeats 2000000

set_option maxRecDepth 100000 in
theorem tupS_any (n : Nat) (A : Option Addr) (m c : Nat) (xs : List Int) (r : Bool) (w : World) (hnb : n ≤ 1048576) (hm : xs.length = m) (hb : m ≤ 1048576) (hr : Rd w A xs) (hrr : r = true ↔ Tup n xs) :
    Calls Try.prog 116 #[.int .i64 n, .slice A m c] w fun e w' => e = .returned (.bool r) ∧ Below w.heap.size w w' := by
  have HM := hide hm
  have HR := hide hr
  have HRR := hide hrr
  clear hr hrr
  by_cases h12 : m ≤ 12
  · have hrr : r = true ↔ Els n xs := by
      rw [HRR.out]; unfold Tup Els; rw [HM.out]; exact ⟨fun h => h.2, fun h => ⟨h12, h⟩⟩
    have HE := hide hrr
    clear hrr hm
    go_enter Try.func116, Try.ntmps116
    go_wp2_with fail
    refine (l04Elements_any n _ m _ xs r _ hnb HM.out (by omega) (by first | exact HR.out | exact HR.out.later (Below.refl _ _).drew) HE.out).mono ?_
    rintro e w2 ⟨rfl, hq⟩
    have HQ := hide hq
    clear hq
    go_wp2_with fail
    go_ret
    exact ⟨rfl, by first | exact HQ.out | exact (Below.refl _ _).drew.trans HQ.out⟩
  · have hrf : r = false := by
      cases r
      · rfl
      · exact absurd (by have h := (HRR.out.1 rfl).1; omega) h12
    subst hrf
    have d1 : decide (m ≤ 12) = false := by simp; omega
    have d2 : decide ((m : Int) ≤ 12) = false := by simp; omega
    go_enter Try.func116, Try.ntmps116
    go_wp2_with fail
    go_ret
    exact ⟨rfl, Below.refl _ _⟩

set_option maxRecDepth 100000 in
theorem guCodeS_any (A B C : Option Addr) (n c k d m e : Nat) (f s : List (List Int)) (xs : List Int) (code : Int) (w : World) (hz : ZArg 1048576 w A n f B k s) (hm : xs.length = m) (hb : m ≤ 1048576) (hr : Rd w C xs) (hc : GuC f s xs code) :
    Calls Try.prog 72 #[.agg #[.slice A n c, .slice B k d], .slice C m e] w fun e w' => e = .returned (.int .i64 code) ∧ Below w.heap.size w w' := by
  have HZ := hide hz
  have HM := hide hm
  have HR := hide hr
  have HB0 := hide ((Below.refl _ w).alloc (Nat.le_refl _) (Obj.cells #[Value.slice A n c, Value.slice B k d] 27))
  have HK0 := hide (Blk.new w 27 [.slice A n c, .slice B k d])
  by_cases hs : SolF f s
  · have HS := hide hs
    have HP : Hid (PMap f s) := hide hs.1
    obtain rfl := (hz.same hs.1).symm
    have h12 := (hz.small hs.1).2
    have HTF : Hid (IsRes f s true) := hide ⟨fun _ => HS.out, fun _ => rfl⟩
    obtain ⟨r1, hr1⟩ : ∃ r : Bool, r = true ↔ Tup n xs := bool_of _
    obtain ⟨r2, hr2⟩ : ∃ r : Bool, r = true ↔ NonF f s := bool_of _
    have HT := hide hr1
    have HN2 := hide hr2
    have hFL := hz.sz.fl
    have HC : Hid ((r1 = true ∧ r2 = true ∧ code = 0) ∨ (r1 = true ∧ r2 = false ∧ code = 5) ∨ (r1 = false ∧ code = 2)) := hide (by
      rcases hc with ⟨_, h1, h2, h3⟩ | ⟨_, h1, h2, h3⟩ | ⟨_, h1, h2⟩ | ⟨h, _⟩
      · rw [hFL] at h1; exact .inl ⟨hr1.2 h1, hr2.2 h2, h3⟩
      · rw [hFL] at h1; refine .inr (.inl ⟨hr1.2 h1, ?_, h3⟩); cases r2; rfl; exact absurd (hr2.1 rfl) h2
      · rw [hFL] at h1; refine .inr (.inr ⟨?_, h2⟩); cases r1; rfl; exact absurd (hr1.1 rfl) h1
      · exact absurd hs h)
    clear hz hm hr hc hs hr1 hr2 hFL
    go_enter Try.func72, Try.ntmps72
    have k0 := HK0.out.cell 0 _ rfl
    have k1 := HK0.out.cell 1 _ rfl
    go_wp2_with fail
    clear k0 k1
    refine (isS_any _ _ _ f _ _ _ s true _ (HZ.out.later HB0.out) HTF.out).mono ?_
    rintro e w1 ⟨rfl, hb1⟩
    have HB1 := hide (HB0.out.trans (hb1.mono HB0.out.size))
    have HK1 := hide (HK0.out.later hb1)
    clear hb1
    have k0 := HK1.out.cell 0 _ rfl
    have k1 := HK1.out.cell 1 _ rfl
    go_wp2_with fail
    clear k0 k1
    refine (tupS_any n _ m _ xs r1 _ (by omega) HM.out hb (HR.out.later HB1.out) HT.out).mono ?_
    rintro e w3 ⟨rfl, hq3⟩
    have HB3 := hide (HB1.out.trans (hq3.mono HB1.out.size))
    have HK3 := hide (HK1.out.later hq3)
    clear hq3
    cases r1 with
    | false =>
      have hcc : code = 2 := by
        rcases HC.out with ⟨h, _⟩ | ⟨h, _⟩ | ⟨_, h⟩
        · cases h
        · cases h
        · exact h
      subst hcc
      go_wp2_with fail
      go_ret
      exact ⟨rfl, HB3.out⟩
    | true =>
      have k0 := HK3.out.cell 0 _ rfl
      have k1 := HK3.out.cell 1 _ rfl
      go_wp2_with fail
      clear k0 k1
      refine (plainS_any _ _ _ f _ _ _ s r2 _ (HZ.out.later HB3.out) HP.out HN2.out).mono ?_
      rintro e w4 ⟨rfl, hb4⟩
      have HB4 := hide (HB3.out.trans (hb4.mono HB3.out.size))
      clear hb4
      cases r2 with
      | false =>
        have hcc : code = 5 := by
          rcases HC.out with ⟨_, h, _⟩ | ⟨_, _, h⟩ | ⟨h, _⟩
          · cases h
          · exact h
          · cases h
        subst hcc
        go_wp2_with fail
        go_ret
        exact ⟨rfl, HB4.out⟩
      | true =>
        have hcc : code = 0 := by
          rcases HC.out with ⟨_, _, h⟩ | ⟨_, h, _⟩ | ⟨h, _⟩
          · exact h
          · cases h
          · cases h
        subst hcc
        go_wp2_with fail
        go_ret
        exact ⟨rfl, HB4.out⟩
  · have HTF : Hid (IsRes f s false) := hide ⟨fun h => (by cases h), fun h => absurd h hs⟩
    have hcc : code = 1 := by
      rcases hc with ⟨h, _⟩ | ⟨h, _⟩ | ⟨h, _⟩ | ⟨_, h⟩
      · exact absurd h hs
      · exact absurd h hs
      · exact absurd h hs
      · exact h
    subst hcc
    clear hz hm hr hc hs
    go_enter Try.func72, Try.ntmps72
    have k0 := HK0.out.cell 0 _ rfl
    have k1 := HK0.out.cell 1 _ rfl
    go_wp2_with fail
    clear k0 k1
    refine (isS_any _ _ _ f _ _ _ s false _ (HZ.out.later HB0.out) HTF.out).mono ?_
    rintro e w1 ⟨rfl, hb1⟩
    have HB1 := hide (HB0.out.trans (hb1.mono HB0.out.size))
    clear hb1
    go_wp2_with fail
    go_ret
    exact ⟨rfl, HB1.out⟩
end Go.Proofs.Ythknnpkalhachaa
