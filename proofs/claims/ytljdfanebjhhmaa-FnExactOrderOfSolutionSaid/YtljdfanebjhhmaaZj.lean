import Derived.Test.YtljdfanebjhhmaaZg
import Derived.Test.YtljdfanebjhhmaaZc
import Derived.Test.YtljdfanebjhhmaaZb
namespace Go.Proofs.Ytljdfanebjhhmaa
open Go Go.RowKit

/-- The sizes of two tables, at most K. -/
structure ZSz (K : Nat) (f : List (List Int)) (n : Nat) (s : List (List Int)) (m : Nat) : Prop where
  fl : f.length = n
  nb : n ≤ K
  nr : ∀ i, i < f.length → (f.getD i []).length ≤ K
  sl : s.length = m
  mb : m ≤ K
  mr : ∀ i, i < s.length → (s.getD i []).length ≤ K

/-- Two tables that are read in a world. -/
structure ZArg (K : Nat) (w : World) (A : Option Addr) (n : Nat) (f : List (List Int)) (B : Option Addr) (m : Nat) (s : List (List Int)) : Prop where
  sz : ZSz K f n s m
  fst : Rd2 w A f
  snd : Rd2 w B s

theorem ZArg.later {K : Nat} {w w' : World} {A : Option Addr} {n : Nat} {f : List (List Int)} {B : Option Addr} {m : Nat} {s : List (List Int)} (h : ZArg K w A n f B m s) (hb : Below w.heap.size w w') : ZArg K w' A n f B m s :=
  ⟨h.sz, h.fst.later hb, h.snd.later hb⟩

theorem ZSz.tots {f s : List (List Int)} {n m : Nat} (h : ZSz 1048576 f n s m) : tot f + tot s ≤ 2199023255552 := by
  have h1 := tot_bound f (by rw [h.fl]; exact h.nb) h.nr
  have h2 := tot_bound s (by rw [h.sl]; exact h.mb) h.mr
  omega
theorem ZSz.totf {f s : List (List Int)} {n m : Nat} (h : ZSz 1048576 f n s m) : tot f ≤ 1099511627776 := tot_bound f (by rw [h.fl]; exact h.nb) h.nr
theorem ZSz.totg {f s : List (List Int)} {n m : Nat} (h : ZSz 1048576 f n s m) : tot s ≤ 1099511627776 := tot_bound s (by rw [h.sl]; exact h.mb) h.mr
end Go.Proofs.Ytljdfanebjhhmaa
namespace Go.Proofs.Ytljdfanebjhhmaa
open Go Go.RowKit
set_option maxHeartbeats 1000000

theorem eqK_any (A B : Option Addr) (n c m d : Nat) (f g : List (List Int)) (r : Bool) (w : World) (hn : f.length = n) (hm : g.length = m) (hb : n ≤ 1048576) (hb2 : m ≤ 1048576)
    (hbs : ∀ i, i < f.length → (f.getD i []).length ≤ 1048576) (hbt : ∀ i, i < g.length → (g.getD i []).length ≤ 1048576) (hx : Rd2 w A f) (hy : Rd2 w B g) (hr : r = true ↔ f = g) :
    Calls Try.prog 14 #[.agg #[.slice A n c], .agg #[.slice B m d]] w fun e w' => e = .returned (.bool r) ∧ Below w.heap.size w w' := by
  have HN := hide hn
  have HM := hide hm
  have HBS := hide hbs
  have HBT := hide hbt
  clear hn hm hbs hbt
  have HB0 := hide (((Below.refl _ w).alloc (Nat.le_refl _) (Obj.cells #[Value.slice A n c] 26)).alloc (by simp) (Obj.cells #[Value.slice B m d] 26))
  cases r
  · have HR := hide hr
    clear hr
    go_enter Try.func14, Try.ntmps14
    go_wp2_with fail
    refine (eqq_any _ _ _ _ _ _ f g false _ HN.out HM.out (by omega) (by omega) (fun i hi => by have := HBS.out i hi; omega) (fun i hi => by have := HBT.out i hi; omega) (hx.later HB0.out) (hy.later HB0.out) (by simpa using HR.out)).mono ?_
    rintro e w1 ⟨rfl, hq1⟩
    have HB1 := hide (HB0.out.trans (hq1.below _))
    clear hq1
    go_wp2_with fail
    go_ret
    exact ⟨rfl, HB1.out⟩
  · have HR := hide hr
    clear hr
    go_enter Try.func14, Try.ntmps14
    go_wp2_with fail
    refine (eqq_any _ _ _ _ _ _ f g true _ HN.out HM.out (by omega) (by omega) (fun i hi => by have := HBS.out i hi; omega) (fun i hi => by have := HBT.out i hi; omega) (hx.later HB0.out) (hy.later HB0.out) (by simpa using HR.out)).mono ?_
    rintro e w1 ⟨rfl, hq1⟩
    have HB1 := hide (HB0.out.trans (hq1.below _))
    clear hq1
    go_wp2_with fail
    go_ret
    exact ⟨rfl, HB1.out⟩
theorem markK (ts t : TypeId) (hne : ts ≠ t) (lo hi : Nat) (A : Option Addr) (n c : Nat) (k : Int) (f : List (List Int)) (w : World) (hn : f.length = n) (hb : n ≤ 1048576) (hbs : ∀ i, i < f.length → (f.getD i []).length ≤ 1048576) (ht : tot f ≤ 2305843009213693952) (hk : 0 ≤ k) (hk2 : k ≤ 1152921504606846976) (hr : Obj2 ts t lo hi w A f) :
    Calls Try.prog 15 #[.agg #[.slice A n c], .int .i64 k] w fun e w' => e = .returned (.int .i64 (k + (tot f : Int))) ∧ Touch lo hi w w' ∧ Obj2 ts t lo hi w' A (marks2 k f) := by
  have HNE := hide hne
  have HN := hide hn
  have HBS := hide hbs
  have HT := hide ht
  have HB0 := hide ((Below.refl _ w).alloc (Nat.le_refl _) (Obj.cells #[Value.slice A n c] 26))
  have htf : tot f ≤ 1099511627776 := tot_bound f (by omega) hbs
  clear hne hn hbs ht
  obtain ⟨F, hF⟩ : ∃ F, tot f = F := ⟨_, rfl⟩
  rw [hF] at htf ⊢
  have HF := hide hF
  clear hF
  go_enter Try.func15, Try.ntmps15
  go_wp2_with fail
  refine (markT ts t HNE.out lo hi _ _ _ _ f _ HN.out hb HBS.out HT.out hk (by omega) (hr.later HB0.out)).mono ?_
  rintro e w1 ⟨rfl, ht1, ho1⟩
  have HT1 := hide ((Touch.of_below HB0.out).trans ht1)
  have HO1 := hide ho1
  clear ht1 ho1
  rw [HF.out]
  go_wp2_with fail
  go_ret
  exact ⟨rfl, HT1.out, HO1.out⟩
theorem heldK (A : Option Addr) (n c : Nat) (k : Int) (f : List (List Int)) (w : World) (hn : f.length = n) (hb : n ≤ 1048576) (hbs : ∀ i, i < f.length → (f.getD i []).length ≤ 1048576) (ht : tot f ≤ 2305843009213693952) (hk : 0 ≤ k) (hk2 : k ≤ 1152921504606846976) (hf : Rd2 w A (marks2 k f)) :
    Calls Try.prog 16 #[.agg #[.slice A n c], .int .i64 k] w fun e w' => e = .returned (.int .i64 (k + (tot f : Int))) ∧ Below w.heap.size w w' := by
  have HN := hide hn
  have HBS := hide hbs
  have HT := hide ht
  have HB0 := hide ((Below.refl _ w).alloc (Nat.le_refl _) (Obj.cells #[Value.slice A n c] 26))
  have htf : tot f ≤ 1099511627776 := tot_bound f (by omega) hbs
  clear hn hbs ht
  have HRF := hide hf
  clear hf
  obtain ⟨F, hF⟩ : ∃ F, tot f = F := ⟨_, rfl⟩
  rw [hF] at htf ⊢
  have HF := hide hF
  clear hF
  go_enter Try.func16, Try.ntmps16
  go_wp2_with fail
  refine (heldT _ _ _ _ f _ HN.out hb HBS.out HT.out hk (by omega) (HRF.out.later HB0.out)).mono ?_
  rintro e w1 ⟨rfl, hq1⟩
  have HB1 := hide (HB0.out.trans (hq1.below _))
  clear hq1
  rw [HF.out]
  have hn1 : ¬ (k + (F : Int) < 0) := by omega
  go_wp2_with fail
  go_ret
  exact ⟨rfl, HB1.out⟩
end Go.Proofs.Ytljdfanebjhhmaa
namespace Go.Proofs.Ytljdfanebjhhmaa
open Go Go.RowKit

theorem Tbl.rows {rows : List (List Int)} (h : Tbl rows) : ∀ i, i < rows.length → (rows.getD i []).length = rows.length := fun i hi => (h.2.2 i hi).1
theorem Tbl.le {rows : List (List Int)} (h : Tbl rows) : ∀ i, i < rows.length → (rows.getD i []).length ≤ 1048576 := fun i hi => by
  have h1 := h.rows i hi
  have h2 := h.2.1
  omega

theorem bool_of (p : Prop) : ∃ r : Bool, r = true ↔ p := by
  by_cases h : p
  · exact ⟨true, by simp [h]⟩
  · exact ⟨false, by simp [h]⟩

def AllPrm (rows : List (List Int)) : Prop := ∀ i, i < rows.length → Prm (rows.getD i [])

def RowsRes (rows : List (List Int)) (r : Bool) (code : Int) : Prop := (Tbl rows ∧ (r = true ↔ AllPrm rows) ∧ code = 0) ∨ (¬ Tbl rows ∧ r = false ∧ code = 1)
theorem RowsRes.ex (rows : List (List Int)) : ∃ r code, RowsRes rows r code := by
  by_cases h : Tbl rows
  · obtain ⟨r, hr⟩ := bool_of (AllPrm rows)
    exact ⟨r, _, .inl ⟨h, hr, rfl⟩⟩
  · exact ⟨_, _, .inr ⟨h, rfl, rfl⟩⟩

def LatinRes (rows : List (List Int)) (r : Bool) (code : Int) : Prop := (Tbl rows ∧ (r = true ↔ AllPrm rows ∧ AllPrm (turnL rows)) ∧ code = 0) ∨ (¬ Tbl rows ∧ r = false ∧ code = 1)
theorem LatinRes.ex (rows : List (List Int)) : ∃ r code, LatinRes rows r code := by
  by_cases h : Tbl rows
  · obtain ⟨r, hr⟩ := bool_of (AllPrm rows ∧ AllPrm (turnL rows))
    exact ⟨r, _, .inl ⟨h, hr, rfl⟩⟩
  · exact ⟨_, _, .inr ⟨h, rfl, rfl⟩⟩

def TurnRes (rows zs : List (List Int)) (code : Int) : Prop := (Tbl rows ∧ zs = turnL rows ∧ code = 0) ∨ (¬ Tbl rows ∧ zs = [] ∧ code = 1)
theorem TurnRes.ex (rows : List (List Int)) : ∃ zs code, TurnRes rows zs code ∧ zs.length ≤ 1048576 ∧ ∀ i, i < zs.length → (zs.getD i []).length ≤ 1048576 := by
  by_cases h : Tbl rows
  · refine ⟨_, _, .inl ⟨h, rfl, rfl⟩, by rw [turnL_length]; have := h.2.1; omega, fun i hi => ?_⟩
    rw [turnL_length] at hi
    unfold turnL
    rw [grid_row_length _ _ _ hi]
    have := h.2.1
    omega
  · exact ⟨_, _, .inr ⟨h, rfl, rfl⟩, by simp, fun i hi => by simp at hi⟩
end Go.Proofs.Ytljdfanebjhhmaa
