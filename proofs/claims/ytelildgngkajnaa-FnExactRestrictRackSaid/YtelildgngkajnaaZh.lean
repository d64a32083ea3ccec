import Derived.Test.YtelildgngkajnaaZf
import Derived.Test.YtelildgngkajnaaZc
import Derived.Test.YtelildgngkajnaaZb
namespace Go.Proofs.Ytelildgngkajnaa
open Go Go.RowKit

/-- The sizes of two tables, at most K. -/
structure ZSz (K : Nat) (f : List (List Int)) (n : Nat) (s : List (List Int)) (m : Nat) : Prop where
  fl : f.length = n
  nb : n ≤ K
  nr : ∀ i, i < f.length → (f.getD i []).length ≤ K
  sl : s.length = m
  mb : m ≤ K
  mr : ∀ i, i < s.length → (s.getD i []).length ≤ K

/-- Two tables that are read in a world. -/
structure ZArg (K : Nat) (w : World) (A : Option Addr) (n : Nat) (f : List (List Int)) (B : Option Addr) (m : Nat) (s : List (List Int)) : Prop where
  sz : ZSz K f n s m
  fst : Rd2 w A f
  snd : Rd2 w B s

theorem ZArg.later {K : Nat} {w w' : World} {A : Option Addr} {n : Nat} {f : List (List Int)} {B : Option Addr} {m : Nat} {s : List (List Int)} (h : ZArg K w A n f B m s) (hb : Below w.heap.size w w') : ZArg K w' A n f B m s :=
  ⟨h.sz, h.fst.later hb, h.snd.later hb⟩

theorem ZSz.tots {f s : List (List Int)} {n m : Nat} (h : ZSz 1048576 f n s m) : tot f + tot s ≤ 2199023255552 := by
  have h1 := tot_bound f (by rw [h.fl]; exact h.nb) h.nr
  have h2 := tot_bound s (by rw [h.sl]; exact h.mb) h.mr
  omega
theorem ZSz.totf {f s : List (List Int)} {n m : Nat} (h : ZSz 1048576 f n s m) : tot f ≤ 1099511627776 := tot_bound f (by rw [h.fl]; exact h.nb) h.nr
theorem ZSz.totg {f s : List (List Int)} {n m : Nat} (h : ZSz 1048576 f n s m) : tot s ≤ 1099511627776 := tot_bound s (by rw [h.sl]; exact h.mb) h.mr
end Go.Proofs.Ytelildgngkajnaa
namespace Go.Proofs.Ytelildgngkajnaa
open Go Go.RowKit
set_option maxHeartbeats 1000000

theorem eqK_any (A B : Option Addr) (n c m d : Nat) (f g : List (List Int)) (r : Bool) (w : World) (hn : f.length = n) (hm : g.length = m) (hb : n ≤ 1048576) (hb2 : m ≤ 1048576)
    (hbs : ∀ i, i < f.length → (f.getD i []).length ≤ 1048576) (hbt : ∀ i, i < g.length → (g.getD i []).length ≤ 1048576) (hx : Rd2 w A f) (hy : Rd2 w B g) (hr : r = true ↔ f = g) :
    Calls Try.prog 45 #[.agg #[.slice A n c], .agg #[.slice B m d]] w fun e w' => e = .returned (.bool r) ∧ Below w.heap.size w w' := by
  have HN := hide hn
  have HM := hide hm
  have HBS := hide hbs
  have HBT := hide hbt
  clear hn hm hbs hbt
  have HB0 := hide (((Below.refl _ w).alloc (Nat.le_refl _) (Obj.cells #[Value.slice A n c] 53)).alloc (by simp) (Obj.cells #[Value.slice B m d] 53))
  cases r
  · have HR := hide hr
    clear hr
    go_enter Try.func45, Try.ntmps45
    go_wp2_with fail
    refine (eqq_any _ _ _ _ _ _ f g false _ HN.out HM.out (by omega) (by omega) (fun i hi => by have := HBS.out i hi; omega) (fun i hi => by have := HBT.out i hi; omega) (hx.later HB0.out) (hy.later HB0.out) (by simpa using HR.out)).mono ?_
    rintro e w1 ⟨rfl, hq1⟩
    have HB1 := hide (HB0.out.trans (hq1.below _))
    clear hq1
    go_wp2_with fail
    go_ret
    exact ⟨rfl, HB1.out⟩
  · have HR := hide hr
    clear hr
    go_enter Try.func45, Try.ntmps45
    go_wp2_with fail
    refine (eqq_any _ _ _ _ _ _ f g true _ HN.out HM.out (by omega) (by omega) (fun i hi => by have := HBS.out i hi; omega) (fun i hi => by have := HBT.out i hi; omega) (hx.later HB0.out) (hy.later HB0.out) (by simpa using HR.out)).mono ?_
    rintro e w1 ⟨rfl, hq1⟩
    have HB1 := hide (HB0.out.trans (hq1.below _))
    clear hq1
    go_wp2_with fail
    go_ret
    exact ⟨rfl, HB1.out⟩
theorem markK (ts t : TypeId) (hne : ts ≠ t) (lo hi : Nat) (A : Option Addr) (n c : Nat) (k : Int) (f : List (List Int)) (w : World) (hn : f.length = n) (hb : n ≤ 1048576) (hbs : ∀ i, i < f.length → (f.getD i []).length ≤ 1048576) (ht : tot f ≤ 2305843009213693952) (hk : 0 ≤ k) (hk2 : k ≤ 1152921504606846976) (hr : Obj2 ts t lo hi w A f) :
    Calls Try.prog 46 #[.agg #[.slice A n c], .int .i64 k] w fun e w' => e = .returned (.int .i64 (k + (tot f : Int))) ∧ Touch lo hi w w' ∧ Obj2 ts t lo hi w' A (marks2 k f) := by
  have HNE := hide hne
  have HN := hide hn
  have HBS := hide hbs
  have HT := hide ht
  have HB0 := hide ((Below.refl _ w).alloc (Nat.le_refl _) (Obj.cells #[Value.slice A n c] 53))
  have htf : tot f ≤ 1099511627776 := tot_bound f (by omega) hbs
  clear hne hn hbs ht
  obtain ⟨F, hF⟩ : ∃ F, tot f = F := ⟨_, rfl⟩
  rw [hF] at htf ⊢
  have HF := hide hF
  clear hF
  go_enter Try.func46, Try.ntmps46
  go_wp2_with fail
  refine (markT ts t HNE.out lo hi _ _ _ _ f _ HN.out hb HBS.out HT.out hk (by omega) (hr.later HB0.out)).mono ?_
  rintro e w1 ⟨rfl, ht1, ho1⟩
  have HT1 := hide ((Touch.of_below HB0.out).trans ht1)
  have HO1 := hide ho1
  clear ht1 ho1
  rw [HF.out]
  go_wp2_with fail
  go_ret
  exact ⟨rfl, HT1.out, HO1.out⟩
theorem heldK (A : Option Addr) (n c : Nat) (k : Int) (f : List (List Int)) (w : World) (hn : f.length = n) (hb : n ≤ 1048576) (hbs : ∀ i, i < f.length → (f.getD i []).length ≤ 1048576) (ht : tot f ≤ 2305843009213693952) (hk : 0 ≤ k) (hk2 : k ≤ 1152921504606846976) (hf : Rd2 w A (marks2 k f)) :
    Calls Try.prog 47 #[.agg #[.slice A n c], .int .i64 k] w fun e w' => e = .returned (.int .i64 (k + (tot f : Int))) ∧ Below w.heap.size w w' := by
  have HN := hide hn
  have HBS := hide hbs
  have HT := hide ht
  have HB0 := hide ((Below.refl _ w).alloc (Nat.le_refl _) (Obj.cells #[Value.slice A n c] 53))
  have htf : tot f ≤ 1099511627776 := tot_bound f (by omega) hbs
  clear hn hbs ht
  have HRF := hide hf
  clear hf
  obtain ⟨F, hF⟩ : ∃ F, tot f = F := ⟨_, rfl⟩
  rw [hF] at htf ⊢
  have HF := hide hF
  clear hF
  go_enter Try.func47, Try.ntmps47
  go_wp2_with fail
  refine (heldT _ _ _ _ f _ HN.out hb HBS.out HT.out hk (by omega) (HRF.out.later HB0.out)).mono ?_
  rintro e w1 ⟨rfl, hq1⟩
  have HB1 := hide (HB0.out.trans (hq1.below _))
  clear hq1
  rw [HF.out]
  have hn1 : ¬ (k + (F : Int) < 0) := by omega
  go_wp2_with fail
  go_ret
  exact ⟨rfl, HB1.out⟩
end Go.Proofs.Ytelildgngkajnaa
namespace Go.Proofs.Ytelildgngkajnaa
open Go Go.RowKit

theorem Tbl.rows {rows : List (List Int)} (h : Tbl rows) : ∀ i, i < rows.length → (rows.getD i []).length = rows.length := fun i hi => (h.2.2 i hi).1
theorem Tbl.le {rows : List (List Int)} (h : Tbl rows) : ∀ i, i < rows.length → (rows.getD i []).length ≤ 1048576 := fun i hi => by
  have h1 := h.rows i hi
  have h2 := h.2.1
  omega

theorem bool_of (p : Prop) : ∃ r : Bool, r = true ↔ p := by
  by_cases h : p
  · exact ⟨true, by simp [h]⟩
  · exact ⟨false, by simp [h]⟩

def AllPrm (rows : List (List Int)) : Prop := ∀ i, i < rows.length → Prm (rows.getD i [])

def RowsRes (rows : List (List Int)) (r : Bool) (code : Int) : Prop := (Tbl rows ∧ (r = true ↔ AllPrm rows) ∧ code = 0) ∨ (¬ Tbl rows ∧ r = false ∧ code = 1)
theorem RowsRes.ex (rows : List (List Int)) : ∃ r code, RowsRes rows r code := by
  by_cases h : Tbl rows
  · obtain ⟨r, hr⟩ := bool_of (AllPrm rows)
    exact ⟨r, _, .inl ⟨h, hr, rfl⟩⟩
  · exact ⟨_, _, .inr ⟨h, rfl, rfl⟩⟩

def LatinRes (rows : List (List Int)) (r : Bool) (code : Int) : Prop := (Tbl rows ∧ (r = true ↔ AllPrm rows ∧ AllPrm (turnL rows)) ∧ code = 0) ∨ (¬ Tbl rows ∧ r = false ∧ code = 1)
theorem LatinRes.ex (rows : List (List Int)) : ∃ r code, LatinRes rows r code := by
  by_cases h : Tbl rows
  · obtain ⟨r, hr⟩ := bool_of (AllPrm rows ∧ AllPrm (turnL rows))
    exact ⟨r, _, .inl ⟨h, hr, rfl⟩⟩
  · exact ⟨_, _, .inr ⟨h, rfl, rfl⟩⟩

def TurnRes (rows zs : List (List Int)) (code : Int) : Prop := (Tbl rows ∧ zs = turnL rows ∧ code = 0) ∨ (¬ Tbl rows ∧ zs = [] ∧ code = 1)
theorem TurnRes.ex (rows : List (List Int)) : ∃ zs code, TurnRes rows zs code ∧ zs.length ≤ 1048576 ∧ ∀ i, i < zs.length → (zs.getD i []).length ≤ 1048576 := by
  by_cases h : Tbl rows
  · refine ⟨_, _, .inl ⟨h, rfl, rfl⟩, by rw [turnL_length]; have := h.2.1; omega, fun i hi => ?_⟩
    rw [turnL_length] at hi
    unfold turnL
    rw [grid_row_length _ _ _ hi]
    have := h.2.1
    omega
  · exact ⟨_, _, .inr ⟨h, rfl, rfl⟩, by simp, fun i hi => by simp at hi⟩
end Go.Proofs.Ytelildgngkajnaa
namespace Go.Proofs.Ytelildgngkajnaa
open Go Go.RowKit

/-- The value v is a list of rows that the call has built by append: its cells are vals, each a slice over a block of its own. -/
structure LstV (ts t : TypeId) (B : Nat) (w : World) (v : Value) (rows : List (List Int)) (vals : List Value) : Prop where
  own : w.ownsRow B ts 1 v rows.length vals
  row : ∀ i, i < rows.length → ∃ A c, vals[i]? = some (.slice A (rows.getD i []).length c) ∧ Obj1 t B w.heap.size w A (rows.getD i [])
  ne : ∀ (i j : Nat) (u u' : Value) (g : Nat), i < j → vals[i]? = some u → vals[j]? = some u' → u.ownBlock = some g → u'.ownBlock ≠ some g

section
variable {ts t : TypeId} {B : Nat} {w w' : World} {v : Value} {rows : List (List Int)} {vals : List Value}

theorem ownsRow_len {base n : Nat} {e : TypeId} {xs : List Value} (h : w.ownsRow base e 1 v n xs) : xs.length = n := by
  have := h.1
  omega

theorem LstV.start (w : World) (ts t : TypeId) : LstV ts t w.heap.size (w.alloc (.cells #[] ts)) (.slice (some ⟨w.heap.size, 0, none⟩) 0 0) [] [] :=
  ⟨⟨by simp, .inr ⟨w.heap.size, 0, #[], rfl, Nat.le_refl _, heap_alloc_new _ _, Nat.le_refl _, by unfold maxLen; omega, by simp, by simp⟩⟩, fun i hi => by simp at hi, fun i j u u' g _ hu => by simp at hu⟩

theorem LstV.nil (w : World) (ts t : TypeId) (B : Nat) : LstV ts t B w (.slice none 0 0) [] [] :=
  ⟨World.ownsRow_nil _ _ _ _, fun i hi => by simp at hi, fun i j u u' g _ hu => by simp at hu⟩

theorem ownsRow_below {base n : Nat} {e : TypeId} {xs : List Value} (h : w.ownsRow base e 1 v n xs) (hb : Below w.heap.size w w') : w'.ownsRow base e 1 v n xs := by
  obtain ⟨h1, h2⟩ := h
  refine ⟨h1, ?_⟩
  rcases h2 with h2 | ⟨g, cap, cur, hv, hg, hh, r⟩
  · exact .inl h2
  · exact .inr ⟨g, cap, cur, hv, hg, (hb.block g (Array.getElem?_eq_some_iff.1 hh).1).trans hh, r⟩

theorem LstV.later (h : LstV ts t B w v rows vals) (hb : Below w.heap.size w w') : LstV ts t B w' v rows vals :=
  ⟨ownsRow_below h.own hb, fun i hi => by
    obtain ⟨A, c, h1, h2⟩ := h.row i hi
    exact ⟨A, c, h1, (h2.later hb).mono (Nat.le_refl _) hb.size⟩, h.ne⟩

/-- The next row, in a block that was not there before, is appended. -/
theorem LstV.push {w1 : World} {v' : Value} {A : Option Addr} {c : Nat} {r : List Int} {tmp : Obj} (hne : ts ≠ t) (hB : B ≤ w.heap.size) (h : LstV ts t B w v rows vals) (hb : Below w.heap.size w w') (hA : Obj1 t w.heap.size w'.heap.size w' A r)
    (hown : w1.ownsRow B ts 1 v' (rows.length + 1) (vals ++ [.slice A r.length c])) (hg : (w'.alloc tmp).grownBy w1 v.ownBlock) : LstV ts t B w1 v' (rows ++ [r]) (vals ++ [.slice A r.length c]) := by
  have hl := ownsRow_len h.own
  have hal : Below w'.heap.size w' (w'.alloc tmp) := (Below.refl _ _).alloc (Nat.le_refl _) _
  have hsz1 : w'.heap.size ≤ w1.heap.size := Nat.le_trans hal.size hg.size
  -- a row's block is not the list's own
  have far : ∀ (A : Option Addr) (xs : List Int), Obj1 t B w'.heap.size w' A xs → Obj1 t B w1.heap.size w1 A xs := by
    intro A xs ho
    have ho1 := (ho.later hal)
    rcases ho1 with e | ⟨g, e1, e2, e3, e4⟩
    · exact .inl e
    · refine .inr ⟨g, e1, e2, by omega, e4.of_block (hg.block g e4.lt (fun e => ?_))⟩
      rcases h.own.2 with ⟨hv, _⟩ | ⟨g', cap, cur, hv, _, hh, _⟩
      · rw [hv] at e; cases e
      · rw [hv] at e
        have e5 : g = g' := by simpa [Value.ownBlock] using e
        subst e5
        have hlt := (Array.getElem?_eq_some_iff.1 hh).1
        have h6 : (w'.alloc tmp).heap[g]? = some (.cells cur ts (0, 0)) := (hal.block g (Nat.lt_of_lt_of_le hlt hb.size)).trans ((hb.block g hlt).trans hh)
        obtain ⟨cur', h7, _⟩ := e4
        rw [h6] at h7
        injection h7 with h7
        injection h7 with _ h7
        exact hne h7
  refine ⟨by simpa using hown, fun i hi => ?_, fun i j u u' g hij hu hu' hug => ?_⟩
  · by_cases e : i < rows.length
    · obtain ⟨A', c', h1, h2⟩ := h.row i e
      have e1 : (rows ++ [r]).getD i [] = rows.getD i [] := by simp [List.getElem?_append_left e]
      rw [e1]
      exact ⟨A', c', by rw [List.getElem?_append_left (by omega)]; exact h1, far _ _ ((h2.later hb).mono (Nat.le_refl _) hb.size)⟩
    · have e2 : i = rows.length := by simp at hi; omega
      subst e2
      have e1 : (rows ++ [r]).getD rows.length [] = r := by simp
      rw [e1]
      exact ⟨A, c, by rw [List.getElem?_append_right (by omega), hl]; simp, far _ _ (hA.mono hB (Nat.le_refl _))⟩
  · by_cases e : j < vals.length
    · rw [List.getElem?_append_left (by omega)] at hu
      rw [List.getElem?_append_left e] at hu'
      exact h.ne i j u u' g hij hu hu' hug
    · have hj : j = vals.length := by
        have := (List.getElem?_eq_some_iff.1 hu').1
        simp at this
        omega
      subst hj
      rw [List.getElem?_append_left (by omega)] at hu
      rw [List.getElem?_append_right (by omega)] at hu'
      simp at hu'
      subst hu'
      obtain ⟨A', c', h1, h2⟩ := h.row i (by omega)
      rw [h1] at hu
      cases hu
      intro e5
      cases hA' : A' with
      | none => rw [hA'] at hug; cases hug
      | some a' =>
        rw [hA'] at hug
        cases hA'' : A with
        | none => rw [hA''] at e5; cases e5
        | some a =>
          rw [hA''] at e5
          have b1 := (h2.bounds a' hA').2
          have b2 := (hA.bounds a hA'').1
          have e6 : a'.block = g := by simpa [Value.ownBlock] using hug
          have e7 : a.block = g := by simpa [Value.ownBlock] using e5
          omega

/-- Blocks that hold cells of type t keep what they hold. -/
def KeepT (t : TypeId) (w w' : World) : Prop := ∀ (k : Nat) (cur : Array Value), w.heap[k]? = some (.cells cur t (0, 0)) → w'.heap[k]? = some (.cells cur t (0, 0))
theorem KeepT.refl (t : TypeId) (w : World) : KeepT t w w := fun _ _ h => h
theorem KeepT.trans {a b c : World} (h : KeepT t a b) (k : KeepT t b c) : KeepT t a c := fun j cur e => k j cur (h j cur e)
theorem KeepT.of_below (h : Below w.heap.size w w') : KeepT t w w' := fun k _ e => (h.block k (Array.getElem?_eq_some_iff.1 e).1).trans e
theorem KeepT.obj {lo hi : Nat} {A : Option Addr} {xs : List Int} (h : KeepT t w w') (o : Obj1 t lo hi w A xs) : Obj1 t lo hi w' A xs := by
  rcases o with e | ⟨g, e1, e2, e3, cur, e4, e5⟩
  · exact .inl e
  · exact .inr ⟨g, e1, e2, e3, cur, h g cur e4, e5⟩
theorem KeepT.of_grown {n : Nat} {xs : List Value} (hne : ts ≠ t) (ho : w.ownsRow B ts 1 v n xs) (hg : w.grownBy w' v.ownBlock) : KeepT t w w' := by
  intro k cur e
  refine (hg.block k (Array.getElem?_eq_some_iff.1 e).1 (fun e2 => ?_)).trans e
  rcases ho.2 with ⟨hv, _⟩ | ⟨g', cap, cur', hv, _, hh, _⟩
  · rw [hv] at e2; cases e2
  · rw [hv] at e2
    have e5 : k = g' := by simpa [Value.ownBlock] using e2
    subst e5
    rw [hh] at e
    injection e with e
    injection e with _ e
    exact hne e

/-- A row that lies in none of the list's blocks is appended. -/
theorem LstV.push2 {w1 : World} {v' : Value} {A : Option Addr} {c : Nat} {r : List Int} {tmp : Obj} (hne : ts ≠ t) (h : LstV ts t B w v rows vals) (hA : Obj1 t B w.heap.size w A r)
    (hdis : ∀ (i : Nat) (u : Value) (g : Nat), vals[i]? = some u → u.ownBlock = some g → ∀ a, A = some a → a.block ≠ g)
    (hown : w1.ownsRow B ts 1 v' (rows.length + 1) (vals ++ [.slice A r.length c])) (hg : (w.alloc tmp).grownBy w1 v.ownBlock) : LstV ts t B w1 v' (rows ++ [r]) (vals ++ [.slice A r.length c]) := by
  have hl := ownsRow_len h.own
  have hal : Below w.heap.size w (w.alloc tmp) := (Below.refl _ _).alloc (Nat.le_refl _) _
  have hsz1 : w.heap.size ≤ w1.heap.size := Nat.le_trans hal.size hg.size
  have hk : KeepT t w w1 := (KeepT.of_below hal).trans (KeepT.of_grown hne (ownsRow_below h.own hal) hg)
  refine ⟨by simpa using hown, fun i hi => ?_, fun i j u u' g hij hu hu' hug => ?_⟩
  · by_cases e : i < rows.length
    · obtain ⟨A', c', h1, h2⟩ := h.row i e
      have e1 : (rows ++ [r]).getD i [] = rows.getD i [] := by simp [List.getElem?_append_left e]
      rw [e1]
      exact ⟨A', c', by rw [List.getElem?_append_left (by omega)]; exact h1, (hk.obj h2).mono (Nat.le_refl _) hsz1⟩
    · have e2 : i = rows.length := by simp at hi; omega
      subst e2
      have e1 : (rows ++ [r]).getD rows.length [] = r := by simp
      rw [e1]
      exact ⟨A, c, by rw [List.getElem?_append_right (by omega), hl]; simp, (hk.obj hA).mono (Nat.le_refl _) hsz1⟩
  · by_cases e : j < vals.length
    · rw [List.getElem?_append_left (by omega)] at hu
      rw [List.getElem?_append_left e] at hu'
      exact h.ne i j u u' g hij hu hu' hug
    · have hj : j = vals.length := by
        have := (List.getElem?_eq_some_iff.1 hu').1
        simp at this
        omega
      subst hj
      rw [List.getElem?_append_left (by omega)] at hu
      rw [List.getElem?_append_right (by omega)] at hu'
      simp at hu'
      subst hu'
      intro e5
      cases hA'' : A with
      | none => rw [hA''] at e5; cases e5
      | some a =>
        rw [hA''] at e5
        have e7 : a.block = g := by simpa [Value.ownBlock] using e5
        exact hdis i u g hu hug a hA'' e7

/-- The blocks of the rows lie below the heap's end. -/
theorem LstV.low (h : LstV ts t B w v rows vals) : ∀ (i : Nat) (u : Value) (g : Nat), vals[i]? = some u → u.ownBlock = some g → g < w.heap.size := by
  intro i u g hu hg
  have hl := ownsRow_len h.own
  have hi : i < rows.length := by have := (List.getElem?_eq_some_iff.1 hu).1; omega
  obtain ⟨A, c, h1, h2⟩ := h.row i hi
  rw [h1] at hu
  cases hu
  cases hA : A with
  | none => rw [hA] at hg; cases hg
  | some a =>
    rw [hA] at hg
    have e : a.block = g := by simpa [Value.ownBlock] using hg
    rw [← e]
    exact (h2.bounds a hA).2

theorem LstV.of_blocks (h : LstV ts t B w v rows vals) (hb : ∀ k, B ≤ k → k < w.heap.size → w'.heap[k]? = w.heap[k]?) (hs : w.heap.size ≤ w'.heap.size) : LstV ts t B w' v rows vals := by
  refine ⟨?_, fun i hi => ?_, h.ne⟩
  · obtain ⟨h1, h2⟩ := h.own
    refine ⟨h1, ?_⟩
    rcases h2 with h2 | ⟨g, cap, cur, hv, hg, hh, r⟩
    · exact .inl h2
    · exact .inr ⟨g, cap, cur, hv, hg, (hb g hg (Array.getElem?_eq_some_iff.1 hh).1).trans hh, r⟩
  · obtain ⟨A, c, h1, h2⟩ := h.row i hi
    refine ⟨A, c, h1, ?_⟩
    rcases h2 with e | ⟨g, e1, e2, e3, e4⟩
    · exact .inl e
    · exact .inr ⟨g, e1, e2, by omega, e4.of_block (hb g e2 e3)⟩

theorem LstV.single {A : Option Addr} {c : Nat} {r : List Int} (hA : Obj1 t B w.heap.size w A r) (hB : B ≤ w.heap.size) : LstV ts t B (w.alloc (.cells #[.slice A r.length c] ts)) (.slice (some ⟨w.heap.size, 0, none⟩) 1 1) [r] [.slice A r.length c] := by
  refine ⟨⟨by simp, .inr ⟨w.heap.size, 1, _, rfl, hB, heap_alloc_new _ _, Nat.le_refl _, by unfold maxLen; omega, by simp, by simp⟩⟩, fun i hi => ?_, fun i j u u' g hij hu hu' => ?_⟩
  · have h0 : i = 0 := by simp at hi; omega
    subst h0
    exact ⟨A, c, by simp, (hA.later ((Below.refl _ _).alloc (Nat.le_refl _) _)).mono (Nat.le_refl _) (by simp)⟩
  · have h1 := (List.getElem?_eq_some_iff.1 hu').1
    simp at h1
    omega

theorem LstV.shape (h : LstV ts t B w v rows vals) : ∃ A c, v = .slice A rows.length c ∧ Obj2 ts t B w.heap.size w A rows := by
  have hl := ownsRow_len h.own
  rcases h.own.2 with ⟨hv, h0⟩ | ⟨g, cap, cur, hv, hg, hh, h1, h2, h3, h4⟩
  · exact ⟨none, 0, by rw [hv, h0], .inl ⟨rfl, List.eq_nil_of_length_eq_zero h0⟩⟩
  · refine ⟨_, cap, hv, .inr ⟨g, fun i => match vals[i]? with | some (.slice A _ _) => A | _ => none, fun i => match vals[i]? with | some (.slice _ _ c) => c | _ => 0, rfl, hg, (Array.getElem?_eq_some_iff.1 hh).1, ⟨cur, hh, fun i hi => ?_⟩, fun i hi => ?_, fun i j hi hj hne a b ha hb => ?_⟩⟩
    · obtain ⟨A, c, e1, _⟩ := h.row i hi
      simp only [e1]
      have h5 := e1
      rw [← h4, List.getElem?_take, if_pos (by omega)] at h5
      simpa using h5
    · obtain ⟨A, c, e1, e2⟩ := h.row i hi
      simp only [e1]
      exact e2
    · obtain ⟨A, c, e1, _⟩ := h.row i hi
      obtain ⟨A', c', e1', _⟩ := h.row j hj
      simp only [e1] at ha
      simp only [e1'] at hb
      subst ha
      subst hb
      intro e
      rcases Nat.lt_or_ge i j with hlt | hge
      · exact h.ne i j _ _ a.block hlt e1 e1' (by simp [Value.ownBlock]) (by simp [Value.ownBlock, e])
      · exact h.ne j i _ _ a.block (by omega) e1' e1 (by simp [Value.ownBlock, e]) (by simp [Value.ownBlock])

end
end Go.Proofs.Ytelildgngkajnaa
