import Derived.Test.YtpkfcjpppncbiaaZh
namespace Go.Proofs.Ytpkfcjpppncbiaa
open Go Go.RowKit

/-- What a pair map is. -/
def PMap (f s : List (List Int)) : Prop := Tbl f ∧ Tbl s ∧ f.length = s.length

/-- The value of a table at two elements. -/
def ap (rows : List (List Int)) (a b : Nat) : Nat := ((rows.getD a []).getD b 0).toNat

theorem Tbl.ap_lt {rows : List (List Int)} (h : Tbl rows) {a b n : Nat} (hn : rows.length = n) (ha : a < n) (hb : b < n) : ap rows a b < n := by
  have h1 := (h.2.2 a (by omega)).2 b (by omega)
  unfold ap
  omega
theorem Tbl.ap_eq {rows : List (List Int)} (h : Tbl rows) {a b n : Nat} (hn : rows.length = n) (ha : a < n) (hb : b < n) : (rows.getD a []).getD b 0 = (ap rows a b : Int) := by
  have h1 := (h.2.2 a (by omega)).2 b (by omega)
  unfold ap
  omega
theorem Tbl.row_len {rows : List (List Int)} (h : Tbl rows) {a n : Nat} (hn : rows.length = n) (ha : a < n) : (rows.getD a []).length = n := by
  rw [h.rows a (by omega), hn]

/-- The cells of a table that is read in a world, at two elements. -/
theorem Tbl.cells {rows : List (List Int)} {w : World} {A : Option Addr} (h : Tbl rows) (hr : Rd2 w A rows) {n : Nat} (hn : rows.length = n) :
    ∃ b o, A = some ⟨b, o, none⟩ ∧ b < w.heap.size ∧ ∀ x, x < n → ∃ bx ox cx, w.cell? ⟨b, o + x, none⟩ = some (.slice (some ⟨bx, ox, none⟩) n cx) ∧ bx < w.heap.size ∧ ∀ y, y < n → w.cell? ⟨bx, ox + y, none⟩ = some (.int .i64 (ap rows x y)) := by
  have h1 := h.1
  obtain ⟨b, o, rfl, hb, hc⟩ := hr (by omega)
  refine ⟨b, o, rfl, hb, fun x hx => ?_⟩
  obtain ⟨Ax, cx, h2, h3⟩ := hc x (by omega)
  rw [h.row_len hn hx] at h2
  obtain ⟨bx, ox, rfl, h4, h5⟩ := h3 (by rw [h.row_len hn hx]; omega)
  refine ⟨bx, ox, cx, h2, h4, fun y hy => ?_⟩
  rw [h5 y (by rw [h.row_len hn hx]; exact hy), h.ap_eq hn hx hy]

/-- A result that is told only of what is good. -/
def BRes (good cond : Prop) (r : Bool) (code : Int) : Prop := (good ∧ (r = true ↔ cond) ∧ code = 0) ∨ (¬ good ∧ r = false ∧ code = 1)
theorem BRes.ex (good cond : Prop) : ∃ r code, BRes good cond r code := by
  by_cases h : good
  · obtain ⟨r, hr⟩ := bool_of cond
    exact ⟨r, _, .inl ⟨h, hr, rfl⟩⟩
  · exact ⟨_, _, .inr ⟨h, rfl, rfl⟩⟩
def PRes (f s : List (List Int)) (r : Bool) : Prop := r = true ↔ PMap f s
theorem PRes.ex (f s : List (List Int)) : ∃ r, PRes f s r := bool_of _

/-- Each pair of equal elements is led to itself. -/
def SqF (f s : List (List Int)) : Prop := ∀ x, x < f.length → ap f x x = x ∧ ap s x x = x
def SqRes (f s : List (List Int)) : Bool → Int → Prop := BRes (PMap f s) (SqF f s)
theorem SqRes.ex (f s : List (List Int)) : ∃ r code, SqRes f s r code := BRes.ex _ _
/-- Doing it twice leads each pair to itself. -/
def InvF (f s : List (List Int)) : Prop := ∀ x y, x < f.length → y < f.length → ap f (ap f x y) (ap s x y) = x ∧ ap s (ap f x y) (ap s x y) = y
def InvoRes (f s : List (List Int)) : Bool → Int → Prop := BRes (PMap f s) (InvF f s)
theorem InvoRes.ex (f s : List (List Int)) : ∃ r code, InvoRes f s r code := BRes.ex _ _
def NonF (f s : List (List Int)) : Prop := AllPrm f ∧ AllPrm (turnL s)
def NonRes (f s : List (List Int)) : Bool → Int → Prop := BRes (PMap f s) (NonF f s)
theorem NonRes.ex (f s : List (List Int)) : ∃ r code, NonRes f s r code := BRes.ex _ _

/-- What a pair map leads a pair to. -/
def AppRes (f s : List (List Int)) (x y u v code : Int) : Prop :=
  (PMap f s ∧ (0 ≤ x ∧ x < (f.length : Int)) ∧ (0 ≤ y ∧ y < (f.length : Int)) ∧ u = (ap f x.toNat y.toNat : Int) ∧ v = (ap s x.toNat y.toNat : Int) ∧ code = 0) ∨
  (PMap f s ∧ ¬ ((0 ≤ x ∧ x < (f.length : Int)) ∧ (0 ≤ y ∧ y < (f.length : Int))) ∧ u = 0 ∧ v = 0 ∧ code = 2) ∨ (¬ PMap f s ∧ u = 0 ∧ v = 0 ∧ code = 1)
theorem AppRes.ex (f s : List (List Int)) (x y : Int) : ∃ u v code, AppRes f s x y u v code := by
  by_cases h : PMap f s
  · by_cases h1 : (0 ≤ x ∧ x < (f.length : Int)) ∧ (0 ≤ y ∧ y < (f.length : Int))
    · exact ⟨_, _, _, .inl ⟨h, h1.1, h1.2, rfl, rfl, rfl⟩⟩
    · exact ⟨_, _, _, .inr (.inl ⟨h, h1, rfl, rfl, rfl⟩)⟩
  · exact ⟨_, _, _, .inr (.inr ⟨h, rfl, rfl, rfl⟩)⟩
end Go.Proofs.Ytpkfcjpppncbiaa
