import Derived.Test.YtkagfjofjbpfeaaZbm
import Derived.Test.YtkagfjofjbpfeaaZbl
import Derived.Test.YtkagfjofjbpfeaaZe
import Derived.Test.YtkagfjofjbpfeaaZbk
import Derived.Test.YtkagfjofjbpfeaaZah
namespace Go.Proofs.Ytkagfjofjbpfeaa
open Go Go.RowKit
/-- The place at which row x has z. -/
def sol (f : List (List Int)) (x z : Nat) : Nat := (ixOf (f.getD x []) (z : Int)).toNat
theorem sol_spec {f : List (List Int)} (ht : Tbl f) (hp : AllPrm f) {n x z : Nat} (hn : f.length = n) (hx : x < n) (hz : z < n) :
    sol f x z < n ∧ ixOf (f.getD x []) (z : Int) = ((sol f x z : Nat) : Int) ∧ (f.getD x []).getD (sol f x z) 0 = (z : Int) ∧ ap f x (sol f x z) = z := by
  have hl : (f.getD x []).length = n := ht.row_len hn hx
  have hpx : Prm (f.getD x []) := hp x (by omega)
  have hm : (z : Int) ∈ f.getD x [] := (prm_iff _).1 hpx |>.2.2 z (by omega) (by omega)
  have hi := List.idxOf_lt_length_iff.2 hm
  have e1 : ixOf (f.getD x []) (z : Int) = (((f.getD x []).idxOf (z : Int) : Nat) : Int) := by unfold ixOf; rw [if_pos hm]
  have e2 : sol f x z = (f.getD x []).idxOf (z : Int) := by unfold sol; rw [e1]; simp
  have e3 : (f.getD x []).getD ((f.getD x []).idxOf (z : Int)) 0 = (z : Int) := by
    generalize f.getD x [] = p at hi
    rw [List.getD_eq_getElem?_getD, List.getElem?_eq_getElem hi]
    simp
  rw [e2]
  refine ⟨by omega, e1, e3, ?_⟩
  unfold ap
  rw [e3]
  simp
theorem sol_lt {f : List (List Int)} (ht : Tbl f) (hp : AllPrm f) {n x z : Nat} (hn : f.length = n) (hx : x < n) (hz : z < n) : sol f x z < n := (sol_spec ht hp hn hx hz).1
theorem sol_ix {f : List (List Int)} (ht : Tbl f) (hp : AllPrm f) {n x z : Nat} (hn : f.length = n) (hx : x < n) (hz : z < n) : ixOf (f.getD x []) (z : Int) = ((sol f x z : Nat) : Int) := (sol_spec ht hp hn hx hz).2.1
theorem dual_row {f : List (List Int)} {n x : Nat} (hn : f.length = n) (hx : x < n) : (dualL f).getD x [] = backTo (f.getD x []) n := by
  unfold dualL
  rw [rowsL_at f _ x (by omega), hn]
theorem sol_dual {f : List (List Int)} (ht : Tbl f) (hp : AllPrm f) {n x z : Nat} (hn : f.length = n) (hx : x < n) (hz : z < n) : ((dualL f).getD x []).getD z 0 = ((sol f x z : Nat) : Int) := by
  have hl : (f.getD x []).length = n := ht.row_len hn hx
  have hpx : Prm (f.getD x []) := hp x (by omega)
  obtain ⟨h1, _, h3, _⟩ := sol_spec ht hp hn hx hz
  have h := backTo_hit hpx n (by omega) (sol f x z) h1
  rw [h3] at h
  rw [dual_row hn hx]
  simpa using h
theorem dualL_len (f : List (List Int)) : (dualL f).length = f.length := by unfold dualL; rw [rowsL_length]
theorem dual_len {f : List (List Int)} (ht : Tbl f) {n x : Nat} (hn : f.length = n) (hx : x < n) : ((dualL f).getD x []).length = n := by rw [dual_row hn hx, backTo_length]; exact ht.row_len hn hx
theorem dual_tbl {f : List (List Int)} (ht : Tbl f) (hp : AllPrm f) : Tbl (dualL f) := by
  refine ⟨by rw [dualL_len]; exact ht.1, by rw [dualL_len]; exact ht.2.1, ?_⟩
  intro i hi
  rw [dualL_len] at hi
  refine ⟨by rw [dual_len ht rfl hi, dualL_len], fun j hj => ?_⟩
  rw [dualL_len] at hj
  have h := sol_lt ht hp rfl hi hj
  rw [sol_dual ht hp rfl hi hj, dualL_len]
  omega
theorem sol_ap {f : List (List Int)} (ht : Tbl f) (hp : AllPrm f) {n x z : Nat} (hn : f.length = n) (hx : x < n) (hz : z < n) : ap (dualL f) x z = sol f x z := by
  have h := sol_dual ht hp hn hx hz
  unfold ap
  rw [h]
  simp
def DsRes (f : List (List Int)) (x z v code : Int) : Prop :=
  (Cyc f ∧ (0 ≤ x ∧ x < (f.length : Int)) ∧ (0 ≤ z ∧ z < (f.length : Int)) ∧ v = ((sol f x.toNat z.toNat : Nat) : Int) ∧ code = 0) ∨ (Cyc f ∧ ¬ ((0 ≤ x ∧ x < (f.length : Int)) ∧ (0 ≤ z ∧ z < (f.length : Int))) ∧ v = 0 ∧ code = 2) ∨ (¬ Cyc f ∧ v = 0 ∧ code = 1)
theorem DsRes.ex (f : List (List Int)) (x z : Int) : ∃ v code, DsRes f x z v code := by
  by_cases h : Cyc f
  · by_cases h2 : (0 ≤ x ∧ x < (f.length : Int)) ∧ (0 ≤ z ∧ z < (f.length : Int))
    · exact ⟨_, _, .inl ⟨h, h2.1, h2.2, rfl, rfl⟩⟩
    · exact ⟨_, _, .inr (.inl ⟨h, h2, rfl, rfl⟩)⟩
  · exact ⟨_, _, .inr (.inr ⟨h, rfl, rfl⟩)⟩
end Go.Proofs.Ytkagfjofjbpfeaa
namespace Go.Proofs.Ytkagfjofjbpfeaa
open Go Go.RowKit
set_option maxHeartbeats 1000000
theorem isI_any (A : Option Addr) (n c : Nat) (f : List (List Int)) (B : Option Addr) (m d : Nat) (s : List (List Int)) (r : Bool) (w : World) (hz : ZArg 1048576 w A n f B m s) (hr : IsRes f s r) :
    Calls Try.prog 109 #[.agg #[.slice A n c, .slice B m d]] w fun e w' => e = .returned (.bool r) ∧ Below w.heap.size w w' := by
  have HZ := hide hz
  have HB0 := hide ((Below.refl _ w).alloc (Nat.le_refl _) (Obj.cells #[Value.slice A n c, Value.slice B m d] 44))
  have HK0 := hide (Blk.new w 44 [.slice A n c, .slice B m d])
  have hcs := hr.cases hz.sz.fl
  clear hr hz
  rcases hcs with ⟨hp, rfl⟩ | ⟨hp, T, hT, hq⟩
  · have HP := hide hp
    clear hp
    go_enter Try.func109, Try.ntmps109
    go_wp2_with fail
    refine (mapI_any _ _ _ f _ _ _ s false _ (HZ.out.later HB0.out) (by simp [HP.out])).mono ?_
    rintro e w1 ⟨rfl, hb1⟩
    have HB1 := hide (HB0.out.trans (hb1.mono HB0.out.size))
    have HK1 := hide (HK0.out.later hb1)
    have k0 := HK1.out.cell 0 _ rfl
    have k1 := HK1.out.cell 1 _ rfl
    clear hb1
    go_wp2_with fail
    go_ret
    exact ⟨rfl, HB1.out⟩
  · have HP := hide hp
    have HT := hide hT
    clear hp hT
    have hq2 : (T < n * n * n ∧ r = false) ∨ (T = n * n * n ∧ (Hid (∃ a b, FstCol f s n a b) ∧ r = false ∨ Hid (NoCol f s n) ∧ r = true)) := by
      rcases hq with ⟨h1, ⟨_, h⟩ | ⟨_, h⟩⟩ | ⟨h1, ⟨h2, h⟩ | ⟨h2, h⟩⟩
      · exact .inl ⟨h1, h⟩
      · exact .inl ⟨h1, h⟩
      · exact .inr ⟨h1, .inl ⟨hide h2, h⟩⟩
      · exact .inr ⟨h1, .inr ⟨hide h2, h⟩⟩
    clear hq
    rcases hq2 with ⟨hlt, rfl⟩ | ⟨hte, ⟨HC, rfl⟩ | ⟨HC, rfl⟩⟩
    · go_enter Try.func109, Try.ntmps109
      go_wp2_with fail
      refine (mapI_any _ _ _ f _ _ _ s true _ (HZ.out.later HB0.out) (by simp [HP.out])).mono ?_
      rintro e w1 ⟨rfl, hb1⟩
      have HB1 := hide (HB0.out.trans (hb1.mono HB0.out.size))
      have HK1 := hide (HK0.out.later hb1)
      have k0 := HK1.out.cell 0 _ rfl
      have k1 := HK1.out.cell 1 _ rfl
      clear hb1
      go_wp2_with fail
      refine (fault_any _ _ _ f _ _ _ s T _ (HZ.out.later HB1.out) HP.out HT.out).mono ?_
      rintro e w2 ⟨t, ok, rfl, hb2, hres⟩
      have HB2 := hide (HB1.out.trans (hb2.mono HB1.out.size))
      have HK2 := hide (HK1.out.later hb2)
      have hok : ok = true := by rcases hres with ⟨h1, h2, _⟩ | ⟨h1, h2⟩ <;> first | exact h1 | omega
      subst hok
      clear hb2 hres k0 k1
      unfold tv
      obtain ⟨x, y, z⟩ := t
      have k0 := fun o => (HK2.out.alloc o).cell 0 _ rfl
      have k1 := fun o => (HK2.out.alloc o).cell 1 _ rfl
      go_wp2_with fail
      clear k0 k1
      refine bp_gen fun wf hwf => ?_
      have HBF : Below w.heap.size w wf := by rw [hwf]; exact HB2.out.alloc HB2.out.size _
      clear hwf
      go_ret
      exact ⟨rfl, HBF⟩
    · go_enter Try.func109, Try.ntmps109
      go_wp2_with fail
      refine (mapI_any _ _ _ f _ _ _ s true _ (HZ.out.later HB0.out) (by simp [HP.out])).mono ?_
      rintro e w1 ⟨rfl, hb1⟩
      have HB1 := hide (HB0.out.trans (hb1.mono HB0.out.size))
      have HK1 := hide (HK0.out.later hb1)
      have k0 := HK1.out.cell 0 _ rfl
      have k1 := HK1.out.cell 1 _ rfl
      clear hb1
      go_wp2_with fail
      refine (fault_any _ _ _ f _ _ _ s T _ (HZ.out.later HB1.out) HP.out HT.out).mono ?_
      rintro e w2 ⟨t, ok, rfl, hb2, hres⟩
      have HB2 := hide (HB1.out.trans (hb2.mono HB1.out.size))
      have HK2 := hide (HK1.out.later hb2)
      have hok : ok = false := by rcases hres with ⟨h1, h2, _⟩ | ⟨h1, h2⟩ <;> first | exact h1 | omega
      subst hok
      clear hb2 hres k0 k1
      unfold tv
      obtain ⟨x, y, z⟩ := t
      have k0 := fun o => (HK2.out.alloc o).cell 0 _ rfl
      have k1 := fun o => (HK2.out.alloc o).cell 1 _ rfl
      go_wp2_with fail
      clear k0 k1
      refine calls_gen fun w4 hw4 => ?_
      replace HB2 : Hid (Below w.heap.size w w4) := hide (by rw [hw4]; exact HB2.out.alloc HB2.out.size _)
      clear hw4 HK2
      refine (coll_any _ _ _ f _ _ _ s _ (HZ.out.later HB2.out) HP.out).mono ?_
      rintro e w3 ⟨hb3, hres⟩
      have HB3 := hide (HB2.out.trans (hb3.mono HB2.out.size))
      clear hb3
      obtain ⟨a, b, hf⟩ := HC.out
      rcases hres with ⟨hno, _⟩ | ⟨a', b', _, rfl⟩
      · exact absurd hno hf.not
      · go_wp2_with fail
        refine bp_gen fun wf hwf => ?_
        have HBF : Below w.heap.size w wf := by rw [hwf]; exact (HB3.out.alloc HB3.out.size _).alloc (by have := HB3.out.size; simp; omega) _
        clear hwf
        go_ret
        exact ⟨rfl, HBF⟩
    · go_enter Try.func109, Try.ntmps109
      go_wp2_with fail
      refine (mapI_any _ _ _ f _ _ _ s true _ (HZ.out.later HB0.out) (by simp [HP.out])).mono ?_
      rintro e w1 ⟨rfl, hb1⟩
      have HB1 := hide (HB0.out.trans (hb1.mono HB0.out.size))
      have HK1 := hide (HK0.out.later hb1)
      have k0 := HK1.out.cell 0 _ rfl
      have k1 := HK1.out.cell 1 _ rfl
      clear hb1
      go_wp2_with fail
      refine (fault_any _ _ _ f _ _ _ s T _ (HZ.out.later HB1.out) HP.out HT.out).mono ?_
      rintro e w2 ⟨t, ok, rfl, hb2, hres⟩
      have HB2 := hide (HB1.out.trans (hb2.mono HB1.out.size))
      have HK2 := hide (HK1.out.later hb2)
      have hok : ok = false := by rcases hres with ⟨h1, h2, _⟩ | ⟨h1, h2⟩ <;> first | exact h1 | omega
      subst hok
      clear hb2 hres k0 k1
      unfold tv
      obtain ⟨x, y, z⟩ := t
      have k0 := fun o => (HK2.out.alloc o).cell 0 _ rfl
      have k1 := fun o => (HK2.out.alloc o).cell 1 _ rfl
      go_wp2_with fail
      clear k0 k1
      refine calls_gen fun w4 hw4 => ?_
      replace HB2 : Hid (Below w.heap.size w w4) := hide (by rw [hw4]; exact HB2.out.alloc HB2.out.size _)
      clear hw4 HK2
      refine (coll_any _ _ _ f _ _ _ s _ (HZ.out.later HB2.out) HP.out).mono ?_
      rintro e w3 ⟨hb3, hres⟩
      have HB3 := hide (HB2.out.trans (hb3.mono HB2.out.size))
      clear hb3
      rcases hres with ⟨_, rfl⟩ | ⟨a', b', hf2, _⟩
      · go_wp2_with fail
        refine bp_gen fun wf hwf => ?_
        have HBF : Below w.heap.size w wf := by rw [hwf]; exact (HB3.out.alloc HB3.out.size _).alloc (by have := HB3.out.size; simp; omega) _
        clear hwf
        go_ret
        exact ⟨rfl, HBF⟩
      · exact absurd HC.out hf2.not
end Go.Proofs.Ytkagfjofjbpfeaa
namespace Go.Proofs.Ytkagfjofjbpfeaa
open Go Go.RowKit
/-- All are elements. -/
def Els (n : Nat) (xs : List Int) : Prop := ∀ i, i < xs.length → 0 ≤ xs.getD i 0 ∧ xs.getD i 0 < (n : Int)
/-- An element of a list, as a natural number. -/
def el (xs : List Int) (i : Nat) : Nat := (xs.getD i 0).toNat
theorem Els.val {n : Nat} {xs : List Int} (h : Els n xs) {i : Nat} (hi : i < xs.length) : xs.getD i 0 = (el xs i : Int) ∧ el xs i < n := by
  have h1 := h i hi
  unfold el
  omega
/-- The set of the first k elements of a list. -/
def sN (xs : List Int) : Nat → Nat
  | 0 => 0
  | k + 1 => sN xs k ||| 2 ^ el xs k
theorem sN_in (xs : List Int) (k x : Nat) : inb (sN xs k) x ↔ ∃ i, i < k ∧ el xs i = x := by
  induction k with
  | zero => exact ⟨fun h => absurd h (inb_zero x), fun ⟨i, hi, _⟩ => by omega⟩
  | succ k ih =>
    show inb (sN xs k ||| 2 ^ el xs k) x ↔ _
    rw [inb_or, ih]
    constructor
    · rintro (⟨i, hi, e⟩ | rfl)
      · exact ⟨i, by omega, e⟩
      · exact ⟨k, by omega, rfl⟩
    · rintro ⟨i, hi, e⟩
      by_cases h : i = k
      · subst h; exact .inr e.symm
      · exact .inl ⟨i, by omega, e⟩
theorem sN_lt {n : Nat} {xs : List Int} (h : Els n xs) {k : Nat} (hk : k ≤ xs.length) : sN xs k < 2 ^ n :=
  set_lt (fun x hx => by
    obtain ⟨i, hi, rfl⟩ := (sN_in xs k x).1 hx
    exact (h.val (by omega)).2)
theorem sN_ne {xs : List Int} {k : Nat} (h : 0 < k) : sN xs k ≠ 0 := by
  intro e
  have h2 : inb (sN xs k) (el xs 0) := (sN_in xs k _).2 ⟨0, h, rfl⟩
  rw [e] at h2
  exact inb_zero _ h2

/-- A set of what holds, below n. -/
theorem set_of (P : Nat → Prop) (n : Nat) : ∃ V, V < 2 ^ n ∧ ∀ x, x < n → (inb V x ↔ P x) := by
  induction n with
  | zero => exact ⟨0, by simp, fun x hx => absurd hx (Nat.not_lt_zero _)⟩
  | succ n ih =>
    obtain ⟨V, hV, h⟩ := ih
    have hn : ¬ inb V n := fun h2 => by have := inb_lt hV h2; omega
    by_cases hp : P n
    · refine ⟨V ||| 2 ^ n, or_lt (Nat.lt_of_lt_of_le hV (Nat.pow_le_pow_right (by decide) (by omega))) (by omega), fun x hx => ?_⟩
      rw [inb_or]
      by_cases e : x = n
      · subst e; simp [hp]
      · rw [← h x (by omega)]; simp [e]
    · refine ⟨V, Nat.lt_of_lt_of_le hV (Nat.pow_le_pow_right (by decide) (by omega)), fun x hx => ?_⟩
      by_cases e : x = n
      · subst e; simp [hp, hn]
      · exact h x (by omega)
/-- V is in each set with S that is closed. -/
def Under (f : List (List Int)) (S V : Nat) : Prop := ∀ T, ClosedF f T → (∀ x, inb S x → inb T x) → ∀ x, inb V x → inb T x
/-- The least closed set with S. -/
structure LeastS (f : List (List Int)) (n S V : Nat) : Prop where
  lt : V < 2 ^ n
  closed : ClosedF f V
  up : ∀ x, inb S x → inb V x
  low : Under f S V
theorem LeastS.uniq {f : List (List Int)} {n S V V' : Nat} (h : LeastS f n S V) (h' : LeastS f n S V') : V = V' :=
  inb_eq (fun x => ⟨h.low V' h'.closed h'.up x, h'.low V h.closed h.up x⟩)
theorem LeastS.ex (f : List (List Int)) (n S : Nat) (hf : ∀ x y, x < n → y < n → ap f x y < n) (hS : S < 2 ^ n) : ∃ V, LeastS f n S V := by
  obtain ⟨V, hV, h⟩ := set_of (fun x => ∀ T, ClosedF f T → (∀ x, inb S x → inb T x) → inb T x) n
  refine ⟨V, hV, ?_, ?_, ?_⟩
  · intro x y hx hy
    have lx := inb_lt hV hx
    have ly := inb_lt hV hy
    refine (h _ (hf x y lx ly)).2 fun T hT hs => hT x y ((h x lx).1 hx T hT hs) ((h y ly).1 hy T hT hs)
  · intro x hx
    exact (h x (inb_lt hS hx)).2 fun T _ hs => hs x hx
  · intro T hT hs x hx
    exact (h x (inb_lt hV hx)).1 hx T hT hs
theorem Under.grow {f : List (List Int)} {S V W : Nat} (h : Under f S V) (hg : GrF f V W) : Under f S W := by
  intro T hT hs x hx
  rcases (hg x).1 hx with h1 | ⟨a, b, ha, hb, rfl⟩
  · exact h T hT hs x h1
  · exact hT a b (h T hT hs a ha) (h T hT hs b hb)
theorem Under.add {f : List (List Int)} {S V a b v : Nat} (h : Under f S V) (ha : inb V a) (hb : inb V b) (hv : ap f a b = v) : Under f S (V ||| 2 ^ v) := by
  intro T hT hs x hx
  rcases (inb_or V v x).1 hx with h1 | rfl
  · exact h T hT hs x h1
  · rw [← hv]; exact hT a b (h T hT hs a ha) (h T hT hs b hb)
def SfRes (f : List (List Int)) (xs : List Int) (zs : List Int) (code : Int) : Prop :=
  (∃ V, (Rck f ∧ Els f.length xs ∧ xs ≠ []) ∧ LeastS f f.length (sN xs xs.length) V ∧ zs = memL f.length V ∧ code = 0) ∨ (¬ Rck f ∧ zs = [] ∧ code = 1) ∨ (Rck f ∧ ¬ Els f.length xs ∧ zs = [] ∧ code = 2) ∨ (Rck f ∧ Els f.length xs ∧ xs = [] ∧ zs = [] ∧ code = 5)
theorem SfRes.ex (f : List (List Int)) (xs : List Int) : ∃ zs code, SfRes f xs zs code ∧ zs.length ≤ 1048576 := by
  by_cases h : Rck f
  · by_cases h2 : Els f.length xs
    · by_cases h3 : xs = []
      · exact ⟨_, _, .inr (.inr (.inr ⟨h, h2, h3, rfl, rfl⟩)), by simp⟩
      · obtain ⟨V, hV⟩ := LeastS.ex f f.length (sN xs xs.length) (fun x y hx hy => h.tbl.ap_lt rfl hx hy) (sN_lt h2 (Nat.le_refl _))
        refine ⟨_, _, .inl ⟨V, ⟨h, h2, h3⟩, hV, rfl, rfl⟩, ?_⟩
        have h4 := mems_length f.length V
        have h5 := h.tbl.2.1
        rw [memL_length]
        omega
    · exact ⟨_, _, .inr (.inr (.inl ⟨h, h2, rfl, rfl⟩)), by simp⟩
  · exact ⟨_, _, .inr (.inl ⟨h, rfl, rfl⟩), by simp⟩
end Go.Proofs.Ytkagfjofjbpfeaa
namespace Go.Proofs.Ytkagfjofjbpfeaa
open Go Go.RowKit
set_option maxHeartbeats 1000000
theorem isS_any (A : Option Addr) (n c : Nat) (f : List (List Int)) (B : Option Addr) (m d : Nat) (s : List (List Int)) (r : Bool) (w : World) (hz : ZArg 1048576 w A n f B m s) (hr : IsRes f s r) :
    Calls Try.prog 106 #[.agg #[.slice A n c, .slice B m d]] w fun e w' => e = .returned (.bool r) ∧ Below w.heap.size w w' := by
  have HZ := hide hz
  have HB0 := hide ((Below.refl _ w).alloc (Nat.le_refl _) (Obj.cells #[Value.slice A n c, Value.slice B m d] 44))
  have HK0 := hide (Blk.new w 44 [.slice A n c, .slice B m d])
  have hcs := hr.cases hz.sz.fl
  clear hr hz
  rcases hcs with ⟨hp, rfl⟩ | ⟨hp, T, hT, hq⟩
  · have HP := hide hp
    clear hp
    go_enter Try.func106, Try.ntmps106
    go_wp2_with fail
    refine (mapS_any _ _ _ f _ _ _ s false _ (HZ.out.later HB0.out) (by simp [HP.out])).mono ?_
    rintro e w1 ⟨rfl, hb1⟩
    have HB1 := hide (HB0.out.trans (hb1.mono HB0.out.size))
    have HK1 := hide (HK0.out.later hb1)
    have k0 := HK1.out.cell 0 _ rfl
    have k1 := HK1.out.cell 1 _ rfl
    clear hb1
    go_wp2_with fail
    go_ret
    exact ⟨rfl, HB1.out⟩
  · have HP := hide hp
    have HT := hide hT
    clear hp hT
    have hq2 : (Hid (∃ a b, FstCol f s n a b) ∧ r = false) ∨ (Hid (NoCol f s n) ∧ ((T < n * n * n ∧ r = false) ∨ (T = n * n * n ∧ r = true))) := by
      rcases hq with ⟨h1, ⟨h2, h⟩ | ⟨h2, h⟩⟩ | ⟨h1, ⟨h2, h⟩ | ⟨h2, h⟩⟩
      · exact .inr ⟨hide h2, .inl ⟨h1, h⟩⟩
      · exact .inl ⟨hide h2, h⟩
      · exact .inl ⟨hide h2, h⟩
      · exact .inr ⟨hide h2, .inr ⟨h1, h⟩⟩
    clear hq
    rcases hq2 with ⟨HC, rfl⟩ | ⟨HC, ⟨hlt, rfl⟩ | ⟨hte, rfl⟩⟩
    · go_enter Try.func106, Try.ntmps106
      go_wp2_with fail
      refine (mapS_any _ _ _ f _ _ _ s true _ (HZ.out.later HB0.out) (by simp [HP.out])).mono ?_
      rintro e w1 ⟨rfl, hb1⟩
      have HB1 := hide (HB0.out.trans (hb1.mono HB0.out.size))
      have HK1 := hide (HK0.out.later hb1)
      have k0 := HK1.out.cell 0 _ rfl
      have k1 := HK1.out.cell 1 _ rfl
      clear hb1
      go_wp2_with fail
      refine (collS_any _ _ _ f _ _ _ s _ (HZ.out.later HB1.out) HP.out).mono ?_
      rintro e w2 ⟨g, q, ys, rfl, hb2, _, _, hres⟩
      have HB2 := hide (HB1.out.trans (hb2.mono HB1.out.size))
      have HK2 := hide (HK1.out.later hb2)
      have hq9 : q = 4 := by obtain ⟨a, b, hf⟩ := HC.out; rcases hres with ⟨hno, _⟩ | ⟨a', b', _, _, h⟩; exact absurd hno hf.not; exact h
      subst hq9
      clear hb2 hres k0 k1
      have k0 := HK2.out.cell 0 _ rfl
      have k1 := HK2.out.cell 1 _ rfl
      go_wp2_with fail
      go_ret
      exact ⟨rfl, HB2.out⟩
    · go_enter Try.func106, Try.ntmps106
      go_wp2_with fail
      refine (mapS_any _ _ _ f _ _ _ s true _ (HZ.out.later HB0.out) (by simp [HP.out])).mono ?_
      rintro e w1 ⟨rfl, hb1⟩
      have HB1 := hide (HB0.out.trans (hb1.mono HB0.out.size))
      have HK1 := hide (HK0.out.later hb1)
      have k0 := HK1.out.cell 0 _ rfl
      have k1 := HK1.out.cell 1 _ rfl
      clear hb1
      go_wp2_with fail
      refine (collS_any _ _ _ f _ _ _ s _ (HZ.out.later HB1.out) HP.out).mono ?_
      rintro e w2 ⟨g, q, ys, rfl, hb2, _, _, hres⟩
      have HB2 := hide (HB1.out.trans (hb2.mono HB1.out.size))
      have HK2 := hide (HK1.out.later hb2)
      have hq9 : q = 0 := by rcases hres with ⟨_, _, h⟩ | ⟨a', b', hf2, _⟩; exact h; exact absurd HC.out hf2.not
      subst hq9
      clear hb2 hres k0 k1
      have k0 := HK2.out.cell 0 _ rfl
      have k1 := HK2.out.cell 1 _ rfl
      go_wp2_with fail
      refine (faultS_any _ _ _ f _ _ _ s T _ (HZ.out.later HB2.out) HP.out HT.out).mono ?_
      rintro e w3 ⟨g3, q3, ys3, rfl, hb3, _, _, hres⟩
      have HB3 := hide (HB2.out.trans (hb3.mono HB2.out.size))
      have hq9 : q3 = 3 := by rcases hres with ⟨h1, _, h2⟩ | ⟨h1, _, h2⟩ <;> omega
      subst hq9
      clear hb3 hres k0 k1
      go_wp2_with fail
      go_ret
      exact ⟨rfl, HB3.out⟩
    · go_enter Try.func106, Try.ntmps106
      go_wp2_with fail
      refine (mapS_any _ _ _ f _ _ _ s true _ (HZ.out.later HB0.out) (by simp [HP.out])).mono ?_
      rintro e w1 ⟨rfl, hb1⟩
      have HB1 := hide (HB0.out.trans (hb1.mono HB0.out.size))
      have HK1 := hide (HK0.out.later hb1)
      have k0 := HK1.out.cell 0 _ rfl
      have k1 := HK1.out.cell 1 _ rfl
      clear hb1
      go_wp2_with fail
      refine (collS_any _ _ _ f _ _ _ s _ (HZ.out.later HB1.out) HP.out).mono ?_
      rintro e w2 ⟨g, q, ys, rfl, hb2, _, _, hres⟩
      have HB2 := hide (HB1.out.trans (hb2.mono HB1.out.size))
      have HK2 := hide (HK1.out.later hb2)
      have hq9 : q = 0 := by rcases hres with ⟨_, _, h⟩ | ⟨a', b', hf2, _⟩; exact h; exact absurd HC.out hf2.not
      subst hq9
      clear hb2 hres k0 k1
      have k0 := HK2.out.cell 0 _ rfl
      have k1 := HK2.out.cell 1 _ rfl
      go_wp2_with fail
      refine (faultS_any _ _ _ f _ _ _ s T _ (HZ.out.later HB2.out) HP.out HT.out).mono ?_
      rintro e w3 ⟨g3, q3, ys3, rfl, hb3, _, _, hres⟩
      have HB3 := hide (HB2.out.trans (hb3.mono HB2.out.size))
      have hq9 : q3 = 0 := by rcases hres with ⟨h1, _, h2⟩ | ⟨h1, _, h2⟩ <;> omega
      subst hq9
      clear hb3 hres k0 k1
      go_wp2_with fail
      go_ret
      exact ⟨rfl, HB3.out⟩
end Go.Proofs.Ytkagfjofjbpfeaa
