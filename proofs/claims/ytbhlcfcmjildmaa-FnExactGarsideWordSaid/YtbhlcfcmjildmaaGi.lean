import Derived.Test.YtbhlcfcmjildmaaGh
import Derived.Test.YtbhlcfcmjildmaaGb
import Derived.Test.YtbhlcfcmjildmaaGe
import Derived.Test.YtbhlcfcmjildmaaGa
import Derived.Test.YtbhlcfcmjildmaaGf
import Derived.Test.YtbhlcfcmjildmaaGg
import Derived.Test.YtbhlcfcmjildmaaGc
namespace Go.Proofs.Ytbhlcfcmjildmaa
open Go Go.RowKit
/-- Doing each row twice leads each element to itself. -/
def IvF (f : List (List Int)) : Prop := ∀ x y, x < f.length → y < f.length → ap f x (ap f x y) = y
def IvRes (f : List (List Int)) : Bool → Int → Prop := BRes (Rck f) (IvF f)
theorem IvRes.ex (f : List (List Int)) : ∃ r code, IvRes f r code := BRes.ex _ _
theorem prm_at {p : List Int} (h : Prm p) {y : Nat} (hy : y < p.length) : 0 ≤ p.getD y 0 ∧ p.getD y 0 < (p.length : Int) := by
  have hm : p.getD y 0 ∈ p := by simp [hy]
  exact h.2.2.1 _ hm
theorem prm_inj {p : List Int} (h : Prm p) {y z : Nat} (hy : y < p.length) (hz : z < p.length) (e : p.getD y 0 = p.getD z 0) : y = z := by
  have hn := h.2.2.2
  have e1 : p[y] = p[z] := by simpa [hy, hz] using e
  exact (List.getElem_inj hn).1 e1
theorem backTo_hit {p : List Int} (h : Prm p) : ∀ k, k ≤ p.length → ∀ y, y < k → (backTo p k).getD (p.getD y 0).toNat 0 = (y : Int) := by
  intro k
  induction k with
  | zero => intro _ y hy; omega
  | succ k ih =>
    intro hk y hy
    have hyl : y < p.length := by omega
    have a := prm_at h hyl
    have b := prm_at h (show k < p.length by omega)
    unfold backTo
    simp only [List.getD_eq_getElem?_getD] at *
    by_cases e : y = k
    · subst e
      rw [List.getElem?_set_self (by rw [backTo_length]; omega)]
      rfl
    · rw [List.getElem?_set_ne]
      · exact ih (by omega) y (by omega)
      · intro e2
        apply e
        apply prm_inj h hyl (by omega)
        simp only [List.getD_eq_getElem?_getD]
        omega
theorem back_iff {p : List Int} (h : Prm p) : p = backTo p p.length ↔ ∀ y, y < p.length → p.getD (p.getD y 0).toNat 0 = (y : Int) := by
  constructor
  · intro e y hy
    have h1 := backTo_hit h p.length (Nat.le_refl _) y hy
    rw [← e] at h1
    exact h1
  · intro hall
    apply List.ext_getElem
    · rw [backTo_length]
    · intro z h1 h2
      have a := prm_at h h1
      have b := hall z h1
      have c := backTo_hit h p.length (Nat.le_refl _) (p.getD z 0).toNat (by omega)
      rw [b] at c
      have d : ((z : Int)).toNat = z := by omega
      rw [d] at c
      have e1 : p.getD z 0 = p[z] := by simp [h1]
      have e2 : (backTo p p.length).getD z 0 = (backTo p p.length)[z] := by simp [h2]
      rw [← e1, ← e2, c]
      omega
theorem iv_row {f : List (List Int)} (ht : Tbl f) (hp : AllPrm f) {n x : Nat} (hn : f.length = n) (hx : x < n) : f.getD x [] = backTo (f.getD x []) n ↔ ∀ y, y < n → ap f x (ap f x y) = y := by
  have hl := ht.row_len hn hx
  have h := back_iff (hp x (by omega))
  rw [hl] at h
  rw [h]
  have key : ∀ y, y < n → ((f.getD x []).getD ((f.getD x []).getD y 0).toNat 0 = (y : Int) ↔ ap f x (ap f x y) = y) := by
    intro y hy
    have e1 := ht.ap_eq hn hx hy
    have hlt := ht.ap_lt hn hx hy
    have e2 := ht.ap_eq hn hx hlt
    rw [e1]
    have e3 : ((ap f x y : Nat) : Int).toNat = ap f x y := by omega
    rw [e3, e2]
    omega
  exact ⟨fun h y hy => (key y hy).1 (h y hy), fun h y hy => (key y hy).2 (h y hy)⟩
end Go.Proofs.Ytbhlcfcmjildmaa
namespace Go.Proofs.Ytbhlcfcmjildmaa
open Go Go.RowKit
def rowsL (f : List (List Int)) (h : Nat → List Int) : List (List Int) := (List.range f.length).map h
theorem rowsL_length (f : List (List Int)) (h : Nat → List Int) : (rowsL f h).length = f.length := by simp [rowsL]
theorem rowsL_at (f : List (List Int)) (h : Nat → List Int) (i : Nat) (hi : i < f.length) : (rowsL f h).getD i [] = h i := by simp [rowsL, hi]
def dualL (f : List (List Int)) : List (List Int) := rowsL f (fun i => backTo (f.getD i []) f.length)
def DuRes (f zs : List (List Int)) (code : Int) : Prop := (Rck f ∧ zs = dualL f ∧ code = 0) ∨ (¬ Rck f ∧ zs = [] ∧ code = 1)
theorem DuRes.ex (f : List (List Int)) : ∃ zs code, DuRes f zs code ∧ zs.length ≤ 1048576 ∧ ∀ i, i < zs.length → (zs.getD i []).length ≤ 1048576 := by
  by_cases h : Rck f
  · have h12 := h.tbl.2.1
    refine ⟨_, _, .inl ⟨h, rfl, rfl⟩, ?_, fun i hi => ?_⟩
    · rw [dualL, rowsL_length]; omega
    · rw [dualL, rowsL_length] at hi
      rw [dualL, rowsL_at f _ i hi, backTo_length, h.tbl.rows i hi]
      omega
  · exact ⟨_, _, .inr ⟨h, rfl, rfl⟩, by simp, by simp⟩
end Go.Proofs.Ytbhlcfcmjildmaa
namespace Go.Proofs.Ytbhlcfcmjildmaa
open Go Go.RowKit
set_option maxHeartbeats 1000000
/-- The number of the pair that is led to (x, y). -/
def bk (f s : List (List Int)) (n x y : Nat) : Nat := ((List.range (n * n)).find? (fun k => decide (ledK f s n k = (x, y)))).getD 0
theorem led_lt {f s : List (List Int)} {n : Nat} (hp : PMap f s) (hn : f.length = n) {k : Nat} (hk : k < n * n) : (ledK f s n k).1 < n ∧ (ledK f s n k).2 < n := by
  have hn0 : 0 < n := by rcases Nat.eq_zero_or_pos n with e | e; (subst e; simp at hk); exact e
  have hx : k / n < n := Nat.div_lt_of_lt_mul hk
  have hy : k % n < n := Nat.mod_lt _ hn0
  exact ⟨hp.1.ap_lt hn hx hy, hp.2.1.ap_lt (by rw [← hp.2.2]; exact hn) hx hy⟩
theorem bk_led {f s : List (List Int)} {n : Nat} (hc : NoCol f s n) {k x y : Nat} (hk : k < n * n) (h : ledK f s n k = (x, y)) : bk f s n x y = k := by
  unfold bk
  cases e : (List.range (n * n)).find? (fun k => decide (ledK f s n k = (x, y))) with
  | none =>
    rw [List.find?_eq_none] at e
    exact absurd h (by simpa using e k (List.mem_range.2 hk))
  | some j =>
    have h1 := List.find?_some e
    have h2 := List.mem_range.1 (List.mem_of_find?_eq_some e)
    simp at h1
    show j = k
    refine Classical.byContradiction (fun hne => hc j k h2 hk hne ?_)
    rw [h1, h]
theorem bk_spec {f s : List (List Int)} {n : Nat} (hp : PMap f s) (hn : f.length = n) (hc : NoCol f s n) {x y : Nat} (hx : x < n) (hy : y < n) : bk f s n x y < n * n ∧ ledK f s n (bk f s n x y) = (x, y) := by
  have hnd : ((List.range (n * n)).map fun k => (ledK f s n k).1 * n + (ledK f s n k).2).Nodup := by
    rw [List.nodup_iff_pairwise_ne, List.pairwise_map]
    refine List.Pairwise.imp_of_mem ?_ List.pairwise_lt_range
    intro a b ha hb hab e
    have ha := List.mem_range.1 ha
    have hb := List.mem_range.1 hb
    have la := led_lt hp hn ha
    have lb := led_lt hp hn hb
    refine hc a b ha hb (by omega) ?_
    have e1 : ((ledK f s n a).1 * n + (ledK f s n a).2) / n = (ledK f s n a).1 := pair_div n _ _ la.2
    have e2 : ((ledK f s n b).1 * n + (ledK f s n b).2) / n = (ledK f s n b).1 := pair_div n _ _ lb.2
    have e3 : ((ledK f s n a).1 * n + (ledK f s n a).2) % n = (ledK f s n a).2 := pair_mod n _ _ la.2
    have e4 : ((ledK f s n b).1 * n + (ledK f s n b).2) % n = (ledK f s n b).2 := pair_mod n _ _ lb.2
    rw [e] at e1 e3
    exact Prod.ext (e1.symm.trans e2) (e3.symm.trans e4)
  have hrow : ∀ a b, a < n → b < n → a * n + b < n * n := fun a b ha hb => by
    have h9 := Nat.mul_le_mul_right n (show a + 1 ≤ n from ha)
    rw [Nat.add_mul, Nat.one_mul] at h9
    omega
  obtain ⟨l, hl⟩ := subset_perm _ (List.range (n * n)) hnd (fun a ha => by
    obtain ⟨k, hk, e⟩ := List.mem_map.1 ha
    have hk := List.mem_range.1 hk
    have la := led_lt hp hn hk
    rw [← e]
    exact List.mem_range.2 (hrow _ _ la.1 la.2))
  have hll := hl.length_eq
  simp at hll
  subst hll
  have hm : x * n + y ∈ ((List.range (n * n)).map fun k => (ledK f s n k).1 * n + (ledK f s n k).2) := by
    have h := hl.mem_iff.1 (List.mem_range.2 (hrow x y hx hy))
    simpa using h
  obtain ⟨k, hk, e⟩ := List.mem_map.1 hm
  have hk := List.mem_range.1 hk
  have la := led_lt hp hn hk
  have e1 : ((ledK f s n k).1 * n + (ledK f s n k).2) / n = (ledK f s n k).1 := pair_div n _ _ la.2
  have e3 : ((ledK f s n k).1 * n + (ledK f s n k).2) % n = (ledK f s n k).2 := pair_mod n _ _ la.2
  rw [e, pair_div n x y hy] at e1
  rw [e, pair_mod n x y hy] at e3
  have hxy : ledK f s n k = (x, y) := Prod.ext e1.symm e3.symm
  rw [bk_led hc hk hxy]
  exact ⟨hk, hxy⟩
def bk1 (f s : List (List Int)) (n : Nat) : Nat → Nat → Int := fun x y => ((bk f s n x y / n : Nat) : Int)
def bk2 (f s : List (List Int)) (n : Nat) : Nat → Nat → Int := fun x y => ((bk f s n x y % n : Nat) : Int)
def BkRes (f s : List (List Int)) : List (List Int) → List (List Int) → Int → Prop := GRes (SolF f s) f.length (bk1 f s f.length) (bk2 f s f.length) 1
theorem BkRes.ex (f s : List (List Int)) : ∃ zf zg code, BkRes f s zf zg code ∧ ZSz 1048576 zf zf.length zg zg.length := GRes.ex _ _ _ _ _ (fun h => by have := h.1.1.2.1; omega)
end Go.Proofs.Ytbhlcfcmjildmaa
namespace Go.Proofs.Ytbhlcfcmjildmaa
open Go Go.RowKit
open Classical
/-- A nondegenerate solution. -/
def NdS (f s : List (List Int)) : Prop := SolF f s ∧ NonF f s
theorem NdS.map {f s : List (List Int)} (h : NdS f s) : PMap f s := h.1.1
theorem NdS.sizes {f s : List (List Int)} {n : Nat} (h : NdS f s) (hn : f.length = n) : 1 ≤ n ∧ n ≤ 12 ∧ s.length = n := by
  have h1 := h.map.1.1
  have h2 := h.map.1.2.1
  have h3 := h.map.2.2
  exact ⟨by omega, by omega, by omega⟩
theorem NdS.lam {f s : List (List Int)} {n : Nat} (h : NdS f s) (hn : f.length = n) : Gens f n := fun i hi => ⟨by rw [h.map.1.rows i hi, hn], h.2.1 i hi⟩
theorem turn_len {s : List (List Int)} {n : Nat} (hn : s.length = n) (i : Nat) (hi : i < (turnL s).length) : ((turnL s).getD i []).length = n := by
  rw [turnL_length] at hi
  unfold turnL
  rw [grid_row_length _ _ _ hi, hn]
theorem NdS.rho {f s : List (List Int)} {n : Nat} (h : NdS f s) (hn : f.length = n) : Gens (turnL s) n := fun i hi => ⟨turn_len (h.sizes hn).2.2 i hi, h.2.2 i hi⟩
/-- All lambda and all rho. -/
def bothL (f s : List (List Int)) : List (List Int) := f ++ turnL s
theorem bothL_length {f s : List (List Int)} {n m : Nat} (hn : f.length = n) (hm : s.length = m) : (bothL f s).length = n + m := by
  unfold bothL
  rw [List.length_append, turnL_length, hn, hm]
theorem bothL_fst {f s : List (List Int)} {n : Nat} (hn : f.length = n) (i : Nat) (hi : i < n) : (bothL f s).getD i [] = f.getD i [] := by
  have : i < f.length := by omega
  simp [bothL, List.getElem?_append, this]
theorem bothL_snd {f s : List (List Int)} {n : Nat} (hn : f.length = n) (i : Nat) : (bothL f s).getD (n + i) [] = (turnL s).getD i [] := by
  have h : ¬ n + i < f.length := by omega
  have e : n + i - f.length = i := by omega
  simp [bothL, List.getElem?_append, h, e]
theorem NdS.both {f s : List (List Int)} {n : Nat} (h : NdS f s) (hn : f.length = n) : Gens (bothL f s) n := by
  intro r hr
  have hsn := (h.sizes hn).2.2
  rw [bothL_length hn hsn] at hr
  by_cases hlt : r < n
  · rw [bothL_fst hn r hlt]
    exact h.lam hn r (by omega)
  · obtain ⟨i, rfl⟩ : ∃ i, r = n + i := ⟨r - n, by omega⟩
    rw [bothL_snd hn]
    exact h.rho hn i (by rw [turnL_length]; omega)
/-- A list of rows that is told of what is good. -/
def TRes7 (good : Prop) (rows : List (List Int)) (zs : List (List Int)) (code : Int) : Prop := (good ∧ zs = rows ∧ code = 0) ∨ (¬ good ∧ zs = [] ∧ code = 1)
def LamRes (f s : List (List Int)) : List (List Int) → Int → Prop := TRes7 (NdS f s) f
def RhoRes (f s : List (List Int)) : List (List Int) → Int → Prop := TRes7 (NdS f s) (turnL s)
theorem LamRes.ex (f s : List (List Int)) : ∃ zs code, LamRes f s zs code ∧ zs.length ≤ 1048576 ∧ ∀ i, i < zs.length → (zs.getD i []).length ≤ 1048576 := by
  by_cases h : NdS f s
  · have h1 := h.sizes rfl
    exact ⟨_, _, .inl ⟨h, rfl, rfl⟩, by omega, fun i hi => by rw [(h.lam rfl i hi).1]; omega⟩
  · exact ⟨_, _, .inr ⟨h, rfl, rfl⟩, by simp, by simp⟩
theorem RhoRes.ex (f s : List (List Int)) : ∃ zs code, RhoRes f s zs code ∧ zs.length ≤ 1048576 ∧ ∀ i, i < zs.length → (zs.getD i []).length ≤ 1048576 := by
  by_cases h : NdS f s
  · have h1 := h.sizes rfl
    exact ⟨_, _, .inl ⟨h, rfl, rfl⟩, by rw [turnL_length]; omega, fun i hi => by rw [(h.rho rfl i hi).1]; omega⟩
  · exact ⟨_, _, .inr ⟨h, rfl, rfl⟩, by simp, by simp⟩
/-- A list of numbers that is told of what is good. -/
def RRes7 (good : Prop) (row : List Int) (zs : List Int) (code : Int) : Prop := (good ∧ zs = row ∧ code = 0) ∨ (¬ good ∧ zs = [] ∧ code = 1)
theorem RRes7.ex (good : Prop) (row : List Int) (h : good → row.length ≤ 1048576) : ∃ zs code, RRes7 good row zs code ∧ zs.length ≤ 1048576 := by
  by_cases hg : good
  · exact ⟨_, _, .inl ⟨hg, rfl, rfl⟩, h hg⟩
  · exact ⟨_, _, .inr ⟨hg, rfl, rfl⟩, by simp⟩
/-- The numbers of the orbits. -/
noncomputable def orbS (f s : List (List Int)) : List Int := labL (bothL f s) f.length f.length
noncomputable def orbN (f s : List (List Int)) : Nat := (lab (bothL f s) f.length).2
def OsRes7 (f s : List (List Int)) : List Int → Int → Prop := RRes7 (NdS f s) (orbS f s)
theorem OsRes7.ex (f s : List (List Int)) : ∃ zs code, OsRes7 f s zs code ∧ zs.length ≤ 1048576 := RRes7.ex _ _ (fun h => by unfold orbS; rw [labL_length]; have := h.sizes rfl; omega)
def IndRes (f s : List (List Int)) : Bool → Int → Prop := BRes (NdS f s) (orbN f s = 1)
theorem IndRes.ex (f s : List (List Int)) : ∃ r code, IndRes f s r code := BRes.ex _ _
/-- The order of a group of permutations of a solution. -/
def OrdR7 (good : Prop) (n : Nat) (rows : List (List Int)) (v code : Int) : Prop := (good ∧ OrdR n rows 1000 3 v code) ∨ (¬ good ∧ v = 0 ∧ code = 1)
theorem OrdR7.ex (good : Prop) (n : Nat) (rows : List (List Int)) : ∃ v code, OrdR7 good n rows v code := by
  by_cases h : good
  · obtain ⟨v, code, h2⟩ := OrdR.ex n rows 1000 3
    exact ⟨v, code, .inl ⟨h, h2⟩⟩
  · exact ⟨0, 1, .inr ⟨h, rfl, rfl⟩⟩
def LgoRes (f s : List (List Int)) : Int → Int → Prop := OrdR7 (NdS f s) f.length f
def RgoRes (f s : List (List Int)) : Int → Int → Prop := OrdR7 (NdS f s) f.length (turnL s)
def WgoRes (f s : List (List Int)) : Int → Int → Prop := OrdR7 (NdS f s) f.length (bothL f s)
theorem LgoRes.ex (f s : List (List Int)) : ∃ v code, LgoRes f s v code := OrdR7.ex _ _ _
theorem RgoRes.ex (f s : List (List Int)) : ∃ v code, RgoRes f s v code := OrdR7.ex _ _ _
theorem WgoRes.ex (f s : List (List Int)) : ∃ v code, WgoRes f s v code := OrdR7.ex _ _ _
/-- Any two lambda commute. -/
def ComF (f : List (List Int)) : Prop := ∀ i, i < f.length → ∀ j, j < i → thenL (f.getD i []) (f.getD j []) = thenL (f.getD j []) (f.getD i [])
def AbRes (f s : List (List Int)) : Bool → Int → Prop := BRes (NdS f s) (ComF f)
theorem AbRes.ex (f s : List (List Int)) : ∃ r code, AbRes f s r code := BRes.ex _ _
end Go.Proofs.Ytbhlcfcmjildmaa
namespace Go.Proofs.Ytbhlcfcmjildmaa
open Go Go.RowKit
set_option maxHeartbeats 1000000

/-- Block b begins with three elements. -/
def L3 (w : World) (b x y z : Nat) : Prop := b < w.heap.size ∧ w.cell? ⟨b, 0, none⟩ = some (.int .i64 x) ∧ w.cell? ⟨b, 1, none⟩ = some (.int .i64 y) ∧ w.cell? ⟨b, 2, none⟩ = some (.int .i64 z)
theorem L3.later {w w' : World} {b x y z : Nat} (h : L3 w b x y z) (hb : Below w.heap.size w w') : L3 w' b x y z :=
  ⟨Nat.lt_of_lt_of_le h.1 hb.size, (hb.cell (p := ⟨b, 0, none⟩) h.1).trans h.2.1, (hb.cell (p := ⟨b, 1, none⟩) h.1).trans h.2.2.1, (hb.cell (p := ⟨b, 2, none⟩) h.1).trans h.2.2.2⟩
theorem L3.of_own {t : TypeId} {w : World} {g x y z : Nat} {xs : List Int} (h : OwnB t w g xs) (hx : xs = lst3 (x, y, z)) : L3 w g x y z := by
  subst hx
  exact ⟨h.lt, h.cell (i := 0) (by simp [lst3]), h.cell (i := 1) (by simp [lst3]), h.cell (i := 2) (by simp [lst3])⟩
theorem L3.own {w : World} {b x y z : Nat} (h : L3 w b x y z) : ∀ i, i < (lst3 (x, y, z)).length → w.cell? ⟨b, 0 + i, none⟩ = some (.int .i64 ((lst3 (x, y, z)).getD i 0)) := by
  intro i hi
  simp [lst3] at hi
  rcases i with _ | _ | _ | i
  · exact h.2.1
  · exact h.2.2.1
  · exact h.2.2.2
  · omega
theorem L3.rd {w : World} {b x y z : Nat} (h : L3 w b x y z) : Rd w (some ⟨b, 0, none⟩) (lst3 (x, y, z)) := fun _ => ⟨b, 0, rfl, h.1, h.own⟩

set_option maxRecDepth 100000 in
theorem do0_any (A : Option Addr) (n c : Nat) (f : List (List Int)) (B : Option Addr) (m d : Nat) (s : List (List Int)) (bc e : Nat) (x y z x' y' z' : Nat) (w : World) (hz : ZArg 1048576 w A n f B m s) (hp : PMap f s) (hi3 : In3 n (x, y, z)) (hdo : doAt f s 0 (x, y, z) = (x', y', z')) (hl : L3 w bc x y z) :
    Calls Try.prog 59 #[.agg #[.slice A n c, .slice B m d], .slice (some ⟨bc, 0, none⟩) 3 e, .int .i64 0] w fun e w' => ∃ g cap, e = .returned (.slice (some ⟨g, 0, none⟩) 3 cap) ∧ Below w.heap.size w w' ∧ w.heap.size ≤ g ∧ L3 w' g x' y' z' := by
  have HZ := hide hz
  have HP := hide hp
  have hnb := hz.sz.nb
  have hx : x < n := hi3.1
  have hy : y < n := hi3.2.1
  have hz' : z < n := hi3.2.2
  obtain rfl := hz.same hp
  have HL := hide hl
  have hbc := hl.1
  have HB0 := hide ((Below.refl _ w).alloc (Nat.le_refl _) (Obj.cells #[Value.slice A m c, Value.slice B m d] 29))
  have HK0 := hide (Blk.new w 29 [.slice A m c, .slice B m d])
  obtain ⟨u, hu⟩ : ∃ u, ap f x y = u := ⟨_, rfl⟩
  obtain ⟨v, hv⟩ : ∃ v, ap s x y = v := ⟨_, rfl⟩
  have hdo' : (u, v, z) = (x', y', z') := by rw [← hdo, ← hu, ← hv]; rfl
  injection hdo' with d1 d2
  injection d2 with d2 d3
  subst d1
  subst d2
  subst d3
  have HU := hide hu
  have HV := hide hv
  clear hz hp hl hi3 hdo hu hv
  go_enter Try.func59, Try.ntmps59
  go_wp2_with fail
  refine (own_any bc 0 3 e (lst3 (x, y, z)) _ rfl (by omega) (by have := HB0.out.size; omega) (HL.out.later HB0.out).own).mono ?_
  rintro e w1 ⟨v1, rfl, hb1, ho1⟩
  obtain ⟨A1, cap, hv, hres⟩ := own_shape ho1
  subst hv
  rcases hres with ⟨rfl, h⟩ | ⟨g, rfl, hg, how⟩
  · cases h
  have HB1 := hide (HB0.out.trans (hb1.mono HB0.out.size))
  have HK1 := hide (HK0.out.later hb1)
  have HL1 := hide ((HL.out.later HB0.out).later hb1)
  have HO1 := hide how
  have hgw : w.heap.size < g := by have := HK0.out.lt; omega
  clear hb1 ho1 how hg
  obtain ⟨bA, oA, bB, oB, bx, ox, cx, bY, oy, cy, rfl, rfl, h1, h2, h3, h4, l1, l2, l3, l4⟩ := HZ.out.reads HP.out hx hy
  rw [HU.out] at h3
  rw [HV.out] at h4
  have H2 := hide h2
  have H4 := hide h4
  have k0 := HK1.out.cell 0 _ rfl
  have k1 := HL1.out.2.1
  have k2 := HL1.out.2.2.1
  have r1 : w1.cell? ⟨bA, oA + x, none⟩ = some (.slice (some ⟨bx, ox, none⟩) m cx) := (HB1.out.cell (p := ⟨bA, oA + x, none⟩) l1).trans h1
  have r2 : w1.cell? ⟨bx, ox + y, none⟩ = some (.int .i64 u) := (HB1.out.cell (p := ⟨bx, ox + y, none⟩) l3).trans h3
  have g0 := HO1.out.cell (i := 0) (by simp [lst3])
  have g1 := HO1.out.frozen 0
  have n1 : g ≠ w.heap.size := by omega
  have n2 : g ≠ bc := by omega
  have n3 : g ≠ bA := by omega
  have n4 : g ≠ bx := by omega
  have n5 := n1.symm
  have n6 := n2.symm
  have n7 := n3.symm
  have n8 := n4.symm
  have az : (x : Int) < m := by omega
  have bz : (y : Int) < m := by omega
  have az0 : (0 : Int) ≤ x := by omega
  have bz0 : (0 : Int) ≤ y := by omega
  clear h1 h2 h3 h4
  have hw1 : IntKind.i64.wrap 1 = 1 := IntWalk.i64_in _ (by omega)
  have hw2 : IntKind.i64.wrap 2 = 2 := IntWalk.i64_in _ (by omega)
  go_wp2_with fail
  go_region_held3 (fun w' => w'.cell? ⟨w.heap.size, 0, none⟩ = some (.slice (some ⟨bA, oA, none⟩) m c) ∧ w'.cell? ⟨bc, 0, none⟩ = some (.int .i64 x) ∧ w'.cell? ⟨bc, 1, none⟩ = some (.int .i64 y) ∧ w'.cell? ⟨bA, oA + x, none⟩ = some (.slice (some ⟨bx, ox, none⟩) m cx) ∧ w'.cell? ⟨bx, ox + y, none⟩ = some (.int .i64 u)) (first | exact ⟨k0, k1, k2, r1, r2⟩ | go_keep) (first | fail)
  clear k0 k1 k2 r1 r2 g0 g1
  refine ex_gen (Q := Exit.then _ _) fun w2 hww2 => ?_
  have ht : Touch g (g + 1) w1 w2 := by rw [hww2]; exact ⟨rfl, rfl, rfl, by simp [World.setCell], fun k _ hne => by first | exact Below.heap_setCell w1 ⟨g, 0, none⟩ _ k (by show k ≠ g; omega) | exact (Below.heap_setCell w1.drew ⟨g, 0, none⟩ _ k (by show k ≠ g; omega))⟩
  have HO2 : Hid (OwnB 2 w2 g ((lst3 (x, y, z)).set 0 (u : Int))) := hide (by rw [hww2]; first | exact HO1.out.set 0 u (by simp [lst3]) | exact OwnB.set (w := w1.drew) HO1.out 0 u (by simp [lst3]))
  have HB2 := hide (ht.below HB1.out HB1.out.size (by omega))
  have HK2 := hide (HK1.out.touch ht (.inl (by omega)))
  have k0 := HK2.out.cell 1 _ rfl
  have k1 : w2.cell? ⟨bc, 0, none⟩ = some (.int .i64 x) := (World.cell?_of_block (a := ⟨bc, 0, none⟩) (ht.block bc HL1.out.1 (.inl (by omega)))).trans HL1.out.2.1
  have k2 : w2.cell? ⟨bc, 1, none⟩ = some (.int .i64 y) := (World.cell?_of_block (a := ⟨bc, 1, none⟩) (ht.block bc HL1.out.1 (.inl (by omega)))).trans HL1.out.2.2.1
  have r1 : w2.cell? ⟨bB, oB + x, none⟩ = some (.slice (some ⟨bY, oy, none⟩) m cy) := (HB2.out.cell (p := ⟨bB, oB + x, none⟩) l2).trans H2.out
  have r2 : w2.cell? ⟨bY, oy + y, none⟩ = some (.int .i64 v) := (HB2.out.cell (p := ⟨bY, oy + y, none⟩) l4).trans H4.out
  have g0 := HO2.out.cell (i := 1) (by simp [lst3])
  have g1 := HO2.out.frozen 1
  have n3 : g ≠ bB := by omega
  have n4 : g ≠ bY := by omega
  have n7 := n3.symm
  have n8 := n4.symm
  clear hww2 ht
  go_wp2_with fail
  go_region_held3 (fun w' => w'.cell? ⟨w.heap.size, 1, none⟩ = some (.slice (some ⟨bB, oB, none⟩) m d) ∧ w'.cell? ⟨bc, 0, none⟩ = some (.int .i64 x) ∧ w'.cell? ⟨bc, 1, none⟩ = some (.int .i64 y) ∧ w'.cell? ⟨bB, oB + x, none⟩ = some (.slice (some ⟨bY, oy, none⟩) m cy) ∧ w'.cell? ⟨bY, oy + y, none⟩ = some (.int .i64 v)) (first | exact ⟨k0, k1, k2, r1, r2⟩ | go_keep) (first | fail)
  clear k0 k1 k2 r1 r2 g0 g1
  refine ex_gen (Q := Exit.then _ _) fun w3 hw3 => ?_
  have HO3 : Hid (OwnB 2 w3 g (((lst3 (x, y, z)).set 0 (u : Int)).set 1 (v : Int))) := hide (by rw [hw3]; first | exact HO2.out.set 1 v (by simp [lst3]) | exact OwnB.set (w := w2.drew) HO2.out 1 v (by simp [lst3]))
  have HB3 : Hid (Below w.heap.size w w3) := hide (by rw [hw3]; first | exact HB2.out.setCell (p := ⟨g, 1, none⟩) (by show w.heap.size ≤ g; omega) _ | exact HB2.out.drew.setCell (p := ⟨g, 1, none⟩) (by show w.heap.size ≤ g; omega) _)
  clear hw3
  go_wp2_with fail
  go_ret
  exact ⟨g, cap, rfl, HB3.out, by omega, L3.of_own HO3.out rfl⟩

set_option maxRecDepth 100000 in
theorem do1_any (A : Option Addr) (n c : Nat) (f : List (List Int)) (B : Option Addr) (m d : Nat) (s : List (List Int)) (bc e : Nat) (x y z x' y' z' : Nat) (w : World) (hz : ZArg 1048576 w A n f B m s) (hp : PMap f s) (hi3 : In3 n (x, y, z)) (hdo : doAt f s 1 (x, y, z) = (x', y', z')) (hl : L3 w bc x y z) :
    Calls Try.prog 59 #[.agg #[.slice A n c, .slice B m d], .slice (some ⟨bc, 0, none⟩) 3 e, .int .i64 1] w fun e w' => ∃ g cap, e = .returned (.slice (some ⟨g, 0, none⟩) 3 cap) ∧ Below w.heap.size w w' ∧ w.heap.size ≤ g ∧ L3 w' g x' y' z' := by
  have HZ := hide hz
  have HP := hide hp
  have hnb := hz.sz.nb
  have hx : x < n := hi3.1
  have hy : y < n := hi3.2.1
  have hz' : z < n := hi3.2.2
  obtain rfl := hz.same hp
  have HL := hide hl
  have hbc := hl.1
  have HB0 := hide ((Below.refl _ w).alloc (Nat.le_refl _) (Obj.cells #[Value.slice A m c, Value.slice B m d] 29))
  have HK0 := hide (Blk.new w 29 [.slice A m c, .slice B m d])
  obtain ⟨u, hu⟩ : ∃ u, ap f y z = u := ⟨_, rfl⟩
  obtain ⟨v, hv⟩ : ∃ v, ap s y z = v := ⟨_, rfl⟩
  have hdo' : (x, u, v) = (x', y', z') := by rw [← hdo, ← hu, ← hv]; rfl
  injection hdo' with d1 d2
  injection d2 with d2 d3
  subst d1
  subst d2
  subst d3
  have HU := hide hu
  have HV := hide hv
  clear hz hp hl hi3 hdo hu hv
  go_enter Try.func59, Try.ntmps59
  go_wp2_with fail
  refine (own_any bc 0 3 e (lst3 (x, y, z)) _ rfl (by omega) (by have := HB0.out.size; omega) (HL.out.later HB0.out).own).mono ?_
  rintro e w1 ⟨v1, rfl, hb1, ho1⟩
  obtain ⟨A1, cap, hv, hres⟩ := own_shape ho1
  subst hv
  rcases hres with ⟨rfl, h⟩ | ⟨g, rfl, hg, how⟩
  · cases h
  have HB1 := hide (HB0.out.trans (hb1.mono HB0.out.size))
  have HK1 := hide (HK0.out.later hb1)
  have HL1 := hide ((HL.out.later HB0.out).later hb1)
  have HO1 := hide how
  have hgw : w.heap.size < g := by have := HK0.out.lt; omega
  clear hb1 ho1 how hg
  obtain ⟨bA, oA, bB, oB, bx, ox, cx, bY, oy, cy, rfl, rfl, h1, h2, h3, h4, l1, l2, l3, l4⟩ := HZ.out.reads HP.out hy hz'
  rw [HU.out] at h3
  rw [HV.out] at h4
  have H2 := hide h2
  have H4 := hide h4
  have k0 := HK1.out.cell 0 _ rfl
  have k1 := HL1.out.2.2.1
  have k2 := HL1.out.2.2.2
  have r1 : w1.cell? ⟨bA, oA + y, none⟩ = some (.slice (some ⟨bx, ox, none⟩) m cx) := (HB1.out.cell (p := ⟨bA, oA + y, none⟩) l1).trans h1
  have r2 : w1.cell? ⟨bx, ox + z, none⟩ = some (.int .i64 u) := (HB1.out.cell (p := ⟨bx, ox + z, none⟩) l3).trans h3
  have g0 := HO1.out.cell (i := 1) (by simp [lst3])
  have g1 := HO1.out.frozen 1
  have n1 : g ≠ w.heap.size := by omega
  have n2 : g ≠ bc := by omega
  have n3 : g ≠ bA := by omega
  have n4 : g ≠ bx := by omega
  have n5 := n1.symm
  have n6 := n2.symm
  have n7 := n3.symm
  have n8 := n4.symm
  have az : (y : Int) < m := by omega
  have bz : (z : Int) < m := by omega
  have az0 : (0 : Int) ≤ y := by omega
  have bz0 : (0 : Int) ≤ z := by omega
  clear h1 h2 h3 h4
  have hw1 : IntKind.i64.wrap 1 = 1 := IntWalk.i64_in _ (by omega)
  have hw2 : IntKind.i64.wrap 2 = 2 := IntWalk.i64_in _ (by omega)
  go_wp2_with fail
  go_region_held3 (fun w' => w'.cell? ⟨w.heap.size, 0, none⟩ = some (.slice (some ⟨bA, oA, none⟩) m c) ∧ w'.cell? ⟨bc, 1, none⟩ = some (.int .i64 y) ∧ w'.cell? ⟨bc, 2, none⟩ = some (.int .i64 z) ∧ w'.cell? ⟨bA, oA + y, none⟩ = some (.slice (some ⟨bx, ox, none⟩) m cx) ∧ w'.cell? ⟨bx, ox + z, none⟩ = some (.int .i64 u)) (first | exact ⟨k0, k1, k2, r1, r2⟩ | go_keep) (first | fail)
  clear k0 k1 k2 r1 r2 g0 g1
  refine ex_gen (Q := Exit.then _ _) fun w2 hww2 => ?_
  have ht : Touch g (g + 1) w1 w2 := by rw [hww2]; exact ⟨rfl, rfl, rfl, by simp [World.setCell], fun k _ hne => by first | exact Below.heap_setCell w1 ⟨g, 1, none⟩ _ k (by show k ≠ g; omega) | exact (Below.heap_setCell w1.drew ⟨g, 1, none⟩ _ k (by show k ≠ g; omega))⟩
  have HO2 : Hid (OwnB 2 w2 g ((lst3 (x, y, z)).set 1 (u : Int))) := hide (by rw [hww2]; first | exact HO1.out.set 1 u (by simp [lst3]) | exact OwnB.set (w := w1.drew) HO1.out 1 u (by simp [lst3]))
  have HB2 := hide (ht.below HB1.out HB1.out.size (by omega))
  have HK2 := hide (HK1.out.touch ht (.inl (by omega)))
  have k0 := HK2.out.cell 1 _ rfl
  have k1 : w2.cell? ⟨bc, 1, none⟩ = some (.int .i64 y) := (World.cell?_of_block (a := ⟨bc, 1, none⟩) (ht.block bc HL1.out.1 (.inl (by omega)))).trans HL1.out.2.2.1
  have k2 : w2.cell? ⟨bc, 2, none⟩ = some (.int .i64 z) := (World.cell?_of_block (a := ⟨bc, 2, none⟩) (ht.block bc HL1.out.1 (.inl (by omega)))).trans HL1.out.2.2.2
  have r1 : w2.cell? ⟨bB, oB + y, none⟩ = some (.slice (some ⟨bY, oy, none⟩) m cy) := (HB2.out.cell (p := ⟨bB, oB + y, none⟩) l2).trans H2.out
  have r2 : w2.cell? ⟨bY, oy + z, none⟩ = some (.int .i64 v) := (HB2.out.cell (p := ⟨bY, oy + z, none⟩) l4).trans H4.out
  have g0 := HO2.out.cell (i := 2) (by simp [lst3])
  have g1 := HO2.out.frozen 2
  have n3 : g ≠ bB := by omega
  have n4 : g ≠ bY := by omega
  have n7 := n3.symm
  have n8 := n4.symm
  clear hww2 ht
  go_wp2_with fail
  go_region_held3 (fun w' => w'.cell? ⟨w.heap.size, 1, none⟩ = some (.slice (some ⟨bB, oB, none⟩) m d) ∧ w'.cell? ⟨bc, 1, none⟩ = some (.int .i64 y) ∧ w'.cell? ⟨bc, 2, none⟩ = some (.int .i64 z) ∧ w'.cell? ⟨bB, oB + y, none⟩ = some (.slice (some ⟨bY, oy, none⟩) m cy) ∧ w'.cell? ⟨bY, oy + z, none⟩ = some (.int .i64 v)) (first | exact ⟨k0, k1, k2, r1, r2⟩ | go_keep) (first | fail)
  clear k0 k1 k2 r1 r2 g0 g1
  refine ex_gen (Q := Exit.then _ _) fun w3 hw3 => ?_
  have HO3 : Hid (OwnB 2 w3 g (((lst3 (x, y, z)).set 1 (u : Int)).set 2 (v : Int))) := hide (by rw [hw3]; first | exact HO2.out.set 2 v (by simp [lst3]) | exact OwnB.set (w := w2.drew) HO2.out 2 v (by simp [lst3]))
  have HB3 : Hid (Below w.heap.size w w3) := hide (by rw [hw3]; first | exact HB2.out.setCell (p := ⟨g, 2, none⟩) (by show w.heap.size ≤ g; omega) _ | exact HB2.out.drew.setCell (p := ⟨g, 2, none⟩) (by show w.heap.size ≤ g; omega) _)
  clear hw3
  go_wp2_with fail
  go_ret
  exact ⟨g, cap, rfl, HB3.out, by omega, L3.of_own HO3.out rfl⟩
end Go.Proofs.Ytbhlcfcmjildmaa
namespace Go.Proofs.Ytbhlcfcmjildmaa
open Go Go.RowKit
set_option maxHeartbeats 1000000

/-- Three elements as a value. -/
def tv (t : Nat × Nat × Nat) : Value := .agg #[.int .i64 t.1, .int .i64 t.2.1, .int .i64 t.2.2]

set_option maxRecDepth 100000 in
theorem leadAt0_any (A : Option Addr) (n c : Nat) (f : List (List Int)) (B : Option Addr) (m d : Nat) (s : List (List Int)) (x y z : Nat) (w : World) (hz : ZArg 1048576 w A n f B m s) (hp : PMap f s) (hx : x < n) (hy : y < n) (_hz' : z < n) :
    Calls Try.prog 84 #[.agg #[.slice A n c, .slice B m d], .int .i64 0, tv (x, y, z)] w fun e w' => e = .returned (tv (at0 f s (x, y, z))) ∧ Below w.heap.size w w' := by
  have HZ := hide hz
  have HP := hide hp
  have h12 := hz.sz.nb
  unfold at0 tv
  show Calls Try.prog 84 #[.agg #[.slice A n c, .slice B m d], .int .i64 0, .agg #[.int .i64 x, .int .i64 y, .int .i64 z]] w fun e w' => e = .returned (.agg #[.int .i64 (ap f x y : Nat), .int .i64 (ap s x y : Nat), .int .i64 (z : Nat)]) ∧ Below w.heap.size w w'
  obtain ⟨u, hu⟩ : ∃ u, ap f x y = u := ⟨_, rfl⟩
  obtain ⟨v, hv⟩ : ∃ v, ap s x y = v := ⟨_, rfl⟩
  rw [hu, hv]
  have HU := hide hu
  have HV := hide hv
  clear hz hp hu hv
  have hwp1 : IntKind.i64.wrap 1 = 1 := IntWalk.i64_in _ (by omega)
  have hwp2 : IntKind.i64.wrap 2 = 2 := IntWalk.i64_in _ (by omega)
  go_enter Try.func84, Try.ntmps84
  go_wp2_with fail
  refine wp_gen fun w1 hw1 => ?_
  have hb1 : Below w.heap.size w w1 := by rw [hw1]; exact (((Below.refl _ _).alloc (Nat.le_refl _) _).alloc (by simp) _).alloc (by simp; omega) _
  have HS : Hid (Blk w1 w.heap.size 29 [.slice A n c, .slice B m d]) := hide (by rw [hw1]; exact ((Blk.new _ _ _).alloc _).alloc _)
  have HL : Hid (Blk w1 (w.heap.size + 1) 80 [.int .i64 x, .int .i64 y, .int .i64 z]) := hide (by rw [hw1]; have h := (Blk.new (w.alloc (Obj.cells #[Value.slice A n c, Value.slice B m d] 29)) 80 [.int .i64 x, .int .i64 y, .int .i64 z]).alloc (Obj.cells #[Value.int IntKind.i64 0, Value.int IntKind.i64 0, Value.int IntKind.i64 0] 80); simpa using h)
  have HO : Hid (Blk w1 (w.heap.size + 1 + 1) 80 [.int .i64 0, .int .i64 0, .int .i64 0]) := hide (by rw [hw1]; have h := Blk.new ((w.alloc (Obj.cells #[Value.slice A n c, Value.slice B m d] 29)).alloc (Obj.cells #[Value.int IntKind.i64 x, Value.int IntKind.i64 y, Value.int IntKind.i64 z] 80)) 80 [.int .i64 0, .int .i64 0, .int .i64 0]; simpa using h)
  have HBc := hide hb1
  replace HZ := hide (HZ.out.later hb1)
  have Z1 : Hid (w1.heap.size = w.heap.size + 1 + 1 + 1) := hide (by rw [hw1]; simp)
  have j1 : w1.heap.size ≠ w.heap.size := by have := Z1.out; omega
  have j2 : w1.heap.size ≠ w.heap.size + 1 := by have := Z1.out; omega
  have j3 := j1.symm
  have j4 := j2.symm
  have hz1 : w.heap.size + 1 < w1.heap.size := by have := Z1.out; omega
  clear hw1 hb1
  have k0 := HS.out.cell 0 _ rfl
  have k1 := HS.out.cell 1 _ rfl
  have k2 := HL.out.cell 0 _ rfl
  have k3 := HL.out.cell 1 _ rfl
  have k4 := HL.out.cell 2 _ rfl
  go_region_held3 (fun w' => w'.cell? ⟨w.heap.size, 0, none⟩ = some (.slice A n c) ∧ w'.cell? ⟨w.heap.size, 1, none⟩ = some (.slice B m d) ∧ w'.cell? ⟨w.heap.size + 1, 0, none⟩ = some (.int .i64 x) ∧ w'.cell? ⟨w.heap.size + 1, 1, none⟩ = some (.int .i64 y) ∧ w'.cell? ⟨w.heap.size + 1, 2, none⟩ = some (.int .i64 z)) (first | exact ⟨k0, k1, k2, k3, k4⟩ | go_keep) (first | (go_at_call 68; go_must (refine calls_gen fun wc hwc => ?_; (first | (have hbx := al_drew_below hwc; have HPB : Hid (Blk wc w1.heap.size 84 [.int .i64 0, .int .i64 0]) := hide (by rw [hwc]; exact Blk.new _ _ _)) | (have hbx := al_below hwc; have HPB : Hid (Blk wc w1.heap.size 84 [.int .i64 0, .int .i64 0]) := hide (by rw [hwc]; exact Blk.new _ _ _)) | (have hbx := drew_below hwc; have HPB : Hid True := hide trivial) | (have hbx := eq_below hwc; have HPB : Hid True := hide trivial)); have hbx0 := hide hbx.size; replace HBc := hide (HBc.out.trans (hbx.mono HBc.out.size)); replace HZ := hide (HZ.out.later hbx); replace HS := hide (HS.out.later hbx); replace HL := hide (HL.out.later hbx); replace HO := hide (HO.out.later hbx); clear hwc hbx; refine (lead_any _ _ _ f _ _ _ s x y _ HZ.out HP.out hx hy).mono ?_; rintro e wd ⟨rfl, hbd⟩; replace HBc := hide (HBc.out.trans (hbd.mono HBc.out.size)); replace HZ := hide (HZ.out.later hbd); replace HS := hide (HS.out.later hbd); replace HL := hide (HL.out.later hbd); replace HO := hide (HO.out.later hbd); (first | (replace HPB := hide (HPB.out.later hbd); have k5 := HPB.out.cell 0 _ rfl; have k6 := HPB.out.cell 1 _ rfl; have k7 := HPB.out.frozen 0; have k8 := HPB.out.frozen 1) | skip); have hsd := hbd.size; have hsx := hbx0.out; have g1 : wd.heap.size ≠ w.heap.size := (by omega); have g2 : wd.heap.size ≠ w.heap.size + 1 := (by omega); have g3 := g1.symm; have g4 := g2.symm; clear hsd hsx; clear hbd; have k0 := HS.out.cell 0 _ rfl; have k1 := HS.out.cell 1 _ rfl; have k2 := HL.out.cell 0 _ rfl; have k3 := HL.out.cell 1 _ rfl; have k4 := HL.out.cell 2 _ rfl; rw [HU.out, HV.out])))

  · clear k0 k1 k2 k3 k4
    refine ex_gen (Q := Exit.then _ _) fun w2 hw2 => ?_
    have hb2 : Below wd.heap.size wd w2 := by rw [hw2]; exact (Below.refl _ _).alloc (Nat.le_refl _) _
    have hsz := Z1.out
    have hsw : w.heap.size + 1 + 1 < wd.heap.size := by have := HO.out.lt; omega
    have HL2 : Hid (Blk w2 (w.heap.size + 1) 80 [.int .i64 x, .int .i64 y, .int .i64 z]) := hide (HL.out.later hb2)
    have HO2 : Hid (Blk w2 (w.heap.size + 1 + 1) 80 [.int .i64 0, .int .i64 0, .int .i64 0]) := hide (HO.out.later hb2)
    have HP2 : Hid (Blk w2 (wd.heap.size) 84 [.int .i64 u, .int .i64 v]) := hide (by rw [hw2]; exact Blk.new _ _ _)
    have HB2 : Hid (Below w.heap.size w w2) := hide (by rw [hw2]; exact HBc.out.alloc HBc.out.size _)
    clear hw2
    obtain ⟨P, hPe⟩ : ∃ P, wd.heap.size = P := ⟨_, rfl⟩
    rw [hPe] at HP2 hsw ⊢
    have l0 := HL2.out.cell 0 _ rfl
    have l1 := HL2.out.cell 1 _ rfl
    have l2 := HL2.out.cell 2 _ rfl
    have l3 := HL2.out.frozen 0
    have l4 := HL2.out.frozen 1
    have l5 := HL2.out.frozen 2
    have p0 := HP2.out.cell 0 _ rfl
    have p1 := HP2.out.cell 1 _ rfl
    have o0 := HO2.out.cell 0 _ rfl
    have o1 := HO2.out.cell 1 _ rfl
    have o2 := HO2.out.cell 2 _ rfl
    have o3 := HO2.out.frozen 0
    have o4 := HO2.out.frozen 1
    have o5 := HO2.out.frozen 2
    have n1 : P ≠ w.heap.size + 1 := by omega
    have n2 : P ≠ w.heap.size + 1 + 1 := by omega
    have n3 := n1.symm
    have n4 := n2.symm
    go_wp2_with fail
    obtain ⟨y', hy'⟩ := cell?_setCell_some (w := w2.drew) (p := ⟨w.heap.size + 1, 0, none⟩) (x := Value.int IntKind.i64 u) (q := ⟨w.heap.size + 1, 1, none⟩) (v := Value.int IntKind.i64 y) (by go_simp)
    go_region
    go_wp2_with fail
    refine bp_gen fun wf hwf => ?_
    have hfar : w.heap.size + 1 + 1 ≠ w.heap.size + 1 := by omega
    have hlo1 : w.heap.size ≤ w.heap.size + 1 := by omega
    have hlo2 : w.heap.size ≤ w.heap.size + 1 + 1 := by omega
    have HRF : Blk wf (w.heap.size + 1 + 1) 80 [.int .i64 u, .int .i64 v, .int .i64 z] := by rw [hwf]; first | exact ((((((HO2.out.far (p := ⟨w.heap.size + 1, 0, none⟩) hfar _).far (p := ⟨w.heap.size + 1, 1, none⟩) hfar _).set 0 _).set 1 _).set 2 _).drew) | exact (((((HO2.out.far (p := ⟨w.heap.size + 1, 0, none⟩) hfar _).far (p := ⟨w.heap.size + 1, 1, none⟩) hfar _).set 0 _).set 1 _).set 2 _)
    have HBF : Below w.heap.size w wf := by rw [hwf]; first | exact ((((((HB2.out.setCell (p := ⟨w.heap.size + 1, 0, none⟩) hlo1 _).setCell (p := ⟨w.heap.size + 1, 1, none⟩) hlo1 _).setCell (p := ⟨w.heap.size + 1 + 1, 0, none⟩) hlo2 _).setCell (p := ⟨w.heap.size + 1 + 1, 1, none⟩) hlo2 _).setCell (p := ⟨w.heap.size + 1 + 1, 2, none⟩) hlo2 _).drew) | exact (((((HB2.out.setCell (p := ⟨w.heap.size + 1, 0, none⟩) hlo1 _).setCell (p := ⟨w.heap.size + 1, 1, none⟩) hlo1 _).setCell (p := ⟨w.heap.size + 1 + 1, 0, none⟩) hlo2 _).setCell (p := ⟨w.heap.size + 1 + 1, 1, none⟩) hlo2 _).setCell (p := ⟨w.heap.size + 1 + 1, 2, none⟩) hlo2 _)
    clear hwf l0 l1 l2 l3 l4 l5 p0 p1 o0 o1 o2 o3 o4 o5 hy'
    have q0 := HRF.cell 0 _ rfl
    have q1 := HRF.cell 1 _ rfl
    have q2 := HRF.cell 2 _ rfl
    exact bodyPost_ret (v := .agg #[.int .i64 u, .int .i64 v, .int .i64 z]) (by simp [results, Try.results84, go_sem, q0, q1, q2]) rfl ⟨rfl, HBF⟩

  · clear k0 k1 k2 k3 k4
    refine ex_gen (Q := Exit.then _ _) fun w2 hw2 => ?_
    skip
    have hsz := Z1.out
    have hsw : w.heap.size + 1 + 1 < w1.heap.size := by have := HO.out.lt; omega
    have HL2 : Hid (Blk w2 (w.heap.size + 1) 80 [.int .i64 x, .int .i64 y, .int .i64 z]) := hide (by rw [hw2]; exact ((HL.out).far (p := ⟨w1.heap.size, 0, none⟩) (by show _ ≠ w1.heap.size; omega) _).far (p := ⟨w1.heap.size, 1, none⟩) (by show _ ≠ w1.heap.size; omega) _)
    have HO2 : Hid (Blk w2 (w.heap.size + 1 + 1) 80 [.int .i64 0, .int .i64 0, .int .i64 0]) := hide (by rw [hw2]; exact ((HO.out).far (p := ⟨w1.heap.size, 0, none⟩) (by show _ ≠ w1.heap.size; omega) _).far (p := ⟨w1.heap.size, 1, none⟩) (by show _ ≠ w1.heap.size; omega) _)
    have HP2 : Hid (Blk w2 (w1.heap.size) 84 [.int .i64 u, .int .i64 v]) := hide (by rw [hw2]; exact (HPB.out.set 0 _).set 1 _)
    have HB2 : Hid (Below w.heap.size w w2) := hide (by rw [hw2]; exact (HBc.out.setCell (p := ⟨w1.heap.size, 0, none⟩) (by show w.heap.size ≤ w1.heap.size; omega) _).setCell (p := ⟨w1.heap.size, 1, none⟩) (by show w.heap.size ≤ w1.heap.size; omega) _)
    clear hw2
    obtain ⟨P, hPe⟩ : ∃ P, w1.heap.size = P := ⟨_, rfl⟩
    rw [hPe] at HP2 hsw ⊢
    have l0 := HL2.out.cell 0 _ rfl
    have l1 := HL2.out.cell 1 _ rfl
    have l2 := HL2.out.cell 2 _ rfl
    have l3 := HL2.out.frozen 0
    have l4 := HL2.out.frozen 1
    have l5 := HL2.out.frozen 2
    have p0 := HP2.out.cell 0 _ rfl
    have p1 := HP2.out.cell 1 _ rfl
    have o0 := HO2.out.cell 0 _ rfl
    have o1 := HO2.out.cell 1 _ rfl
    have o2 := HO2.out.cell 2 _ rfl
    have o3 := HO2.out.frozen 0
    have o4 := HO2.out.frozen 1
    have o5 := HO2.out.frozen 2
    have n1 : P ≠ w.heap.size + 1 := by omega
    have n2 : P ≠ w.heap.size + 1 + 1 := by omega
    have n3 := n1.symm
    have n4 := n2.symm
    go_wp2_with fail
    obtain ⟨y', hy'⟩ := cell?_setCell_some (w := w2.drew) (p := ⟨w.heap.size + 1, 0, none⟩) (x := Value.int IntKind.i64 u) (q := ⟨w.heap.size + 1, 1, none⟩) (v := Value.int IntKind.i64 y) (by go_simp)
    go_region
    go_wp2_with fail
    refine bp_gen fun wf hwf => ?_
    have hfar : w.heap.size + 1 + 1 ≠ w.heap.size + 1 := by omega
    have hlo1 : w.heap.size ≤ w.heap.size + 1 := by omega
    have hlo2 : w.heap.size ≤ w.heap.size + 1 + 1 := by omega
    have HRF : Blk wf (w.heap.size + 1 + 1) 80 [.int .i64 u, .int .i64 v, .int .i64 z] := by rw [hwf]; first | exact ((((((HO2.out.far (p := ⟨w.heap.size + 1, 0, none⟩) hfar _).far (p := ⟨w.heap.size + 1, 1, none⟩) hfar _).set 0 _).set 1 _).set 2 _).drew) | exact (((((HO2.out.far (p := ⟨w.heap.size + 1, 0, none⟩) hfar _).far (p := ⟨w.heap.size + 1, 1, none⟩) hfar _).set 0 _).set 1 _).set 2 _)
    have HBF : Below w.heap.size w wf := by rw [hwf]; first | exact ((((((HB2.out.setCell (p := ⟨w.heap.size + 1, 0, none⟩) hlo1 _).setCell (p := ⟨w.heap.size + 1, 1, none⟩) hlo1 _).setCell (p := ⟨w.heap.size + 1 + 1, 0, none⟩) hlo2 _).setCell (p := ⟨w.heap.size + 1 + 1, 1, none⟩) hlo2 _).setCell (p := ⟨w.heap.size + 1 + 1, 2, none⟩) hlo2 _).drew) | exact (((((HB2.out.setCell (p := ⟨w.heap.size + 1, 0, none⟩) hlo1 _).setCell (p := ⟨w.heap.size + 1, 1, none⟩) hlo1 _).setCell (p := ⟨w.heap.size + 1 + 1, 0, none⟩) hlo2 _).setCell (p := ⟨w.heap.size + 1 + 1, 1, none⟩) hlo2 _).setCell (p := ⟨w.heap.size + 1 + 1, 2, none⟩) hlo2 _)
    clear hwf l0 l1 l2 l3 l4 l5 p0 p1 o0 o1 o2 o3 o4 o5 hy'
    have q0 := HRF.cell 0 _ rfl
    have q1 := HRF.cell 1 _ rfl
    have q2 := HRF.cell 2 _ rfl
    exact bodyPost_ret (v := .agg #[.int .i64 u, .int .i64 v, .int .i64 z]) (by simp [results, Try.results84, go_sem, q0, q1, q2]) rfl ⟨rfl, HBF⟩

set_option maxRecDepth 100000 in
theorem leadAt1_any (A : Option Addr) (n c : Nat) (f : List (List Int)) (B : Option Addr) (m d : Nat) (s : List (List Int)) (x y z : Nat) (w : World) (hz : ZArg 1048576 w A n f B m s) (hp : PMap f s) (_hx : x < n) (hy : y < n) (hz' : z < n) :
    Calls Try.prog 84 #[.agg #[.slice A n c, .slice B m d], .int .i64 1, tv (x, y, z)] w fun e w' => e = .returned (tv (at1 f s (x, y, z))) ∧ Below w.heap.size w w' := by
  have HZ := hide hz
  have HP := hide hp
  have h12 := hz.sz.nb
  unfold at1 tv
  show Calls Try.prog 84 #[.agg #[.slice A n c, .slice B m d], .int .i64 1, .agg #[.int .i64 x, .int .i64 y, .int .i64 z]] w fun e w' => e = .returned (.agg #[.int .i64 (x : Nat), .int .i64 (ap f y z : Nat), .int .i64 (ap s y z : Nat)]) ∧ Below w.heap.size w w'
  obtain ⟨u, hu⟩ : ∃ u, ap f y z = u := ⟨_, rfl⟩
  obtain ⟨v, hv⟩ : ∃ v, ap s y z = v := ⟨_, rfl⟩
  rw [hu, hv]
  have HU := hide hu
  have HV := hide hv
  clear hz hp hu hv
  have hwp1 : IntKind.i64.wrap 1 = 1 := IntWalk.i64_in _ (by omega)
  have hwp2 : IntKind.i64.wrap 2 = 2 := IntWalk.i64_in _ (by omega)
  go_enter Try.func84, Try.ntmps84
  go_wp2_with fail
  refine wp_gen fun w1 hw1 => ?_
  have hb1 : Below w.heap.size w w1 := by rw [hw1]; exact (((Below.refl _ _).alloc (Nat.le_refl _) _).alloc (by simp) _).alloc (by simp; omega) _
  have HS : Hid (Blk w1 w.heap.size 29 [.slice A n c, .slice B m d]) := hide (by rw [hw1]; exact ((Blk.new _ _ _).alloc _).alloc _)
  have HL : Hid (Blk w1 (w.heap.size + 1) 80 [.int .i64 x, .int .i64 y, .int .i64 z]) := hide (by rw [hw1]; have h := (Blk.new (w.alloc (Obj.cells #[Value.slice A n c, Value.slice B m d] 29)) 80 [.int .i64 x, .int .i64 y, .int .i64 z]).alloc (Obj.cells #[Value.int IntKind.i64 0, Value.int IntKind.i64 0, Value.int IntKind.i64 0] 80); simpa using h)
  have HO : Hid (Blk w1 (w.heap.size + 1 + 1) 80 [.int .i64 0, .int .i64 0, .int .i64 0]) := hide (by rw [hw1]; have h := Blk.new ((w.alloc (Obj.cells #[Value.slice A n c, Value.slice B m d] 29)).alloc (Obj.cells #[Value.int IntKind.i64 x, Value.int IntKind.i64 y, Value.int IntKind.i64 z] 80)) 80 [.int .i64 0, .int .i64 0, .int .i64 0]; simpa using h)
  have HBc := hide hb1
  replace HZ := hide (HZ.out.later hb1)
  have Z1 : Hid (w1.heap.size = w.heap.size + 1 + 1 + 1) := hide (by rw [hw1]; simp)
  have j1 : w1.heap.size ≠ w.heap.size := by have := Z1.out; omega
  have j2 : w1.heap.size ≠ w.heap.size + 1 := by have := Z1.out; omega
  have j3 := j1.symm
  have j4 := j2.symm
  have hz1 : w.heap.size + 1 < w1.heap.size := by have := Z1.out; omega
  clear hw1 hb1
  have k0 := HS.out.cell 0 _ rfl
  have k1 := HS.out.cell 1 _ rfl
  have k2 := HL.out.cell 0 _ rfl
  have k3 := HL.out.cell 1 _ rfl
  have k4 := HL.out.cell 2 _ rfl
  go_region_held3 (fun w' => w'.cell? ⟨w.heap.size, 0, none⟩ = some (.slice A n c) ∧ w'.cell? ⟨w.heap.size, 1, none⟩ = some (.slice B m d) ∧ w'.cell? ⟨w.heap.size + 1, 0, none⟩ = some (.int .i64 x) ∧ w'.cell? ⟨w.heap.size + 1, 1, none⟩ = some (.int .i64 y) ∧ w'.cell? ⟨w.heap.size + 1, 2, none⟩ = some (.int .i64 z)) (first | exact ⟨k0, k1, k2, k3, k4⟩ | go_keep) (first | (go_at_call 68; go_must (refine calls_gen fun wc hwc => ?_; (first | (have hbx := al_drew_below hwc; have HPB : Hid (Blk wc w1.heap.size 84 [.int .i64 0, .int .i64 0]) := hide (by rw [hwc]; exact Blk.new _ _ _)) | (have hbx := al_below hwc; have HPB : Hid (Blk wc w1.heap.size 84 [.int .i64 0, .int .i64 0]) := hide (by rw [hwc]; exact Blk.new _ _ _)) | (have hbx := drew_below hwc; have HPB : Hid True := hide trivial) | (have hbx := eq_below hwc; have HPB : Hid True := hide trivial)); have hbx0 := hide hbx.size; replace HBc := hide (HBc.out.trans (hbx.mono HBc.out.size)); replace HZ := hide (HZ.out.later hbx); replace HS := hide (HS.out.later hbx); replace HL := hide (HL.out.later hbx); replace HO := hide (HO.out.later hbx); clear hwc hbx; refine (lead_any _ _ _ f _ _ _ s y z _ HZ.out HP.out hy hz').mono ?_; rintro e wd ⟨rfl, hbd⟩; replace HBc := hide (HBc.out.trans (hbd.mono HBc.out.size)); replace HZ := hide (HZ.out.later hbd); replace HS := hide (HS.out.later hbd); replace HL := hide (HL.out.later hbd); replace HO := hide (HO.out.later hbd); (first | (replace HPB := hide (HPB.out.later hbd); have k5 := HPB.out.cell 0 _ rfl; have k6 := HPB.out.cell 1 _ rfl; have k7 := HPB.out.frozen 0; have k8 := HPB.out.frozen 1) | skip); have hsd := hbd.size; have hsx := hbx0.out; have g1 : wd.heap.size ≠ w.heap.size := (by omega); have g2 : wd.heap.size ≠ w.heap.size + 1 := (by omega); have g3 := g1.symm; have g4 := g2.symm; clear hsd hsx; clear hbd; have k0 := HS.out.cell 0 _ rfl; have k1 := HS.out.cell 1 _ rfl; have k2 := HL.out.cell 0 _ rfl; have k3 := HL.out.cell 1 _ rfl; have k4 := HL.out.cell 2 _ rfl; rw [HU.out, HV.out])))

  · clear k0 k1 k2 k3 k4
    refine ex_gen (Q := Exit.then _ _) fun w2 hw2 => ?_
    have hb2 : Below wd.heap.size wd w2 := by rw [hw2]; exact (Below.refl _ _).alloc (Nat.le_refl _) _
    have hsz := Z1.out
    have hsw : w.heap.size + 1 + 1 < wd.heap.size := by have := HO.out.lt; omega
    have HL2 : Hid (Blk w2 (w.heap.size + 1) 80 [.int .i64 x, .int .i64 y, .int .i64 z]) := hide (HL.out.later hb2)
    have HO2 : Hid (Blk w2 (w.heap.size + 1 + 1) 80 [.int .i64 0, .int .i64 0, .int .i64 0]) := hide (HO.out.later hb2)
    have HP2 : Hid (Blk w2 (wd.heap.size) 84 [.int .i64 u, .int .i64 v]) := hide (by rw [hw2]; exact Blk.new _ _ _)
    have HB2 : Hid (Below w.heap.size w w2) := hide (by rw [hw2]; exact HBc.out.alloc HBc.out.size _)
    clear hw2
    obtain ⟨P, hPe⟩ : ∃ P, wd.heap.size = P := ⟨_, rfl⟩
    rw [hPe] at HP2 hsw ⊢
    have l0 := HL2.out.cell 0 _ rfl
    have l1 := HL2.out.cell 1 _ rfl
    have l2 := HL2.out.cell 2 _ rfl
    have l3 := HL2.out.frozen 0
    have l4 := HL2.out.frozen 1
    have l5 := HL2.out.frozen 2
    have p0 := HP2.out.cell 0 _ rfl
    have p1 := HP2.out.cell 1 _ rfl
    have o0 := HO2.out.cell 0 _ rfl
    have o1 := HO2.out.cell 1 _ rfl
    have o2 := HO2.out.cell 2 _ rfl
    have o3 := HO2.out.frozen 0
    have o4 := HO2.out.frozen 1
    have o5 := HO2.out.frozen 2
    have n1 : P ≠ w.heap.size + 1 := by omega
    have n2 : P ≠ w.heap.size + 1 + 1 := by omega
    have n3 := n1.symm
    have n4 := n2.symm
    go_wp2_with fail
    obtain ⟨y', hy'⟩ := cell?_setCell_some (w := w2.drew) (p := ⟨w.heap.size + 1, 1, none⟩) (x := Value.int IntKind.i64 u) (q := ⟨w.heap.size + 1, 2, none⟩) (v := Value.int IntKind.i64 z) (by go_simp)
    go_region
    go_wp2_with fail
    refine bp_gen fun wf hwf => ?_
    have hfar : w.heap.size + 1 + 1 ≠ w.heap.size + 1 := by omega
    have hlo1 : w.heap.size ≤ w.heap.size + 1 := by omega
    have hlo2 : w.heap.size ≤ w.heap.size + 1 + 1 := by omega
    have HRF : Blk wf (w.heap.size + 1 + 1) 80 [.int .i64 x, .int .i64 u, .int .i64 v] := by rw [hwf]; first | exact ((((((HO2.out.far (p := ⟨w.heap.size + 1, 1, none⟩) hfar _).far (p := ⟨w.heap.size + 1, 2, none⟩) hfar _).set 0 _).set 1 _).set 2 _).drew) | exact (((((HO2.out.far (p := ⟨w.heap.size + 1, 1, none⟩) hfar _).far (p := ⟨w.heap.size + 1, 2, none⟩) hfar _).set 0 _).set 1 _).set 2 _)
    have HBF : Below w.heap.size w wf := by rw [hwf]; first | exact ((((((HB2.out.setCell (p := ⟨w.heap.size + 1, 1, none⟩) hlo1 _).setCell (p := ⟨w.heap.size + 1, 2, none⟩) hlo1 _).setCell (p := ⟨w.heap.size + 1 + 1, 0, none⟩) hlo2 _).setCell (p := ⟨w.heap.size + 1 + 1, 1, none⟩) hlo2 _).setCell (p := ⟨w.heap.size + 1 + 1, 2, none⟩) hlo2 _).drew) | exact (((((HB2.out.setCell (p := ⟨w.heap.size + 1, 1, none⟩) hlo1 _).setCell (p := ⟨w.heap.size + 1, 2, none⟩) hlo1 _).setCell (p := ⟨w.heap.size + 1 + 1, 0, none⟩) hlo2 _).setCell (p := ⟨w.heap.size + 1 + 1, 1, none⟩) hlo2 _).setCell (p := ⟨w.heap.size + 1 + 1, 2, none⟩) hlo2 _)
    clear hwf l0 l1 l2 l3 l4 l5 p0 p1 o0 o1 o2 o3 o4 o5 hy'
    have q0 := HRF.cell 0 _ rfl
    have q1 := HRF.cell 1 _ rfl
    have q2 := HRF.cell 2 _ rfl
    exact bodyPost_ret (v := .agg #[.int .i64 x, .int .i64 u, .int .i64 v]) (by simp [results, Try.results84, go_sem, q0, q1, q2]) rfl ⟨rfl, HBF⟩

  · clear k0 k1 k2 k3 k4
    refine ex_gen (Q := Exit.then _ _) fun w2 hw2 => ?_
    skip
    have hsz := Z1.out
    have hsw : w.heap.size + 1 + 1 < w1.heap.size := by have := HO.out.lt; omega
    have HL2 : Hid (Blk w2 (w.heap.size + 1) 80 [.int .i64 x, .int .i64 y, .int .i64 z]) := hide (by rw [hw2]; exact ((HL.out).far (p := ⟨w1.heap.size, 0, none⟩) (by show _ ≠ w1.heap.size; omega) _).far (p := ⟨w1.heap.size, 1, none⟩) (by show _ ≠ w1.heap.size; omega) _)
    have HO2 : Hid (Blk w2 (w.heap.size + 1 + 1) 80 [.int .i64 0, .int .i64 0, .int .i64 0]) := hide (by rw [hw2]; exact ((HO.out).far (p := ⟨w1.heap.size, 0, none⟩) (by show _ ≠ w1.heap.size; omega) _).far (p := ⟨w1.heap.size, 1, none⟩) (by show _ ≠ w1.heap.size; omega) _)
    have HP2 : Hid (Blk w2 (w1.heap.size) 84 [.int .i64 u, .int .i64 v]) := hide (by rw [hw2]; exact (HPB.out.set 0 _).set 1 _)
    have HB2 : Hid (Below w.heap.size w w2) := hide (by rw [hw2]; exact (HBc.out.setCell (p := ⟨w1.heap.size, 0, none⟩) (by show w.heap.size ≤ w1.heap.size; omega) _).setCell (p := ⟨w1.heap.size, 1, none⟩) (by show w.heap.size ≤ w1.heap.size; omega) _)
    clear hw2
    obtain ⟨P, hPe⟩ : ∃ P, w1.heap.size = P := ⟨_, rfl⟩
    rw [hPe] at HP2 hsw ⊢
    have l0 := HL2.out.cell 0 _ rfl
    have l1 := HL2.out.cell 1 _ rfl
    have l2 := HL2.out.cell 2 _ rfl
    have l3 := HL2.out.frozen 0
    have l4 := HL2.out.frozen 1
    have l5 := HL2.out.frozen 2
    have p0 := HP2.out.cell 0 _ rfl
    have p1 := HP2.out.cell 1 _ rfl
    have o0 := HO2.out.cell 0 _ rfl
    have o1 := HO2.out.cell 1 _ rfl
    have o2 := HO2.out.cell 2 _ rfl
    have o3 := HO2.out.frozen 0
    have o4 := HO2.out.frozen 1
    have o5 := HO2.out.frozen 2
    have n1 : P ≠ w.heap.size + 1 := by omega
    have n2 : P ≠ w.heap.size + 1 + 1 := by omega
    have n3 := n1.symm
    have n4 := n2.symm
    go_wp2_with fail
    obtain ⟨y', hy'⟩ := cell?_setCell_some (w := w2.drew) (p := ⟨w.heap.size + 1, 1, none⟩) (x := Value.int IntKind.i64 u) (q := ⟨w.heap.size + 1, 2, none⟩) (v := Value.int IntKind.i64 z) (by go_simp)
    go_region
    go_wp2_with fail
    refine bp_gen fun wf hwf => ?_
    have hfar : w.heap.size + 1 + 1 ≠ w.heap.size + 1 := by omega
    have hlo1 : w.heap.size ≤ w.heap.size + 1 := by omega
    have hlo2 : w.heap.size ≤ w.heap.size + 1 + 1 := by omega
    have HRF : Blk wf (w.heap.size + 1 + 1) 80 [.int .i64 x, .int .i64 u, .int .i64 v] := by rw [hwf]; first | exact ((((((HO2.out.far (p := ⟨w.heap.size + 1, 1, none⟩) hfar _).far (p := ⟨w.heap.size + 1, 2, none⟩) hfar _).set 0 _).set 1 _).set 2 _).drew) | exact (((((HO2.out.far (p := ⟨w.heap.size + 1, 1, none⟩) hfar _).far (p := ⟨w.heap.size + 1, 2, none⟩) hfar _).set 0 _).set 1 _).set 2 _)
    have HBF : Below w.heap.size w wf := by rw [hwf]; first | exact ((((((HB2.out.setCell (p := ⟨w.heap.size + 1, 1, none⟩) hlo1 _).setCell (p := ⟨w.heap.size + 1, 2, none⟩) hlo1 _).setCell (p := ⟨w.heap.size + 1 + 1, 0, none⟩) hlo2 _).setCell (p := ⟨w.heap.size + 1 + 1, 1, none⟩) hlo2 _).setCell (p := ⟨w.heap.size + 1 + 1, 2, none⟩) hlo2 _).drew) | exact (((((HB2.out.setCell (p := ⟨w.heap.size + 1, 1, none⟩) hlo1 _).setCell (p := ⟨w.heap.size + 1, 2, none⟩) hlo1 _).setCell (p := ⟨w.heap.size + 1 + 1, 0, none⟩) hlo2 _).setCell (p := ⟨w.heap.size + 1 + 1, 1, none⟩) hlo2 _).setCell (p := ⟨w.heap.size + 1 + 1, 2, none⟩) hlo2 _)
    clear hwf l0 l1 l2 l3 l4 l5 p0 p1 o0 o1 o2 o3 o4 o5 hy'
    have q0 := HRF.cell 0 _ rfl
    have q1 := HRF.cell 1 _ rfl
    have q2 := HRF.cell 2 _ rfl
    exact bodyPost_ret (v := .agg #[.int .i64 x, .int .i64 u, .int .i64 v]) (by simp [results, Try.results84, go_sem, q0, q1, q2]) rfl ⟨rfl, HBF⟩
end Go.Proofs.Ytbhlcfcmjildmaa
