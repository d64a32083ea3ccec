import Derived.Test.YtbhlcfcmjildmaaGm
import Derived.Test.YtbhlcfcmjildmaaGj
import Derived.Test.YtbhlcfcmjildmaaProg
import Derived.Test.YtbhlcfcmjildmaaGb
import Derived.Test.YtbhlcfcmjildmaaGd
import Derived.DeepKeys4
import Derived.WalkArith
import Derived.Maps.RangeWalk
import Derived.Test.YtbhlcfcmjildmaaGa
import Derived.Test.YtbhlcfcmjildmaaGl
import Derived.Test.YtbhlcfcmjildmaaGc
import Derived.Deep.Cut
import Derived.Test.YtbhlcfcmjildmaaGe
namespace Go.Proofs.Ytbhlcfcmjildmaa
open Go Go.RowKit
set_option maxHeartbeats 1000000
/-! Words of a nondegenerate involutive solution: the guitar map carries moves to exchanges of neighbours. -/
theorem mvL_zero (h1 h2 : Nat → Nat → Int) (x y : Int) (w : List Int) : mvL h1 h2 (x :: y :: w) 0 = h1 x.toNat y.toNat :: h2 x.toNat y.toNat :: w := by
  unfold mvL elN
  simp
theorem mvL_succ (h1 h2 : Nat → Nat → Int) (x : Int) (w : List Int) (k : Nat) : mvL h1 h2 (x :: w) (k + 1) = x :: mvL h1 h2 w k := by
  unfold mvL elN
  simp
/-- Neighbours exchanged. -/
def swp : List Int → Nat → List Int
  | a :: b :: l, 0 => b :: a :: l
  | a :: l, k + 1 => a :: swp l k
  | l, _ => l
theorem swp_perm : ∀ (l : List Int) (k : Nat), (swp l k).Perm l
  | [], 0 => .refl _
  | [], _ + 1 => .refl _
  | [_], 0 => .refl _
  | a :: b :: l, 0 => .swap a b l
  | a :: l, k + 1 => by rw [swp]; exact (swp_perm l k).cons a
theorem swp_length (l : List Int) (k : Nat) : (swp l k).length = l.length := (swp_perm l k).length_eq
theorem swp_map (g : Int → Int) : ∀ (l : List Int) (k : Nat), (swp l k).map g = swp (l.map g) k
  | [], 0 => rfl
  | [], _ + 1 => rfl
  | [_], 0 => rfl
  | a :: b :: l, 0 => rfl
  | a :: l, k + 1 => by simp [swp, swp_map g l k]
/-- The guitar map with functions L. -/
def gar (L : Int → Int → Int) : List Int → List Int
  | [] => []
  | x :: w => x :: (gar L w).map (L x)
theorem gar_length (L : Int → Int → Int) : ∀ w, (gar L w).length = w.length
  | [] => rfl
  | x :: w => by simp [gar, gar_length L w]
/-- All elements of a list lie in a set of n. -/
def Inn (n : Nat) (l : List Int) : Prop := ∀ v, v ∈ l → 0 ≤ v ∧ v < (n : Int)
theorem Inn.tail {n : Nat} {x : Int} {l : List Int} (h : Inn n (x :: l)) : Inn n l := fun v hv => h v (by simp [hv])
theorem Inn.head {n : Nat} {x : Int} {l : List Int} (h : Inn n (x :: l)) : 0 ≤ x ∧ x < (n : Int) := h x (by simp)
theorem Inn.cons {n : Nat} {x : Int} {l : List Int} (hx : 0 ≤ x ∧ x < (n : Int)) (h : Inn n l) : Inn n (x :: l) := fun v hv => by
  rcases List.mem_cons.1 hv with e | e
  · rw [e]; exact hx
  · exact h v e
/-- What the two maps of a nondegenerate involutive solution fulfil. -/
structure LamS (n : Nat) (h1 h2 : Nat → Nat → Int) : Prop where
  r1 : ∀ x y, x < n → y < n → 0 ≤ h1 x y ∧ h1 x y < (n : Int)
  r2 : ∀ x y, x < n → y < n → 0 ≤ h2 x y ∧ h2 x y < (n : Int)
  ybe : ∀ x y z, x < n → y < n → z < n → h1 x (h1 y z).toNat = h1 (h1 x y).toNat (h1 (h2 x y).toNat z).toNat
  inv : ∀ x y, x < n → y < n → h1 (h1 x y).toNat (h2 x y).toNat = (x : Int)
  inj : ∀ x y y', x < n → y < n → y' < n → h1 x y = h1 x y' → y = y'
  onto : ∀ x y, x < n → y < n → ∃ z, z < n ∧ h1 x z = (y : Int)
/-- lambda of numbers. -/
def lamI (h1 : Nat → Nat → Int) (x y : Int) : Int := h1 x.toNat y.toNat
section
variable {n : Nat} {h1 h2 : Nat → Nat → Int}
theorem LamS.lam_in (h : LamS n h1 h2) {x y : Int} (hx : 0 ≤ x ∧ x < (n : Int)) (hy : 0 ≤ y ∧ y < (n : Int)) : 0 ≤ lamI h1 x y ∧ lamI h1 x y < (n : Int) := h.r1 _ _ (by omega) (by omega)
theorem LamS.gar_in (h : LamS n h1 h2) : ∀ w, Inn n w → Inn n (gar (lamI h1) w)
  | [], _ => fun v hv => by simp [gar] at hv
  | x :: w, hw => by
    refine Inn.cons hw.head fun v hv => ?_
    obtain ⟨y, hy, rfl⟩ := List.mem_map.1 hv
    exact h.lam_in hw.head (h.gar_in w hw.tail y hy)
theorem LamS.gar_mv (h : LamS n h1 h2) : ∀ (k : Nat) (w : List Int), Inn n w → k + 1 < w.length → gar (lamI h1) (mvL h1 h2 w k) = swp (gar (lamI h1) w) k
  | _, [], _, hk => by simp at hk
  | 0, [_], _, hk => by simp at hk
  | 0, x :: y :: w, hw, _ => by
    rw [mvL_zero]
    have hx := hw.head
    have hy := hw.tail.head
    have ex : ((x.toNat : Nat) : Int) = x := by omega
    have a1 := h.r1 x.toNat y.toNat (by omega) (by omega)
    have a2 := h.r2 x.toNat y.toNat (by omega) (by omega)
    simp only [gar, List.map_cons, swp]
    have e1 : lamI h1 (h1 x.toNat y.toNat) (h2 x.toNat y.toNat) = x := by
      unfold lamI
      rw [h.inv _ _ (by omega) (by omega), ex]
    have e2 : (List.map (lamI h1 (h2 x.toNat y.toNat)) (gar (lamI h1) w)).map (lamI h1 (h1 x.toNat y.toNat)) = (List.map (lamI h1 y) (gar (lamI h1) w)).map (lamI h1 x) := by
      rw [List.map_map, List.map_map]
      refine List.map_congr_left fun z hz => ?_
      have hzr := h.gar_in w hw.tail.tail z hz
      simp only [Function.comp, lamI]
      exact (h.ybe x.toNat y.toNat z.toNat (by omega) (by omega) (by omega)).symm
    rw [e1, e2]
    rfl
  | k + 1, x :: w, hw, hk => by
    rw [mvL_succ]
    simp only [gar, swp]
    rw [h.gar_mv k w hw.tail (by simpa using hk), swp_map]
/-- What exchanges of neighbours make of a list. -/
inductive SwpR (a : List Int) : List Int → Prop where
  | refl : SwpR a a
  | step {b : List Int} {k : Nat} : SwpR a b → k + 1 < a.length → SwpR a (swp b k)
theorem SwpR.perm {a b : List Int} (h : SwpR a b) : b.Perm a := by
  induction h with
  | refl => exact .refl _
  | step _ _ ih => exact (swp_perm _ _).trans ih
theorem SwpR.trans {a b c : List Int} (h : SwpR a b) (k : SwpR b c) : SwpR a c := by
  induction k with
  | refl => exact h
  | step _ hk ih => exact .step ih (by rw [← h.perm.length_eq]; exact hk)
theorem SwpR.cons {a b : List Int} (x : Int) (h : SwpR a b) : SwpR (x :: a) (x :: b) := by
  induction h with
  | refl => exact .refl
  | @step b k _ hk ih =>
    have h9 := SwpR.step (k := k + 1) ih (by simp; omega)
    rw [swp] at h9
    · exact h9
theorem SwpR.of_perm {a b : List Int} (h : a.Perm b) : SwpR a b := by
  induction h with
  | nil => exact .refl
  | cons x _ ih => exact ih.cons x
  | swap x y l => exact SwpR.step (k := 0) .refl (by simp)
  | trans _ _ ih1 ih2 => exact ih1.trans ih2
theorem LamS.mv_in (h : LamS n h1 h2) {w : List Int} (hw : Inn n w) {k : Nat} (hk : k + 1 < w.length) : Inn n (mvL h1 h2 w k) := by
  have hel : ∀ i, i < w.length → elN w i < n := fun i hi => by
    have := hw (w.getD i 0) (by simp [hi])
    unfold elN
    omega
  intro v hv
  unfold mvL at hv
  rcases List.mem_or_eq_of_mem_set hv with hv | e
  · rcases List.mem_or_eq_of_mem_set hv with hv | e
    · exact hw v hv
    · rw [e]; exact h.r1 _ _ (hel k (by omega)) (hel (k + 1) hk)
  · rw [e]; exact h.r2 _ _ (hel k (by omega)) (hel (k + 1) hk)
theorem LamS.tch_in (h : LamS n h1 h2) {w w' : List Int} (hw : Inn n w) (hT : Tch h1 h2 w w') : Inn n w' := by
  induction hT with
  | refl => exact hw
  | @step y j hy hk ih => exact h.mv_in ih (by rw [Tch.len hy]; exact hk)
theorem LamS.tch_perm (h : LamS n h1 h2) {w w' : List Int} (hw : Inn n w) (hT : Tch h1 h2 w w') : (gar (lamI h1) w').Perm (gar (lamI h1) w) := by
  induction hT with
  | refl => exact .refl _
  | @step y j hy hk ih =>
    rw [h.gar_mv j y (h.tch_in hw hy) (by rw [Tch.len hy]; exact hk)]
    exact (swp_perm _ _).trans ih
theorem LamS.swp_tch (h : LamS n h1 h2) {w b : List Int} (hw : Inn n w) (hs : SwpR (gar (lamI h1) w) b) : ∃ w', Tch h1 h2 w w' ∧ gar (lamI h1) w' = b := by
  induction hs with
  | refl => exact ⟨w, .refl, rfl⟩
  | @step b k _ hk ih =>
    obtain ⟨w', hT, e⟩ := ih
    rw [gar_length] at hk
    refine ⟨mvL h1 h2 w' k, .step hT hk, ?_⟩
    rw [h.gar_mv k w' (h.tch_in hw hT) (by rw [hT.len]; exact hk), e]
theorem map_inj_on {g : Int → Int} : ∀ (a b : List Int), (∀ x, x ∈ a → ∀ y, y ∈ b → g x = g y → x = y) → a.map g = b.map g → a = b
  | [], [], _, _ => rfl
  | [], _ :: _, _, h => by simp at h
  | _ :: _, [], _, h => by simp at h
  | x :: a, y :: b, hg, h => by
    simp only [List.map_cons, List.cons.injEq] at h
    rw [hg x (by simp) y (by simp) h.1, map_inj_on a b (fun u hu v hv => hg u (by simp [hu]) v (by simp [hv])) h.2]
theorem LamS.gar_inj (h : LamS n h1 h2) : ∀ (w w' : List Int), Inn n w → Inn n w' → gar (lamI h1) w = gar (lamI h1) w' → w = w'
  | [], [], _, _, _ => rfl
  | [], _ :: _, _, _, e => by simp [gar] at e
  | _ :: _, [], _, _, e => by simp [gar] at e
  | x :: w, y :: w', hw, hw', e => by
    simp only [gar, List.cons.injEq] at e
    obtain ⟨rfl, e⟩ := e
    have e2 := map_inj_on _ _ (fun u hu v hv huv => by
      have h3 := h.gar_in w hw.tail u hu
      have h4 := h.gar_in w' hw'.tail v hv
      have h5 := hw.head
      have h6 := h.inj x.toNat u.toNat v.toNat (by omega) (by omega) (by omega) huv
      omega) e
    rw [h.gar_inj w w' hw.tail hw'.tail e2]
theorem map_onto {g : Int → Int} (hg : ∀ y, 0 ≤ y ∧ y < (n : Int) → ∃ z, (0 ≤ z ∧ z < (n : Int)) ∧ g z = y) : ∀ b : List Int, Inn n b → ∃ a, Inn n a ∧ a.map g = b ∧ a.length = b.length
  | [], _ => ⟨[], fun v hv => by simp at hv, rfl, rfl⟩
  | y :: b, hb => by
    obtain ⟨z, hz, e⟩ := hg y hb.head
    obtain ⟨a, ha, e2, e3⟩ := map_onto hg b hb.tail
    exact ⟨z :: a, Inn.cons hz ha, by simp [e, e2], by simp [e3]⟩
theorem LamS.gar_onto (h : LamS n h1 h2) : ∀ (m : Nat) (b : List Int), b.length = m → Inn n b → ∃ w, Inn n w ∧ gar (lamI h1) w = b
  | 0, b, hl, _ => ⟨[], fun v hv => by simp at hv, by rw [List.eq_nil_of_length_eq_zero hl]; rfl⟩
  | m + 1, [], hl, _ => by simp at hl
  | m + 1, y :: b, hl, hb => by
    obtain ⟨a, ha, e, hla⟩ := map_onto (g := lamI h1 y) (fun u hu => by
      have hy := hb.head
      obtain ⟨z, hz, e⟩ := h.onto y.toNat u.toNat (by omega) (by omega)
      exact ⟨(z : Int), ⟨by omega, by omega⟩, by unfold lamI; rw [Int.toNat_natCast, e]; omega⟩) b hb.tail
    obtain ⟨w, hw, e2⟩ := h.gar_onto m a (by simp at hl; omega) ha
    exact ⟨y :: w, Inn.cons hb.head hw, by simp [gar, e2, e]⟩
theorem perm_of_sub : ∀ (m l : List Int), m.Nodup → (∀ x, x ∈ m → x ∈ l) → m.length = l.length → m.Perm l
  | [], l, _, _, hl => by rw [List.eq_nil_of_length_eq_zero (l := l) (by simpa using hl.symm)]
  | a :: m, l, hn, hs, hl => by
    rw [List.nodup_cons] at hn
    have hal := hs a (by simp)
    have hp := List.perm_cons_erase hal
    have hle : (l.erase a).length = m.length := by rw [List.length_erase_of_mem hal]; simp at hl; omega
    exact ((perm_of_sub m (l.erase a) hn.2 (fun x hx => (List.mem_erase_of_ne (fun e => hn.1 (by rw [← e]; exact hx))).2 (hs x (by simp [hx]))) hle.symm).cons a).trans hp.symm
/-- The elements of a set of n. -/
def elsI (n : Nat) : List Int := (List.range n).map fun i : Nat => (i : Int)
theorem elsI_mem (x : Int) : x ∈ elsI n ↔ 0 ≤ x ∧ x < (n : Int) := by
  unfold elsI
  rw [List.mem_map]
  constructor
  · rintro ⟨i, hi, rfl⟩
    have := List.mem_range.1 hi
    omega
  · intro h
    exact ⟨x.toNat, List.mem_range.2 (by omega), by omega⟩
theorem elsI_nodup : (elsI n).Nodup := by
  unfold elsI
  refine List.pairwise_map.2 (List.Pairwise.imp ?_ List.nodup_range)
  intro a b hab e
  exact hab (by omega)
/-- All elements divide the word: each one begins a word of its class. -/
def Full (h1 h2 : Nat → Nat → Int) (n : Nat) (w : List Int) : Prop := ∀ x : Int, 0 ≤ x → x < (n : Int) → ∃ w', Tch h1 h2 w w' ∧ w'.getD 0 0 = x
theorem gar_head (L : Int → Int → Int) {w : List Int} (h : 0 < w.length) : w.getD 0 0 ∈ gar L w := by
  cases w with
  | nil => simp at h
  | cons x w => simp [gar]
theorem LamS.full_perm (h : LamS n h1 h2) (hn : 1 ≤ n) {w : List Int} (hw : Inn n w) (hl : w.length = n) : Full h1 h2 n w ↔ (gar (lamI h1) w).Perm (elsI n) := by
  constructor
  · intro hf
    refine (perm_of_sub (elsI n) _ elsI_nodup (fun x hx => ?_) (by rw [gar_length, hl]; simp [elsI])).symm
    obtain ⟨h3, h4⟩ := (elsI_mem x).1 hx
    obtain ⟨w', hT, e⟩ := hf x h3 h4
    have h5 := gar_head (lamI h1) (w := w') (by rw [hT.len]; omega)
    rw [e] at h5
    exact (h.tch_perm hw hT).mem_iff.1 h5
  · intro hp x h3 h4
    have hx : x ∈ gar (lamI h1) w := hp.mem_iff.2 ((elsI_mem x).2 ⟨h3, h4⟩)
    obtain ⟨w', hT, e⟩ := h.swp_tch hw (SwpR.of_perm (List.perm_cons_erase hx))
    refine ⟨w', hT, ?_⟩
    cases w' with
    | nil => simp [gar] at e
    | cons a w' =>
      simp only [gar, List.cons.injEq] at e
      simpa using e.1
/-- There is exactly one class that all elements divide. -/
theorem LamS.full_uniq (h : LamS n h1 h2) (hn : 1 ≤ n) {w w' : List Int} (hw : Inn n w) (hl : w.length = n) (hw' : Inn n w') (hl' : w'.length = n) (hf : Full h1 h2 n w) (hf' : Full h1 h2 n w') : Tch h1 h2 w w' := by
  have p1 := (h.full_perm hn hw hl).1 hf
  have p2 := (h.full_perm hn hw' hl').1 hf'
  obtain ⟨w2, hT, e⟩ := h.swp_tch hw (SwpR.of_perm (p1.trans p2.symm))
  rw [← h.gar_inj _ _ (h.tch_in hw hT) hw' e]
  exact hT
theorem LamS.full_ex (h : LamS n h1 h2) (hn : 1 ≤ n) : ∃ w, Inn n w ∧ w.length = n ∧ Full h1 h2 n w := by
  obtain ⟨w, hw, e⟩ := h.gar_onto n (elsI n) (by simp [elsI]) (fun v hv => (elsI_mem v).1 hv)
  have hl : w.length = n := by rw [← gar_length (lamI h1) w, e]; simp [elsI]
  exact ⟨w, hw, hl, (h.full_perm hn hw hl).2 (by rw [e])⟩
end
end Go.Proofs.Ytbhlcfcmjildmaa
namespace Go.Proofs.Ytbhlcfcmjildmaa
open Go Go.RowKit
/-! Words of a solution. -/
/-- A word of elements of a set of n. -/
def Wrd (n : Nat) (xs : List Int) : Prop := xs.length ≤ 8 ∧ ∀ j, j < xs.length → 0 ≤ xs.getD j 0 ∧ xs.getD j 0 < (n : Int)
theorem Wrd.tup {n : Nat} {xs : List Int} (h : Wrd n xs) : Tup n xs := ⟨by have := h.1; omega, h.2⟩
theorem Wrd.nil (n : Nat) : Wrd n [] := ⟨by simp, fun j hj => by simp at hj⟩
/-- All of some lists are words. -/
def Wrds (n : Nat) (rows : List (List Int)) : Prop := ∀ i, i < rows.length → Wrd n (rows.getD i [])
/-- What forbids something with words. -/
def WdC (f s : List (List Int)) (rows : List (List Int)) (code : Int) : Prop :=
  (SolF f s ∧ Wrds f.length rows ∧ code = 0) ∨ (SolF f s ∧ ¬ Wrds f.length rows ∧ code = 2) ∨ (¬ SolF f s ∧ code = 1)
theorem WdC.ex (f s : List (List Int)) (rows : List (List Int)) : ∃ code, WdC f s rows code := by
  by_cases h : SolF f s
  · by_cases h2 : Wrds f.length rows
    · exact ⟨_, .inl ⟨h, h2, rfl⟩⟩
    · exact ⟨_, .inr (.inl ⟨h, h2, rfl⟩)⟩
  · exact ⟨_, .inr (.inr ⟨h, rfl⟩)⟩
theorem WdC.zero {f s : List (List Int)} {rows : List (List Int)} {code : Int} (h : WdC f s rows code) (h0 : code = 0) : SolF f s ∧ Wrds f.length rows := by
  rcases h with ⟨a, b, _⟩ | ⟨_, _, c⟩ | ⟨_, c⟩
  · exact ⟨a, b⟩
  · omega
  · omega
theorem WdC.uniq {f s : List (List Int)} {rows : List (List Int)} {c c' : Int} (h : WdC f s rows c) (h' : WdC f s rows c') : c = c' := by
  rcases h with ⟨a, b, rfl⟩ | ⟨a, b, rfl⟩ | ⟨a, rfl⟩ <;> rcases h' with ⟨a', b', rfl⟩ | ⟨a', b', rfl⟩ | ⟨a', rfl⟩ <;> first | rfl | contradiction
theorem WdC.congr {f s : List (List Int)} {rows rows' : List (List Int)} {c : Int} (h : WdC f s rows c) (e : Wrds f.length rows ↔ Wrds f.length rows') : WdC f s rows' c := by
  rcases h with ⟨a, b, r⟩ | ⟨a, b, r⟩ | ⟨a, r⟩
  · exact .inl ⟨a, e.1 b, r⟩
  · exact .inr (.inl ⟨a, fun h => b (e.2 h), r⟩)
  · exact .inr (.inr ⟨a, r⟩)
theorem wrds1 {n : Nat} {xs : List Int} : Wrds n [xs] ↔ Wrd n xs := by
  constructor
  · intro h; exact h 0 (by simp)
  · intro h i hi
    have : i = 0 := by simpa using hi
    subst this; exact h
theorem wrds2 {n : Nat} {xs ys : List Int} : Wrds n [xs, ys] ↔ Wrd n xs ∧ Wrd n ys := by
  constructor
  · intro h; exact ⟨h 0 (by simp), h 1 (by simp)⟩
  · rintro ⟨h1, h2⟩ i hi
    rcases i with _ | _ | i
    · exact h1
    · exact h2
    · simp at hi; omega
/-- The tuples that are reached, in order, if there are at most M. -/
def OrbR (f s : List (List Int)) (xs : List Int) (M : Nat) (zs : List (List Int)) (code : Int) : Prop :=
  (Cls (leH f) (leH s) xs zs ∧ Asc zs ∧ zs.length ≤ M ∧ code = 0) ∨ (¬ FewT (leH f) (leH s) xs M ∧ zs = [] ∧ code = 3)
theorem Cls.sorted {h1 h2 : Nat → Nat → Int} {x : List Int} {L L' : List (List Int)} (h : Cls h1 h2 x L) (ha : Asc L') (hm : ∀ y, y ∈ L' ↔ y ∈ L) : Cls h1 h2 x L' := ⟨ha.nodup, fun y => (hm y).trans (h.2 y)⟩
theorem Cls.ascEq {h1 h2 : Nat → Nat → Int} {x : List Int} {L L' : List (List Int)} (h : Cls h1 h2 x L) (h' : Cls h1 h2 x L') (ha : Asc L) (ha' : Asc L') : L = L' := Asc.eq ha ha' (fun y => (h.2 y).trans (h'.2 y).symm)
theorem Cls.pos {h1 h2 : Nat → Nat → Int} {x : List Int} {L : List (List Int)} (h : Cls h1 h2 x L) : 0 < L.length := by
  have hm := (h.2 x).2 .refl
  cases L with
  | nil => simp at hm
  | cons a t => simp
theorem Cls.row {h1 h2 : Nat → Nat → Int} {x : List Int} {L : List (List Int)} (h : Cls h1 h2 x L) {i : Nat} (hi : i < L.length) : (L.getD i []).length = x.length := ((h.2 _).1 (tgetD_mem _ _ _ hi)).len
theorem OrbR.ex (f s : List (List Int)) (xs : List Int) (M : Nat) : ∃ zs code, OrbR f s xs M zs code := by
  by_cases h : FewT (leH f) (leH s) xs M
  · obtain ⟨L, hE, hl⟩ := h
    obtain ⟨L', ha, hl', hm⟩ := asc_ex L hE.1
    exact ⟨L', 0, .inl ⟨hE.sorted ha hm, ha, by omega, rfl⟩⟩
  · exact ⟨[], 3, .inr ⟨h, rfl, rfl⟩⟩
theorem OrbR.size {f s : List (List Int)} {xs : List Int} {M : Nat} {zs : List (List Int)} {code : Int} (hx : xs.length ≤ 12) (hM : M ≤ 5000) (h : OrbR f s xs M zs code) : zs.length ≤ 1048576 ∧ ∀ i, i < zs.length → (zs.getD i []).length ≤ 1048576 := by
  rcases h with ⟨hE, _, hl, _⟩ | ⟨_, rfl, _⟩
  · exact ⟨by omega, fun i hi => by rw [hE.row hi]; omega⟩
  · exact ⟨by simp, by simp⟩
/-- What the class of a word is told. -/
def CowR (f s : List (List Int)) (xs : List Int) (zs : List (List Int)) (code : Int) : Prop := (WdC f s [xs] 0 ∧ OrbR f s xs 1000 zs code) ∨ (WdC f s [xs] code ∧ code ≠ 0 ∧ zs = [])
theorem CowR.ex (f s : List (List Int)) (xs : List Int) : ∃ zs code, CowR f s xs zs code ∧ zs.length ≤ 1048576 ∧ ∀ i, i < zs.length → (zs.getD i []).length ≤ 1048576 := by
  obtain ⟨c, hc⟩ := WdC.ex f s [xs]
  by_cases h0 : c = 0
  · subst h0
    obtain ⟨zs, code, h⟩ := OrbR.ex f s xs 1000
    have hw := (wrds1.1 (hc.zero rfl).2).1
    exact ⟨zs, code, .inl ⟨hc, h⟩, OrbR.size (by omega) (by omega) h⟩
  · exact ⟨[], c, .inr ⟨hc, h0, rfl⟩, by simp, by simp⟩
/-- What the orbit of a tuple is told. -/
def TorR (f s : List (List Int)) (xs : List Int) (zs : List (List Int)) (code : Int) : Prop := (SolF f s ∧ Tup f.length xs ∧ OrbR f s xs 5000 zs code) ∨ (SolF f s ∧ ¬ Tup f.length xs ∧ zs = [] ∧ code = 2) ∨ (¬ SolF f s ∧ zs = [] ∧ code = 1)
theorem TorR.ex (f s : List (List Int)) (xs : List Int) : ∃ zs code, TorR f s xs zs code ∧ zs.length ≤ 1048576 ∧ ∀ i, i < zs.length → (zs.getD i []).length ≤ 1048576 := by
  by_cases h : SolF f s
  · by_cases h2 : Tup f.length xs
    · obtain ⟨zs, code, h3⟩ := OrbR.ex f s xs 5000
      exact ⟨zs, code, .inl ⟨h, h2, h3⟩, OrbR.size h2.1 (by omega) h3⟩
    · exact ⟨_, _, .inr (.inl ⟨h, h2, rfl, rfl⟩), by simp, by simp⟩
  · exact ⟨_, _, .inr (.inr ⟨h, rfl, rfl⟩), by simp, by simp⟩
end Go.Proofs.Ytbhlcfcmjildmaa
namespace Go.Proofs.Ytbhlcfcmjildmaa
open Go Go.RowKit Go.ChangeShapes Go.WideShapes
open Go.WideElems (Fit rg rd rd_key rg_of rd_val)
open Classical
set_option maxRecDepth 100000
/-! Tuples as keys of a map. -/
/-- A tuple with zeros behind it, as a value. -/
def tkey (xs : List Int) : Value := .agg (ints (pad12 xs)).toArray
theorem ints_inj : ∀ {xs ys : List Int}, ints xs = ints ys → xs = ys
  | [], [], _ => rfl
  | [], _ :: _, h => by simp [ints] at h
  | _ :: _, [], h => by simp [ints] at h
  | x :: xs, y :: ys, h => by
    simp only [ints, List.map_cons, List.cons.injEq] at h
    injection h.1 with _ h1
    rw [h1, ints_inj (xs := xs) (ys := ys) h.2]
theorem tkey_inj {xs ys : List Int} (hl : xs.length = ys.length) (h : tkey xs = tkey ys) : xs = ys := by
  unfold tkey at h
  injection h with h
  have h1 : ints (pad12 xs) = ints (pad12 ys) := by
    have h2 := congrArg Array.toList h
    simpa using h2
  have h2 := ints_inj h1
  unfold pad12 at h2
  exact (List.append_inj h2 hl).1
theorem tk_laid : laidOutB Try.prog = true := by kernel_rfl
theorem tk_row : (61 : TypeId) < Try.prog.types.size := of_decide_eq_true (by kernel_rfl)
theorem tk_deep : Try.prog.keyTypeAt (Try.prog.types.size + 1) 61 = true := by kernel_rfl
theorem tk_wide : (match Try.prog.underlying 61 with | some (.array _ _) | some (.struct _) => true | _ => false) = true := by rw [Try.underlying61]
theorem tk_law : WideMaps.KeyLaw Try.prog 61 := deep_law_laid tk_laid (m := 2) (by omega) tk_row (by kernel_rfl) tk_wide
theorem tk_keyed : Maps.Keyed Try.prog 61 := Maps.Keyed.of_law tk_law
theorem tk_cells : Try.prog.cellsOf 61 = 12 := by kernel_rfl
theorem tk_cellsI : Try.prog.cellsOf 2 = 1 := by kernel_rfl
theorem tk_size : ∃ m, Try.prog.types.size = m + 1 := by
  have h := tk_row
  cases hs : Try.prog.types.size with
  | zero => rw [hs] at h; exact absurd h (Nat.not_lt_zero _)
  | succ m => exact ⟨m, rfl⟩
theorem tmapM_some {α β : Type} {f : α → Option β} : ∀ {l : List α}, (∀ a ∈ l, ∃ b, f a = some b) → ∃ bs, l.mapM f = some bs
  | [], _ => ⟨[], rfl⟩
  | a :: l, h => by
    obtain ⟨b, hb⟩ := h a (by simp)
    obtain ⟨bs, hbs⟩ := tmapM_some (l := l) fun a ha => h a (by simp [ha])
    exact ⟨b :: bs, by simp [List.mapM_cons, hb, hbs]⟩
/-- Small numbers. -/
def Sm (xs : List Int) : Prop := xs.length ≤ 12 ∧ ∀ v ∈ xs, -4611686018427387904 ≤ v ∧ v < 4611686018427387904
theorem Tup.sm {n : Nat} {xs : List Int} (h : Tup n xs) (hn : n ≤ 12) : Sm xs := ⟨h.1, fun v hv => by have := h.mem v hv; omega⟩
theorem tkey_ex {xs : List Int} (h : Sm xs) : ∃ kl, keyOf Try.prog 61 (tkey xs) = some kl := by
  have hl := pad12_length h.1
  have hf : (tkey xs).formed Try.prog 61 = true := by simp [tkey, Value.formed, Try.underlying61, tk_cells, ints_length, hl]
  have hk : Try.prog.keyType 61 = true := tk_deep
  obtain ⟨m, hm⟩ := tk_size
  have hcs : (tkey xs).cells.toList = ints (pad12 xs) := by simp [tkey, Value.cells]
  have hlits : ∃ ls, Try.prog.keyLits (Try.prog.types.size + 1) 61 (tkey xs).cells.toList = some ls := by
    rw [hcs]
    unfold Program.keyLits
    rw [Try.underlying61]
    obtain ⟨bs, hbs⟩ := tmapM_some (f := fun i => Try.prog.keyLits Try.prog.types.size 2 (((ints (pad12 xs)).drop (i * Try.prog.cellsOf 2)).take (Try.prog.cellsOf 2))) (l := List.range 12) (fun i hi => by
      have hi := List.mem_range.1 hi
      rw [tk_cellsI, Nat.mul_one]
      have hil : i < (pad12 xs).length := by omega
      have e : ((ints (pad12 xs)).drop i).take 1 = [.int .i64 ((pad12 xs)[i])] := by
        rw [List.drop_eq_getElem_cons (by rw [ints_length]; exact hil)]
        simp [ints]
      rw [e, hm]
      unfold Program.keyLits
      rw [Try.underlying2]
      have hw : (Lit.int .i64 ((pad12 xs)[i])).wf = true := by
        have hv : -4611686018427387904 ≤ (pad12 xs)[i] ∧ (pad12 xs)[i] < 4611686018427387904 := by
          have hmem : (pad12 xs)[i] ∈ pad12 xs := List.getElem_mem hil
          rcases List.mem_append.1 (show (pad12 xs)[i] ∈ xs ++ List.replicate (12 - xs.length) 0 from hmem) with h9 | h9
          · exact h.2 _ h9
          · rw [(List.mem_replicate.1 h9).2]; omega
        exact WalkArith.wf_i64 (by omega)
      exact ⟨[.int .i64 ((pad12 xs)[i])], if_pos ⟨rfl, hw⟩⟩)
    refine ⟨bs.flatten, ?_⟩
    show (if (ints (pad12 xs)).length = Try.prog.cellsOf 61 then _ else none) = some bs.flatten
    rw [if_pos (by rw [tk_cells, ints_length, hl]), hbs]
    rfl
  obtain ⟨ls, hls⟩ := hlits
  unfold keyOf
  rw [Try.underlying61]
  refine ⟨.string (keyBytes ls), ?_⟩
  show (if Try.prog.keyType 61 && (tkey xs).formed Try.prog 61 then _ else none) = _
  rw [hk, hf, hls]
  rfl
/-- What a map of tuples that were met says. -/
noncomputable def metV (found : List (List Int)) : Value → Option Value := fun k => if ∃ p, p ∈ found ∧ k = tkey p then some (.bool true) else none
theorem metV_at {m : Nat} {found : List (List Int)} {q : List Int} (hf : ∀ p, p ∈ found → p.length = m) (hq : q.length = m) : (metV found (tkey q)).getD (.bool false) = .bool (decide (q ∈ found)) := by
  unfold metV
  by_cases h : q ∈ found
  · rw [if_pos ⟨q, h, rfl⟩]; simp [h]
  · rw [if_neg]
    · simp [h]
    · rintro ⟨p, hp, e⟩
      exact h (tkey_inj (hq.trans (hf p hp).symm) e ▸ hp)
theorem metV_none {m : Nat} {found : List (List Int)} {q : List Int} (hf : ∀ p, p ∈ found → p.length = m) (hq : q.length = m) (h : q ∉ found) : metV found (tkey q) = none := by
  unfold metV
  rw [if_neg]
  rintro ⟨p, hp, e⟩
  exact h (tkey_inj (hq.trans (hf p hp).symm) e ▸ hp)
theorem metV_add (found : List (List Int)) (q : List Int) (k : Value) : (if k = tkey q then some (.bool true) else metV found k) = metV (found ++ [q]) k := by
  unfold metV
  by_cases h : k = tkey q
  · rw [if_pos h, if_pos ⟨q, by simp, h⟩]
  · rw [if_neg h]
    by_cases h2 : ∃ p, p ∈ found ∧ k = tkey p
    · rw [if_pos h2]
      obtain ⟨p, hp, e⟩ := h2
      rw [if_pos ⟨p, by simp [hp], e⟩]
    · rw [if_neg h2, if_neg]
      rintro ⟨p, hp, e⟩
      rcases List.mem_append.1 hp with hp | hp
      · exact h2 ⟨p, hp, e⟩
      · simp at hp; subst hp; exact h e
theorem metV_nil : (fun _ => none : Value → Option Value) = metV [] := by
  funext k
  unfold metV
  rw [if_neg]
  rintro ⟨p, hp, _⟩
  cases hp
theorem MapN.congr {K : TypeId} {w : World} {b n : Nat} {V V' : Value → Option Value} (h : MapN K w b n V) (e : ∀ k, V k = V' k) : MapN K w b n V' := by
  have e2 : V = V' := funext e
  rw [← e2]; exact h
/-- How many entries a map has. -/
def mLen (w : World) (b : Nat) : Nat := match w.heap[b]? with | some (.map es _) => es.size | _ => 0
theorem MapN.len {K : TypeId} {w : World} {b n : Nat} {V : Value → Option Value} (h : MapN K w b n V) : mLen w b = n := by
  obtain ⟨es, clock, hb, hs⟩ := h.raw
  unfold mLen
  rw [hb]
  exact hs
/-- Block b is the map of the tuples that were met, each once. -/
def MetN (w : World) (b : Nat) (found : List (List Int)) : Prop := MapN 61 w b found.length (metV found)
/-- What a map of tuples reads as. -/
def MetD (D : DataW Value) (found : List (List Int)) : Prop := ∀ key kl, keyOf Try.prog 61 key = some kl → D.atKey kl .nil = (match metV found key with | some v => .held v | none => .nil)
/-- Block r goes over the tuples of the map b; those that it has given are got. -/
def MetR (w : World) (b r : Nat) (found got : List (List Int)) (cnt : Nat) : Prop :=
  ∃ (D : DataW Value) (left : Lit → Bool), w.ranges Try.prog 61 tokK b r found.length D left cnt ∧ MetD D found ∧ got.Nodup ∧ (∀ y, y ∈ got → y ∈ found) ∧
    (∀ y kl, y ∈ found → y ∉ got → keyOf Try.prog 61 (tkey y) = some kl → left kl = true) ∧ (∀ y kl, y ∈ got → keyOf Try.prog 61 (tkey y) = some kl → left kl = false)
section
variable {w w' : World} {b r m cnt : Nat} {found got : List (List Int)}
theorem MetN.owns (h : MetN w b found) : ∃ D, w.ownsMap Try.prog 61 tokK b found.length D ∧ MetD D found := by
  obtain ⟨es, clock, hb, F, hs, hV⟩ := h
  exact ⟨_, ⟨es, clock, hb, F, by omega, rfl⟩, hV⟩
theorem MetD.has {D : DataW Value} (h : MetD D found) {y : List Int} {kl : Lit} (hy : y ∈ found) (hk : keyOf Try.prog 61 (tkey y) = some kl) : Maps.has D kl = true := by
  have h9 := h _ _ hk
  have e : metV found (tkey y) = some (.bool true) := by unfold metV; rw [if_pos ⟨y, hy, rfl⟩]
  rw [e] at h9
  cases hh : Maps.has D kl with
  | true => rfl
  | false =>
    rw [Maps.atKey_of_not_has hh] at h9
    cases h9
theorem MetN.range {t e : TypeId} (h : MetN w b found) (ht : Try.prog.underlying t = some (.map 61 e)) :
    ∃ w' cnt, (Instr.range t (.map (some b))).run Try.prog w = .ok (.pointer (some ⟨w.heap.size, 0, none⟩)) w' ∧ MetR w' b w.heap.size found [] cnt ∧ w.grownBy w' none ∧ w'.heap.size = w.heap.size + 1 := by
  obtain ⟨D, hown, hD⟩ := h.owns
  obtain ⟨w', hrun, hrg, hg, hs⟩ := hown.range tk_keyed ht
  exact ⟨w', _, hrun, ⟨D, _, hrg, hD, List.nodup_nil, fun y hy => absurd hy List.not_mem_nil, fun y kl hy _ hk => hD.has hy hk, fun y kl hy => absurd hy List.not_mem_nil⟩, hg, hs⟩
theorem MetR.of_blocks (h : MetR w b r found got cnt) (eb : w'.heap[b]? = w.heap[b]?) (er : w'.heap[r]? = w.heap[r]?) : MetR w' b r found got cnt := by
  obtain ⟨D, left, ⟨es, clock, since, seen, c0, hb, F, hs, hD, hr, rest⟩, h2⟩ := h
  exact ⟨D, left, ⟨es, clock, since, seen, c0, eb.trans hb, F, hs, hD, er.trans hr, rest⟩, h2⟩
theorem MetR.ltb (h : MetR w b r found got cnt) : b < w.heap.size := by
  obtain ⟨D, left, hr, _⟩ := h
  exact hr.owns.lt
theorem MetR.ltr (h : MetR w b r found got cnt) : r < w.heap.size := by
  obtain ⟨D, left, hr, _⟩ := h
  exact hr.lt
theorem MetR.later (h : MetR w b r found got cnt) (hb : Below w.heap.size w w') : MetR w' b r found got cnt := h.of_blocks (hb.block b h.ltb) (hb.block r h.ltr)
theorem MetR.left_eq (h : MetR w b r found got cnt) : w.rangeLeft b r = cnt := by
  obtain ⟨D, left, hr, _⟩ := h
  exact hr.left_eq
theorem MetR.mono {got' : List (List Int)} (h : MetR w b r found got cnt) (e : got = got') : MetR w b r found got' cnt := e ▸ h
/-- The step: nothing is left, or one that was not met yet. -/
theorem MetR.next (h : MetR w b r found got cnt) (hm : ∀ p, p ∈ found → p.length = m) (hsm : ∀ p, p ∈ found → Sm p) (ty : TypeId) :
    ((∀ y, y ∈ found ↔ y ∈ got) ∧ (Instr.next (.pointer (some ⟨r, 0, none⟩)) false ty).run Try.prog w = .ok (.tuple #[.bool false]) w) ∨
    ∃ p v w' cnt', p ∈ found ∧ p ∉ got ∧ (Instr.next (.pointer (some ⟨r, 0, none⟩)) false ty).run Try.prog w = .ok (.tuple #[.bool true, tkey p, v]) w' ∧ MetR w' b r found (got ++ [p]) cnt' ∧ cnt' < cnt ∧ w.grownBy w' (some r) ∧ w'.heap.size = w.heap.size ∧ (Instr.entry (.pointer (some ⟨r, 0, none⟩))).run Try.prog w' = .ok (.tuple #[tkey p, v]) w' := by
  obtain ⟨D, left, hr, hD, hn, hs, h1, h2⟩ := h
  rcases hr.next tk_keyed ty with ⟨_, hl, hrun⟩ | ⟨key, v, kl, y, w', cnt', hkey, hlk, hv, hat, hrun, hrg, hlt, hgr, hsz, hen⟩
  · refine .inl ⟨fun y => ⟨fun hy => ?_, hs y⟩, hrun⟩
    refine Classical.byContradiction fun hno => ?_
    obtain ⟨kl, hk⟩ := tkey_ex (hsm y hy)
    have h9 := h1 y kl hy hno hk
    rw [hl kl] at h9
    cases h9
  · have h9 := hD key kl hkey
    rw [hat .nil] at h9
    have hy : y = (.held v, []) := by unfold tokK at hv; injection hv with hv; exact hv.symm
    rw [hy] at h9
    obtain ⟨p, hp, rfl⟩ : ∃ p, p ∈ found ∧ key = tkey p := by
      cases e : metV found key with
      | none => rw [e] at h9; cases h9
      | some u =>
        unfold metV at e
        by_cases hex : ∃ p, p ∈ found ∧ key = tkey p
        · exact hex
        · rw [if_neg hex] at e; cases e
    have hpg : p ∉ got := fun hg => by have h8 := h2 p kl hg hkey; rw [hlk] at h8; cases h8
    refine .inr ⟨p, v, w', cnt', hp, hpg, hrun, ⟨D, _, hrg, hD, List.nodup_append.2 ⟨hn, by simp, fun a ha c hc e => by simp at hc; subst hc; subst e; exact hpg ha⟩, fun z hz => ?_, fun z kz hz hzn hk => ?_, fun z kz hz hk => ?_⟩, hlt, hgr, hsz, hen⟩
    · rcases List.mem_append.1 hz with hz | hz
      · exact hs z hz
      · simp at hz; subst hz; exact hp
    · have hz1 : z ∉ got := fun e => hzn (List.mem_append.2 (.inl e))
      have hz2 : z ≠ p := fun e => hzn (List.mem_append.2 (.inr (by simp [e])))
      have h8 := h1 z kz hz hz1 hk
      have hne : kz.sameKey kl = false := by
        cases hc : kz.sameKey kl with
        | false => rfl
        | true =>
          have e := WideAt.sameKey_eq hc
          rw [e] at hk
          exact absurd (tkey_inj ((hm z hz).trans (hm p hp).symm) (tk_keyed.inj hk hkey)) hz2
      simp [h8, hne]
    · rcases List.mem_append.1 hz with hz | hz
      · simp [h2 z kz hz hk]
      · simp at hz
        subst hz
        rw [hkey] at hk
        injection hk with hk
        subst hk
        simp [WideAt.sameKey_self (tk_keyed.key hkey)]
end
end Go.Proofs.Ytbhlcfcmjildmaa
namespace Go.Proofs.Ytbhlcfcmjildmaa
open Go Go.RowKit
open Classical
set_option maxHeartbeats 1000000
/-! Quotients of words. -/
/-- The rests behind u of the words of a list that begin with u. -/
def restL (u : List Int) : List (List Int) → List (List Int)
  | [] => []
  | p :: l => if p.take u.length = u then p.drop u.length :: restL u l else restL u l
theorem restL_mem (u : List Int) : ∀ (l : List (List Int)) (r : List Int), r ∈ restL u l ↔ u ++ r ∈ l
  | [], r => by simp [restL]
  | p :: l, r => by
    unfold restL
    by_cases h : p.take u.length = u
    · rw [if_pos h, List.mem_cons, restL_mem u l r, List.mem_cons]
      have e : r = p.drop u.length ↔ u ++ r = p := by
        constructor
        · intro e; subst e
          have h2 := List.take_append_drop u.length p
          rw [h] at h2; exact h2
        · intro e; subst e; simp
      rw [e]
    · rw [if_neg h, restL_mem u l r, List.mem_cons]
      constructor
      · exact .inr
      · rintro (e | e)
        · exact absurd (by rw [← e]; simp) h
        · exact e
theorem restL_nodup (u : List Int) : ∀ (l : List (List Int)), l.Nodup → (restL u l).Nodup
  | [], _ => by simp [restL]
  | p :: l, hn => by
    rw [List.nodup_cons] at hn
    unfold restL
    by_cases h : p.take u.length = u
    · rw [if_pos h, List.nodup_cons]
      refine ⟨fun hm => hn.1 ?_, restL_nodup u l hn.2⟩
      rw [restL_mem] at hm
      have h2 := List.take_append_drop u.length p
      rw [h] at h2
      rw [h2] at hm; exact hm
    · rw [if_neg h]; exact restL_nodup u l hn.2
theorem restL_len (u : List Int) : ∀ (l : List (List Int)), (restL u l).length ≤ l.length
  | [] => by simp [restL]
  | p :: l => by
    have := restL_len u l
    unfold restL
    split <;> simp <;> omega
theorem restL_app (u : List Int) : ∀ (l : List (List Int)) (p : List Int), restL u (l ++ [p]) = restL u l ++ (if p.take u.length = u then [p.drop u.length] else [])
  | [], p => by
    simp only [List.nil_append, restL]
  | q :: l, p => by
    have ih := restL_app u l p
    simp only [List.cons_append, restL]
    split
    · rw [ih]; simp
    · exact ih
section
variable {h1 h2 : Nat → Nat → Int}
/-- Moves behind a begin. -/
theorem mv_behind (u : List Int) (r : List Int) (k : Nat) : mvL h1 h2 (u ++ r) (u.length + k) = u ++ mvL h1 h2 r k := by
  have e1 : elN (u ++ r) (u.length + k) = elN r k := by unfold elN; simp only [List.getD_eq_getElem?_getD]; rw [List.getElem?_append_right (by omega), Nat.add_sub_cancel_left]
  have e2 : elN (u ++ r) (u.length + k + 1) = elN r (k + 1) := by unfold elN; simp only [List.getD_eq_getElem?_getD]; rw [Nat.add_assoc, List.getElem?_append_right (by omega), Nat.add_sub_cancel_left]
  unfold mvL
  rw [e1, e2]
  rw [List.set_append_right _ _ (by omega), List.set_append_right _ _ (by omega)]
  congr 3 <;> omega
theorem Tch.behind (u : List Int) {r r' : List Int} (h : Tch h1 h2 r r') : Tch h1 h2 (u ++ r) (u ++ r') := by
  induction h with
  | refl => exact .refl
  | @step y j _ hk ih =>
    have h9 := Tch.step ih (k := u.length + j) (by simp; omega)
    rw [mv_behind] at h9
    exact h9
/-- The rests of a word in order. -/
def Rests (h1 h2 : Nat → Nat → Int) (u w : List Int) (L : List (List Int)) : Prop := Asc L ∧ ∀ r, r ∈ L ↔ Tch h1 h2 w (u ++ r)
end
/-- What the quotient of words is told. -/
def QtR (f s : List (List Int)) (u x : List Int) (zs : List Int) (code : Int) : Prop :=
  (WdC f s [u, x] code ∧ code ≠ 0 ∧ zs = []) ∨ (WdC f s [u, x] 0 ∧ ¬ (FewT (leH f) (leH s) u 1000 ∧ FewT (leH f) (leH s) x 1000) ∧ zs = [] ∧ code = 3) ∨
  (WdC f s [u, x] 0 ∧ FewT (leH f) (leH s) u 1000 ∧ FewT (leH f) (leH s) x 1000 ∧ ∃ L, Rests (leH f) (leH s) u x L ∧ ((L = [] ∧ zs = [] ∧ code = 4) ∨ (0 < L.length ∧ zs = L.getD 0 [] ∧ code = 0)))
/-- What the question whether a word divides another one is told. -/
def DvR (f s : List (List Int)) (u x : List Int) (v : Bool) (code : Int) : Prop := ∃ zs qc, QtR f s u x zs qc ∧ zs.length ≤ 1048576 ∧ ((qc = 4 ∧ v = false ∧ code = 0) ∨ (qc ≠ 4 ∧ (v = true ↔ qc = 0) ∧ code = qc))
end Go.Proofs.Ytbhlcfcmjildmaa
namespace Go.Proofs.Ytbhlcfcmjildmaa
open Go Go.RowKit
open Classical
set_option maxHeartbeats 4000000
set_option maxRecDepth 100000 in
theorem wordS_any (n : Nat) (A : Option Addr) (m c : Nat) (xs : List Int) (r : Bool) (w : World) (h1 : 1 ≤ n) (h12 : n ≤ 12) (hm : xs.length = m) (hb : m ≤ 1048576) (hr : Rd w A xs) (hrr : r = true ↔ Wrd n xs) :
    Calls Try.prog 73 #[.int .i64 n, .slice A m c] w fun e w' => e = .returned (.bool r) ∧ Quiet w w' := by
  have HM := hide hm
  have HR := hide hr
  have HRR := hide hrr
  have hnw : IntKind.i64.wrap ((n : Int) - 1) = (n : Int) - 1 := IntWalk.i64_in _ (by omega)
  clear hm hr hrr
  go_enter Try.func73, Try.ntmps73
  go_wp2_with fail
  go_loopw [5] (fun i wr => ∃ j : Nat, j ≤ m ∧ i = .int .i64 j ∧ Quiet w wr ∧ ∀ i, i < j → 0 ≤ xs.getD i 0 ∧ xs.getD i 0 < (n : Int)) (fun i _ => m - (intOf i).toNat)
  case atStart => exact ⟨0, Nat.zero_le _, rfl, Quiet.refl _, fun i hi => absurd hi (Nat.not_lt_zero _)⟩
  case round =>
    obtain ⟨j, hj, rfl, hq, hin⟩ := hrel
    have HIN := hide hin
    have HQ := hide hq
    clear hin hq
    by_cases hlt : j < m
    · obtain ⟨b, o, rfl, _, hc⟩ := HQ.out.rd HR.out (by have := HM.out; omega)
      have hv := hc j (by have := HM.out; omega)
      obtain ⟨y, hy⟩ : ∃ y, y = xs.getD j 0 := ⟨_, rfl⟩
      rw [← hy] at hv
      have HY := hide hy
      clear hy hc
      have hjz : (j : Int) < m := by omega
      obtain ⟨r1, hr1⟩ : ∃ r1 : Bool, r1 = true ↔ 0 ≤ y ∧ y ≤ (n : Int) - 1 := bool_of _
      have HR1 := hide hr1
      clear hr1
      go_wp2_with fail
      refine (in_any y 0 ((n : Int) - 1) r1 _ HR1.out).mono ?_
      rintro e w2 ⟨rfl, hq2⟩
      have HQ2 := hide (HQ.out.trans hq2)
      clear hq2
      cases r1 with
      | true =>
        have h2 := HR1.out.1 rfl
        go_wp2_with fail
        go_roundw
        case rel =>
          refine ⟨j + 1, by omega, by go_num, HQ2.out, fun i hi => ?_⟩
          by_cases e : i = j
          · subst e; rw [← HY.out]; omega
          · exact HIN.out i (by omega)
        case measure => simp [intOf]; omega
      | false =>
        have hrf : r = false := by
          cases r with
          | false => rfl
          | true =>
            have h := (HRR.out.1 rfl).2 j (by rw [HM.out]; exact hlt)
            rw [← HY.out] at h
            exact absurd (HR1.out.2 ⟨h.1, by omega⟩) (by simp)
        subst hrf
        go_wp2_with fail
        go_ret
        exact ⟨rfl, HQ2.out⟩
    · have hjm : j = m := by omega
      subst hjm
      by_cases h8 : j ≤ 8
      · have h8z : decide ((j : Int) ≤ 8) = true := by simp; omega
        have hrt : r = true := HRR.out.2 ⟨by rw [HM.out]; exact h8, fun i hi => HIN.out i (by rw [← HM.out]; exact hi)⟩
        subst hrt
        go_wp2_with fail
        go_ret
        exact ⟨rfl, HQ.out⟩
      · have h8z : decide ((j : Int) ≤ 8) = false := by simp; omega
        have hrf : r = false := by
          cases r with
          | false => rfl
          | true => have h := (HRR.out.1 rfl).1; rw [HM.out] at h; omega
        subst hrf
        go_wp2_with fail
        go_ret
        exact ⟨rfl, HQ.out⟩
set_option maxRecDepth 100000 in
theorem codeS_any (A B C D : Option Addr) (n c k d m e m2 e2 : Nat) (f s : List (List Int)) (xs ys : List Int) (code : Int) (w : World) (hz : ZArg 1048576 w A n f B k s) (hm : xs.length = m) (hb : m ≤ 1048576) (hr : Rd w C xs) (hm2 : ys.length = m2) (hb2 : m2 ≤ 1048576) (hr2 : Rd w D ys) (hc : WdC f s [xs, ys] code) :
    Calls Try.prog 48 #[.agg #[.slice A n c, .slice B k d], .slice C m e, .slice D m2 e2] w fun e w' => e = .returned (.int .i64 code) ∧ Below w.heap.size w w' := by
  have HZ := hide hz
  have HM := hide hm
  have HR := hide hr
  have HM2 := hide hm2
  have HR2 := hide hr2
  have HC := hide hc
  have HB0 := hide ((Below.refl _ w).alloc (Nat.le_refl _) (Obj.cells #[Value.slice A n c, Value.slice B k d] 29))
  have HK0 := hide (Blk.new w 29 [.slice A n c, .slice B k d])
  by_cases hs : SolF f s
  · have HS := hide hs
    obtain rfl := (hz.same hs.1).symm
    have hn := hz.sz.fl
    have h12 := hz.small hs.1
    obtain ⟨r1, hr1⟩ : ∃ r1 : Bool, r1 = true ↔ Wrd n xs := bool_of _
    obtain ⟨r3, hr3⟩ : ∃ r3 : Bool, r3 = true ↔ Wrd n ys := bool_of _
    have HR1 := hide hr1
    have HR3 := hide hr3
    have hcode : code = if r1 = true ∧ r3 = true then 0 else 2 := by
      have e : Wrds f.length [xs, ys] ↔ r1 = true ∧ r3 = true := by rw [hn, wrds2, hr1, hr3]
      rcases hc with ⟨_, h, rfl⟩ | ⟨_, h, rfl⟩ | ⟨h, _⟩
      · rw [if_pos (e.1 h)]
      · rw [if_neg (fun h2 => h (e.2 h2))]
      · exact absurd hs h
    clear hz hm hr hm2 hr2 hc hs hr1 hr3 HC hn
    go_enter Try.func48, Try.ntmps48
    have k0 := HK0.out.cell 0 _ rfl
    have k1 := HK0.out.cell 1 _ rfl
    go_wp2_with fail
    clear k0 k1
    refine (isS_any _ _ _ f _ _ _ s true _ (HZ.out.later HB0.out) ⟨fun _ => HS.out, fun _ => rfl⟩).mono ?_
    rintro e w1 ⟨rfl, hb1⟩
    have HB1 := hide (HB0.out.trans (hb1.mono HB0.out.size))
    have HK1 := hide (HK0.out.later hb1)
    clear hb1
    have k0 := HK1.out.cell 0 _ rfl
    have k1 := HK1.out.cell 1 _ rfl
    go_wp2_with fail
    clear k0 k1
    refine (wordS_any n C m _ xs r1 _ h12.1 h12.2 HM.out hb (HR.out.later HB1.out) HR1.out).mono ?_
    rintro e w2 ⟨rfl, hq2⟩
    have HB2 := hide (HB1.out.trans ((hq2.below w1.heap.size).mono HB1.out.size))
    clear hq2
    cases r1 with
    | false =>
      have hc2 : code = 2 := by rw [hcode]; simp
      subst hc2
      go_wp2_with fail
      go_ret
      exact ⟨rfl, HB2.out⟩
    | true =>
      go_wp2_with fail
      refine (wordS_any n D m2 _ ys r3 _ h12.1 h12.2 HM2.out hb2 (HR2.out.later HB2.out) HR3.out).mono ?_
      rintro e w3 ⟨rfl, hq3⟩
      have HB3 := hide (HB2.out.trans ((hq3.below w2.heap.size).mono HB2.out.size))
      clear hq3
      cases r3 with
      | false =>
        have hc2 : code = 2 := by rw [hcode]; simp
        subst hc2
        go_wp2_with fail
        go_ret
        exact ⟨rfl, HB3.out⟩
      | true =>
        have hc2 : code = 0 := by rw [hcode]; simp
        clear hcode
        subst hc2
        go_wp2_with fail
        trace_state
        go_ret
        exact ⟨rfl, HB3.out⟩
  · have HS := hide hs
    have hc2 : code = 1 := by
      rcases hc with ⟨h, _⟩ | ⟨h, _⟩ | ⟨_, h⟩
      · exact absurd h hs
      · exact absurd h hs
      · exact h
    subst hc2
    clear hz hm hr hm2 hr2 hc hs HC
    go_enter Try.func48, Try.ntmps48
    have k0 := HK0.out.cell 0 _ rfl
    have k1 := HK0.out.cell 1 _ rfl
    go_wp2_with fail
    clear k0 k1
    refine (isS_any _ _ _ f _ _ _ s false _ (HZ.out.later HB0.out) ⟨fun h => absurd h (by simp), fun h => absurd h HS.out⟩).mono ?_
    rintro e w1 ⟨rfl, hb1⟩
    have HB1 := hide (HB0.out.trans (hb1.mono HB0.out.size))
    clear hb1
    go_wp2_with fail
    go_ret
    exact ⟨rfl, HB1.out⟩
end Go.Proofs.Ytbhlcfcmjildmaa
namespace Go.Proofs.Ytbhlcfcmjildmaa
open Go Go.RowKit
open Classical
set_option maxHeartbeats 4000000
set_option maxRecDepth 100000 in
theorem areWords_any (n : Nat) (A : Option Addr) (m c : Nat) (rows : List (List Int)) (r : Bool) (w : World) (hm : rows.length = m) (hb : m ≤ 1048576) (hbs : ∀ i, i < rows.length → (rows.getD i []).length ≤ 1048576) (hr : Rd2 w A rows) (hrr : r = true ↔ Wrds n rows) :
    Calls Try.prog 72 #[.int .i64 n, .slice A m c] w fun e w' => e = .returned (.bool r) ∧ Below w.heap.size w w' := by
  have HM := hide hm
  have HR := hide hr
  have HRR := hide hrr
  have HBS := hide hbs
  clear hm hr hrr hbs
  go_enter Try.func72, Try.ntmps72
  go_wp2_with fail
  go_loopw [9] (fun i wr => ∃ j : Nat, j ≤ m ∧ i = .int .i64 j ∧ Below w.heap.size w wr ∧ ∀ i, i < j → Wrd n (rows.getD i [])) (fun i _ => m - (intOf i).toNat)
  case atStart => exact ⟨0, Nat.zero_le _, rfl, Below.refl _ _, fun i hi => absurd hi (Nat.not_lt_zero _)⟩
  case round =>
    obtain ⟨j, hj, rfl, hq, hin⟩ := hrel
    have HIN := hide hin
    have HB := hide hq
    clear hin hq
    by_cases hlt : j < m
    · obtain ⟨b, o, rfl, _, hc⟩ := (HR.out.later HB.out) (by have := HM.out; omega)
      obtain ⟨Aj, cj, hcell, hrd⟩ := hc j (by have := HM.out; omega)
      have hlb := HBS.out j (by have := HM.out; omega)
      obtain ⟨p, hp⟩ : ∃ p, rows.getD j [] = p := ⟨_, rfl⟩
      rw [hp] at hcell hrd hlb
      have HP := hide hp
      obtain ⟨l, hl⟩ : ∃ l, p.length = l := ⟨_, rfl⟩
      rw [hl] at hcell hlb
      have HL := hide hl
      have HRD := hide hrd
      have hjz : (j : Int) < m := by omega
      have bad : ¬ Wrd n p → r = false := fun hyr => by
        cases r
        · rfl
        · exact absurd (by have h := HRR.out.1 rfl j (by rw [HM.out]; exact hlt); rw [HP.out] at h; exact h) hyr
      have BAD := hide bad
      clear bad hp hl hrd hc
      by_cases h8 : l ≤ 8
      · have h8z : decide ((8 : Int) < (l : Int)) = false := by simp; omega
        obtain ⟨r1, hr1⟩ : ∃ r1 : Bool, r1 = true ↔ ∀ i, i < l → 0 ≤ p.getD i 0 ∧ p.getD i 0 < (n : Int) := bool_of _
        have HR1 := hide hr1
        clear hr1
        go_wp2_with fail
        refine (els_any n Aj l cj p r1 _ HL.out (by omega) HRD.out HR1.out).mono ?_
        rintro e w2 ⟨rfl, hq2⟩
        have HB2 := hide (HB.out.trans ((hq2.below wr.heap.size).mono HB.out.size))
        clear hq2
        cases r1 with
        | true =>
          have HW : Hid (Wrd n p) := hide ⟨by rw [HL.out]; exact h8, fun i hi => HR1.out.1 rfl i (by rw [← HL.out]; exact hi)⟩
          go_wp2_with fail
          go_roundw
          case rel =>
            refine ⟨j + 1, by omega, by go_num, HB2.out, fun i hi => ?_⟩
            by_cases e : i = j
            · subst e; rw [HP.out]; exact HW.out
            · exact HIN.out i (by omega)
          case measure => simp [intOf]; omega
        | false =>
          have HW : Hid (¬ Wrd n p) := hide (fun h => absurd (HR1.out.2 (fun i hi => h.2 i (by rw [HL.out]; exact hi))) (by simp))
          go_wp2_with fail
          go_ret
          have := BAD.out HW.out
          exact ⟨by subst this; rfl, HB2.out⟩
      · have h8z : decide ((8 : Int) < (l : Int)) = true := by simp; omega
        have HW : Hid (¬ Wrd n p) := hide (fun h => by have h1 := h.1; rw [HL.out] at h1; omega)
        go_wp2_with fail
        go_ret
        have := BAD.out HW.out
        exact ⟨by subst this; rfl, HB.out⟩
    · have hjm : j = m := by omega
      subst hjm
      have hrt : r = true := HRR.out.2 (fun i hi => HIN.out i (by rw [← HM.out]; exact hi))
      go_wp2_with fail
      go_ret
      exact ⟨by subst hrt; rfl, HB.out⟩
set_option maxRecDepth 100000 in
theorem wordFault_any (A B C : Option Addr) (n c k d m e : Nat) (f s rows : List (List Int)) (code : Int) (w : World) (hz : ZArg 1048576 w A n f B k s) (hm : rows.length = m) (hb : m ≤ 1048576) (hbs : ∀ i, i < rows.length → (rows.getD i []).length ≤ 1048576) (hr : Rd2 w C rows) (hc : WdC f s rows code) :
    Calls Try.prog 44 #[.agg #[.slice A n c, .slice B k d], .slice C m e] w fun e w' => e = .returned (.int .i64 code) ∧ Below w.heap.size w w' := by
  have HZ := hide hz
  have HM := hide hm
  have HR := hide hr
  have HBS := hide hbs
  have HB0 := hide ((Below.refl _ w).alloc (Nat.le_refl _) (Obj.cells #[Value.slice A n c, Value.slice B k d] 29))
  have HK0 := hide (Blk.new w 29 [.slice A n c, .slice B k d])
  rcases hc with ⟨hs, hw, rfl⟩ | ⟨hs, hw, rfl⟩ | ⟨hs, rfl⟩
  · have HS := hide hs
    obtain rfl := (hz.same hs.1).symm
    rw [hz.sz.fl] at hw
    have HW := hide hw
    clear hz hm hr hbs hs hw
    go_enter Try.func44, Try.ntmps44
    have k0 := HK0.out.cell 0 _ rfl
    have k1 := HK0.out.cell 1 _ rfl
    go_wp2_with fail
    clear k0 k1
    refine (isI_any _ _ _ f _ _ _ s true _ (HZ.out.later HB0.out) ⟨fun _ => HS.out, fun _ => rfl⟩).mono ?_
    rintro e w1 ⟨rfl, hb1⟩
    have HB1 := hide (HB0.out.trans (hb1.mono HB0.out.size))
    have HK1 := hide (HK0.out.later hb1)
    clear hb1
    have k0 := HK1.out.cell 0 _ rfl
    have k1 := HK1.out.cell 1 _ rfl
    go_wp2_with fail
    clear k0 k1
    refine (size_any _ _ _ _ _ _ _ HZ.out.sz.nb).mono ?_
    rintro e w2 ⟨rfl, hb2⟩
    have HB2 := hide (HB1.out.trans (hb2.mono HB1.out.size))
    clear hb2
    go_wp2_with fail
    refine (areWords_any n C m _ rows true _ HM.out hb HBS.out (HR.out.later HB2.out) ⟨fun _ => HW.out, fun _ => rfl⟩).mono ?_
    rintro e w3 ⟨rfl, hb3⟩
    have HB3 := hide (HB2.out.trans (hb3.mono HB2.out.size))
    clear hb3
    go_wp2_with fail
    go_ret
    exact ⟨rfl, HB3.out⟩
  · have HS := hide hs
    obtain rfl := (hz.same hs.1).symm
    rw [hz.sz.fl] at hw
    have HW := hide hw
    clear hz hm hr hbs hs hw
    go_enter Try.func44, Try.ntmps44
    have k0 := HK0.out.cell 0 _ rfl
    have k1 := HK0.out.cell 1 _ rfl
    go_wp2_with fail
    clear k0 k1
    refine (isI_any _ _ _ f _ _ _ s true _ (HZ.out.later HB0.out) ⟨fun _ => HS.out, fun _ => rfl⟩).mono ?_
    rintro e w1 ⟨rfl, hb1⟩
    have HB1 := hide (HB0.out.trans (hb1.mono HB0.out.size))
    have HK1 := hide (HK0.out.later hb1)
    clear hb1
    have k0 := HK1.out.cell 0 _ rfl
    have k1 := HK1.out.cell 1 _ rfl
    go_wp2_with fail
    clear k0 k1
    refine (size_any _ _ _ _ _ _ _ HZ.out.sz.nb).mono ?_
    rintro e w2 ⟨rfl, hb2⟩
    have HB2 := hide (HB1.out.trans (hb2.mono HB1.out.size))
    clear hb2
    go_wp2_with fail
    refine (areWords_any n C m _ rows false _ HM.out hb HBS.out (HR.out.later HB2.out) ⟨fun h => absurd h (by simp), fun h => absurd h HW.out⟩).mono ?_
    rintro e w3 ⟨rfl, hb3⟩
    have HB3 := hide (HB2.out.trans (hb3.mono HB2.out.size))
    clear hb3
    go_wp2_with fail
    go_ret
    exact ⟨rfl, HB3.out⟩
  · have HS := hide hs
    clear hz hm hr hbs hs
    go_enter Try.func44, Try.ntmps44
    have k0 := HK0.out.cell 0 _ rfl
    have k1 := HK0.out.cell 1 _ rfl
    go_wp2_with fail
    clear k0 k1
    refine (isI_any _ _ _ f _ _ _ s false _ (HZ.out.later HB0.out) ⟨fun h => absurd h (by simp), fun h => absurd h HS.out⟩).mono ?_
    rintro e w1 ⟨rfl, hb1⟩
    have HB1 := hide (HB0.out.trans (hb1.mono HB0.out.size))
    clear hb1
    go_wp2_with fail
    go_ret
    exact ⟨rfl, HB1.out⟩
end Go.Proofs.Ytbhlcfcmjildmaa
namespace Go.Proofs.Ytbhlcfcmjildmaa
open Go Go.RowKit
/-! A slice of tuples. -/
theorem tqInfo : (Try.prog.info? 61).map (fun i => (i.zero, i.size, i.bytes)) = some (some (.agg #[.int .i64 0, .int .i64 0, .int .i64 0, .int .i64 0, .int .i64 0, .int .i64 0, .int .i64 0, .int .i64 0, .int .i64 0, .int .i64 0, .int .i64 0, .int .i64 0]), 12, 96) := by kernel_rfl
theorem tq_mv {h1 h2 : Nat → Nat → Int} {xs : List Int} {k : Nat} (hk : k + 1 < xs.length) : ((pad12 xs).set k (h1 (elN xs k) (elN xs (k + 1)))).set (k + 1) (h2 (elN xs k) (elN xs (k + 1))) = pad12 (mvL h1 h2 xs k) := by
  unfold pad12
  rw [mvL_length]
  unfold mvL
  rw [List.set_append_left _ _ (by omega), List.set_append_left _ _ (by simp; omega)]
/-- The cells of a list of tuples. -/
def tcells (L : List (List Int)) : List Value := L.flatMap fun t => ints (pad12 t)
theorem tcells_snoc (L : List (List Int)) (t : List Int) : tcells (L ++ [t]) = tcells L ++ ints (pad12 t) := by simp [tcells]
theorem tcells_length {L : List (List Int)} (h : ∀ t, t ∈ L → t.length ≤ 12) : (tcells L).length = L.length * 12 := by
  induction L with
  | nil => rfl
  | cons a L ih =>
    have h1 := ih (fun t ht => h t (by simp [ht]))
    have h2 := pad12_length (h a (by simp))
    simp only [tcells, List.flatMap_cons, List.length_append, ints_length, h2, List.length_cons] at h1 ⊢
    omega
theorem tcells_at : ∀ {L : List (List Int)} (_ : ∀ t, t ∈ L → t.length ≤ 12) {i j : Nat} (_ : i < L.length) (_ : j < 12), (tcells L)[i * 12 + j]? = some (.int .i64 ((pad12 (L.getD i [])).getD j 0))
  | [], _, i, _, hi, _ => by simp at hi
  | a :: L, h, i, j, hi, hj => by
    have h2 := pad12_length (h a (by simp))
    have e : tcells (a :: L) = ints (pad12 a) ++ tcells L := by simp [tcells]
    rw [e]
    cases i with
    | zero =>
      rw [List.getElem?_append_left (by rw [ints_length]; omega)]
      have h3 : j < (pad12 a).length := by omega
      simp [ints, h3]
    | succ i =>
      rw [List.getElem?_append_right (by rw [ints_length]; omega), ints_length, h2, show (i + 1) * 12 + j - 12 = i * 12 + j by omega, tcells_at (fun t ht => h t (by simp [ht])) (by simpa using hi) hj]
      simp
/-- The length of a slice. -/
def lenV : Value → Nat
  | .slice _ n _ => n
  | _ => 0
/-- v is a slice of the tuples L, in memory of its own from B on. -/
def TupS (w : World) (B : Nat) (v : Value) (L : List (List Int)) : Prop := w.ownsRow B 61 12 v L.length (tcells L)
section
variable {w w' : World} {B : Nat} {v : Value} {L : List (List Int)}
theorem TupS.later (h : TupS w B v L) (hb : Below w.heap.size w w') : TupS w' B v L := by
  obtain ⟨hl, h⟩ := h
  refine ⟨hl, ?_⟩
  rcases h with h | ⟨g, cap, cur, hv, hb2, hh, rest⟩
  · exact .inl h
  · exact .inr ⟨g, cap, cur, hv, hb2, (hb.block g (Array.getElem?_eq_some_iff.1 hh).1).trans hh, rest⟩
theorem TupS.nil (h : TupS w B v []) : ∃ A c, v = .slice A 0 c := by
  rcases h.2 with ⟨hv, _⟩ | ⟨g, cap, cur, hv, _⟩
  · exact ⟨_, _, hv⟩
  · exact ⟨_, _, hv⟩
theorem TupS.len (h : TupS w B v L) : lenV v = L.length := by
  rcases h.2 with ⟨hv, h0⟩ | ⟨g, cap, cur, hv, _⟩
  · rw [hv, h0]; rfl
  · rw [hv]; rfl
theorem TupS.at (h : TupS w B v L) (hs : ∀ t, t ∈ L → t.length ≤ 12) {i : Nat} (hi : i < L.length) : ∃ g c, v = .slice (some ⟨g, 0, none⟩) L.length c ∧ L.length ≤ c ∧ c ≤ maxLen ∧ B ≤ g ∧ g < w.heap.size ∧ ∀ j, j < 12 → w.cell? ⟨g, i * 12 + j, none⟩ = some (.int .i64 ((pad12 (L.getD i [])).getD j 0)) := by
  rcases h.2 with ⟨_, h2⟩ | ⟨g, cap, cur, hv, hg, hh, h1, h2, h3, h4⟩
  · omega
  · refine ⟨g, cap, hv, h1, h2, hg, (Array.getElem?_eq_some_iff.1 hh).1, fun j hj => ?_⟩
    have h5 := tcells_at hs hi hj
    rw [← h4, List.getElem?_take, if_pos (by omega)] at h5
    rw [cell_of_row w g _ cur _ (0, 0) hh]
    simpa using h5
theorem TupS.front {t : List Int} (h : TupS w B v (L ++ [t])) (hs : ∀ t, t ∈ L → t.length ≤ 12) : ∃ g c, v = .slice (some ⟨g, 0, none⟩) (L.length + 1) c ∧ TupS w B (.slice (some ⟨g, 0, none⟩) L.length c) L := by
  obtain ⟨hl, h | ⟨g, cap, cur, hv, hb, hg, hn, hcap, hsz, hxs⟩⟩ := h
  · simp at h
  · rw [List.length_append] at hv hn hxs
    refine ⟨g, cap, hv, tcells_length hs, .inr ⟨g, cap, cur, rfl, hb, hg, by omega, hcap, hsz, ?_⟩⟩
    rw [tcells_snoc] at hxs
    have h5 := congrArg (List.take (L.length * 12)) hxs
    rw [List.take_take, Nat.min_eq_left (by simp; omega)] at h5
    rw [h5, List.take_left' (tcells_length hs)]
/-- It stays where a map is written. -/
theorem TupS.off {b : Nat} (h : TupS w B v L) (hm : IsMapB w b) (hg : w.grownBy w' (some b)) : TupS w' B v L := by
  obtain ⟨hl, h⟩ := h
  refine ⟨hl, ?_⟩
  rcases h with h | ⟨g, cap, cur, hv, hb, hh, rest⟩
  · exact .inl h
  · exact .inr ⟨g, cap, cur, hv, hb, off_cells hm hg hh, rest⟩
theorem MapN.isMap {K : TypeId} {w : World} {b n : Nat} {V : Value → Option Value} (h : MapN K w b n V) : IsMapB w b := by
  obtain ⟨es, clock, hb, _⟩ := h
  exact ⟨es, clock, hb⟩
/-- A map stays where a slice of tuples grows. -/
theorem MapN.offT {K : TypeId} {b n : Nat} {V : Value → Option Value} (h : MapN K w b n V) (hl : TupS w B v L) (hg : w.grownBy w' v.ownBlock) : MapN K w' b n V := by
  obtain ⟨es, clock, hb⟩ := h.isMap
  refine h.of_block (hg.block b h.lt (fun e => ?_))
  rcases hl.2 with ⟨hv, _⟩ | ⟨g, cap, cur, hv, _, hh, _⟩
  · subst hv; simp [Value.ownBlock] at e
  · subst hv
    simp [Value.ownBlock] at e
    subst e
    rw [hb] at hh
    cases hh
theorem off_cellsN {k : Nat} {cs : Array Value} {t : TypeId} {fr : Nat × Nat} {b : Nat} (hm : ∀ cs t fr, w.heap[b]? ≠ some (.cells cs t fr)) (hg : w.grownBy w' (some b)) (e : w.heap[k]? = some (.cells cs t fr)) : w'.heap[k]? = some (.cells cs t fr) := by
  rw [hg.block k (Array.getElem?_eq_some_iff.1 e).1 (fun e2 => by injection e2 with e2; subst e2; exact hm _ _ _ e)]
  exact e
theorem LstV.offN {ts t : TypeId} {rows : List (List Int)} {vals : List Value} {b : Nat} (h : LstV ts t B w v rows vals) (hm : ∀ cs t fr, w.heap[b]? ≠ some (.cells cs t fr)) (hg : w.grownBy w' (some b)) : LstV ts t B w' v rows vals := by
  refine ⟨?_, fun i hi => ?_, h.ne⟩
  · obtain ⟨h1, h2⟩ := h.own
    refine ⟨h1, ?_⟩
    rcases h2 with h2 | ⟨g, cap, cur, hv, hg', hh, r⟩
    · exact .inl h2
    · exact .inr ⟨g, cap, cur, hv, hg', off_cellsN hm hg hh, r⟩
  · obtain ⟨A, c, h1, h2⟩ := h.row i hi
    refine ⟨A, c, h1, ?_⟩
    rcases h2 with h2 | ⟨g, e, a, b', cur, hc, r⟩
    · exact .inl h2
    · exact .inr ⟨g, e, a, Nat.lt_of_lt_of_le b' hg.size, cur, off_cellsN hm hg hc, r⟩
theorem MetR.iterN {b r cnt : Nat} {found got : List (List Int)} (h : MetR w b r found got cnt) : ∀ cs t fr, w.heap[r]? ≠ some (.cells cs t fr) := by
  obtain ⟨D, left, ⟨es, clock, since, seen, c0, hb, F, hs, hD, hr, _⟩, _⟩ := h
  intro cs t fr e
  rw [hr] at e
  cases e
theorem MetR.mapN {b r cnt : Nat} {found got : List (List Int)} (h : MetR w b r found got cnt) : ∀ cs t fr, w.heap[b]? ≠ some (.cells cs t fr) := by
  obtain ⟨D, left, ⟨es, clock, since, seen, c0, hb, F, hs, hD, hr, _⟩, _⟩ := h
  intro cs t fr e
  rw [hb] at e
  cases e
/-- The way over a map goes on where a list of slices grows. -/
theorem MetR.off {ts : TypeId} {n : Nat} {vals : List Value} {b r cnt : Nat} {found got : List (List Int)} (h : MetR w b r found got cnt) (hl : w.ownsRow B ts 1 v n vals) (hg : w.grownBy w' v.ownBlock) : MetR w' b r found got cnt := by
  have hne : ∀ k, (∀ cs t fr, w.heap[k]? ≠ some (.cells cs t fr)) → some k ≠ v.ownBlock := by
    intro k hk e
    rcases hl.2 with ⟨hv, _⟩ | ⟨g, cap, cur, hv, _, hh, _⟩
    · subst hv; simp [Value.ownBlock] at e
    · subst hv
      simp [Value.ownBlock] at e
      subst e
      exact hk _ _ _ hh
  exact h.of_blocks (hg.block b h.ltb (hne _ h.mapN)) (hg.block r h.ltr (hne _ h.iterN))
theorem Blk.grown {b : Nat} {t : TypeId} {cs : List Value} {row : Option Nat} (h : Blk w b t cs) (hg : w.grownBy w' row) (hne : some b ≠ row) : Blk w' b t cs := (hg.block b h.lt hne).trans h
end
end Go.Proofs.Ytbhlcfcmjildmaa
