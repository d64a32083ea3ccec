import Derived.Test.YtgmloaemnbnbgaaZn
import Derived.Test.YtgmloaemnbnbgaaZr
import Derived.Test.YtgmloaemnbnbgaaZs
import Derived.Test.YtgmloaemnbnbgaaZj
import Derived.Test.YtgmloaemnbnbgaaZp
import Derived.Test.YtgmloaemnbnbgaaZq
import Derived.Test.YtgmloaemnbnbgaaProg
import Derived.Test.YtgmloaemnbnbgaaZa
import Derived.Test.YtgmloaemnbnbgaaZt
import Derived.Test.YtgmloaemnbnbgaaZo
namespace Go.Proofs.Ytgmloaemnbnbgaa
open Go Go.RowKit
set_option maxHeartbeats 1000000
theorem isI_any (A : Option Addr) (n c : Nat) (f : List (List Int)) (B : Option Addr) (m d : Nat) (s : List (List Int)) (r : Bool) (w : World) (hz : ZArg 1048576 w A n f B m s) (hr : IsRes f s r) :
    Calls Try.prog 82 #[.agg #[.slice A n c, .slice B m d]] w fun e w' => e = .returned (.bool r) ∧ Below w.heap.size w w' := by
  have HZ := hide hz
  have HB0 := hide ((Below.refl _ w).alloc (Nat.le_refl _) (Obj.cells #[Value.slice A n c, Value.slice B m d] 29))
  have HK0 := hide (Blk.new w 29 [.slice A n c, .slice B m d])
  have hcs := hr.cases hz.sz.fl
  clear hr hz
  rcases hcs with ⟨hp, rfl⟩ | ⟨hp, T, hT, hq⟩
  · have HP := hide hp
    clear hp
    go_enter Try.func82, Try.ntmps82
    go_wp2_with fail
    refine (mapI_any _ _ _ f _ _ _ s false _ (HZ.out.later HB0.out) (by simp [HP.out])).mono ?_
    rintro e w1 ⟨rfl, hb1⟩
    have HB1 := hide (HB0.out.trans (hb1.mono HB0.out.size))
    have HK1 := hide (HK0.out.later hb1)
    have k0 := HK1.out.cell 0 _ rfl
    have k1 := HK1.out.cell 1 _ rfl
    clear hb1
    go_wp2_with fail
    go_ret
    exact ⟨rfl, HB1.out⟩
  · have HP := hide hp
    have HT := hide hT
    clear hp hT
    have hq2 : (T < n * n * n ∧ r = false) ∨ (T = n * n * n ∧ (Hid (∃ a b, FstCol f s n a b) ∧ r = false ∨ Hid (NoCol f s n) ∧ r = true)) := by
      rcases hq with ⟨h1, ⟨_, h⟩ | ⟨_, h⟩⟩ | ⟨h1, ⟨h2, h⟩ | ⟨h2, h⟩⟩
      · exact .inl ⟨h1, h⟩
      · exact .inl ⟨h1, h⟩
      · exact .inr ⟨h1, .inl ⟨hide h2, h⟩⟩
      · exact .inr ⟨h1, .inr ⟨hide h2, h⟩⟩
    clear hq
    rcases hq2 with ⟨hlt, rfl⟩ | ⟨hte, ⟨HC, rfl⟩ | ⟨HC, rfl⟩⟩
    · go_enter Try.func82, Try.ntmps82
      go_wp2_with fail
      refine (mapI_any _ _ _ f _ _ _ s true _ (HZ.out.later HB0.out) (by simp [HP.out])).mono ?_
      rintro e w1 ⟨rfl, hb1⟩
      have HB1 := hide (HB0.out.trans (hb1.mono HB0.out.size))
      have HK1 := hide (HK0.out.later hb1)
      have k0 := HK1.out.cell 0 _ rfl
      have k1 := HK1.out.cell 1 _ rfl
      clear hb1
      go_wp2_with fail
      refine (fault_any _ _ _ f _ _ _ s T _ (HZ.out.later HB1.out) HP.out HT.out).mono ?_
      rintro e w2 ⟨t, ok, rfl, hb2, hres⟩
      have HB2 := hide (HB1.out.trans (hb2.mono HB1.out.size))
      have HK2 := hide (HK1.out.later hb2)
      have hok : ok = true := by rcases hres with ⟨h1, h2, _⟩ | ⟨h1, h2⟩ <;> first | exact h1 | omega
      subst hok
      clear hb2 hres k0 k1
      unfold tv
      obtain ⟨x, y, z⟩ := t
      have k0 := fun o => (HK2.out.alloc o).cell 0 _ rfl
      have k1 := fun o => (HK2.out.alloc o).cell 1 _ rfl
      go_wp2_with fail
      clear k0 k1
      refine bp_gen fun wf hwf => ?_
      have HBF : Below w.heap.size w wf := by rw [hwf]; exact HB2.out.alloc HB2.out.size _
      clear hwf
      go_ret
      exact ⟨rfl, HBF⟩
    · go_enter Try.func82, Try.ntmps82
      go_wp2_with fail
      refine (mapI_any _ _ _ f _ _ _ s true _ (HZ.out.later HB0.out) (by simp [HP.out])).mono ?_
      rintro e w1 ⟨rfl, hb1⟩
      have HB1 := hide (HB0.out.trans (hb1.mono HB0.out.size))
      have HK1 := hide (HK0.out.later hb1)
      have k0 := HK1.out.cell 0 _ rfl
      have k1 := HK1.out.cell 1 _ rfl
      clear hb1
      go_wp2_with fail
      refine (fault_any _ _ _ f _ _ _ s T _ (HZ.out.later HB1.out) HP.out HT.out).mono ?_
      rintro e w2 ⟨t, ok, rfl, hb2, hres⟩
      have HB2 := hide (HB1.out.trans (hb2.mono HB1.out.size))
      have HK2 := hide (HK1.out.later hb2)
      have hok : ok = false := by rcases hres with ⟨h1, h2, _⟩ | ⟨h1, h2⟩ <;> first | exact h1 | omega
      subst hok
      clear hb2 hres k0 k1
      unfold tv
      obtain ⟨x, y, z⟩ := t
      have k0 := fun o => (HK2.out.alloc o).cell 0 _ rfl
      have k1 := fun o => (HK2.out.alloc o).cell 1 _ rfl
      go_wp2_with fail
      clear k0 k1
      refine calls_gen fun w4 hw4 => ?_
      replace HB2 : Hid (Below w.heap.size w w4) := hide (by rw [hw4]; exact HB2.out.alloc HB2.out.size _)
      clear hw4 HK2
      refine (coll_any _ _ _ f _ _ _ s _ (HZ.out.later HB2.out) HP.out).mono ?_
      rintro e w3 ⟨hb3, hres⟩
      have HB3 := hide (HB2.out.trans (hb3.mono HB2.out.size))
      clear hb3
      obtain ⟨a, b, hf⟩ := HC.out
      rcases hres with ⟨hno, _⟩ | ⟨a', b', _, rfl⟩
      · exact absurd hno hf.not
      · go_wp2_with fail
        refine bp_gen fun wf hwf => ?_
        have HBF : Below w.heap.size w wf := by rw [hwf]; exact (HB3.out.alloc HB3.out.size _).alloc (by have := HB3.out.size; simp; omega) _
        clear hwf
        go_ret
        exact ⟨rfl, HBF⟩
    · go_enter Try.func82, Try.ntmps82
      go_wp2_with fail
      refine (mapI_any _ _ _ f _ _ _ s true _ (HZ.out.later HB0.out) (by simp [HP.out])).mono ?_
      rintro e w1 ⟨rfl, hb1⟩
      have HB1 := hide (HB0.out.trans (hb1.mono HB0.out.size))
      have HK1 := hide (HK0.out.later hb1)
      have k0 := HK1.out.cell 0 _ rfl
      have k1 := HK1.out.cell 1 _ rfl
      clear hb1
      go_wp2_with fail
      refine (fault_any _ _ _ f _ _ _ s T _ (HZ.out.later HB1.out) HP.out HT.out).mono ?_
      rintro e w2 ⟨t, ok, rfl, hb2, hres⟩
      have HB2 := hide (HB1.out.trans (hb2.mono HB1.out.size))
      have HK2 := hide (HK1.out.later hb2)
      have hok : ok = false := by rcases hres with ⟨h1, h2, _⟩ | ⟨h1, h2⟩ <;> first | exact h1 | omega
      subst hok
      clear hb2 hres k0 k1
      unfold tv
      obtain ⟨x, y, z⟩ := t
      have k0 := fun o => (HK2.out.alloc o).cell 0 _ rfl
      have k1 := fun o => (HK2.out.alloc o).cell 1 _ rfl
      go_wp2_with fail
      clear k0 k1
      refine calls_gen fun w4 hw4 => ?_
      replace HB2 : Hid (Below w.heap.size w w4) := hide (by rw [hw4]; exact HB2.out.alloc HB2.out.size _)
      clear hw4 HK2
      refine (coll_any _ _ _ f _ _ _ s _ (HZ.out.later HB2.out) HP.out).mono ?_
      rintro e w3 ⟨hb3, hres⟩
      have HB3 := hide (HB2.out.trans (hb3.mono HB2.out.size))
      clear hb3
      rcases hres with ⟨_, rfl⟩ | ⟨a', b', hf2, _⟩
      · go_wp2_with fail
        refine bp_gen fun wf hwf => ?_
        have HBF : Below w.heap.size w wf := by rw [hwf]; exact (HB3.out.alloc HB3.out.size _).alloc (by have := HB3.out.size; simp; omega) _
        clear hwf
        go_ret
        exact ⟨rfl, HBF⟩
      · exact absurd HC.out hf2.not
end Go.Proofs.Ytgmloaemnbnbgaa
namespace Go.Proofs.Ytgmloaemnbnbgaa
open Go Go.RowKit
open Classical
/-! Elements that act alike, and the numbers of their classes. -/
/-- Each class of a numbering has its number at the list of the classes' first elements. -/
theorem firstsL_mem {L : List Int} {v : Int} (k : Nat) : v ∈ firstsL L k ↔ ∃ j, j < k ∧ lb L j = v := by
  induction k with
  | zero => simp [firstsL]
  | succ k ih =>
    unfold firstsL
    by_cases h : lb L k ∈ firstsL L k
    · rw [if_pos h, ih]
      constructor
      · rintro ⟨j, h1, h2⟩; exact ⟨j, by omega, h2⟩
      · rintro ⟨j, h1, h2⟩
        by_cases e : j = k
        · subst e
          rw [h2] at h
          exact ih.1 h
        · exact ⟨j, by omega, h2⟩
    · rw [if_neg h, List.mem_append, ih]
      constructor
      · rintro (⟨j, h1, h2⟩ | h2)
        · exact ⟨j, by omega, h2⟩
        · exact ⟨k, by omega, (List.mem_singleton.1 h2).symm⟩
      · rintro ⟨j, h1, h2⟩
        by_cases e : j = k
        · subst e; right; simp only [h2, List.mem_singleton]
        · left; exact ⟨j, by omega, h2⟩
theorem firstsL_nodup (L : List Int) (k : Nat) : (firstsL L k).Nodup := by
  induction k with
  | zero => simp [firstsL]
  | succ k ih =>
    unfold firstsL
    by_cases h : lb L k ∈ firstsL L k
    · rw [if_pos h]; exact ih
    · rw [if_neg h, List.nodup_append]
      refine ⟨ih, by simp, fun a ha b hb e => h ?_⟩
      have : b = lb L k := by simpa using hb
      rw [← this, ← e]; exact ha
theorem firstsL_grow (L : List Int) {j k : Nat} (h : j ≤ k) : ∃ t, firstsL L k = firstsL L j ++ t := by
  induction k with
  | zero => obtain rfl : j = 0 := by omega
            exact ⟨[], by simp⟩
  | succ k ih =>
    by_cases e : j = k + 1
    · subst e; exact ⟨[], by simp⟩
    · obtain ⟨t, ht⟩ := ih (by omega)
      have e2 : firstsL L (k + 1) = if lb L k ∈ firstsL L k then firstsL L k else firstsL L k ++ [lb L k] := rfl
      rw [e2]
      by_cases h1 : lb L k ∈ firstsL L k
      · rw [if_pos h1]; exact ⟨t, ht⟩
      · rw [if_neg h1]; exact ⟨t ++ [lb L k], by rw [ht, List.append_assoc]⟩
/-- The number of a class: a place in the list of the classes' first elements. -/
theorem numL_ix (L : List Int) {x : Nat} (h : x < L.length) : (numL L).getD x 0 = (((firstsL L L.length).idxOf (lb L x) : Nat) : Int) := by
  have e : (numL L).getD x 0 = ixOf (firstsL L (x + 1)) (lb L x) := by simp [numL, numTo, h]
  have hm : lb L x ∈ firstsL L (x + 1) := (firstsL_mem (x + 1)).2 ⟨x, by omega, rfl⟩
  obtain ⟨t, ht⟩ := firstsL_grow L (show x + 1 ≤ L.length by omega)
  rw [e, ht, List.idxOf_append, if_pos hm]
  unfold ixOf
  rw [if_pos hm]
/-- How many classes there are. -/
noncomputable def clsN (L : List Int) : Nat := (firstsL L L.length).length
theorem numL_lt (L : List Int) {x : Nat} (h : x < L.length) : 0 ≤ (numL L).getD x 0 ∧ (numL L).getD x 0 < (clsN L : Int) := by
  rw [numL_ix L h]
  have hm : lb L x ∈ firstsL L L.length := (firstsL_mem _).2 ⟨x, h, rfl⟩
  have := List.idxOf_lt_length_of_mem hm
  unfold clsN
  omega
theorem numL_onto (L : List Int) {c : Nat} (h : c < clsN L) : ∃ x, x < L.length ∧ (numL L).getD x 0 = (c : Int) := by
  unfold clsN at h
  obtain ⟨x, hx, e⟩ := (firstsL_mem (L := L) L.length).1 (List.getElem_mem h)
  refine ⟨x, hx, ?_⟩
  rw [numL_ix L hx, e, (firstsL_nodup L L.length).idxOf_getElem]
theorem numL_eq (L : List Int) {x y : Nat} (hx : x < L.length) (hy : y < L.length) : (numL L).getD x 0 = (numL L).getD y 0 ↔ lb L x = lb L y := by
  have h1 : lb L x ∈ firstsL L L.length := (firstsL_mem _).2 ⟨x, hx, rfl⟩
  have h2 : lb L y ∈ firstsL L L.length := (firstsL_mem _).2 ⟨y, hy, rfl⟩
  rw [numL_ix L hx, numL_ix L hy]
  constructor
  · intro e
    have e2 : (firstsL L L.length).idxOf (lb L x) = (firstsL L L.length).idxOf (lb L y) := by omega
    have g1 := List.getElem_idxOf (List.idxOf_lt_length_of_mem h1)
    have g2 := List.getElem_idxOf (List.idxOf_lt_length_of_mem h2)
    rw [← g1, ← g2]
    simp only [e2]
  · intro e; rw [e]
theorem clsN_le (L : List Int) : clsN L ≤ L.length := by
  have key : ∀ k, (firstsL L k).length ≤ k := by
    intro k
    induction k with
    | zero => simp [firstsL]
    | succ k ih =>
      unfold firstsL
      split
      · omega
      · simp; omega
  exact key _
theorem clsN_pos (L : List Int) (h : 1 ≤ L.length) : 1 ≤ clsN L := by
  have := numL_lt L (x := 0) (by omega)
  omega
theorem clsN_max (L : List Int) (h : 1 ≤ L.length) : IsMax (numL L) ((clsN L : Int) - 1) := by
  have h1 := clsN_pos L h
  refine ⟨?_, fun i hi => ?_⟩
  · obtain ⟨x, hx, e⟩ := numL_onto L (c := clsN L - 1) (by omega)
    exact ⟨x, by rw [numL_length]; exact hx, by rw [e]; omega⟩
  · rw [numL_length] at hi
    have := numL_lt L hi
    omega
/-- The elements a and b act alike. -/
def Alk (f s : List (List Int)) (a b : Nat) : Prop := f.getD a [] = f.getD b [] ∧ (turnL s).getD a [] = (turnL s).getD b []
section
variable {f s : List (List Int)} {a b c : Nat}
theorem Alk.refl (f s : List (List Int)) (a : Nat) : Alk f s a a := ⟨rfl, rfl⟩
theorem Alk.symm (h : Alk f s a b) : Alk f s b a := ⟨h.1.symm, h.2.symm⟩
theorem Alk.trans (h : Alk f s a b) (k : Alk f s b c) : Alk f s a c := ⟨h.1.trans k.1, h.2.trans k.2⟩
end
/-- The least number below k of a kind, or k. -/
noncomputable def lstTo (p : Nat → Prop) : Nat → Nat
  | 0 => 0
  | k + 1 => if lstTo p k < k then lstTo p k else if p k then k else k + 1
theorem lstTo_le (p : Nat → Prop) (k : Nat) : lstTo p k ≤ k := by
  induction k with
  | zero => exact Nat.le_refl _
  | succ k ih =>
    unfold lstTo
    split
    · omega
    · split <;> omega
theorem lstTo_none (p : Nat → Prop) (k : Nat) : ∀ a, a < lstTo p k → ¬ p a := by
  induction k with
  | zero => intro a ha; simp [lstTo] at ha
  | succ k ih =>
    have h1 := lstTo_le p k
    unfold lstTo
    by_cases h : lstTo p k < k
    · rw [if_pos h]; exact ih
    · rw [if_neg h]
      have e : lstTo p k = k := by omega
      by_cases h2 : p k
      · rw [if_pos h2]; intro a ha; exact ih a (by omega)
      · rw [if_neg h2]
        intro a ha
        by_cases e2 : a = k
        · subst e2; exact h2
        · exact ih a (by omega)
theorem lstTo_hit (p : Nat → Prop) (k : Nat) (h : lstTo p k < k) : p (lstTo p k) := by
  induction k with
  | zero => simp [lstTo] at h
  | succ k ih =>
    have h1 := lstTo_le p k
    unfold lstTo at h ⊢
    by_cases h2 : lstTo p k < k
    · rw [if_pos h2]; exact ih h2
    · rw [if_neg h2] at h ⊢
      by_cases h3 : p k
      · rw [if_pos h3]; exact h3
      · rw [if_neg h3] at h; omega
theorem lstTo_is (p : Nat → Prop) (k v : Nat) (hk : v ≤ k) (hn : ∀ a, a < v → ¬ p a) (hv : v < k → p v) : lstTo p k = v := by
  have h1 := lstTo_none p k
  have h2 := lstTo_le p k
  rcases Nat.lt_trichotomy (lstTo p k) v with h | h | h
  · exact absurd (lstTo_hit p k (by omega)) (hn _ h)
  · exact h
  · exact absurd (hv (by omega)) (h1 v h)
/-- The least element that acts as x does. -/
noncomputable def lst8 (f s : List (List Int)) (x : Nat) : Nat := lstTo (Alk f s x) (x + 1)
theorem lst8_le (f s : List (List Int)) (x : Nat) : lst8 f s x ≤ x := by
  have h := lstTo_le (Alk f s x) (x + 1)
  rcases Nat.lt_or_ge x (lst8 f s x) with h1 | h1
  · exact absurd (Alk.refl f s x) (lstTo_none (Alk f s x) (x + 1) x h1)
  · exact h1
theorem lst8_alk (f s : List (List Int)) (x : Nat) : Alk f s x (lst8 f s x) := lstTo_hit _ _ (by have := lst8_le f s x; unfold lst8 at this; omega)
theorem lst8_none {f s : List (List Int)} {x a : Nat} (h : a < lst8 f s x) : ¬ Alk f s x a := lstTo_none _ _ a h
theorem lst8_is {f s : List (List Int)} {x v : Nat} (h1 : Alk f s x v) (h2 : ∀ a, a < v → ¬ Alk f s x a) : lst8 f s x = v := by
  have h3 := lst8_alk f s x
  rcases Nat.lt_trichotomy (lst8 f s x) v with h | h | h
  · exact absurd h3 (h2 _ h)
  · exact h
  · exact absurd h1 (lst8_none h)
theorem lst8_same {f s : List (List Int)} {x y : Nat} (h : Alk f s x y) : lst8 f s x = lst8 f s y :=
  lst8_is (h.trans (lst8_alk f s y)) fun _ ha h2 => lst8_none ha (h.symm.trans h2)
theorem lst8_eq {f s : List (List Int)} {x y : Nat} : lst8 f s x = lst8 f s y ↔ Alk f s x y :=
  ⟨fun e => (lst8_alk f s x).trans (by rw [e]; exact (lst8_alk f s y).symm), lst8_same⟩
/-- The least elements of the classes, element for element. -/
noncomputable def lbl8 (f s : List (List Int)) (n : Nat) : List Int := (List.range n).map fun (x : Nat) => ((lst8 f s x : Nat) : Int)
theorem lbl8_length (f s : List (List Int)) (n : Nat) : (lbl8 f s n).length = n := by simp [lbl8]
theorem lbl8_at (f s : List (List Int)) {n x : Nat} (h : x < n) : (lbl8 f s n).getD x 0 = ((lst8 f s x : Nat) : Int) := by simp [lbl8, h]
theorem lbl8_succ (f s : List (List Int)) (n : Nat) : lbl8 f s (n + 1) = lbl8 f s n ++ [((lst8 f s n : Nat) : Int)] := by simp [lbl8, List.range_succ]
theorem lbl8_rng (f s : List (List Int)) (n : Nat) (h : n ≤ 12) : ∀ v ∈ lbl8 f s n, -9223372036854775808 ≤ v ∧ v ≤ 9223372036854775807 := by
  intro v hv
  obtain ⟨x, hx, rfl⟩ := List.mem_map.1 hv
  have h1 := List.mem_range.1 hx
  have h2 := lst8_le f s x
  omega
/-- The numbers of the classes. -/
noncomputable def alC (f s : List (List Int)) : List Int := numL (lbl8 f s f.length)
noncomputable def alN (f s : List (List Int)) : Nat := clsN (lbl8 f s f.length)
/-- The number of the class of x. -/
noncomputable def cl8 (f s : List (List Int)) (x : Nat) : Nat := ((alC f s).getD x 0).toNat
section
variable {f s : List (List Int)} {n : Nat}
theorem alC_length (f s : List (List Int)) : (alC f s).length = f.length := by unfold alC; rw [numL_length, lbl8_length]
theorem alC_at (hn : f.length = n) {x : Nat} (hx : x < n) : (alC f s).getD x 0 = ((cl8 f s x : Nat) : Int) := by
  have h := numL_lt (lbl8 f s f.length) (x := x) (by rw [lbl8_length]; omega)
  unfold cl8 alC
  omega
theorem cl8_lt (hn : f.length = n) {x : Nat} (hx : x < n) : cl8 f s x < alN f s := by
  have h := numL_lt (lbl8 f s f.length) (x := x) (by rw [lbl8_length]; omega)
  unfold cl8 alC alN
  omega
theorem cl8_eq (hn : f.length = n) {x y : Nat} (hx : x < n) (hy : y < n) : cl8 f s x = cl8 f s y ↔ Alk f s x y := by
  have h := numL_eq (lbl8 f s f.length) (x := x) (y := y) (by rw [lbl8_length]; omega) (by rw [lbl8_length]; omega)
  have e1 := alC_at (s := s) hn hx
  have e2 := alC_at (s := s) hn hy
  unfold alC at e1 e2
  rw [e1, e2] at h
  unfold lb at h
  rw [lbl8_at f s (by omega), lbl8_at f s (by omega)] at h
  rw [← lst8_eq]
  constructor
  · intro e; have := h.1 (by omega); omega
  · intro e; have := h.2 (by omega); omega
theorem cl8_onto (hn : f.length = n) {c : Nat} (hc : c < alN f s) : ∃ x, x < n ∧ cl8 f s x = c := by
  obtain ⟨x, hx, e⟩ := numL_onto (lbl8 f s f.length) hc
  rw [lbl8_length] at hx
  refine ⟨x, by omega, ?_⟩
  unfold cl8 alC
  omega
theorem alN_le (hn : f.length = n) : alN f s ≤ n := by
  have := clsN_le (lbl8 f s f.length)
  rw [lbl8_length] at this
  unfold alN
  omega
theorem alN_pos (hn : f.length = n) (h : 1 ≤ n) : 1 ≤ alN f s := clsN_pos _ (by rw [lbl8_length]; omega)
theorem alC_max (hn : f.length = n) (h : 1 ≤ n) : IsMax (alC f s) ((alN f s : Int) - 1) := clsN_max _ (by rw [lbl8_length]; omega)
end
end Go.Proofs.Ytgmloaemnbnbgaa
namespace Go.Proofs.Ytgmloaemnbnbgaa
open Go Go.RowKit
set_option maxHeartbeats 1000000

theorem max_any (A : Option Addr) (n c : Nat) (xs : List Int) (m : Int) (w : World) (hn : xs.length = n) (h1 : 1 ≤ n) (hb : n ≤ 1048576) (hx : Rd w A xs) (hm : IsMax xs m) :
    Calls Try.prog 64 #[.slice A n c] w fun e w' => e = .returned (.int .i64 m) ∧ Below w.heap.size w w' := by
  have HN := hide hn
  have HM := hide hm
  obtain ⟨b, o, rfl, hbw, hc⟩ := hx (by omega)
  have HC := hide hc
  have hc0 := hc 0 (by omega)
  simp only [Nat.add_zero] at hc0
  obtain ⟨x0, hx0⟩ : ∃ v, xs.getD 0 0 = v := ⟨_, rfl⟩
  rw [hx0] at hc0
  have HX0 := hide hx0
  have h1z : ¬ ((n : Int) < 1) := by omega
  clear hn hx hm hc hx0
  go_enter Try.func64, Try.ntmps64
  go_wp2_with fail
  go_loopw [3, 4] (fun v i wr => ∃ (k : Nat) (u : Int), 1 ≤ k ∧ k ≤ n ∧ i = .int .i64 k ∧ v = .int .i64 u ∧ Below w.heap.size w wr ∧ (∃ j, j < k ∧ xs.getD j 0 = u) ∧ ∀ j, j < k → xs.getD j 0 ≤ u) (fun _ i _ => n - (intOf i).toNat)
  case atStart => exact ⟨1, x0, Nat.le_refl _, h1, rfl, rfl, Below.refl _ _, ⟨0, by omega, HX0.out⟩, fun j hj => by
    have e : j = 0 := by omega
    subst e
    rw [HX0.out]
    exact Int.le_refl _⟩
  case round =>
    obtain ⟨k, u, h1k, hk, rfl, rfl, hbe, hex, hall⟩ := hrel
    have HB := hide hbe
    have HEX := hide hex
    have HALL := hide hall
    clear hbe hex hall
    by_cases hlt : k < n
    · have hltz : (k : Int) < n := by omega
      have hck := HC.out k (by have := HN.out; omega)
      obtain ⟨y, hy⟩ : ∃ v, xs.getD k 0 = v := ⟨_, rfl⟩
      rw [hy] at hck
      replace hck := (HB.out.cell (p := ⟨b, o + k, none⟩) hbw).trans hck
      have HY := hide hy
      clear hy
      by_cases hlu : u < y
      · have hn2 : ¬ y < u := by omega
        go_wp2_with fail
        go_roundw
        case rel => exact ⟨k + 1, y, by omega, by omega, by go_num, (by first | rfl | (congr 1; omega)), HB.out, ⟨k, by omega, HY.out⟩, fun j hj => by
          by_cases e : j = k
          · subst e; rw [HY.out]; exact Int.le_refl _
          · have := HALL.out j (by omega); omega⟩
        case measure => simp [intOf]; omega
      · by_cases hyu : y < u
        · go_wp2_with fail
          go_roundw
          case rel => exact ⟨k + 1, u, by omega, by omega, by go_num, (by first | rfl | (congr 1; omega)), HB.out, by obtain ⟨j, h2, h3⟩ := HEX.out; exact ⟨j, by omega, h3⟩, fun j hj => by
            by_cases e : j = k
            · subst e; rw [HY.out]; omega
            · exact HALL.out j (by omega)⟩
          case measure => simp [intOf]; omega
        · have e : y = u := by omega
          subst e
          go_wp2_with fail
          go_roundw
          case rel => exact ⟨k + 1, y, by omega, by omega, by go_num, (by first | rfl | (congr 1; omega)), HB.out, ⟨k, by omega, HY.out⟩, fun j hj => by
            by_cases e : j = k
            · subst e; rw [HY.out]; exact Int.le_refl _
            · exact HALL.out j (by omega)⟩
          case measure => simp [intOf]; omega
    · have hkn : k = n := by omega
      subst hkn
      obtain ⟨j, h2, h3⟩ := HEX.out
      obtain ⟨⟨i, hi, hmi⟩, hml⟩ := HM.out
      have e : u = m := by
        have a := hml j (by have := HN.out; omega)
        have b := HALL.out i (by have := HN.out; omega)
        omega
      subst e
      clear h3 hmi hml
      go_wp2_with fail
      go_ret
      exact ⟨rfl, HB.out⟩
end Go.Proofs.Ytgmloaemnbnbgaa
namespace Go.Proofs.Ytgmloaemnbnbgaa
open Go Go.RowKit
set_option maxHeartbeats 1000000
theorem isS_any (A : Option Addr) (n c : Nat) (f : List (List Int)) (B : Option Addr) (m d : Nat) (s : List (List Int)) (r : Bool) (w : World) (hz : ZArg 1048576 w A n f B m s) (hr : IsRes f s r) :
    Calls Try.prog 76 #[.agg #[.slice A n c, .slice B m d]] w fun e w' => e = .returned (.bool r) ∧ Below w.heap.size w w' := by
  have HZ := hide hz
  have HB0 := hide ((Below.refl _ w).alloc (Nat.le_refl _) (Obj.cells #[Value.slice A n c, Value.slice B m d] 29))
  have HK0 := hide (Blk.new w 29 [.slice A n c, .slice B m d])
  have hcs := hr.cases hz.sz.fl
  clear hr hz
  rcases hcs with ⟨hp, rfl⟩ | ⟨hp, T, hT, hq⟩
  · have HP := hide hp
    clear hp
    go_enter Try.func76, Try.ntmps76
    go_wp2_with fail
    refine (mapS_any _ _ _ f _ _ _ s false _ (HZ.out.later HB0.out) (by simp [HP.out])).mono ?_
    rintro e w1 ⟨rfl, hb1⟩
    have HB1 := hide (HB0.out.trans (hb1.mono HB0.out.size))
    have HK1 := hide (HK0.out.later hb1)
    have k0 := HK1.out.cell 0 _ rfl
    have k1 := HK1.out.cell 1 _ rfl
    clear hb1
    go_wp2_with fail
    go_ret
    exact ⟨rfl, HB1.out⟩
  · have HP := hide hp
    have HT := hide hT
    clear hp hT
    have hq2 : (Hid (∃ a b, FstCol f s n a b) ∧ r = false) ∨ (Hid (NoCol f s n) ∧ ((T < n * n * n ∧ r = false) ∨ (T = n * n * n ∧ r = true))) := by
      rcases hq with ⟨h1, ⟨h2, h⟩ | ⟨h2, h⟩⟩ | ⟨h1, ⟨h2, h⟩ | ⟨h2, h⟩⟩
      · exact .inr ⟨hide h2, .inl ⟨h1, h⟩⟩
      · exact .inl ⟨hide h2, h⟩
      · exact .inl ⟨hide h2, h⟩
      · exact .inr ⟨hide h2, .inr ⟨h1, h⟩⟩
    clear hq
    rcases hq2 with ⟨HC, rfl⟩ | ⟨HC, ⟨hlt, rfl⟩ | ⟨hte, rfl⟩⟩
    · go_enter Try.func76, Try.ntmps76
      go_wp2_with fail
      refine (mapS_any _ _ _ f _ _ _ s true _ (HZ.out.later HB0.out) (by simp [HP.out])).mono ?_
      rintro e w1 ⟨rfl, hb1⟩
      have HB1 := hide (HB0.out.trans (hb1.mono HB0.out.size))
      have HK1 := hide (HK0.out.later hb1)
      have k0 := HK1.out.cell 0 _ rfl
      have k1 := HK1.out.cell 1 _ rfl
      clear hb1
      go_wp2_with fail
      refine (collS_any _ _ _ f _ _ _ s _ (HZ.out.later HB1.out) HP.out).mono ?_
      rintro e w2 ⟨g, q, ys, rfl, hb2, _, _, hres⟩
      have HB2 := hide (HB1.out.trans (hb2.mono HB1.out.size))
      have HK2 := hide (HK1.out.later hb2)
      have hq9 : q = 4 := by obtain ⟨a, b, hf⟩ := HC.out; rcases hres with ⟨hno, _⟩ | ⟨a', b', _, _, h⟩; exact absurd hno hf.not; exact h
      subst hq9
      clear hb2 hres k0 k1
      have k0 := HK2.out.cell 0 _ rfl
      have k1 := HK2.out.cell 1 _ rfl
      go_wp2_with fail
      go_ret
      exact ⟨rfl, HB2.out⟩
    · go_enter Try.func76, Try.ntmps76
      go_wp2_with fail
      refine (mapS_any _ _ _ f _ _ _ s true _ (HZ.out.later HB0.out) (by simp [HP.out])).mono ?_
      rintro e w1 ⟨rfl, hb1⟩
      have HB1 := hide (HB0.out.trans (hb1.mono HB0.out.size))
      have HK1 := hide (HK0.out.later hb1)
      have k0 := HK1.out.cell 0 _ rfl
      have k1 := HK1.out.cell 1 _ rfl
      clear hb1
      go_wp2_with fail
      refine (collS_any _ _ _ f _ _ _ s _ (HZ.out.later HB1.out) HP.out).mono ?_
      rintro e w2 ⟨g, q, ys, rfl, hb2, _, _, hres⟩
      have HB2 := hide (HB1.out.trans (hb2.mono HB1.out.size))
      have HK2 := hide (HK1.out.later hb2)
      have hq9 : q = 0 := by rcases hres with ⟨_, _, h⟩ | ⟨a', b', hf2, _⟩; exact h; exact absurd HC.out hf2.not
      subst hq9
      clear hb2 hres k0 k1
      have k0 := HK2.out.cell 0 _ rfl
      have k1 := HK2.out.cell 1 _ rfl
      go_wp2_with fail
      refine (faultS_any _ _ _ f _ _ _ s T _ (HZ.out.later HB2.out) HP.out HT.out).mono ?_
      rintro e w3 ⟨g3, q3, ys3, rfl, hb3, _, _, hres⟩
      have HB3 := hide (HB2.out.trans (hb3.mono HB2.out.size))
      have hq9 : q3 = 3 := by rcases hres with ⟨h1, _, h2⟩ | ⟨h1, _, h2⟩ <;> omega
      subst hq9
      clear hb3 hres k0 k1
      go_wp2_with fail
      go_ret
      exact ⟨rfl, HB3.out⟩
    · go_enter Try.func76, Try.ntmps76
      go_wp2_with fail
      refine (mapS_any _ _ _ f _ _ _ s true _ (HZ.out.later HB0.out) (by simp [HP.out])).mono ?_
      rintro e w1 ⟨rfl, hb1⟩
      have HB1 := hide (HB0.out.trans (hb1.mono HB0.out.size))
      have HK1 := hide (HK0.out.later hb1)
      have k0 := HK1.out.cell 0 _ rfl
      have k1 := HK1.out.cell 1 _ rfl
      clear hb1
      go_wp2_with fail
      refine (collS_any _ _ _ f _ _ _ s _ (HZ.out.later HB1.out) HP.out).mono ?_
      rintro e w2 ⟨g, q, ys, rfl, hb2, _, _, hres⟩
      have HB2 := hide (HB1.out.trans (hb2.mono HB1.out.size))
      have HK2 := hide (HK1.out.later hb2)
      have hq9 : q = 0 := by rcases hres with ⟨_, _, h⟩ | ⟨a', b', hf2, _⟩; exact h; exact absurd HC.out hf2.not
      subst hq9
      clear hb2 hres k0 k1
      have k0 := HK2.out.cell 0 _ rfl
      have k1 := HK2.out.cell 1 _ rfl
      go_wp2_with fail
      refine (faultS_any _ _ _ f _ _ _ s T _ (HZ.out.later HB2.out) HP.out HT.out).mono ?_
      rintro e w3 ⟨g3, q3, ys3, rfl, hb3, _, _, hres⟩
      have HB3 := hide (HB2.out.trans (hb3.mono HB2.out.size))
      have hq9 : q3 = 0 := by rcases hres with ⟨h1, _, h2⟩ | ⟨h1, _, h2⟩ <;> omega
      subst hq9
      clear hb3 hres k0 k1
      go_wp2_with fail
      go_ret
      exact ⟨rfl, HB3.out⟩
end Go.Proofs.Ytgmloaemnbnbgaa
namespace Go.Proofs.Ytgmloaemnbnbgaa
open Go Go.RowKit
open Classical
set_option maxHeartbeats 2000000
theorem Row2.swap {t : TypeId} {B : Nat} {w : World} {v1 v2 : Value} {n1 n2 : Nat} {xs1 xs2 : List Int} (h : Row2 t B w v1 v2 n1 n2 xs1 xs2) : Row2 t B w v2 v1 n2 n1 xs2 xs1 := ⟨h.o2, h.o1, fun g h1 h2 => h.ne g h2 h1⟩
set_option maxRecDepth 100000 in
theorem renS_any (A : Option Addr) (n c : Nat) (L : List Int) (w : World) (hn : L.length = n) (h12 : n ≤ 12) (hr : Rd w A L) :
    Calls Try.prog 80 #[.slice A n c] w fun e w' => ∃ A' c', e = .returned (.slice A' n c') ∧ Below w.heap.size w w' ∧ Res 2 w.heap.size w' A' (numL L) := by
  have HN := hide hn
  have HR := hide hr
  obtain ⟨i0, hi, hz0, hz1, hz2⟩ := info_parts neInfo
  clear hn hr
  go_enter Try.func80, Try.ntmps80
  go_wp2_with fail
  refine wp_gen fun w0 hw0 => ?_
  have HB0 : Hid (Below w.heap.size w w0) := hide (by rw [hw0]; exact ((Below.refl _ _).alloc (Nat.le_refl _) _).alloc (by simp) _)
  have HRW0 : Hid (Row2 2 w.heap.size w0 (.slice (some ⟨w.heap.size + 1, 0, none⟩) 0 0) (.slice (some ⟨w.heap.size, 0, none⟩) 0 0) 0 0 (numTo L 0) (firstsL L 0)) := hide (by rw [hw0]; exact (row2_begin w _).swap)
  clear hw0
  go_loopw [3, 4, 5] (fun v2 v1 i wr => ∃ k m : Nat, k ≤ n ∧ i = .int .i64 k ∧ Below w.heap.size w wr ∧ Row2 2 w.heap.size wr v1 v2 k m (numTo L k) (firstsL L k)) (fun _ _ i _ => n - (intOf i).toNat)
  case atStart => exact ⟨0, 0, Nat.zero_le _, rfl, HB0.out, HRW0.out⟩
  case round =>
    obtain ⟨k, m, hk, rfl, hbe, hrw⟩ := hrel
    have HB := hide hbe
    have HRW := hide hrw
    clear hbe hrw HB0 HRW0
    by_cases hlt : k < n
    · have hltz : (k : Int) < n := by omega
      obtain ⟨b, o, hA, hbw, hc⟩ := HR.out (by rw [HN.out]; omega)
      subst hA
      obtain ⟨lk, hlk⟩ : ∃ lk, lb L k = lk := ⟨_, rfl⟩
      have HCELL : Hid (∀ wx : World, Below w.heap.size w wx → wx.cell? ⟨b, o + k, none⟩ = some (.int .i64 lk)) := hide (fun wx hb => (hb.cell (p := ⟨b, o + k, none⟩) hbw).trans (by rw [← hlk]; exact hc k (by rw [HN.out]; exact hlt)))
      have HLK := hide hlk
      clear hc
      have hm : (firstsL L k).length = m := by have h := HRW.out.o2.1; simpa [ints] using h
      have hm12 := firstsL_le L k
      obtain ⟨A2, c2, hv2, hres2⟩ := own_shape HRW.out.o2
      subst hv2
      have HRS := hide hres2.rd
      have HM := hide hm
      have hat1 := HCELL.out _ HB.out
      have hmk : m ≤ k := by omega
      clear hres2 hm
      go_wp2_with fail
      by_cases hin : lk ∈ firstsL L k
      · refine (has_any A2 m c2 (firstsL L k) lk true _ HM.out (by omega) HRS.out (by simp [hin])).mono ?_
        rintro e w5 ⟨rfl, hq5⟩
        replace HRS := hide (HRS.out.later (hq5.below _))
        replace HB := hide (HB.out.trans ((hq5.below _).mono HB.out.size))
        replace HRW := hide (HRW.out.later (hq5.below _))
        clear hq5

        have HFS : Hid (firstsL L (k + 1) = firstsL L k) := hide (by show (if lb L k ∈ firstsL L k then firstsL L k else firstsL L k ++ [lb L k]) = _; rw [hlk, if_pos hin])
        have HFL := HM
        clear hin hlk hat1
        have hat2 := HCELL.out _ HB.out
        have HRS2 := HRS
        go_wp2_with fail
        refine (index_any A2 _ c2 (firstsL L k) lk _ HFL.out (by omega) HRS2.out).mono ?_
        rintro e w7 ⟨rfl, hq7⟩
        replace HB := hide (HB.out.trans ((hq7.below _).mono HB.out.size))
        replace HRW := hide (HRW.out.later (hq7.below _))
        clear hq7
        obtain ⟨ix, hix⟩ : ∃ ix, ixOf (firstsL L k) lk = ix := ⟨_, rfl⟩
        rw [hix]
        have HIX := hide hix
        clear hix hat2
        go_wp2_with (at_builtin; refine wpList_append_own_at _ rfl _ _ 26 rfl w.heap.size 2 i0 (.int .i64 0) 1 8 Try.underlying26 hi hz0 hz1 hz2 rfl (by decide) _ _ _ rfl (HRW.out.o1.alloc _) ⟨w7.heap.size, 0, none⟩ 1 1 [.int .i64 ix] rfl rfl ?a1 ?a2 ?a3 ?a4 ?a5 ?_)
        try (case a1 => exact ne_new)
        try (case a2 => first | rfl | (intro u hu; simp at hu; subst hu; rfl))
        try (case a3 => first | omega | (unfold maxLen; omega))
        try (case a4 => omega)
        try (case a5 => first | omega | (simp; omega) | (have hs := HB.out.size; simp; omega))
        intro v' w9a hown hgrow _ hat
        replace HB := hide (grown_low HRW.out.o1 hgrow HB.out (Nat.le_refl _) HB.out.size)
        replace HRW := hide (HRW.out.add1 (tmp := .cells #[.int .i64 ix] 2) hown hgrow (by simpa using hat))
        clear hown hgrow hat
        go_wp2_with fail
        go_roundw
        case rel =>
          refine ⟨k + 1, m, by omega, by go_num, HB.out, ?_⟩
          have h := HRW.out
          rw [← HIX.out, ← HFS.out, ← HLK.out, ← numTo_succ] at h
          exact h
        case measure => simp [intOf]; omega
      · refine (has_any A2 m c2 (firstsL L k) lk false _ HM.out (by omega) HRS.out (by simp [hin])).mono ?_
        rintro e w5 ⟨rfl, hq5⟩
        replace HB := hide (HB.out.trans ((hq5.below _).mono HB.out.size))
        replace HRW := hide (HRW.out.later (hq5.below _))
        clear hq5

        have HFS : Hid (firstsL L (k + 1) = firstsL L k ++ [lk]) := hide (by show (if lb L k ∈ firstsL L k then firstsL L k else firstsL L k ++ [lb L k]) = _; rw [hlk, if_neg hin])
        have HFL : Hid ((firstsL L k ++ [lk]).length = m + 1) := hide (by rw [List.length_append, HM.out]; rfl)
        clear hin hlk hat1 HRS
        have hat3 := HCELL.out _ HB.out
        go_wp2_with (at_builtin; refine wpList_append_own_at _ rfl _ _ 26 rfl w.heap.size 2 i0 (.int .i64 0) 1 8 Try.underlying26 hi hz0 hz1 hz2 rfl (by decide) _ _ _ rfl (HRW.out.o2.alloc _) ⟨w5.heap.size, 0, none⟩ 1 1 [.int .i64 lk] rfl rfl ?b1 ?b2 ?b3 ?b4 ?b5 ?_)
        try (case b1 => exact ne_new)
        try (case b2 => first | rfl | (intro u hu; simp at hu; subst hu; rfl))
        try (case b3 => first | omega | (unfold maxLen; omega))
        try (case b4 => omega)
        try (case b5 => first | omega | (simp; omega) | (have hs := HB.out.size; simp; omega))
        intro v' w9b hown hgrow _ hat
        replace HB := hide (grown_low HRW.out.o2 hgrow HB.out (Nat.le_refl _) HB.out.size)
        replace HRW := hide (HRW.out.add2 (tmp := .cells #[.int .i64 lk] 2) hown hgrow (by simpa using hat))
        clear hown hgrow hat

        clear hat3
        have hat2 := HCELL.out _ HB.out
        obtain ⟨A2, c2, hv2, hres2⟩ := own_shape HRW.out.o2
        subst hv2
        have HRS2 := hide hres2.rd
        clear hres2
        go_wp2_with fail
        refine (index_any A2 _ c2 (firstsL L k ++ [lk]) lk _ HFL.out (by omega) HRS2.out).mono ?_
        rintro e w7 ⟨rfl, hq7⟩
        replace HB := hide (HB.out.trans ((hq7.below _).mono HB.out.size))
        replace HRW := hide (HRW.out.later (hq7.below _))
        clear hq7
        obtain ⟨ix, hix⟩ : ∃ ix, ixOf (firstsL L k ++ [lk]) lk = ix := ⟨_, rfl⟩
        rw [hix]
        have HIX := hide hix
        clear hix hat2
        go_wp2_with (at_builtin; refine wpList_append_own_at _ rfl _ _ 26 rfl w.heap.size 2 i0 (.int .i64 0) 1 8 Try.underlying26 hi hz0 hz1 hz2 rfl (by decide) _ _ _ rfl (HRW.out.o1.alloc _) ⟨w7.heap.size, 0, none⟩ 1 1 [.int .i64 ix] rfl rfl ?a1 ?a2 ?a3 ?a4 ?a5 ?_)
        try (case a1 => exact ne_new)
        try (case a2 => first | rfl | (intro u hu; simp at hu; subst hu; rfl))
        try (case a3 => first | omega | (unfold maxLen; omega))
        try (case a4 => omega)
        try (case a5 => first | omega | (simp; omega) | (have hs := HB.out.size; simp; omega))
        intro v' w9a hown hgrow _ hat
        replace HB := hide (grown_low HRW.out.o1 hgrow HB.out (Nat.le_refl _) HB.out.size)
        replace HRW := hide (HRW.out.add1 (tmp := .cells #[.int .i64 ix] 2) hown hgrow (by simpa using hat))
        clear hown hgrow hat
        go_wp2_with fail
        go_roundw
        case rel =>
          refine ⟨k + 1, m + 1, by omega, by go_num, HB.out, ?_⟩
          have h := HRW.out
          rw [← HIX.out, ← HFS.out, ← HLK.out, ← numTo_succ] at h
          exact h
        case measure => simp [intOf]; omega
    · have hkn : k = n := by omega
      subst hkn
      obtain ⟨A1, c1, hv1, hres1⟩ := own_shape HRW.out.o1
      subst hv1
      have HRS1 := hide hres1
      clear hres1
      go_wp2_with fail
      go_ret
      exact ⟨_, _, rfl, HB.out, by unfold numL; rw [HN.out]; exact HRS1.out⟩
end Go.Proofs.Ytgmloaemnbnbgaa
