import Derived.Test.YthknnpkalhachaaZc
import Derived.Test.YthknnpkalhachaaZe
import Derived.Test.YthknnpkalhachaaProg
import Derived.Test.YthknnpkalhachaaZf
import Derived.Test.YthknnpkalhachaaZg
namespace Go.Proofs.Ythknnpkalhachaa
open Go Go.RowKit

theorem copyR (A : Option Addr) (n c : Nat) (xs : List Int) (w : World) (hn : xs.length = n) (hb : n ≤ 1048576) (hr : Rd w A xs) :
    Calls Try.prog 28 #[.slice A n c] w fun e w' => ∃ A', e = .returned (.slice A' n n) ∧ Below w.heap.size w w' ∧ Obj1 2 w.heap.size w'.heap.size w' A' xs :=
  (toInt64S_any A n c xs w hn hb hr).mono fun _ _ ⟨he, hb, hr, hs⟩ => ⟨_, he, hb, .inr ⟨_, rfl, Nat.le_refl _, by omega, hr.own⟩⟩
end Go.Proofs.Ythknnpkalhachaa
namespace Go.Proofs.Ythknnpkalhachaa
open Go Go.RowKit
set_option maxHeartbeats 1000000

theorem own_shape_cap {t : TypeId} {w : World} {xs : List Int} {B n : Nat} {v : Value} (h : w.ownsRow B t 1 v n (ints xs)) : ∃ A c, v = .slice A n c ∧ n ≤ c ∧ Res t B w A xs := by
  obtain ⟨A, c, hv, hr⟩ := own_shape h
  refine ⟨A, c, hv, ?_, hr⟩
  rcases h.2 with ⟨h1, h2⟩ | ⟨g, cap, cur, h1, _, _, h2, _⟩
  · omega
  · rw [hv] at h1
    injection h1 with e1 e2 e3
    omega

set_option maxRecDepth 100000 in
theorem cloneN_any (A : Option Addr) (n c : Nat) (xs : List Int) (w : World) (hn : xs.length = n) (hbn : n ≤ 1048576) (hr : Rd w A xs) :
    Calls Try.prog 88 #[.slice A n c] w fun e w' => ∃ A' c', e = .returned (.slice A' n c') ∧ Below w.heap.size w w' ∧ Res 2 w.heap.size w' A' xs ∧ n ≤ c' := by
  have he : ∀ (u : World) (a : Option Addr) (n c : Nat), (binOp .eql 43 (.slice a n c) (.slice none 0 0)).run Try.prog u = .ok (.bool a.isNone) u := fun u a n c => Lib.run_eql_slice_nil u 43 _ a n c 0 0 Try.underlying43
  cases A with
  | none =>
    have h0 : xs = [] := by
      cases xs with
      | nil => rfl
      | cons x xs => obtain ⟨b, o, h, _⟩ := hr (by simp); cases h
    subst h0
    have hn0 : n = 0 := by rw [← hn]; rfl
    subst hn0
    clear hr hn
    go_enter Try.func88, Try.ntmps88
    go_wp2_with fail
    go_ret
    exact ⟨_, _, rfl, Below.refl _ _, .inl ⟨rfl, rfl⟩, Nat.le_refl _⟩
  | some a =>
    have HN := hide hn
    have hcc : ∀ j u, (ints xs)[j]? = some u → (w.alloc (.cells #[] 2)).cell? (a.add j) = some u := by
      intro j u hj
      have hl : j < xs.length := by
        have := (List.getElem?_eq_some_iff.1 hj).1
        rw [ints_length] at this
        exact this
      obtain ⟨b, o, h, hb, hc⟩ := hr (by omega)
      injection h with h
      subst h
      exact cl_cells hc hb j u hj
    have HC := hide hcc
    clear hn hcc hr
    obtain ⟨i0, hi, hz0, hz1, hz2⟩ := info_parts clInfo
    go_enter Try.func88, Try.ntmps88
    go_wp2_with (at_builtin; refine wpList_append_own _ rfl _ _ 43 rfl w.heap.size 2 i0 (.int .i64 0) 1 8 Try.underlying43 hi hz0 hz1 hz2 rfl (by decide) _ _ _ rfl (cl_empty w 2) a n c (ints xs) rfl ?c1 HC.out ?c2 ?c3 ?c4 ?c5 ?_)
    case c1 => rw [ints_length]; have := HN.out; omega
    case c2 => intro u hu; simp [ints] at hu; obtain ⟨_, _, rfl⟩ := hu; rfl
    case c3 => unfold maxLen; omega
    case c4 => omega
    case c5 => simp
    intro v' w1 hown' hgrow _
    have HO' := hide hown'
    have HG := hide hgrow
    clear hown' hgrow
    go_wp2_with fail
    go_ret
    have h := HO'.out
    have hB : Below w.heap.size w w1 := ((Below.refl _ _).alloc (Nat.le_refl _) _).grown HG.out (by simp) (fun g hg => ((cl_empty w 2).lt g hg).1)
    obtain ⟨A', c', hv, hcap, hres⟩ := own_shape_cap h
    exact ⟨A', c', by rw [← hv]; rfl, hB, hres, hcap⟩
end Go.Proofs.Ythknnpkalhachaa
namespace Go.Proofs.Ythknnpkalhachaa
open Go Go.RowKit
/-! Rows in order, each once: where one stands, and where a new one goes. -/
theorem lessL_irr : ∀ xs : List Int, lessL xs xs = false
  | [] => rfl
  | x :: xs => by simp [lessL, lessL_irr xs]
theorem lessL_trans : ∀ xs ys zs : List Int, lessL xs ys = true → lessL ys zs = true → lessL xs zs = true
  | [], [], _, h, _ => by simp [lessL] at h
  | [], _ :: _, [], _, h => by simp [lessL] at h
  | [], _ :: _, _ :: _, _, _ => by simp [lessL]
  | _ :: _, [], _, h, _ => by simp [lessL] at h
  | _ :: _, _ :: _, [], _, h => by simp [lessL] at h
  | x :: xs, y :: ys, z :: zs, h, k => by
    simp only [lessL] at h k ⊢
    by_cases e : x = y
    · subst e
      rw [if_pos rfl] at h
      by_cases e2 : x = z
      · subst e2
        rw [if_pos rfl] at k ⊢
        exact lessL_trans xs ys zs h k
      · rw [if_neg e2] at k ⊢
        exact k
    · rw [if_neg e] at h
      have h1 : x < y := by simpa using h
      by_cases e2 : y = z
      · subst e2
        rw [if_neg e]
        exact h
      · rw [if_neg e2] at k
        have h2 : y < z := by simpa using k
        rw [if_neg (by omega)]
        simp; omega
theorem lessL_tri : ∀ xs ys : List Int, xs ≠ ys → lessL xs ys = true ∨ lessL ys xs = true
  | [], [], h => absurd rfl h
  | [], _ :: _, _ => .inl rfl
  | _ :: _, [], _ => .inr rfl
  | x :: xs, y :: ys, h => by
    simp only [lessL]
    by_cases e : x = y
    · subst e
      rw [if_pos rfl, if_pos rfl]
      exact lessL_tri xs ys (fun e => h (by rw [e]))
    · rw [if_neg e, if_neg (Ne.symm e)]
      have : x < y ∨ y < x := by omega
      rcases this with h | h
      · exact .inl (by simpa using h)
      · exact .inr (by simpa using h)
/-- In order, each once. -/
def Asc (l : List (List Int)) : Prop := l.Pairwise fun a b => lessL a b = true
theorem Asc.at {l : List (List Int)} (h : Asc l) {i j : Nat} (hij : i < j) (hj : j < l.length) : lessL (l.getD i []) (l.getD j []) = true := by
  have h2 := List.pairwise_iff_getElem.1 h i j (by omega) hj hij
  have e1 : l.getD i [] = l[i] := by have : i < l.length := (by omega); simp [this]
  have e2 : l.getD j [] = l[j] := by simp [hj]
  rw [e1, e2]
  exact h2
theorem Asc.one (p : List Int) : Asc [p] := by simp [Asc]
theorem Asc.nodup {l : List (List Int)} (h : Asc l) : l.Nodup := List.Pairwise.imp (fun {a b} hab e => by subst e; rw [lessL_irr] at hab; cases hab) h
theorem Asc.eq : ∀ {l m : List (List Int)}, Asc l → Asc m → (∀ x, x ∈ l ↔ x ∈ m) → l = m
  | [], [], _, _, _ => rfl
  | [], b :: m, _, _, h => by have := (h b).2 (by simp); cases this
  | a :: l, [], _, _, h => by have := (h a).1 (by simp); cases this
  | a :: l, b :: m, hl, hm, h => by
    have hl2 := List.pairwise_cons.1 hl
    have hm2 := List.pairwise_cons.1 hm
    have hab : a = b := by
      rcases List.mem_cons.1 ((h a).1 (by simp)) with e | e
      · exact e
      · rcases List.mem_cons.1 ((h b).2 (by simp)) with e2 | e2
        · exact e2.symm
        · have h1 := hm2.1 a e
          have h2 := hl2.1 b e2
          have h3 := lessL_trans _ _ _ h1 h2
          rw [lessL_irr] at h3
          cases h3
    subst hab
    have hna : a ∉ l := fun e => by have h3 := hl2.1 a e; rw [lessL_irr] at h3; cases h3
    have hnb : a ∉ m := fun e => by have h3 := hm2.1 a e; rw [lessL_irr] at h3; cases h3
    rw [Asc.eq hl2.2 hm2.2 (fun x => ⟨fun hx => by
      rcases List.mem_cons.1 ((h x).1 (by simp [hx])) with e | e
      · subst e; exact absurd hx hna
      · exact e, fun hx => by
      rcases List.mem_cons.1 ((h x).2 (by simp [hx])) with e | e
      · subst e; exact absurd hx hnb
      · exact e⟩)]
/-- All before lo are less than p, none from hi on. -/
structure Plc (l : List (List Int)) (p : List Int) (lo hi : Nat) : Prop where
  le : lo ≤ hi
  top : hi ≤ l.length
  lt : ∀ i, i < lo → lessL (l.getD i []) p = true
  ge : ∀ i, hi ≤ i → i < l.length → lessL (l.getD i []) p = false
theorem Plc.start (l : List (List Int)) (p : List Int) : Plc l p 0 l.length := ⟨Nat.zero_le _, Nat.le_refl _, fun i hi => by omega, fun i h1 h2 => by omega⟩
theorem Plc.up {l : List (List Int)} {p : List Int} {lo hi m : Nat} (hl : Asc l) (h : Plc l p lo hi) (hm : lo ≤ m ∧ m < hi) (hp : lessL (l.getD m []) p = true) : Plc l p (m + 1) hi :=
  ⟨by omega, h.top, fun i hi2 => by
    by_cases e : i = m
    · rw [e]; exact hp
    · exact lessL_trans _ _ _ (hl.at (i := i) (j := m) (by omega) (by have := h.top; omega)) hp, h.ge⟩
theorem Plc.down {l : List (List Int)} {p : List Int} {lo hi m : Nat} (hl : Asc l) (h : Plc l p lo hi) (hm : lo ≤ m ∧ m < hi) (hp : lessL (l.getD m []) p = false) : Plc l p lo m :=
  ⟨by omega, by have := h.top; omega, h.lt, fun i h1 h2 => by
    by_cases e : i = m
    · rw [e]; exact hp
    · cases hc : lessL (l.getD i []) p with
      | false => rfl
      | true =>
        have := lessL_trans _ _ _ (hl.at (i := m) (j := i) (by omega) h2) hc
        rw [hp] at this
        cases this⟩
theorem Plc.mem {l : List (List Int)} {p : List Int} {k : Nat} (hl : Asc l) (h : Plc l p k k) : p ∈ l ↔ k < l.length ∧ l.getD k [] = p := by
  constructor
  · intro hp
    obtain ⟨i, hi, e⟩ := List.getElem_of_mem hp
    have e1 : l.getD i [] = p := by simp [hi, e]
    by_cases h1 : i < k
    · have := h.lt i h1
      rw [e1, lessL_irr] at this
      cases this
    · by_cases h2 : i = k
      · exact ⟨by omega, by rw [← h2]; exact e1⟩
      · have h3 := hl.at (i := k) (j := i) (by omega) hi
        have h4 := h.ge k (Nat.le_refl _) (by omega)
        rw [e1, h4] at h3
        cases h3
  · rintro ⟨h1, h2⟩
    rw [← h2]
    simp [h1]
/-- p put in at k. -/
def insL (l : List (List Int)) (k : Nat) (p : List Int) : List (List Int) := l.take k ++ p :: l.drop k
theorem insL_length (l : List (List Int)) (k : Nat) (p : List Int) : (insL l k p).length = l.length + 1 := by
  simp [insL]; omega
theorem insL_mem (l : List (List Int)) (k : Nat) (p x : List Int) : x ∈ insL l k p ↔ x = p ∨ x ∈ l := by
  have h : x ∈ l ↔ x ∈ l.take k ∨ x ∈ l.drop k := by
    rw [← List.mem_append, List.take_append_drop]
  rw [h]
  simp only [insL, List.mem_append, List.mem_cons]
  constructor
  · rintro (h | h | h)
    · exact .inr (.inl h)
    · exact .inl h
    · exact .inr (.inr h)
  · rintro (h | h | h)
    · exact .inr (.inl h)
    · exact .inl h
    · exact .inr (.inr h)
theorem Asc.ins {l : List (List Int)} {p : List Int} {k : Nat} (hl : Asc l) (h : Plc l p k k) (hn : p ∉ l) : Asc (insL l k p) := by
  have hs : (l.take k ++ l.drop k).Pairwise fun a b => lessL a b = true := by rw [List.take_append_drop]; exact hl
  obtain ⟨h1, h2, h3⟩ := List.pairwise_append.1 hs
  have hdr : ∀ y, y ∈ l.drop k → lessL p y = true := by
    intro y hy
    obtain ⟨i, hi, e⟩ := List.getElem_of_mem hy
    rw [List.length_drop] at hi
    rw [List.getElem_drop] at e
    have h4 := h.ge (k + i) (by omega) (by omega)
    have e2 : l.getD (k + i) [] = y := by have : k + i < l.length := (by omega); simp [this, e]
    rw [e2] at h4
    rcases lessL_tri p y (fun e3 => by subst e3; exact hn (List.mem_of_mem_drop hy)) with h5 | h5
    · exact h5
    · rw [h4] at h5; cases h5
  have htk : ∀ y, y ∈ l.take k → lessL y p = true := by
    intro y hy
    obtain ⟨i, hi, e⟩ := List.getElem_of_mem hy
    rw [List.length_take] at hi
    rw [List.getElem_take] at e
    have h4 := h.lt i (by omega)
    have e2 : l.getD i [] = y := by have : i < l.length := (by omega); simp [this, e]
    rw [e2] at h4
    exact h4
  refine List.pairwise_append.2 ⟨h1, List.pairwise_cons.2 ⟨hdr, h2⟩, fun a ha b hb => ?_⟩
  rcases List.mem_cons.1 hb with e | e
  · subst e; exact htk a ha
  · exact h3 a ha b e
end Go.Proofs.Ythknnpkalhachaa
namespace Go.Proofs.Ythknnpkalhachaa
open Go Go.RowKit
set_option maxHeartbeats 1000000

def unitN (n : Nat) : List Int := (List.range n).map fun (x : Nat) => (x : Int)
theorem unitN_length (n : Nat) : (unitN n).length = n := by simp [unitN]
theorem unitN_next (n : Nat) : unitN (n + 1) = unitN n ++ [(n : Int)] := by simp [unitN, List.range_succ]
end Go.Proofs.Ythknnpkalhachaa
