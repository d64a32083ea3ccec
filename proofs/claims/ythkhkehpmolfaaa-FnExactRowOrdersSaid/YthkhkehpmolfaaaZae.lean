import Derived.Test.YthkhkehpmolfaaaZb
import Derived.Test.YthkhkehpmolfaaaProg
import Derived.BigRegion
import Derived.IntWalk
namespace Go.Proofs.Ythkhkehpmolfaaa
open Go Go.RowKit

/-- Two neighbours exchanged: those at q and q - 1. -/
def swp (ys : List Int) (q : Nat) : List Int := (ys.set q (ys.getD (q - 1) 0)).set (q - 1) (ys.getD q 0)
theorem swp_length (ys : List Int) (q : Nat) : (swp ys q).length = ys.length := by simp [swp]
theorem swp_at (ys : List Int) (q i : Nat) (hq : q < ys.length) (h0 : 0 < q) (hi : i < ys.length) : (swp ys q).getD i 0 = if i = q - 1 then ys.getD q 0 else if i = q then ys.getD (q - 1) 0 else ys.getD i 0 := by
  obtain ⟨u, hu⟩ : ∃ u, ys.getD (q - 1) 0 = u := ⟨_, rfl⟩
  obtain ⟨v, hv⟩ : ∃ v, ys.getD q 0 = v := ⟨_, rfl⟩
  unfold swp
  rw [hu, hv, List.getD_eq_getElem?_getD, List.getElem?_set, List.getElem?_set]
  by_cases h1 : q - 1 = i
  · have h1' : i = q - 1 := by omega
    rw [if_pos h1, if_pos h1', if_pos (by simp; omega)]
    rfl
  · have h1' : ¬ i = q - 1 := by omega
    rw [if_neg h1, if_neg h1']
    by_cases h2 : q = i
    · have h2' : i = q := by omega
      rw [if_pos h2, if_pos h2', if_pos hq]
      rfl
    · have h2' : ¬ i = q := by omega
      rw [if_neg h2, if_neg h2', List.getD_eq_getElem?_getD]
theorem swp_perm (ys : List Int) (q : Nat) (hq : q < ys.length) (h0 : 0 < q) : (swp ys q).Perm ys := by
  have h := List.set_set_perm (i := q) (j := q - 1) hq (by omega)
  have e1 : ys.getD q 0 = ys[q] := by simp [hq]
  have e2 : ys.getD (q - 1) 0 = ys[q - 1]'(by omega) := by
    have : q - 1 < ys.length := by omega
    simp [this]
  unfold swp
  rw [e1, e2]
  exact h

/-- The first k are in order. -/
def upTo (ys : List Int) (k : Nat) : Prop := ∀ a b, a < b → b < k → ys.getD a 0 ≤ ys.getD b 0
/-- The first k + 1 are in order, but for the one at q, which is less than those behind it. -/
structure midS (ys : List Int) (k q : Nat) : Prop where
  rest : ∀ a b, a < b → b ≤ k → a ≠ q → b ≠ q → ys.getD a 0 ≤ ys.getD b 0
  less : ∀ b, q < b → b ≤ k → ys.getD q 0 ≤ ys.getD b 0
theorem midS.start {ys : List Int} {k : Nat} (h : upTo ys k) : midS ys k k := ⟨fun a b hab hb _ hne => h a b hab (by omega), fun b h1 h2 => by omega⟩
theorem midS.step {ys : List Int} {k q : Nat} (h : midS ys k q) (hq : q ≤ k) (h0 : 0 < q) (hk : k < ys.length) (hl : ys.getD q 0 < ys.getD (q - 1) 0) : midS (swp ys q) k (q - 1) := by
  refine ⟨fun a b hab hb ha hbn => ?_, fun b hqb hb => ?_⟩
  · rw [swp_at ys q a (by omega) h0 (by omega), swp_at ys q b (by omega) h0 (by omega), if_neg ha, if_neg hbn]
    by_cases h1 : a = q
    · rw [if_pos h1, if_neg (by omega)]
      exact h.rest (q - 1) b (by omega) hb (by omega) (by omega)
    · rw [if_neg h1]
      by_cases h2 : b = q
      · rw [if_pos h2]
        exact h.rest a (q - 1) (by omega) (by omega) h1 (by omega)
      · rw [if_neg h2]
        exact h.rest a b hab hb h1 h2
  · rw [swp_at ys q (q - 1) (by omega) h0 (by omega), swp_at ys q b (by omega) h0 (by omega), if_pos rfl, if_neg (by omega)]
    by_cases h2 : b = q
    · rw [if_pos h2]; omega
    · rw [if_neg h2]
      exact h.less b (by omega) hb
theorem midS.done {ys : List Int} {k q : Nat} (h : midS ys k q) (hq : q ≤ k) (hs : q = 0 ∨ ¬ ys.getD q 0 < ys.getD (q - 1) 0) : upTo ys (k + 1) := by
  intro a b hab hb
  by_cases h1 : a = q
  · subst h1; exact h.less b hab (by omega)
  · by_cases h2 : b = q
    · subst h2
      rcases hs with hs | hs
      · omega
      · by_cases h3 : a = b - 1
        · subst h3; omega
        · have := h.rest a (b - 1) (by omega) (by omega) h1 (by omega)
          omega
    · exact h.rest a b hab (by omega) h1 h2
/-- In order, all of them. -/
def Sorted (ys : List Int) : Prop := upTo ys ys.length
theorem Sorted.tail {x : Int} {xs : List Int} (h : Sorted (x :: xs)) : Sorted xs := by
  intro a b hab hb
  have := h (a + 1) (b + 1) (by omega) (by simpa using hb)
  simpa using this
theorem Sorted.head {x : Int} {xs : List Int} (h : Sorted (x :: xs)) : ∀ y ∈ xs, x ≤ y := by
  intro y hy
  obtain ⟨j, hj, e⟩ := List.getElem_of_mem hy
  have := h 0 (j + 1) (by omega) (by simpa using hj)
  simpa [hj, e] using this
theorem sorted_eq : ∀ (xs ys : List Int), xs.Perm ys → Sorted xs → Sorted ys → xs = ys := by
  intro xs
  induction xs with
  | nil => intro ys h _ _; exact (List.nil_perm.1 h).symm
  | cons x xs ih =>
    intro ys h hx hy
    cases ys with
    | nil => exact absurd h.length_eq (by simp)
    | cons y ys =>
      have e : x = y := by
        have h1 : x ∈ y :: ys := h.mem_iff.1 (by simp)
        have h2 : y ∈ x :: xs := h.mem_iff.2 (by simp)
        have l1 : y ≤ x := by
          rcases List.mem_cons.1 h1 with e | e
          · omega
          · exact hy.head x e
        have l2 : x ≤ y := by
          rcases List.mem_cons.1 h2 with e | e
          · omega
          · exact hx.head y e
        omega
      subst e
      rw [ih ys (List.Perm.cons_inv h) hx.tail hy.tail]
end Go.Proofs.Ythkhkehpmolfaaa
namespace Go.Proofs.Ythkhkehpmolfaaa
open Go Go.RowKit
set_option maxHeartbeats 1000000

theorem gcd_any (a b : Nat) (w : World) (ha : a ≤ 1000000000000000000) (hb : b ≤ 1000000000000000000) :
    Calls Try.prog 124 #[.int .i64 a, .int .i64 b] w fun e w' => e = .returned (.int .i64 (Nat.gcd a b)) ∧ Quiet w w' := by
  go_enter Try.func124, Try.ntmps124
  go_wp2_with fail
  go_loopw [0, 1] (fun x y wr => ∃ u v : Nat, x = .int .i64 u ∧ y = .int .i64 v ∧ u ≤ 1000000000000000000 ∧ v ≤ 1000000000000000000 ∧ Nat.gcd u v = Nat.gcd a b ∧ Quiet w wr) (fun _ y _ => (intOf y).toNat)
  case atStart => exact ⟨a, b, rfl, rfl, ha, hb, rfl, Quiet.refl _⟩
  case round =>
    obtain ⟨u, v, rfl, rfl, hu, hv, hg, hq⟩ := hrel
    have HG := hide hg
    have HQ := hide hq
    clear hg hq
    by_cases hv0 : v = 0
    · subst hv0
      have hgu : Nat.gcd a b = u := by rw [← HG.out]; simp
      go_wp2_with fail
      go_ret
      exact ⟨by rw [hgu]; rfl, HQ.out⟩
    · have hv0z : ¬ (v : Int) = 0 := by omega
      have hne : ((v : Int) != 0) = true := by simpa using hv0
      have hmod : ((u : Int)).tmod (v : Int) = ((u % v : Nat) : Int) := by rw [Int.ofNat_tmod]
      have hlt : u % v < v := Nat.mod_lt u (by omega)
      have hgg : Nat.gcd v (u % v) = Nat.gcd a b := by rw [← HG.out, Nat.gcd_comm u v, Nat.gcd_rec v u, Nat.gcd_comm]
      obtain ⟨m, hm⟩ : ∃ m, u % v = m := ⟨_, rfl⟩
      rw [hm] at hmod hlt hgg
      have HGG := hide hgg
      clear hm hgg
      go_wp2_with fail
      go_region
      go_wp2_with fail
      go_roundw
      case rel => exact ⟨v, m, rfl, rfl, hv, by omega, HGG.out, HQ.out.drewN 1⟩
      case measure => simp [intOf]; omega
end Go.Proofs.Ythkhkehpmolfaaa
namespace Go.Proofs.Ythkhkehpmolfaaa
open Go Go.RowKit
set_option maxHeartbeats 1000000

theorem oaInfo : (Try.prog.info? 2).map (fun i => (i.zero, i.size, i.bytes)) = some (some (.int .i64 0), 1, 8) := by kernel_rfl
theorem oa_empty (w : World) (t : TypeId) : (w.alloc (.cells #[] t)).ownsRow w.heap.size t 1 (.slice (some ⟨w.heap.size, 0, none⟩) 0 0) 0 [] :=
  ⟨by simp, .inr ⟨w.heap.size, 0, #[], rfl, Nat.le_refl _, heap_alloc_new _ _, Nat.le_refl _, by unfold maxLen; omega, by simp, by simp⟩⟩

theorem oa_cells {w : World} {b o : Nat} {xs : List Int} {obj : Obj} (hc : ∀ i, i < xs.length → w.cell? ⟨b, o + i, none⟩ = some (.int .i64 (xs.getD i 0))) (hb : b < w.heap.size) : ∀ j u, (ints xs)[j]? = some u → (w.alloc obj).cell? ((⟨b, o, none⟩ : Addr).add j) = some u := by
  intro j u hj
  have hl : j < xs.length := by
    have := (List.getElem?_eq_some_iff.1 hj).1
    rw [ints_length] at this
    exact this
  have e : (⟨b, o, none⟩ : Addr).add j = ⟨b, o + j, none⟩ := by
    unfold Addr.add
    by_cases h : j = 0
    · subst h; simp
    · simp [h]
  rw [e, World.cell?_alloc_lt w _ _ hb, hc j hl, ← hj]
  simp [ints, hl]

theorem ownA_any (b o : Nat) (n c : Nat) (xs : List Int) (w : World) (hn : xs.length = n) (hbn : n ≤ 1048576) (hb : b < w.heap.size) (hc : ∀ i, i < xs.length → w.cell? ⟨b, o + i, none⟩ = some (.int .i64 (xs.getD i 0))) :
    Calls Try.prog 107 #[.slice (some ⟨b, o, none⟩) n c] w fun e w' => ∃ v, e = .returned v ∧ Below w.heap.size w w' ∧ w'.ownsRow w.heap.size 2 1 v n (ints xs) := by
  have HN := hide hn
  have hcc := oa_cells (obj := .cells #[] 2) hc hb
  have HC := hide hcc
  clear hn hc hcc
  obtain ⟨i0, hi, hz0, hz1, hz2⟩ := info_parts oaInfo
  go_enter Try.func107, Try.ntmps107
  go_wp2_with (at_builtin; refine wpList_append_own _ rfl _ _ 31 rfl w.heap.size 2 i0 (.int .i64 0) 1 8 Try.underlying31 hi hz0 hz1 hz2 rfl (by decide) _ _ _ rfl (oa_empty w 2) ⟨b, o, none⟩ n c (ints xs) rfl ?c1 HC.out ?c2 ?c3 ?c4 ?c5 ?_)
  case c1 => rw [ints_length]; have := HN.out; omega
  case c2 => intro u hu; simp [ints] at hu; obtain ⟨_, _, rfl⟩ := hu; rfl
  case c3 => unfold maxLen; omega
  case c4 => omega
  case c5 => simp
  intro v' w1 hown' hgrow _
  have HO' := hide hown'
  have HG := hide hgrow
  clear hown' hgrow
  go_wp2_with fail
  go_ret
  have h := HO'.out
  have hB : Below w.heap.size w w1 := ((Below.refl _ _).alloc (Nat.le_refl _) _).grown HG.out (by simp) (fun g hg => ((oa_empty w 2).lt g hg).1)
  exact ⟨v', rfl, hB, h⟩
end Go.Proofs.Ythkhkehpmolfaaa
