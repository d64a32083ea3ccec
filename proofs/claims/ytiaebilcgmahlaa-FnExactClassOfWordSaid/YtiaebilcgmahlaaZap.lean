import Derived.Test.YtiaebilcgmahlaaZac
import Derived.Test.YtiaebilcgmahlaaZam
import Derived.Test.YtiaebilcgmahlaaZx
import Derived.Test.YtiaebilcgmahlaaZj
import Derived.Test.YtiaebilcgmahlaaZe
import Derived.Maps.AppendAt
import Derived.Deep.Cut
import Derived.Deep.RegionHeld3
import Derived.Deep.DeepCutAuto
namespace Go.Proofs.Ytiaebilcgmahlaa
open Go Go.RowKit
open Classical
set_option maxHeartbeats 4000000
theorem Qs.start {ts t : TypeId} {B : Nat} {w : World} {A : Option Addr} {c : Nat} {r : List Int} (hA : Obj1 t B w.heap.size w A r) (hB : B ≤ w.heap.size) :
    Qs ts t B ((w.alloc (.cells #[.slice A r.length c] ts)).alloc (.cells #[.slice A r.length c] ts)) (.slice (some ⟨w.heap.size, 0, none⟩) 1 1) (.slice (some ⟨w.heap.size + 1, 0, none⟩) 1 1) [r] [r] [.slice A r.length c] [.slice A r.length c] := by
  have h1 : Below w.heap.size w (w.alloc (.cells #[.slice A r.length c] ts)) := (Below.refl _ _).alloc (Nat.le_refl _) _
  have h2 : Below (w.alloc (.cells #[.slice A r.length c] ts)).heap.size (w.alloc (.cells #[.slice A r.length c] ts)) ((w.alloc (.cells #[.slice A r.length c] ts)).alloc (.cells #[.slice A r.length c] ts)) := (Below.refl _ _).alloc (Nat.le_refl _) _
  refine ⟨(LstV.single hA hB).later h2, ⟨rfl, .inr ⟨w.heap.size + 1, 1, #[.slice A r.length c], rfl, by omega, ?_, Nat.le_refl _, by unfold maxLen; omega, by simp, by simp⟩⟩, ⟨rfl, fun i hi => ?_⟩, fun g hg e => ?_⟩
  · have h := heap_alloc_new (w.alloc (.cells #[.slice A r.length c] ts)) (.cells #[.slice A r.length c] ts)
    simpa using h
  · simp at hi
    subst hi
    exact ⟨A, c, rfl, ((hA.later h1).later h2).mono (Nat.le_refl _) (by simp; omega)⟩
  · simp [Value.ownBlock] at hg e
    omega
theorem addr_add (g o j : Nat) : (⟨g, o, none⟩ : Addr).add j = ⟨g, o + j, none⟩ := by simp [Addr.add]
theorem own_low {ts : TypeId} {B B' n : Nat} {w : World} {v : Value} {xs : List Value} (h : w.ownsRow B ts 1 v n xs) (hB : B' ≤ B) : w.ownsRow B' ts 1 v n xs := by
  refine ⟨h.1, ?_⟩
  rcases h.2 with h3 | ⟨g, cap, cur, hv, hg, rest⟩
  · exact .inl h3
  · exact .inr ⟨g, cap, cur, hv, Nat.le_trans hB hg, rest⟩
theorem own_look {ts : TypeId} {B n : Nat} {w : World} {v : Value} {xs : List Value} (h : w.ownsRow B ts 1 v n xs) (h0 : 0 < n) : ∃ g c, v = .slice (some ⟨g, 0, none⟩) n c ∧ g < w.heap.size ∧ ∀ i u, xs[i]? = some u → w.cell? ⟨g, i, none⟩ = some u := by
  rcases h.2 with ⟨_, h2⟩ | ⟨g, cap, cur, hv, hg, hh, h1, h2, h3, h4⟩
  · omega
  · refine ⟨g, cap, hv, (Array.getElem?_eq_some_iff.1 hh).1, fun i u hu => ?_⟩
    rw [cell_of_row w g i cur ts (0, 0) hh]
    rw [← h4, List.getElem?_take] at hu
    by_cases e : i < n * 1
    · rw [if_pos e] at hu; simpa using hu
    · rw [if_neg e] at hu; cases hu
theorem own_self {ts : TypeId} {B n : Nat} {w : World} {v : Value} {xs : List Value} (h : w.ownsRow B ts 1 v n xs) : w.ownsRow B ts 1 v xs.length xs := by
  have e : xs.length = n := by have := h.1; omega
  rw [e]; exact h
theorem RowsV.one {t : TypeId} {B : Nat} {w : World} {rows : List (List Int)} {vals : List Value} (h : RowsV t B w rows vals) : ∀ u ∈ vals, u.oneCell' = true := by
  intro u hu
  obtain ⟨i, hi, e⟩ := List.getElem_of_mem hu
  obtain ⟨A, c, h1, _⟩ := h.2 i (by rw [← h.1]; exact hi)
  rw [List.getElem?_eq_getElem hi, e] at h1
  injection h1 with h1
  rw [h1]; rfl
/-- How the search stands, or that it has found too many. -/
def Wlk (n : Nat) (gs : List (List Int)) (M : Nat) (q : List (List Int)) (j k : Nat) : Prop := Srch n gs q j k ∨ (M < q.length ∧ q.Nodup ∧ ∀ y, y ∈ q → Gen n gs y)
theorem Wlk.nd {n M j k : Nat} {gs q : List (List Int)} (h : Wlk n gs M q j k) : q.Nodup := by
  rcases h with h | h
  · exact h.nd
  · exact h.2.1
theorem Wlk.gen {n M j k : Nat} {gs q : List (List Int)} (h : Wlk n gs M q j k) : ∀ y, y ∈ q → Gen n gs y := by
  rcases h with h | h
  · exact h.gen
  · exact h.2.2
theorem Wlk.srch {n M j k : Nat} {gs q : List (List Int)} (h : Wlk n gs M q j k) (hM : q.length ≤ M) : Srch n gs q j k := by
  rcases h with h | h
  · exact h
  · have := h.1; omega
theorem Wlk.over {n M j k : Nat} {gs q : List (List Int)} (h : Wlk n gs M q j k) (hM : M < q.length) (j' k' : Nat) : Wlk n gs M q j' k' := .inr ⟨hM, h.nd, h.gen⟩
theorem Wlk.many {n M j k : Nat} {gs q : List (List Int)} (h : Wlk n gs M q j k) (hM : M < q.length) : ¬ AtMost n gs M := by
  rintro ⟨L, hL, hl⟩
  have := nodup_sub h.nd (fun a ha => (hL.2 a).2 (h.gen a ha))
  omega
end Go.Proofs.Ytiaebilcgmahlaa
