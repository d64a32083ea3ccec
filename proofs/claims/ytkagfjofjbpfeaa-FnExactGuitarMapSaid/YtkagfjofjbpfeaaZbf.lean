import Derived.Test.YtkagfjofjbpfeaaZbe
import Derived.Test.YtkagfjofjbpfeaaProg
import Derived.Test.YtkagfjofjbpfeaaZd
import Derived.Test.YtkagfjofjbpfeaaZj
namespace Go.Proofs.Ytkagfjofjbpfeaa
open Go Go.RowKit
set_option maxHeartbeats 1000000

end Go.Proofs.Ytkagfjofjbpfeaa
namespace Go.Proofs.Ytkagfjofjbpfeaa
open Go Go.RowKit
set_option maxHeartbeats 1000000

theorem own_shape_cap {t : TypeId} {w : World} {xs : List Int} {B n : Nat} {v : Value} (h : w.ownsRow B t 1 v n (ints xs)) : ∃ A c, v = .slice A n c ∧ n ≤ c ∧ Res t B w A xs := by
  obtain ⟨A, c, hv, hr⟩ := own_shape h
  refine ⟨A, c, hv, ?_, hr⟩
  rcases h.2 with ⟨h1, h2⟩ | ⟨g, cap, cur, h1, _, _, h2, _⟩
  · omega
  · rw [hv] at h1
    injection h1 with e1 e2 e3
    omega

set_option maxRecDepth 100000 in
theorem cloneN_any (A : Option Addr) (n c : Nat) (xs : List Int) (w : World) (hn : xs.length = n) (hbn : n ≤ 1048576) (hr : Rd w A xs) :
    Calls Try.prog 79 #[.slice A n c] w fun e w' => ∃ A' c', e = .returned (.slice A' n c') ∧ Below w.heap.size w w' ∧ Res 2 w.heap.size w' A' xs ∧ n ≤ c' := by
  have he : ∀ (u : World) (a : Option Addr) (n c : Nat), (binOp .eql 31 (.slice a n c) (.slice none 0 0)).run Try.prog u = .ok (.bool a.isNone) u := fun u a n c => Lib.run_eql_slice_nil u 31 _ a n c 0 0 Try.underlying31
  cases A with
  | none =>
    have h0 : xs = [] := by
      cases xs with
      | nil => rfl
      | cons x xs => obtain ⟨b, o, h, _⟩ := hr (by simp); cases h
    subst h0
    have hn0 : n = 0 := by rw [← hn]; rfl
    subst hn0
    clear hr hn
    go_enter Try.func79, Try.ntmps79
    go_wp2_with fail
    go_ret
    exact ⟨_, _, rfl, Below.refl _ _, .inl ⟨rfl, rfl⟩, Nat.le_refl _⟩
  | some a =>
    have HN := hide hn
    have hcc : ∀ j u, (ints xs)[j]? = some u → (w.alloc (.cells #[] 2)).cell? (a.add j) = some u := by
      intro j u hj
      have hl : j < xs.length := by
        have := (List.getElem?_eq_some_iff.1 hj).1
        rw [ints_length] at this
        exact this
      obtain ⟨b, o, h, hb, hc⟩ := hr (by omega)
      injection h with h
      subst h
      exact cl_cells hc hb j u hj
    have HC := hide hcc
    clear hn hcc hr
    obtain ⟨i0, hi, hz0, hz1, hz2⟩ := info_parts clInfo
    go_enter Try.func79, Try.ntmps79
    go_wp2_with (at_builtin; refine wpList_append_own _ rfl _ _ 31 rfl w.heap.size 2 i0 (.int .i64 0) 1 8 Try.underlying31 hi hz0 hz1 hz2 rfl (by decide) _ _ _ rfl (cl_empty w 2) a n c (ints xs) rfl ?c1 HC.out ?c2 ?c3 ?c4 ?c5 ?_)
    case c1 => rw [ints_length]; have := HN.out; omega
    case c2 => intro u hu; simp [ints] at hu; obtain ⟨_, _, rfl⟩ := hu; rfl
    case c3 => unfold maxLen; omega
    case c4 => omega
    case c5 => simp
    intro v' w1 hown' hgrow _
    have HO' := hide hown'
    have HG := hide hgrow
    clear hown' hgrow
    go_wp2_with fail
    go_ret
    have h := HO'.out
    have hB : Below w.heap.size w w1 := ((Below.refl _ _).alloc (Nat.le_refl _) _).grown HG.out (by simp) (fun g hg => ((cl_empty w 2).lt g hg).1)
    obtain ⟨A', c', hv, hcap, hres⟩ := own_shape_cap h
    exact ⟨A', c', by rw [← hv]; rfl, hB, hres, hcap⟩
end Go.Proofs.Ytkagfjofjbpfeaa
