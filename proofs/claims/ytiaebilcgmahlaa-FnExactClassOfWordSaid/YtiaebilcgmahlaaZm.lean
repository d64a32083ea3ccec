import Derived.Test.YtiaebilcgmahlaaZe
import Derived.Test.YtiaebilcgmahlaaProg
import Derived.Test.YtiaebilcgmahlaaZc
import Derived.Test.YtiaebilcgmahlaaZf
namespace Go.Proofs.Ytiaebilcgmahlaa
open Go Go.RowKit
set_option maxHeartbeats 1000000

end Go.Proofs.Ytiaebilcgmahlaa
namespace Go.Proofs.Ytiaebilcgmahlaa
open Go Go.RowKit
set_option maxHeartbeats 1000000

theorem own_shape_cap {t : TypeId} {w : World} {xs : List Int} {B n : Nat} {v : Value} (h : w.ownsRow B t 1 v n (ints xs)) : ∃ A c, v = .slice A n c ∧ n ≤ c ∧ Res t B w A xs := by
  obtain ⟨A, c, hv, hr⟩ := own_shape h
  refine ⟨A, c, hv, ?_, hr⟩
  rcases h.2 with ⟨h1, h2⟩ | ⟨g, cap, cur, h1, _, _, h2, _⟩
  · omega
  · rw [hv] at h1
    injection h1 with e1 e2 e3
    omega

set_option maxRecDepth 100000 in
theorem cloneN_any (A : Option Addr) (n c : Nat) (xs : List Int) (w : World) (hn : xs.length = n) (hbn : n ≤ 1048576) (hr : Rd w A xs) :
    Calls Try.prog 100 #[.slice A n c] w fun e w' => ∃ A' c', e = .returned (.slice A' n c') ∧ Below w.heap.size w w' ∧ Res 2 w.heap.size w' A' xs ∧ n ≤ c' := by
  have he : ∀ (u : World) (a : Option Addr) (n c : Nat), (binOp .eql 25 (.slice a n c) (.slice none 0 0)).run Try.prog u = .ok (.bool a.isNone) u := fun u a n c => Lib.run_eql_slice_nil u 25 _ a n c 0 0 Try.underlying25
  cases A with
  | none =>
    have h0 : xs = [] := by
      cases xs with
      | nil => rfl
      | cons x xs => obtain ⟨b, o, h, _⟩ := hr (by simp); cases h
    subst h0
    have hn0 : n = 0 := by rw [← hn]; rfl
    subst hn0
    clear hr hn
    go_enter Try.func100, Try.ntmps100
    go_wp2_with fail
    go_ret
    exact ⟨_, _, rfl, Below.refl _ _, .inl ⟨rfl, rfl⟩, Nat.le_refl _⟩
  | some a =>
    have HN := hide hn
    have hcc : ∀ j u, (ints xs)[j]? = some u → (w.alloc (.cells #[] 2)).cell? (a.add j) = some u := by
      intro j u hj
      have hl : j < xs.length := by
        have := (List.getElem?_eq_some_iff.1 hj).1
        rw [ints_length] at this
        exact this
      obtain ⟨b, o, h, hb, hc⟩ := hr (by omega)
      injection h with h
      subst h
      exact cl_cells hc hb j u hj
    have HC := hide hcc
    clear hn hcc hr
    obtain ⟨i0, hi, hz0, hz1, hz2⟩ := info_parts clInfo
    go_enter Try.func100, Try.ntmps100
    go_wp2_with (at_builtin; refine wpList_append_own _ rfl _ _ 25 rfl w.heap.size 2 i0 (.int .i64 0) 1 8 Try.underlying25 hi hz0 hz1 hz2 rfl (by decide) _ _ _ rfl (cl_empty w 2) a n c (ints xs) rfl ?c1 HC.out ?c2 ?c3 ?c4 ?c5 ?_)
    case c1 => rw [ints_length]; have := HN.out; omega
    case c2 => intro u hu; simp [ints] at hu; obtain ⟨_, _, rfl⟩ := hu; rfl
    case c3 => unfold maxLen; omega
    case c4 => omega
    case c5 => simp
    intro v' w1 hown' hgrow _
    have HO' := hide hown'
    have HG := hide hgrow
    clear hown' hgrow
    go_wp2_with fail
    go_ret
    have h := HO'.out
    have hB : Below w.heap.size w w1 := ((Below.refl _ _).alloc (Nat.le_refl _) _).grown HG.out (by simp) (fun g hg => ((cl_empty w 2).lt g hg).1)
    obtain ⟨A', c', hv, hcap, hres⟩ := own_shape_cap h
    exact ⟨A', c', by rw [← hv]; rfl, hB, hres, hcap⟩
end Go.Proofs.Ytiaebilcgmahlaa
namespace Go.Proofs.Ytiaebilcgmahlaa
open Go Go.RowKit
set_option maxHeartbeats 1000000

theorem rowsI_any (A : Option Addr) (n c : Nat) (rows : List (List Int)) (r : Bool) (w : World) (hn : rows.length = n) (hb : n ≤ 1048576) (hbs : ∀ i, i < rows.length → (rows.getD i []).length ≤ 1048576) (hr : Rd2 w A rows) (hrr : r = true ↔ ∀ i, i < rows.length → Prm (rows.getD i [])) :
    Calls Try.prog 114 #[.slice A n c] w fun e w' => e = .returned (.bool r) ∧ Below w.heap.size w w' := by
  have HN := hide hn
  have HR := hide hrr
  clear hn hrr
  go_enter Try.func114, Try.ntmps114
  go_wp2_with fail
  skip
  go_loopw [7] (fun i wr => ∃ k : Nat, k ≤ n ∧ i = .int .i64 k ∧ Below w.heap.size w wr ∧ ∀ i, i < k → Prm (rows.getD i [])) (fun i _ => n - (intOf i).toNat)
  case atStart => exact ⟨0, Nat.zero_le _, rfl, Below.refl _ _, fun i hi => absurd hi (Nat.not_lt_zero _)⟩
  case round =>
    obtain ⟨k, hk, rfl, hbe, hall⟩ := hrel
    have HB := hide hbe
    have HALL := hide hall
    clear hbe hall
    by_cases hlt : k < n
    · obtain ⟨b, o, rfl, _, hc⟩ := (hr.later HB.out) (by have := HN.out; omega)
      obtain ⟨Ak, ck, hcell, hrd⟩ := hc k (by have := HN.out; omega)
      have hbk := hbs k (by have := HN.out; omega)
      obtain ⟨x, hx⟩ : ∃ x, x = rows.getD k [] := ⟨_, rfl⟩
      obtain ⟨m, hm⟩ : ∃ m, x.length = m := ⟨_, rfl⟩
      rw [← hx] at hcell hrd hbk
      rw [hm] at hcell hbk
      have HX := hide hx
      have HM := hide hm
      clear hx hm hc hbs
      have hltz : (k : Int) < n := by omega
      by_cases hp : Prm x
      · have HP := hide hp
        clear hp
        go_wp2_with fail
        refine (isPerm_any _ _ _ x true _ HM.out (by omega) hrd (by simp [HP.out])).mono ?_
        rintro e w1 ⟨rfl, hq1⟩
        have HQ1 := hide hq1
        clear hq1
        go_wp2_with fail
        go_roundw
        case rel =>
          refine ⟨k + 1, by omega, by go_num, HB.out.trans (HQ1.out.mono HB.out.size), fun i hi => ?_⟩
          by_cases e : i = k
          · subst e; rw [← HX.out]; exact HP.out
          · exact HALL.out i (by omega)
        case measure => simp [intOf]; omega
      · have HP := hide hp
        clear hp
        go_wp2_with fail
        refine (isPerm_any _ _ _ x false _ HM.out (by omega) hrd (by simp [HP.out])).mono ?_
        rintro e w1 ⟨rfl, hq1⟩
        have HQ1 := hide hq1
        clear hq1
        go_wp2_with fail
        go_ret
        have : r = false := by
          cases r
          · rfl
          · have h := HR.out.1 rfl k (by have := HN.out; omega)
            rw [← HX.out] at h
            exact absurd h HP.out
        exact ⟨by subst this; rfl, HB.out.trans (HQ1.out.mono HB.out.size)⟩
    · have hkn : k = n := by omega
      subst hkn
      go_wp2_with fail
      go_ret
      have : r = true := HR.out.2 fun i hi => HALL.out i (by have := HN.out; omega)
      exact ⟨by subst this; rfl, HB.out⟩
end Go.Proofs.Ytiaebilcgmahlaa
