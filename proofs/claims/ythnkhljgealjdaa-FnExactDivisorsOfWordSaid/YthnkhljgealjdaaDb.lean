import Derived.Test.YthnkhljgealjdaaDa
import Derived.Test.YthnkhljgealjdaaProg
import Derived.Laws.BytesArg
namespace Go.Proofs.Ythnkhljgealjdaa
open Go Go.RowKit
set_option maxHeartbeats 400000
/-- What the size check says. -/
def Szd (L : Int) (rows : List (List Int)) (r : Int) : Prop := r = -1 ∨ (0 ≤ r ∧ r ≤ L ∧ rows.length ≤ L ∧ ∀ i, i < rows.length → (rows.getD i []).length ≤ L)
def SzPost (L : Int) (rows : List (List Int)) (w : World) (e : Ending) (w' : World) : Prop := ∃ r, Szd L rows r ∧ e = .returned (.int .i64 r) ∧ w = w'

theorem szz_any (A : Option Addr) (n c : Nat) (rows : List (List Int)) (L : Int) (w : World) (hn : rows.length = n) (hb : n ≤ 9223372036854775807) (hbs : ∀ i, i < rows.length → (rows.getD i []).length ≤ 9223372036854775807) (h0 : 0 ≤ L) (h1 : L ≤ 1048576) (hr : Rd2 w A rows) :
    Calls Try.prog 16 #[.slice A n c, .int .i64 L] w (SzPost L rows w) := by
  have HN := hide hn
  clear hn
  by_cases hL : L < n
  · go_enter Try.func16, Try.ntmps16
    go_wp2
    go_ret
    exact ⟨-1, .inl rfl, rfl, rfl⟩
  · go_enter Try.func16, Try.ntmps16
    go_wp2_with fail
    go_loop [1, 5] (fun s i => ∃ (k : Nat) (l : Int), k ≤ n ∧ i = .int .i64 k ∧ s = .int .i64 l ∧ 0 ≤ l ∧ l ≤ L ∧ ∀ i, i < k → (rows.getD i []).length ≤ L) (fun _ i => n - (intOf i).toNat)
    case atStart => exact ⟨0, L - n, Nat.zero_le _, rfl, rfl, by omega, by omega, fun i hi => absurd hi (Nat.not_lt_zero _)⟩
    case round =>
      obtain ⟨k, l, hk, rfl, rfl, hl0, hlL, hall⟩ := hrel
      have HALL := hide hall
      clear hall
      by_cases hlt : k < n
      · obtain ⟨b, o, rfl, hbw, hc⟩ := hr (by have := HN.out; omega)
        obtain ⟨Ak, ck, hcell, _⟩ := hc k (by have := HN.out; omega)
        have hbk := hbs k (by have := HN.out; omega)
        obtain ⟨m, hm⟩ : ∃ m, m = (rows.getD k []).length := ⟨_, rfl⟩
        rw [← hm] at hcell hbk
        have HM := hide hm
        clear hm hc hbs
        by_cases hlm : l < m
        · go_wp2_with (go_at_call 25; refine (sz_no _ _ _ _ _ (by omega) (by omega) (by omega) (by omega)).mono ?_; rintro e w' ⟨rfl, rfl⟩)
          go_ret
          exact ⟨-1, .inl rfl, rfl, rfl⟩
        · go_wp2_with (go_at_call 25; refine (sz_yes _ _ _ _ _ (by omega) (by omega) (by omega) (by omega)).mono ?_; rintro e w' ⟨rfl, rfl⟩)
          go_round
          case rel =>
            refine ⟨k + 1, l - m, by omega, by go_num, rfl, by omega, by omega, fun i hi => ?_⟩
            by_cases e : i = k
            · subst e; rw [← HM.out]; omega
            · exact HALL.out i (by omega)
          case measure => simp [intOf]; omega
      · have hkn : k = n := by omega
        subst hkn
        go_wp2
        go_ret
        exact ⟨l, .inr ⟨hl0, hlL, by have := HN.out; omega, fun i hi => HALL.out i (by have := HN.out; omega)⟩, rfl, rfl⟩
end Go.Proofs.Ythnkhljgealjdaa
namespace Go.Proofs.Ythnkhljgealjdaa
open Go Go.RowKit
set_option maxHeartbeats 400000
theorem eqq_any (A B : Option Addr) (n c m d : Nat) (xs ys : List (List Int)) (r : Bool) (w : World) (hn : xs.length = n) (hm : ys.length = m) (hb : n ≤ 9223372036854775807) (hb2 : m ≤ 9223372036854775807) 
    (hbs : ∀ i, i < xs.length → (xs.getD i []).length ≤ 9223372036854775807) (hbt : ∀ i, i < ys.length → (ys.getD i []).length ≤ 9223372036854775807) (hx : Rd2 w A xs) (hy : Rd2 w B ys) (hr : r = true ↔ xs = ys) :
    Calls Try.prog 9 #[.slice A n c, .slice B m d] w fun e w' => e = .returned (.bool r) ∧ Quiet w w' := by
  have HN := hide hn
  have HM := hide hm
  have HR := hide hr
  clear hr
  by_cases hnm : n = m
  · subst hnm
    clear hn hm
    go_enter Try.func9, Try.ntmps9
    go_wp2_with fail
    go_loopw [5] (fun i wr => ∃ k : Nat, k ≤ n ∧ i = .int .i64 k ∧ Quiet w wr ∧ ∀ i, i < k → xs.getD i [] = ys.getD i []) (fun i _ => n - (intOf i).toNat)
    case atStart => exact ⟨0, Nat.zero_le _, rfl, Quiet.refl w, fun i hi => absurd hi (Nat.not_lt_zero _)⟩
    case round =>
      obtain ⟨k, hk, rfl, hq, hall⟩ := hrel
      have HQ := hide hq
      clear hq
      have HALL := hide hall
      clear hall
      by_cases hlt : k < n
      · obtain ⟨b, o, rfl, _, hc⟩ := HQ.out.rd2 hx (by have := HN.out; omega)
        obtain ⟨b2, o2, rfl, _, hc2⟩ := HQ.out.rd2 hy (by have := HM.out; omega)
        obtain ⟨A1, c1, h1, hr1⟩ := hc k (by have := HN.out; omega)
        obtain ⟨A2, c2, h2, hr2⟩ := hc2 k (by have := HM.out; omega)
        have hb1 := hbs k (by have := HN.out; omega)
        have hb2 := hbt k (by have := HM.out; omega)
        obtain ⟨x, hx⟩ : ∃ x, x = xs.getD k [] := ⟨_, rfl⟩
        obtain ⟨y, hy⟩ : ∃ y, y = ys.getD k [] := ⟨_, rfl⟩
        rw [← hx] at h1 hr1 hb1
        rw [← hy] at h2 hr2 hb2
        have HX := hide hx
        have HY := hide hy
        clear hx hy hc hc2 hbs hbt
        have hltz : (k : Int) < n := by omega
        by_cases hxy : x = y
        · have HXY := hide hxy
          clear hxy
          go_wp2_with fail
          go_quiet ((go_at_call 11; exact quiet_call (eq_any _ _ _ _ _ _ x y true _ rfl rfl hb1 hb2 hr1 hr2 (by simp [HXY.out]))))
          go_wp2_with fail
          go_roundw
          case rel =>
            refine ⟨k + 1, by omega, by go_num, HQ.out.drewN _, fun i hi => ?_⟩
            by_cases e : i = k
            · subst e; rw [← HX.out, ← HY.out]; exact HXY.out
            · exact HALL.out i (by omega)
          case measure => simp [intOf]; omega
        · have HNE := hide hxy
          clear hxy
          go_wp2_with fail
          go_quiet ((go_at_call 11; exact quiet_call (eq_any _ _ _ _ _ _ x y false _ rfl rfl hb1 hb2 hr1 hr2 (by simp [HNE.out]))))
          go_wp2_with fail
          go_ret
          have : r = false := by
            cases r
            · rfl
            · have e := HR.out.1 rfl
              subst e
              exact absurd (HX.out.trans HY.out.symm) HNE.out
          exact ⟨by subst this; rfl, by first | exact HQ.out | exact HQ.out.drewN _ | exact Quiet.refl _⟩
      · have hkn : k = n := by omega
        subst hkn
        go_wp2_with fail
        go_ret
        have this := HR.out.2 (eqRows xs ys (HN.out.trans HM.out.symm) (fun i hi => HALL.out i (by have := HN.out; omega)))
        exact ⟨by subst this; rfl, by first | exact HQ.out | exact HQ.out.drewN _ | exact Quiet.refl _⟩
  · have hne : ((n : Int) != (m : Int)) = true := by simp; omega
    have HNM := hide hnm
    clear hn hm hnm
    go_enter Try.func9, Try.ntmps9
    go_wp2_with fail
    go_ret
    have : r = false := by
      cases r
      · rfl
      · have e := HR.out.1 rfl
        subst e
        exact absurd (HN.out.symm.trans HM.out) HNM.out
    exact ⟨by subst this; rfl, by first | exact HQ.out | exact HQ.out.drewN _ | exact Quiet.refl _⟩
end Go.Proofs.Ythnkhljgealjdaa
namespace Go.Proofs.Ythnkhljgealjdaa
open Go Go.RowKit
set_option maxHeartbeats 400000

theorem mark_any (t : TypeId) (B : Nat) (A : Option Addr) (n c : Nat) (k : Int) (xs : List Int) (w : World) (hn : xs.length = n) (hb : n ≤ 4194304) (hk : 0 ≤ k) (hk2 : k ≤ 4611686018427387904) (hr : Res t B w A xs) :
    Calls Try.prog 13 #[.slice A n c, .int .i64 k] w fun e w' => e = .returned (.int .i64 (k + n)) ∧ Only A w w' ∧ Res t B w' A (marks k n) := by
  have HN := hide hn
  clear hn
  rcases hr with ⟨rfl, rfl⟩ | ⟨g, rfl, hB, hown⟩
  · have h0 : n = 0 := by have := HN.out; simpa using this.symm
    subst h0
    go_enter Try.func13, Try.ntmps13
    go_wp2_with fail
    refine wp_loop_rounds 1 ?_
    rw [rounds_succ]
    go_wp2_with fail
    go_ret
    exact ⟨by simp, Only.quiet (Quiet.refl _), .inl ⟨rfl, rfl⟩⟩
  · have HO := hide hown
    clear hown
    go_enter Try.func13, Try.ntmps13
    go_wp2_with fail
    go_loopw [1, 5] (fun q i wr => ∃ j : Nat, j ≤ n ∧ i = .int .i64 j ∧ q = .int .i64 (k + (j : Int)) ∧ Only (some ⟨g, 0, none⟩) w wr ∧ OwnB t wr g (marks k j ++ xs.drop j)) (fun _ i _ => n - (intOf i).toNat)
    case atStart => exact ⟨0, Nat.zero_le _, rfl, by simp, Only.quiet (Quiet.refl _), by simpa [marks] using HO.out⟩
    case round =>
      obtain ⟨j, hj, rfl, rfl, ho, hown⟩ := hrel
      have HOO := hide ho
      have HOW := hide hown
      clear ho hown
      by_cases hlt : j < n
      · have hl : j < (marks k j ++ xs.drop j).length := by have := HN.out; simp [marks]; omega
        have h1 := HOW.out.cell hl
        have h2 := HOW.out.frozen j
        obtain ⟨x, hx⟩ : ∃ x, (marks k j ++ xs.drop j).getD j 0 = x := ⟨_, rfl⟩
        rw [hx] at h1
        have HL := hide hl
        clear hx hl
        have hltz : (j : Int) < n := by omega
        go_wp2_with fail
        go_roundw
        case rel =>
          refine ⟨j + 1, by omega, by go_num, by go_num, ?_, ?_⟩
          · exact ⟨HOO.out.os, HOO.out.tape, HOO.out.output, by simpa [World.setCell] using HOO.out.size, fun i hi hne => (Below.heap_setCell _ _ _ _ (fun e => hne (by rw [e]; rfl))).trans (HOO.out.block i hi hne)⟩
          · have := HOW.out.set j (k + (j : Int)) HL.out
            rw [mark_step k n j xs HN.out hlt] at this
            exact this
        case measure => simp [intOf]; omega
      · have hjn : j = n := by omega
        subst hjn
        go_wp2_with fail
        go_ret
        have h := HOW.out
        rw [List.drop_of_length_le (by have := HN.out; omega), List.append_nil] at h
        exact ⟨rfl, HOO.out, .inr ⟨g, rfl, hB, h⟩⟩

theorem held_any (A : Option Addr) (n c : Nat) (k : Int) (w : World) (hb : n ≤ 4194304) (hk : 0 ≤ k) (hk2 : k ≤ 4611686018427387904) (hr : Rd w A (marks k n)) :
    Calls Try.prog 24 #[.slice A n c, .int .i64 k] w fun e w' => e = .returned (.int .i64 (k + n)) ∧ Quiet w w' := by
  go_enter Try.func24, Try.ntmps24
  go_wp2_with fail
  go_loopw [1, 5] (fun q i wr => ∃ j : Nat, j ≤ n ∧ i = .int .i64 j ∧ q = .int .i64 (k + (j : Int)) ∧ Quiet w wr) (fun _ i _ => n - (intOf i).toNat)
  case atStart => exact ⟨0, Nat.zero_le _, rfl, by simp, Quiet.refl _⟩
  case round =>
    obtain ⟨j, hj, rfl, rfl, hq⟩ := hrel
    have HQ := hide hq
    clear hq
    by_cases hlt : j < n
    · obtain ⟨b, o, rfl, hbw, hc⟩ := HQ.out.rd hr (by rw [marks_length]; omega)
      have hc1 := hc j (by rw [marks_length]; omega)
      rw [marks_getD k n j hlt] at hc1
      have hltz : (j : Int) < n := by omega
      clear hc hr
      have he : ((k + (j : Int)) != (k + (j : Int))) = false := by simp
      go_wp2_with fail
      go_roundw
      case rel => exact ⟨j + 1, by omega, by go_num, by go_num, HQ.out⟩
      case measure => simp [intOf]; omega
    · have hjn : j = n := by omega
      subst hjn
      go_wp2_with fail
      go_ret
      exact ⟨rfl, HQ.out⟩
end Go.Proofs.Ythnkhljgealjdaa
namespace Go.Proofs.Ythnkhljgealjdaa
open Go Go.RowKit
set_option maxHeartbeats 1000000

/-- The inverse after k rounds. -/
def backTo (p : List Int) : Nat → List Int
  | 0 => List.replicate p.length 0
  | k + 1 => (backTo p k).set (p.getD k 0).toNat (k : Int)
theorem backTo_length (p : List Int) (k : Nat) : (backTo p k).length = p.length := by
  induction k with
  | zero => simp [backTo]
  | succ k ih => simp [backTo, ih]

def InvRes (p zs : List Int) (code : Int) : Prop := (Prm p ∧ zs = backTo p p.length ∧ code = 0) ∨ (¬ Prm p ∧ zs = [] ∧ code = 1)
theorem InvRes.ex (p : List Int) : ∃ zs code, InvRes p zs code ∧ zs.length ≤ 12 := by
  by_cases h : Prm p
  · exact ⟨_, _, .inl ⟨h, rfl, rfl⟩, by rw [backTo_length]; exact h.2.1⟩
  · exact ⟨_, _, .inr ⟨h, rfl, rfl⟩, by simp⟩

theorem backInfo : (Try.prog.info? 2).map (fun i => (i.zero, i.size, i.bytes)) = some (some (.int .i64 0), 1, 8) := by kernel_rfl

end Go.Proofs.Ythnkhljgealjdaa
namespace Go.Proofs.Ythnkhljgealjdaa
open Go Go.RowKit

def cmpL : List Int → List Int → Int
  | [], [] => 0
  | [], _ :: _ => -1
  | _ :: _, [] => 1
  | x :: xs, y :: ys => if x < y then -1 else if y < x then 1 else cmpL xs ys
def lessL : List Int → List Int → Bool
  | [], [] => false
  | [], _ :: _ => true
  | _ :: _, [] => false
  | x :: xs, y :: ys => if x = y then lessL xs ys else decide (x < y)
def cmpT : List (List Int) → List (List Int) → Int
  | [], [] => 0
  | [], _ :: _ => -1
  | _ :: _, [] => 1
  | x :: xs, y :: ys => if cmpL x y = 0 then cmpT xs ys else cmpL x y
def lessT : List (List Int) → List (List Int) → Bool
  | [], [] => false
  | [], _ :: _ => true
  | _ :: _, [] => false
  | x :: xs, y :: ys => if x = y then lessT xs ys else lessL x y

theorem cmpL_zero (xs ys : List Int) : cmpL xs ys = 0 ↔ xs = ys := by
  induction xs generalizing ys with
  | nil => cases ys <;> simp [cmpL]
  | cons x xs ih =>
    cases ys with
    | nil => simp [cmpL]
    | cons y ys =>
      unfold cmpL
      by_cases h1 : x < y
      · rw [if_pos h1]; simp; omega
      · by_cases h2 : y < x
        · rw [if_neg h1, if_pos h2]; simp; omega
        · rw [if_neg h1, if_neg h2, ih]
          have : x = y := by omega
          simp [this]
theorem cmpL_neg (xs ys : List Int) : cmpL xs ys < 0 ↔ lessL xs ys = true := by
  induction xs generalizing ys with
  | nil => cases ys <;> simp [cmpL, lessL]
  | cons x xs ih =>
    cases ys with
    | nil => simp [cmpL, lessL]
    | cons y ys =>
      unfold cmpL lessL
      by_cases h1 : x < y
      · rw [if_pos h1, if_neg (by omega)]; simp [h1]
      · by_cases h2 : y < x
        · rw [if_neg h1, if_pos h2, if_neg (by omega)]; simp [h1]
        · rw [if_neg h1, if_neg h2, if_pos (by omega), ih]
theorem cmpL_range (xs ys : List Int) : -1 ≤ cmpL xs ys ∧ cmpL xs ys ≤ 1 := by
  induction xs generalizing ys with
  | nil => cases ys <;> simp [cmpL]
  | cons x xs ih =>
    cases ys with
    | nil => simp [cmpL]
    | cons y ys =>
      unfold cmpL
      split
      · omega
      · split
        · omega
        · exact ih ys
theorem cmpT_neg (xs ys : List (List Int)) : cmpT xs ys < 0 ↔ lessT xs ys = true := by
  induction xs generalizing ys with
  | nil => cases ys <;> simp [cmpT, lessT]
  | cons x xs ih =>
    cases ys with
    | nil => simp [cmpT, lessT]
    | cons y ys =>
      unfold cmpT lessT
      by_cases h : x = y
      · rw [if_pos ((cmpL_zero x y).2 h), if_pos h, ih]
      · rw [if_neg (fun e => h ((cmpL_zero x y).1 e)), if_neg h, cmpL_neg]
theorem lessT_irrefl (xs : List (List Int)) : lessT xs xs = false := by
  induction xs with
  | nil => rfl
  | cons x xs ih => simp [lessT, ih]

theorem drop_cons (xs : List Int) (k : Nat) (h : k < xs.length) : xs.drop k = xs.getD k 0 :: xs.drop (k + 1) := by
  rw [List.drop_eq_getElem_cons h]
  simp [h]
theorem drop_cons2 (xs : List (List Int)) (k : Nat) (h : k < xs.length) : xs.drop k = xs.getD k [] :: xs.drop (k + 1) := by
  rw [List.drop_eq_getElem_cons h]
  simp [h]
end Go.Proofs.Ythnkhljgealjdaa
namespace Go.Proofs.Ythnkhljgealjdaa
open Go Go.RowKit
set_option maxHeartbeats 1000000

/-- Doing p, then q. -/
def thenL (p q : List Int) : List Int := p.map fun y => q.getD y.toNat 0
theorem thenL_length (p q : List Int) : (thenL p q).length = p.length := by simp [thenL]

theorem thenL_getD (p q : List Int) (k j : Nat) (h : k < p.length) (hj : p.getD k 0 = (j : Int)) : (thenL p q).getD k 0 = q.getD j 0 := by
  have h1 : p[k]'h = (j : Int) := by simpa [h] using hj
  simp [thenL, h, h1]

theorem rowInfo : (Try.prog.info? 2).map (fun i => (i.zero, i.size, i.bytes)) = some (some (.int .i64 0), 1, 8) := by kernel_rfl

theorem ownsRow_empty (w : World) (t : TypeId) : (w.alloc (.cells #[] t)).ownsRow w.heap.size t 1 (.slice (some ⟨w.heap.size, 0, none⟩) 0 0) 0 [] :=
  ⟨by simp, .inr ⟨w.heap.size, 0, #[], rfl, Nat.le_refl _, heap_alloc_new _ _, Nat.le_refl _, by unfold maxLen; omega, by simp, by simp⟩⟩

theorem own_new {w : World} {v : Value} : ∀ j u, [v][j]? = some u → (w.alloc (.cells #[v] 2)).cell? ((⟨w.heap.size, 0, none⟩ : Addr).add j) = some u := by
  intro j u hj
  match j, hj with
  | 0, hj => simp at hj; subst hj; simp [Addr.add, World.cell?_alloc_new]

def ThenRes (p q xs : List Int) (code : Int) : Prop :=
  (Prm p ∧ Prm q ∧ p.length = q.length ∧ xs = thenL p q ∧ code = 0) ∨ (¬ (Prm p ∧ Prm q ∧ p.length = q.length) ∧ xs = [] ∧ code = 1)

theorem ThenRes.ex (p q : List Int) : ∃ xs code, ThenRes p q xs code ∧ xs.length ≤ 12 := by
  by_cases h : Prm p ∧ Prm q ∧ p.length = q.length
  · exact ⟨_, _, .inl ⟨h.1, h.2.1, h.2.2, rfl, rfl⟩, by rw [thenL_length]; exact h.1.2.1⟩
  · exact ⟨_, _, .inr ⟨h, rfl, rfl⟩, by simp⟩

end Go.Proofs.Ythnkhljgealjdaa
namespace Go.Proofs.Ythnkhljgealjdaa
open Go Go.RowKit
set_option maxHeartbeats 400000

theorem take_succ_getD (xs : List Int) (k : Nat) (h : k < xs.length) : xs.take (k + 1) = xs.take k ++ [xs.getD k 0] := by
  rw [List.take_succ_eq_append_getElem h]
  simp [h]

def seenF (xs : List Int) (k : Nat) : Nat → Value := fun i => .bool (decide ((i : Int) ∈ xs.take k))

theorem seen_step (xs : List Int) (k j : Nat) (h : k < xs.length) (hj : xs.getD k 0 = (j : Int)) : ∀ i, (if i = j then Value.bool true else seenF xs k i) = seenF xs (k + 1) i := by
  intro i
  unfold seenF
  rw [take_succ_getD xs k h, hj]
  by_cases e : i = j
  · subst e; simp
  · have : ¬ (i : Int) = (j : Int) := by omega
    simp [e, this]

end Go.Proofs.Ythnkhljgealjdaa
namespace Go.Proofs.Ythnkhljgealjdaa
open Go Go.RowKit
set_option maxHeartbeats 400000

theorem isTable_any (A : Option Addr) (n c : Nat) (rows : List (List Int)) (r : Bool) (w : World) (hn : rows.length = n) (hb : n ≤ 9223372036854775807) (hbs : ∀ i, i < rows.length → (rows.getD i []).length ≤ 9223372036854775807) (hr : Rd2 w A rows) (hrr : r = true ↔ Tbl rows) :
    Calls Try.prog 63 #[.slice A n c] w fun e w' => e = .returned (.bool r) ∧ Quiet w w' := by
  have HN := hide hn
  have HR := hide hrr
  clear hn hrr
  by_cases h12 : 1 ≤ n ∧ n ≤ 12
  · obtain ⟨h1, h2⟩ := h12
    have hno : ¬ Tbl rows → r = false := fun h => by
      cases r
      · rfl
      · exact absurd (HR.out.1 rfl) h
    have HNO := hide hno
    clear hno
    go_enter Try.func63, Try.ntmps63
    go_wp2_with fail
    go_loopw [16] (fun i wr => ∃ k : Nat, k ≤ n ∧ i = .int .i64 k ∧ Quiet w wr ∧ ∀ i, i < k → RowOk n (rows.getD i [])) (fun i _ => n - (intOf i).toNat)
    case atStart => exact ⟨0, Nat.zero_le _, rfl, Quiet.refl _, fun i hi => absurd hi (Nat.not_lt_zero _)⟩
    case round =>
      obtain ⟨k, hk, rfl, hq, hall⟩ := hrel
      have HQ := hide hq
      have HALL := hide hall
      clear hq hall
      by_cases hlt : k < n
      · obtain ⟨b, o, rfl, _, hc⟩ := HQ.out.rd2 hr (by have := HN.out; omega)
        obtain ⟨Ak, ck, hcell, hrd⟩ := hc k (by have := HN.out; omega)
        have hbk := hbs k (by have := HN.out; omega)
        obtain ⟨x, hx⟩ : ∃ x, x = rows.getD k [] := ⟨_, rfl⟩
        obtain ⟨m, hm⟩ : ∃ m, x.length = m := ⟨_, rfl⟩
        rw [← hx] at hcell hrd hbk
        rw [hm] at hcell hbk
        have HX := hide hx
        have HM := hide hm
        clear hx hm hc hbs
        have hltz : (k : Int) < n := by omega
        by_cases hmn : m = n
        · subst hmn
          have hmm : ((m : Int) != (m : Int)) = false := by simp
          obtain ⟨r2, hr2⟩ : ∃ r2 : Bool, r2 = true ↔ ∀ j, j < m → 0 ≤ x.getD j 0 ∧ x.getD j 0 < (m : Int) := ⟨decide _, decide_eq_true_iff⟩
          have HR2 := hide hr2
          have HRDx := hide hrd
          clear hr2 hrd
          go_wp2_with fail
          refine (els_any m _ m _ x r2 _ HM.out hbk (by first | exact HRDx.out | exact HRDx.out.later (Below.refl _ _).drew) HR2.out).mono ?_
          rintro e w2 ⟨rfl, hq2⟩
          have HQ2 : Hid (Quiet w w2) := hide (by first | exact HQ.out.trans hq2 | exact (HQ.out.drewN 1).trans hq2)
          clear hq2
          cases r2 with
          | false =>
            go_wp2_with fail
            go_ret
            have : r = false := HNO.out fun h => by
              have h := (h.2.2 k (by have := HN.out; omega)).2
              rw [HN.out, ← HX.out] at h
              exact absurd (HR2.out.2 h) (by simp)
            exact ⟨by subst this; rfl, HQ2.out⟩
          | true =>
            go_wp2_with fail
            go_roundw
            case rel =>
              refine ⟨k + 1, by omega, by go_num, HQ2.out, fun i hi => ?_⟩
              by_cases e : i = k
              · subst e; rw [← HX.out]; exact ⟨HM.out, HR2.out.1 (by simp)⟩
              · exact HALL.out i (by omega)
            case measure => simp [intOf]; omega
        · have hne : ((m : Int) != (n : Int)) = true := by simp; omega
          have HMN := hide hmn
          clear hmn
          go_wp2_with fail
          go_ret
          have : r = false := HNO.out fun h => HMN.out (by
            have h := (h.2.2 k (by have := HN.out; omega)).1
            rw [← HX.out, HM.out, HN.out] at h
            exact h)
          exact ⟨by subst this; rfl, by first | exact HQ.out | exact HQ.out.drewN _⟩
      · have hkn : k = n := by omega
        subst hkn
        go_wp2_with fail
        go_ret
        have : r = true := HR.out.2 ⟨by have := HN.out; omega, by have := HN.out; omega, fun i hi => by
          have h := HALL.out i (by have := HN.out; omega)
          rw [HN.out]
          exact h⟩
        exact ⟨by subst this; rfl, HQ.out⟩
  · have : r = false := by
      cases r
      · rfl
      · have := HR.out.1 rfl
        have h := HN.out
        unfold Tbl at this
        omega
    subst this
    by_cases h0 : 1 ≤ n
    · have h12' : 12 < n := by omega
      clear h12
      go_enter Try.func63, Try.ntmps63
      go_wp2_with fail
      go_ret
      exact ⟨rfl, Quiet.refl _⟩
    · have h12' : n < 1 := by omega
      clear h12
      go_enter Try.func63, Try.ntmps63
      go_wp2_with fail
      go_ret
      exact ⟨rfl, Quiet.refl _⟩
end Go.Proofs.Ythnkhljgealjdaa
namespace Go.Proofs.Ythnkhljgealjdaa
open Go Go.RowKit Go.ChangeShapes Go.WideShapes
open Go.ChangeMaps (setBlock heap_setBlock_same heap_setBlock_other notKey putKey)
open Go.WideElems (Fit rg rd rd_key rg_of rd_val)
open Classical
set_option maxRecDepth 100000
/-- Block b is a map with keys of the type K, of exactly n entries, whose values are V. -/
def MapN (K : TypeId) (w : World) (b n : Nat) (V : Value → Option Value) : Prop :=
  ∃ es clock, w.heap[b]? = some (.map es clock) ∧ Fit Try.prog K tokK es clock ∧ es.size = n ∧ ∀ key kl, keyOf Try.prog K key = some kl → (DataW.map ((es.toList.map (rg Try.prog K tokK)).foldr DataW.insert [])).atKey kl .nil = (match V key with | some v => .held v | none => .nil)
section
variable {K : TypeId} {w w' : World} {b n : Nat} {V V' : Value → Option Value}
theorem MapN.made (K : TypeId) (w : World) : MapN K (w.alloc (.map #[] 0)) w.heap.size 0 (fun _ => none) := by
  obtain ⟨D, ⟨es, clock, hb, F, hs, rfl⟩, hV⟩ := MapK.made K w
  have h2 : es.size = 0 := by omega
  exact ⟨es, clock, hb, F, h2, hV⟩
theorem MapN.lt (h : MapN K w b n V) : b < w.heap.size := by
  obtain ⟨es, clock, hb, _⟩ := h
  exact (Array.getElem?_eq_some_iff.1 hb).1
theorem MapN.of_block (h : MapN K w b n V) (e : w'.heap[b]? = w.heap[b]?) : MapN K w' b n V := by
  obtain ⟨es, clock, hb, r⟩ := h
  exact ⟨es, clock, e.trans hb, r⟩
theorem MapN.later (h : MapN K w b n V) (hb : Below w.heap.size w w') : MapN K w' b n V := h.of_block (hb.block b h.lt)
theorem MapN.raw (h : MapN K w b n V) : ∃ es clock, w.heap[b]? = some (.map es clock) ∧ es.size = n := by
  obtain ⟨es, clock, hb, _, hs, _⟩ := h
  exact ⟨es, clock, hb, hs⟩
theorem MapN.look2 {t e : TypeId} (hkd : Maps.Keyed Try.prog K) (h : MapN K w b n V) (ht : Try.prog.underlying t = some (.map K e)) {z : Value} (hz : (zeroValue e).run Try.prog w = .ok z w) {key : Value} {kl : Lit} (hkey : keyOf Try.prog K key = some kl) :
    (Instr.lookup t (.map (some b)) key true).run Try.prog w = .ok (.tuple #[(V key).getD z, .bool (V key).isSome]) w := by
  obtain ⟨es, clock, hb, F, hs, hV⟩ := h
  have hk := hV key kl hkey
  rcases Maps.fit_look true hkd ht hz hb F hkey with ⟨hrun, _, hat⟩ | ⟨e0, y, _, _, hrun, hR, hat, _⟩
  · rw [hat] at hk
    cases e : V key with
    | none => simpa using hrun
    | some v => rw [e] at hk; cases hk
  · rw [hat] at hk
    have hy : y = (.held e0.val, []) := by unfold tokK at hR; injection hR with hR; exact hR.symm
    subst hy
    cases e : V key with
    | none => rw [e] at hk; cases hk
    | some v =>
      rw [e] at hk
      injection hk with hk
      rw [← hk]
      simpa using hrun
theorem MapN.look1 {t e : TypeId} (hkd : Maps.Keyed Try.prog K) (h : MapN K w b n V) (ht : Try.prog.underlying t = some (.map K e)) {z : Value} (hz : (zeroValue e).run Try.prog w = .ok z w) {key : Value} {kl : Lit} (hkey : keyOf Try.prog K key = some kl) :
    (Instr.lookup t (.map (some b)) key false).run Try.prog w = .ok ((V key).getD z) w := by
  obtain ⟨es, clock, hb, F, hs, hV⟩ := h
  exact MapK.look hkd ⟨_, ⟨es, clock, hb, F, Nat.le_refl _, rfl⟩, hV⟩ ht hz hkey
/-- A key that is not there yet. -/
theorem MapN.add {t e : TypeId} (hkd : Maps.Keyed Try.prog K) (h : MapN K w b n V) (ht : Try.prog.underlying t = some (.map K e)) {z : Value} (hz : (zeroValue e).run Try.prog w = .ok z w) (hn : n < maxLen) {key : Value} {kl : Lit} (hkey : keyOf Try.prog K key = some kl) (hno : V key = none) (val : Value) :
    ∃ w', (Instr.mapUpdate t (.map (some b)) key val).run Try.prog w = .ok () w' ∧ MapN K w' b (n + 1) (fun k => if k = key then some val else V k) ∧ w.grownBy w' (some b) := by
  obtain ⟨es, clock, hb, F, hs, hV⟩ := h
  have hk := hV key kl hkey
  rw [hno] at hk
  have hmiss : ∀ x ∈ es.toList, x.key ≠ key := by
    rcases Maps.fit_look true hkd ht hz hb F hkey with ⟨_, h2, _⟩ | ⟨e0, y, _, _, _, hR, hat, _⟩
    · exact h2
    · exfalso
      rw [hat] at hk
      unfold tokK at hR
      injection hR with hR
      rw [← hR] at hk
      cases hk
  obtain ⟨es', clock', hrun, F', hput, _⟩ := Maps.fit_store (R' := tokK) hkd ht hb F (by omega) (fun _ _ _ _ hz => hz) hkey (show tokK val = some (.held val, []) from rfl)
  have hsz : es'.size = n + 1 := by
    have e1 : es'.size = ((es'.toList.map (rg Try.prog K tokK)).foldr DataW.insert []).length := by rw [Go.length_sorted]; simp
    have hfil : ((es.toList.map (rg Try.prog K tokK)).foldr DataW.insert []).filter (notKey kl) = (es.toList.map (rg Try.prog K tokK)).foldr DataW.insert [] := by
      refine List.filter_eq_self.2 fun p hp => ?_
      obtain ⟨x, hx, rfl⟩ := List.mem_map.1 ((sorted_perm _).mem_iff.1 hp)
      obtain ⟨y, hy⟩ := F.reads x hx
      rw [rg_of hy, Maps.notKey_iff (hkd.key hkey)]
      intro e2
      have h3 := rd_key hy
      rw [e2] at h3
      exact hmiss x hx (hkd.inj h3 hkey)
    rw [e1, hput]
    unfold putKey
    rw [Go.length_insert, hfil, Go.length_sorted]
    simp [hs]
  refine ⟨_, hrun, ⟨es', clock', heap_setBlock_same hb _, F', hsz, fun key' kl' hkey' => ?_⟩, ⟨rfl, rfl, rfl, by simp [setBlock], fun i _ hi => heap_setBlock_other hb _ (fun e => hi (by rw [e]))⟩⟩
  rw [hput]
  by_cases e : key' = key
  · subst e
    have e2 : kl' = kl := by rw [hkey] at hkey'; injection hkey' with hkey'; exact hkey'.symm
    subst e2
    have h9 := Maps.atKey_put_same (D := DataW.map ((es.toList.map (rg Try.prog K tokK)).foldr DataW.insert [])) ⟨_, rfl⟩ (hkd.key hkey) (.held val) .nil
    simp only [↓reduceIte]
    exact h9
  · have hne : kl' ≠ kl := fun e2 => e (hkd.inj hkey' (e2 ▸ hkey))
    have h9 := Maps.atKey_put_other (D := DataW.map ((es.toList.map (rg Try.prog K tokK)).foldr DataW.insert [])) hne (.held val) .nil
    simp only [if_neg e]
    rw [← hV key' kl' hkey']
    exact h9
end
end Go.Proofs.Ythnkhljgealjdaa
namespace Go.Proofs.Ythnkhljgealjdaa
open Go Go.RowKit

theorem clInfo : (Try.prog.info? 2).map (fun i => (i.zero, i.size, i.bytes)) = some (some (.int .i64 0), 1, 8) := by kernel_rfl
theorem cl_empty (w : World) (t : TypeId) : (w.alloc (.cells #[] t)).ownsRow w.heap.size t 1 (.slice (some ⟨w.heap.size, 0, none⟩) 0 0) 0 [] :=
  ⟨by simp, .inr ⟨w.heap.size, 0, #[], rfl, Nat.le_refl _, heap_alloc_new _ _, Nat.le_refl _, by unfold maxLen; omega, by simp, by simp⟩⟩

theorem cl_cells {w : World} {b o : Nat} {xs : List Int} {obj : Obj} (hc : ∀ i, i < xs.length → w.cell? ⟨b, o + i, none⟩ = some (.int .i64 (xs.getD i 0))) (hb : b < w.heap.size) : ∀ j u, (ints xs)[j]? = some u → (w.alloc obj).cell? ((⟨b, o, none⟩ : Addr).add j) = some u := by
  intro j u hj
  have hl : j < xs.length := by
    have := (List.getElem?_eq_some_iff.1 hj).1
    rw [ints_length] at this
    exact this
  have e : (⟨b, o, none⟩ : Addr).add j = ⟨b, o + j, none⟩ := by
    unfold Addr.add
    by_cases h : j = 0
    · subst h; simp
    · simp [h]
  rw [e, World.cell?_alloc_lt w _ _ hb, hc j hl, ← hj]
  simp [ints, hl]
end Go.Proofs.Ythnkhljgealjdaa
namespace Go.Proofs.Ythnkhljgealjdaa
open Go Go.RowKit

/-- The digit of an element, as a byte. -/
def dg (x : Int) : Int := if x < 10 then 48 + x else 87 + x
theorem dg_range (x : Int) (h0 : 0 ≤ x) (h1 : x < 12) : 48 ≤ dg x ∧ dg x < 123 := by unfold dg; split <;> omega
/-- The digits of a list. -/
def lineL (xs : List Int) : List Int := xs.map dg
theorem lineL_length (xs : List Int) : (lineL xs).length = xs.length := by simp [lineL]
def lineS (xs : List Int) : ByteArray := strOfNums (lineL xs)
theorem lineS_size (xs : List Int) : (lineS xs).size = xs.length := by unfold lineS; rw [strOfNums_size, lineL_length]
theorem lineS_snoc (xs : List Int) (x : Int) : lineS xs ++ lineS [x] = lineS (xs ++ [x]) := by
  unfold lineS strOfNums lineL
  apply ByteArray.ext
  simp
theorem lineS_nil : lineS [] = ⟨#[]⟩ := rfl

def PTextRes (p : List Int) (s : ByteArray) (code : Int) : Prop := (Prm p ∧ s = lineS p ∧ code = 0) ∨ (¬ Prm p ∧ s = ⟨#[]⟩ ∧ code = 1)
theorem PTextRes.ex (p : List Int) : ∃ s code, PTextRes p s code := by
  by_cases h : Prm p
  · exact ⟨_, _, .inl ⟨h, rfl, rfl⟩⟩
  · exact ⟨_, _, .inr ⟨h, rfl, rfl⟩⟩
theorem Prm.dig {p : List Int} (h : Prm p) : ∀ x ∈ p, 0 ≤ x ∧ x < 12 := fun x hx => by
  have h1 := h.2.2.1 x hx
  have h2 := h.2.1
  omega
end Go.Proofs.Ythnkhljgealjdaa
namespace Go.Proofs.Ythnkhljgealjdaa
open Go Go.RowKit
set_option maxHeartbeats 400000

theorem l01Table_any (A : Option Addr) (n c : Nat) (rows : List (List Int)) (r : Bool) (w : World) (hn : rows.length = n) (hb : n ≤ 9223372036854775807) (hbs : ∀ i, i < rows.length → (rows.getD i []).length ≤ 9223372036854775807) (hr : Rd2 w A rows) (hrr : r = true ↔ Tbl rows) :
    Calls Try.prog 62 #[.slice A n c] w fun e w' => e = .returned (.bool r) ∧ Quiet w w' := by
  have HN := hide hn
  have HR := hide hrr
  clear hn hrr
  by_cases h12 : 1 ≤ n ∧ n ≤ 12
  · obtain ⟨h1, h2⟩ := h12
    have hno : ¬ Tbl rows → r = false := fun h => by
      cases r
      · rfl
      · exact absurd (HR.out.1 rfl) h
    have HNO := hide hno
    clear hno
    go_enter Try.func62, Try.ntmps62
    go_wp2_with (go_at_call 51; refine (in_any _ _ _ true _ (by simp; omega)).mono ?_; rintro e w1 ⟨rfl, hq1⟩)
    have HQ1 := hide hq1
    clear hq1
    go_loopw [4] (fun i wr => ∃ k : Nat, k ≤ n ∧ i = .int .i64 k ∧ Quiet w wr ∧ ∀ i, i < k → RowOk n (rows.getD i [])) (fun i _ => n - (intOf i).toNat)
    case atStart => exact ⟨0, Nat.zero_le _, rfl, HQ1.out, fun i hi => absurd hi (Nat.not_lt_zero _)⟩
    case round =>
      obtain ⟨k, hk, rfl, hq, hall⟩ := hrel
      have HQ := hide hq
      have HALL := hide hall
      clear hq hall
      by_cases hlt : k < n
      · obtain ⟨b, o, rfl, _, hc⟩ := HQ.out.rd2 hr (by have := HN.out; omega)
        obtain ⟨Ak, ck, hcell, hrd⟩ := hc k (by have := HN.out; omega)
        have hbk := hbs k (by have := HN.out; omega)
        obtain ⟨x, hx⟩ : ∃ x, x = rows.getD k [] := ⟨_, rfl⟩
        obtain ⟨m, hm⟩ : ∃ m, x.length = m := ⟨_, rfl⟩
        rw [← hx] at hcell hrd hbk
        rw [hm] at hcell hbk
        have HX := hide hx
        have HM := hide hm
        clear hx hm hc hbs
        have hltz : (k : Int) < n := by omega
        by_cases hmn : m = n
        · subst hmn
          go_wp2_with fail
          obtain ⟨wo, rfl⟩ : ∃ wo : World, wo = wr := ⟨_, rfl⟩
          go_loopw [5] (fun i wi => ∃ j : Nat, j ≤ m ∧ i = .int .i64 j ∧ Quiet wo wi ∧ ∀ i, i < j → 0 ≤ x.getD i 0 ∧ x.getD i 0 < (m : Int)) (fun i _ => m - (intOf i).toNat)
          case atStart => exact ⟨0, Nat.zero_le _, rfl, Quiet.refl _, fun i hi => absurd hi (Nat.not_lt_zero _)⟩
          case round =>
            obtain ⟨j, hj, rfl, hqi, hin⟩ := hrel
            have HIN := hide hin
            have HQI := hide hqi
            clear hin
            by_cases hjm : j < m
            · obtain ⟨b2, o2, rfl, _, hc2⟩ := hqi.rd hrd (by have := HM.out; omega)
              have hcell2 := (hqi.cell ⟨b, o + k, none⟩).trans hcell
              have hv := hc2 j (by have := HM.out; omega)
              obtain ⟨y, hy⟩ : ∃ y, y = x.getD j 0 := ⟨_, rfl⟩
              rw [← hy] at hv
              have HY := hide hy
              clear hy hc2 hqi hcell
              have hjz : (j : Int) < m := by omega
              by_cases hyr : 0 ≤ y ∧ y ≤ (m : Int) - 1
              · have HYR := hide hyr
                clear hyr
                go_wp2_with (go_at_call 51; refine (in_any _ _ _ true _ (by simp [HYR.out.1, HYR.out.2])).mono ?_; rintro e w1 ⟨rfl, hq1⟩)
                go_roundw
                case rel =>
                  refine ⟨j + 1, by omega, by go_num, HQI.out.trans hq1, fun i hi => ?_⟩
                  by_cases e : i = j
                  · subst e; rw [← HY.out]; have := HYR.out; exact ⟨this.1, by omega⟩
                  · exact HIN.out i (by omega)
                case measure => simp [intOf]; omega
              · have HYR := hide hyr
                clear hyr
                go_wp2_with (go_at_call 51; refine (in_any _ _ _ false _ (by simpa using HYR.out)).mono ?_; rintro e w1 ⟨rfl, hq1⟩)
                go_ret
                have : r = false := HNO.out fun h => HYR.out (by
                  have h := (h.2.2 k (by have := HN.out; omega)).2 j (by have := HN.out; omega)
                  rw [← HX.out, ← HY.out, HN.out] at h
                  exact ⟨h.1, by omega⟩)
                exact ⟨by subst this; rfl, HQ.out.trans (HQI.out.trans hq1)⟩
            · have hjm' : j = m := by omega
              subst hjm'
              go_wp2_with fail
              go_roundw
              case rel => 
                refine ⟨k + 1, by omega, by go_num, HQ.out.trans HQI.out, fun i hi => ?_⟩
                by_cases e : i = k
                · subst e; rw [← HX.out]; exact ⟨HM.out, HIN.out⟩
                · exact HALL.out i (by omega)
              case measure => simp [intOf]; omega
        · have hne : ((m : Int) != (n : Int)) = true := by simp; omega
          have HMN := hide hmn
          clear hmn
          go_wp2_with fail
          go_ret
          have : r = false := HNO.out fun h => HMN.out (by
            have h := (h.2.2 k (by have := HN.out; omega)).1
            rw [← HX.out, HM.out, HN.out] at h
            exact h)
          exact ⟨by subst this; rfl, by first | exact HQ.out | exact HQ.out.drewN _⟩
      · have hkn : k = n := by omega
        subst hkn
        go_wp2_with fail
        go_ret
        have : r = true := HR.out.2 ⟨by have := HN.out; omega, by have := HN.out; omega, fun i hi => by
          have h := HALL.out i (by have := HN.out; omega)
          rw [HN.out]
          exact h⟩
        exact ⟨by subst this; rfl, HQ.out⟩
  · have : r = false := by
      cases r
      · rfl
      · have := HR.out.1 rfl
        have h := HN.out
        unfold Tbl at this
        omega
    subst this
    go_enter Try.func62, Try.ntmps62
    go_wp2_with (go_at_call 51; refine (in_any _ _ _ false _ (by simp; omega)).mono ?_; rintro e w1 ⟨rfl, hq1⟩)
    go_ret
    exact ⟨rfl, hq1⟩

end Go.Proofs.Ythnkhljgealjdaa
namespace Go.Proofs.Ythnkhljgealjdaa
open Go Go.RowKit

/-- Two tables in memory of their own, the first one's blocks ahead of the second one's. -/
def ObjZ (ts t : TypeId) (lo hi : Nat) (w : World) (A : Option Addr) (f : List (List Int)) (B : Option Addr) (s : List (List Int)) : Prop :=
  ∃ mid, lo ≤ mid ∧ mid ≤ hi ∧ Obj2 ts t lo mid w A f ∧ Obj2 ts t mid hi w B s
/-- Two tables whose blocks lie from lo to hi. -/
def ObjW (ts t : TypeId) (lo hi : Nat) (w : World) (A : Option Addr) (f : List (List Int)) (B : Option Addr) (s : List (List Int)) : Prop :=
  Obj2 ts t lo hi w A f ∧ Obj2 ts t lo hi w B s

section
variable {ts t : TypeId} {w w' : World} {lo hi : Nat} {A B : Option Addr} {f s : List (List Int)}

theorem ObjZ.weak (h : ObjZ ts t lo hi w A f B s) : ObjW ts t lo hi w A f B s := by
  obtain ⟨mid, h1, h2, h3, h4⟩ := h
  exact ⟨h3.mono (Nat.le_refl _) h2, h4.mono h1 (Nat.le_refl _)⟩
theorem ObjZ.fst (h : ObjZ ts t lo hi w A f B s) : Rd2 w A f := h.weak.1.rd
theorem ObjZ.snd (h : ObjZ ts t lo hi w A f B s) : Rd2 w B s := h.weak.2.rd
theorem ObjW.fst (h : ObjW ts t lo hi w A f B s) : Rd2 w A f := h.1.rd
theorem ObjW.snd (h : ObjW ts t lo hi w A f B s) : Rd2 w B s := h.2.rd
theorem ObjZ.later (h : ObjZ ts t lo hi w A f B s) (hb : Below w.heap.size w w') : ObjZ ts t lo hi w' A f B s := by
  obtain ⟨mid, h1, h2, h3, h4⟩ := h
  exact ⟨mid, h1, h2, h3.later hb, h4.later hb⟩
theorem ObjW.later (h : ObjW ts t lo hi w A f B s) (hb : Below w.heap.size w w') : ObjW ts t lo hi w' A f B s := ⟨h.1.later hb, h.2.later hb⟩
theorem ObjZ.far {lo2 hi2 : Nat} (h : ObjZ ts t lo hi w A f B s) (ht : Touch lo2 hi2 w w') (hd : hi ≤ lo2 ∨ hi2 ≤ lo) : ObjZ ts t lo hi w' A f B s := by
  obtain ⟨mid, h1, h2, h3, h4⟩ := h
  exact ⟨mid, h1, h2, h3.far ht (by omega), h4.far ht (by omega)⟩
theorem ObjW.far {lo2 hi2 : Nat} (h : ObjW ts t lo hi w A f B s) (ht : Touch lo2 hi2 w w') (hd : hi ≤ lo2 ∨ hi2 ≤ lo) : ObjW ts t lo hi w' A f B s := ⟨h.1.far ht hd, h.2.far ht hd⟩
theorem ObjZ.mono {lo' hi' : Nat} (h : ObjZ ts t lo hi w A f B s) (h1 : lo' ≤ lo) (h2 : hi ≤ hi') : ObjZ ts t lo' hi' w A f B s := by
  obtain ⟨mid, k1, k2, h3, h4⟩ := h
  exact ⟨mid, by omega, by omega, h3.mono h1 (Nat.le_refl _), h4.mono (Nat.le_refl _) h2⟩
theorem ObjW.mono {lo' hi' : Nat} (h : ObjW ts t lo hi w A f B s) (h1 : lo' ≤ lo) (h2 : hi ≤ hi') : ObjW ts t lo' hi' w A f B s := ⟨h.1.mono h1 h2, h.2.mono h1 h2⟩
theorem ObjZ.empty (h : lo ≤ hi) : ObjZ ts t lo hi w none [] none [] := ⟨lo, Nat.le_refl _, h, .inl ⟨rfl, rfl⟩, .inl ⟨rfl, rfl⟩⟩
theorem ObjW.empty : ObjW ts t lo hi w none [] none [] := ⟨.inl ⟨rfl, rfl⟩, .inl ⟨rfl, rfl⟩⟩

theorem Touch.wide {lo2 hi2 : Nat} (h : Touch lo2 hi2 w w') (h1 : lo ≤ lo2) (h2 : hi2 ≤ hi) : Touch lo hi w w' :=
  ⟨h.os, h.tape, h.output, h.size, fun k hk hne => h.block k hk (by omega)⟩
theorem Touch.of_below (h : Below w.heap.size w w') : Touch lo hi w w' :=
  ⟨h.os, h.tape, h.output, h.size, fun k hk _ => h.block k hk⟩
end

/-- A pair of tables and a code, in new memory. -/
def ZPost (ts t : TypeId) (n m : Nat) (f s : List (List Int)) (code : Int) (w : World) (e : Ending) (w' : World) : Prop :=
  ∃ A c B d, e = .returned (.tuple #[.agg #[.slice A n c, .slice B m d], .int .i64 code]) ∧ Below w.heap.size w w' ∧ ObjZ ts t w.heap.size w'.heap.size w' A f B s
def WPost (ts t : TypeId) (n m : Nat) (f s : List (List Int)) (code : Int) (w : World) (e : Ending) (w' : World) : Prop :=
  ∃ A c B d, e = .returned (.tuple #[.agg #[.slice A n c, .slice B m d], .int .i64 code]) ∧ Below w.heap.size w w' ∧ ObjW ts t w.heap.size w'.heap.size w' A f B s
end Go.Proofs.Ythnkhljgealjdaa
namespace Go.Proofs.Ythnkhljgealjdaa
open Go Go.RowKit

theorem bcell {W w1 : World} (hb : Below W.heap.size W w1) : (∀ b o, b < W.heap.size → w1.cell? ⟨b, o, none⟩ = W.cell? ⟨b, o, none⟩) ∧ (∀ b o, b < W.heap.size → w1.frozen? ⟨b, o, none⟩ = W.frozen? ⟨b, o, none⟩) :=
  ⟨fun b o h => hb.cell (p := ⟨b, o, none⟩) h, fun b o h => hb.frozen (p := ⟨b, o, none⟩) h⟩

/-- The world at the end of a walk under a name of its own. -/
theorem bp_gen {P : Program} {f : Func} {Q : Ending → World → Prop} {x : Exit} {a : Act} {w : World} (h : ∀ wf, wf = w → bodyPost P f Q x a wf) : bodyPost P f Q x a w := h w rfl

theorem wp_gen {P : Program} {c : Code} {Q : Exit → Act → World → Prop} {a : Act} {w : World} (h : ∀ wf, wf = w → Code.wp P c Q a wf) : Code.wp P c Q a w := h w rfl
theorem calls_gen {P : Program} {f : FuncId} {args : Array Value} {w : World} {Q : Ending → World → Prop} (h : ∀ wf, wf = w → Calls P f args wf Q) : Calls P f args w Q := h w rfl

theorem bdrewN {B : Nat} {w w' : World} (h : Below B w w') (n : Nat) : Below B w (w'.drewN n) := h.trans ((Quiet.of w' n).below B)

theorem eq_below {a b : World} (h : a = b) : Below b.heap.size b a := h ▸ Below.refl _ _
theorem drew_below {a b : World} (h : a = b.drew) : Below b.heap.size b a := h ▸ (Below.refl _ _).drew

/-- Block b is just the cells cs. -/
def Blk (w : World) (b : Nat) (t : TypeId) (cs : List Value) : Prop := w.heap[b]? = some (.cells cs.toArray t (0, 0))

section
variable {w w' : World} {b B : Nat} {t : TypeId} {cs : List Value}
theorem Blk.new (w : World) (t : TypeId) (cs : List Value) : Blk (w.alloc (.cells cs.toArray t)) w.heap.size t cs := heap_alloc_new _ _
theorem Blk.lt (h : Blk w b t cs) : b < w.heap.size := (Array.getElem?_eq_some_iff.1 h).1
theorem Blk.cell (h : Blk w b t cs) (i : Nat) (v : Value) (hi : cs[i]? = some v) : w.cell? ⟨b, i, none⟩ = some v := by
  rw [cell_of_row w b i _ t (0, 0) h]
  simpa using hi
theorem Blk.frozen (h : Blk w b t cs) (i : Nat) : w.frozen? ⟨b, i, none⟩ = false := by
  unfold Blk at h
  simp [World.frozen?, h]
theorem Blk.set (h : Blk w b t cs) (i : Nat) (v : Value) : Blk (w.setCell ⟨b, i, none⟩ v) b t (cs.set i v) := by
  unfold Blk at h ⊢
  simp [World.setCell, Array.getElem?_modify, h]
theorem Blk.far (h : Blk w b t cs) {p : Addr} (hp : b ≠ p.block) (v : Value) : Blk (w.setCell p v) b t cs := (Below.heap_setCell w p v b hp).trans h
theorem Blk.later (h : Blk w b t cs) (hb : Below w.heap.size w w') : Blk w' b t cs := (hb.block b h.lt).trans h
theorem Blk.alloc (h : Blk w b t cs) (o : Obj) : Blk (w.alloc o) b t cs := h.later ((Below.refl _ _).alloc (Nat.le_refl _) _)
theorem Blk.touch {lo hi : Nat} (h : Blk w b t cs) (ht : Touch lo hi w w') (hs : b < lo ∨ hi ≤ b) : Blk w' b t cs := (ht.block b h.lt hs).trans h
theorem Blk.drew (h : Blk w b t cs) : Blk w.drew b t cs := h
theorem Blk.drewN (h : Blk w b t cs) (n : Nat) : Blk (w.drewN n) b t cs := h.later ((Quiet.of w n).below _)
end

theorem Obj1.set {t : TypeId} {lo hi : Nat} {w : World} {A : Option Addr} {xs : List Int} (h : Obj1 t lo hi w A xs) {p : Addr} (hp : p.block < lo ∨ hi ≤ p.block) (v : Value) : Obj1 t lo hi (w.setCell p v) A xs :=
  h.far (lo2 := p.block) (hi2 := p.block + 1) ⟨rfl, rfl, rfl, by simp [World.setCell], fun k _ hne => Below.heap_setCell w p v k (by omega)⟩ (by omega)
theorem Obj2.set {ts t : TypeId} {lo hi : Nat} {w : World} {A : Option Addr} {rows : List (List Int)} (h : Obj2 ts t lo hi w A rows) {p : Addr} (hp : p.block < lo ∨ hi ≤ p.block) (v : Value) : Obj2 ts t lo hi (w.setCell p v) A rows :=
  h.far (lo2 := p.block) (hi2 := p.block + 1) ⟨rfl, rfl, rfl, by simp [World.setCell], fun k _ hne => Below.heap_setCell w p v k (by omega)⟩ (by omega)
theorem Touch.alloc {lo hi : Nat} {w w' : World} (h : Touch lo hi w w') (o : Obj) : Touch lo hi w (w'.alloc o) :=
  ⟨h.os, h.tape, h.output, Nat.le_trans h.size (by simp), fun k hk hne => by
    have e : (w'.alloc o).heap[k]? = w'.heap[k]? := ((Below.refl w'.heap.size w').alloc (Nat.le_refl _) o).block k (by have := h.size; omega)
    rw [e]
    exact h.block k hk hne⟩
end Go.Proofs.Ythnkhljgealjdaa
namespace Go.Proofs.Ythnkhljgealjdaa
open Go Go.RowKit

theorem copyT (A : Option Addr) (n c : Nat) (rows : List (List Int)) (w : World) (hn : rows.length = n) (hb : n ≤ 1048576) (hbs : ∀ i, i < rows.length → (rows.getD i []).length ≤ 1048576) (hr : Rd2 w A rows) :
    Calls Try.prog 20 #[.slice A n c] w fun e w' => ∃ A', e = .returned (.slice A' n n) ∧ Below w.heap.size w w' ∧ Obj2 25 2 w.heap.size w'.heap.size w' A' rows :=
  (toInt64SS_any A n c rows w hn hb hbs hr).mono fun _ _ ⟨he, hb, ht, hs⟩ => ⟨_, he, hb, ht.obj (Nat.le_refl _) (by omega) (fun i hi => by omega) (fun i j hi hj hne => by omega)⟩
end Go.Proofs.Ythnkhljgealjdaa
namespace Go.Proofs.Ythnkhljgealjdaa
open Go Go.RowKit
set_option maxHeartbeats 1000000

theorem markR (t : TypeId) (lo hi : Nat) (A : Option Addr) (n c : Nat) (k : Int) (xs : List Int) (w : World) (hn : xs.length = n) (hb : n ≤ 4194304) (hk : 0 ≤ k) (hk2 : k ≤ 4611686018427387904) (hr : Obj1 t lo hi w A xs) :
    Calls Try.prog 13 #[.slice A n c, .int .i64 k] w fun e w' => e = .returned (.int .i64 (k + n)) ∧ Touch lo hi w w' ∧ Obj1 t lo hi w' A (marks k n) :=
  (mark_any t lo A n c k xs w hn hb hk hk2 (hr.res (Nat.le_refl _))).mono fun _ w' ⟨he, ho, hr'⟩ => ⟨he, .of_only ho hr.bounds, by
    rcases hr' with h | ⟨g, h1, h2, h3⟩
    · exact .inl h
    · exact .inr ⟨g, h1, h2, (hr.bounds _ h1).2, h3⟩⟩

/-- Between the rounds of the marking of rows: the first i rows are marked. -/
theorem row_between (k : Int) (rows : List (List Int)) (i j : Nat) (hj : j < rows.length) : (((marks2 k rows).take i ++ rows.drop i).getD j []).length = (rows.getD j []).length := by
  have hm := marks2_length k rows
  simp only [List.getD_eq_getElem?_getD]
  by_cases h : j < i
  · have h1 : j < ((marks2 k rows).take i).length := by simp; omega
    rw [List.getElem?_append_left h1, List.getElem?_take, if_pos h]
    have e := marks2_getD k rows j hj
    simp only [List.getD_eq_getElem?_getD] at e
    rw [e, marks_length]
  · have h1 : ((marks2 k rows).take i).length ≤ j := by simp; omega
    rw [List.getElem?_append_right h1, List.getElem?_drop]
    have : ((marks2 k rows).take i).length = min i rows.length := by simp [hm]
    congr 3
    omega

theorem row_at (k : Int) (rows : List (List Int)) (i : Nat) (hi : i < rows.length) : ((marks2 k rows).take i ++ rows.drop i).getD i [] = rows.getD i [] := by
  have hm := marks2_length k rows
  simp only [List.getD_eq_getElem?_getD]
  have h1 : ((marks2 k rows).take i).length = i := by simp; omega
  rw [List.getElem?_append_right (by omega), List.getElem?_drop, h1]
  simp

theorem row_next (k : Int) (rows : List (List Int)) (i : Nat) (hi : i < rows.length) : ((marks2 k rows).take i ++ rows.drop i).set i (marks (k + (tot (rows.take i) : Int)) (rows.getD i []).length) = (marks2 k rows).take (i + 1) ++ rows.drop (i + 1) := by
  have hm := marks2_length k rows
  have h1 : ((marks2 k rows).take i).length = i := by simp; omega
  have h2 : i < (marks2 k rows).length := by omega
  rw [List.set_append_right _ _ (by omega), h1, Nat.sub_self, List.take_succ_eq_append_getElem h2, List.append_assoc]
  congr 1
  rw [List.drop_eq_getElem_cons hi, List.set_cons_zero]
  have e := marks2_getD k rows i hi
  have e2 : (marks2 k rows).getD i [] = (marks2 k rows)[i] := by simp [h2]
  rw [← e, e2]
  rfl

/-- The row i of the object is replaced. -/
theorem Obj2.put {ts t : TypeId} {lo hi : Nat} {w w' : World} {g : Nat} {R : Nat → Option Addr} {C : Nat → Nat} {rows : List (List Int)} {i : Nat} {r : List Int} (hne : ts ≠ t) (_hlo : lo ≤ g) (_hhi : g < hi)
    (hc : ∃ cur : Array Value, w.heap[g]? = some (.cells cur ts (0, 0)) ∧ ∀ i, i < rows.length → cur[i]? = some (.slice (R i) (rows.getD i []).length (C i)))
    (ho : ∀ i, i < rows.length → Obj1 t lo hi w (R i) (rows.getD i []))
    (hd : ∀ i j, i < rows.length → j < rows.length → i ≠ j → ∀ a b, R i = some a → R j = some b → a.block ≠ b.block)
    (hi' : i < rows.length) (hl : r.length = (rows.getD i []).length) (hon : Only (R i) w w') (hnew : Obj1 t lo hi w' (R i) r) :
    (∃ cur : Array Value, w'.heap[g]? = some (.cells cur ts (0, 0)) ∧ ∀ j, j < (rows.set i r).length → cur[j]? = some (.slice (R j) ((rows.set i r).getD j []).length (C j))) ∧
    (∀ j, j < (rows.set i r).length → Obj1 t lo hi w' (R j) ((rows.set i r).getD j [])) := by
  obtain ⟨cur, c1, c2⟩ := hc
  have hgl : g < w.heap.size := (Array.getElem?_eq_some_iff.1 c1).1
  have get : ∀ j, j < rows.length → (rows.set i r).getD j [] = if i = j then r else rows.getD j [] := fun j hj => by
    simp only [List.getD_eq_getElem?_getD, List.getElem?_set]
    by_cases e : i = j
    · subst e; simp [hi']
    · simp [e]
  refine ⟨⟨cur, (hon.block g hgl (fun e => ?_)).trans c1, fun j hj => ?_⟩, fun j hj => ?_⟩
  · cases hR : R i with
    | none => rw [hR] at e; cases e
    | some a =>
      rw [hR] at e
      have e2 : g = a.block := by simpa using e
      rcases ho i hi' with ⟨h, _⟩ | ⟨g', h, _, _, cur', h3, _⟩
      · rw [hR] at h; cases h
      · rw [hR] at h
        cases h
        subst e2
        rw [c1] at h3
        injection h3 with h3
        injection h3 with _ h3
        exact hne h3
  · rw [List.length_set] at hj
    rw [c2 j hj, get j hj]
    by_cases e : i = j
    · subst e; rw [if_pos rfl, hl]
    · rw [if_neg e]
  · rw [List.length_set] at hj
    rw [get j hj]
    by_cases e : i = j
    · subst e; rw [if_pos rfl]; exact hnew
    · rw [if_neg e]
      rcases ho j hj with h | ⟨g', h, h1, h2, h3⟩
      · exact .inl h
      · refine .inr ⟨g', h, h1, h2, h3.of_block (hon.block g' h3.lt (fun e' => ?_))⟩
        cases hR : R i with
        | none => rw [hR] at e'; cases e'
        | some a =>
          rw [hR] at e'
          have e2 : g' = a.block := by simpa using e'
          exact hd i j hi' hj e a ⟨g', 0, none⟩ hR h e2.symm

theorem markT (ts t : TypeId) (hne : ts ≠ t) (lo hi : Nat) (A : Option Addr) (n c : Nat) (k : Int) (rows : List (List Int)) (w : World) (hn : rows.length = n) (hb : n ≤ 1048576) (hbs : ∀ i, i < rows.length → (rows.getD i []).length ≤ 1048576) (htot : tot rows ≤ 2305843009213693952) (hk : 0 ≤ k) (hk2 : k ≤ 2305843009213693952) (hr : Obj2 ts t lo hi w A rows) :
    Calls Try.prog 14 #[.slice A n c, .int .i64 k] w fun e w' => e = .returned (.int .i64 (k + (tot rows : Int))) ∧ Touch lo hi w w' ∧ Obj2 ts t lo hi w' A (marks2 k rows) := by
  have HN := hide hn
  clear hn
  rcases hr with ⟨rfl, rfl⟩ | ⟨g, R, C, rfl, h1, h2, h3, h4, h5⟩
  · have h0 : n = 0 := by have := HN.out; simpa using this.symm
    subst h0
    go_enter Try.func14, Try.ntmps14
    go_wp2_with fail
    refine wp_loop_rounds 1 ?_
    rw [rounds_succ]
    go_wp2_with fail
    go_ret
    exact ⟨by simp [tot], Touch.refl _ _ _, .inl ⟨rfl, rfl⟩⟩
  · have H3 := hide h3
    have H4 := hide h4
    have H5 := hide h5
    have HNE := hide hne
    clear h3 h4 h5 hne
    go_enter Try.func14, Try.ntmps14
    go_wp2_with fail
    go_loopw [1, 5] (fun q i wr => ∃ j : Nat, j ≤ n ∧ i = .int .i64 j ∧ q = .int .i64 (k + (tot (rows.take j) : Int)) ∧ Touch lo hi w wr ∧
        (∃ cur : Array Value, wr.heap[g]? = some (.cells cur ts (0, 0)) ∧ ∀ i, i < ((marks2 k rows).take j ++ rows.drop j).length → cur[i]? = some (.slice (R i) (((marks2 k rows).take j ++ rows.drop j).getD i []).length (C i))) ∧
        (∀ i, i < ((marks2 k rows).take j ++ rows.drop j).length → Obj1 t lo hi wr (R i) (((marks2 k rows).take j ++ rows.drop j).getD i []))) (fun _ i _ => n - (intOf i).toNat)
    case atStart => exact ⟨0, Nat.zero_le _, rfl, by simp [tot], Touch.refl _ _ _, by simpa using H3.out, by simpa using H4.out⟩
    case round =>
      obtain ⟨j, hj, rfl, rfl, ht, hc, ho⟩ := hrel
      have HT := hide ht
      have HC := hide hc
      have HO := hide ho
      clear ht hc ho
      have hm := marks2_length k rows
      have HM := hide hm
      have hl : ((marks2 k rows).take j ++ rows.drop j).length = n := by have := HN.out; simp; omega
      have HL := hide hl
      clear hm hl
      by_cases hlt : j < n
      · have hjr : j < rows.length := by have := HN.out; omega
        have hcell : wr.cell? ⟨g, j, none⟩ = some (.slice (R j) (rows.getD j []).length (C j)) := by
          obtain ⟨cur, c1, c2⟩ := HC.out
          rw [cell_of_row wr g j cur ts (0, 0) c1, c2 j (by rw [HL.out]; exact hlt), row_at k rows j hjr]
        have hobj := HO.out j (by rw [HL.out]; exact hlt)
        rw [row_at k rows j hjr] at hobj
        have hbj := hbs j hjr
        have htj := tot_take_succ rows j hjr
        have hle := tot_take_le rows (j + 1)
        rw [htj] at hle
        have HTJ := hide htj
        have HOBJ := hide hobj
        have HJR := hide hjr
        obtain ⟨m, hm⟩ : ∃ m, (rows.getD j []).length = m := ⟨_, rfl⟩
        rw [hm] at hcell hbj hle
        have HMM := hide hm
        obtain ⟨s, hs⟩ : ∃ s, tot (rows.take j) = s := ⟨_, rfl⟩
        rw [hs] at hle ⊢
        have HS := hide hs
        clear hs hm htj hobj hjr hbs
        have hltz : (j : Int) < n := by omega
        go_wp2_with fail
        refine (mark_any t lo _ _ _ _ (rows.getD j []) _ HMM.out (by omega) (by omega) (by omega) (HOBJ.out.res (Nat.le_refl _))).mono ?_
        rintro e w2 ⟨rfl, hon, hres⟩
        have HON := hide hon
        have HRES := hide hres
        clear hon hres
        go_wp2_with fail
        go_roundw
        case rel =>
          have hnew : Obj1 t lo hi w2 (R j) (marks (k + (s : Int)) m) := by
            rcases HRES.out with h | ⟨g', e1, e2, e3⟩
            · exact .inl h
            · exact .inr ⟨g', e1, e2, (HOBJ.out.bounds _ e1).2, e3⟩
          have hput := Obj2.put (r := marks (k + (s : Int)) m) HNE.out h1 h2 HC.out HO.out (fun a b ha hb hab x y hx hy => H5.out a b (by rw [HL.out] at ha; have := HN.out; omega) (by rw [HL.out] at hb; have := HN.out; omega) hab x y hx hy)
            (by rw [HL.out]; exact hlt) (by rw [row_at k rows j HJR.out, HMM.out, marks_length]) HON.out hnew
          have e := row_next k rows j HJR.out
          rw [HS.out, HMM.out] at e
          rw [e] at hput
          exact ⟨j + 1, by omega, by go_num, by rw [HTJ.out, HS.out, HMM.out]; go_num, HT.out.trans (.of_only HON.out HOBJ.out.bounds), hput.1, hput.2⟩
        case measure => simp [intOf]; omega
      · have hjn : j = n := by omega
        subst hjn
        go_wp2_with fail
        go_ret
        have hN := HN.out
        have hM := HM.out
        have e : (marks2 k rows).take j ++ rows.drop j = marks2 k rows := by
          rw [List.take_of_length_le (by omega), List.drop_of_length_le (by omega), List.append_nil]
        have hc := HC.out
        have ho := HO.out
        rw [e] at hc ho
        refine ⟨by rw [List.take_of_length_le (by omega)]; rfl, HT.out, .inr ⟨g, R, C, rfl, h1, h2, hc, ho, fun a b ha hb hab x y hx hy => H5.out a b (by omega) (by omega) hab x y hx hy⟩⟩

theorem heldT (A : Option Addr) (n c : Nat) (k : Int) (rows : List (List Int)) (w : World) (hn : rows.length = n) (hb : n ≤ 1048576) (hbs : ∀ i, i < rows.length → (rows.getD i []).length ≤ 1048576) (htot : tot rows ≤ 2305843009213693952) (hk : 0 ≤ k) (hk2 : k ≤ 2305843009213693952) (hr : Rd2 w A (marks2 k rows)) :
    Calls Try.prog 15 #[.slice A n c, .int .i64 k] w fun e w' => e = .returned (.int .i64 (k + (tot rows : Int))) ∧ Quiet w w' := by
  have HN := hide hn
  clear hn
  go_enter Try.func15, Try.ntmps15
  go_wp2_with fail
  go_loopw [1, 5] (fun q i wr => ∃ j : Nat, j ≤ n ∧ i = .int .i64 j ∧ q = .int .i64 (k + (tot (rows.take j) : Int)) ∧ Quiet w wr) (fun _ i _ => n - (intOf i).toNat)
  case atStart => exact ⟨0, Nat.zero_le _, rfl, by simp [tot], Quiet.refl _⟩
  case round =>
    obtain ⟨j, hj, rfl, rfl, hq⟩ := hrel
    have HQ := hide hq
    clear hq
    by_cases hlt : j < n
    · have hjr : j < rows.length := by have := HN.out; omega
      obtain ⟨b, o, rfl, hbw, hc⟩ := HQ.out.rd2 hr (by rw [marks2_length]; omega)
      obtain ⟨Aj, cj, hcell, hrd⟩ := hc j (by rw [marks2_length]; omega)
      rw [marks2_getD k rows j hjr] at hcell hrd
      rw [marks_length] at hcell
      have hbj := hbs j hjr
      have htj := tot_take_succ rows j hjr
      have hle := tot_take_le rows (j + 1)
      rw [htj] at hle
      have HTJ := hide htj
      obtain ⟨m, hm⟩ : ∃ m, (rows.getD j []).length = m := ⟨_, rfl⟩
      rw [hm] at hcell hbj hle hrd
      have HMM := hide hm
      obtain ⟨s, hs⟩ : ∃ s, tot (rows.take j) = s := ⟨_, rfl⟩
      rw [hs] at hle hrd ⊢
      have HS := hide hs
      have HRD := hide hrd
      clear hs hm htj hrd hc hr hjr hbs
      have hltz : (j : Int) < n := by omega
      go_wp2_with fail
      refine (held_any _ _ _ _ _ (by omega) (by omega) (by omega) HRD.out).mono ?_
      rintro e w2 ⟨rfl, hq2⟩
      have HQ2 := hide hq2
      clear hq2
      have hnn : ¬ (k + (s : Int) + (m : Int) < 0) := by omega
      go_wp2_with fail
      go_roundw
      case rel => exact ⟨j + 1, by omega, by go_num, by rw [HTJ.out, HS.out, HMM.out]; go_num, HQ.out.trans HQ2.out⟩
      case measure => simp [intOf]; omega
    · have hjn : j = n := by omega
      subst hjn
      go_wp2_with fail
      go_ret
      exact ⟨by rw [List.take_of_length_le (by have := HN.out; omega)]; rfl, HQ.out⟩
end Go.Proofs.Ythnkhljgealjdaa
namespace Go.Proofs.Ythnkhljgealjdaa
open Go Go.RowKit

theorem copyR (A : Option Addr) (n c : Nat) (xs : List Int) (w : World) (hn : xs.length = n) (hb : n ≤ 1048576) (hr : Rd w A xs) :
    Calls Try.prog 7 #[.slice A n c] w fun e w' => ∃ A', e = .returned (.slice A' n n) ∧ Below w.heap.size w w' ∧ Obj1 2 w.heap.size w'.heap.size w' A' xs :=
  (toInt64S_any A n c xs w hn hb hr).mono fun _ _ ⟨he, hb, hr, hs⟩ => ⟨_, he, hb, .inr ⟨_, rfl, Nat.le_refl _, by omega, hr.own⟩⟩
end Go.Proofs.Ythnkhljgealjdaa
