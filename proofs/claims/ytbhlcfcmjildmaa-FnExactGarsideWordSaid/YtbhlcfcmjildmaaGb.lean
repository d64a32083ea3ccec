import Derived.Test.YtbhlcfcmjildmaaGa
import Derived.Test.YtbhlcfcmjildmaaProg
import Derived.Laws.BytesArg
namespace Go.Proofs.Ytbhlcfcmjildmaa
open Go Go.RowKit
set_option maxHeartbeats 400000

theorem info24 : (Try.prog.info? 26).map (fun i => (i.zero, i.size, i.bytes)) = some (some (.slice none 0 0), 1, 24) := by kernel_rfl

def cpTop (N k : Nat) (rows : List (List Int)) : Nat → Value := fun i => if i < k then .slice (some ⟨N + 1 + i, 0, none⟩) (rows.getD i []).length (rows.getD i []).length else .slice none 0 0

structure CpRel (w wr : World) (n k : Nat) (rows : List (List Int)) : Prop where
  below : Below w.heap.size w wr
  size : wr.heap.size = w.heap.size + 1 + k
  top : wr.rowIs w.heap.size 26 n (cpTop w.heap.size k rows)
  row : ∀ i, i < k → Row 2 wr (w.heap.size + 1 + i) (rows.getD i [])

theorem CpRel.start (w : World) (n : Nat) (rows : List (List Int)) : CpRel w (w.alloc (.cells (madeCells #[.slice none 0 0] n) 26)) n 0 rows :=
  ⟨(Below.refl _ _).alloc (Nat.le_refl _) _, by simp, (World.rowIs_made w _ n 26).congr (fun j _ => by simp [cpTop]), fun i hi => absurd hi (Nat.not_lt_zero _)⟩

theorem CpRel.step {w wr w2 : World} {n k m : Nat} {rows : List (List Int)} {r : List Int} (h : CpRel w wr n k rows) (hr : r = rows.getD k []) (hm : r.length = m) (hb : Below wr.heap.size wr w2) (hrow : Row 2 w2 wr.heap.size r) (hs : w2.heap.size = wr.heap.size + 1) :
    CpRel w (w2.setCell ⟨w.heap.size, k, none⟩ (.slice (some ⟨wr.heap.size, 0, none⟩) m m)) n (k + 1) rows := by
  have hsz := h.size
  refine ⟨(h.below.trans (hb.mono (by omega))).setCell (Nat.le_refl _) _, by simp [World.setCell]; omega, ?_, fun i hi => ?_⟩
  · refine ((h.top.of_block (hb.block _ (by omega))).set k _).congr (fun j hj => ?_)
    simp only [cpTop]
    by_cases e : j = k
    · subst e
      rw [if_pos rfl, if_pos (by omega), hsz, ← hr, hm]
    · rw [if_neg e]
      by_cases hlt : j < k
      · rw [if_pos hlt, if_pos (by omega)]
      · rw [if_neg hlt, if_neg (by omega)]
  · by_cases e : i = k
    · subst e
      rw [← hr, ← hsz]
      exact hrow.far (by show wr.heap.size ≠ w.heap.size; omega) _
    · exact ((h.row i (by omega)).later hb (by omega)).far (by show w.heap.size + 1 + i ≠ w.heap.size; omega) _

theorem toInt64SS_any (A : Option Addr) (n c : Nat) (rows : List (List Int)) (w : World) (hn : rows.length = n) (hb : n ≤ 1048576) (hbs : ∀ i, i < rows.length → (rows.getD i []).length ≤ 1048576) (hr : Rd2 w A rows) :
    Calls Try.prog 33 #[.slice A n c] w fun e w' => e = .returned (.slice (some ⟨w.heap.size, 0, none⟩) n n) ∧ Below w.heap.size w w' ∧ Tab 26 2 w' w.heap.size (fun i => w.heap.size + 1 + i) rows ∧ w'.heap.size = w.heap.size + 1 + n := by
  have hmk := run_make_row' (P := Try.prog) 22 26 (.slice none 0 0) 24 Try.underlying22 info24 rfl .i64 .i64 n (by omega) (by omega)
  have HN := hide hn
  clear hn
  go_enter Try.func33, Try.ntmps33
  go_wp2_with fail
  clear hmk
  go_loopw [4] (fun i wr => ∃ k : Nat, k ≤ n ∧ i = .int .i64 k ∧ CpRel w wr n k rows) (fun i _ => n - (intOf i).toNat)
  case atStart => exact ⟨0, Nat.zero_le _, rfl, CpRel.start w n rows⟩
  case round =>
    obtain ⟨k, hk, rfl, hrel⟩ := hrel
    by_cases hlt : k < n
    · obtain ⟨b, o, rfl, hbw, hc⟩ := hr (by have := HN.out; omega)
      obtain ⟨Ak, ck, hcell, hrd⟩ := hc k (by have := HN.out; omega)
      have hbk := hbs k (by have := HN.out; omega)
      obtain ⟨r, hr⟩ : ∃ r, r = rows.getD k [] := ⟨_, rfl⟩
      obtain ⟨m, hm⟩ : ∃ m, r.length = m := ⟨_, rfl⟩
      rw [← hr] at hcell hbk hrd
      rw [hm] at hcell hbk
      have hcell' : wr.cell? ⟨b, o + k, none⟩ = some (.slice Ak m ck) := (hrel.below.cell (p := ⟨b, o + k, none⟩) hbw).trans hcell
      have hrd' : Rd wr Ak r := hrd.later hrel.below
      have HM := hide hm
      have HR := hide hr
      have HREL := hide hrel
      have hf := hrel.top.frozen k
      have hltz : (k : Int) < n := by omega
      clear hm hr hc hbs hrel hcell hrd
      go_wp2_with (go_at_call 24; refine (toInt64S_any _ _ _ _ _ HM.out (by omega) hrd').mono ?_; rintro e w2 ⟨rfl, hb2, hrow2, hs2⟩; have HS2 := hide hs2; clear hs2; have hc2 : w2.cell? ⟨w.heap.size, k, none⟩ = some (cpTop w.heap.size k rows k) := ((hb2.cell (p := ⟨w.heap.size, k, none⟩) (by have := HREL.out.size; show w.heap.size < wr.heap.size; omega))).trans (HREL.out.top.cell hlt); have hf2 : w2.frozen? ⟨w.heap.size, k, none⟩ = false := ((hb2.frozen (p := ⟨w.heap.size, k, none⟩) (by have := HREL.out.size; show w.heap.size < wr.heap.size; omega))).trans (HREL.out.top.frozen k))
      go_roundw
      case rel => exact ⟨k + 1, by omega, by go_num, HREL.out.step HR.out HM.out hb2 hrow2 HS2.out⟩
      case measure => simp [intOf]; omega
    · have hkn : k = n := by omega
      subst hkn
      have HREL := hide hrel
      clear hrel
      go_wp2
      go_ret
      have h := HREL.out
      refine ⟨rfl, h.below, ⟨?_, fun i hi => h.row i (by have := HN.out; omega)⟩, h.size⟩
      rw [HN.out]
      exact h.top.congr (fun j hj => by simp [cpTop, hj])
end Go.Proofs.Ytbhlcfcmjildmaa
namespace Go.Proofs.Ytbhlcfcmjildmaa
open Go Go.RowKit
set_option maxHeartbeats 400000
/-- What the size check says. -/
def Szd (L : Int) (rows : List (List Int)) (r : Int) : Prop := r = -1 ∨ (0 ≤ r ∧ r ≤ L ∧ rows.length ≤ L ∧ ∀ i, i < rows.length → (rows.getD i []).length ≤ L)
def SzPost (L : Int) (rows : List (List Int)) (w : World) (e : Ending) (w' : World) : Prop := ∃ r, Szd L rows r ∧ e = .returned (.int .i64 r) ∧ w = w'

theorem szz_any (A : Option Addr) (n c : Nat) (rows : List (List Int)) (L : Int) (w : World) (hn : rows.length = n) (hb : n ≤ 9223372036854775807) (hbs : ∀ i, i < rows.length → (rows.getD i []).length ≤ 9223372036854775807) (h0 : 0 ≤ L) (h1 : L ≤ 1048576) (hr : Rd2 w A rows) :
    Calls Try.prog 26 #[.slice A n c, .int .i64 L] w (SzPost L rows w) := by
  have HN := hide hn
  clear hn
  by_cases hL : L < n
  · go_enter Try.func26, Try.ntmps26
    go_wp2
    go_ret
    exact ⟨-1, .inl rfl, rfl, rfl⟩
  · go_enter Try.func26, Try.ntmps26
    go_wp2_with fail
    go_loop [1, 5] (fun s i => ∃ (k : Nat) (l : Int), k ≤ n ∧ i = .int .i64 k ∧ s = .int .i64 l ∧ 0 ≤ l ∧ l ≤ L ∧ ∀ i, i < k → (rows.getD i []).length ≤ L) (fun _ i => n - (intOf i).toNat)
    case atStart => exact ⟨0, L - n, Nat.zero_le _, rfl, rfl, by omega, by omega, fun i hi => absurd hi (Nat.not_lt_zero _)⟩
    case round =>
      obtain ⟨k, l, hk, rfl, rfl, hl0, hlL, hall⟩ := hrel
      have HALL := hide hall
      clear hall
      by_cases hlt : k < n
      · obtain ⟨b, o, rfl, hbw, hc⟩ := hr (by have := HN.out; omega)
        obtain ⟨Ak, ck, hcell, _⟩ := hc k (by have := HN.out; omega)
        have hbk := hbs k (by have := HN.out; omega)
        obtain ⟨m, hm⟩ : ∃ m, m = (rows.getD k []).length := ⟨_, rfl⟩
        rw [← hm] at hcell hbk
        have HM := hide hm
        clear hm hc hbs
        by_cases hlm : l < m
        · go_wp2_with (go_at_call 51; refine (sz_no _ _ _ _ _ (by omega) (by omega) (by omega) (by omega)).mono ?_; rintro e w' ⟨rfl, rfl⟩)
          go_ret
          exact ⟨-1, .inl rfl, rfl, rfl⟩
        · go_wp2_with (go_at_call 51; refine (sz_yes _ _ _ _ _ (by omega) (by omega) (by omega) (by omega)).mono ?_; rintro e w' ⟨rfl, rfl⟩)
          go_round
          case rel =>
            refine ⟨k + 1, l - m, by omega, by go_num, rfl, by omega, by omega, fun i hi => ?_⟩
            by_cases e : i = k
            · subst e; rw [← HM.out]; omega
            · exact HALL.out i (by omega)
          case measure => simp [intOf]; omega
      · have hkn : k = n := by omega
        subst hkn
        go_wp2
        go_ret
        exact ⟨l, .inr ⟨hl0, hlL, by have := HN.out; omega, fun i hi => HALL.out i (by have := HN.out; omega)⟩, rfl, rfl⟩
end Go.Proofs.Ytbhlcfcmjildmaa
namespace Go.Proofs.Ytbhlcfcmjildmaa
open Go Go.RowKit
set_option maxHeartbeats 400000
theorem eqq_any (A B : Option Addr) (n c m d : Nat) (xs ys : List (List Int)) (r : Bool) (w : World) (hn : xs.length = n) (hm : ys.length = m) (hb : n ≤ 9223372036854775807) (hb2 : m ≤ 9223372036854775807) 
    (hbs : ∀ i, i < xs.length → (xs.getD i []).length ≤ 9223372036854775807) (hbt : ∀ i, i < ys.length → (ys.getD i []).length ≤ 9223372036854775807) (hx : Rd2 w A xs) (hy : Rd2 w B ys) (hr : r = true ↔ xs = ys) :
    Calls Try.prog 20 #[.slice A n c, .slice B m d] w fun e w' => e = .returned (.bool r) ∧ Quiet w w' := by
  have HN := hide hn
  have HM := hide hm
  have HR := hide hr
  clear hr
  by_cases hnm : n = m
  · subst hnm
    clear hn hm
    go_enter Try.func20, Try.ntmps20
    go_wp2_with fail
    go_loopw [5] (fun i wr => ∃ k : Nat, k ≤ n ∧ i = .int .i64 k ∧ Quiet w wr ∧ ∀ i, i < k → xs.getD i [] = ys.getD i []) (fun i _ => n - (intOf i).toNat)
    case atStart => exact ⟨0, Nat.zero_le _, rfl, Quiet.refl w, fun i hi => absurd hi (Nat.not_lt_zero _)⟩
    case round =>
      obtain ⟨k, hk, rfl, hq, hall⟩ := hrel
      have HQ := hide hq
      clear hq
      have HALL := hide hall
      clear hall
      by_cases hlt : k < n
      · obtain ⟨b, o, rfl, _, hc⟩ := HQ.out.rd2 hx (by have := HN.out; omega)
        obtain ⟨b2, o2, rfl, _, hc2⟩ := HQ.out.rd2 hy (by have := HM.out; omega)
        obtain ⟨A1, c1, h1, hr1⟩ := hc k (by have := HN.out; omega)
        obtain ⟨A2, c2, h2, hr2⟩ := hc2 k (by have := HM.out; omega)
        have hb1 := hbs k (by have := HN.out; omega)
        have hb2 := hbt k (by have := HM.out; omega)
        obtain ⟨x, hx⟩ : ∃ x, x = xs.getD k [] := ⟨_, rfl⟩
        obtain ⟨y, hy⟩ : ∃ y, y = ys.getD k [] := ⟨_, rfl⟩
        rw [← hx] at h1 hr1 hb1
        rw [← hy] at h2 hr2 hb2
        have HX := hide hx
        have HY := hide hy
        clear hx hy hc hc2 hbs hbt
        have hltz : (k : Int) < n := by omega
        by_cases hxy : x = y
        · have HXY := hide hxy
          clear hxy
          go_wp2_with fail
          go_quiet ((go_at_call 11; exact quiet_call (eq_any _ _ _ _ _ _ x y true _ rfl rfl hb1 hb2 hr1 hr2 (by simp [HXY.out]))))
          go_wp2_with fail
          go_roundw
          case rel =>
            refine ⟨k + 1, by omega, by go_num, HQ.out.drewN _, fun i hi => ?_⟩
            by_cases e : i = k
            · subst e; rw [← HX.out, ← HY.out]; exact HXY.out
            · exact HALL.out i (by omega)
          case measure => simp [intOf]; omega
        · have HNE := hide hxy
          clear hxy
          go_wp2_with fail
          go_quiet ((go_at_call 11; exact quiet_call (eq_any _ _ _ _ _ _ x y false _ rfl rfl hb1 hb2 hr1 hr2 (by simp [HNE.out]))))
          go_wp2_with fail
          go_ret
          have : r = false := by
            cases r
            · rfl
            · have e := HR.out.1 rfl
              subst e
              exact absurd (HX.out.trans HY.out.symm) HNE.out
          exact ⟨by subst this; rfl, by first | exact HQ.out | exact HQ.out.drewN _ | exact Quiet.refl _⟩
      · have hkn : k = n := by omega
        subst hkn
        go_wp2_with fail
        go_ret
        have this := HR.out.2 (eqRows xs ys (HN.out.trans HM.out.symm) (fun i hi => HALL.out i (by have := HN.out; omega)))
        exact ⟨by subst this; rfl, by first | exact HQ.out | exact HQ.out.drewN _ | exact Quiet.refl _⟩
  · have hne : ((n : Int) != (m : Int)) = true := by simp; omega
    have HNM := hide hnm
    clear hn hm hnm
    go_enter Try.func20, Try.ntmps20
    go_wp2_with fail
    go_ret
    have : r = false := by
      cases r
      · rfl
      · have e := HR.out.1 rfl
        subst e
        exact absurd (HN.out.symm.trans HM.out) HNM.out
    exact ⟨by subst this; rfl, by first | exact HQ.out | exact HQ.out.drewN _ | exact Quiet.refl _⟩
end Go.Proofs.Ytbhlcfcmjildmaa
namespace Go.Proofs.Ytbhlcfcmjildmaa
open Go Go.RowKit
set_option maxHeartbeats 400000

theorem mark_any (t : TypeId) (B : Nat) (A : Option Addr) (n c : Nat) (k : Int) (xs : List Int) (w : World) (hn : xs.length = n) (hb : n ≤ 4194304) (hk : 0 ≤ k) (hk2 : k ≤ 4611686018427387904) (hr : Res t B w A xs) :
    Calls Try.prog 14 #[.slice A n c, .int .i64 k] w fun e w' => e = .returned (.int .i64 (k + n)) ∧ Only A w w' ∧ Res t B w' A (marks k n) := by
  have HN := hide hn
  clear hn
  rcases hr with ⟨rfl, rfl⟩ | ⟨g, rfl, hB, hown⟩
  · have h0 : n = 0 := by have := HN.out; simpa using this.symm
    subst h0
    go_enter Try.func14, Try.ntmps14
    go_wp2_with fail
    refine wp_loop_rounds 1 ?_
    rw [rounds_succ]
    go_wp2_with fail
    go_ret
    exact ⟨by simp, Only.quiet (Quiet.refl _), .inl ⟨rfl, rfl⟩⟩
  · have HO := hide hown
    clear hown
    go_enter Try.func14, Try.ntmps14
    go_wp2_with fail
    go_loopw [1, 5] (fun q i wr => ∃ j : Nat, j ≤ n ∧ i = .int .i64 j ∧ q = .int .i64 (k + (j : Int)) ∧ Only (some ⟨g, 0, none⟩) w wr ∧ OwnB t wr g (marks k j ++ xs.drop j)) (fun _ i _ => n - (intOf i).toNat)
    case atStart => exact ⟨0, Nat.zero_le _, rfl, by simp, Only.quiet (Quiet.refl _), by simpa [marks] using HO.out⟩
    case round =>
      obtain ⟨j, hj, rfl, rfl, ho, hown⟩ := hrel
      have HOO := hide ho
      have HOW := hide hown
      clear ho hown
      by_cases hlt : j < n
      · have hl : j < (marks k j ++ xs.drop j).length := by have := HN.out; simp [marks]; omega
        have h1 := HOW.out.cell hl
        have h2 := HOW.out.frozen j
        obtain ⟨x, hx⟩ : ∃ x, (marks k j ++ xs.drop j).getD j 0 = x := ⟨_, rfl⟩
        rw [hx] at h1
        have HL := hide hl
        clear hx hl
        have hltz : (j : Int) < n := by omega
        go_wp2_with fail
        go_roundw
        case rel =>
          refine ⟨j + 1, by omega, by go_num, by go_num, ?_, ?_⟩
          · exact ⟨HOO.out.os, HOO.out.tape, HOO.out.output, by simpa [World.setCell] using HOO.out.size, fun i hi hne => (Below.heap_setCell _ _ _ _ (fun e => hne (by rw [e]; rfl))).trans (HOO.out.block i hi hne)⟩
          · have := HOW.out.set j (k + (j : Int)) HL.out
            rw [mark_step k n j xs HN.out hlt] at this
            exact this
        case measure => simp [intOf]; omega
      · have hjn : j = n := by omega
        subst hjn
        go_wp2_with fail
        go_ret
        have h := HOW.out
        rw [List.drop_of_length_le (by have := HN.out; omega), List.append_nil] at h
        exact ⟨rfl, HOO.out, .inr ⟨g, rfl, hB, h⟩⟩

theorem held_any (A : Option Addr) (n c : Nat) (k : Int) (w : World) (hb : n ≤ 4194304) (hk : 0 ≤ k) (hk2 : k ≤ 4611686018427387904) (hr : Rd w A (marks k n)) :
    Calls Try.prog 15 #[.slice A n c, .int .i64 k] w fun e w' => e = .returned (.int .i64 (k + n)) ∧ Quiet w w' := by
  go_enter Try.func15, Try.ntmps15
  go_wp2_with fail
  go_loopw [1, 5] (fun q i wr => ∃ j : Nat, j ≤ n ∧ i = .int .i64 j ∧ q = .int .i64 (k + (j : Int)) ∧ Quiet w wr) (fun _ i _ => n - (intOf i).toNat)
  case atStart => exact ⟨0, Nat.zero_le _, rfl, by simp, Quiet.refl _⟩
  case round =>
    obtain ⟨j, hj, rfl, rfl, hq⟩ := hrel
    have HQ := hide hq
    clear hq
    by_cases hlt : j < n
    · obtain ⟨b, o, rfl, hbw, hc⟩ := HQ.out.rd hr (by rw [marks_length]; omega)
      have hc1 := hc j (by rw [marks_length]; omega)
      rw [marks_getD k n j hlt] at hc1
      have hltz : (j : Int) < n := by omega
      clear hc hr
      have he : ((k + (j : Int)) != (k + (j : Int))) = false := by simp
      go_wp2_with fail
      go_roundw
      case rel => exact ⟨j + 1, by omega, by go_num, by go_num, HQ.out⟩
      case measure => simp [intOf]; omega
    · have hjn : j = n := by omega
      subst hjn
      go_wp2_with fail
      go_ret
      exact ⟨rfl, HQ.out⟩
end Go.Proofs.Ytbhlcfcmjildmaa
namespace Go.Proofs.Ytbhlcfcmjildmaa
open Go Go.RowKit
set_option maxHeartbeats 1000000

/-- The inverse after k rounds. -/
def backTo (p : List Int) : Nat → List Int
  | 0 => List.replicate p.length 0
  | k + 1 => (backTo p k).set (p.getD k 0).toNat (k : Int)
theorem backTo_length (p : List Int) (k : Nat) : (backTo p k).length = p.length := by
  induction k with
  | zero => simp [backTo]
  | succ k ih => simp [backTo, ih]

def InvRes (p zs : List Int) (code : Int) : Prop := (Prm p ∧ zs = backTo p p.length ∧ code = 0) ∨ (¬ Prm p ∧ zs = [] ∧ code = 1)
theorem InvRes.ex (p : List Int) : ∃ zs code, InvRes p zs code ∧ zs.length ≤ 12 := by
  by_cases h : Prm p
  · exact ⟨_, _, .inl ⟨h, rfl, rfl⟩, by rw [backTo_length]; exact h.2.1⟩
  · exact ⟨_, _, .inr ⟨h, rfl, rfl⟩, by simp⟩

theorem backInfo : (Try.prog.info? 2).map (fun i => (i.zero, i.size, i.bytes)) = some (some (.int .i64 0), 1, 8) := by kernel_rfl

end Go.Proofs.Ytbhlcfcmjildmaa
namespace Go.Proofs.Ytbhlcfcmjildmaa
open Go Go.RowKit

def cmpL : List Int → List Int → Int
  | [], [] => 0
  | [], _ :: _ => -1
  | _ :: _, [] => 1
  | x :: xs, y :: ys => if x < y then -1 else if y < x then 1 else cmpL xs ys
def lessL : List Int → List Int → Bool
  | [], [] => false
  | [], _ :: _ => true
  | _ :: _, [] => false
  | x :: xs, y :: ys => if x = y then lessL xs ys else decide (x < y)
def cmpT : List (List Int) → List (List Int) → Int
  | [], [] => 0
  | [], _ :: _ => -1
  | _ :: _, [] => 1
  | x :: xs, y :: ys => if cmpL x y = 0 then cmpT xs ys else cmpL x y
def lessT : List (List Int) → List (List Int) → Bool
  | [], [] => false
  | [], _ :: _ => true
  | _ :: _, [] => false
  | x :: xs, y :: ys => if x = y then lessT xs ys else lessL x y

theorem cmpL_zero (xs ys : List Int) : cmpL xs ys = 0 ↔ xs = ys := by
  induction xs generalizing ys with
  | nil => cases ys <;> simp [cmpL]
  | cons x xs ih =>
    cases ys with
    | nil => simp [cmpL]
    | cons y ys =>
      unfold cmpL
      by_cases h1 : x < y
      · rw [if_pos h1]; simp; omega
      · by_cases h2 : y < x
        · rw [if_neg h1, if_pos h2]; simp; omega
        · rw [if_neg h1, if_neg h2, ih]
          have : x = y := by omega
          simp [this]
theorem cmpL_neg (xs ys : List Int) : cmpL xs ys < 0 ↔ lessL xs ys = true := by
  induction xs generalizing ys with
  | nil => cases ys <;> simp [cmpL, lessL]
  | cons x xs ih =>
    cases ys with
    | nil => simp [cmpL, lessL]
    | cons y ys =>
      unfold cmpL lessL
      by_cases h1 : x < y
      · rw [if_pos h1, if_neg (by omega)]; simp [h1]
      · by_cases h2 : y < x
        · rw [if_neg h1, if_pos h2, if_neg (by omega)]; simp [h1]
        · rw [if_neg h1, if_neg h2, if_pos (by omega), ih]
theorem cmpL_range (xs ys : List Int) : -1 ≤ cmpL xs ys ∧ cmpL xs ys ≤ 1 := by
  induction xs generalizing ys with
  | nil => cases ys <;> simp [cmpL]
  | cons x xs ih =>
    cases ys with
    | nil => simp [cmpL]
    | cons y ys =>
      unfold cmpL
      split
      · omega
      · split
        · omega
        · exact ih ys
theorem cmpT_neg (xs ys : List (List Int)) : cmpT xs ys < 0 ↔ lessT xs ys = true := by
  induction xs generalizing ys with
  | nil => cases ys <;> simp [cmpT, lessT]
  | cons x xs ih =>
    cases ys with
    | nil => simp [cmpT, lessT]
    | cons y ys =>
      unfold cmpT lessT
      by_cases h : x = y
      · rw [if_pos ((cmpL_zero x y).2 h), if_pos h, ih]
      · rw [if_neg (fun e => h ((cmpL_zero x y).1 e)), if_neg h, cmpL_neg]
theorem lessT_irrefl (xs : List (List Int)) : lessT xs xs = false := by
  induction xs with
  | nil => rfl
  | cons x xs ih => simp [lessT, ih]

theorem drop_cons (xs : List Int) (k : Nat) (h : k < xs.length) : xs.drop k = xs.getD k 0 :: xs.drop (k + 1) := by
  rw [List.drop_eq_getElem_cons h]
  simp [h]
theorem drop_cons2 (xs : List (List Int)) (k : Nat) (h : k < xs.length) : xs.drop k = xs.getD k [] :: xs.drop (k + 1) := by
  rw [List.drop_eq_getElem_cons h]
  simp [h]
end Go.Proofs.Ytbhlcfcmjildmaa
namespace Go.Proofs.Ytbhlcfcmjildmaa
open Go Go.RowKit
set_option maxHeartbeats 1000000

/-- Doing p, then q. -/
def thenL (p q : List Int) : List Int := p.map fun y => q.getD y.toNat 0
theorem thenL_length (p q : List Int) : (thenL p q).length = p.length := by simp [thenL]

theorem thenL_getD (p q : List Int) (k j : Nat) (h : k < p.length) (hj : p.getD k 0 = (j : Int)) : (thenL p q).getD k 0 = q.getD j 0 := by
  have h1 : p[k]'h = (j : Int) := by simpa [h] using hj
  simp [thenL, h, h1]

theorem rowInfo : (Try.prog.info? 2).map (fun i => (i.zero, i.size, i.bytes)) = some (some (.int .i64 0), 1, 8) := by kernel_rfl

theorem ownsRow_empty (w : World) (t : TypeId) : (w.alloc (.cells #[] t)).ownsRow w.heap.size t 1 (.slice (some ⟨w.heap.size, 0, none⟩) 0 0) 0 [] :=
  ⟨by simp, .inr ⟨w.heap.size, 0, #[], rfl, Nat.le_refl _, heap_alloc_new _ _, Nat.le_refl _, by unfold maxLen; omega, by simp, by simp⟩⟩

theorem own_new {w : World} {v : Value} : ∀ j u, [v][j]? = some u → (w.alloc (.cells #[v] 2)).cell? ((⟨w.heap.size, 0, none⟩ : Addr).add j) = some u := by
  intro j u hj
  match j, hj with
  | 0, hj => simp at hj; subst hj; simp [Addr.add, World.cell?_alloc_new]

def ThenRes (p q xs : List Int) (code : Int) : Prop :=
  (Prm p ∧ Prm q ∧ p.length = q.length ∧ xs = thenL p q ∧ code = 0) ∨ (¬ (Prm p ∧ Prm q ∧ p.length = q.length) ∧ xs = [] ∧ code = 1)

theorem ThenRes.ex (p q : List Int) : ∃ xs code, ThenRes p q xs code ∧ xs.length ≤ 12 := by
  by_cases h : Prm p ∧ Prm q ∧ p.length = q.length
  · exact ⟨_, _, .inl ⟨h.1, h.2.1, h.2.2, rfl, rfl⟩, by rw [thenL_length]; exact h.1.2.1⟩
  · exact ⟨_, _, .inr ⟨h, rfl, rfl⟩, by simp⟩

end Go.Proofs.Ytbhlcfcmjildmaa
namespace Go.Proofs.Ytbhlcfcmjildmaa
open Go Go.RowKit
set_option maxHeartbeats 400000

theorem take_succ_getD (xs : List Int) (k : Nat) (h : k < xs.length) : xs.take (k + 1) = xs.take k ++ [xs.getD k 0] := by
  rw [List.take_succ_eq_append_getElem h]
  simp [h]

def seenF (xs : List Int) (k : Nat) : Nat → Value := fun i => .bool (decide ((i : Int) ∈ xs.take k))

theorem seen_step (xs : List Int) (k j : Nat) (h : k < xs.length) (hj : xs.getD k 0 = (j : Int)) : ∀ i, (if i = j then Value.bool true else seenF xs k i) = seenF xs (k + 1) i := by
  intro i
  unfold seenF
  rw [take_succ_getD xs k h, hj]
  by_cases e : i = j
  · subst e; simp
  · have : ¬ (i : Int) = (j : Int) := by omega
    simp [e, this]

theorem valid_any (A : Option Addr) (n c : Nat) (xs : List Int) (r : Bool) (w : World) (hn : xs.length = n) (hb : n ≤ 9223372036854775807) (hr : Rd w A xs) (hrr : r = true ↔ Prm xs) :
    Calls Try.prog 93 #[.slice A n c] w fun e w' => e = .returned (.bool r) ∧ Below w.heap.size w w' := by
  have HN := hide hn
  have HR := hide hrr
  clear hn hrr
  by_cases h12 : 1 ≤ n ∧ n ≤ 12
  · obtain ⟨h1, h2⟩ := h12
    have hno : ¬ Prm xs → r = false := fun h => by
      cases r
      · rfl
      · exact absurd (HR.out.1 rfl) h
    have HNO := hide hno
    clear hno
    go_enter Try.func93, Try.ntmps93
    go_wp2_with fail
    go_loopw [17] (fun i wr => ∃ k : Nat, k ≤ n ∧ i = .int .i64 k ∧ Below w.heap.size w wr ∧ wr.rowIs w.heap.size 92 12 (seenF xs k) ∧ (∀ x ∈ xs.take k, 0 ≤ x ∧ x < (n : Int)) ∧ (xs.take k).Nodup) (fun i _ => n - (intOf i).toNat)
    case atStart => 
      refine ⟨0, Nat.zero_le _, rfl, (Below.refl _ _).alloc (Nat.le_refl _) _, ⟨_, heap_alloc_new _ _, rfl, fun i hi => ?_⟩, by simp, by simp⟩
      simp only [seenF, List.take_zero]
      match i, hi with
      | 0, _ | 1, _ | 2, _ | 3, _ | 4, _ | 5, _ | 6, _ | 7, _ | 8, _ | 9, _ | 10, _ | 11, _ => simp
    case round =>
      obtain ⟨k, hk, rfl, hbe, hrow, hin, hnd⟩ := hrel
      have HB := hide hbe
      have HROW := hide hrow
      have HIN := hide hin
      have HND := hide hnd
      clear hbe hrow hin hnd
      by_cases hlt : k < n
      · obtain ⟨b, o, rfl, hbw, hc⟩ := hr (by have := HN.out; omega)
        have hc1 : wr.cell? ⟨b, o + k, none⟩ = some (.int .i64 (xs.getD k 0)) := (HB.out.cell (p := ⟨b, o + k, none⟩) hbw).trans (hc k (by have := HN.out; omega))
        have hmem : xs.getD k 0 ∈ xs := by
          have h : k < xs.length := by have := HN.out; omega
          simp [h]
        have HMEM := hide hmem
        obtain ⟨x, hx⟩ : ∃ x, xs.getD k 0 = x := ⟨_, rfl⟩
        rw [hx] at hc1
        have HX := hide hx
        clear hx hc hmem
        have hltz : (k : Int) < n := by omega
        by_cases h0 : 0 ≤ x ∧ x < (n : Int)
        · obtain ⟨h0, h3⟩ := h0
          obtain ⟨j, rfl⟩ := Int.eq_ofNat_of_zero_le h0
          have hs := HROW.out.cell (i := j) (by omega)
          have hf := HROW.out.frozen j
          have hd : decide ((j : Int) < 0) = false := by simp
          have hd2 : decide ((n : Int) ≤ (j : Int)) = false := by simp; omega
          by_cases hsn : (j : Int) ∈ xs.take k
          · have hs' : wr.cell? ⟨w.heap.size, j, none⟩ = some (.bool true) := by rw [hs]; simp [seenF, hsn]
            have HSN := hide hsn
            clear hsn hs
            go_wp2_with fail
            go_ret
            have : r = false := HNO.out fun h => by
              have h := h.2.2.2
              have hl : k < xs.length := by have := HN.out; omega
              rw [← List.take_append_drop (k + 1) xs, take_succ_getD xs k hl, HX.out] at h
              have h := (List.nodup_append.1 (List.nodup_append.1 h).1).2.2
              exact h _ HSN.out _ (by simp) rfl
            exact ⟨by subst this; rfl, HB.out⟩
          · have hs' : wr.cell? ⟨w.heap.size, j, none⟩ = some (.bool false) := by rw [hs]; simp [seenF, hsn]
            have HSN := hide hsn
            clear hsn hs
            go_wp2_with fail
            go_roundw
            case rel =>
              have hl : k < xs.length := by have := HN.out; omega
              refine ⟨k + 1, by omega, by go_num, HB.out.setCell (Nat.le_refl _) _, (HROW.out.set j _).congr (fun i _ => seen_step xs k j hl HX.out i), ?_, ?_⟩
              · rw [take_succ_getD xs k hl, HX.out]
                intro y hy
                rcases List.mem_append.1 hy with h | h
                · exact HIN.out y h
                · simp at h; omega
              · rw [take_succ_getD xs k hl, HX.out]
                refine List.nodup_append.2 ⟨HND.out, by simp, fun a ha b hb e => ?_⟩
                simp at hb
                subst hb; subst e
                exact HSN.out ha
            case measure => simp [intOf]; omega
        · have bad : r = false := HNO.out fun h => by
            have := h.2.2.1 x (by rw [← HX.out]; exact HMEM.out)
            rw [HN.out] at this
            exact h0 this
          have BAD := hide bad
          clear bad
          by_cases hx0 : x < 0
          · go_wp2_with fail
            go_ret
            have := BAD.out
            exact ⟨by subst this; rfl, HB.out⟩
          · have hxn : (n : Int) ≤ x := by omega
            go_wp2_with fail
            go_ret
            have := BAD.out
            exact ⟨by subst this; rfl, HB.out⟩
      · have hkn : k = n := by omega
        subst hkn
        go_wp2_with fail
        go_ret
        have hl := HN.out
        have h1' := HIN.out
        have h2' := HND.out
        rw [List.take_of_length_le (by omega)] at h1' h2'
        have : r = true := HR.out.2 ⟨by omega, by omega, by rw [hl]; exact h1', h2'⟩
        exact ⟨by subst this; rfl, HB.out⟩
  · have : r = false := by
      cases r
      · rfl
      · have := HR.out.1 rfl
        have h := HN.out
        unfold Prm at this
        omega
    subst this
    by_cases h0 : 1 ≤ n
    · have h12' : 12 < n := by omega
      clear h12
      go_enter Try.func93, Try.ntmps93
      go_wp2_with fail
      go_ret
      exact ⟨rfl, Below.refl _ _⟩
    · have h12' : n < 1 := by omega
      clear h12
      go_enter Try.func93, Try.ntmps93
      go_wp2_with fail
      go_ret
      exact ⟨rfl, Below.refl _ _⟩

theorem isPerm_any (A : Option Addr) (n c : Nat) (xs : List Int) (r : Bool) (w : World) (hn : xs.length = n) (hb : n ≤ 9223372036854775807) (hr : Rd w A xs) (hrr : r = true ↔ Prm xs) :
    Calls Try.prog 85 #[.slice A n c] w fun e w' => e = .returned (.bool r) ∧ Below w.heap.size w w' := by
  have HN := hide hn
  have HR := hide hrr
  clear hn hrr
  go_enter Try.func85, Try.ntmps85
  go_wp2_with fail
  refine (valid_any _ _ _ xs r _ HN.out hb hr HR.out).mono ?_
  rintro e w1 ⟨rfl, hq⟩
  go_wp2_with fail
  go_ret
  exact ⟨rfl, hq⟩
end Go.Proofs.Ytbhlcfcmjildmaa
namespace Go.Proofs.Ytbhlcfcmjildmaa
open Go Go.RowKit
set_option maxHeartbeats 400000

theorem l01Table_any (A : Option Addr) (n c : Nat) (rows : List (List Int)) (r : Bool) (w : World) (hn : rows.length = n) (hb : n ≤ 9223372036854775807) (hbs : ∀ i, i < rows.length → (rows.getD i []).length ≤ 9223372036854775807) (hr : Rd2 w A rows) (hrr : r = true ↔ Tbl rows) :
    Calls Try.prog 77 #[.slice A n c] w fun e w' => e = .returned (.bool r) ∧ Quiet w w' := by
  have HN := hide hn
  have HR := hide hrr
  clear hn hrr
  by_cases h12 : 1 ≤ n ∧ n ≤ 12
  · obtain ⟨h1, h2⟩ := h12
    have hno : ¬ Tbl rows → r = false := fun h => by
      cases r
      · rfl
      · exact absurd (HR.out.1 rfl) h
    have HNO := hide hno
    clear hno
    go_enter Try.func77, Try.ntmps77
    go_wp2_with (go_at_call 42; refine (in_any _ _ _ true _ (by simp; omega)).mono ?_; rintro e w1 ⟨rfl, hq1⟩)
    have HQ1 := hide hq1
    clear hq1
    go_loopw [4] (fun i wr => ∃ k : Nat, k ≤ n ∧ i = .int .i64 k ∧ Quiet w wr ∧ ∀ i, i < k → RowOk n (rows.getD i [])) (fun i _ => n - (intOf i).toNat)
    case atStart => exact ⟨0, Nat.zero_le _, rfl, HQ1.out, fun i hi => absurd hi (Nat.not_lt_zero _)⟩
    case round =>
      obtain ⟨k, hk, rfl, hq, hall⟩ := hrel
      have HQ := hide hq
      have HALL := hide hall
      clear hq hall
      by_cases hlt : k < n
      · obtain ⟨b, o, rfl, _, hc⟩ := HQ.out.rd2 hr (by have := HN.out; omega)
        obtain ⟨Ak, ck, hcell, hrd⟩ := hc k (by have := HN.out; omega)
        have hbk := hbs k (by have := HN.out; omega)
        obtain ⟨x, hx⟩ : ∃ x, x = rows.getD k [] := ⟨_, rfl⟩
        obtain ⟨m, hm⟩ : ∃ m, x.length = m := ⟨_, rfl⟩
        rw [← hx] at hcell hrd hbk
        rw [hm] at hcell hbk
        have HX := hide hx
        have HM := hide hm
        clear hx hm hc hbs
        have hltz : (k : Int) < n := by omega
        by_cases hmn : m = n
        · subst hmn
          go_wp2_with fail
          obtain ⟨wo, rfl⟩ : ∃ wo : World, wo = wr := ⟨_, rfl⟩
          go_loopw [5] (fun i wi => ∃ j : Nat, j ≤ m ∧ i = .int .i64 j ∧ Quiet wo wi ∧ ∀ i, i < j → 0 ≤ x.getD i 0 ∧ x.getD i 0 < (m : Int)) (fun i _ => m - (intOf i).toNat)
          case atStart => exact ⟨0, Nat.zero_le _, rfl, Quiet.refl _, fun i hi => absurd hi (Nat.not_lt_zero _)⟩
          case round =>
            obtain ⟨j, hj, rfl, hqi, hin⟩ := hrel
            have HIN := hide hin
            have HQI := hide hqi
            clear hin
            by_cases hjm : j < m
            · obtain ⟨b2, o2, rfl, _, hc2⟩ := hqi.rd hrd (by have := HM.out; omega)
              have hcell2 := (hqi.cell ⟨b, o + k, none⟩).trans hcell
              have hv := hc2 j (by have := HM.out; omega)
              obtain ⟨y, hy⟩ : ∃ y, y = x.getD j 0 := ⟨_, rfl⟩
              rw [← hy] at hv
              have HY := hide hy
              clear hy hc2 hqi hcell
              have hjz : (j : Int) < m := by omega
              by_cases hyr : 0 ≤ y ∧ y ≤ (m : Int) - 1
              · have HYR := hide hyr
                clear hyr
                go_wp2_with (go_at_call 42; refine (in_any _ _ _ true _ (by simp [HYR.out.1, HYR.out.2])).mono ?_; rintro e w1 ⟨rfl, hq1⟩)
                go_roundw
                case rel =>
                  refine ⟨j + 1, by omega, by go_num, HQI.out.trans hq1, fun i hi => ?_⟩
                  by_cases e : i = j
                  · subst e; rw [← HY.out]; have := HYR.out; exact ⟨this.1, by omega⟩
                  · exact HIN.out i (by omega)
                case measure => simp [intOf]; omega
              · have HYR := hide hyr
                clear hyr
                go_wp2_with (go_at_call 42; refine (in_any _ _ _ false _ (by simpa using HYR.out)).mono ?_; rintro e w1 ⟨rfl, hq1⟩)
                go_ret
                have : r = false := HNO.out fun h => HYR.out (by
                  have h := (h.2.2 k (by have := HN.out; omega)).2 j (by have := HN.out; omega)
                  rw [← HX.out, ← HY.out, HN.out] at h
                  exact ⟨h.1, by omega⟩)
                exact ⟨by subst this; rfl, HQ.out.trans (HQI.out.trans hq1)⟩
            · have hjm' : j = m := by omega
              subst hjm'
              go_wp2_with fail
              go_roundw
              case rel => 
                refine ⟨k + 1, by omega, by go_num, HQ.out.trans HQI.out, fun i hi => ?_⟩
                by_cases e : i = k
                · subst e; rw [← HX.out]; exact ⟨HM.out, HIN.out⟩
                · exact HALL.out i (by omega)
              case measure => simp [intOf]; omega
        · have hne : ((m : Int) != (n : Int)) = true := by simp; omega
          have HMN := hide hmn
          clear hmn
          go_wp2_with fail
          go_ret
          have : r = false := HNO.out fun h => HMN.out (by
            have h := (h.2.2 k (by have := HN.out; omega)).1
            rw [← HX.out, HM.out, HN.out] at h
            exact h)
          exact ⟨by subst this; rfl, by first | exact HQ.out | exact HQ.out.drewN _⟩
      · have hkn : k = n := by omega
        subst hkn
        go_wp2_with fail
        go_ret
        have : r = true := HR.out.2 ⟨by have := HN.out; omega, by have := HN.out; omega, fun i hi => by
          have h := HALL.out i (by have := HN.out; omega)
          rw [HN.out]
          exact h⟩
        exact ⟨by subst this; rfl, HQ.out⟩
  · have : r = false := by
      cases r
      · rfl
      · have := HR.out.1 rfl
        have h := HN.out
        unfold Tbl at this
        omega
    subst this
    go_enter Try.func77, Try.ntmps77
    go_wp2_with (go_at_call 42; refine (in_any _ _ _ false _ (by simp; omega)).mono ?_; rintro e w1 ⟨rfl, hq1⟩)
    go_ret
    exact ⟨rfl, hq1⟩

end Go.Proofs.Ytbhlcfcmjildmaa
namespace Go.Proofs.Ytbhlcfcmjildmaa
open Go Go.RowKit

theorem clInfo : (Try.prog.info? 2).map (fun i => (i.zero, i.size, i.bytes)) = some (some (.int .i64 0), 1, 8) := by kernel_rfl
theorem cl_empty (w : World) (t : TypeId) : (w.alloc (.cells #[] t)).ownsRow w.heap.size t 1 (.slice (some ⟨w.heap.size, 0, none⟩) 0 0) 0 [] :=
  ⟨by simp, .inr ⟨w.heap.size, 0, #[], rfl, Nat.le_refl _, heap_alloc_new _ _, Nat.le_refl _, by unfold maxLen; omega, by simp, by simp⟩⟩

theorem cl_cells {w : World} {b o : Nat} {xs : List Int} {obj : Obj} (hc : ∀ i, i < xs.length → w.cell? ⟨b, o + i, none⟩ = some (.int .i64 (xs.getD i 0))) (hb : b < w.heap.size) : ∀ j u, (ints xs)[j]? = some u → (w.alloc obj).cell? ((⟨b, o, none⟩ : Addr).add j) = some u := by
  intro j u hj
  have hl : j < xs.length := by
    have := (List.getElem?_eq_some_iff.1 hj).1
    rw [ints_length] at this
    exact this
  have e : (⟨b, o, none⟩ : Addr).add j = ⟨b, o + j, none⟩ := by
    unfold Addr.add
    by_cases h : j = 0
    · subst h; simp
    · simp [h]
  rw [e, World.cell?_alloc_lt w _ _ hb, hc j hl, ← hj]
  simp [ints, hl]
end Go.Proofs.Ytbhlcfcmjildmaa
namespace Go.Proofs.Ytbhlcfcmjildmaa
open Go Go.RowKit
set_option maxHeartbeats 400000

theorem isTable_any (A : Option Addr) (n c : Nat) (rows : List (List Int)) (r : Bool) (w : World) (hn : rows.length = n) (hb : n ≤ 9223372036854775807) (hbs : ∀ i, i < rows.length → (rows.getD i []).length ≤ 9223372036854775807) (hr : Rd2 w A rows) (hrr : r = true ↔ Tbl rows) :
    Calls Try.prog 83 #[.slice A n c] w fun e w' => e = .returned (.bool r) ∧ Quiet w w' := by
  have HN := hide hn
  have HR := hide hrr
  clear hn hrr
  by_cases h12 : 1 ≤ n ∧ n ≤ 12
  · obtain ⟨h1, h2⟩ := h12
    have hno : ¬ Tbl rows → r = false := fun h => by
      cases r
      · rfl
      · exact absurd (HR.out.1 rfl) h
    have HNO := hide hno
    clear hno
    go_enter Try.func83, Try.ntmps83
    go_wp2_with fail
    go_loopw [16] (fun i wr => ∃ k : Nat, k ≤ n ∧ i = .int .i64 k ∧ Quiet w wr ∧ ∀ i, i < k → RowOk n (rows.getD i [])) (fun i _ => n - (intOf i).toNat)
    case atStart => exact ⟨0, Nat.zero_le _, rfl, Quiet.refl _, fun i hi => absurd hi (Nat.not_lt_zero _)⟩
    case round =>
      obtain ⟨k, hk, rfl, hq, hall⟩ := hrel
      have HQ := hide hq
      have HALL := hide hall
      clear hq hall
      by_cases hlt : k < n
      · obtain ⟨b, o, rfl, _, hc⟩ := HQ.out.rd2 hr (by have := HN.out; omega)
        obtain ⟨Ak, ck, hcell, hrd⟩ := hc k (by have := HN.out; omega)
        have hbk := hbs k (by have := HN.out; omega)
        obtain ⟨x, hx⟩ : ∃ x, x = rows.getD k [] := ⟨_, rfl⟩
        obtain ⟨m, hm⟩ : ∃ m, x.length = m := ⟨_, rfl⟩
        rw [← hx] at hcell hrd hbk
        rw [hm] at hcell hbk
        have HX := hide hx
        have HM := hide hm
        clear hx hm hc hbs
        have hltz : (k : Int) < n := by omega
        by_cases hmn : m = n
        · subst hmn
          have hmm : ((m : Int) != (m : Int)) = false := by simp
          obtain ⟨r2, hr2⟩ : ∃ r2 : Bool, r2 = true ↔ ∀ j, j < m → 0 ≤ x.getD j 0 ∧ x.getD j 0 < (m : Int) := ⟨decide _, decide_eq_true_iff⟩
          have HR2 := hide hr2
          have HRDx := hide hrd
          clear hr2 hrd
          go_wp2_with fail
          refine (els_any m _ m _ x r2 _ HM.out hbk (by first | exact HRDx.out | exact HRDx.out.later (Below.refl _ _).drew) HR2.out).mono ?_
          rintro e w2 ⟨rfl, hq2⟩
          have HQ2 : Hid (Quiet w w2) := hide (by first | exact HQ.out.trans hq2 | exact (HQ.out.drewN 1).trans hq2)
          clear hq2
          cases r2 with
          | false =>
            go_wp2_with fail
            go_ret
            have : r = false := HNO.out fun h => by
              have h := (h.2.2 k (by have := HN.out; omega)).2
              rw [HN.out, ← HX.out] at h
              exact absurd (HR2.out.2 h) (by simp)
            exact ⟨by subst this; rfl, HQ2.out⟩
          | true =>
            go_wp2_with fail
            go_roundw
            case rel =>
              refine ⟨k + 1, by omega, by go_num, HQ2.out, fun i hi => ?_⟩
              by_cases e : i = k
              · subst e; rw [← HX.out]; exact ⟨HM.out, HR2.out.1 (by simp)⟩
              · exact HALL.out i (by omega)
            case measure => simp [intOf]; omega
        · have hne : ((m : Int) != (n : Int)) = true := by simp; omega
          have HMN := hide hmn
          clear hmn
          go_wp2_with fail
          go_ret
          have : r = false := HNO.out fun h => HMN.out (by
            have h := (h.2.2 k (by have := HN.out; omega)).1
            rw [← HX.out, HM.out, HN.out] at h
            exact h)
          exact ⟨by subst this; rfl, by first | exact HQ.out | exact HQ.out.drewN _⟩
      · have hkn : k = n := by omega
        subst hkn
        go_wp2_with fail
        go_ret
        have : r = true := HR.out.2 ⟨by have := HN.out; omega, by have := HN.out; omega, fun i hi => by
          have h := HALL.out i (by have := HN.out; omega)
          rw [HN.out]
          exact h⟩
        exact ⟨by subst this; rfl, HQ.out⟩
  · have : r = false := by
      cases r
      · rfl
      · have := HR.out.1 rfl
        have h := HN.out
        unfold Tbl at this
        omega
    subst this
    by_cases h0 : 1 ≤ n
    · have h12' : 12 < n := by omega
      clear h12
      go_enter Try.func83, Try.ntmps83
      go_wp2_with fail
      go_ret
      exact ⟨rfl, Quiet.refl _⟩
    · have h12' : n < 1 := by omega
      clear h12
      go_enter Try.func83, Try.ntmps83
      go_wp2_with fail
      go_ret
      exact ⟨rfl, Quiet.refl _⟩
end Go.Proofs.Ytbhlcfcmjildmaa
namespace Go.Proofs.Ytbhlcfcmjildmaa
open Go Go.RowKit Go.ChangeShapes Go.WideShapes
open Go.ChangeMaps (setBlock heap_setBlock_same heap_setBlock_other notKey putKey)
open Go.WideElems (Fit rg rd rd_key rg_of rd_val)
open Classical
set_option maxRecDepth 100000
/-- Block b is a map with keys of the type K, of exactly n entries, whose values are V. -/
def MapN (K : TypeId) (w : World) (b n : Nat) (V : Value → Option Value) : Prop :=
  ∃ es clock, w.heap[b]? = some (.map es clock) ∧ Fit Try.prog K tokK es clock ∧ es.size = n ∧ ∀ key kl, keyOf Try.prog K key = some kl → (DataW.map ((es.toList.map (rg Try.prog K tokK)).foldr DataW.insert [])).atKey kl .nil = (match V key with | some v => .held v | none => .nil)
section
variable {K : TypeId} {w w' : World} {b n : Nat} {V V' : Value → Option Value}
theorem MapN.made (K : TypeId) (w : World) : MapN K (w.alloc (.map #[] 0)) w.heap.size 0 (fun _ => none) := by
  obtain ⟨D, ⟨es, clock, hb, F, hs, rfl⟩, hV⟩ := MapK.made K w
  have h2 : es.size = 0 := by omega
  exact ⟨es, clock, hb, F, h2, hV⟩
theorem MapN.lt (h : MapN K w b n V) : b < w.heap.size := by
  obtain ⟨es, clock, hb, _⟩ := h
  exact (Array.getElem?_eq_some_iff.1 hb).1
theorem MapN.of_block (h : MapN K w b n V) (e : w'.heap[b]? = w.heap[b]?) : MapN K w' b n V := by
  obtain ⟨es, clock, hb, r⟩ := h
  exact ⟨es, clock, e.trans hb, r⟩
theorem MapN.later (h : MapN K w b n V) (hb : Below w.heap.size w w') : MapN K w' b n V := h.of_block (hb.block b h.lt)
theorem MapN.raw (h : MapN K w b n V) : ∃ es clock, w.heap[b]? = some (.map es clock) ∧ es.size = n := by
  obtain ⟨es, clock, hb, _, hs, _⟩ := h
  exact ⟨es, clock, hb, hs⟩
theorem MapN.look2 {t e : TypeId} (hkd : Maps.Keyed Try.prog K) (h : MapN K w b n V) (ht : Try.prog.underlying t = some (.map K e)) {z : Value} (hz : (zeroValue e).run Try.prog w = .ok z w) {key : Value} {kl : Lit} (hkey : keyOf Try.prog K key = some kl) :
    (Instr.lookup t (.map (some b)) key true).run Try.prog w = .ok (.tuple #[(V key).getD z, .bool (V key).isSome]) w := by
  obtain ⟨es, clock, hb, F, hs, hV⟩ := h
  have hk := hV key kl hkey
  rcases Maps.fit_look true hkd ht hz hb F hkey with ⟨hrun, _, hat⟩ | ⟨e0, y, _, _, hrun, hR, hat, _⟩
  · rw [hat] at hk
    cases e : V key with
    | none => simpa using hrun
    | some v => rw [e] at hk; cases hk
  · rw [hat] at hk
    have hy : y = (.held e0.val, []) := by unfold tokK at hR; injection hR with hR; exact hR.symm
    subst hy
    cases e : V key with
    | none => rw [e] at hk; cases hk
    | some v =>
      rw [e] at hk
      injection hk with hk
      rw [← hk]
      simpa using hrun
theorem MapN.look1 {t e : TypeId} (hkd : Maps.Keyed Try.prog K) (h : MapN K w b n V) (ht : Try.prog.underlying t = some (.map K e)) {z : Value} (hz : (zeroValue e).run Try.prog w = .ok z w) {key : Value} {kl : Lit} (hkey : keyOf Try.prog K key = some kl) :
    (Instr.lookup t (.map (some b)) key false).run Try.prog w = .ok ((V key).getD z) w := by
  obtain ⟨es, clock, hb, F, hs, hV⟩ := h
  exact MapK.look hkd ⟨_, ⟨es, clock, hb, F, Nat.le_refl _, rfl⟩, hV⟩ ht hz hkey
/-- A key that is not there yet. -/
theorem MapN.add {t e : TypeId} (hkd : Maps.Keyed Try.prog K) (h : MapN K w b n V) (ht : Try.prog.underlying t = some (.map K e)) {z : Value} (hz : (zeroValue e).run Try.prog w = .ok z w) (hn : n < maxLen) {key : Value} {kl : Lit} (hkey : keyOf Try.prog K key = some kl) (hno : V key = none) (val : Value) :
    ∃ w', (Instr.mapUpdate t (.map (some b)) key val).run Try.prog w = .ok () w' ∧ MapN K w' b (n + 1) (fun k => if k = key then some val else V k) ∧ w.grownBy w' (some b) := by
  obtain ⟨es, clock, hb, F, hs, hV⟩ := h
  have hk := hV key kl hkey
  rw [hno] at hk
  have hmiss : ∀ x ∈ es.toList, x.key ≠ key := by
    rcases Maps.fit_look true hkd ht hz hb F hkey with ⟨_, h2, _⟩ | ⟨e0, y, _, _, _, hR, hat, _⟩
    · exact h2
    · exfalso
      rw [hat] at hk
      unfold tokK at hR
      injection hR with hR
      rw [← hR] at hk
      cases hk
  obtain ⟨es', clock', hrun, F', hput, _⟩ := Maps.fit_store (R' := tokK) hkd ht hb F (by omega) (fun _ _ _ _ hz => hz) hkey (show tokK val = some (.held val, []) from rfl)
  have hsz : es'.size = n + 1 := by
    have e1 : es'.size = ((es'.toList.map (rg Try.prog K tokK)).foldr DataW.insert []).length := by rw [Go.length_sorted]; simp
    have hfil : ((es.toList.map (rg Try.prog K tokK)).foldr DataW.insert []).filter (notKey kl) = (es.toList.map (rg Try.prog K tokK)).foldr DataW.insert [] := by
      refine List.filter_eq_self.2 fun p hp => ?_
      obtain ⟨x, hx, rfl⟩ := List.mem_map.1 ((sorted_perm _).mem_iff.1 hp)
      obtain ⟨y, hy⟩ := F.reads x hx
      rw [rg_of hy, Maps.notKey_iff (hkd.key hkey)]
      intro e2
      have h3 := rd_key hy
      rw [e2] at h3
      exact hmiss x hx (hkd.inj h3 hkey)
    rw [e1, hput]
    unfold putKey
    rw [Go.length_insert, hfil, Go.length_sorted]
    simp [hs]
  refine ⟨_, hrun, ⟨es', clock', heap_setBlock_same hb _, F', hsz, fun key' kl' hkey' => ?_⟩, ⟨rfl, rfl, rfl, by simp [setBlock], fun i _ hi => heap_setBlock_other hb _ (fun e => hi (by rw [e]))⟩⟩
  rw [hput]
  by_cases e : key' = key
  · subst e
    have e2 : kl' = kl := by rw [hkey] at hkey'; injection hkey' with hkey'; exact hkey'.symm
    subst e2
    have h9 := Maps.atKey_put_same (D := DataW.map ((es.toList.map (rg Try.prog K tokK)).foldr DataW.insert [])) ⟨_, rfl⟩ (hkd.key hkey) (.held val) .nil
    simp only [↓reduceIte]
    exact h9
  · have hne : kl' ≠ kl := fun e2 => e (hkd.inj hkey' (e2 ▸ hkey))
    have h9 := Maps.atKey_put_other (D := DataW.map ((es.toList.map (rg Try.prog K tokK)).foldr DataW.insert [])) hne (.held val) .nil
    simp only [if_neg e]
    rw [← hV key' kl' hkey']
    exact h9
end
end Go.Proofs.Ytbhlcfcmjildmaa
namespace Go.Proofs.Ytbhlcfcmjildmaa
open Go Go.RowKit

/-- The digit of an element, as a byte. -/
def dg (x : Int) : Int := if x < 10 then 48 + x else 87 + x
theorem dg_range (x : Int) (h0 : 0 ≤ x) (h1 : x < 12) : 48 ≤ dg x ∧ dg x < 123 := by unfold dg; split <;> omega
/-- The digits of a list. -/
def lineL (xs : List Int) : List Int := xs.map dg
theorem lineL_length (xs : List Int) : (lineL xs).length = xs.length := by simp [lineL]
def lineS (xs : List Int) : ByteArray := strOfNums (lineL xs)
theorem lineS_size (xs : List Int) : (lineS xs).size = xs.length := by unfold lineS; rw [strOfNums_size, lineL_length]
theorem lineS_snoc (xs : List Int) (x : Int) : lineS xs ++ lineS [x] = lineS (xs ++ [x]) := by
  unfold lineS strOfNums lineL
  apply ByteArray.ext
  simp
theorem lineS_nil : lineS [] = ⟨#[]⟩ := rfl

def PTextRes (p : List Int) (s : ByteArray) (code : Int) : Prop := (Prm p ∧ s = lineS p ∧ code = 0) ∨ (¬ Prm p ∧ s = ⟨#[]⟩ ∧ code = 1)
theorem PTextRes.ex (p : List Int) : ∃ s code, PTextRes p s code := by
  by_cases h : Prm p
  · exact ⟨_, _, .inl ⟨h, rfl, rfl⟩⟩
  · exact ⟨_, _, .inr ⟨h, rfl, rfl⟩⟩
theorem Prm.dig {p : List Int} (h : Prm p) : ∀ x ∈ p, 0 ≤ x ∧ x < 12 := fun x hx => by
  have h1 := h.2.2.1 x hx
  have h2 := h.2.1
  omega
end Go.Proofs.Ytbhlcfcmjildmaa
namespace Go.Proofs.Ytbhlcfcmjildmaa
open Go Go.RowKit
set_option maxHeartbeats 400000

theorem l01Perm_any (A : Option Addr) (n c : Nat) (xs : List Int) (r : Bool) (w : World) (hn : xs.length = n) (hb : n ≤ 9223372036854775807) (hr : Rd w A xs) (hrr : r = true ↔ 1 ≤ n ∧ n ≤ 12 ∧ ∀ x : Int, 0 ≤ x → x < (n : Int) → x ∈ xs) :
    Calls Try.prog 79 #[.slice A n c] w fun e w' => e = .returned (.bool r) ∧ Quiet w w' := by
  have HN := hide hn
  have HR := hide hrr
  clear hn hrr
  by_cases h12 : 1 ≤ n ∧ n ≤ 12
  · obtain ⟨h1, h2⟩ := h12
    go_enter Try.func79, Try.ntmps79
    go_wp2_with (go_at_call 42; refine (in_any _ _ _ true _ (by simp; omega)).mono ?_; rintro e w1 ⟨rfl, hq1⟩)
    have HQ1 := hide hq1
    clear hq1
    go_loopw [4] (fun i wr => ∃ k : Nat, k ≤ n ∧ i = .int .i64 k ∧ Quiet w wr ∧ ∀ x : Int, 0 ≤ x → x < (k : Int) → x ∈ xs) (fun i _ => n - (intOf i).toNat)
    case atStart => exact ⟨0, Nat.zero_le _, rfl, HQ1.out, fun x h0 h1 => by omega⟩
    case round =>
      obtain ⟨k, hk, rfl, hq, hall⟩ := hrel
      have HQ := hide hq
      have HALL := hide hall
      clear hq hall
      by_cases hlt : k < n
      · have hltz : (k : Int) < n := by omega
        by_cases hm : (k : Int) ∈ xs
        · have HM := hide hm
          clear hm
          go_wp2_with (go_at_call 32; refine (has_any _ _ _ xs _ true _ HN.out hb (HQ.out.rd hr) (by simp [HM.out])).mono ?_; rintro e w2 ⟨rfl, hq2⟩)
          have HQ2 := hide hq2
          clear hq2
          go_roundw
          case rel =>
            refine ⟨k + 1, by omega, by go_num, HQ.out.trans HQ2.out, fun x h0 h1 => ?_⟩
            by_cases e : x = (k : Int)
            · subst e; exact HM.out
            · exact HALL.out x h0 (by omega)
          case measure => simp [intOf]; omega
        · have HM := hide hm
          clear hm
          go_wp2_with (go_at_call 32; refine (has_any _ _ _ xs _ false _ HN.out hb (HQ.out.rd hr) (by simp [HM.out])).mono ?_; rintro e w2 ⟨rfl, hq2⟩)
          go_ret
          have : r = false := by
            cases r
            · rfl
            · exact absurd ((HR.out.1 rfl).2.2 k (by omega) (by omega)) HM.out
          exact ⟨by subst this; rfl, HQ.out.trans hq2⟩
      · have hkn : k = n := by omega
        subst hkn
        go_wp2_with fail
        go_ret
        have : r = true := HR.out.2 ⟨h1, h2, HALL.out⟩
        exact ⟨by subst this; rfl, HQ.out⟩
  · have : r = false := by
      cases r
      · rfl
      · have := HR.out.1 rfl
        omega
    subst this
    go_enter Try.func79, Try.ntmps79
    go_wp2_with (go_at_call 42; refine (in_any _ _ _ false _ (by simp; omega)).mono ?_; rintro e w1 ⟨rfl, hq1⟩)
    go_ret
    exact ⟨rfl, hq1⟩

theorem prmS_any (A : Option Addr) (n c : Nat) (xs : List Int) (r : Bool) (w : World) (hn : xs.length = n) (hb : n ≤ 9223372036854775807) (hr : Rd w A xs) (hrr : r = true ↔ Prm xs) :
    Calls Try.prog 79 #[.slice A n c] w fun e w' => e = .returned (.bool r) ∧ Quiet w w' :=
  l01Perm_any A n c xs r w hn hb hr (by rw [hrr, prm_iff, hn])
theorem prmS_below (A : Option Addr) (n c : Nat) (xs : List Int) (r : Bool) (w : World) (hn : xs.length = n) (hb : n ≤ 9223372036854775807) (hr : Rd w A xs) (hrr : r = true ↔ Prm xs) :
    Calls Try.prog 79 #[.slice A n c] w fun e w' => e = .returned (.bool r) ∧ Below w.heap.size w w' :=
  (prmS_any A n c xs r w hn hb hr hrr).mono fun _ _ ⟨he, hq⟩ => ⟨he, hq.below _⟩
end Go.Proofs.Ytbhlcfcmjildmaa
namespace Go.Proofs.Ytbhlcfcmjildmaa
open Go Go.RowKit
set_option maxHeartbeats 1000000

theorem oaInfo : (Try.prog.info? 2).map (fun i => (i.zero, i.size, i.bytes)) = some (some (.int .i64 0), 1, 8) := by kernel_rfl
theorem oa_empty (w : World) (t : TypeId) : (w.alloc (.cells #[] t)).ownsRow w.heap.size t 1 (.slice (some ⟨w.heap.size, 0, none⟩) 0 0) 0 [] :=
  ⟨by simp, .inr ⟨w.heap.size, 0, #[], rfl, Nat.le_refl _, heap_alloc_new _ _, Nat.le_refl _, by unfold maxLen; omega, by simp, by simp⟩⟩

theorem oa_cells {w : World} {b o : Nat} {xs : List Int} {obj : Obj} (hc : ∀ i, i < xs.length → w.cell? ⟨b, o + i, none⟩ = some (.int .i64 (xs.getD i 0))) (hb : b < w.heap.size) : ∀ j u, (ints xs)[j]? = some u → (w.alloc obj).cell? ((⟨b, o, none⟩ : Addr).add j) = some u := by
  intro j u hj
  have hl : j < xs.length := by
    have := (List.getElem?_eq_some_iff.1 hj).1
    rw [ints_length] at this
    exact this
  have e : (⟨b, o, none⟩ : Addr).add j = ⟨b, o + j, none⟩ := by
    unfold Addr.add
    by_cases h : j = 0
    · subst h; simp
    · simp [h]
  rw [e, World.cell?_alloc_lt w _ _ hb, hc j hl, ← hj]
  simp [ints, hl]

theorem ownA_any (b o : Nat) (n c : Nat) (xs : List Int) (w : World) (hn : xs.length = n) (hbn : n ≤ 1048576) (hb : b < w.heap.size) (hc : ∀ i, i < xs.length → w.cell? ⟨b, o + i, none⟩ = some (.int .i64 (xs.getD i 0))) :
    Calls Try.prog 58 #[.slice (some ⟨b, o, none⟩) n c] w fun e w' => ∃ v, e = .returned v ∧ Below w.heap.size w w' ∧ w'.ownsRow w.heap.size 2 1 v n (ints xs) := by
  have HN := hide hn
  have hcc := oa_cells (obj := .cells #[] 2) hc hb
  have HC := hide hcc
  clear hn hc hcc
  obtain ⟨i0, hi, hz0, hz1, hz2⟩ := info_parts oaInfo
  go_enter Try.func58, Try.ntmps58
  go_wp2_with (at_builtin; refine wpList_append_own _ rfl _ _ 26 rfl w.heap.size 2 i0 (.int .i64 0) 1 8 Try.underlying26 hi hz0 hz1 hz2 rfl (by decide) _ _ _ rfl (oa_empty w 2) ⟨b, o, none⟩ n c (ints xs) rfl ?c1 HC.out ?c2 ?c3 ?c4 ?c5 ?_)
  case c1 => rw [ints_length]; have := HN.out; omega
  case c2 => intro u hu; simp [ints] at hu; obtain ⟨_, _, rfl⟩ := hu; rfl
  case c3 => unfold maxLen; omega
  case c4 => omega
  case c5 => simp
  intro v' w1 hown' hgrow _
  have HO' := hide hown'
  have HG := hide hgrow
  clear hown' hgrow
  go_wp2_with fail
  go_ret
  have h := HO'.out
  have hB : Below w.heap.size w w1 := ((Below.refl _ _).alloc (Nat.le_refl _) _).grown HG.out (by simp) (fun g hg => ((oa_empty w 2).lt g hg).1)
  exact ⟨v', rfl, hB, h⟩
end Go.Proofs.Ytbhlcfcmjildmaa
namespace Go.Proofs.Ytbhlcfcmjildmaa
open Go Go.RowKit

/-- Two tables in memory of their own, the first one's blocks ahead of the second one's. -/
def ObjZ (ts t : TypeId) (lo hi : Nat) (w : World) (A : Option Addr) (f : List (List Int)) (B : Option Addr) (s : List (List Int)) : Prop :=
  ∃ mid, lo ≤ mid ∧ mid ≤ hi ∧ Obj2 ts t lo mid w A f ∧ Obj2 ts t mid hi w B s
/-- Two tables whose blocks lie from lo to hi. -/
def ObjW (ts t : TypeId) (lo hi : Nat) (w : World) (A : Option Addr) (f : List (List Int)) (B : Option Addr) (s : List (List Int)) : Prop :=
  Obj2 ts t lo hi w A f ∧ Obj2 ts t lo hi w B s

section
variable {ts t : TypeId} {w w' : World} {lo hi : Nat} {A B : Option Addr} {f s : List (List Int)}

theorem ObjZ.weak (h : ObjZ ts t lo hi w A f B s) : ObjW ts t lo hi w A f B s := by
  obtain ⟨mid, h1, h2, h3, h4⟩ := h
  exact ⟨h3.mono (Nat.le_refl _) h2, h4.mono h1 (Nat.le_refl _)⟩
theorem ObjZ.fst (h : ObjZ ts t lo hi w A f B s) : Rd2 w A f := h.weak.1.rd
theorem ObjZ.snd (h : ObjZ ts t lo hi w A f B s) : Rd2 w B s := h.weak.2.rd
theorem ObjW.fst (h : ObjW ts t lo hi w A f B s) : Rd2 w A f := h.1.rd
theorem ObjW.snd (h : ObjW ts t lo hi w A f B s) : Rd2 w B s := h.2.rd
theorem ObjZ.later (h : ObjZ ts t lo hi w A f B s) (hb : Below w.heap.size w w') : ObjZ ts t lo hi w' A f B s := by
  obtain ⟨mid, h1, h2, h3, h4⟩ := h
  exact ⟨mid, h1, h2, h3.later hb, h4.later hb⟩
theorem ObjW.later (h : ObjW ts t lo hi w A f B s) (hb : Below w.heap.size w w') : ObjW ts t lo hi w' A f B s := ⟨h.1.later hb, h.2.later hb⟩
theorem ObjZ.far {lo2 hi2 : Nat} (h : ObjZ ts t lo hi w A f B s) (ht : Touch lo2 hi2 w w') (hd : hi ≤ lo2 ∨ hi2 ≤ lo) : ObjZ ts t lo hi w' A f B s := by
  obtain ⟨mid, h1, h2, h3, h4⟩ := h
  exact ⟨mid, h1, h2, h3.far ht (by omega), h4.far ht (by omega)⟩
theorem ObjW.far {lo2 hi2 : Nat} (h : ObjW ts t lo hi w A f B s) (ht : Touch lo2 hi2 w w') (hd : hi ≤ lo2 ∨ hi2 ≤ lo) : ObjW ts t lo hi w' A f B s := ⟨h.1.far ht hd, h.2.far ht hd⟩
theorem ObjZ.mono {lo' hi' : Nat} (h : ObjZ ts t lo hi w A f B s) (h1 : lo' ≤ lo) (h2 : hi ≤ hi') : ObjZ ts t lo' hi' w A f B s := by
  obtain ⟨mid, k1, k2, h3, h4⟩ := h
  exact ⟨mid, by omega, by omega, h3.mono h1 (Nat.le_refl _), h4.mono (Nat.le_refl _) h2⟩
theorem ObjW.mono {lo' hi' : Nat} (h : ObjW ts t lo hi w A f B s) (h1 : lo' ≤ lo) (h2 : hi ≤ hi') : ObjW ts t lo' hi' w A f B s := ⟨h.1.mono h1 h2, h.2.mono h1 h2⟩
theorem ObjZ.empty (h : lo ≤ hi) : ObjZ ts t lo hi w none [] none [] := ⟨lo, Nat.le_refl _, h, .inl ⟨rfl, rfl⟩, .inl ⟨rfl, rfl⟩⟩
theorem ObjW.empty : ObjW ts t lo hi w none [] none [] := ⟨.inl ⟨rfl, rfl⟩, .inl ⟨rfl, rfl⟩⟩

theorem Touch.wide {lo2 hi2 : Nat} (h : Touch lo2 hi2 w w') (h1 : lo ≤ lo2) (h2 : hi2 ≤ hi) : Touch lo hi w w' :=
  ⟨h.os, h.tape, h.output, h.size, fun k hk hne => h.block k hk (by omega)⟩
theorem Touch.of_below (h : Below w.heap.size w w') : Touch lo hi w w' :=
  ⟨h.os, h.tape, h.output, h.size, fun k hk _ => h.block k hk⟩
end

/-- A pair of tables and a code, in new memory. -/
def ZPost (ts t : TypeId) (n m : Nat) (f s : List (List Int)) (code : Int) (w : World) (e : Ending) (w' : World) : Prop :=
  ∃ A c B d, e = .returned (.tuple #[.agg #[.slice A n c, .slice B m d], .int .i64 code]) ∧ Below w.heap.size w w' ∧ ObjZ ts t w.heap.size w'.heap.size w' A f B s
def WPost (ts t : TypeId) (n m : Nat) (f s : List (List Int)) (code : Int) (w : World) (e : Ending) (w' : World) : Prop :=
  ∃ A c B d, e = .returned (.tuple #[.agg #[.slice A n c, .slice B m d], .int .i64 code]) ∧ Below w.heap.size w w' ∧ ObjW ts t w.heap.size w'.heap.size w' A f B s
end Go.Proofs.Ytbhlcfcmjildmaa
