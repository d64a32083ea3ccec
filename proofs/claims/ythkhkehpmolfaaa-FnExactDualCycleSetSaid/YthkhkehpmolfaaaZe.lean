import Derived.Test.YthkhkehpmolfaaaZc
namespace Go.Proofs.Ythkhkehpmolfaaa
open Go Go.RowKit
set_option maxHeartbeats 400000

theorem info24 : (Try.prog.info? 31).map (fun i => (i.zero, i.size, i.bytes)) = some (some (.slice none 0 0), 1, 24) := by kernel_rfl

def cpTop (N k : Nat) (rows : List (List Int)) : Nat → Value := fun i => if i < k then .slice (some ⟨N + 1 + i, 0, none⟩) (rows.getD i []).length (rows.getD i []).length else .slice none 0 0

structure CpRel (w wr : World) (n k : Nat) (rows : List (List Int)) : Prop where
  below : Below w.heap.size w wr
  size : wr.heap.size = w.heap.size + 1 + k
  top : wr.rowIs w.heap.size 31 n (cpTop w.heap.size k rows)
  row : ∀ i, i < k → Row 2 wr (w.heap.size + 1 + i) (rows.getD i [])

theorem CpRel.start (w : World) (n : Nat) (rows : List (List Int)) : CpRel w (w.alloc (.cells (madeCells #[.slice none 0 0] n) 31)) n 0 rows :=
  ⟨(Below.refl _ _).alloc (Nat.le_refl _) _, by simp, (World.rowIs_made w _ n 31).congr (fun j _ => by simp [cpTop]), fun i hi => absurd hi (Nat.not_lt_zero _)⟩

theorem CpRel.step {w wr w2 : World} {n k m : Nat} {rows : List (List Int)} {r : List Int} (h : CpRel w wr n k rows) (hr : r = rows.getD k []) (hm : r.length = m) (hb : Below wr.heap.size wr w2) (hrow : Row 2 w2 wr.heap.size r) (hs : w2.heap.size = wr.heap.size + 1) :
    CpRel w (w2.setCell ⟨w.heap.size, k, none⟩ (.slice (some ⟨wr.heap.size, 0, none⟩) m m)) n (k + 1) rows := by
  have hsz := h.size
  refine ⟨(h.below.trans (hb.mono (by omega))).setCell (Nat.le_refl _) _, by simp [World.setCell]; omega, ?_, fun i hi => ?_⟩
  · refine ((h.top.of_block (hb.block _ (by omega))).set k _).congr (fun j hj => ?_)
    simp only [cpTop]
    by_cases e : j = k
    · subst e
      rw [if_pos rfl, if_pos (by omega), hsz, ← hr, hm]
    · rw [if_neg e]
      by_cases hlt : j < k
      · rw [if_pos hlt, if_pos (by omega)]
      · rw [if_neg hlt, if_neg (by omega)]
  · by_cases e : i = k
    · subst e
      rw [← hr, ← hsz]
      exact hrow.far (by show wr.heap.size ≠ w.heap.size; omega) _
    · exact ((h.row i (by omega)).later hb (by omega)).far (by show w.heap.size + 1 + i ≠ w.heap.size; omega) _

theorem toInt64SS_any (A : Option Addr) (n c : Nat) (rows : List (List Int)) (w : World) (hn : rows.length = n) (hb : n ≤ 1048576) (hbs : ∀ i, i < rows.length → (rows.getD i []).length ≤ 1048576) (hr : Rd2 w A rows) :
    Calls Try.prog 49 #[.slice A n c] w fun e w' => e = .returned (.slice (some ⟨w.heap.size, 0, none⟩) n n) ∧ Below w.heap.size w w' ∧ Tab 31 2 w' w.heap.size (fun i => w.heap.size + 1 + i) rows ∧ w'.heap.size = w.heap.size + 1 + n := by
  have hmk := run_make_row' (P := Try.prog) 22 31 (.slice none 0 0) 24 Try.underlying22 info24 rfl .i64 .i64 n (by omega) (by omega)
  have HN := hide hn
  clear hn
  go_enter Try.func49, Try.ntmps49
  go_wp2_with fail
  clear hmk
  go_loopw [4] (fun i wr => ∃ k : Nat, k ≤ n ∧ i = .int .i64 k ∧ CpRel w wr n k rows) (fun i _ => n - (intOf i).toNat)
  case atStart => exact ⟨0, Nat.zero_le _, rfl, CpRel.start w n rows⟩
  case round =>
    obtain ⟨k, hk, rfl, hrel⟩ := hrel
    by_cases hlt : k < n
    · obtain ⟨b, o, rfl, hbw, hc⟩ := hr (by have := HN.out; omega)
      obtain ⟨Ak, ck, hcell, hrd⟩ := hc k (by have := HN.out; omega)
      have hbk := hbs k (by have := HN.out; omega)
      obtain ⟨r, hr⟩ : ∃ r, r = rows.getD k [] := ⟨_, rfl⟩
      obtain ⟨m, hm⟩ : ∃ m, r.length = m := ⟨_, rfl⟩
      rw [← hr] at hcell hbk hrd
      rw [hm] at hcell hbk
      have hcell' : wr.cell? ⟨b, o + k, none⟩ = some (.slice Ak m ck) := (hrel.below.cell (p := ⟨b, o + k, none⟩) hbw).trans hcell
      have hrd' : Rd wr Ak r := hrd.later hrel.below
      have HM := hide hm
      have HR := hide hr
      have HREL := hide hrel
      have hf := hrel.top.frozen k
      have hltz : (k : Int) < n := by omega
      clear hm hr hc hbs hrel hcell hrd
      go_wp2_with (go_at_call 88; refine (toInt64S_any _ _ _ _ _ HM.out (by omega) hrd').mono ?_; rintro e w2 ⟨rfl, hb2, hrow2, hs2⟩; have HS2 := hide hs2; clear hs2; have hc2 : w2.cell? ⟨w.heap.size, k, none⟩ = some (cpTop w.heap.size k rows k) := ((hb2.cell (p := ⟨w.heap.size, k, none⟩) (by have := HREL.out.size; show w.heap.size < wr.heap.size; omega))).trans (HREL.out.top.cell hlt); have hf2 : w2.frozen? ⟨w.heap.size, k, none⟩ = false := ((hb2.frozen (p := ⟨w.heap.size, k, none⟩) (by have := HREL.out.size; show w.heap.size < wr.heap.size; omega))).trans (HREL.out.top.frozen k))
      go_roundw
      case rel => exact ⟨k + 1, by omega, by go_num, HREL.out.step HR.out HM.out hb2 hrow2 HS2.out⟩
      case measure => simp [intOf]; omega
    · have hkn : k = n := by omega
      subst hkn
      have HREL := hide hrel
      clear hrel
      go_wp2
      go_ret
      have h := HREL.out
      refine ⟨rfl, h.below, ⟨?_, fun i hi => h.row i (by have := HN.out; omega)⟩, h.size⟩
      rw [HN.out]
      exact h.top.congr (fun j hj => by simp [cpTop, hj])
end Go.Proofs.Ythkhkehpmolfaaa
namespace Go.Proofs.Ythkhkehpmolfaaa
open Go Go.RowKit
set_option maxHeartbeats 400000
/-- What the size check says. -/
def Szd (L : Int) (rows : List (List Int)) (r : Int) : Prop := r = -1 ∨ (0 ≤ r ∧ r ≤ L ∧ rows.length ≤ L ∧ ∀ i, i < rows.length → (rows.getD i []).length ≤ L)
def SzPost (L : Int) (rows : List (List Int)) (w : World) (e : Ending) (w' : World) : Prop := ∃ r, Szd L rows r ∧ e = .returned (.int .i64 r) ∧ w = w'

theorem szz_any (A : Option Addr) (n c : Nat) (rows : List (List Int)) (L : Int) (w : World) (hn : rows.length = n) (hb : n ≤ 9223372036854775807) (hbs : ∀ i, i < rows.length → (rows.getD i []).length ≤ 9223372036854775807) (h0 : 0 ≤ L) (h1 : L ≤ 1048576) (hr : Rd2 w A rows) :
    Calls Try.prog 47 #[.slice A n c, .int .i64 L] w (SzPost L rows w) := by
  have HN := hide hn
  clear hn
  by_cases hL : L < n
  · go_enter Try.func47, Try.ntmps47
    go_wp2
    go_ret
    exact ⟨-1, .inl rfl, rfl, rfl⟩
  · go_enter Try.func47, Try.ntmps47
    go_wp2_with fail
    go_loop [1, 5] (fun s i => ∃ (k : Nat) (l : Int), k ≤ n ∧ i = .int .i64 k ∧ s = .int .i64 l ∧ 0 ≤ l ∧ l ≤ L ∧ ∀ i, i < k → (rows.getD i []).length ≤ L) (fun _ i => n - (intOf i).toNat)
    case atStart => exact ⟨0, L - n, Nat.zero_le _, rfl, rfl, by omega, by omega, fun i hi => absurd hi (Nat.not_lt_zero _)⟩
    case round =>
      obtain ⟨k, l, hk, rfl, rfl, hl0, hlL, hall⟩ := hrel
      have HALL := hide hall
      clear hall
      by_cases hlt : k < n
      · obtain ⟨b, o, rfl, hbw, hc⟩ := hr (by have := HN.out; omega)
        obtain ⟨Ak, ck, hcell, _⟩ := hc k (by have := HN.out; omega)
        have hbk := hbs k (by have := HN.out; omega)
        obtain ⟨m, hm⟩ : ∃ m, m = (rows.getD k []).length := ⟨_, rfl⟩
        rw [← hm] at hcell hbk
        have HM := hide hm
        clear hm hc hbs
        by_cases hlm : l < m
        · go_wp2_with (go_at_call 85; refine (sz_no _ _ _ _ _ (by omega) (by omega) (by omega) (by omega)).mono ?_; rintro e w' ⟨rfl, rfl⟩)
          go_ret
          exact ⟨-1, .inl rfl, rfl, rfl⟩
        · go_wp2_with (go_at_call 85; refine (sz_yes _ _ _ _ _ (by omega) (by omega) (by omega) (by omega)).mono ?_; rintro e w' ⟨rfl, rfl⟩)
          go_round
          case rel =>
            refine ⟨k + 1, l - m, by omega, by go_num, rfl, by omega, by omega, fun i hi => ?_⟩
            by_cases e : i = k
            · subst e; rw [← HM.out]; omega
            · exact HALL.out i (by omega)
          case measure => simp [intOf]; omega
      · have hkn : k = n := by omega
        subst hkn
        go_wp2
        go_ret
        exact ⟨l, .inr ⟨hl0, hlL, by have := HN.out; omega, fun i hi => HALL.out i (by have := HN.out; omega)⟩, rfl, rfl⟩
end Go.Proofs.Ythkhkehpmolfaaa
