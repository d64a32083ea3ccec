import Derived.Test.YtkagfjofjbpfeaaZc
import Derived.Test.YtkagfjofjbpfeaaProg
import Derived.Test.YtkagfjofjbpfeaaZa
namespace Go.Proofs.Ytkagfjofjbpfeaa
open Go Go.RowKit
set_option maxHeartbeats 400000
/-- What the size check says. -/
def Szd (L : Int) (rows : List (List Int)) (r : Int) : Prop := r = -1 ∨ (0 ≤ r ∧ r ≤ L ∧ rows.length ≤ L ∧ ∀ i, i < rows.length → (rows.getD i []).length ≤ L)
def SzPost (L : Int) (rows : List (List Int)) (w : World) (e : Ending) (w' : World) : Prop := ∃ r, Szd L rows r ∧ e = .returned (.int .i64 r) ∧ w = w'

theorem szz_any (A : Option Addr) (n c : Nat) (rows : List (List Int)) (L : Int) (w : World) (hn : rows.length = n) (hb : n ≤ 9223372036854775807) (hbs : ∀ i, i < rows.length → (rows.getD i []).length ≤ 9223372036854775807) (h0 : 0 ≤ L) (h1 : L ≤ 1048576) (hr : Rd2 w A rows) :
    Calls Try.prog 15 #[.slice A n c, .int .i64 L] w (SzPost L rows w) := by
  have HN := hide hn
  clear hn
  by_cases hL : L < n
  · go_enter Try.func15, Try.ntmps15
    go_wp2
    go_ret
    exact ⟨-1, .inl rfl, rfl, rfl⟩
  · go_enter Try.func15, Try.ntmps15
    go_wp2_with fail
    go_loop [1, 5] (fun s i => ∃ (k : Nat) (l : Int), k ≤ n ∧ i = .int .i64 k ∧ s = .int .i64 l ∧ 0 ≤ l ∧ l ≤ L ∧ ∀ i, i < k → (rows.getD i []).length ≤ L) (fun _ i => n - (intOf i).toNat)
    case atStart => exact ⟨0, L - n, Nat.zero_le _, rfl, rfl, by omega, by omega, fun i hi => absurd hi (Nat.not_lt_zero _)⟩
    case round =>
      obtain ⟨k, l, hk, rfl, rfl, hl0, hlL, hall⟩ := hrel
      have HALL := hide hall
      clear hall
      by_cases hlt : k < n
      · obtain ⟨b, o, rfl, hbw, hc⟩ := hr (by have := HN.out; omega)
        obtain ⟨Ak, ck, hcell, _⟩ := hc k (by have := HN.out; omega)
        have hbk := hbs k (by have := HN.out; omega)
        obtain ⟨m, hm⟩ : ∃ m, m = (rows.getD k []).length := ⟨_, rfl⟩
        rw [← hm] at hcell hbk
        have HM := hide hm
        clear hm hc hbs
        by_cases hlm : l < m
        · go_wp2_with (go_at_call 56; refine (sz_no _ _ _ _ _ (by omega) (by omega) (by omega) (by omega)).mono ?_; rintro e w' ⟨rfl, rfl⟩)
          go_ret
          exact ⟨-1, .inl rfl, rfl, rfl⟩
        · go_wp2_with (go_at_call 56; refine (sz_yes _ _ _ _ _ (by omega) (by omega) (by omega) (by omega)).mono ?_; rintro e w' ⟨rfl, rfl⟩)
          go_round
          case rel =>
            refine ⟨k + 1, l - m, by omega, by go_num, rfl, by omega, by omega, fun i hi => ?_⟩
            by_cases e : i = k
            · subst e; rw [← HM.out]; omega
            · exact HALL.out i (by omega)
          case measure => simp [intOf]; omega
      · have hkn : k = n := by omega
        subst hkn
        go_wp2
        go_ret
        exact ⟨l, .inr ⟨hl0, hlL, by have := HN.out; omega, fun i hi => HALL.out i (by have := HN.out; omega)⟩, rfl, rfl⟩
end Go.Proofs.Ytkagfjofjbpfeaa
namespace Go.Proofs.Ytkagfjofjbpfeaa
open Go Go.RowKit
set_option maxHeartbeats 400000

theorem info24 : (Try.prog.info? 31).map (fun i => (i.zero, i.size, i.bytes)) = some (some (.slice none 0 0), 1, 24) := by kernel_rfl

def cpTop (N k : Nat) (rows : List (List Int)) : Nat → Value := fun i => if i < k then .slice (some ⟨N + 1 + i, 0, none⟩) (rows.getD i []).length (rows.getD i []).length else .slice none 0 0

structure CpRel (w wr : World) (n k : Nat) (rows : List (List Int)) : Prop where
  below : Below w.heap.size w wr
  size : wr.heap.size = w.heap.size + 1 + k
  top : wr.rowIs w.heap.size 31 n (cpTop w.heap.size k rows)
  row : ∀ i, i < k → Row 2 wr (w.heap.size + 1 + i) (rows.getD i [])

theorem CpRel.start (w : World) (n : Nat) (rows : List (List Int)) : CpRel w (w.alloc (.cells (madeCells #[.slice none 0 0] n) 31)) n 0 rows :=
  ⟨(Below.refl _ _).alloc (Nat.le_refl _) _, by simp, (World.rowIs_made w _ n 31).congr (fun j _ => by simp [cpTop]), fun i hi => absurd hi (Nat.not_lt_zero _)⟩

theorem CpRel.step {w wr w2 : World} {n k m : Nat} {rows : List (List Int)} {r : List Int} (h : CpRel w wr n k rows) (hr : r = rows.getD k []) (hm : r.length = m) (hb : Below wr.heap.size wr w2) (hrow : Row 2 w2 wr.heap.size r) (hs : w2.heap.size = wr.heap.size + 1) :
    CpRel w (w2.setCell ⟨w.heap.size, k, none⟩ (.slice (some ⟨wr.heap.size, 0, none⟩) m m)) n (k + 1) rows := by
  have hsz := h.size
  refine ⟨(h.below.trans (hb.mono (by omega))).setCell (Nat.le_refl _) _, by simp [World.setCell]; omega, ?_, fun i hi => ?_⟩
  · refine ((h.top.of_block (hb.block _ (by omega))).set k _).congr (fun j hj => ?_)
    simp only [cpTop]
    by_cases e : j = k
    · subst e
      rw [if_pos rfl, if_pos (by omega), hsz, ← hr, hm]
    · rw [if_neg e]
      by_cases hlt : j < k
      · rw [if_pos hlt, if_pos (by omega)]
      · rw [if_neg hlt, if_neg (by omega)]
  · by_cases e : i = k
    · subst e
      rw [← hr, ← hsz]
      exact hrow.far (by show wr.heap.size ≠ w.heap.size; omega) _
    · exact ((h.row i (by omega)).later hb (by omega)).far (by show w.heap.size + 1 + i ≠ w.heap.size; omega) _

theorem toInt64SS_any (A : Option Addr) (n c : Nat) (rows : List (List Int)) (w : World) (hn : rows.length = n) (hb : n ≤ 1048576) (hbs : ∀ i, i < rows.length → (rows.getD i []).length ≤ 1048576) (hr : Rd2 w A rows) :
    Calls Try.prog 17 #[.slice A n c] w fun e w' => e = .returned (.slice (some ⟨w.heap.size, 0, none⟩) n n) ∧ Below w.heap.size w w' ∧ Tab 31 2 w' w.heap.size (fun i => w.heap.size + 1 + i) rows ∧ w'.heap.size = w.heap.size + 1 + n := by
  have hmk := run_make_row' (P := Try.prog) 22 31 (.slice none 0 0) 24 Try.underlying22 info24 rfl .i64 .i64 n (by omega) (by omega)
  have HN := hide hn
  clear hn
  go_enter Try.func17, Try.ntmps17
  go_wp2_with fail
  clear hmk
  go_loopw [4] (fun i wr => ∃ k : Nat, k ≤ n ∧ i = .int .i64 k ∧ CpRel w wr n k rows) (fun i _ => n - (intOf i).toNat)
  case atStart => exact ⟨0, Nat.zero_le _, rfl, CpRel.start w n rows⟩
  case round =>
    obtain ⟨k, hk, rfl, hrel⟩ := hrel
    by_cases hlt : k < n
    · obtain ⟨b, o, rfl, hbw, hc⟩ := hr (by have := HN.out; omega)
      obtain ⟨Ak, ck, hcell, hrd⟩ := hc k (by have := HN.out; omega)
      have hbk := hbs k (by have := HN.out; omega)
      obtain ⟨r, hr⟩ : ∃ r, r = rows.getD k [] := ⟨_, rfl⟩
      obtain ⟨m, hm⟩ : ∃ m, r.length = m := ⟨_, rfl⟩
      rw [← hr] at hcell hbk hrd
      rw [hm] at hcell hbk
      have hcell' : wr.cell? ⟨b, o + k, none⟩ = some (.slice Ak m ck) := (hrel.below.cell (p := ⟨b, o + k, none⟩) hbw).trans hcell
      have hrd' : Rd wr Ak r := hrd.later hrel.below
      have HM := hide hm
      have HR := hide hr
      have HREL := hide hrel
      have hf := hrel.top.frozen k
      have hltz : (k : Int) < n := by omega
      clear hm hr hc hbs hrel hcell hrd
      go_wp2_with (go_at_call 29; refine (toInt64S_any _ _ _ _ _ HM.out (by omega) hrd').mono ?_; rintro e w2 ⟨rfl, hb2, hrow2, hs2⟩; have HS2 := hide hs2; clear hs2; have hc2 : w2.cell? ⟨w.heap.size, k, none⟩ = some (cpTop w.heap.size k rows k) := ((hb2.cell (p := ⟨w.heap.size, k, none⟩) (by have := HREL.out.size; show w.heap.size < wr.heap.size; omega))).trans (HREL.out.top.cell hlt); have hf2 : w2.frozen? ⟨w.heap.size, k, none⟩ = false := ((hb2.frozen (p := ⟨w.heap.size, k, none⟩) (by have := HREL.out.size; show w.heap.size < wr.heap.size; omega))).trans (HREL.out.top.frozen k))
      go_roundw
      case rel => exact ⟨k + 1, by omega, by go_num, HREL.out.step HR.out HM.out hb2 hrow2 HS2.out⟩
      case measure => simp [intOf]; omega
    · have hkn : k = n := by omega
      subst hkn
      have HREL := hide hrel
      clear hrel
      go_wp2
      go_ret
      have h := HREL.out
      refine ⟨rfl, h.below, ⟨?_, fun i hi => h.row i (by have := HN.out; omega)⟩, h.size⟩
      rw [HN.out]
      exact h.top.congr (fun j hj => by simp [cpTop, hj])
end Go.Proofs.Ytkagfjofjbpfeaa
namespace Go.Proofs.Ytkagfjofjbpfeaa
open Go Go.RowKit
set_option maxHeartbeats 400000
theorem eqq_any (A B : Option Addr) (n c m d : Nat) (xs ys : List (List Int)) (r : Bool) (w : World) (hn : xs.length = n) (hm : ys.length = m) (hb : n ≤ 9223372036854775807) (hb2 : m ≤ 9223372036854775807) 
    (hbs : ∀ i, i < xs.length → (xs.getD i []).length ≤ 9223372036854775807) (hbt : ∀ i, i < ys.length → (ys.getD i []).length ≤ 9223372036854775807) (hx : Rd2 w A xs) (hy : Rd2 w B ys) (hr : r = true ↔ xs = ys) :
    Calls Try.prog 19 #[.slice A n c, .slice B m d] w fun e w' => e = .returned (.bool r) ∧ Quiet w w' := by
  have HN := hide hn
  have HM := hide hm
  have HR := hide hr
  clear hr
  by_cases hnm : n = m
  · subst hnm
    clear hn hm
    go_enter Try.func19, Try.ntmps19
    go_wp2_with fail
    go_loopw [5] (fun i wr => ∃ k : Nat, k ≤ n ∧ i = .int .i64 k ∧ Quiet w wr ∧ ∀ i, i < k → xs.getD i [] = ys.getD i []) (fun i _ => n - (intOf i).toNat)
    case atStart => exact ⟨0, Nat.zero_le _, rfl, Quiet.refl w, fun i hi => absurd hi (Nat.not_lt_zero _)⟩
    case round =>
      obtain ⟨k, hk, rfl, hq, hall⟩ := hrel
      have HQ := hide hq
      clear hq
      have HALL := hide hall
      clear hall
      by_cases hlt : k < n
      · obtain ⟨b, o, rfl, _, hc⟩ := HQ.out.rd2 hx (by have := HN.out; omega)
        obtain ⟨b2, o2, rfl, _, hc2⟩ := HQ.out.rd2 hy (by have := HM.out; omega)
        obtain ⟨A1, c1, h1, hr1⟩ := hc k (by have := HN.out; omega)
        obtain ⟨A2, c2, h2, hr2⟩ := hc2 k (by have := HM.out; omega)
        have hb1 := hbs k (by have := HN.out; omega)
        have hb2 := hbt k (by have := HM.out; omega)
        obtain ⟨x, hx⟩ : ∃ x, x = xs.getD k [] := ⟨_, rfl⟩
        obtain ⟨y, hy⟩ : ∃ y, y = ys.getD k [] := ⟨_, rfl⟩
        rw [← hx] at h1 hr1 hb1
        rw [← hy] at h2 hr2 hb2
        have HX := hide hx
        have HY := hide hy
        clear hx hy hc hc2 hbs hbt
        have hltz : (k : Int) < n := by omega
        by_cases hxy : x = y
        · have HXY := hide hxy
          clear hxy
          go_wp2_with fail
          go_quiet ((go_at_call 31; exact quiet_call (eq_any _ _ _ _ _ _ x y true _ rfl rfl hb1 hb2 hr1 hr2 (by simp [HXY.out]))))
          go_wp2_with fail
          go_roundw
          case rel =>
            refine ⟨k + 1, by omega, by go_num, HQ.out.drewN _, fun i hi => ?_⟩
            by_cases e : i = k
            · subst e; rw [← HX.out, ← HY.out]; exact HXY.out
            · exact HALL.out i (by omega)
          case measure => simp [intOf]; omega
        · have HNE := hide hxy
          clear hxy
          go_wp2_with fail
          go_quiet ((go_at_call 31; exact quiet_call (eq_any _ _ _ _ _ _ x y false _ rfl rfl hb1 hb2 hr1 hr2 (by simp [HNE.out]))))
          go_wp2_with fail
          go_ret
          have : r = false := by
            cases r
            · rfl
            · have e := HR.out.1 rfl
              subst e
              exact absurd (HX.out.trans HY.out.symm) HNE.out
          exact ⟨by subst this; rfl, by first | exact HQ.out | exact HQ.out.drewN _ | exact Quiet.refl _⟩
      · have hkn : k = n := by omega
        subst hkn
        go_wp2_with fail
        go_ret
        have this := HR.out.2 (eqRows xs ys (HN.out.trans HM.out.symm) (fun i hi => HALL.out i (by have := HN.out; omega)))
        exact ⟨by subst this; rfl, by first | exact HQ.out | exact HQ.out.drewN _ | exact Quiet.refl _⟩
  · have hne : ((n : Int) != (m : Int)) = true := by simp; omega
    have HNM := hide hnm
    clear hn hm hnm
    go_enter Try.func19, Try.ntmps19
    go_wp2_with fail
    go_ret
    have : r = false := by
      cases r
      · rfl
      · have e := HR.out.1 rfl
        subst e
        exact absurd (HN.out.symm.trans HM.out) HNM.out
    exact ⟨by subst this; rfl, by first | exact HQ.out | exact HQ.out.drewN _ | exact Quiet.refl _⟩
end Go.Proofs.Ytkagfjofjbpfeaa
namespace Go.Proofs.Ytkagfjofjbpfeaa
open Go Go.RowKit
set_option maxHeartbeats 400000

theorem l01Table_any (A : Option Addr) (n c : Nat) (rows : List (List Int)) (r : Bool) (w : World) (hn : rows.length = n) (hb : n ≤ 9223372036854775807) (hbs : ∀ i, i < rows.length → (rows.getD i []).length ≤ 9223372036854775807) (hr : Rd2 w A rows) (hrr : r = true ↔ Tbl rows) :
    Calls Try.prog 57 #[.slice A n c] w fun e w' => e = .returned (.bool r) ∧ Quiet w w' := by
  have HN := hide hn
  have HR := hide hrr
  clear hn hrr
  by_cases h12 : 1 ≤ n ∧ n ≤ 12
  · obtain ⟨h1, h2⟩ := h12
    have hno : ¬ Tbl rows → r = false := fun h => by
      cases r
      · rfl
      · exact absurd (HR.out.1 rfl) h
    have HNO := hide hno
    clear hno
    go_enter Try.func57, Try.ntmps57
    go_wp2_with (go_at_call 89; refine (in_any _ _ _ true _ (by simp; omega)).mono ?_; rintro e w1 ⟨rfl, hq1⟩)
    have HQ1 := hide hq1
    clear hq1
    go_loopw [4] (fun i wr => ∃ k : Nat, k ≤ n ∧ i = .int .i64 k ∧ Quiet w wr ∧ ∀ i, i < k → RowOk n (rows.getD i [])) (fun i _ => n - (intOf i).toNat)
    case atStart => exact ⟨0, Nat.zero_le _, rfl, HQ1.out, fun i hi => absurd hi (Nat.not_lt_zero _)⟩
    case round =>
      obtain ⟨k, hk, rfl, hq, hall⟩ := hrel
      have HQ := hide hq
      have HALL := hide hall
      clear hq hall
      by_cases hlt : k < n
      · obtain ⟨b, o, rfl, _, hc⟩ := HQ.out.rd2 hr (by have := HN.out; omega)
        obtain ⟨Ak, ck, hcell, hrd⟩ := hc k (by have := HN.out; omega)
        have hbk := hbs k (by have := HN.out; omega)
        obtain ⟨x, hx⟩ : ∃ x, x = rows.getD k [] := ⟨_, rfl⟩
        obtain ⟨m, hm⟩ : ∃ m, x.length = m := ⟨_, rfl⟩
        rw [← hx] at hcell hrd hbk
        rw [hm] at hcell hbk
        have HX := hide hx
        have HM := hide hm
        clear hx hm hc hbs
        have hltz : (k : Int) < n := by omega
        by_cases hmn : m = n
        · subst hmn
          go_wp2_with fail
          obtain ⟨wo, rfl⟩ : ∃ wo : World, wo = wr := ⟨_, rfl⟩
          go_loopw [5] (fun i wi => ∃ j : Nat, j ≤ m ∧ i = .int .i64 j ∧ Quiet wo wi ∧ ∀ i, i < j → 0 ≤ x.getD i 0 ∧ x.getD i 0 < (m : Int)) (fun i _ => m - (intOf i).toNat)
          case atStart => exact ⟨0, Nat.zero_le _, rfl, Quiet.refl _, fun i hi => absurd hi (Nat.not_lt_zero _)⟩
          case round =>
            obtain ⟨j, hj, rfl, hqi, hin⟩ := hrel
            have HIN := hide hin
            have HQI := hide hqi
            clear hin
            by_cases hjm : j < m
            · obtain ⟨b2, o2, rfl, _, hc2⟩ := hqi.rd hrd (by have := HM.out; omega)
              have hcell2 := (hqi.cell ⟨b, o + k, none⟩).trans hcell
              have hv := hc2 j (by have := HM.out; omega)
              obtain ⟨y, hy⟩ : ∃ y, y = x.getD j 0 := ⟨_, rfl⟩
              rw [← hy] at hv
              have HY := hide hy
              clear hy hc2 hqi hcell
              have hjz : (j : Int) < m := by omega
              by_cases hyr : 0 ≤ y ∧ y ≤ (m : Int) - 1
              · have HYR := hide hyr
                clear hyr
                go_wp2_with (go_at_call 89; refine (in_any _ _ _ true _ (by simp [HYR.out.1, HYR.out.2])).mono ?_; rintro e w1 ⟨rfl, hq1⟩)
                go_roundw
                case rel =>
                  refine ⟨j + 1, by omega, by go_num, HQI.out.trans hq1, fun i hi => ?_⟩
                  by_cases e : i = j
                  · subst e; rw [← HY.out]; have := HYR.out; exact ⟨this.1, by omega⟩
                  · exact HIN.out i (by omega)
                case measure => simp [intOf]; omega
              · have HYR := hide hyr
                clear hyr
                go_wp2_with (go_at_call 89; refine (in_any _ _ _ false _ (by simpa using HYR.out)).mono ?_; rintro e w1 ⟨rfl, hq1⟩)
                go_ret
                have : r = false := HNO.out fun h => HYR.out (by
                  have h := (h.2.2 k (by have := HN.out; omega)).2 j (by have := HN.out; omega)
                  rw [← HX.out, ← HY.out, HN.out] at h
                  exact ⟨h.1, by omega⟩)
                exact ⟨by subst this; rfl, HQ.out.trans (HQI.out.trans hq1)⟩
            · have hjm' : j = m := by omega
              subst hjm'
              go_wp2_with fail
              go_roundw
              case rel => 
                refine ⟨k + 1, by omega, by go_num, HQ.out.trans HQI.out, fun i hi => ?_⟩
                by_cases e : i = k
                · subst e; rw [← HX.out]; exact ⟨HM.out, HIN.out⟩
                · exact HALL.out i (by omega)
              case measure => simp [intOf]; omega
        · have hne : ((m : Int) != (n : Int)) = true := by simp; omega
          have HMN := hide hmn
          clear hmn
          go_wp2_with fail
          go_ret
          have : r = false := HNO.out fun h => HMN.out (by
            have h := (h.2.2 k (by have := HN.out; omega)).1
            rw [← HX.out, HM.out, HN.out] at h
            exact h)
          exact ⟨by subst this; rfl, by first | exact HQ.out | exact HQ.out.drewN _⟩
      · have hkn : k = n := by omega
        subst hkn
        go_wp2_with fail
        go_ret
        have : r = true := HR.out.2 ⟨by have := HN.out; omega, by have := HN.out; omega, fun i hi => by
          have h := HALL.out i (by have := HN.out; omega)
          rw [HN.out]
          exact h⟩
        exact ⟨by subst this; rfl, HQ.out⟩
  · have : r = false := by
      cases r
      · rfl
      · have := HR.out.1 rfl
        have h := HN.out
        unfold Tbl at this
        omega
    subst this
    go_enter Try.func57, Try.ntmps57
    go_wp2_with (go_at_call 89; refine (in_any _ _ _ false _ (by simp; omega)).mono ?_; rintro e w1 ⟨rfl, hq1⟩)
    go_ret
    exact ⟨rfl, hq1⟩

end Go.Proofs.Ytkagfjofjbpfeaa
namespace Go.Proofs.Ytkagfjofjbpfeaa
open Go Go.RowKit
set_option maxHeartbeats 400000

theorem isTable_any (A : Option Addr) (n c : Nat) (rows : List (List Int)) (r : Bool) (w : World) (hn : rows.length = n) (hb : n ≤ 9223372036854775807) (hbs : ∀ i, i < rows.length → (rows.getD i []).length ≤ 9223372036854775807) (hr : Rd2 w A rows) (hrr : r = true ↔ Tbl rows) :
    Calls Try.prog 18 #[.slice A n c] w fun e w' => e = .returned (.bool r) ∧ Quiet w w' := by
  have HN := hide hn
  have HR := hide hrr
  clear hn hrr
  by_cases h12 : 1 ≤ n ∧ n ≤ 12
  · obtain ⟨h1, h2⟩ := h12
    have hno : ¬ Tbl rows → r = false := fun h => by
      cases r
      · rfl
      · exact absurd (HR.out.1 rfl) h
    have HNO := hide hno
    clear hno
    go_enter Try.func18, Try.ntmps18
    go_wp2_with fail
    go_loopw [16] (fun i wr => ∃ k : Nat, k ≤ n ∧ i = .int .i64 k ∧ Quiet w wr ∧ ∀ i, i < k → RowOk n (rows.getD i [])) (fun i _ => n - (intOf i).toNat)
    case atStart => exact ⟨0, Nat.zero_le _, rfl, Quiet.refl _, fun i hi => absurd hi (Nat.not_lt_zero _)⟩
    case round =>
      obtain ⟨k, hk, rfl, hq, hall⟩ := hrel
      have HQ := hide hq
      have HALL := hide hall
      clear hq hall
      by_cases hlt : k < n
      · obtain ⟨b, o, rfl, _, hc⟩ := HQ.out.rd2 hr (by have := HN.out; omega)
        obtain ⟨Ak, ck, hcell, hrd⟩ := hc k (by have := HN.out; omega)
        have hbk := hbs k (by have := HN.out; omega)
        obtain ⟨x, hx⟩ : ∃ x, x = rows.getD k [] := ⟨_, rfl⟩
        obtain ⟨m, hm⟩ : ∃ m, x.length = m := ⟨_, rfl⟩
        rw [← hx] at hcell hrd hbk
        rw [hm] at hcell hbk
        have HX := hide hx
        have HM := hide hm
        clear hx hm hc hbs
        have hltz : (k : Int) < n := by omega
        by_cases hmn : m = n
        · subst hmn
          have hmm : ((m : Int) != (m : Int)) = false := by simp
          obtain ⟨r2, hr2⟩ : ∃ r2 : Bool, r2 = true ↔ ∀ j, j < m → 0 ≤ x.getD j 0 ∧ x.getD j 0 < (m : Int) := ⟨decide _, decide_eq_true_iff⟩
          have HR2 := hide hr2
          have HRDx := hide hrd
          clear hr2 hrd
          go_wp2_with fail
          refine (els_any m _ m _ x r2 _ HM.out hbk (by first | exact HRDx.out | exact HRDx.out.later (Below.refl _ _).drew) HR2.out).mono ?_
          rintro e w2 ⟨rfl, hq2⟩
          have HQ2 : Hid (Quiet w w2) := hide (by first | exact HQ.out.trans hq2 | exact (HQ.out.drewN 1).trans hq2)
          clear hq2
          cases r2 with
          | false =>
            go_wp2_with fail
            go_ret
            have : r = false := HNO.out fun h => by
              have h := (h.2.2 k (by have := HN.out; omega)).2
              rw [HN.out, ← HX.out] at h
              exact absurd (HR2.out.2 h) (by simp)
            exact ⟨by subst this; rfl, HQ2.out⟩
          | true =>
            go_wp2_with fail
            go_roundw
            case rel =>
              refine ⟨k + 1, by omega, by go_num, HQ2.out, fun i hi => ?_⟩
              by_cases e : i = k
              · subst e; rw [← HX.out]; exact ⟨HM.out, HR2.out.1 (by simp)⟩
              · exact HALL.out i (by omega)
            case measure => simp [intOf]; omega
        · have hne : ((m : Int) != (n : Int)) = true := by simp; omega
          have HMN := hide hmn
          clear hmn
          go_wp2_with fail
          go_ret
          have : r = false := HNO.out fun h => HMN.out (by
            have h := (h.2.2 k (by have := HN.out; omega)).1
            rw [← HX.out, HM.out, HN.out] at h
            exact h)
          exact ⟨by subst this; rfl, by first | exact HQ.out | exact HQ.out.drewN _⟩
      · have hkn : k = n := by omega
        subst hkn
        go_wp2_with fail
        go_ret
        have : r = true := HR.out.2 ⟨by have := HN.out; omega, by have := HN.out; omega, fun i hi => by
          have h := HALL.out i (by have := HN.out; omega)
          rw [HN.out]
          exact h⟩
        exact ⟨by subst this; rfl, HQ.out⟩
  · have : r = false := by
      cases r
      · rfl
      · have := HR.out.1 rfl
        have h := HN.out
        unfold Tbl at this
        omega
    subst this
    by_cases h0 : 1 ≤ n
    · have h12' : 12 < n := by omega
      clear h12
      go_enter Try.func18, Try.ntmps18
      go_wp2_with fail
      go_ret
      exact ⟨rfl, Quiet.refl _⟩
    · have h12' : n < 1 := by omega
      clear h12
      go_enter Try.func18, Try.ntmps18
      go_wp2_with fail
      go_ret
      exact ⟨rfl, Quiet.refl _⟩
end Go.Proofs.Ytkagfjofjbpfeaa
