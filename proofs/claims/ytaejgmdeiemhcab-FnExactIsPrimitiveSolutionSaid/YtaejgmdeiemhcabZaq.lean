import Derived.Test.YtaejgmdeiemhcabZc
import Derived.Deep.OwnRows
import Derived.Test.YtaejgmdeiemhcabZd
namespace Go.Proofs.Ytaejgmdeiemhcab
open Go Go.RowKit
/-- k rows are laid, each in new memory of its own, into a row of headers of n places. -/
def ClnRel (ts t : TypeId) (w wr : World) (g n k : Nat) (rows : List (List Int)) : Prop :=
  Below w.heap.size w wr ∧ ∃ (R : Nat → Option Addr) (C b : Nat → Nat), wr.rowIs g ts n (fun i => if i < k then .slice (R i) (rows.getD i []).length (C i) else .slice none 0 0) ∧
    (∀ i, i < k → Obj1 t (b i) (b (i + 1)) wr (R i) (rows.getD i [])) ∧ (∀ i, i < k → b i ≤ b (i + 1)) ∧ g < b 0 ∧ b k ≤ wr.heap.size
section
variable {ts t : TypeId} {w wr : World} {g n k : Nat} {rows : List (List Int)}
theorem ClnRel.start (w : World) (ts t : TypeId) (n : Nat) (rows : List (List Int)) (w0 : World) (hb : Below w.heap.size w w0) : ClnRel ts t w (w0.alloc (.cells (madeCells #[.slice none 0 0] n) ts)) w0.heap.size n 0 rows :=
  ⟨hb.alloc hb.size _, fun _ => none, fun _ => 0, fun _ => w0.heap.size + 1, (World.rowIs_made w0 _ n _).congr (fun j _ => by simp), fun i hi => absurd hi (Nat.not_lt_zero _), fun i hi => absurd hi (Nat.not_lt_zero _), by simp, by simp⟩
theorem mono_leC {b : Nat → Nat} (h : ∀ i, i < k → b i ≤ b (i + 1)) : ∀ i j, i ≤ j → j ≤ k → b i ≤ b j := by
  intro i j hij hj
  induction j with
  | zero => have : i = 0 := by omega
            subst this; exact Nat.le_refl _
  | succ j ih =>
    by_cases e : i = j + 1
    · subst e; exact Nat.le_refl _
    · exact Nat.le_trans (ih (by omega) (by omega)) (h j (by omega))
theorem ClnRel.step {w2 : World} {A : Option Addr} {c l : Nat} {r : List Int} (h : ClnRel ts t w wr g n k rows) (hg : w.heap.size ≤ g) (hb : Below wr.heap.size wr w2) (hr : r = rows.getD k []) (hl : l = r.length) (hA : Res t wr.heap.size w2 A r) :
    ClnRel ts t w (w2.setCell ⟨g, k, none⟩ (.slice A l c)) g n (k + 1) rows := by
  obtain ⟨hbw, R, C, b, htop, hrow, hmon, hg0, hend⟩ := h
  have hgl : g < wr.heap.size := htop.lt
  have hB2 : Below w.heap.size w w2 := hbw.trans (hb.mono hbw.size)
  refine ⟨hB2.setCell hg _, fun i => if i = k then A else R i, fun i => if i = k then c else C i, fun i => if i ≤ k then (if i = k then wr.heap.size else b i) else w2.heap.size, ?_, fun i hi => ?_, fun i hi => ?_, ?_, ?_⟩
  · refine ((htop.of_block (hb.block g hgl)).set k _).congr (fun j _ => ?_)
    by_cases e : j = k
    · subst e
      rw [if_pos rfl, if_pos (by omega)]
      simp [hl, hr]
    · rw [if_neg e]
      by_cases hlt : j < k
      · rw [if_pos hlt, if_pos (by omega)]
        simp [e]
      · rw [if_neg hlt, if_neg (by omega)]
  · by_cases e : i = k
    · subst e
      show Obj1 t (if i ≤ i then (if i = i then wr.heap.size else b i) else w2.heap.size) (if i + 1 ≤ i then _ else w2.heap.size) _ (if i = i then A else R i) _
      rw [if_pos (Nat.le_refl _), if_pos rfl, if_neg (by omega), if_pos rfl, ← hr]
      rcases hA with h0 | ⟨g', e1, e2, e3⟩
      · exact .inl h0
      · exact .inr ⟨g', e1, e2, e3.lt, e3.far (by show g' ≠ g; omega) _⟩
    · have hlt : i < k := by omega
      have ho := hrow i hlt
      show Obj1 t (if i ≤ k then (if i = k then wr.heap.size else b i) else w2.heap.size) (if i + 1 ≤ k then (if i + 1 = k then wr.heap.size else b (i + 1)) else w2.heap.size) _ (if i = k then A else R i) _
      rw [if_pos (by omega), if_neg e, if_pos (by omega), if_neg e]
      have hle : b (i + 1) ≤ b k := mono_leC hmon (i + 1) k (by omega) (Nat.le_refl _)
      have h0 : b 0 ≤ b i := mono_leC hmon 0 i (by omega) (by omega)
      have key : Obj1 t (b i) (b (i + 1)) (w2.setCell ⟨g, k, none⟩ (.slice A l c)) (R i) (rows.getD i []) := by
        rcases ho with hn | ⟨g', e1, e2, e3, e4⟩
        · exact .inl hn
        · exact .inr ⟨g', e1, e2, e3, (e4.later hb (by omega)).far (by show g' ≠ g; omega) _⟩
      by_cases e2 : i + 1 = k
      · rw [if_pos e2]
        exact key.mono (Nat.le_refl _) (by rw [e2]; exact hend)
      · rw [if_neg e2]
        exact key
  · show (if i ≤ k then (if i = k then wr.heap.size else b i) else w2.heap.size) ≤ (if i + 1 ≤ k then (if i + 1 = k then wr.heap.size else b (i + 1)) else w2.heap.size)
    have h1 := hb.size
    by_cases e : i = k
    · subst e
      rw [if_pos (Nat.le_refl _), if_pos rfl, if_neg (by omega)]
      exact h1
    · have hle : b (i + 1) ≤ b k := mono_leC hmon (i + 1) k (by omega) (Nat.le_refl _)
      have := hmon i (by omega)
      rw [if_pos (by omega), if_neg e, if_pos (by omega)]
      by_cases e2 : i + 1 = k
      · rw [if_pos e2]; omega
      · rw [if_neg e2]; exact this
  · show g < (if 0 ≤ k then (if 0 = k then wr.heap.size else b 0) else w2.heap.size)
    rw [if_pos (Nat.zero_le _)]
    by_cases e : 0 = k
    · rw [if_pos e]; exact hgl
    · rw [if_neg e]; exact hg0
  · show (if k + 1 ≤ k then _ else w2.heap.size) ≤ _
    rw [if_neg (by omega)]
    simp [World.setCell]
theorem ClnRel.cell (h : ClnRel ts t w wr g n k rows) (hk : k < n) : wr.cell? ⟨g, k, none⟩ = some (.slice none 0 0) := by
  obtain ⟨_, R, C, b, htop, _⟩ := h
  rw [htop.cell hk, if_neg (Nat.lt_irrefl _)]
theorem ClnRel.frozen (h : ClnRel ts t w wr g n k rows) (i : Nat) : wr.frozen? ⟨g, i, none⟩ = false := by
  obtain ⟨_, R, C, b, htop, _⟩ := h
  exact htop.frozen i
theorem ClnRel.lt (h : ClnRel ts t w wr g n k rows) : g < wr.heap.size := by
  obtain ⟨_, R, C, b, htop, _⟩ := h
  exact htop.lt
theorem ClnRel.obj (h : ClnRel ts t w wr g n n rows) (hg : w.heap.size ≤ g) (hn : rows.length = n) : Obj2 ts t w.heap.size wr.heap.size wr (some ⟨g, 0, none⟩) rows := by
  obtain ⟨hbw, R, C, b, ⟨cur, hc1, _, hc2⟩, hrow, hmon, hg0, hend⟩ := h
  have hgl : g < wr.heap.size := (Array.getElem?_eq_some_iff.1 hc1).1
  refine .inr ⟨g, R, C, rfl, hg, hgl, ⟨cur, hc1, fun i hi => ?_⟩, fun i hi => ?_, fun i j hi hj hne a c ha hc => ?_⟩
  · rw [hc2 i (by omega)]
    have : i < n := by omega
    simp [this]
  · have h0 : b 0 ≤ b i := mono_leC hmon 0 i (by omega) (by omega)
    have h1 : b (i + 1) ≤ b n := mono_leC hmon (i + 1) n (by omega) (Nat.le_refl _)
    exact (hrow i (by omega)).mono (by omega) (by omega)
  · have h1 := (hrow i (by omega)).bounds a ha
    have h2 := (hrow j (by omega)).bounds c hc
    rcases Nat.lt_or_gt_of_ne hne with hlt | hlt
    · have := mono_leC hmon (i + 1) j (by omega) (by omega)
      omega
    · have := mono_leC hmon (j + 1) i (by omega) (by omega)
      omega
end
end Go.Proofs.Ytaejgmdeiemhcab
namespace Go.Proofs.Ytaejgmdeiemhcab
open Go Go.RowKit
set_option maxHeartbeats 1000000

theorem rowsS_any (A : Option Addr) (n c : Nat) (rows : List (List Int)) (r : Bool) (w : World) (hn : rows.length = n) (hb : n ≤ 1048576) (hbs : ∀ i, i < rows.length → (rows.getD i []).length ≤ 1048576) (hr : Rd2 w A rows) (hrr : r = true ↔ ∀ i, i < rows.length → Prm (rows.getD i [])) :
    Calls Try.prog 117 #[.slice A n c] w fun e w' => e = .returned (.bool r) ∧ Below w.heap.size w w' := by
  have HN := hide hn
  have HR := hide hrr
  clear hn hrr
  go_enter Try.func117, Try.ntmps117
  go_wp2_with fail
  skip
  go_loopw [3] (fun i wr => ∃ k : Nat, k ≤ n ∧ i = .int .i64 k ∧ Below w.heap.size w wr ∧ ∀ i, i < k → Prm (rows.getD i [])) (fun i _ => n - (intOf i).toNat)
  case atStart => exact ⟨0, Nat.zero_le _, rfl, Below.refl _ _, fun i hi => absurd hi (Nat.not_lt_zero _)⟩
  case round =>
    obtain ⟨k, hk, rfl, hbe, hall⟩ := hrel
    have HB := hide hbe
    have HALL := hide hall
    clear hbe hall
    by_cases hlt : k < n
    · obtain ⟨b, o, rfl, _, hc⟩ := (hr.later HB.out) (by have := HN.out; omega)
      obtain ⟨Ak, ck, hcell, hrd⟩ := hc k (by have := HN.out; omega)
      have hbk := hbs k (by have := HN.out; omega)
      obtain ⟨x, hx⟩ : ∃ x, x = rows.getD k [] := ⟨_, rfl⟩
      obtain ⟨m, hm⟩ : ∃ m, x.length = m := ⟨_, rfl⟩
      rw [← hx] at hcell hrd hbk
      rw [hm] at hcell hbk
      have HX := hide hx
      have HM := hide hm
      clear hx hm hc hbs
      have hltz : (k : Int) < n := by omega
      by_cases hp : Prm x
      · have HP := hide hp
        clear hp
        go_wp2_with fail
        refine (prmS_below _ _ _ x true _ HM.out (by omega) hrd (by simp [HP.out])).mono ?_
        rintro e w1 ⟨rfl, hq1⟩
        have HQ1 := hide hq1
        clear hq1
        go_wp2_with fail
        go_roundw
        case rel =>
          refine ⟨k + 1, by omega, by go_num, HB.out.trans (HQ1.out.mono HB.out.size), fun i hi => ?_⟩
          by_cases e : i = k
          · subst e; rw [← HX.out]; exact HP.out
          · exact HALL.out i (by omega)
        case measure => simp [intOf]; omega
      · have HP := hide hp
        clear hp
        go_wp2_with fail
        refine (prmS_below _ _ _ x false _ HM.out (by omega) hrd (by simp [HP.out])).mono ?_
        rintro e w1 ⟨rfl, hq1⟩
        have HQ1 := hide hq1
        clear hq1
        go_wp2_with fail
        go_ret
        have : r = false := by
          cases r
          · rfl
          · have h := HR.out.1 rfl k (by have := HN.out; omega)
            rw [← HX.out] at h
            exact absurd h HP.out
        exact ⟨by subst this; rfl, HB.out.trans (HQ1.out.mono HB.out.size)⟩
    · have hkn : k = n := by omega
      subst hkn
      go_wp2_with fail
      go_ret
      have : r = true := HR.out.2 fun i hi => HALL.out i (by have := HN.out; omega)
      exact ⟨by subst this; rfl, HB.out⟩
end Go.Proofs.Ytaejgmdeiemhcab
