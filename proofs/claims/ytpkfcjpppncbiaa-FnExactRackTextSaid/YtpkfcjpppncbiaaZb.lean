import Derived.Test.YtpkfcjpppncbiaaZa
import Derived.Test.YtpkfcjpppncbiaaProg
namespace Go.Proofs.Ytpkfcjpppncbiaa
open Go Go.RowKit

/-- Block g begins with the numbers xs. -/
def OwnB (t : TypeId) (w : World) (g : Nat) (xs : List Int) : Prop :=
  ∃ cur : Array Value, w.heap[g]? = some (.cells cur t (0, 0)) ∧ ∀ i, i < xs.length → cur[i]? = some (.int .i64 (xs.getD i 0))

section
variable {t : TypeId} {w w' : World} {g : Nat} {xs : List Int}

theorem OwnB.lt (h : OwnB t w g xs) : g < w.heap.size := by
  obtain ⟨cur, h1, _⟩ := h
  exact (Array.getElem?_eq_some_iff.1 h1).1

theorem OwnB.cell (h : OwnB t w g xs) {i : Nat} (hi : i < xs.length) : w.cell? ⟨g, i, none⟩ = some (.int .i64 (xs.getD i 0)) := by
  obtain ⟨cur, h1, h2⟩ := h
  rw [cell_of_row w g i cur t (0, 0) h1]
  exact h2 i hi

theorem OwnB.frozen (h : OwnB t w g xs) (i : Nat) : w.frozen? ⟨g, i, none⟩ = false := by
  obtain ⟨cur, h1, _⟩ := h
  simp [World.frozen?, h1]

theorem OwnB.rd (h : OwnB t w g xs) : Rd w (some ⟨g, 0, none⟩) xs :=
  fun _ => ⟨g, 0, rfl, h.lt, fun i hi => by rw [Nat.zero_add]; exact h.cell hi⟩

theorem OwnB.set (h : OwnB t w g xs) (i : Nat) (v : Int) (hi : i < xs.length) : OwnB t (w.setCell ⟨g, i, none⟩ (.int .i64 v)) g (xs.set i v) := by
  obtain ⟨cur, h1, h2⟩ := h
  refine ⟨cur.setIfInBounds i (.int .i64 v), by simp [World.setCell, Array.getElem?_modify, h1], fun j hj => ?_⟩
  rw [List.length_set] at hj
  have hic : i < cur.size := by
    have := h2 i hi
    exact (Array.getElem?_eq_some_iff.1 this).1
  rw [Array.getElem?_setIfInBounds]
  by_cases e : i = j
  · subst e
    simp [hic, hi]
  · rw [if_neg e, h2 j hj]
    simp [hj, e]

theorem OwnB.far (h : OwnB t w g xs) {p : Addr} (hp : g ≠ p.block) (v : Value) : OwnB t (w.setCell p v) g xs := by
  obtain ⟨cur, h1, h2⟩ := h
  exact ⟨cur, (Below.heap_setCell w p v g hp).trans h1, h2⟩

theorem OwnB.of_block (h : OwnB t w g xs) (e : w'.heap[g]? = w.heap[g]?) : OwnB t w' g xs := by
  obtain ⟨cur, h1, h2⟩ := h
  exact ⟨cur, e.trans h1, h2⟩

theorem OwnB.later {B : Nat} (h : OwnB t w g xs) (hb : Below B w w') (hg : g < B) : OwnB t w' g xs := h.of_block (hb.block g hg)

theorem Row.own (h : Row t w g xs) : OwnB t w g xs :=
  ⟨_, h, fun i hi => by simp [ints, hi]⟩

theorem ownB_of_ownsRow {B n c : Nat} {A : Option Addr} (h : w.ownsRow B t 1 (.slice A n c) n (ints xs)) : (A = none ∧ xs = []) ∨ ∃ g, A = some ⟨g, 0, none⟩ ∧ B ≤ g ∧ OwnB t w g xs := by
  obtain ⟨hl, h⟩ := h
  rw [ints_length] at hl
  rcases h with ⟨hv, h0⟩ | ⟨g, cap, cur, hv, hg, hh, h1, h2, h3, h4⟩
  · injection hv with e1 _ _
    exact .inl ⟨e1, List.eq_nil_of_length_eq_zero (by omega)⟩
  · injection hv with e1 e2 e3
    refine .inr ⟨g, e1, hg, cur, hh, fun i hi => ?_⟩
    have h5 : (ints xs)[i]? = some (.int .i64 (xs.getD i 0)) := by simp [ints, hi]
    rw [← h4, List.getElem?_take, if_pos (by omega)] at h5
    simpa using h5

/-- A slice of numbers in new memory: nil, or at the head of a block from B on. -/
def Res (t : TypeId) (B : Nat) (w : World) (A : Option Addr) (xs : List Int) : Prop :=
  (A = none ∧ xs = []) ∨ ∃ g, A = some ⟨g, 0, none⟩ ∧ B ≤ g ∧ OwnB t w g xs

theorem own_shape {B n : Nat} {v : Value} (h : w.ownsRow B t 1 v n (ints xs)) : ∃ A c, v = .slice A n c ∧ Res t B w A xs := by
  have h2 := h.2
  rcases h2 with ⟨hv, h0⟩ | ⟨g, cap, cur, hv, _⟩
  · subst h0
    subst hv
    exact ⟨none, 0, rfl, ownB_of_ownsRow h⟩
  · subst hv
    exact ⟨_, cap, rfl, ownB_of_ownsRow h⟩

theorem Res.mono {B B' : Nat} {A : Option Addr} (h : Res t B w A xs) (hB : B' ≤ B) : Res t B' w A xs := by
  rcases h with h | ⟨g, h1, h2, h3⟩
  · exact .inl h
  · exact .inr ⟨g, h1, Nat.le_trans hB h2, h3⟩

theorem Res.later {B : Nat} {A : Option Addr} (h : Res t B w A xs) (hb : Below w.heap.size w w') : Res t B w' A xs := by
  rcases h with h | ⟨g, h1, h2, h3⟩
  · exact .inl h
  · exact .inr ⟨g, h1, h2, h3.later hb h3.lt⟩

theorem Res.rd {B : Nat} {A : Option Addr} (h : Res t B w A xs) : Rd w A xs := by
  rcases h with ⟨rfl, rfl⟩ | ⟨g, rfl, _, h⟩
  · exact Rd.nil
  · exact h.rd

/-- Only the block of A, and what is new, has changed. -/
def Only (A : Option Addr) (w w' : World) : Prop := w.grownBy w' (A.map (·.block))

theorem Only.below {A : Option Addr} {B : Nat} (h : Only A w w') (hA : ∀ a, A = some a → B ≤ a.block) (hB : B ≤ w.heap.size) : Below B w w' :=
  (Below.refl B w).grown h hB (fun k hk => by
    cases A with
    | none => cases hk
    | some a =>
      have e : a.block = k := by simpa using hk
      rw [← e]
      exact hA a rfl)

theorem Only.quiet {A : Option Addr} (h : Quiet w w') : Only A w w' := by
  obtain ⟨q, rfl⟩ := h
  exact ⟨rfl, rfl, rfl, Nat.le_refl _, fun _ _ _ => rfl⟩

theorem Rd.only {A X : Option Addr} (h : Rd w A xs) (ho : Only X w w') (hne : ∀ a x, A = some a → X = some x → a.block ≠ x.block) : Rd w' A xs := by
  intro hn
  obtain ⟨b, o, rfl, hlt, hc⟩ := h hn
  have hb : w'.heap[b]? = w.heap[b]? := ho.block b hlt (fun e => by
    cases X with
    | none => cases e
    | some x => exact hne _ x rfl rfl (by simpa using e))
  exact ⟨b, o, rfl, Nat.lt_of_lt_of_le hlt ho.size, fun i hi => (World.cell?_of_block (a := ⟨b, o + i, none⟩) hb).trans (hc i hi)⟩

theorem OwnB.only {X : Option Addr} (h : OwnB t w g xs) (ho : Only X w w') (hne : ∀ x, X = some x → g ≠ x.block) : OwnB t w' g xs :=
  h.of_block (ho.block g h.lt (fun e => by
    cases X with
    | none => cases e
    | some x => exact hne x rfl (by simpa using e)))

end

/-- What a call hands back: a slice of n numbers in new memory, and a code. -/
def RPost (t : TypeId) (n : Nat) (xs : List Int) (code : Int) (w : World) (e : Ending) (w' : World) : Prop :=
  ∃ A c, e = .returned (.tuple #[.slice A n c, .int .i64 code]) ∧ Below w.heap.size w w' ∧ Res t w.heap.size w' A xs

/-- k, k + 1, .. -/
def marks (k : Int) (n : Nat) : List Int := (List.range n).map fun (i : Nat) => k + (i : Int)

theorem marks_length (k : Int) (n : Nat) : (marks k n).length = n := by simp [marks]
theorem marks_getD (k : Int) (n i : Nat) (h : i < n) : (marks k n).getD i 0 = k + (i : Int) := by simp [marks, h]

theorem mark_step (k : Int) (n j : Nat) (xs : List Int) (hn : xs.length = n) (hj : j < n) :
    ((marks k j ++ xs.drop j).set j (k + (j : Int))) = marks k (j + 1) ++ xs.drop (j + 1) := by
  have h1 : (marks k j).length = j := marks_length k j
  have e : marks k (j + 1) = marks k j ++ [k + (j : Int)] := by simp [marks, List.range_succ]
  rw [List.set_append_right _ _ (by omega), h1, Nat.sub_self, e, List.append_assoc]
  congr 1
  rw [List.drop_eq_getElem_cons (by omega), List.set_cons_zero]
  rfl

end Go.Proofs.Ytpkfcjpppncbiaa
namespace Go.Proofs.Ytpkfcjpppncbiaa
open Go Go.RowKit
set_option maxHeartbeats 400000

theorem info2 : (Try.prog.info? 2).map (fun i => (i.zero, i.size, i.bytes)) = some (some (.int .i64 0), 1, 8) := by kernel_rfl

theorem toInt64S_any (A : Option Addr) (n c : Nat) (xs : List Int) (w : World) (hn : xs.length = n) (hb : n ≤ 1048576) (hr : Rd w A xs) :
    Calls Try.prog 37 #[.slice A n c] w fun e w' => e = .returned (.slice (some ⟨w.heap.size, 0, none⟩) n n) ∧ Below w.heap.size w w' ∧ Row 2 w' w.heap.size xs ∧ w'.heap.size = w.heap.size + 1 := by
  have hmk := run_make_row' (P := Try.prog) 56 2 (.int .i64 0) 8 Try.underlying56 info2 rfl .i64 .i64 n (by omega) (by omega)
  have HN := hide hn
  clear hn
  go_enter Try.func37, Try.ntmps37
  go_wp2
  clear hmk
  go_loopw [4] (fun i wr => ∃ k : Nat, k ≤ n ∧ i = .int .i64 k ∧ Below w.heap.size w wr ∧ Row 2 wr w.heap.size (xs.take k ++ List.replicate (n - k) 0) ∧ wr.heap.size = w.heap.size + 1) (fun i _ => n - (intOf i).toNat)
  case atStart => exact ⟨0, Nat.zero_le _, rfl, (Below.refl _ _).alloc (Nat.le_refl _) _, by simpa using Row.made 2 w n, by simp⟩
  case round =>
    obtain ⟨k, hk, rfl, hbe, hrow, hsz⟩ := hrel
    have HSZ := hide hsz
    clear hsz
    by_cases hlt : k < n
    · obtain ⟨b, o, rfl, hbw, hc⟩ := hr (by have := HN.out; omega)
      have h1 : wr.cell? ⟨b, o + k, none⟩ = some (.int .i64 (xs.getD k 0)) := (hbe.cell (p := ⟨b, o + k, none⟩) hbw).trans (hc k (by have := HN.out; omega))
      have h2 := hrow.cell (i := k) (by have := HN.out; simp; omega)
      have h3 := hrow.frozen k
      have hst := hrow.set k (xs.getD k 0)
      rw [fill_step xs n k HN.out hlt] at hst
      have hb2 := hbe.setCell (p := ⟨w.heap.size, k, none⟩) (Nat.le_refl _) (.int .i64 (xs.getD k 0))
      have hltz : (k : Int) < n := by omega
      have HST := hide hst
      have HB2 := hide hb2
      clear hst hb2 hc hrow hbe
      go_wp2
      go_roundw
      case rel => exact ⟨k + 1, by omega, by go_num, HB2.out, HST.out, by have := HSZ.out; simpa using this⟩
      case measure => simp [intOf]; omega
    · have hkn : k = n := by omega
      subst hkn
      have HROW := hide hrow
      clear hrow
      go_wp2
      go_ret
      refine ⟨rfl, hbe, ?_, HSZ.out⟩
      have h := HROW.out
      have hl := HN.out
      simpa [← hl] using h
end Go.Proofs.Ytpkfcjpppncbiaa
namespace Go.Proofs.Ytpkfcjpppncbiaa
open Go Go.RowKit
set_option maxHeartbeats 400000


theorem sz_any (A : Option Addr) (n c : Nat) (l : Int) (w : World) (hb : n ≤ 9223372036854775807) (h0 : 0 ≤ l) (h1 : l ≤ 1048576) :
    Calls Try.prog 32 #[.slice A n c, .int .i64 l] w fun e w' => e = .returned (.int .i64 (if l < n then -1 else l - n)) ∧ w = w' := by
  by_cases h : l < n
  · go_enter Try.func32, Try.ntmps32
    go_wp2
    go_ret
    simp
  · go_enter Try.func32, Try.ntmps32
    go_wp2
    go_ret
    simp

theorem sz_no (A : Option Addr) (n c : Nat) (l : Int) (w : World) (hb : n ≤ 9223372036854775807) (h0 : 0 ≤ l) (h1 : l ≤ 1048576) (h : l < n) :
    Calls Try.prog 32 #[.slice A n c, .int .i64 l] w fun e w' => e = .returned (.int .i64 (-1)) ∧ w = w' :=
  (sz_any A n c l w hb h0 h1).mono fun _ _ hh => by rwa [if_pos h] at hh
theorem sz_yes (A : Option Addr) (n c : Nat) (l : Int) (w : World) (hb : n ≤ 9223372036854775807) (h0 : 0 ≤ l) (h1 : l ≤ 1048576) (h : ¬ l < n) :
    Calls Try.prog 32 #[.slice A n c, .int .i64 l] w fun e w' => e = .returned (.int .i64 (l - n)) ∧ w = w' :=
  (sz_any A n c l w hb h0 h1).mono fun _ _ hh => by rwa [if_neg h] at hh
end Go.Proofs.Ytpkfcjpppncbiaa
namespace Go.Proofs.Ytpkfcjpppncbiaa
open Go Go.RowKit
set_option maxHeartbeats 400000

theorem eqList (xs ys : List Int) (h : xs.length = ys.length) (h2 : ∀ i, i < xs.length → xs.getD i 0 = ys.getD i 0) : xs = ys := by
  apply List.ext_getElem h
  intro i h1 h3
  have := h2 i h1
  simpa [h1, h3] using this

theorem eqRows (xs ys : List (List Int)) (h : xs.length = ys.length) (h2 : ∀ i, i < xs.length → xs.getD i [] = ys.getD i []) : xs = ys := by
  apply List.ext_getElem h
  intro i h1 h3
  have := h2 i h1
  simpa [h1, h3] using this

theorem eq_any (A B : Option Addr) (n c m d : Nat) (xs ys : List Int) (r : Bool) (w : World) (hn : xs.length = n) (hm : ys.length = m) (hb : n ≤ 9223372036854775807) (hb2 : m ≤ 9223372036854775807) (hx : Rd w A xs) (hy : Rd w B ys) (hr : r = true ↔ xs = ys) :
    Calls Try.prog 43 #[.slice A n c, .slice B m d] w fun e w' => e = .returned (.bool r) ∧ Quiet w w' := by
  have HN := hide hn
  have HM := hide hm
  have HR := hide hr
  clear hr
  by_cases hnm : n = m
  · subst hnm
    clear hn hm
    go_enter Try.func43, Try.ntmps43
    go_wp2_with fail
    go_loopw [5] (fun i wr => ∃ k : Nat, k ≤ n ∧ i = .int .i64 k ∧ Quiet w wr ∧ ∀ i, i < k → xs.getD i 0 = ys.getD i 0) (fun i _ => n - (intOf i).toNat)
    case atStart => exact ⟨0, Nat.zero_le _, rfl, Quiet.refl w, fun i hi => absurd hi (Nat.not_lt_zero _)⟩
    case round =>
      obtain ⟨k, hk, rfl, hq, hall⟩ := hrel
      have HQ := hide hq
      clear hq
      have HALL := hide hall
      clear hall
      by_cases hlt : k < n
      · obtain ⟨b, o, rfl, _, hc⟩ := HQ.out.rd hx (by have := HN.out; omega)
        obtain ⟨b2, o2, rfl, _, hc2⟩ := HQ.out.rd hy (by have := HM.out; omega)
        have h1 := hc k (by have := HN.out; omega)
        have h2 := hc2 k (by have := HM.out; omega)
        obtain ⟨x, hx⟩ : ∃ x, x = xs.getD k 0 := ⟨_, rfl⟩
        obtain ⟨y, hy⟩ : ∃ y, y = ys.getD k 0 := ⟨_, rfl⟩
        rw [← hx] at h1
        rw [← hy] at h2
        have HX := hide hx
        have HY := hide hy
        clear hx hy hc hc2
        have hltz : (k : Int) < n := by omega
        by_cases hxy : x = y
        · subst hxy
          go_wp2_with fail
          go_quiet (fail)
          go_wp2_with fail
          go_roundw
          case rel =>
            refine ⟨k + 1, by omega, by go_num, HQ.out.drewN _, fun i hi => ?_⟩
            by_cases e : i = k
            · subst e; rw [← HX.out]; exact HY.out
            · exact HALL.out i (by omega)
          case measure => simp [intOf]; omega
        · have hne : (x != y) = true := by simpa using hxy
          have HNE := hide hxy
          clear hxy
          go_wp2_with fail
          go_quiet (fail)
          go_wp2_with fail
          go_ret
          have : r = false := by
            cases r
            · rfl
            · have e := HR.out.1 rfl
              subst e
              exact absurd (HX.out.trans HY.out.symm) HNE.out
          exact ⟨by subst this; rfl, by first | exact HQ.out | exact HQ.out.drewN _ | exact Quiet.refl _⟩
      · have hkn : k = n := by omega
        subst hkn
        go_wp2_with fail
        go_ret
        have this := HR.out.2 (eqList xs ys (HN.out.trans HM.out.symm) (fun i hi => HALL.out i (by have := HN.out; omega)))
        exact ⟨by subst this; rfl, by first | exact HQ.out | exact HQ.out.drewN _ | exact Quiet.refl _⟩
  · have hne : ((n : Int) != (m : Int)) = true := by simp; omega
    have HNM := hide hnm
    clear hn hm hnm
    go_enter Try.func43, Try.ntmps43
    go_wp2_with fail
    go_ret
    have : r = false := by
      cases r
      · rfl
      · have e := HR.out.1 rfl
        subst e
        exact absurd (HN.out.symm.trans HM.out) HNM.out
    exact ⟨by subst this; rfl, by first | exact HQ.out | exact HQ.out.drewN _ | exact Quiet.refl _⟩
end Go.Proofs.Ytpkfcjpppncbiaa
namespace Go.Proofs.Ytpkfcjpppncbiaa
open Go Go.RowKit
theorem subset_perm {α : Type} [DecidableEq α] : ∀ (l₁ l₂ : List α), l₁.Nodup → (∀ a ∈ l₁, a ∈ l₂) → ∃ l, List.Perm l₂ (l₁ ++ l) := by
  intro l₁
  induction l₁ with
  | nil => intro l₂ _ _; exact ⟨l₂, List.Perm.refl _⟩
  | cons a t ih =>
    intro l₂ hn hs
    have ha : a ∈ l₂ := hs a (by simp)
    have hn' := List.nodup_cons.1 hn
    have hp := List.perm_cons_erase ha
    obtain ⟨l, hl⟩ := ih (l₂.erase a) hn'.2 (fun b hb => by
      have hb2 := hs b (by simp [hb])
      have hne : b ≠ a := fun e => hn'.1 (e ▸ hb)
      exact (List.mem_erase_of_ne hne).2 hb2)
    exact ⟨l, hp.trans (hl.cons a)⟩
def rng (n : Nat) : List Int := (List.range n).map Int.ofNat
theorem rng_nodup (n : Nat) : (rng n).Nodup := by
  unfold rng
  exact List.Pairwise.map _ (fun a b h e => h (by injection e)) (List.nodup_range (n := n))
theorem mem_rng (n : Nat) (x : Int) : x ∈ rng n ↔ 0 ≤ x ∧ x < n := by
  unfold rng
  simp only [List.mem_map, List.mem_range]
  constructor
  · rintro ⟨a, ha, rfl⟩; simp; omega
  · rintro ⟨h1, h2⟩; exact ⟨x.toNat, by omega, by simp; omega⟩
theorem rng_length (n : Nat) : (rng n).length = n := by simp [rng]
/-- pigeonhole -/
theorem perm_iff (xs : List Int) : (∀ x : Int, 0 ≤ x → x < (xs.length : Int) → x ∈ xs) ↔ (∀ x ∈ xs, 0 ≤ x ∧ x < (xs.length : Int)) ∧ xs.Nodup := by
  constructor
  · intro h
    obtain ⟨l, hl⟩ := subset_perm (rng xs.length) xs (rng_nodup _) (fun a ha => by have := (mem_rng _ _).1 ha; exact h a this.1 this.2)
    have hlen := hl.length_eq
    rw [List.length_append, rng_length] at hlen
    have : l = [] := List.eq_nil_of_length_eq_zero (by omega)
    subst this
    rw [List.append_nil] at hl
    exact ⟨fun x hx => (mem_rng _ _).1 (hl.mem_iff.1 hx), hl.nodup_iff.2 (rng_nodup _)⟩
  · rintro ⟨h, hn⟩ x h0 h1
    obtain ⟨l, hl⟩ := subset_perm xs (rng xs.length) hn (fun a ha => (mem_rng _ _).2 (h a ha))
    have hlen := hl.length_eq
    rw [List.length_append, rng_length] at hlen
    have : l = [] := List.eq_nil_of_length_eq_zero (by omega)
    subst this
    rw [List.append_nil] at hl
    exact hl.mem_iff.1 ((mem_rng _ _).2 ⟨h0, h1⟩)

/-- A permutation of 1 to 12 elements. -/
def Prm (xs : List Int) : Prop := 1 ≤ xs.length ∧ xs.length ≤ 12 ∧ (∀ x ∈ xs, 0 ≤ x ∧ x < (xs.length : Int)) ∧ xs.Nodup

theorem prm_iff (xs : List Int) : Prm xs ↔ 1 ≤ xs.length ∧ xs.length ≤ 12 ∧ ∀ x : Int, 0 ≤ x → x < (xs.length : Int) → x ∈ xs := by
  unfold Prm
  rw [perm_iff]
end Go.Proofs.Ytpkfcjpppncbiaa
namespace Go.Proofs.Ytpkfcjpppncbiaa
open Go Go.RowKit
set_option maxHeartbeats 400000

set_option maxRecDepth 100000 in
/-- All numbers of a list are elements of a set of n. -/
theorem els_any (n : Nat) (A : Option Addr) (m c : Nat) (xs : List Int) (r : Bool) (w : World) (hm : xs.length = m) (hb : m ≤ 9223372036854775807) (hr : Rd w A xs) (hrr : r = true ↔ ∀ j, j < m → 0 ≤ xs.getD j 0 ∧ xs.getD j 0 < (n : Int)) :
    Calls Try.prog 47 #[.int .i64 n, .slice A m c] w fun e w' => e = .returned (.bool r) ∧ Quiet w w' := by
  have HM := hide hm
  have HR := hide hr
  have HRR := hide hrr
  clear hm hr hrr
  go_enter Try.func47, Try.ntmps47
  go_wp2_with fail
  go_loopw [9] (fun i wr => ∃ j : Nat, j ≤ m ∧ i = .int .i64 j ∧ Quiet w wr ∧ ∀ i, i < j → 0 ≤ xs.getD i 0 ∧ xs.getD i 0 < (n : Int)) (fun i _ => m - (intOf i).toNat)
  case atStart => exact ⟨0, Nat.zero_le _, rfl, Quiet.refl _, fun i hi => absurd hi (Nat.not_lt_zero _)⟩
  case round =>
    obtain ⟨j, hj, rfl, hq, hin⟩ := hrel
    have HIN := hide hin
    have HQ := hide hq
    clear hin hq
    by_cases hlt : j < m
    · obtain ⟨b, o, rfl, _, hc⟩ := HQ.out.rd HR.out (by have := HM.out; omega)
      have hv := hc j (by have := HM.out; omega)
      obtain ⟨y, hy⟩ : ∃ y, y = xs.getD j 0 := ⟨_, rfl⟩
      rw [← hy] at hv
      have HY := hide hy
      clear hy hc
      have hjz : (j : Int) < m := by omega
      have bad : ¬ (0 ≤ y ∧ y < (n : Int)) → r = false := fun hyr => by
        cases r
        · rfl
        · exact absurd (by have h := HRR.out.1 rfl j hlt; rw [← HY.out] at h; exact h) hyr
      have BAD := hide bad
      clear bad
      by_cases hy0 : y < 0
      · go_wp2_with fail
        go_ret
        have := BAD.out (by omega)
        exact ⟨by subst this; rfl, HQ.out⟩
      · by_cases hyn : y < (n : Int)
        · have hyn' : decide ((n : Int) ≤ y) = false := by simp; omega
          go_wp2_with fail
          go_roundw
          case rel =>
            refine ⟨j + 1, by omega, by go_num, HQ.out, fun i hi => ?_⟩
            by_cases e : i = j
            · subst e; rw [← HY.out]; exact ⟨by omega, hyn⟩
            · exact HIN.out i (by omega)
          case measure => simp [intOf]; omega
        · have hyn' : decide ((n : Int) ≤ y) = true := by simp; omega
          go_wp2_with fail
          go_ret
          have := BAD.out (by omega)
          exact ⟨by subst this; rfl, HQ.out⟩
    · have hjm : j = m := by omega
      subst hjm
      have hrt : r = true := HRR.out.2 HIN.out
      go_wp2_with fail
      go_ret
      exact ⟨by subst hrt; rfl, HQ.out⟩
end Go.Proofs.Ytpkfcjpppncbiaa
namespace Go.Proofs.Ytpkfcjpppncbiaa
open Go Go.RowKit
set_option maxHeartbeats 400000

theorem in_any (x lo hi : Int) (r : Bool) (w : World) (hr : r = true ↔ lo ≤ x ∧ x ≤ hi) :
    Calls Try.prog 44 #[.int .i64 x, .int .i64 lo, .int .i64 hi] w fun e w' => e = .returned (.bool r) ∧ Quiet w w' := by
  have HR := hide hr
  clear hr
  by_cases h1 : lo ≤ x
  · by_cases h2 : x ≤ hi
    · have : r = true := HR.out.2 ⟨h1, h2⟩
      subst this
      go_enter Try.func44, Try.ntmps44
      go_wp2_with fail
      go_ret
      exact ⟨rfl, Quiet.refl _⟩
    · have : r = false := by
        cases r
        · rfl
        · exact absurd (HR.out.1 rfl).2 h2
      subst this
      have h2' : decide (x ≤ hi) = false := by simpa using h2
      clear h2
      go_enter Try.func44, Try.ntmps44
      go_wp2_with fail
      go_ret
      exact ⟨rfl, Quiet.refl _⟩
  · have : r = false := by
      cases r
      · rfl
      · exact absurd (HR.out.1 rfl).1 h1
    subst this
    have h1' : decide (lo ≤ x) = false := by simpa using h1
    clear h1
    go_enter Try.func44, Try.ntmps44
    go_wp2_with fail
    go_ret
    exact ⟨rfl, Quiet.refl _⟩
end Go.Proofs.Ytpkfcjpppncbiaa
