import Derived.Test.YtpkfcjpppncbiaaZb
import Derived.Test.YtpkfcjpppncbiaaProg
import Derived.Laws.BytesArg
import Derived.Test.YtpkfcjpppncbiaaZa
namespace Go.Proofs.Ytpkfcjpppncbiaa
open Go Go.RowKit

/-- Outside the blocks from lo to hi nothing that was there has changed. -/
structure Touch (lo hi : Nat) (w w' : World) : Prop where
  os : w'.os = w.os
  tape : w'.tape = w.tape
  output : w'.output = w.output
  size : w.heap.size ≤ w'.heap.size
  block : ∀ k, k < w.heap.size → (k < lo ∨ hi ≤ k) → w'.heap[k]? = w.heap[k]?

theorem Touch.refl (lo hi : Nat) (w : World) : Touch lo hi w w := ⟨rfl, rfl, rfl, Nat.le_refl _, fun _ _ _ => rfl⟩
theorem Touch.trans {lo hi : Nat} {a b c : World} (h : Touch lo hi a b) (k : Touch lo hi b c) : Touch lo hi a c :=
  ⟨k.os.trans h.os, k.tape.trans h.tape, k.output.trans h.output, Nat.le_trans h.size k.size, fun i hi hne => (k.block i (Nat.lt_of_lt_of_le hi h.size) hne).trans (h.block i hi hne)⟩
theorem Touch.quiet {lo hi : Nat} {w w' : World} (h : Quiet w w') : Touch lo hi w w' := by
  obtain ⟨q, rfl⟩ := h
  exact ⟨rfl, rfl, rfl, Nat.le_refl _, fun _ _ _ => rfl⟩
theorem Touch.of_only {lo hi : Nat} {A : Option Addr} {w w' : World} (h : Only A w w') (hA : ∀ a, A = some a → lo ≤ a.block ∧ a.block < hi) : Touch lo hi w w' :=
  ⟨h.os, h.tape, h.output, h.size, fun k hk hne => h.block k hk (fun e => by
    cases A with
    | none => cases e
    | some a =>
      have h1 := hA a rfl
      have h2 : k = a.block := by simpa using e
      omega)⟩
theorem Touch.below {lo hi B : Nat} {a w w' : World} (h : Below B a w) (t : Touch lo hi w w') (hB : B ≤ w.heap.size) (hlo : B ≤ lo) : Below B a w' :=
  ⟨t.os.trans h.os, t.tape.trans h.tape, t.output.trans h.output, Nat.le_trans h.size t.size, fun k hk => (t.block k (by omega) (.inl (by omega))).trans (h.block k hk)⟩

/-- A slice of numbers in memory of its own, its block from lo to hi. -/
def Obj1 (t : TypeId) (lo hi : Nat) (w : World) (A : Option Addr) (xs : List Int) : Prop :=
  (A = none ∧ xs = []) ∨ ∃ g, A = some ⟨g, 0, none⟩ ∧ lo ≤ g ∧ g < hi ∧ OwnB t w g xs

section
variable {t ts : TypeId} {w w' : World} {lo hi : Nat} {A : Option Addr} {xs : List Int}

theorem Res.obj {B : Nat} (h : Res t B w A xs) : Obj1 t B w.heap.size w A xs := by
  rcases h with h | ⟨g, h1, h2, h3⟩
  · exact .inl h
  · exact .inr ⟨g, h1, h2, h3.lt, h3⟩

theorem Obj1.res {B : Nat} (h : Obj1 t lo hi w A xs) (hB : B ≤ lo) : Res t B w A xs := by
  rcases h with h | ⟨g, h1, h2, _, h3⟩
  · exact .inl h
  · exact .inr ⟨g, h1, Nat.le_trans hB h2, h3⟩

theorem Obj1.rd (h : Obj1 t lo hi w A xs) : Rd w A xs := (h.res (Nat.le_refl _)).rd

theorem Obj1.mono {lo' hi' : Nat} (h : Obj1 t lo hi w A xs) (h1 : lo' ≤ lo) (h2 : hi ≤ hi') : Obj1 t lo' hi' w A xs := by
  rcases h with h | ⟨g, e, a, b, c⟩
  · exact .inl h
  · exact .inr ⟨g, e, by omega, by omega, c⟩

theorem Obj1.later (h : Obj1 t lo hi w A xs) (hb : Below w.heap.size w w') : Obj1 t lo hi w' A xs := by
  rcases h with h | ⟨g, e, a, b, c⟩
  · exact .inl h
  · exact .inr ⟨g, e, a, b, c.later hb c.lt⟩

theorem Obj1.far {lo2 hi2 : Nat} (h : Obj1 t lo hi w A xs) (ht : Touch lo2 hi2 w w') (hd : hi ≤ lo2 ∨ hi2 ≤ lo) : Obj1 t lo hi w' A xs := by
  rcases h with h | ⟨g, e, a, b, c⟩
  · exact .inl h
  · exact .inr ⟨g, e, a, b, c.of_block (ht.block g c.lt (by omega))⟩

theorem Obj1.bounds (h : Obj1 t lo hi w A xs) : ∀ a, A = some a → lo ≤ a.block ∧ a.block < hi := by
  rintro a rfl
  rcases h with ⟨h, _⟩ | ⟨g, e, h1, h2, _⟩
  · cases h
  · cases e
    exact ⟨h1, h2⟩

/-- A slice of slices of numbers in memory of its own, all blocks from lo to hi, no two rows in one block. -/
def Obj2 (ts t : TypeId) (lo hi : Nat) (w : World) (A : Option Addr) (rows : List (List Int)) : Prop :=
  (A = none ∧ rows = []) ∨ ∃ (g : Nat) (R : Nat → Option Addr) (C : Nat → Nat), A = some ⟨g, 0, none⟩ ∧ lo ≤ g ∧ g < hi ∧
    (∃ cur : Array Value, w.heap[g]? = some (.cells cur ts (0, 0)) ∧ ∀ i, i < rows.length → cur[i]? = some (.slice (R i) (rows.getD i []).length (C i))) ∧
    (∀ i, i < rows.length → Obj1 t lo hi w (R i) (rows.getD i [])) ∧
    (∀ i j, i < rows.length → j < rows.length → i ≠ j → ∀ a b, R i = some a → R j = some b → a.block ≠ b.block)

variable {rows : List (List Int)}

theorem Obj2.rd (h : Obj2 ts t lo hi w A rows) : Rd2 w A rows := by
  intro hn
  rcases h with ⟨_, rfl⟩ | ⟨g, R, C, rfl, _, _, ⟨cur, h1, h2⟩, h3, _⟩
  · simp at hn
  · refine ⟨g, 0, rfl, (Array.getElem?_eq_some_iff.1 h1).1, fun i hi => ⟨R i, C i, ?_, (h3 i hi).rd⟩⟩
    rw [Nat.zero_add, cell_of_row w g i cur ts (0, 0) h1]
    exact h2 i hi

theorem Obj2.mono {lo' hi' : Nat} (h : Obj2 ts t lo hi w A rows) (h1 : lo' ≤ lo) (h2 : hi ≤ hi') : Obj2 ts t lo' hi' w A rows := by
  rcases h with h | ⟨g, R, C, e, a, b, c, d, f⟩
  · exact .inl h
  · exact .inr ⟨g, R, C, e, by omega, by omega, c, fun i hi => (d i hi).mono h1 h2, f⟩

theorem Obj2.later (h : Obj2 ts t lo hi w A rows) (hb : Below w.heap.size w w') : Obj2 ts t lo hi w' A rows := by
  rcases h with h | ⟨g, R, C, e, a, b, ⟨cur, c1, c2⟩, d, f⟩
  · exact .inl h
  · exact .inr ⟨g, R, C, e, a, b, ⟨cur, (hb.block g (Array.getElem?_eq_some_iff.1 c1).1).trans c1, c2⟩, fun i hi => (d i hi).later hb, f⟩

theorem Obj2.far {lo2 hi2 : Nat} (h : Obj2 ts t lo hi w A rows) (ht : Touch lo2 hi2 w w') (hd : hi ≤ lo2 ∨ hi2 ≤ lo) : Obj2 ts t lo hi w' A rows := by
  rcases h with h | ⟨g, R, C, e, a, b, ⟨cur, c1, c2⟩, d, f⟩
  · exact .inl h
  · exact .inr ⟨g, R, C, e, a, b, ⟨cur, (ht.block g (Array.getElem?_eq_some_iff.1 c1).1 (by omega)).trans c1, c2⟩, fun i hi => (d i hi).far ht hd, f⟩

theorem Tab.obj {g : Nat} {G : Nat → Nat} (h : Tab ts t w g G rows) (h1 : lo ≤ g) (h2 : g < hi) (h3 : ∀ i, i < rows.length → lo ≤ G i ∧ G i < hi) (h4 : ∀ i j, i < rows.length → j < rows.length → i ≠ j → G i ≠ G j) : Obj2 ts t lo hi w (some ⟨g, 0, none⟩) rows := by
  obtain ⟨cur, c1, _, c3⟩ := h.top
  exact .inr ⟨g, fun i => some ⟨G i, 0, none⟩, _, rfl, h1, h2, ⟨cur, c1, c3⟩, fun i hi => .inr ⟨G i, rfl, (h3 i hi).1, (h3 i hi).2, (h.row i hi).own⟩, fun i j hi hj hne a b ha hb => by
    cases ha
    cases hb
    exact h4 i j hi hj hne⟩

end

/-- Two results: a slice of n rows in new memory, and a code. -/
def TPost (ts t : TypeId) (n : Nat) (rows : List (List Int)) (code : Int) (w : World) (e : Ending) (w' : World) : Prop :=
  ∃ A c, e = .returned (.tuple #[.slice A n c, .int .i64 code]) ∧ Below w.heap.size w w' ∧ Obj2 ts t w.heap.size w'.heap.size w' A rows

/-- How many numbers the rows have. -/
def tot (rows : List (List Int)) : Nat := (rows.map List.length).sum

/-- The rows' lengths, filled with k, k + 1, .. -/
def marks2 (k : Int) : List (List Int) → List (List Int)
  | [] => []
  | r :: rest => marks k r.length :: marks2 (k + (r.length : Int)) rest

theorem marks2_length (k : Int) (rows : List (List Int)) : (marks2 k rows).length = rows.length := by
  induction rows generalizing k with
  | nil => rfl
  | cons r rest ih => simp [marks2, ih]

theorem tot_append (a b : List (List Int)) : tot (a ++ b) = tot a + tot b := by
  unfold tot
  rw [List.map_append, List.sum_append]

theorem tot_take_succ (rows : List (List Int)) (i : Nat) (h : i < rows.length) : tot (rows.take (i + 1)) = tot (rows.take i) + (rows.getD i []).length := by
  rw [List.take_succ_eq_append_getElem h, tot_append]
  simp [tot, h]

theorem tot_take_le (rows : List (List Int)) (i : Nat) : tot (rows.take i) ≤ tot rows := by
  have h := tot_append (rows.take i) (rows.drop i)
  rw [List.take_append_drop] at h
  omega

theorem tot_bound (rows : List (List Int)) (h1 : rows.length ≤ 1048576) (h2 : ∀ i, i < rows.length → (rows.getD i []).length ≤ 1048576) : tot rows ≤ 1099511627776 := by
  have h : ∀ j, j ≤ rows.length → tot (rows.take j) ≤ j * 1048576 := by
    intro j
    induction j with
    | zero => intro _; simp [tot]
    | succ j ih =>
      intro hj
      have e := tot_take_succ rows j hj
      have h3 := h2 j hj
      have h4 := ih (by omega)
      omega
  have h5 := h rows.length (Nat.le_refl _)
  rw [List.take_length] at h5
  have : rows.length * 1048576 ≤ 1048576 * 1048576 := Nat.mul_le_mul_right _ h1
  omega

theorem marks2_getD (k : Int) (rows : List (List Int)) (i : Nat) (h : i < rows.length) : (marks2 k rows).getD i [] = marks (k + (tot (rows.take i) : Int)) (rows.getD i []).length := by
  induction rows generalizing k i with
  | nil => simp at h
  | cons r rest ih =>
    cases i with
    | zero => simp [marks2, tot]
    | succ i =>
      have h' : i < rest.length := by simpa using h
      have e := ih (k + (r.length : Int)) i h'
      have e1 : (marks2 k (r :: rest)).getD (i + 1) [] = (marks2 (k + (r.length : Int)) rest).getD i [] := by simp [marks2]
      have e2 : (r :: rest).getD (i + 1) [] = rest.getD i [] := by simp
      have e3 : (tot ((r :: rest).take (i + 1)) : Int) = (r.length : Int) + (tot (rest.take i) : Int) := by simp [tot]
      rw [e1, e, e2, e3, Int.add_assoc]

end Go.Proofs.Ytpkfcjpppncbiaa
namespace Go.Proofs.Ytpkfcjpppncbiaa
open Go Go.RowKit
set_option maxHeartbeats 400000

theorem info24 : (Try.prog.info? 56).map (fun i => (i.zero, i.size, i.bytes)) = some (some (.slice none 0 0), 1, 24) := by kernel_rfl

def cpTop (N k : Nat) (rows : List (List Int)) : Nat → Value := fun i => if i < k then .slice (some ⟨N + 1 + i, 0, none⟩) (rows.getD i []).length (rows.getD i []).length else .slice none 0 0

structure CpRel (w wr : World) (n k : Nat) (rows : List (List Int)) : Prop where
  below : Below w.heap.size w wr
  size : wr.heap.size = w.heap.size + 1 + k
  top : wr.rowIs w.heap.size 56 n (cpTop w.heap.size k rows)
  row : ∀ i, i < k → Row 2 wr (w.heap.size + 1 + i) (rows.getD i [])

theorem CpRel.start (w : World) (n : Nat) (rows : List (List Int)) : CpRel w (w.alloc (.cells (madeCells #[.slice none 0 0] n) 56)) n 0 rows :=
  ⟨(Below.refl _ _).alloc (Nat.le_refl _) _, by simp, (World.rowIs_made w _ n 56).congr (fun j _ => by simp [cpTop]), fun i hi => absurd hi (Nat.not_lt_zero _)⟩

theorem CpRel.step {w wr w2 : World} {n k m : Nat} {rows : List (List Int)} {r : List Int} (h : CpRel w wr n k rows) (hr : r = rows.getD k []) (hm : r.length = m) (hb : Below wr.heap.size wr w2) (hrow : Row 2 w2 wr.heap.size r) (hs : w2.heap.size = wr.heap.size + 1) :
    CpRel w (w2.setCell ⟨w.heap.size, k, none⟩ (.slice (some ⟨wr.heap.size, 0, none⟩) m m)) n (k + 1) rows := by
  have hsz := h.size
  refine ⟨(h.below.trans (hb.mono (by omega))).setCell (Nat.le_refl _) _, by simp [World.setCell]; omega, ?_, fun i hi => ?_⟩
  · refine ((h.top.of_block (hb.block _ (by omega))).set k _).congr (fun j hj => ?_)
    simp only [cpTop]
    by_cases e : j = k
    · subst e
      rw [if_pos rfl, if_pos (by omega), hsz, ← hr, hm]
    · rw [if_neg e]
      by_cases hlt : j < k
      · rw [if_pos hlt, if_pos (by omega)]
      · rw [if_neg hlt, if_neg (by omega)]
  · by_cases e : i = k
    · subst e
      rw [← hr, ← hsz]
      exact hrow.far (by show wr.heap.size ≠ w.heap.size; omega) _
    · exact ((h.row i (by omega)).later hb (by omega)).far (by show w.heap.size + 1 + i ≠ w.heap.size; omega) _

theorem toInt64SS_any (A : Option Addr) (n c : Nat) (rows : List (List Int)) (w : World) (hn : rows.length = n) (hb : n ≤ 1048576) (hbs : ∀ i, i < rows.length → (rows.getD i []).length ≤ 1048576) (hr : Rd2 w A rows) :
    Calls Try.prog 24 #[.slice A n c] w fun e w' => e = .returned (.slice (some ⟨w.heap.size, 0, none⟩) n n) ∧ Below w.heap.size w w' ∧ Tab 56 2 w' w.heap.size (fun i => w.heap.size + 1 + i) rows ∧ w'.heap.size = w.heap.size + 1 + n := by
  have hmk := run_make_row' (P := Try.prog) 22 56 (.slice none 0 0) 24 Try.underlying22 info24 rfl .i64 .i64 n (by omega) (by omega)
  have HN := hide hn
  clear hn
  go_enter Try.func24, Try.ntmps24
  go_wp2_with fail
  clear hmk
  go_loopw [4] (fun i wr => ∃ k : Nat, k ≤ n ∧ i = .int .i64 k ∧ CpRel w wr n k rows) (fun i _ => n - (intOf i).toNat)
  case atStart => exact ⟨0, Nat.zero_le _, rfl, CpRel.start w n rows⟩
  case round =>
    obtain ⟨k, hk, rfl, hrel⟩ := hrel
    by_cases hlt : k < n
    · obtain ⟨b, o, rfl, hbw, hc⟩ := hr (by have := HN.out; omega)
      obtain ⟨Ak, ck, hcell, hrd⟩ := hc k (by have := HN.out; omega)
      have hbk := hbs k (by have := HN.out; omega)
      obtain ⟨r, hr⟩ : ∃ r, r = rows.getD k [] := ⟨_, rfl⟩
      obtain ⟨m, hm⟩ : ∃ m, r.length = m := ⟨_, rfl⟩
      rw [← hr] at hcell hbk hrd
      rw [hm] at hcell hbk
      have hcell' : wr.cell? ⟨b, o + k, none⟩ = some (.slice Ak m ck) := (hrel.below.cell (p := ⟨b, o + k, none⟩) hbw).trans hcell
      have hrd' : Rd wr Ak r := hrd.later hrel.below
      have HM := hide hm
      have HR := hide hr
      have HREL := hide hrel
      have hf := hrel.top.frozen k
      have hltz : (k : Int) < n := by omega
      clear hm hr hc hbs hrel hcell hrd
      go_wp2_with (go_at_call 37; refine (toInt64S_any _ _ _ _ _ HM.out (by omega) hrd').mono ?_; rintro e w2 ⟨rfl, hb2, hrow2, hs2⟩; have HS2 := hide hs2; clear hs2; have hc2 : w2.cell? ⟨w.heap.size, k, none⟩ = some (cpTop w.heap.size k rows k) := ((hb2.cell (p := ⟨w.heap.size, k, none⟩) (by have := HREL.out.size; show w.heap.size < wr.heap.size; omega))).trans (HREL.out.top.cell hlt); have hf2 : w2.frozen? ⟨w.heap.size, k, none⟩ = false := ((hb2.frozen (p := ⟨w.heap.size, k, none⟩) (by have := HREL.out.size; show w.heap.size < wr.heap.size; omega))).trans (HREL.out.top.frozen k))
      go_roundw
      case rel => exact ⟨k + 1, by omega, by go_num, HREL.out.step HR.out HM.out hb2 hrow2 HS2.out⟩
      case measure => simp [intOf]; omega
    · have hkn : k = n := by omega
      subst hkn
      have HREL := hide hrel
      clear hrel
      go_wp2
      go_ret
      have h := HREL.out
      refine ⟨rfl, h.below, ⟨?_, fun i hi => h.row i (by have := HN.out; omega)⟩, h.size⟩
      rw [HN.out]
      exact h.top.congr (fun j hj => by simp [cpTop, hj])
end Go.Proofs.Ytpkfcjpppncbiaa
namespace Go.Proofs.Ytpkfcjpppncbiaa
open Go Go.RowKit
set_option maxHeartbeats 400000
/-- What the size check says. -/
def Szd (L : Int) (rows : List (List Int)) (r : Int) : Prop := r = -1 ∨ (0 ≤ r ∧ r ≤ L ∧ rows.length ≤ L ∧ ∀ i, i < rows.length → (rows.getD i []).length ≤ L)
def SzPost (L : Int) (rows : List (List Int)) (w : World) (e : Ending) (w' : World) : Prop := ∃ r, Szd L rows r ∧ e = .returned (.int .i64 r) ∧ w = w'

theorem szz_any (A : Option Addr) (n c : Nat) (rows : List (List Int)) (L : Int) (w : World) (hn : rows.length = n) (hb : n ≤ 9223372036854775807) (hbs : ∀ i, i < rows.length → (rows.getD i []).length ≤ 9223372036854775807) (h0 : 0 ≤ L) (h1 : L ≤ 1048576) (hr : Rd2 w A rows) :
    Calls Try.prog 21 #[.slice A n c, .int .i64 L] w (SzPost L rows w) := by
  have HN := hide hn
  clear hn
  by_cases hL : L < n
  · go_enter Try.func21, Try.ntmps21
    go_wp2
    go_ret
    exact ⟨-1, .inl rfl, rfl, rfl⟩
  · go_enter Try.func21, Try.ntmps21
    go_wp2_with fail
    go_loop [1, 5] (fun s i => ∃ (k : Nat) (l : Int), k ≤ n ∧ i = .int .i64 k ∧ s = .int .i64 l ∧ 0 ≤ l ∧ l ≤ L ∧ ∀ i, i < k → (rows.getD i []).length ≤ L) (fun _ i => n - (intOf i).toNat)
    case atStart => exact ⟨0, L - n, Nat.zero_le _, rfl, rfl, by omega, by omega, fun i hi => absurd hi (Nat.not_lt_zero _)⟩
    case round =>
      obtain ⟨k, l, hk, rfl, rfl, hl0, hlL, hall⟩ := hrel
      have HALL := hide hall
      clear hall
      by_cases hlt : k < n
      · obtain ⟨b, o, rfl, hbw, hc⟩ := hr (by have := HN.out; omega)
        obtain ⟨Ak, ck, hcell, _⟩ := hc k (by have := HN.out; omega)
        have hbk := hbs k (by have := HN.out; omega)
        obtain ⟨m, hm⟩ : ∃ m, m = (rows.getD k []).length := ⟨_, rfl⟩
        rw [← hm] at hcell hbk
        have HM := hide hm
        clear hm hc hbs
        by_cases hlm : l < m
        · go_wp2_with (go_at_call 32; refine (sz_no _ _ _ _ _ (by omega) (by omega) (by omega) (by omega)).mono ?_; rintro e w' ⟨rfl, rfl⟩)
          go_ret
          exact ⟨-1, .inl rfl, rfl, rfl⟩
        · go_wp2_with (go_at_call 32; refine (sz_yes _ _ _ _ _ (by omega) (by omega) (by omega) (by omega)).mono ?_; rintro e w' ⟨rfl, rfl⟩)
          go_round
          case rel =>
            refine ⟨k + 1, l - m, by omega, by go_num, rfl, by omega, by omega, fun i hi => ?_⟩
            by_cases e : i = k
            · subst e; rw [← HM.out]; omega
            · exact HALL.out i (by omega)
          case measure => simp [intOf]; omega
      · have hkn : k = n := by omega
        subst hkn
        go_wp2
        go_ret
        exact ⟨l, .inr ⟨hl0, hlL, by have := HN.out; omega, fun i hi => HALL.out i (by have := HN.out; omega)⟩, rfl, rfl⟩
end Go.Proofs.Ytpkfcjpppncbiaa
namespace Go.Proofs.Ytpkfcjpppncbiaa
open Go Go.RowKit
set_option maxHeartbeats 400000
theorem eqq_any (A B : Option Addr) (n c m d : Nat) (xs ys : List (List Int)) (r : Bool) (w : World) (hn : xs.length = n) (hm : ys.length = m) (hb : n ≤ 9223372036854775807) (hb2 : m ≤ 9223372036854775807) 
    (hbs : ∀ i, i < xs.length → (xs.getD i []).length ≤ 9223372036854775807) (hbt : ∀ i, i < ys.length → (ys.getD i []).length ≤ 9223372036854775807) (hx : Rd2 w A xs) (hy : Rd2 w B ys) (hr : r = true ↔ xs = ys) :
    Calls Try.prog 27 #[.slice A n c, .slice B m d] w fun e w' => e = .returned (.bool r) ∧ Quiet w w' := by
  have HN := hide hn
  have HM := hide hm
  have HR := hide hr
  clear hr
  by_cases hnm : n = m
  · subst hnm
    clear hn hm
    go_enter Try.func27, Try.ntmps27
    go_wp2_with fail
    go_loopw [5] (fun i wr => ∃ k : Nat, k ≤ n ∧ i = .int .i64 k ∧ Quiet w wr ∧ ∀ i, i < k → xs.getD i [] = ys.getD i []) (fun i _ => n - (intOf i).toNat)
    case atStart => exact ⟨0, Nat.zero_le _, rfl, Quiet.refl w, fun i hi => absurd hi (Nat.not_lt_zero _)⟩
    case round =>
      obtain ⟨k, hk, rfl, hq, hall⟩ := hrel
      have HQ := hide hq
      clear hq
      have HALL := hide hall
      clear hall
      by_cases hlt : k < n
      · obtain ⟨b, o, rfl, _, hc⟩ := HQ.out.rd2 hx (by have := HN.out; omega)
        obtain ⟨b2, o2, rfl, _, hc2⟩ := HQ.out.rd2 hy (by have := HM.out; omega)
        obtain ⟨A1, c1, h1, hr1⟩ := hc k (by have := HN.out; omega)
        obtain ⟨A2, c2, h2, hr2⟩ := hc2 k (by have := HM.out; omega)
        have hb1 := hbs k (by have := HN.out; omega)
        have hb2 := hbt k (by have := HM.out; omega)
        obtain ⟨x, hx⟩ : ∃ x, x = xs.getD k [] := ⟨_, rfl⟩
        obtain ⟨y, hy⟩ : ∃ y, y = ys.getD k [] := ⟨_, rfl⟩
        rw [← hx] at h1 hr1 hb1
        rw [← hy] at h2 hr2 hb2
        have HX := hide hx
        have HY := hide hy
        clear hx hy hc hc2 hbs hbt
        have hltz : (k : Int) < n := by omega
        by_cases hxy : x = y
        · have HXY := hide hxy
          clear hxy
          go_wp2_with fail
          go_quiet ((go_at_call 43; exact quiet_call (eq_any _ _ _ _ _ _ x y true _ rfl rfl hb1 hb2 hr1 hr2 (by simp [HXY.out]))))
          go_wp2_with fail
          go_roundw
          case rel =>
            refine ⟨k + 1, by omega, by go_num, HQ.out.drewN _, fun i hi => ?_⟩
            by_cases e : i = k
            · subst e; rw [← HX.out, ← HY.out]; exact HXY.out
            · exact HALL.out i (by omega)
          case measure => simp [intOf]; omega
        · have HNE := hide hxy
          clear hxy
          go_wp2_with fail
          go_quiet ((go_at_call 43; exact quiet_call (eq_any _ _ _ _ _ _ x y false _ rfl rfl hb1 hb2 hr1 hr2 (by simp [HNE.out]))))
          go_wp2_with fail
          go_ret
          have : r = false := by
            cases r
            · rfl
            · have e := HR.out.1 rfl
              subst e
              exact absurd (HX.out.trans HY.out.symm) HNE.out
          exact ⟨by subst this; rfl, by first | exact HQ.out | exact HQ.out.drewN _ | exact Quiet.refl _⟩
      · have hkn : k = n := by omega
        subst hkn
        go_wp2_with fail
        go_ret
        have this := HR.out.2 (eqRows xs ys (HN.out.trans HM.out.symm) (fun i hi => HALL.out i (by have := HN.out; omega)))
        exact ⟨by subst this; rfl, by first | exact HQ.out | exact HQ.out.drewN _ | exact Quiet.refl _⟩
  · have hne : ((n : Int) != (m : Int)) = true := by simp; omega
    have HNM := hide hnm
    clear hn hm hnm
    go_enter Try.func27, Try.ntmps27
    go_wp2_with fail
    go_ret
    have : r = false := by
      cases r
      · rfl
      · have e := HR.out.1 rfl
        subst e
        exact absurd (HN.out.symm.trans HM.out) HNM.out
    exact ⟨by subst this; rfl, by first | exact HQ.out | exact HQ.out.drewN _ | exact Quiet.refl _⟩
end Go.Proofs.Ytpkfcjpppncbiaa
namespace Go.Proofs.Ytpkfcjpppncbiaa
open Go Go.RowKit
set_option maxHeartbeats 400000

end Go.Proofs.Ytpkfcjpppncbiaa
namespace Go.Proofs.Ytpkfcjpppncbiaa
open Go Go.RowKit

/-- The digit of an element, as a byte. -/
def dg (x : Int) : Int := if x < 10 then 48 + x else 87 + x
theorem dg_range (x : Int) (h0 : 0 ≤ x) (h1 : x < 12) : 48 ≤ dg x ∧ dg x < 123 := by unfold dg; split <;> omega
/-- The digits of a list. -/
def lineL (xs : List Int) : List Int := xs.map dg
theorem lineL_length (xs : List Int) : (lineL xs).length = xs.length := by simp [lineL]
def lineS (xs : List Int) : ByteArray := strOfNums (lineL xs)
theorem lineS_size (xs : List Int) : (lineS xs).size = xs.length := by unfold lineS; rw [strOfNums_size, lineL_length]
theorem lineS_snoc (xs : List Int) (x : Int) : lineS xs ++ lineS [x] = lineS (xs ++ [x]) := by
  unfold lineS strOfNums lineL
  apply ByteArray.ext
  simp
theorem lineS_nil : lineS [] = ⟨#[]⟩ := rfl

def PTextRes (p : List Int) (s : ByteArray) (code : Int) : Prop := (Prm p ∧ s = lineS p ∧ code = 0) ∨ (¬ Prm p ∧ s = ⟨#[]⟩ ∧ code = 1)
theorem PTextRes.ex (p : List Int) : ∃ s code, PTextRes p s code := by
  by_cases h : Prm p
  · exact ⟨_, _, .inl ⟨h, rfl, rfl⟩⟩
  · exact ⟨_, _, .inr ⟨h, rfl, rfl⟩⟩
theorem Prm.dig {p : List Int} (h : Prm p) : ∀ x ∈ p, 0 ≤ x ∧ x < 12 := fun x hx => by
  have h1 := h.2.2.1 x hx
  have h2 := h.2.1
  omega
end Go.Proofs.Ytpkfcjpppncbiaa
namespace Go.Proofs.Ytpkfcjpppncbiaa
open Go Go.RowKit
set_option maxHeartbeats 400000

theorem isTable_any (A : Option Addr) (n c : Nat) (rows : List (List Int)) (r : Bool) (w : World) (hn : rows.length = n) (hb : n ≤ 9223372036854775807) (hbs : ∀ i, i < rows.length → (rows.getD i []).length ≤ 9223372036854775807) (hr : Rd2 w A rows) (hrr : r = true ↔ Tbl rows) :
    Calls Try.prog 38 #[.slice A n c] w fun e w' => e = .returned (.bool r) ∧ Quiet w w' := by
  have HN := hide hn
  have HR := hide hrr
  clear hn hrr
  by_cases h12 : 1 ≤ n ∧ n ≤ 12
  · obtain ⟨h1, h2⟩ := h12
    have hno : ¬ Tbl rows → r = false := fun h => by
      cases r
      · rfl
      · exact absurd (HR.out.1 rfl) h
    have HNO := hide hno
    clear hno
    go_enter Try.func38, Try.ntmps38
    go_wp2_with fail
    go_loopw [16] (fun i wr => ∃ k : Nat, k ≤ n ∧ i = .int .i64 k ∧ Quiet w wr ∧ ∀ i, i < k → RowOk n (rows.getD i [])) (fun i _ => n - (intOf i).toNat)
    case atStart => exact ⟨0, Nat.zero_le _, rfl, Quiet.refl _, fun i hi => absurd hi (Nat.not_lt_zero _)⟩
    case round =>
      obtain ⟨k, hk, rfl, hq, hall⟩ := hrel
      have HQ := hide hq
      have HALL := hide hall
      clear hq hall
      by_cases hlt : k < n
      · obtain ⟨b, o, rfl, _, hc⟩ := HQ.out.rd2 hr (by have := HN.out; omega)
        obtain ⟨Ak, ck, hcell, hrd⟩ := hc k (by have := HN.out; omega)
        have hbk := hbs k (by have := HN.out; omega)
        obtain ⟨x, hx⟩ : ∃ x, x = rows.getD k [] := ⟨_, rfl⟩
        obtain ⟨m, hm⟩ : ∃ m, x.length = m := ⟨_, rfl⟩
        rw [← hx] at hcell hrd hbk
        rw [hm] at hcell hbk
        have HX := hide hx
        have HM := hide hm
        clear hx hm hc hbs
        have hltz : (k : Int) < n := by omega
        by_cases hmn : m = n
        · subst hmn
          have hmm : ((m : Int) != (m : Int)) = false := by simp
          obtain ⟨r2, hr2⟩ : ∃ r2 : Bool, r2 = true ↔ ∀ j, j < m → 0 ≤ x.getD j 0 ∧ x.getD j 0 < (m : Int) := ⟨decide _, decide_eq_true_iff⟩
          have HR2 := hide hr2
          have HRDx := hide hrd
          clear hr2 hrd
          go_wp2_with fail
          refine (els_any m _ m _ x r2 _ HM.out hbk (by first | exact HRDx.out | exact HRDx.out.later (Below.refl _ _).drew) HR2.out).mono ?_
          rintro e w2 ⟨rfl, hq2⟩
          have HQ2 : Hid (Quiet w w2) := hide (by first | exact HQ.out.trans hq2 | exact (HQ.out.drewN 1).trans hq2)
          clear hq2
          cases r2 with
          | false =>
            go_wp2_with fail
            go_ret
            have : r = false := HNO.out fun h => by
              have h := (h.2.2 k (by have := HN.out; omega)).2
              rw [HN.out, ← HX.out] at h
              exact absurd (HR2.out.2 h) (by simp)
            exact ⟨by subst this; rfl, HQ2.out⟩
          | true =>
            go_wp2_with fail
            go_roundw
            case rel =>
              refine ⟨k + 1, by omega, by go_num, HQ2.out, fun i hi => ?_⟩
              by_cases e : i = k
              · subst e; rw [← HX.out]; exact ⟨HM.out, HR2.out.1 (by simp)⟩
              · exact HALL.out i (by omega)
            case measure => simp [intOf]; omega
        · have hne : ((m : Int) != (n : Int)) = true := by simp; omega
          have HMN := hide hmn
          clear hmn
          go_wp2_with fail
          go_ret
          have : r = false := HNO.out fun h => HMN.out (by
            have h := (h.2.2 k (by have := HN.out; omega)).1
            rw [← HX.out, HM.out, HN.out] at h
            exact h)
          exact ⟨by subst this; rfl, by first | exact HQ.out | exact HQ.out.drewN _⟩
      · have hkn : k = n := by omega
        subst hkn
        go_wp2_with fail
        go_ret
        have : r = true := HR.out.2 ⟨by have := HN.out; omega, by have := HN.out; omega, fun i hi => by
          have h := HALL.out i (by have := HN.out; omega)
          rw [HN.out]
          exact h⟩
        exact ⟨by subst this; rfl, HQ.out⟩
  · have : r = false := by
      cases r
      · rfl
      · have := HR.out.1 rfl
        have h := HN.out
        unfold Tbl at this
        omega
    subst this
    by_cases h0 : 1 ≤ n
    · have h12' : 12 < n := by omega
      clear h12
      go_enter Try.func38, Try.ntmps38
      go_wp2_with fail
      go_ret
      exact ⟨rfl, Quiet.refl _⟩
    · have h12' : n < 1 := by omega
      clear h12
      go_enter Try.func38, Try.ntmps38
      go_wp2_with fail
      go_ret
      exact ⟨rfl, Quiet.refl _⟩
end Go.Proofs.Ytpkfcjpppncbiaa
namespace Go.Proofs.Ytpkfcjpppncbiaa
open Go Go.RowKit
set_option maxHeartbeats 400000

theorem l01Table_any (A : Option Addr) (n c : Nat) (rows : List (List Int)) (r : Bool) (w : World) (hn : rows.length = n) (hb : n ≤ 9223372036854775807) (hbs : ∀ i, i < rows.length → (rows.getD i []).length ≤ 9223372036854775807) (hr : Rd2 w A rows) (hrr : r = true ↔ Tbl rows) :
    Calls Try.prog 33 #[.slice A n c] w fun e w' => e = .returned (.bool r) ∧ Quiet w w' := by
  have HN := hide hn
  have HR := hide hrr
  clear hn hrr
  by_cases h12 : 1 ≤ n ∧ n ≤ 12
  · obtain ⟨h1, h2⟩ := h12
    have hno : ¬ Tbl rows → r = false := fun h => by
      cases r
      · rfl
      · exact absurd (HR.out.1 rfl) h
    have HNO := hide hno
    clear hno
    go_enter Try.func33, Try.ntmps33
    go_wp2_with (go_at_call 44; refine (in_any _ _ _ true _ (by simp; omega)).mono ?_; rintro e w1 ⟨rfl, hq1⟩)
    have HQ1 := hide hq1
    clear hq1
    go_loopw [4] (fun i wr => ∃ k : Nat, k ≤ n ∧ i = .int .i64 k ∧ Quiet w wr ∧ ∀ i, i < k → RowOk n (rows.getD i [])) (fun i _ => n - (intOf i).toNat)
    case atStart => exact ⟨0, Nat.zero_le _, rfl, HQ1.out, fun i hi => absurd hi (Nat.not_lt_zero _)⟩
    case round =>
      obtain ⟨k, hk, rfl, hq, hall⟩ := hrel
      have HQ := hide hq
      have HALL := hide hall
      clear hq hall
      by_cases hlt : k < n
      · obtain ⟨b, o, rfl, _, hc⟩ := HQ.out.rd2 hr (by have := HN.out; omega)
        obtain ⟨Ak, ck, hcell, hrd⟩ := hc k (by have := HN.out; omega)
        have hbk := hbs k (by have := HN.out; omega)
        obtain ⟨x, hx⟩ : ∃ x, x = rows.getD k [] := ⟨_, rfl⟩
        obtain ⟨m, hm⟩ : ∃ m, x.length = m := ⟨_, rfl⟩
        rw [← hx] at hcell hrd hbk
        rw [hm] at hcell hbk
        have HX := hide hx
        have HM := hide hm
        clear hx hm hc hbs
        have hltz : (k : Int) < n := by omega
        by_cases hmn : m = n
        · subst hmn
          go_wp2_with fail
          obtain ⟨wo, rfl⟩ : ∃ wo : World, wo = wr := ⟨_, rfl⟩
          go_loopw [5] (fun i wi => ∃ j : Nat, j ≤ m ∧ i = .int .i64 j ∧ Quiet wo wi ∧ ∀ i, i < j → 0 ≤ x.getD i 0 ∧ x.getD i 0 < (m : Int)) (fun i _ => m - (intOf i).toNat)
          case atStart => exact ⟨0, Nat.zero_le _, rfl, Quiet.refl _, fun i hi => absurd hi (Nat.not_lt_zero _)⟩
          case round =>
            obtain ⟨j, hj, rfl, hqi, hin⟩ := hrel
            have HIN := hide hin
            have HQI := hide hqi
            clear hin
            by_cases hjm : j < m
            · obtain ⟨b2, o2, rfl, _, hc2⟩ := hqi.rd hrd (by have := HM.out; omega)
              have hcell2 := (hqi.cell ⟨b, o + k, none⟩).trans hcell
              have hv := hc2 j (by have := HM.out; omega)
              obtain ⟨y, hy⟩ : ∃ y, y = x.getD j 0 := ⟨_, rfl⟩
              rw [← hy] at hv
              have HY := hide hy
              clear hy hc2 hqi hcell
              have hjz : (j : Int) < m := by omega
              by_cases hyr : 0 ≤ y ∧ y ≤ (m : Int) - 1
              · have HYR := hide hyr
                clear hyr
                go_wp2_with (go_at_call 44; refine (in_any _ _ _ true _ (by simp [HYR.out.1, HYR.out.2])).mono ?_; rintro e w1 ⟨rfl, hq1⟩)
                go_roundw
                case rel =>
                  refine ⟨j + 1, by omega, by go_num, HQI.out.trans hq1, fun i hi => ?_⟩
                  by_cases e : i = j
                  · subst e; rw [← HY.out]; have := HYR.out; exact ⟨this.1, by omega⟩
                  · exact HIN.out i (by omega)
                case measure => simp [intOf]; omega
              · have HYR := hide hyr
                clear hyr
                go_wp2_with (go_at_call 44; refine (in_any _ _ _ false _ (by simpa using HYR.out)).mono ?_; rintro e w1 ⟨rfl, hq1⟩)
                go_ret
                have : r = false := HNO.out fun h => HYR.out (by
                  have h := (h.2.2 k (by have := HN.out; omega)).2 j (by have := HN.out; omega)
                  rw [← HX.out, ← HY.out, HN.out] at h
                  exact ⟨h.1, by omega⟩)
                exact ⟨by subst this; rfl, HQ.out.trans (HQI.out.trans hq1)⟩
            · have hjm' : j = m := by omega
              subst hjm'
              go_wp2_with fail
              go_roundw
              case rel => 
                refine ⟨k + 1, by omega, by go_num, HQ.out.trans HQI.out, fun i hi => ?_⟩
                by_cases e : i = k
                · subst e; rw [← HX.out]; exact ⟨HM.out, HIN.out⟩
                · exact HALL.out i (by omega)
              case measure => simp [intOf]; omega
        · have hne : ((m : Int) != (n : Int)) = true := by simp; omega
          have HMN := hide hmn
          clear hmn
          go_wp2_with fail
          go_ret
          have : r = false := HNO.out fun h => HMN.out (by
            have h := (h.2.2 k (by have := HN.out; omega)).1
            rw [← HX.out, HM.out, HN.out] at h
            exact h)
          exact ⟨by subst this; rfl, by first | exact HQ.out | exact HQ.out.drewN _⟩
      · have hkn : k = n := by omega
        subst hkn
        go_wp2_with fail
        go_ret
        have : r = true := HR.out.2 ⟨by have := HN.out; omega, by have := HN.out; omega, fun i hi => by
          have h := HALL.out i (by have := HN.out; omega)
          rw [HN.out]
          exact h⟩
        exact ⟨by subst this; rfl, HQ.out⟩
  · have : r = false := by
      cases r
      · rfl
      · have := HR.out.1 rfl
        have h := HN.out
        unfold Tbl at this
        omega
    subst this
    go_enter Try.func33, Try.ntmps33
    go_wp2_with (go_at_call 44; refine (in_any _ _ _ false _ (by simp; omega)).mono ?_; rintro e w1 ⟨rfl, hq1⟩)
    go_ret
    exact ⟨rfl, hq1⟩

end Go.Proofs.Ytpkfcjpppncbiaa
