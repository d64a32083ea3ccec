import Derived.Test.YtljdfanebjhhmaaProg
import Derived.Test.YtljdfanebjhhmaaZg
namespace Go.Proofs.Ytljdfanebjhhmaa
open Go Go.RowKit
set_option maxHeartbeats 1000000

theorem ntInfo : (Try.prog.info? 2).map (fun i => (i.zero, i.size, i.bytes)) = some (some (.int .i64 0), 1, 8) := by kernel_rfl
theorem ntInfo2 : (Try.prog.info? 33).map (fun i => (i.zero, i.size, i.bytes)) = some (some (.slice none 0 0), 1, 24) := by kernel_rfl

structure NtRel (w wr : World) (n k : Nat) : Prop where
  below : Below w.heap.size w wr
  size : wr.heap.size = w.heap.size + 1 + k
  top : wr.rowIs w.heap.size 33 n (fun i => if i < k then .slice (some ⟨w.heap.size + 1 + i, 0, none⟩) n n else .slice none 0 0)
  row : ∀ i, i < k → wr.rowIs (w.heap.size + 1 + i) 2 n (fun _ => .int .i64 0)

theorem NtRel.start (w : World) (n : Nat) : NtRel w (w.alloc (.cells (madeCells #[.slice none 0 0] n) 33)) n 0 :=
  ⟨(Below.refl _ _).alloc (Nat.le_refl _) _, by simp, (World.rowIs_made w _ n _).congr (fun j _ => by simp), fun i hi => absurd hi (Nat.not_lt_zero _)⟩

theorem NtRel.step {w wr : World} {n k : Nat} (h : NtRel w wr n k) (_hk : k < n) :
    NtRel w ((wr.alloc (.cells (madeCells #[.int .i64 0] n) 2)).setCell ⟨w.heap.size, k, none⟩ (.slice (some ⟨wr.heap.size, 0, none⟩) n n)) n (k + 1) := by
  have hsz := h.size
  have hnew := World.rowIs_made wr (.int .i64 0) n 2
  rw [hsz] at hnew
  refine ⟨(h.below.alloc (by omega) _).setCell (Nat.le_refl _) _, by simp [World.setCell]; omega, ((h.top.alloc _).set k _).congr (fun j _ => ?_), fun i hi => ?_⟩
  · by_cases e : j = k
    · subst e; rw [if_pos rfl, if_pos (by omega), hsz]
    · rw [if_neg e]
      by_cases hlt : j < k
      · rw [if_pos hlt, if_pos (by omega)]
      · rw [if_neg hlt, if_neg (by omega)]
  · by_cases e : i = k
    · subst e
      exact hnew.setOther (by show w.heap.size + 1 + i ≠ w.heap.size; omega) _
    · exact ((h.row i (by omega)).alloc _).setOther (by show w.heap.size + 1 + i ≠ w.heap.size; omega) _

theorem newTable_any (n : Nat) (w : World) (hb : n ≤ 1048576) :
    Calls Try.prog 63 #[.int .i64 n] w fun e w' => e = .returned (.slice (some ⟨w.heap.size, 0, none⟩) n n) ∧ Below w.heap.size w w' ∧ TabF 33 2 w' w.heap.size (fun i => w.heap.size + 1 + i) n (fun _ _ => 0) ∧ w'.heap.size = w.heap.size + 1 + n := by
  have hmk := run_make_row' (P := Try.prog) 22 33 (.slice none 0 0) 24 Try.underlying22 ntInfo2 rfl .i64 .i64 n (by omega) (by omega)
  have hmk2 := run_make_row' (P := Try.prog) 33 2 (.int .i64 0) 8 Try.underlying33 ntInfo rfl .i64 .i64 n (by omega) (by omega)
  go_enter Try.func63, Try.ntmps63
  go_wp2_with fail
  clear hmk
  go_loopw [9] (fun i wr => ∃ k : Nat, k ≤ n ∧ i = .int .i64 k ∧ NtRel w wr n k) (fun i _ => n - (intOf i).toNat)
  case atStart => exact ⟨0, Nat.zero_le _, rfl, NtRel.start w n⟩
  case round =>
    obtain ⟨k, hk, rfl, hrel⟩ := hrel
    have HR := hide hrel
    clear hrel
    by_cases hlt : k < n
    · have hltz : (k : Int) < n := by omega
      have h1 : ∀ o, (wr.alloc o).cell? ⟨w.heap.size, k, none⟩ = some (.slice none 0 0) := fun o => by
        have := (HR.out.top.alloc o).cell hlt
        simpa using this
      have h2 : ∀ o, (wr.alloc o).frozen? ⟨w.heap.size, k, none⟩ = false := fun o => (HR.out.top.alloc o).frozen k
      go_wp2_with fail
      go_roundw
      case rel => exact ⟨k + 1, by omega, by go_num, HR.out.step hlt⟩
      case measure => simp [intOf]; omega
    · have hkn : k = n := by omega
      subst hkn
      go_wp2_with fail
      go_ret
      have h := HR.out
      exact ⟨rfl, h.below, ⟨⟨fun _ => k, .of_row (h.top.congr (fun j hj => by rw [if_pos hj]))⟩, fun i hi => .of_row (h.row i hi), fun i _ => by omega, fun i j _ _ hne => by omega⟩, h.size⟩
end Go.Proofs.Ytljdfanebjhhmaa
namespace Go.Proofs.Ytljdfanebjhhmaa
open Go Go.RowKit

/-- The value v is a list of rows that the call has built by append: its cells are vals, each a slice over a block of its own. -/
structure LstV (ts t : TypeId) (B : Nat) (w : World) (v : Value) (rows : List (List Int)) (vals : List Value) : Prop where
  own : w.ownsRow B ts 1 v rows.length vals
  row : ∀ i, i < rows.length → ∃ A c, vals[i]? = some (.slice A (rows.getD i []).length c) ∧ Obj1 t B w.heap.size w A (rows.getD i [])
  ne : ∀ (i j : Nat) (u u' : Value) (g : Nat), i < j → vals[i]? = some u → vals[j]? = some u' → u.ownBlock = some g → u'.ownBlock ≠ some g

section
variable {ts t : TypeId} {B : Nat} {w w' : World} {v : Value} {rows : List (List Int)} {vals : List Value}

theorem ownsRow_len {base n : Nat} {e : TypeId} {xs : List Value} (h : w.ownsRow base e 1 v n xs) : xs.length = n := by
  have := h.1
  omega

theorem LstV.start (w : World) (ts t : TypeId) : LstV ts t w.heap.size (w.alloc (.cells #[] ts)) (.slice (some ⟨w.heap.size, 0, none⟩) 0 0) [] [] :=
  ⟨⟨by simp, .inr ⟨w.heap.size, 0, #[], rfl, Nat.le_refl _, heap_alloc_new _ _, Nat.le_refl _, by unfold maxLen; omega, by simp, by simp⟩⟩, fun i hi => by simp at hi, fun i j u u' g _ hu => by simp at hu⟩

theorem LstV.nil (w : World) (ts t : TypeId) (B : Nat) : LstV ts t B w (.slice none 0 0) [] [] :=
  ⟨World.ownsRow_nil _ _ _ _, fun i hi => by simp at hi, fun i j u u' g _ hu => by simp at hu⟩

theorem ownsRow_below {base n : Nat} {e : TypeId} {xs : List Value} (h : w.ownsRow base e 1 v n xs) (hb : Below w.heap.size w w') : w'.ownsRow base e 1 v n xs := by
  obtain ⟨h1, h2⟩ := h
  refine ⟨h1, ?_⟩
  rcases h2 with h2 | ⟨g, cap, cur, hv, hg, hh, r⟩
  · exact .inl h2
  · exact .inr ⟨g, cap, cur, hv, hg, (hb.block g (Array.getElem?_eq_some_iff.1 hh).1).trans hh, r⟩

theorem LstV.later (h : LstV ts t B w v rows vals) (hb : Below w.heap.size w w') : LstV ts t B w' v rows vals :=
  ⟨ownsRow_below h.own hb, fun i hi => by
    obtain ⟨A, c, h1, h2⟩ := h.row i hi
    exact ⟨A, c, h1, (h2.later hb).mono (Nat.le_refl _) hb.size⟩, h.ne⟩

/-- The next row, in a block that was not there before, is appended. -/
theorem LstV.push {w1 : World} {v' : Value} {A : Option Addr} {c : Nat} {r : List Int} {tmp : Obj} (hne : ts ≠ t) (hB : B ≤ w.heap.size) (h : LstV ts t B w v rows vals) (hb : Below w.heap.size w w') (hA : Obj1 t w.heap.size w'.heap.size w' A r)
    (hown : w1.ownsRow B ts 1 v' (rows.length + 1) (vals ++ [.slice A r.length c])) (hg : (w'.alloc tmp).grownBy w1 v.ownBlock) : LstV ts t B w1 v' (rows ++ [r]) (vals ++ [.slice A r.length c]) := by
  have hl := ownsRow_len h.own
  have hal : Below w'.heap.size w' (w'.alloc tmp) := (Below.refl _ _).alloc (Nat.le_refl _) _
  have hsz1 : w'.heap.size ≤ w1.heap.size := Nat.le_trans hal.size hg.size
  -- a row's block is not the list's own
  have far : ∀ (A : Option Addr) (xs : List Int), Obj1 t B w'.heap.size w' A xs → Obj1 t B w1.heap.size w1 A xs := by
    intro A xs ho
    have ho1 := (ho.later hal)
    rcases ho1 with e | ⟨g, e1, e2, e3, e4⟩
    · exact .inl e
    · refine .inr ⟨g, e1, e2, by omega, e4.of_block (hg.block g e4.lt (fun e => ?_))⟩
      rcases h.own.2 with ⟨hv, _⟩ | ⟨g', cap, cur, hv, _, hh, _⟩
      · rw [hv] at e; cases e
      · rw [hv] at e
        have e5 : g = g' := by simpa [Value.ownBlock] using e
        subst e5
        have hlt := (Array.getElem?_eq_some_iff.1 hh).1
        have h6 : (w'.alloc tmp).heap[g]? = some (.cells cur ts (0, 0)) := (hal.block g (Nat.lt_of_lt_of_le hlt hb.size)).trans ((hb.block g hlt).trans hh)
        obtain ⟨cur', h7, _⟩ := e4
        rw [h6] at h7
        injection h7 with h7
        injection h7 with _ h7
        exact hne h7
  refine ⟨by simpa using hown, fun i hi => ?_, fun i j u u' g hij hu hu' hug => ?_⟩
  · by_cases e : i < rows.length
    · obtain ⟨A', c', h1, h2⟩ := h.row i e
      have e1 : (rows ++ [r]).getD i [] = rows.getD i [] := by simp [List.getElem?_append_left e]
      rw [e1]
      exact ⟨A', c', by rw [List.getElem?_append_left (by omega)]; exact h1, far _ _ ((h2.later hb).mono (Nat.le_refl _) hb.size)⟩
    · have e2 : i = rows.length := by simp at hi; omega
      subst e2
      have e1 : (rows ++ [r]).getD rows.length [] = r := by simp
      rw [e1]
      exact ⟨A, c, by rw [List.getElem?_append_right (by omega), hl]; simp, far _ _ (hA.mono hB (Nat.le_refl _))⟩
  · by_cases e : j < vals.length
    · rw [List.getElem?_append_left (by omega)] at hu
      rw [List.getElem?_append_left e] at hu'
      exact h.ne i j u u' g hij hu hu' hug
    · have hj : j = vals.length := by
        have := (List.getElem?_eq_some_iff.1 hu').1
        simp at this
        omega
      subst hj
      rw [List.getElem?_append_left (by omega)] at hu
      rw [List.getElem?_append_right (by omega)] at hu'
      simp at hu'
      subst hu'
      obtain ⟨A', c', h1, h2⟩ := h.row i (by omega)
      rw [h1] at hu
      cases hu
      intro e5
      cases hA' : A' with
      | none => rw [hA'] at hug; cases hug
      | some a' =>
        rw [hA'] at hug
        cases hA'' : A with
        | none => rw [hA''] at e5; cases e5
        | some a =>
          rw [hA''] at e5
          have b1 := (h2.bounds a' hA').2
          have b2 := (hA.bounds a hA'').1
          have e6 : a'.block = g := by simpa [Value.ownBlock] using hug
          have e7 : a.block = g := by simpa [Value.ownBlock] using e5
          omega

/-- Blocks that hold cells of type t keep what they hold. -/
def KeepT (t : TypeId) (w w' : World) : Prop := ∀ (k : Nat) (cur : Array Value), w.heap[k]? = some (.cells cur t (0, 0)) → w'.heap[k]? = some (.cells cur t (0, 0))
theorem KeepT.refl (t : TypeId) (w : World) : KeepT t w w := fun _ _ h => h
theorem KeepT.trans {a b c : World} (h : KeepT t a b) (k : KeepT t b c) : KeepT t a c := fun j cur e => k j cur (h j cur e)
theorem KeepT.of_below (h : Below w.heap.size w w') : KeepT t w w' := fun k _ e => (h.block k (Array.getElem?_eq_some_iff.1 e).1).trans e
theorem KeepT.obj {lo hi : Nat} {A : Option Addr} {xs : List Int} (h : KeepT t w w') (o : Obj1 t lo hi w A xs) : Obj1 t lo hi w' A xs := by
  rcases o with e | ⟨g, e1, e2, e3, cur, e4, e5⟩
  · exact .inl e
  · exact .inr ⟨g, e1, e2, e3, cur, h g cur e4, e5⟩
theorem KeepT.of_grown {n : Nat} {xs : List Value} (hne : ts ≠ t) (ho : w.ownsRow B ts 1 v n xs) (hg : w.grownBy w' v.ownBlock) : KeepT t w w' := by
  intro k cur e
  refine (hg.block k (Array.getElem?_eq_some_iff.1 e).1 (fun e2 => ?_)).trans e
  rcases ho.2 with ⟨hv, _⟩ | ⟨g', cap, cur', hv, _, hh, _⟩
  · rw [hv] at e2; cases e2
  · rw [hv] at e2
    have e5 : k = g' := by simpa [Value.ownBlock] using e2
    subst e5
    rw [hh] at e
    injection e with e
    injection e with _ e
    exact hne e

/-- A row that lies in none of the list's blocks is appended. -/
theorem LstV.push2 {w1 : World} {v' : Value} {A : Option Addr} {c : Nat} {r : List Int} {tmp : Obj} (hne : ts ≠ t) (h : LstV ts t B w v rows vals) (hA : Obj1 t B w.heap.size w A r)
    (hdis : ∀ (i : Nat) (u : Value) (g : Nat), vals[i]? = some u → u.ownBlock = some g → ∀ a, A = some a → a.block ≠ g)
    (hown : w1.ownsRow B ts 1 v' (rows.length + 1) (vals ++ [.slice A r.length c])) (hg : (w.alloc tmp).grownBy w1 v.ownBlock) : LstV ts t B w1 v' (rows ++ [r]) (vals ++ [.slice A r.length c]) := by
  have hl := ownsRow_len h.own
  have hal : Below w.heap.size w (w.alloc tmp) := (Below.refl _ _).alloc (Nat.le_refl _) _
  have hsz1 : w.heap.size ≤ w1.heap.size := Nat.le_trans hal.size hg.size
  have hk : KeepT t w w1 := (KeepT.of_below hal).trans (KeepT.of_grown hne (ownsRow_below h.own hal) hg)
  refine ⟨by simpa using hown, fun i hi => ?_, fun i j u u' g hij hu hu' hug => ?_⟩
  · by_cases e : i < rows.length
    · obtain ⟨A', c', h1, h2⟩ := h.row i e
      have e1 : (rows ++ [r]).getD i [] = rows.getD i [] := by simp [List.getElem?_append_left e]
      rw [e1]
      exact ⟨A', c', by rw [List.getElem?_append_left (by omega)]; exact h1, (hk.obj h2).mono (Nat.le_refl _) hsz1⟩
    · have e2 : i = rows.length := by simp at hi; omega
      subst e2
      have e1 : (rows ++ [r]).getD rows.length [] = r := by simp
      rw [e1]
      exact ⟨A, c, by rw [List.getElem?_append_right (by omega), hl]; simp, (hk.obj hA).mono (Nat.le_refl _) hsz1⟩
  · by_cases e : j < vals.length
    · rw [List.getElem?_append_left (by omega)] at hu
      rw [List.getElem?_append_left e] at hu'
      exact h.ne i j u u' g hij hu hu' hug
    · have hj : j = vals.length := by
        have := (List.getElem?_eq_some_iff.1 hu').1
        simp at this
        omega
      subst hj
      rw [List.getElem?_append_left (by omega)] at hu
      rw [List.getElem?_append_right (by omega)] at hu'
      simp at hu'
      subst hu'
      intro e5
      cases hA'' : A with
      | none => rw [hA''] at e5; cases e5
      | some a =>
        rw [hA''] at e5
        have e7 : a.block = g := by simpa [Value.ownBlock] using e5
        exact hdis i u g hu hug a hA'' e7

/-- The blocks of the rows lie below the heap's end. -/
theorem LstV.low (h : LstV ts t B w v rows vals) : ∀ (i : Nat) (u : Value) (g : Nat), vals[i]? = some u → u.ownBlock = some g → g < w.heap.size := by
  intro i u g hu hg
  have hl := ownsRow_len h.own
  have hi : i < rows.length := by have := (List.getElem?_eq_some_iff.1 hu).1; omega
  obtain ⟨A, c, h1, h2⟩ := h.row i hi
  rw [h1] at hu
  cases hu
  cases hA : A with
  | none => rw [hA] at hg; cases hg
  | some a =>
    rw [hA] at hg
    have e : a.block = g := by simpa [Value.ownBlock] using hg
    rw [← e]
    exact (h2.bounds a hA).2

theorem LstV.of_blocks (h : LstV ts t B w v rows vals) (hb : ∀ k, B ≤ k → k < w.heap.size → w'.heap[k]? = w.heap[k]?) (hs : w.heap.size ≤ w'.heap.size) : LstV ts t B w' v rows vals := by
  refine ⟨?_, fun i hi => ?_, h.ne⟩
  · obtain ⟨h1, h2⟩ := h.own
    refine ⟨h1, ?_⟩
    rcases h2 with h2 | ⟨g, cap, cur, hv, hg, hh, r⟩
    · exact .inl h2
    · exact .inr ⟨g, cap, cur, hv, hg, (hb g hg (Array.getElem?_eq_some_iff.1 hh).1).trans hh, r⟩
  · obtain ⟨A, c, h1, h2⟩ := h.row i hi
    refine ⟨A, c, h1, ?_⟩
    rcases h2 with e | ⟨g, e1, e2, e3, e4⟩
    · exact .inl e
    · exact .inr ⟨g, e1, e2, by omega, e4.of_block (hb g e2 e3)⟩

theorem LstV.single {A : Option Addr} {c : Nat} {r : List Int} (hA : Obj1 t B w.heap.size w A r) (hB : B ≤ w.heap.size) : LstV ts t B (w.alloc (.cells #[.slice A r.length c] ts)) (.slice (some ⟨w.heap.size, 0, none⟩) 1 1) [r] [.slice A r.length c] := by
  refine ⟨⟨by simp, .inr ⟨w.heap.size, 1, _, rfl, hB, heap_alloc_new _ _, Nat.le_refl _, by unfold maxLen; omega, by simp, by simp⟩⟩, fun i hi => ?_, fun i j u u' g hij hu hu' => ?_⟩
  · have h0 : i = 0 := by simp at hi; omega
    subst h0
    exact ⟨A, c, by simp, (hA.later ((Below.refl _ _).alloc (Nat.le_refl _) _)).mono (Nat.le_refl _) (by simp)⟩
  · have h1 := (List.getElem?_eq_some_iff.1 hu').1
    simp at h1
    omega

theorem LstV.shape (h : LstV ts t B w v rows vals) : ∃ A c, v = .slice A rows.length c ∧ Obj2 ts t B w.heap.size w A rows := by
  have hl := ownsRow_len h.own
  rcases h.own.2 with ⟨hv, h0⟩ | ⟨g, cap, cur, hv, hg, hh, h1, h2, h3, h4⟩
  · exact ⟨none, 0, by rw [hv, h0], .inl ⟨rfl, List.eq_nil_of_length_eq_zero h0⟩⟩
  · refine ⟨_, cap, hv, .inr ⟨g, fun i => match vals[i]? with | some (.slice A _ _) => A | _ => none, fun i => match vals[i]? with | some (.slice _ _ c) => c | _ => 0, rfl, hg, (Array.getElem?_eq_some_iff.1 hh).1, ⟨cur, hh, fun i hi => ?_⟩, fun i hi => ?_, fun i j hi hj hne a b ha hb => ?_⟩⟩
    · obtain ⟨A, c, e1, _⟩ := h.row i hi
      simp only [e1]
      have h5 := e1
      rw [← h4, List.getElem?_take, if_pos (by omega)] at h5
      simpa using h5
    · obtain ⟨A, c, e1, e2⟩ := h.row i hi
      simp only [e1]
      exact e2
    · obtain ⟨A, c, e1, _⟩ := h.row i hi
      obtain ⟨A', c', e1', _⟩ := h.row j hj
      simp only [e1] at ha
      simp only [e1'] at hb
      subst ha
      subst hb
      intro e
      rcases Nat.lt_or_ge i j with hlt | hge
      · exact h.ne i j _ _ a.block hlt e1 e1' (by simp [Value.ownBlock]) (by simp [Value.ownBlock, e])
      · exact h.ne j i _ _ a.block (by omega) e1' e1 (by simp [Value.ownBlock, e]) (by simp [Value.ownBlock])

end
end Go.Proofs.Ytljdfanebjhhmaa
namespace Go.Proofs.Ytljdfanebjhhmaa
open Go Go.RowKit

theorem ObjZ.set {ts t : TypeId} {lo hi : Nat} {w : World} {A B : Option Addr} {f s : List (List Int)} (h : ObjZ ts t lo hi w A f B s) {p : Addr} (hp : p.block < lo ∨ hi ≤ p.block) (v : Value) : ObjZ ts t lo hi (w.setCell p v) A f B s := by
  obtain ⟨mid, h1, h2, h3, h4⟩ := h
  exact ⟨mid, h1, h2, h3.set (by omega) v, h4.set (by omega) v⟩
theorem ObjW.set {ts t : TypeId} {lo hi : Nat} {w : World} {A B : Option Addr} {f s : List (List Int)} (h : ObjW ts t lo hi w A f B s) {p : Addr} (hp : p.block < lo ∨ hi ≤ p.block) (v : Value) : ObjW ts t lo hi (w.setCell p v) A f B s :=
  ⟨h.1.set hp v, h.2.set hp v⟩

/-- The two tables of a result are laid into its box. -/
theorem zend {ts t tz : TypeId} {w w2 w3 wf : World} {r : Nat} {A B : Option Addr} {n c m d : Nat} {f s : List (List Int)} {u v : Value} (hwf : wf = (w3.setCell ⟨r, 0, none⟩ (.slice A n c)).setCell ⟨r, 1, none⟩ (.slice B m d)) (hr : Blk w3 r tz [u, v]) (hr0 : w.heap.size ≤ r) (hr2 : r < w2.heap.size) (hb : Below w.heap.size w w3) (h2 : w.heap.size ≤ w2.heap.size) (ho : ObjZ ts t w2.heap.size w3.heap.size w3 A f B s) :
    wf.cell? ⟨r, 0, none⟩ = some (.slice A n c) ∧ wf.cell? ⟨r, 1, none⟩ = some (.slice B m d) ∧ Below w.heap.size w wf ∧ ObjZ ts t w.heap.size wf.heap.size wf A f B s := by
  have hR : Blk wf r tz [.slice A n c, .slice B m d] := by rw [hwf]; exact (hr.set 0 _).set 1 _
  refine ⟨hR.cell 0 _ rfl, hR.cell 1 _ rfl, ?_, ?_⟩
  · rw [hwf]; exact (hb.setCell (p := ⟨r, 0, none⟩) hr0 _).setCell (p := ⟨r, 1, none⟩) hr0 _
  · rw [hwf]; exact ((ho.set (p := ⟨r, 0, none⟩) (.inl hr2) _).set (p := ⟨r, 1, none⟩) (.inl hr2) _).mono h2 (by simp [World.setCell])
theorem wend {ts t tz : TypeId} {w w2 w3 wf : World} {r : Nat} {A B : Option Addr} {n c m d : Nat} {f s : List (List Int)} {u v : Value} (hwf : wf = (w3.setCell ⟨r, 0, none⟩ (.slice A n c)).setCell ⟨r, 1, none⟩ (.slice B m d)) (hr : Blk w3 r tz [u, v]) (hr0 : w.heap.size ≤ r) (hr2 : r < w2.heap.size) (hb : Below w.heap.size w w3) (h2 : w.heap.size ≤ w2.heap.size) (ho : ObjW ts t w2.heap.size w3.heap.size w3 A f B s) :
    wf.cell? ⟨r, 0, none⟩ = some (.slice A n c) ∧ wf.cell? ⟨r, 1, none⟩ = some (.slice B m d) ∧ Below w.heap.size w wf ∧ ObjW ts t w.heap.size wf.heap.size wf A f B s := by
  have hR : Blk wf r tz [.slice A n c, .slice B m d] := by rw [hwf]; exact (hr.set 0 _).set 1 _
  refine ⟨hR.cell 0 _ rfl, hR.cell 1 _ rfl, ?_, ?_⟩
  · rw [hwf]; exact (hb.setCell (p := ⟨r, 0, none⟩) hr0 _).setCell (p := ⟨r, 1, none⟩) hr0 _
  · rw [hwf]; exact ((ho.set (p := ⟨r, 0, none⟩) (.inl hr2) _).set (p := ⟨r, 1, none⟩) (.inl hr2) _).mono h2 (by simp [World.setCell])

/-- A table among the blocks from lo on. -/
def ObjT (ts t : TypeId) (lo : Nat) (w : World) (A : Option Addr) (rows : List (List Int)) : Prop := Obj2 ts t lo w.heap.size w A rows
theorem ObjT.of {ts t : TypeId} {lo lo' hi : Nat} {w : World} {A : Option Addr} {rows : List (List Int)} (h : Obj2 ts t lo hi w A rows) (h1 : lo' ≤ lo) (h2 : hi ≤ w.heap.size) : ObjT ts t lo' w A rows := h.mono h1 h2
theorem ObjT.later {ts t : TypeId} {lo : Nat} {w w' : World} {A : Option Addr} {rows : List (List Int)} (h : ObjT ts t lo w A rows) (hb : Below w.heap.size w w') : ObjT ts t lo w' A rows := (Obj2.later h hb).mono (Nat.le_refl _) hb.size
theorem ObjT.rd {ts t : TypeId} {lo : Nat} {w : World} {A : Option Addr} {rows : List (List Int)} (h : ObjT ts t lo w A rows) : Rd2 w A rows := Obj2.rd h
theorem wend2 {ts t tz : TypeId} {w w3 wf : World} {r : Nat} {A B : Option Addr} {n c m d : Nat} {f s : List (List Int)} {u v : Value} (hwf : wf = (w3.setCell ⟨r, 0, none⟩ (.slice A n c)).setCell ⟨r, 1, none⟩ (.slice B m d)) (hr : Blk w3 r tz [u, v]) (hr0 : w.heap.size ≤ r) (hb : Below w.heap.size w w3) (h1 : ObjT ts t (r + 1) w3 A f) (h2 : ObjT ts t (r + 1) w3 B s) :
    wf.cell? ⟨r, 0, none⟩ = some (.slice A n c) ∧ wf.cell? ⟨r, 1, none⟩ = some (.slice B m d) ∧ Below w.heap.size w wf ∧ ObjW ts t w.heap.size wf.heap.size wf A f B s := by
  have hR : Blk wf r tz [.slice A n c, .slice B m d] := by rw [hwf]; exact (hr.set 0 _).set 1 _
  have ho : ObjW ts t (r + 1) w3.heap.size w3 A f B s := ⟨h1, h2⟩
  refine ⟨hR.cell 0 _ rfl, hR.cell 1 _ rfl, ?_, ?_⟩
  · rw [hwf]; exact (hb.setCell (p := ⟨r, 0, none⟩) hr0 _).setCell (p := ⟨r, 1, none⟩) hr0 _
  · rw [hwf]; exact ((ho.set (p := ⟨r, 0, none⟩) (.inl (Nat.lt_succ_self r)) _).set (p := ⟨r, 1, none⟩) (.inl (Nat.lt_succ_self r)) _).mono (by omega) (by simp [World.setCell])
end Go.Proofs.Ytljdfanebjhhmaa
