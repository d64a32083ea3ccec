import Derived.Test.YtljdfanebjhhmaaZk
import Derived.Test.YtljdfanebjhhmaaZg
namespace Go.Proofs.Ytljdfanebjhhmaa
open Go Go.RowKit

section
variable {ts t tz : TypeId} {B : Nat} {w w' w1 : World} {v v' : Value} {rows : List (List Int)} {vals : List Value}

theorem own_type {n : Nat} {xs : List Value} (h : w.ownsRow B ts 1 v n xs) {g : Nat} (hg : v.ownBlock = some g) : g < w.heap.size ∧ B ≤ g ∧ ∃ cur : Array Value, w.heap[g]? = some (.cells cur ts (0, 0)) := by
  rcases h.2 with ⟨hv, _⟩ | ⟨g', cap, cur, hv, h1, hh, _⟩
  · rw [hv] at hg; cases hg
  · rw [hv] at hg
    have e : g' = g := by simpa [Value.ownBlock] using hg
    subst e
    exact ⟨(Array.getElem?_eq_some_iff.1 hh).1, h1, cur, hh⟩

theorem own_form {n : Nat} {xs : List Value} (h : w.ownsRow B ts 1 v (n + 1) xs) : ∃ g cap, v = .slice (some ⟨g, 0, none⟩) (n + 1) cap := by
  rcases h.2 with ⟨_, h0⟩ | ⟨g, cap, cur, hv, _⟩
  · omega
  · exact ⟨g, cap, hv⟩

theorem LstV.beside {o : Option Nat} (h : LstV ts t B w v rows vals) (hg : w.grownBy w' o) (hv : v.ownBlock = none ∨ v.ownBlock ≠ o) (hk : KeepT t w w') : LstV ts t B w' v rows vals :=
  ⟨h.own.kept hg hv, fun i hi => by
    obtain ⟨A, c, h1, h2⟩ := h.row i hi
    exact ⟨A, c, h1, (hk.obj h2).mono (Nat.le_refl _) hg.size⟩, h.ne⟩

/-- Two lists of rows that the call builds by append, in the box ob. -/
structure Two (ts t tz : TypeId) (B : Nat) (w : World) (ob : Nat) (v1 v2 : Value) (rows1 rows2 : List (List Int)) (vals1 vals2 : List Value) : Prop where
  box : Blk w ob tz [v1, v2]
  low : ob < B
  bsz : B ≤ w.heap.size
  l1 : LstV ts t B w v1 rows1 vals1
  l2 : LstV ts t B w v2 rows2 vals2
  ne : ∀ g, v1.ownBlock = some g → v2.ownBlock ≠ some g

variable {ob : Nat} {v1 v2 : Value} {rows1 rows2 : List (List Int)} {vals1 vals2 : List Value}

theorem Two.later (h : Two ts t tz B w ob v1 v2 rows1 rows2 vals1 vals2) (hb : Below w.heap.size w w') : Two ts t tz B w' ob v1 v2 rows1 rows2 vals1 vals2 :=
  ⟨h.box.later hb, h.low, Nat.le_trans h.bsz hb.size, h.l1.later hb, h.l2.later hb, h.ne⟩

theorem store_low (h : LstV ts t B w v rows vals) (hl : ob < B) (i : Nat) (u : Value) : LstV ts t B (w.setCell ⟨ob, i, none⟩ u) v rows vals :=
  h.of_blocks (fun k hk _ => Below.heap_setCell w ⟨ob, i, none⟩ u k (by show k ≠ ob; omega)) (by simp [World.setCell])

theorem Two.kept1 {tmp : Obj} (h : Two ts t tz B w ob v1 v2 rows1 rows2 vals1 vals2) (hg : (w.alloc tmp).grownBy w1 v1.ownBlock) : Blk w1 ob tz [v1, v2] :=
  (hg.block ob (by have := h.box.lt; simp; omega) (fun e => by
    have := (own_type h.l1.own e.symm).2.1
    have := h.low
    omega)).trans (h.box.later ((Below.refl _ _).alloc (Nat.le_refl _) _))
theorem Two.kept2 {tmp : Obj} (h : Two ts t tz B w ob v1 v2 rows1 rows2 vals1 vals2) (hg : (w.alloc tmp).grownBy w1 v2.ownBlock) : Blk w1 ob tz [v1, v2] :=
  (hg.block ob (by have := h.box.lt; simp; omega) (fun e => by
    have := (own_type h.l2.own e.symm).2.1
    have := h.low
    omega)).trans (h.box.later ((Below.refl _ _).alloc (Nat.le_refl _) _))

/-- A row is appended to the first list. -/
theorem Two.push1 {A : Option Addr} {c : Nat} {r : List Int} {tmp : Obj} (hne : ts ≠ t) (h : Two ts t tz B w ob v1 v2 rows1 rows2 vals1 vals2) (hA : Obj1 t B w.heap.size w A r)
    (hdis : ∀ (i : Nat) (u : Value) (g : Nat), vals1[i]? = some u → u.ownBlock = some g → ∀ a, A = some a → a.block ≠ g)
    (hown : w1.ownsRow B ts 1 v' (rows1.length + 1) (vals1 ++ [.slice A r.length c])) (hg : (w.alloc tmp).grownBy w1 v1.ownBlock) (hat : v'.ownBlock = v1.ownBlock ∨ v'.ownBlock = some (w.alloc tmp).heap.size) :
    Two ts t tz B (w1.setCell ⟨ob, 0, none⟩ v') ob v' v2 (rows1 ++ [r]) rows2 (vals1 ++ [.slice A r.length c]) vals2 := by
  have hal : Below w.heap.size w (w.alloc tmp) := (Below.refl _ _).alloc (Nat.le_refl _) _
  have hobw : ob < w.heap.size := h.box.lt
  have hob1 : some ob ≠ v1.ownBlock := fun e => by
    have := (own_type h.l1.own e.symm).2.1
    have := h.low
    omega
  have hv2 : v2.ownBlock = none ∨ v2.ownBlock ≠ v1.ownBlock := by
    cases e : v2.ownBlock with
    | none => exact .inl rfl
    | some g => exact .inr (fun e2 => h.ne g e2.symm e)
  have hk : KeepT t (w.alloc tmp) w1 := KeepT.of_grown hne (ownsRow_below h.l1.own hal) hg
  refine ⟨?_, h.low, by have h1 := hg.size; have h2 := h.bsz; simp at h1; simp [World.setCell]; omega, store_low (h.l1.push2 hne hA hdis hown hg) h.low _ _, store_low ((h.l2.later hal).beside hg hv2 hk) h.low _ _, fun g hg1 => ?_⟩
  · have hb1 : Blk w1 ob tz [v1, v2] := (hg.block ob (by simp; omega) hob1).trans (h.box.later hal)
    exact hb1.set 0 v'
  · rcases hat with e | e
    · exact h.ne g (e ▸ hg1)
    · intro e2
      have h3 := (own_type h.l2.own e2).1
      rw [e] at hg1
      simp at hg1
      omega

/-- .. to the second one. -/
theorem Two.push2 {A : Option Addr} {c : Nat} {r : List Int} {tmp : Obj} (hne : ts ≠ t) (h : Two ts t tz B w ob v1 v2 rows1 rows2 vals1 vals2) (hA : Obj1 t B w.heap.size w A r)
    (hdis : ∀ (i : Nat) (u : Value) (g : Nat), vals2[i]? = some u → u.ownBlock = some g → ∀ a, A = some a → a.block ≠ g)
    (hown : w1.ownsRow B ts 1 v' (rows2.length + 1) (vals2 ++ [.slice A r.length c])) (hg : (w.alloc tmp).grownBy w1 v2.ownBlock) (hat : v'.ownBlock = v2.ownBlock ∨ v'.ownBlock = some (w.alloc tmp).heap.size) :
    Two ts t tz B (w1.setCell ⟨ob, 1, none⟩ v') ob v1 v' rows1 (rows2 ++ [r]) vals1 (vals2 ++ [.slice A r.length c]) := by
  have hal : Below w.heap.size w (w.alloc tmp) := (Below.refl _ _).alloc (Nat.le_refl _) _
  have hobw : ob < w.heap.size := h.box.lt
  have hob1 : some ob ≠ v2.ownBlock := fun e => by
    have := (own_type h.l2.own e.symm).2.1
    have := h.low
    omega
  have hv2 : v1.ownBlock = none ∨ v1.ownBlock ≠ v2.ownBlock := by
    cases e : v1.ownBlock with
    | none => exact .inl rfl
    | some g => exact .inr (fun e2 => h.ne g e e2.symm)
  have hk : KeepT t (w.alloc tmp) w1 := KeepT.of_grown hne (ownsRow_below h.l2.own hal) hg
  refine ⟨?_, h.low, by have h1 := hg.size; have h2 := h.bsz; simp at h1; simp [World.setCell]; omega, store_low ((h.l1.later hal).beside hg hv2 hk) h.low _ _, store_low (h.l2.push2 hne hA hdis hown hg) h.low _ _, fun g hg1 e2 => ?_⟩
  · have hb1 : Blk w1 ob tz [v1, v2] := (hg.block ob (by simp; omega) hob1).trans (h.box.later hal)
    exact hb1.set 1 v'
  · rcases hat with e | e
    · exact h.ne g hg1 (e ▸ e2)
    · have h3 := (own_type h.l1.own hg1).1
      rw [e] at e2
      simp at e2
      omega

theorem Two.start (w : World) (ts t tz : TypeId) (hb : Blk w ob tz [.slice none 0 0, .slice none 0 0]) : Two ts t tz (ob + 1) w ob (.slice none 0 0) (.slice none 0 0) [] [] [] [] :=
  ⟨hb, Nat.lt_succ_self _, hb.lt, LstV.nil _ _ _ _, LstV.nil _ _ _ _, fun g h => by cases h⟩

/-- Block g of the row is kept by pushing to a list. -/
theorem push_keeps {lo hi : Nat} {A : Option Addr} {xs : List Int} {n : Nat} {ys : List Value} {tmp : Obj} (hne : ts ≠ t) (ho : w.ownsRow B ts 1 v n ys) (hg : (w.alloc tmp).grownBy w1 v.ownBlock) (h : Obj1 t lo hi w A xs) : Obj1 t lo hi w1 A xs :=
  (KeepT.of_grown (t := t) hne (ownsRow_below ho ((Below.refl _ _).alloc (Nat.le_refl _) _)) hg).obj (h.later ((Below.refl _ _).alloc (Nat.le_refl _) _))

/-- Appending to list 1 and storing the result leaves the blocks below the lists, but for the box. -/
theorem Two.frame1 {tmp : Obj} (h : Two ts t tz B w ob v1 v2 rows1 rows2 vals1 vals2) (hg : (w.alloc tmp).grownBy w1 v1.ownBlock) (u : Value) {k : Nat} (hk : k < B) (hne : k ≠ ob) (hkw : k < w.heap.size) : (w1.setCell ⟨ob, 0, none⟩ u).heap[k]? = w.heap[k]? :=
  (Below.heap_setCell w1 ⟨ob, 0, none⟩ u k hne).trans ((hg.block k (by simp; omega) (fun e => by
    have := (own_type h.l1.own e.symm).2.1
    omega)).trans (((Below.refl w.heap.size w).alloc (Nat.le_refl _) tmp).block k hkw))
theorem Two.below1 {tmp : Obj} {b0 : Nat} {w0 : World} (h : Two ts t tz B w ob v1 v2 rows1 rows2 vals1 vals2) (hg : (w.alloc tmp).grownBy w1 v1.ownBlock) (u : Value) (hb : Below b0 w0 w) (h0 : b0 ≤ ob) : Below b0 w0 (w1.setCell ⟨ob, 0, none⟩ u) :=
  ((hb.alloc (by have := h.box.lt; omega) tmp).grown hg (by have := h.box.lt; simp; omega) (fun g e => by
    have := (own_type h.l1.own e).2.1
    have := h.low
    omega)).setCell (p := ⟨ob, 0, none⟩) h0 u
theorem Two.add1 {w0 : World} {A : Option Addr} {c k x gg cap : Nat} {r : List Int} {tmp : Obj} {lo : Nat} (hne : ts ≠ t) (h0 : Two ts t tz B w0 ob v1 v2 rows1 rows2 vals1 vals2 ∨ ∃ u u' R R' VS VS', Two ts t tz B w0 ob u u' R R' VS VS' ∧ v1 = u ∧ rows1 = R ∧ vals1 = VS) (h : Two ts t tz B w ob v1 v2 rows1 rows2 vals1 vals2) (hlo : w0.heap.size ≤ lo) (hA : Obj1 t lo w.heap.size w A r) (hl : rows1.length = x) (hr : r.length = k)
    (hown : w1.ownsRow B ts 1 (.slice (some ⟨gg, 0, none⟩) (x + 1) cap) (x + 1) (vals1 ++ [.slice A k c])) (hg : (w.alloc tmp).grownBy w1 v1.ownBlock) (hat : v1.ownBlock = some gg ∨ gg = w.heap.size + 1) :
    Two ts t tz B (w1.setCell ⟨ob, 0, none⟩ (.slice (some ⟨gg, 0, none⟩) (x + 1) cap)) ob (.slice (some ⟨gg, 0, none⟩) (x + 1) cap) v2 (rows1 ++ [r]) rows2 (vals1 ++ [.slice A k c]) vals2 := by
  have hlow : ∀ (i : Nat) (u : Value) (g : Nat), vals1[i]? = some u → u.ownBlock = some g → g < w0.heap.size := by
    rcases h0 with h0 | ⟨u, u', R, R', VS, VS', h0, rfl, rfl, rfl⟩
    · exact h0.l1.low
    · exact h0.l1.low
  have hB : B ≤ w0.heap.size := by
    rcases h0 with h0 | ⟨u, u', R, R', VS, VS', h0, _⟩
    · have := h0.box.lt; have := h0.low; have := h0.l1.own; exact h0.bsz
    · exact h0.bsz
  subst hr
  subst hl
  refine h.push1 hne (hA.mono (by omega) (Nat.le_refl _)) (fun i u g hu hug a ha => ?_) hown hg ?_
  · have h1 := hlow i u g hu hug
    have h2 := (hA.bounds a ha).1
    omega
  · rcases hat with e | e
    · exact .inl (by rw [e]; rfl)
    · exact .inr (by rw [e]; simp [Value.ownBlock])

/-- Appending to list 2 and storing the result leaves the blocks below the lists, but for the box. -/
theorem Two.frame2 {tmp : Obj} (h : Two ts t tz B w ob v1 v2 rows1 rows2 vals1 vals2) (hg : (w.alloc tmp).grownBy w1 v2.ownBlock) (u : Value) {k : Nat} (hk : k < B) (hne : k ≠ ob) (hkw : k < w.heap.size) : (w1.setCell ⟨ob, 1, none⟩ u).heap[k]? = w.heap[k]? :=
  (Below.heap_setCell w1 ⟨ob, 1, none⟩ u k hne).trans ((hg.block k (by simp; omega) (fun e => by
    have := (own_type h.l2.own e.symm).2.1
    omega)).trans (((Below.refl w.heap.size w).alloc (Nat.le_refl _) tmp).block k hkw))
theorem Two.below2 {tmp : Obj} {b0 : Nat} {w0 : World} (h : Two ts t tz B w ob v1 v2 rows1 rows2 vals1 vals2) (hg : (w.alloc tmp).grownBy w1 v2.ownBlock) (u : Value) (hb : Below b0 w0 w) (h0 : b0 ≤ ob) : Below b0 w0 (w1.setCell ⟨ob, 1, none⟩ u) :=
  ((hb.alloc (by have := h.box.lt; omega) tmp).grown hg (by have := h.box.lt; simp; omega) (fun g e => by
    have := (own_type h.l2.own e).2.1
    have := h.low
    omega)).setCell (p := ⟨ob, 1, none⟩) h0 u
theorem Two.add2 {w0 : World} {A : Option Addr} {c k x gg cap : Nat} {r : List Int} {tmp : Obj} {lo : Nat} (hne : ts ≠ t) (h0 : Two ts t tz B w0 ob v1 v2 rows1 rows2 vals1 vals2 ∨ ∃ u u' R R' VS VS', Two ts t tz B w0 ob u u' R R' VS VS' ∧ v2 = u' ∧ rows2 = R' ∧ vals2 = VS') (h : Two ts t tz B w ob v1 v2 rows1 rows2 vals1 vals2) (hlo : w0.heap.size ≤ lo) (hA : Obj1 t lo w.heap.size w A r) (hl : rows2.length = x) (hr : r.length = k)
    (hown : w1.ownsRow B ts 1 (.slice (some ⟨gg, 0, none⟩) (x + 1) cap) (x + 1) (vals2 ++ [.slice A k c])) (hg : (w.alloc tmp).grownBy w1 v2.ownBlock) (hat : v2.ownBlock = some gg ∨ gg = w.heap.size + 1) :
    Two ts t tz B (w1.setCell ⟨ob, 1, none⟩ (.slice (some ⟨gg, 0, none⟩) (x + 1) cap)) ob v1 (.slice (some ⟨gg, 0, none⟩) (x + 1) cap) rows1 (rows2 ++ [r]) vals1 (vals2 ++ [.slice A k c]) := by
  have hlow : ∀ (i : Nat) (u : Value) (g : Nat), vals2[i]? = some u → u.ownBlock = some g → g < w0.heap.size := by
    rcases h0 with h0 | ⟨u, u', R, R', VS, VS', h0, rfl, rfl, rfl⟩
    · exact h0.l2.low
    · exact h0.l2.low
  have hB : B ≤ w0.heap.size := by
    rcases h0 with h0 | ⟨u, u', R, R', VS, VS', h0, _⟩
    · have := h0.box.lt; have := h0.low; have := h0.l1.own; exact h0.bsz
    · exact h0.bsz
  subst hr
  subst hl
  refine h.push2 hne (hA.mono (by omega) (Nat.le_refl _)) (fun i u g hu hug a ha => ?_) hown hg ?_
  · have h1 := hlow i u g hu hug
    have h2 := (hA.bounds a ha).1
    omega
  · rcases hat with e | e
    · exact .inl (by rw [e]; rfl)
    · exact .inr (by rw [e]; simp [Value.ownBlock])

theorem row_kept {k : Nat} {lo hi : Nat} {A : Option Addr} {xs : List Int} {n : Nat} {ys : List Value} {tmp : Obj} (hne : ts ≠ t) (ho : w.ownsRow B ts 1 v n ys) (hg : (w.alloc tmp).grownBy w1 v.ownBlock) (h : Obj1 t lo hi w A xs) (hk : ob < lo) (u : Value) : Obj1 t lo hi (w1.setCell ⟨ob, k, none⟩ u) A xs :=
  (push_keeps hne ho hg h).set (p := ⟨ob, k, none⟩) (.inl hk) u
end
end Go.Proofs.Ytljdfanebjhhmaa
