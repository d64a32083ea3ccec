import Derived.Test.YtclgjkmoeeklkaaProg
import Derived.Test.YtclgjkmoeeklkaaMem
import Derived.Maps.Own
import Derived.Maps.Views
import Derived.WideKeyEntry
import Derived.DeepKeys4
import Derived.MapViews
import Derived.WalkArith
import Derived.Test.YtclgjkmoeeklkaaLst
import Derived.Test.YtclgjkmoeeklkaaBlk
import Derived.Test.YtclgjkmoeeklkaaZEnd
import Derived.Test.YtclgjkmoeeklkaaColF
import Derived.Test.YtclgjkmoeeklkaaEqF
import Derived.Test.YtclgjkmoeeklkaaTabRes
import Derived.Test.YtclgjkmoeeklkaaOwn
import Derived.Test.YtclgjkmoeeklkaaLeadI
import Derived.Test.YtclgjkmoeeklkaaSizeI
import Derived.Test.YtclgjkmoeeklkaaReads
import Derived.Test.YtclgjkmoeeklkaaPairsI
import Derived.Test.YtclgjkmoeeklkaaIsF
import Derived.Test.YtclgjkmoeeklkaaFltI
import Derived.Test.YtclgjkmoeeklkaaMapI
import Derived.Test.YtclgjkmoeeklkaaGrid
import Derived.Test.YtclgjkmoeeklkaaHeld
import Derived.Test.YtclgjkmoeeklkaaObjZ
import Derived.Shelf.Abstract
import Derived.Shelf.Lay
import Derived.Test.YtclgjkmoeeklkaaPMapF
import Derived.Test.YtclgjkmoeeklkaaZArg
import Derived.Test.YtclgjkmoeeklkaaPig
import Derived.Deep.AppendLies
import Derived.Deep.RegionLaw
import Derived.Test.YtclgjkmoeeklkaaMapS
import Derived.Test.YtclgjkmoeeklkaaPairF
import Derived.Test.YtclgjkmoeeklkaaFltS
namespace Go.Proofs.Ytclgjkmoeeklkaa
open Go Go.RowKit Go.ChangeShapes Go.WideShapes
open Go.ChangeMaps (setBlock heap_setBlock_same heap_setBlock_other)
open Go.WideElems (Fit)
open Classical
set_option maxRecDepth 100000

/-- An element of a map reads as itself. -/
def tokR : Value → Option (DataW Value × List MemPlace) := fun v => some (.held v, [])
def pkey (x y : Nat) : Value := .agg #[.int .i64 x, .int .i64 y]
theorem pkey_inj {x y u v : Nat} (h : pkey x y = pkey u v) : x = u ∧ y = v := by
  unfold pkey at h
  injection h with h
  injection h with h
  injection h with h1 h2
  injection h2 with h2 _
  injection h1 with _ h1
  injection h2 with _ h2
  omega
theorem mp_laid : laidOutB Try.prog = true := by kernel_rfl
theorem mp_row : (78 : TypeId) < Try.prog.types.size := of_decide_eq_true (by kernel_rfl)
theorem mp_deep : Try.prog.keyTypeAt (Try.prog.types.size + 1) 78 = true := by kernel_rfl
theorem mp_wide : (match Try.prog.underlying 78 with | some (.array _ _) | some (.struct _) => true | _ => false) = true := by rw [Try.underlying78]
theorem mp_law : WideMaps.KeyLaw Try.prog 78 := deep_law_laid mp_laid (m := 2) (by omega) mp_row (by kernel_rfl) mp_wide
theorem mp_keyed : Maps.Keyed Try.prog 78 := Maps.Keyed.of_law mp_law
theorem mp_cells : Try.prog.cellsOf 78 = 2 := by kernel_rfl
theorem mp_cellsI : Try.prog.cellsOf 2 = 1 := by kernel_rfl
theorem mp_key (w : World) (x y : Nat) (hx : x < 4611686018427387904) (hy : y < 4611686018427387904) : ∃ kl, keyOf Try.prog 78 (pkey x y) = some kl := by
  have hf : (pkey x y).formed Try.prog 78 = true := by simp [pkey, Value.formed, Try.underlying78, mp_cells]
  have wx : (Lit.int .i64 (x : Int)).wf = true := WalkArith.wf_i64 (by omega)
  have wy : (Lit.int .i64 (y : Int)).wf = true := WalkArith.wf_i64 (by omega)
  have ht := trod_struct2_mk (H := Unit) (enc := fun _ => ()) (P := Try.prog) (w := w) (base := 0) (spare := fun _ => true) (held := true) (n := 1) (cs := [.int .i64 (x : Int), .int .i64 (y : Int)]) Try.underlying78 mp_cells.symm
    (by show DataW.trod _ _ _ _ _ _ 1 2 (([Value.int .i64 (x : Int), .int .i64 (y : Int)].drop 0).take (Try.prog.cellsOf 2)) = _; rw [mp_cellsI]; exact trod_int_mk 0 Try.underlying2 wx)
    (by show DataW.trod _ _ _ _ _ _ 1 2 (([Value.int .i64 (x : Int), .int .i64 (y : Int)].drop 1).take (Try.prog.cellsOf 2)) = _; rw [mp_cellsI]; exact trod_int_mk 0 Try.underlying2 wy)
  exact ⟨_, (keyOf_asKey mp_deep mp_wide hf ⟨_, by simpa [pkey, Value.cells] using ht⟩).1⟩

/-- Block b is a map keyed by pairs, of at most n entries, whose values are V. -/
def MapV (w : World) (b n : Nat) (V : Value → Option Value) : Prop :=
  ∃ D : DataW Value, w.ownsMap Try.prog 78 tokR b n D ∧ ∀ key kl, keyOf Try.prog 78 key = some kl → D.atKey kl .nil = (match V key with | some v => .held v | none => .nil)

theorem MapV.made (w : World) : MapV (w.alloc (.map #[] 0)) w.heap.size 0 (fun _ => none) := ⟨_, World.ownsMap_made w _ _ _, fun _ _ _ => rfl⟩
theorem MapV.lt {w : World} {b n : Nat} {V : Value → Option Value} (h : MapV w b n V) : b < w.heap.size := h.elim fun _ h => h.1.lt
theorem MapV.of_block {w w' : World} {b n : Nat} {V : Value → Option Value} (h : MapV w b n V) (e : w'.heap[b]? = w.heap[b]?) : MapV w' b n V := by
  obtain ⟨D, ⟨es, clock, hb, F, hs, hD⟩, hV⟩ := h
  exact ⟨D, ⟨es, clock, e.trans hb, F, hs, hD⟩, hV⟩
theorem MapV.later {w w' : World} {b n : Nat} {V : Value → Option Value} (h : MapV w b n V) (hb : Below w.heap.size w w') : MapV w' b n V := h.of_block (hb.block b h.lt)
theorem MapV.congr {w : World} {b n : Nat} {V V' : Value → Option Value} (h : MapV w b n V) (e : ∀ k, V k = V' k) : MapV w b n V' := by
  have e2 : V = V' := funext e
  rw [← e2]; exact h

theorem MapV.look {w : World} {b n : Nat} {V : Value → Option Value} {t e : TypeId} (h : MapV w b n V) (ht : Try.prog.underlying t = some (.map 78 e)) {z : Value} (hz : (zeroValue e).run Try.prog w = .ok z w) {key : Value} {kl : Lit} (hkey : keyOf Try.prog 78 key = some kl) :
    (Instr.lookup t (.map (some b)) key false).run Try.prog w = .ok ((V key).getD z) w := by
  obtain ⟨D, ⟨es, clock, hb, F, hs, rfl⟩, hV⟩ := h
  have hk := hV key kl hkey
  rcases Maps.fit_look false mp_keyed ht hz hb F hkey with ⟨hrun, _, hat⟩ | ⟨e0, y, _, _, hrun, hR, hat, _⟩
  · rw [hat] at hk
    cases e : V key with
    | none => simpa using hrun
    | some v => rw [e] at hk; cases hk
  · rw [hat] at hk
    have hy : y = (.held e0.val, []) := by unfold tokR at hR; injection hR with hR; exact hR.symm
    subst hy
    cases e : V key with
    | none => rw [e] at hk; cases hk
    | some v =>
      rw [e] at hk
      injection hk with hk
      rw [← hk]
      simpa using hrun

theorem MapV.entry {w : World} {b n : Nat} {V : Value → Option Value} {t e : TypeId} (h : MapV w b n V) (ht : Try.prog.underlying t = some (.map 78 e)) {z : Value} (hz : ∀ u : World, (zeroValue e).run Try.prog u = .ok z u) (hn : n < maxLen) {key : Value} {kl : Lit} (hkey : keyOf Try.prog 78 key = some kl) :
    ∃ st es1 clock1, (Instr.mapEntry t (.map (some b)) key).run Try.prog w = .ok (.tuple #[(V key).getD z, goInt st]) (setBlock w b (.map es1 clock1)) ∧
      ∀ (w2 : World) (val : Value), w2.heap[b]? = some (.map es1 clock1) → ∃ es' clock', (Instr.entryStore t (.map (some b)) (goInt st) val).run Try.prog w2 = .ok () (setBlock w2 b (.map es' clock')) ∧
        MapV (setBlock w2 b (.map es' clock')) b (n + 1) (fun k => if k = key then some val else V k) := by
  have hlook := h.look ht (hz w) hkey
  obtain ⟨D, how, hV⟩ := h
  have how0 := how
  obtain ⟨es, clock, hb, F, hs, rfl⟩ := how
  obtain ⟨v0, st, es1, clock1, hE, hcase, hS⟩ := WideElems.entry_then_store mp_law ht hz hb F hkey
  have hv0 : v0 = (V key).getD z := by
    have hk := hV key kl hkey
    rcases Maps.fit_look false mp_keyed ht (hz w) hb F hkey with ⟨_, hno, hat⟩ | ⟨e0, y, hm0, hk0, hrun, hR, hat, _⟩
    · rw [hat] at hk
      rcases hcase with ⟨e1, hm1, hk1, _⟩ | ⟨_, e1⟩
      · exact absurd hk1 (hno e1 hm1)
      · cases e : V key with
        | none => rw [e1]; rfl
        | some v => rw [e] at hk; cases hk
    · rcases hcase with ⟨e1, hm1, hk1, hv1⟩ | ⟨hno, _⟩
      · have hnd := F.stamped.2.2
        have he : e0 = e1 := by
          obtain ⟨i, hi, hi2⟩ := List.getElem_of_mem hm0
          obtain ⟨j, hj, hj2⟩ := List.getElem_of_mem hm1
          have hij : i = j := by
            have e : (es.toList.map (·.key))[i]'(by simpa using hi) = (es.toList.map (·.key))[j]'(by simpa using hj) := by
              simp only [List.getElem_map]
              rw [hi2, hj2, hk0, hk1]
            exact (List.getElem_inj hnd).1 e
          subst hij
          rw [← hi2, hj2]
        have h2 := hrun.symm.trans hlook
        simp at h2
        rw [hv1, ← he]
        exact h2
      · exact absurd hk0 (hno e0 hm0)
  refine ⟨st, es1, clock1, by rw [← hv0]; exact hE, fun w2 val hw2 => ?_⟩
  obtain ⟨es', clock', hrun2, hU⟩ := hS w2 val hw2
  refine ⟨es', clock', hrun2, ?_⟩
  obtain ⟨w', hU2, how2, _⟩ := how0.update mp_keyed ht hn hkey (show tokR val = some (.held val, []) from rfl)
  have hw' : w' = setBlock w b (.map es' clock') := by
    have h2 := hU2.symm.trans hU
    simpa using h2
  subst hw'
  refine MapV.of_block (w := setBlock w b (.map es' clock')) ⟨_, how2, fun key' kl' hkey' => ?_⟩ ?_
  · by_cases e : key' = key
    · subst e
      have e2 : kl' = kl := by rw [hkey] at hkey'; injection hkey' with hkey'; exact hkey'.symm
      subst e2
      rw [Maps.atKey_put_same ⟨_, rfl⟩ (mp_keyed.key hkey)]
      simp
    · have hne : kl' ≠ kl := fun e2 => e (mp_keyed.inj hkey' (e2 ▸ hkey))
      rw [Maps.atKey_put_other hne, hV key' kl' hkey']
      simp [e]
  · rw [heap_setBlock_same hw2, heap_setBlock_same hb]
end Go.Proofs.Ytclgjkmoeeklkaa
namespace Go.Proofs.Ytclgjkmoeeklkaa
open Go Go.RowKit

section
variable {ts t tz : TypeId} {B : Nat} {w w' w1 : World} {v v' : Value} {rows : List (List Int)} {vals : List Value}

theorem own_type {n : Nat} {xs : List Value} (h : w.ownsRow B ts 1 v n xs) {g : Nat} (hg : v.ownBlock = some g) : g < w.heap.size ∧ B ≤ g ∧ ∃ cur : Array Value, w.heap[g]? = some (.cells cur ts (0, 0)) := by
  rcases h.2 with ⟨hv, _⟩ | ⟨g', cap, cur, hv, h1, hh, _⟩
  · rw [hv] at hg; cases hg
  · rw [hv] at hg
    have e : g' = g := by simpa [Value.ownBlock] using hg
    subst e
    exact ⟨(Array.getElem?_eq_some_iff.1 hh).1, h1, cur, hh⟩

theorem own_form {n : Nat} {xs : List Value} (h : w.ownsRow B ts 1 v (n + 1) xs) : ∃ g cap, v = .slice (some ⟨g, 0, none⟩) (n + 1) cap := by
  rcases h.2 with ⟨_, h0⟩ | ⟨g, cap, cur, hv, _⟩
  · omega
  · exact ⟨g, cap, hv⟩

theorem LstV.beside {o : Option Nat} (h : LstV ts t B w v rows vals) (hg : w.grownBy w' o) (hv : v.ownBlock = none ∨ v.ownBlock ≠ o) (hk : KeepT t w w') : LstV ts t B w' v rows vals :=
  ⟨h.own.kept hg hv, fun i hi => by
    obtain ⟨A, c, h1, h2⟩ := h.row i hi
    exact ⟨A, c, h1, (hk.obj h2).mono (Nat.le_refl _) hg.size⟩, h.ne⟩

/-- Two lists of rows that the call builds by append, in the box ob. -/
structure Two (ts t tz : TypeId) (B : Nat) (w : World) (ob : Nat) (v1 v2 : Value) (rows1 rows2 : List (List Int)) (vals1 vals2 : List Value) : Prop where
  box : Blk w ob tz [v1, v2]
  low : ob < B
  bsz : B ≤ w.heap.size
  l1 : LstV ts t B w v1 rows1 vals1
  l2 : LstV ts t B w v2 rows2 vals2
  ne : ∀ g, v1.ownBlock = some g → v2.ownBlock ≠ some g

variable {ob : Nat} {v1 v2 : Value} {rows1 rows2 : List (List Int)} {vals1 vals2 : List Value}

theorem Two.later (h : Two ts t tz B w ob v1 v2 rows1 rows2 vals1 vals2) (hb : Below w.heap.size w w') : Two ts t tz B w' ob v1 v2 rows1 rows2 vals1 vals2 :=
  ⟨h.box.later hb, h.low, Nat.le_trans h.bsz hb.size, h.l1.later hb, h.l2.later hb, h.ne⟩

theorem store_low (h : LstV ts t B w v rows vals) (hl : ob < B) (i : Nat) (u : Value) : LstV ts t B (w.setCell ⟨ob, i, none⟩ u) v rows vals :=
  h.of_blocks (fun k hk _ => Below.heap_setCell w ⟨ob, i, none⟩ u k (by show k ≠ ob; omega)) (by simp [World.setCell])

theorem Two.kept1 {tmp : Obj} (h : Two ts t tz B w ob v1 v2 rows1 rows2 vals1 vals2) (hg : (w.alloc tmp).grownBy w1 v1.ownBlock) : Blk w1 ob tz [v1, v2] :=
  (hg.block ob (by have := h.box.lt; simp; omega) (fun e => by
    have := (own_type h.l1.own e.symm).2.1
    have := h.low
    omega)).trans (h.box.later ((Below.refl _ _).alloc (Nat.le_refl _) _))
theorem Two.kept2 {tmp : Obj} (h : Two ts t tz B w ob v1 v2 rows1 rows2 vals1 vals2) (hg : (w.alloc tmp).grownBy w1 v2.ownBlock) : Blk w1 ob tz [v1, v2] :=
  (hg.block ob (by have := h.box.lt; simp; omega) (fun e => by
    have := (own_type h.l2.own e.symm).2.1
    have := h.low
    omega)).trans (h.box.later ((Below.refl _ _).alloc (Nat.le_refl _) _))

/-- A row is appended to the first list. -/
theorem Two.push1 {A : Option Addr} {c : Nat} {r : List Int} {tmp : Obj} (hne : ts ≠ t) (h : Two ts t tz B w ob v1 v2 rows1 rows2 vals1 vals2) (hA : Obj1 t B w.heap.size w A r)
    (hdis : ∀ (i : Nat) (u : Value) (g : Nat), vals1[i]? = some u → u.ownBlock = some g → ∀ a, A = some a → a.block ≠ g)
    (hown : w1.ownsRow B ts 1 v' (rows1.length + 1) (vals1 ++ [.slice A r.length c])) (hg : (w.alloc tmp).grownBy w1 v1.ownBlock) (hat : v'.ownBlock = v1.ownBlock ∨ v'.ownBlock = some (w.alloc tmp).heap.size) :
    Two ts t tz B (w1.setCell ⟨ob, 0, none⟩ v') ob v' v2 (rows1 ++ [r]) rows2 (vals1 ++ [.slice A r.length c]) vals2 := by
  have hal : Below w.heap.size w (w.alloc tmp) := (Below.refl _ _).alloc (Nat.le_refl _) _
  have hobw : ob < w.heap.size := h.box.lt
  have hob1 : some ob ≠ v1.ownBlock := fun e => by
    have := (own_type h.l1.own e.symm).2.1
    have := h.low
    omega
  have hv2 : v2.ownBlock = none ∨ v2.ownBlock ≠ v1.ownBlock := by
    cases e : v2.ownBlock with
    | none => exact .inl rfl
    | some g => exact .inr (fun e2 => h.ne g e2.symm e)
  have hk : KeepT t (w.alloc tmp) w1 := KeepT.of_grown hne (ownsRow_below h.l1.own hal) hg
  refine ⟨?_, h.low, by have h1 := hg.size; have h2 := h.bsz; simp at h1; simp [World.setCell]; omega, store_low (h.l1.push2 hne hA hdis hown hg) h.low _ _, store_low ((h.l2.later hal).beside hg hv2 hk) h.low _ _, fun g hg1 => ?_⟩
  · have hb1 : Blk w1 ob tz [v1, v2] := (hg.block ob (by simp; omega) hob1).trans (h.box.later hal)
    exact hb1.set 0 v'
  · rcases hat with e | e
    · exact h.ne g (e ▸ hg1)
    · intro e2
      have h3 := (own_type h.l2.own e2).1
      rw [e] at hg1
      simp at hg1
      omega

/-- .. to the second one. -/
theorem Two.push2 {A : Option Addr} {c : Nat} {r : List Int} {tmp : Obj} (hne : ts ≠ t) (h : Two ts t tz B w ob v1 v2 rows1 rows2 vals1 vals2) (hA : Obj1 t B w.heap.size w A r)
    (hdis : ∀ (i : Nat) (u : Value) (g : Nat), vals2[i]? = some u → u.ownBlock = some g → ∀ a, A = some a → a.block ≠ g)
    (hown : w1.ownsRow B ts 1 v' (rows2.length + 1) (vals2 ++ [.slice A r.length c])) (hg : (w.alloc tmp).grownBy w1 v2.ownBlock) (hat : v'.ownBlock = v2.ownBlock ∨ v'.ownBlock = some (w.alloc tmp).heap.size) :
    Two ts t tz B (w1.setCell ⟨ob, 1, none⟩ v') ob v1 v' rows1 (rows2 ++ [r]) vals1 (vals2 ++ [.slice A r.length c]) := by
  have hal : Below w.heap.size w (w.alloc tmp) := (Below.refl _ _).alloc (Nat.le_refl _) _
  have hobw : ob < w.heap.size := h.box.lt
  have hob1 : some ob ≠ v2.ownBlock := fun e => by
    have := (own_type h.l2.own e.symm).2.1
    have := h.low
    omega
  have hv2 : v1.ownBlock = none ∨ v1.ownBlock ≠ v2.ownBlock := by
    cases e : v1.ownBlock with
    | none => exact .inl rfl
    | some g => exact .inr (fun e2 => h.ne g e e2.symm)
  have hk : KeepT t (w.alloc tmp) w1 := KeepT.of_grown hne (ownsRow_below h.l2.own hal) hg
  refine ⟨?_, h.low, by have h1 := hg.size; have h2 := h.bsz; simp at h1; simp [World.setCell]; omega, store_low ((h.l1.later hal).beside hg hv2 hk) h.low _ _, store_low (h.l2.push2 hne hA hdis hown hg) h.low _ _, fun g hg1 e2 => ?_⟩
  · have hb1 : Blk w1 ob tz [v1, v2] := (hg.block ob (by simp; omega) hob1).trans (h.box.later hal)
    exact hb1.set 1 v'
  · rcases hat with e | e
    · exact h.ne g hg1 (e ▸ e2)
    · have h3 := (own_type h.l1.own hg1).1
      rw [e] at e2
      simp at e2
      omega

theorem Two.start (w : World) (ts t tz : TypeId) (hb : Blk w ob tz [.slice none 0 0, .slice none 0 0]) : Two ts t tz (ob + 1) w ob (.slice none 0 0) (.slice none 0 0) [] [] [] [] :=
  ⟨hb, Nat.lt_succ_self _, hb.lt, LstV.nil _ _ _ _, LstV.nil _ _ _ _, fun g h => by cases h⟩

/-- Block g of the row is kept by pushing to a list. -/
theorem push_keeps {lo hi : Nat} {A : Option Addr} {xs : List Int} {n : Nat} {ys : List Value} {tmp : Obj} (hne : ts ≠ t) (ho : w.ownsRow B ts 1 v n ys) (hg : (w.alloc tmp).grownBy w1 v.ownBlock) (h : Obj1 t lo hi w A xs) : Obj1 t lo hi w1 A xs :=
  (KeepT.of_grown (t := t) hne (ownsRow_below ho ((Below.refl _ _).alloc (Nat.le_refl _) _)) hg).obj (h.later ((Below.refl _ _).alloc (Nat.le_refl _) _))

/-- Appending to list 1 and storing the result leaves the blocks below the lists, but for the box. -/
theorem Two.frame1 {tmp : Obj} (h : Two ts t tz B w ob v1 v2 rows1 rows2 vals1 vals2) (hg : (w.alloc tmp).grownBy w1 v1.ownBlock) (u : Value) {k : Nat} (hk : k < B) (hne : k ≠ ob) (hkw : k < w.heap.size) : (w1.setCell ⟨ob, 0, none⟩ u).heap[k]? = w.heap[k]? :=
  (Below.heap_setCell w1 ⟨ob, 0, none⟩ u k hne).trans ((hg.block k (by simp; omega) (fun e => by
    have := (own_type h.l1.own e.symm).2.1
    omega)).trans (((Below.refl w.heap.size w).alloc (Nat.le_refl _) tmp).block k hkw))
theorem Two.below1 {tmp : Obj} {b0 : Nat} {w0 : World} (h : Two ts t tz B w ob v1 v2 rows1 rows2 vals1 vals2) (hg : (w.alloc tmp).grownBy w1 v1.ownBlock) (u : Value) (hb : Below b0 w0 w) (h0 : b0 ≤ ob) : Below b0 w0 (w1.setCell ⟨ob, 0, none⟩ u) :=
  ((hb.alloc (by have := h.box.lt; omega) tmp).grown hg (by have := h.box.lt; simp; omega) (fun g e => by
    have := (own_type h.l1.own e).2.1
    have := h.low
    omega)).setCell (p := ⟨ob, 0, none⟩) h0 u
theorem Two.add1 {w0 : World} {A : Option Addr} {c k x gg cap : Nat} {r : List Int} {tmp : Obj} {lo : Nat} (hne : ts ≠ t) (h0 : Two ts t tz B w0 ob v1 v2 rows1 rows2 vals1 vals2 ∨ ∃ u u' R R' VS VS', Two ts t tz B w0 ob u u' R R' VS VS' ∧ v1 = u ∧ rows1 = R ∧ vals1 = VS) (h : Two ts t tz B w ob v1 v2 rows1 rows2 vals1 vals2) (hlo : w0.heap.size ≤ lo) (hA : Obj1 t lo w.heap.size w A r) (hl : rows1.length = x) (hr : r.length = k)
    (hown : w1.ownsRow B ts 1 (.slice (some ⟨gg, 0, none⟩) (x + 1) cap) (x + 1) (vals1 ++ [.slice A k c])) (hg : (w.alloc tmp).grownBy w1 v1.ownBlock) (hat : v1.ownBlock = some gg ∨ gg = w.heap.size + 1) :
    Two ts t tz B (w1.setCell ⟨ob, 0, none⟩ (.slice (some ⟨gg, 0, none⟩) (x + 1) cap)) ob (.slice (some ⟨gg, 0, none⟩) (x + 1) cap) v2 (rows1 ++ [r]) rows2 (vals1 ++ [.slice A k c]) vals2 := by
  have hlow : ∀ (i : Nat) (u : Value) (g : Nat), vals1[i]? = some u → u.ownBlock = some g → g < w0.heap.size := by
    rcases h0 with h0 | ⟨u, u', R, R', VS, VS', h0, rfl, rfl, rfl⟩
    · exact h0.l1.low
    · exact h0.l1.low
  have hB : B ≤ w0.heap.size := by
    rcases h0 with h0 | ⟨u, u', R, R', VS, VS', h0, _⟩
    · have := h0.box.lt; have := h0.low; have := h0.l1.own; exact h0.bsz
    · exact h0.bsz
  subst hr
  subst hl
  refine h.push1 hne (hA.mono (by omega) (Nat.le_refl _)) (fun i u g hu hug a ha => ?_) hown hg ?_
  · have h1 := hlow i u g hu hug
    have h2 := (hA.bounds a ha).1
    omega
  · rcases hat with e | e
    · exact .inl (by rw [e]; rfl)
    · exact .inr (by rw [e]; simp [Value.ownBlock])

/-- Appending to list 2 and storing the result leaves the blocks below the lists, but for the box. -/
theorem Two.frame2 {tmp : Obj} (h : Two ts t tz B w ob v1 v2 rows1 rows2 vals1 vals2) (hg : (w.alloc tmp).grownBy w1 v2.ownBlock) (u : Value) {k : Nat} (hk : k < B) (hne : k ≠ ob) (hkw : k < w.heap.size) : (w1.setCell ⟨ob, 1, none⟩ u).heap[k]? = w.heap[k]? :=
  (Below.heap_setCell w1 ⟨ob, 1, none⟩ u k hne).trans ((hg.block k (by simp; omega) (fun e => by
    have := (own_type h.l2.own e.symm).2.1
    omega)).trans (((Below.refl w.heap.size w).alloc (Nat.le_refl _) tmp).block k hkw))
theorem Two.below2 {tmp : Obj} {b0 : Nat} {w0 : World} (h : Two ts t tz B w ob v1 v2 rows1 rows2 vals1 vals2) (hg : (w.alloc tmp).grownBy w1 v2.ownBlock) (u : Value) (hb : Below b0 w0 w) (h0 : b0 ≤ ob) : Below b0 w0 (w1.setCell ⟨ob, 1, none⟩ u) :=
  ((hb.alloc (by have := h.box.lt; omega) tmp).grown hg (by have := h.box.lt; simp; omega) (fun g e => by
    have := (own_type h.l2.own e).2.1
    have := h.low
    omega)).setCell (p := ⟨ob, 1, none⟩) h0 u
theorem Two.add2 {w0 : World} {A : Option Addr} {c k x gg cap : Nat} {r : List Int} {tmp : Obj} {lo : Nat} (hne : ts ≠ t) (h0 : Two ts t tz B w0 ob v1 v2 rows1 rows2 vals1 vals2 ∨ ∃ u u' R R' VS VS', Two ts t tz B w0 ob u u' R R' VS VS' ∧ v2 = u' ∧ rows2 = R' ∧ vals2 = VS') (h : Two ts t tz B w ob v1 v2 rows1 rows2 vals1 vals2) (hlo : w0.heap.size ≤ lo) (hA : Obj1 t lo w.heap.size w A r) (hl : rows2.length = x) (hr : r.length = k)
    (hown : w1.ownsRow B ts 1 (.slice (some ⟨gg, 0, none⟩) (x + 1) cap) (x + 1) (vals2 ++ [.slice A k c])) (hg : (w.alloc tmp).grownBy w1 v2.ownBlock) (hat : v2.ownBlock = some gg ∨ gg = w.heap.size + 1) :
    Two ts t tz B (w1.setCell ⟨ob, 1, none⟩ (.slice (some ⟨gg, 0, none⟩) (x + 1) cap)) ob v1 (.slice (some ⟨gg, 0, none⟩) (x + 1) cap) rows1 (rows2 ++ [r]) vals1 (vals2 ++ [.slice A k c]) := by
  have hlow : ∀ (i : Nat) (u : Value) (g : Nat), vals2[i]? = some u → u.ownBlock = some g → g < w0.heap.size := by
    rcases h0 with h0 | ⟨u, u', R, R', VS, VS', h0, rfl, rfl, rfl⟩
    · exact h0.l2.low
    · exact h0.l2.low
  have hB : B ≤ w0.heap.size := by
    rcases h0 with h0 | ⟨u, u', R, R', VS, VS', h0, _⟩
    · have := h0.box.lt; have := h0.low; have := h0.l1.own; exact h0.bsz
    · exact h0.bsz
  subst hr
  subst hl
  refine h.push2 hne (hA.mono (by omega) (Nat.le_refl _)) (fun i u g hu hug a ha => ?_) hown hg ?_
  · have h1 := hlow i u g hu hug
    have h2 := (hA.bounds a ha).1
    omega
  · rcases hat with e | e
    · exact .inl (by rw [e]; rfl)
    · exact .inr (by rw [e]; simp [Value.ownBlock])

theorem row_kept {k : Nat} {lo hi : Nat} {A : Option Addr} {xs : List Int} {n : Nat} {ys : List Value} {tmp : Obj} (hne : ts ≠ t) (ho : w.ownsRow B ts 1 v n ys) (hg : (w.alloc tmp).grownBy w1 v.ownBlock) (h : Obj1 t lo hi w A xs) (hk : ob < lo) (u : Value) : Obj1 t lo hi (w1.setCell ⟨ob, k, none⟩ u) A xs :=
  (push_keeps hne ho hg h).set (p := ⟨ob, k, none⟩) (.inl hk) u
end
end Go.Proofs.Ytclgjkmoeeklkaa
namespace Go.Proofs.Ytclgjkmoeeklkaa
open Go Go.RowKit
open Go.ChangeMaps (setBlock heap_setBlock_same heap_setBlock_other)
open Classical
set_option maxRecDepth 100000

/-- The map from each pair to the list of those that are led to it, among the first k: G tells the slices. -/
structure Led (w : World) (b B n k : Nat) (f s : List (List Int)) (G : Nat × Nat → Value) : Prop where
  map : ∃ V, MapV w b k V ∧ ∀ p : Nat × Nat, (V (pkey p.1 p.2)).getD (.slice none 0 0) = G p
  low : b < B
  rows : ∀ p : Nat × Nat, w.ownsRow B 78 2 (G p) (ledL f s n k p).length (pcs n (ledL f s n k p))
  ne : ∀ (p p' : Nat × Nat) (g : Nat), p ≠ p' → (G p).ownBlock = some g → (G p').ownBlock ≠ some g

theorem Led.start {w : World} {b : Nat} {V : Value → Option Value} (h : MapV w b 0 V) (hV : ∀ v, V v = none) (B n : Nat) (f s : List (List Int)) (hb : b < B) : Led w b B n 0 f s (fun _ => .slice none 0 0) :=
  ⟨⟨V, h, fun p => by rw [hV]; rfl⟩, hb, fun p => ⟨by simp [ledL, pcs], .inl ⟨rfl, by simp [ledL]⟩⟩, fun _ _ _ _ h => by cases h⟩
theorem Led.lt {w : World} {b B n k : Nat} {f s : List (List Int)} {G : Nat × Nat → Value} (h : Led w b B n k f s G) : b < w.heap.size := by
  obtain ⟨V, hm, _⟩ := h.map
  exact hm.lt
theorem ownsRow2_later {w w' : World} {B n : Nat} {t : TypeId} {v : Value} {xs : List Value} (h : w.ownsRow B t 2 v n xs) (hb : Below w.heap.size w w') : w'.ownsRow B t 2 v n xs := by
  obtain ⟨hl, h | ⟨g, cap, cur, hv, h1, hg, hn, hcap, hsz, hxs⟩⟩ := h
  · exact ⟨hl, .inl h⟩
  · exact ⟨hl, .inr ⟨g, cap, cur, hv, h1, (hb.block g (Array.getElem?_eq_some_iff.1 hg).1).trans hg, hn, hcap, hsz, hxs⟩⟩
theorem Led.later {w w' : World} {b B n k : Nat} {f s : List (List Int)} {G : Nat × Nat → Value} (h : Led w b B n k f s G) (hb : Below w.heap.size w w') : Led w' b B n k f s G := by
  obtain ⟨⟨V, hm, hV⟩, h1, h2, h3⟩ := h
  exact ⟨⟨V, hm.later hb, hV⟩, h1, fun p => ownsRow2_later (h2 p) hb, h3⟩

theorem led_low {w : World} {b B n k : Nat} {f s : List (List Int)} {G : Nat × Nat → Value} (h : Led w b B n k f s G) (p : Nat × Nat) : some b ≠ (G p).ownBlock := fun e => by
  have h1 := (h.rows p).lt b e.symm
  have h2 := h.low
  omega

/-- A pair is appended to the list at the pair to which it is led: the entry is looked up, the slice appended to, and laid back. -/
theorem Led.step {w : World} {b B n k : Nat} {f s : List (List Int)} {G : Nat × Nat → Value} {t : TypeId} (h : Led w b B n k f s G) (ht : Try.prog.underlying t = some (.map 78 86)) (hz : ∀ u : World, (zeroValue 86).run Try.prog u = .ok (.slice none 0 0) u) (hk : k < maxLen) (q : Nat × Nat) (hq : ledK f s n k = q) (hq1 : q.1 < 4611686018427387904) (hq2 : q.2 < 4611686018427387904) :
    ∃ st W, (Instr.mapEntry t (.map (some b)) (.agg #[.int .i64 q.1, .int .i64 q.2])).run Try.prog w = .ok (.tuple #[G q, .int .i64 st]) W ∧ (∀ i, i ≠ b → W.heap[i]? = w.heap[i]?) ∧ W.heap.size = w.heap.size ∧ w.grownBy W (some b) ∧
      (W.ownsRow B 78 2 (G q) (ledL f s n k q).length (pcs n (ledL f s n k q))) ∧
      ∀ (w1 : World) (v' : Value), W.grownBy w1 (G q).ownBlock → w1.ownsRow B 78 2 v' ((ledL f s n k q).length + 1) (pcs n (ledL f s n k q) ++ [.int .i64 ((k / n : Nat) : Int), .int .i64 ((k % n : Nat) : Int)]) → (v'.ownBlock = (G q).ownBlock ∨ v'.ownBlock = some W.heap.size) →
        ∃ w3, (Instr.entryStore t (.map (some b)) (.int .i64 st) v').run Try.prog w1 = .ok () w3 ∧ w1.grownBy w3 (some b) ∧ Led w3 b B n (k + 1) f s (fun p => if p = q then v' else G p) := by
  obtain ⟨V, hm, hV⟩ := h.map
  have hlow := h.low
  have hrows := h.rows
  have hne := h.ne
  have hltb := hm.lt
  obtain ⟨kl, hkey⟩ := mp_key w q.1 q.2 hq1 hq2
  obtain ⟨st, es1, clock1, hE, hS⟩ := hm.entry ht hz hk hkey
  have hbk : ∃ es clock, w.heap[b]? = some (.map es clock) := by
    obtain ⟨D, ⟨es, clock, hb, _⟩, _⟩ := hm
    exact ⟨es, clock, hb⟩
  obtain ⟨es0, clock0, hb0⟩ := hbk
  have hother : ∀ i, i ≠ b → (setBlock w b (.map es1 clock1)).heap[i]? = w.heap[i]? := fun i hi => heap_setBlock_other hb0 _ hi
  have hsize : (setBlock w b (.map es1 clock1)).heap.size = w.heap.size := by simp [setBlock]
  have hgr : w.grownBy (setBlock w b (.map es1 clock1)) (some b) := ⟨rfl, rfl, rfl, by simp [setBlock], fun i _ hi => heap_setBlock_other hb0 _ (fun e => hi (by rw [e]))⟩
  have hkeep : ∀ p : Nat × Nat, (setBlock w b (.map es1 clock1)).ownsRow B 78 2 (G p) (ledL f s n k p).length (pcs n (ledL f s n k p)) := fun p => (hrows p).kept hgr (by
    cases e : (G p).ownBlock with
    | none => exact .inl rfl
    | some g => exact .inr (fun e2 => led_low h p (by rw [e, e2])))
  refine ⟨st, setBlock w b (.map es1 clock1), ?_, hother, hsize, hgr, hkeep q, fun w1 v' hg1 hown hat => ?_⟩
  · rw [← hV q]; exact hE
  have hb1 : w1.heap[b]? = some (.map es1 clock1) := (hg1.block b (by rw [hsize]; exact hltb) (led_low h q)).trans (heap_setBlock_same hb0 _)
  obtain ⟨es', clock', hrun, hMap⟩ := hS w1 v' hb1
  have hgr3 : w1.grownBy (setBlock w1 b (.map es' clock')) (some b) := ⟨rfl, rfl, rfl, by simp [setBlock], fun i _ hi => heap_setBlock_other hb1 _ (fun e => hi (by rw [e]))⟩
  refine ⟨setBlock w1 b (.map es' clock'), hrun, hgr3, ⟨_, hMap, fun p => ?_⟩, hlow, fun p => ?_, fun p p' g hpp hg hg' => ?_⟩
  · by_cases e : p = q
    · subst e
      simp
    · have e2 : pkey p.1 p.2 ≠ pkey q.1 q.2 := fun e3 => e (by
        obtain ⟨e4, e5⟩ := pkey_inj e3
        exact Prod.ext e4 e5)
      simp only [if_neg e, if_neg e2]
      exact hV p
  · rw [ledL_succ]
    by_cases e : p = q
    · subst e
      simp only [if_pos, hq]
      rw [List.length_append, List.length_singleton, pcs_snoc]
      refine hown.kept hgr3 ?_
      cases e : v'.ownBlock with
      | none => exact .inl rfl
      | some g =>
        refine .inr (fun e2 => ?_)
        injection e2 with e2
        have := hown.lt g e
        omega
    · have e2 : ¬ ledK f s n k = p := fun e3 => e (e3.symm.trans hq)
      simp only [if_neg e, if_neg e2]
      have h1 : w1.ownsRow B 78 2 (G p) (ledL f s n k p).length (pcs n (ledL f s n k p)) := (hkeep p).kept hg1 (by
        cases e3 : (G p).ownBlock with
        | none => exact .inl rfl
        | some g => exact .inr (fun e4 => hne p q g e e3 e4.symm))
      refine h1.kept hgr3 ?_
      cases e3 : (G p).ownBlock with
      | none => exact .inl rfl
      | some g => exact .inr (fun e4 => led_low h p (by rw [e3, e4]))
  · have hnew : ∀ p'', p'' ≠ q → ∀ g, v'.ownBlock = some g → (G p'').ownBlock ≠ some g := fun p'' hp g hg hg' => by
      rcases hat with e | e
      · exact hne p'' q g hp hg' (e ▸ hg)
      · rw [hg] at e
        injection e with e
        have := (hrows p'').lt g hg'
        omega
    by_cases e : p = q
    · have e2 : p' ≠ q := fun e2 => hpp (e.trans e2.symm)
      simp only [if_pos e] at hg
      simp only [if_neg e2] at hg'
      exact hnew p' e2 g hg hg'
    · simp only [if_neg e] at hg
      by_cases e2 : p' = q
      · simp only [if_pos e2] at hg'
        exact hnew p e g hg' hg
      · simp only [if_neg e2] at hg'
        exact hne p p' g hpp hg hg'
end Go.Proofs.Ytclgjkmoeeklkaa
namespace Go.Proofs.Ytclgjkmoeeklkaa
open Go Go.RowKit
/-- The condition of racks at the list of number T. -/
def Rk3 (f : List (List Int)) (n T : Nat) : Prop := ap f (trip n T).1 (ap f (trip n T).2.1 (trip n T).2.2) = ap f (ap f (trip n T).1 (trip n T).2.1) (ap f (trip n T).1 (trip n T).2.2)
def FirstK (f : List (List Int)) (n T : Nat) : Prop := (∀ i, i < T → Rk3 f n i) ∧ T ≤ n * n * n ∧ (T < n * n * n → ¬ Rk3 f n T)
theorem FirstK.ex (f : List (List Int)) (n : Nat) : ∃ T, FirstK f n T := by
  have h : ∀ k, k ≤ n * n * n → (∀ i, i < k → Rk3 f n i) ∨ ∃ T, FirstK f n T := by
    intro k
    induction k with
    | zero => intro _; exact .inl (fun i hi => absurd hi (Nat.not_lt_zero _))
    | succ k ih =>
      intro hk
      rcases ih (by omega) with h | h
      · by_cases e : Rk3 f n k
        · refine .inl (fun i hi => ?_)
          by_cases e2 : i = k
          · subst e2; exact e
          · exact h i (by omega)
        · exact .inr ⟨k, h, by omega, fun _ => e⟩
      · exact .inr h
  rcases h _ (Nat.le_refl _) with h | h
  · exact ⟨_, h, Nat.le_refl _, fun h2 => absurd h2 (by omega)⟩
  · exact h
theorem FirstK.bad {f : List (List Int)} {n T k : Nat} (h : FirstK f n T) (h1 : ∀ i, i < k → Rk3 f n i) (hk : k < n * n * n) (h2 : ¬ Rk3 f n k) : T = k := by
  have a : ¬ k < T := fun h3 => h2 (h.1 k h3)
  have b : ¬ T < k := fun h3 => h.2.2 (by omega) (h1 T h3)
  omega
theorem FirstK.all {f : List (List Int)} {n T : Nat} (h : FirstK f n T) (h1 : ∀ i, i < n * n * n → Rk3 f n i) : T = n * n * n := by
  have a := h.2.1
  have b : ¬ T < n * n * n := fun h3 => h.2.2 h3 (h1 T h3)
  omega
theorem FirstK.iff {f : List (List Int)} {n T : Nat} (h : FirstK f n T) : T = n * n * n ↔ ∀ i, i < n * n * n → Rk3 f n i :=
  ⟨fun e i hi => h.1 i (by omega), h.all⟩
theorem Rk3.at {f : List (List Int)} {n x y z : Nat} (hy : y < n) (hz : z < n) : Rk3 f n ((x * n + y) * n + z) ↔ ap f x (ap f y z) = ap f (ap f x y) (ap f x z) := by
  unfold Rk3
  rw [trip_of hy hz]
/-- What a rack is. -/
def Rck (f : List (List Int)) : Prop := (Tbl f ∧ AllPrm f) ∧ ∀ i, i < f.length * f.length * f.length → Rk3 f f.length i
def RkRes (f : List (List Int)) (r : Bool) : Prop := r = true ↔ Rck f
theorem RkRes.ex (f : List (List Int)) : ∃ r, RkRes f r := bool_of _
def RkFRes (f : List (List Int)) (zs : List Int) (code : Int) : Prop :=
  (∃ T, (Tbl f ∧ AllPrm f) ∧ FirstK f f.length T ∧ ((T < f.length * f.length * f.length ∧ zs = lst3 (trip f.length T) ∧ code = 0) ∨ (T = f.length * f.length * f.length ∧ zs = [] ∧ code = 4))) ∨ (Tbl f ∧ ¬ AllPrm f ∧ zs = [] ∧ code = 5) ∨ (¬ Tbl f ∧ zs = [] ∧ code = 1)
theorem RkFRes.ex (f : List (List Int)) : ∃ zs code, RkFRes f zs code ∧ zs.length ≤ 1048576 := by
  by_cases h : Tbl f
  · by_cases h1 : AllPrm f
    · obtain ⟨T, hT⟩ := FirstK.ex f f.length
      by_cases h2 : T < f.length * f.length * f.length
      · exact ⟨_, _, .inl ⟨T, ⟨h, h1⟩, hT, .inl ⟨h2, rfl, rfl⟩⟩, by simp [lst3]⟩
      · exact ⟨_, _, .inl ⟨T, ⟨h, h1⟩, hT, .inr ⟨by have := hT.2.1; omega, rfl, rfl⟩⟩, by simp⟩
    · exact ⟨_, _, .inr (.inl ⟨h, h1, rfl, rfl⟩), by simp⟩
  · exact ⟨_, _, .inr (.inr ⟨h, rfl, rfl⟩), by simp⟩
theorem Rck.tbl {f : List (List Int)} (h : Rck f) : Tbl f := h.1.1
theorem Rck.prm {f : List (List Int)} (h : Rck f) : AllPrm f := h.1.2
end Go.Proofs.Ytclgjkmoeeklkaa
namespace Go.Proofs.Ytclgjkmoeeklkaa
open Go Go.RowKit
def kinkL (f : List (List Int)) : List Int := (List.range f.length).map fun (x : Nat) => ((ap f x x : Nat) : Int)
theorem kinkL_length (f : List (List Int)) : (kinkL f).length = f.length := by simp [kinkL]
theorem kinkL_getD (f : List (List Int)) (k : Nat) (h : k < f.length) : (kinkL f).getD k 0 = ((ap f k k : Nat) : Int) := by simp [kinkL, h]
def KinkRes (f : List (List Int)) (zs : List Int) (code : Int) : Prop := (Rck f ∧ zs = kinkL f ∧ code = 0) ∨ (¬ Rck f ∧ zs = [] ∧ code = 1)
theorem KinkRes.ex (f : List (List Int)) : ∃ zs code, KinkRes f zs code ∧ zs.length ≤ 1048576 := by
  by_cases h : Rck f
  · exact ⟨_, _, .inl ⟨h, rfl, rfl⟩, by rw [kinkL_length]; have := h.tbl.2.1; omega⟩
  · exact ⟨_, _, .inr ⟨h, rfl, rfl⟩, by simp⟩
theorem kq_take (zs : List Int) (k : Nat) (y : Int) (h : k < zs.length) (hy : zs.getD k 0 = y) : ints (zs.take k) ++ [.int .i64 y] = ints (zs.take (k + 1)) := by
  rw [List.take_succ_eq_append_getElem h]
  have : zs[k] = y := by simpa [h] using hy
  simp [ints, this]
theorem kq_empty (w : World) (t : TypeId) : (w.alloc (.cells #[] t)).ownsRow w.heap.size t 1 (.slice (some ⟨w.heap.size, 0, none⟩) 0 0) 0 [] :=
  ⟨by simp, .inr ⟨w.heap.size, 0, #[], rfl, Nat.le_refl _, heap_alloc_new _ _, Nat.le_refl _, by unfold maxLen; omega, by simp, by simp⟩⟩
theorem kq_new {w : World} {v : Value} {t : TypeId} : ∀ j u, [v][j]? = some u → (w.alloc (.cells #[v] t)).cell? ((⟨w.heap.size, 0, none⟩ : Addr).add j) = some u := by
  intro j u hj
  match j, hj with
  | 0, hj => simp at hj; subst hj; simp [Addr.add, World.cell?_alloc_new]
theorem kqInfo : (Try.prog.info? 2).map (fun i => (i.zero, i.size, i.bytes)) = some (some (.int .i64 0), 1, 8) := by kernel_rfl
/-- The last lines of a row that was filled from the front. -/
theorem kq_fill (zs : List Int) (n k : Nat) (hz : zs.length = n) (hk : k < n) : ((zs.take k ++ List.replicate (n - k) 0).set k (zs.getD k 0)) = zs.take (k + 1) ++ List.replicate (n - (k + 1)) 0 := by
  apply List.ext_getElem
  · simp; omega
  · intro i h1 h2
    simp only [List.getElem_set, List.getElem_append, List.length_take, List.getElem_take, List.getElem_replicate]
    by_cases e : k = i
    · subst e
      rw [if_pos rfl, dif_pos (by omega)]
      simp [show k < zs.length by omega]
    · rw [if_neg e]
      by_cases e2 : i < k
      · rw [dif_pos (by omega), dif_pos (by omega)]
      · rw [dif_neg (by omega), dif_neg (by omega)]
end Go.Proofs.Ytclgjkmoeeklkaa
namespace Go.Proofs.Ytclgjkmoeeklkaa
open Go Go.RowKit
set_option maxHeartbeats 4000000
theorem colInfo2 : (Try.prog.info? 78).map (fun i => (i.zero, i.size, i.bytes)) = some (some (.agg #[.int .i64 0, .int .i64 0]), 2, 16) := by kernel_rfl
theorem colZero (u : World) : (zeroValue 86).run Try.prog u = .ok (.slice none 0 0) u := by kernel_rfl
theorem ck_new {w : World} {v v2 : Value} {t : TypeId} : ∀ j u, [v, v2][j]? = some u → (w.alloc (.cells #[v, v2] t)).cell? ((⟨w.heap.size, 0, none⟩ : Addr).add j) = some u := by
  intro j u hj
  match j, hj with
  | 0, hj => simp at hj; subst hj; simp [Addr.add, World.cell?_alloc_new]
  | 1, hj => simp at hj; subst hj; simp [Addr.add, World.cell?_alloc_new]

set_option maxRecDepth 100000 in
theorem coll_any (A : Option Addr) (n c : Nat) (f : List (List Int)) (B : Option Addr) (m d : Nat) (s : List (List Int)) (w : World) (hz : ZArg 1048576 w A n f B m s) (hp : PMap f s) :
    Calls Try.prog 77 #[.agg #[.slice A n c, .slice B m d]] w fun e w' => Below w.heap.size w w' ∧ ((NoCol f s n ∧ e = .returned (.tuple #[.agg #[.int .i64 (0 : Nat), .int .i64 (0 : Nat)], .agg #[.int .i64 (0 : Nat), .int .i64 (0 : Nat)], .bool false])) ∨
      ∃ a b, FstCol f s n a b ∧ e = .returned (.tuple #[.agg #[.int .i64 (a / n : Nat), .int .i64 (a % n : Nat)], .agg #[.int .i64 (b / n : Nat), .int .i64 (b % n : Nat)], .bool true])) := by
  have hnb := hz.sz.nb
  have HZ := hide hz
  have HP := hide hp
  have HFL := hide hz.sz.fl
  have h12 := hz.small hp
  obtain ⟨N, hN⟩ : ∃ N, n * n = N := ⟨_, rfl⟩
  have hN144 : N ≤ 144 := by rw [← hN]; exact sq_le n h12.2
  have HN := hide hN
  obtain ⟨i0, hi, hz0, hz1, hz2⟩ := info_parts colInfo2
  have hmm := @run_makeMap Try.prog
  clear hp hz hN
  go_enter Try.func77, Try.ntmps77
  go_wp2_with fail
  clear hmm
  refine calls_gen fun w0 hw0 => ?_
  have HB0 : Hid (Below w.heap.size w w0) := hide (by rw [hw0]; exact ((((Below.refl _ _).alloc (Nat.le_refl _) _).alloc (by simp) _).alloc (by simp; omega) _).alloc (by simp; omega) _)
  have HK0 : Hid (Blk w0 w.heap.size 43 [.slice A n c, .slice B m d]) := hide (by rw [hw0]; exact (((Blk.new _ _ _).alloc _).alloc _).alloc _)
  have HO0 : Hid (Blk w0 (w.heap.size + 1) 78 [.int .i64 0, .int .i64 0]) := hide (by rw [hw0]; have h := ((Blk.new (w.alloc (Obj.cells #[Value.slice A n c, Value.slice B m d] 43)) 78 [.int .i64 0, .int .i64 0]).alloc (Obj.cells #[.int .i64 0, .int .i64 0] 78)).alloc (.map #[] 0); simpa using h)
  have HU0 : Hid (Blk w0 (w.heap.size + 1 + 1) 78 [.int .i64 0, .int .i64 0]) := hide (by rw [hw0]; have h := (Blk.new ((w.alloc (Obj.cells #[Value.slice A n c, Value.slice B m d] 43)).alloc (Obj.cells #[.int .i64 0, .int .i64 0] 78)) 78 [.int .i64 0, .int .i64 0]).alloc (.map #[] 0); simpa using h)
  have HM0 : Hid (MapV w0 (w.heap.size + 1 + 1 + 1) 0 (fun _ => none)) := hide (by rw [hw0]; have h := MapV.made (((w.alloc (Obj.cells #[Value.slice A n c, Value.slice B m d] 43)).alloc (Obj.cells #[.int .i64 0, .int .i64 0] 78)).alloc (Obj.cells #[.int .i64 0, .int .i64 0] 78)); simpa using h)
  clear hw0
  refine (size_any _ _ _ _ _ _ _ hnb).mono ?_
  rintro e w2 ⟨rfl, hb2⟩
  have HB2 := hide (HB0.out.trans (hb2.mono HB0.out.size))
  have HK2 := hide (HK0.out.later hb2)
  have HO2 := hide (HO0.out.later hb2)
  have HU2 := hide (HU0.out.later hb2)
  have HM2 := hide (HM0.out.later hb2)
  clear hb2
  go_wp2_with fail
  refine (pairsOf_any n N _ h12.1 h12.2 HN.out).mono ?_
  rintro e w3 ⟨g, rfl, hb3, hg3, hpa⟩
  have HB3 := hide (HB2.out.trans (hb3.mono HB2.out.size))
  have HK3 := hide (HK2.out.later hb3)
  have HO3 := hide (HO2.out.later hb3)
  have HU3 := hide (HU2.out.later hb3)
  have HPA3 := hide hpa
  obtain ⟨L0, hL0⟩ : ∃ L0, w3.heap.size = L0 := ⟨_, rfl⟩
  have HL3 : Hid (Led w3 (w.heap.size + 1 + 1 + 1) L0 n 0 f s (fun _ => .slice none 0 0)) := hide (Led.start (HM2.out.later hb3) (fun _ => rfl) _ _ _ _ (by rw [← hL0]; exact (HM2.out.later hb3).lt))
  have hgL : g < L0 := by rw [← hL0]; exact hpa.1
  have hgb : g ≠ w.heap.size + 1 + 1 + 1 := by have := HM2.out.lt; omega
  have hmL : w.heap.size + 1 + 1 + 1 < L0 := by rw [← hL0]; exact (HM2.out.later hb3).lt
  have hLs : L0 ≤ w3.heap.size := by omega
  clear hb3 hpa hL0
  go_wp2_with fail
  go_outline
  go_loopw [17] (fun i wr => ∃ (k : Nat) (G : Nat × Nat → Value), k ≤ N ∧ i = .int .i64 k ∧ Below w.heap.size w wr ∧ Blk wr w.heap.size 43 [.slice A n c, .slice B m d] ∧ Blk wr (w.heap.size + 1) 78 [.int .i64 0, .int .i64 0] ∧ Blk wr (w.heap.size + 1 + 1) 78 [.int .i64 0, .int .i64 0] ∧ PairsAt wr g n ∧ L0 ≤ wr.heap.size ∧ Led wr (w.heap.size + 1 + 1 + 1) L0 n k f s G) (fun i _ => N - (intOf i).toNat)
  case atStart => exact ⟨0, _, Nat.zero_le _, rfl, HB3.out, HK3.out, HO3.out, HU3.out, HPA3.out, hLs, HL3.out⟩
  case round =>
    obtain ⟨k, G, hk, rfl, hbe, hkk, hoo, huu, hpa, hls, hled⟩ := hrel
    have HB := hide hbe
    have HK := hide hkk
    have HO := hide hoo
    have HU := hide huu
    have HPA := hide hpa
    have HLD := hide hled
    clear hbe hkk hoo huu hpa hled
    by_cases hlt : k < N
    · have hkz : (k : Int) < N := by omega
      obtain ⟨p0, p1⟩ := HPA.out.2 k (by rw [HN.out]; exact hlt)
      have hxn : k / n < n := div_lt_sq (by rw [HN.out]; exact hlt)
      have hyn : k % n < n := mod_lt_sq (by rw [HN.out]; exact hlt)
      obtain ⟨x, hx⟩ : ∃ x, k / n = x := ⟨_, rfl⟩
      obtain ⟨y, hy⟩ : ∃ y, k % n = y := ⟨_, rfl⟩
      rw [hx] at p0 hxn
      rw [hy] at p1 hyn
      have HX := hide hx
      have HY := hide hy
      clear hx hy
      have hu := HP.out.lt1 HFL.out hxn hyn
      have hv := HP.out.lt2 HFL.out hxn hyn
      have hq : ledK f s n k = (ap f x y, ap s x y) := by unfold ledK; rw [HX.out, HY.out]
      obtain ⟨u, hue⟩ : ∃ u, ap f x y = u := ⟨_, rfl⟩
      obtain ⟨v, hve⟩ : ∃ v, ap s x y = v := ⟨_, rfl⟩
      rw [hue, hve] at hq
      rw [hue] at hu
      rw [hve] at hv
      have HQ := hide hq
      have HUE := hide hue
      have HVE := hide hve
      clear hq hue hve
      have k0 := fun o => (HK.out.alloc o).cell 0 _ rfl
      have k1 := fun o => (HK.out.alloc o).cell 1 _ rfl
      go_wp2_with fail
      clear k0 k1 p0 p1
      refine calls_gen fun w4 hw4 => ?_
      obtain ⟨P, hPe⟩ : ∃ P, wr.heap.size = P := ⟨_, rfl⟩
      have hbx : Below wr.heap.size wr w4 := by rw [hw4]; exact (Below.refl _ _).alloc (Nat.le_refl _) _
      have HP4 : Hid (Blk w4 P 78 [.int .i64 x, .int .i64 y]) := hide (by rw [hw4, ← hPe]; exact Blk.new _ _ _)
      have HB4 := hide (HB.out.trans (hbx.mono HB.out.size))
      have HK4 := hide (HK.out.later hbx)
      have HO4 := hide (HO.out.later hbx)
      have HU4 := hide (HU.out.later hbx)
      have HA4 := hide (HPA.out.later hbx)
      have HL4 := hide (HLD.out.later hbx)
      have hs4 := hbx.size
      rw [hPe]
      clear hw4 hbx
      refine (lead_any _ _ _ f _ _ _ s x y _ (HZ.out.later HB4.out) HP.out hxn hyn).mono ?_
      rintro e w5 ⟨rfl, hb5⟩
      rw [HUE.out, HVE.out]
      have HP5 := hide (HP4.out.later hb5)
      have HB5 := hide (HB4.out.trans (hb5.mono HB4.out.size))
      have HK5 := hide (HK4.out.later hb5)
      have HO5 := hide (HO4.out.later hb5)
      have HU5 := hide (HU4.out.later hb5)
      have HA5 := hide (HA4.out.later hb5)
      have HL5 := hide (HL4.out.later hb5)
      have hs5 := hb5.size
      clear hb5 hPe
      have p0 := fun o => (HP5.out.alloc o).cell 0 _ rfl
      have p1 := fun o => (HP5.out.alloc o).cell 1 _ rfl
      -- the world behind the box of q and the cells of the pair that is appended
      obtain ⟨w6, hw6⟩ : ∃ w6, w6 = (w5.alloc (Obj.cells #[Value.int IntKind.i64 u, Value.int IntKind.i64 v] 78)) := ⟨_, rfl⟩
      have hb6 : Below w5.heap.size w5 w6 := by rw [hw6]; exact (Below.refl _ _).alloc (Nat.le_refl _) _
      have hs6 : w6.heap.size = w5.heap.size + 1 := by rw [hw6]; simp
      obtain ⟨w7, hw7⟩ : ∃ w7, w7 = (w6.alloc (Obj.cells #[Value.int IntKind.i64 x, Value.int IntKind.i64 y] 78)) := ⟨_, rfl⟩
      have hb7 : Below w6.heap.size w6 w7 := by rw [hw7]; exact (Below.refl _ _).alloc (Nat.le_refl _) _
      have hs7 : w7.heap.size = w6.heap.size + 1 := by rw [hw7]; simp
      have hb57 : Below w5.heap.size w5 w7 := hb6.trans (hb7.mono hb6.size)
      have HB7 := hide (HB5.out.trans (hb57.mono HB5.out.size))
      have HK7 := hide (HK5.out.later hb57)
      have HO7 := hide (HO5.out.later hb57)
      have HU7 := hide (HU5.out.later hb57)
      have HA7 := hide (HA5.out.later hb57)
      have HL7 := hide (HL5.out.later hb57)
      obtain ⟨st, W, hE, hWo, hWs, hWg, hWr, hstep⟩ := HL7.out.step (t := 113) Try.underlying113 colZero (by unfold maxLen; omega) (u, v) HQ.out (by show u < _; omega) (by show v < _; omega)
      have hnew : ∀ j z, [Value.int IntKind.i64 (x : Int), Value.int IntKind.i64 (y : Int)][j]? = some z → W.cell? ((⟨w6.heap.size, 0, none⟩ : Addr).add j) = some z := fun j z hj => by
        have e : W.heap[w6.heap.size]? = w7.heap[w6.heap.size]? := hWo w6.heap.size (by have := HL5.out.lt; omega)
        have e2 : w7.cell? ((⟨w6.heap.size, 0, none⟩ : Addr).add j) = some z := by rw [hw7]; exact ck_new j z hj
        have hbl : ((⟨w6.heap.size, 0, none⟩ : Addr).add j).block = w6.heap.size := by unfold Addr.add; split <;> rfl
        rw [← e2]
        exact World.cell?_of_block (w := w7) (w' := W) (a := (⟨w6.heap.size, 0, none⟩ : Addr).add j) (by rw [hbl]; exact e)
      have HWO := hide hWo
      have HSTEP := hide hstep
      have HWR := hide hWr
      have HWG := hide hWg
      have HW67 := hide hw7
      rw [hw7, hw6] at hE
      have hE' : (Instr.mapEntry 113 (.map (some (w.heap.size + 1 + 1 + 1))) (.agg #[.int .i64 (u : Int), .int .i64 (v : Int)])).run Try.prog ((w5.alloc (Obj.cells #[Value.int IntKind.i64 u, Value.int IntKind.i64 v] 78)).alloc (Obj.cells #[Value.int IntKind.i64 x, Value.int IntKind.i64 y] 78)) = .ok (.tuple #[G (u, v), .int .i64 st]) W := hE
      rw [hs6] at hnew
      clear hE hWo hstep hWr hWg hw7
      have hLb := ledL_len f s n k (u, v)
      go_wp2_with (at_builtin; refine wpList_append_own_at _ rfl _ _ 86 rfl L0 78 i0 (.agg #[.int .i64 0, .int .i64 0]) 2 16 Try.underlying86 hi hz0 hz1 hz2 rfl (by decide) _ _ _ rfl HWR.out ⟨w5.heap.size + 1, 0, none⟩ 1 1 [.int .i64 (x : Int), .int .i64 (y : Int)] rfl rfl ?c1 ?c2 ?c3 ?c4 ?c5 ?_)
      case c1 => exact hnew
      case c2 => intro z hz9; simp at hz9; rcases hz9 with rfl | rfl <;> rfl
      case c3 => unfold maxLen; omega
      case c4 => omega
      case c5 => omega
      intro v' w8 hown8 hgrow8 _ hat8
      rw [← HX.out, ← HY.out] at hown8
      obtain ⟨w9, hS, hg9, hLed9⟩ := HSTEP.out w8 v' hgrow8 hown8 (hat8.imp id (fun h => by rw [h]; congr 1; omega))
      have hown : ∀ j, (G (u, v)).ownBlock = some j → L0 ≤ j := fun j hj => (HWR.out.lt j hj).1
      have hs8 := hgrow8.size
      have hs9 := hg9.size
      have hfr : ∀ i, i < L0 → i ≠ w.heap.size + 1 + 1 + 1 → w9.heap[i]? = w7.heap[i]? := fun i h1 h2 => by
        have e1 := HWO.out i h2
        have e2 := hgrow8.block i (by omega) (fun e => by have := hown i e.symm; omega)
        have e3 := hg9.block i (by omega) (fun e => by injection e with e; omega)
        rw [e3, e2, e1]
      have HB9 : Hid (Below w.heap.size w w9) := hide (by
        have h7 := HB7.out
        have s7 := h7.size
        have h8 := h7.grown HWG.out s7 (fun j e => by injection e with e; omega)
        have h9 := h8.grown hgrow8 (by omega) (fun j e => by have := hown j e; omega)
        exact h9.grown hg9 (by omega) (fun j e => by injection e with e; omega))
      have HK9 : Hid (Blk w9 w.heap.size 43 [.slice A n c, .slice B m d]) := hide ((hfr _ (by omega) (by omega)).trans HK7.out)
      have HO9 : Hid (Blk w9 (w.heap.size + 1) 78 [.int .i64 0, .int .i64 0]) := hide ((hfr _ (by omega) (by omega)).trans HO7.out)
      have HU9 : Hid (Blk w9 (w.heap.size + 1 + 1) 78 [.int .i64 0, .int .i64 0]) := hide ((hfr _ (by omega) (by omega)).trans HU7.out)
      have HA9 : Hid (PairsAt w9 g n) := hide (by
        have e := hfr g hgL hgb
        refine ⟨by omega, fun j hj => ?_⟩
        rw [World.cell?_of_block (a := ⟨g, j * 2, none⟩) e, World.cell?_of_block (a := ⟨g, j * 2 + 1, none⟩) e]
        exact HA7.out.2 j hj)
      have HL9 := hide hLed9
      clear hnew hown8 hgrow8 hat8 hg9 hLed9 hfr hown p0 p1 hE'
      go_wp2_with fail
      go_roundw
      case rel => exact ⟨k + 1, _, by omega, by go_num, HB9.out, HK9.out, HO9.out, HU9.out, HA9.out, by omega, HL9.out⟩
      case measure => simp [intOf]; omega
    · have hkn : k = N := by omega
      subst hkn
      have k0 := HK.out.cell 0 _ rfl
      have k1 := HK.out.cell 1 _ rfl
      go_wp2_with fail
      clear k0 k1
      refine (size_any _ _ _ _ _ _ _ hnb).mono ?_
      rintro e w4 ⟨rfl, hb4⟩
      have HB4 := hide (HB.out.trans (hb4.mono HB.out.size))
      have HK4 := hide (HK.out.later hb4)
      have HO4 := hide (HO.out.later hb4)
      have HU4 := hide (HU.out.later hb4)
      have HL4 := hide (HLD.out.later hb4)
      clear hb4
      go_wp2_with fail
      refine (pairsOf_any n k _ h12.1 h12.2 HN.out).mono ?_
      rintro e w5 ⟨g2, rfl, hb5, hg5, hpa5⟩
      have HB5 := hide (HB4.out.trans (hb5.mono HB4.out.size))
      have HK5 := hide (HK4.out.later hb5)
      have HO5 := hide (HO4.out.later hb5)
      have HU5 := hide (HU4.out.later hb5)
      have HL5 := hide (HL4.out.later hb5)
      have HA5 := hide hpa5
      clear hb5 hpa5
      go_wp2_with fail
      go_outline
      go_loopw [37] (fun i wr => ∃ j : Nat, j ≤ k ∧ i = .int .i64 j ∧ Below w.heap.size w wr ∧ Blk wr w.heap.size 43 [.slice A n c, .slice B m d] ∧ Blk wr (w.heap.size + 1) 78 [.int .i64 0, .int .i64 0] ∧ Blk wr (w.heap.size + 1 + 1) 78 [.int .i64 0, .int .i64 0] ∧ PairsAt wr g2 n ∧ Led wr (w.heap.size + 1 + 1 + 1) L0 n k f s G ∧ ∀ i, i < j → (ledL f s n (n * n) (ledK f s n i)).length ≤ 1) (fun i _ => k - (intOf i).toNat)
      case atStart => exact ⟨0, Nat.zero_le _, rfl, HB5.out, HK5.out, HO5.out, HU5.out, HA5.out, HL5.out, fun i hi => absurd hi (Nat.not_lt_zero _)⟩
      case round =>
        obtain ⟨j, hj, rfl, hbe, hkk, hoo, huu, hpa, hled, hall⟩ := hrel
        have HBr := hide hbe
        have HKr := hide hkk
        have HOr := hide hoo
        have HUr := hide huu
        have HAr := hide hpa
        have HLr := hide hled
        have HALL := hide hall
        clear hbe hkk hoo huu hpa hled hall
        by_cases hltj : j < k
        · have hjz : (j : Int) < k := by omega
          obtain ⟨p0, p1⟩ := HAr.out.2 j (by rw [HN.out]; exact hltj)
          have hxn : j / n < n := div_lt_sq (by rw [HN.out]; exact hltj)
          have hyn : j % n < n := mod_lt_sq (by rw [HN.out]; exact hltj)
          obtain ⟨x, hx⟩ : ∃ x, j / n = x := ⟨_, rfl⟩
          obtain ⟨y, hy⟩ : ∃ y, j % n = y := ⟨_, rfl⟩
          rw [hx] at p0 hxn
          rw [hy] at p1 hyn
          have HX := hide hx
          have HY := hide hy
          clear hx hy
          have hu := HP.out.lt1 HFL.out hxn hyn
          have hv := HP.out.lt2 HFL.out hxn hyn
          have hq : ledK f s n j = (ap f x y, ap s x y) := by unfold ledK; rw [HX.out, HY.out]
          obtain ⟨u, hue⟩ : ∃ u, ap f x y = u := ⟨_, rfl⟩
          obtain ⟨v, hve⟩ : ∃ v, ap s x y = v := ⟨_, rfl⟩
          rw [hue, hve] at hq
          rw [hue] at hu
          rw [hve] at hv
          have HQ := hide hq
          have HUE := hide hue
          have HVE := hide hve
          have hmem : j ∈ ledL f s n k (u, v) := ledL_mem.2 ⟨hltj, hq⟩
          clear hq hue hve
          have k0 := fun o => (HKr.out.alloc o).cell 0 _ rfl
          have k1 := fun o => (HKr.out.alloc o).cell 1 _ rfl
          go_wp2_with fail
          clear k0 k1 p0 p1
          refine calls_gen fun w6 hw6 => ?_
          obtain ⟨P, hPe⟩ : ∃ P, wr.heap.size = P := ⟨_, rfl⟩
          have hbx : Below wr.heap.size wr w6 := by rw [hw6]; exact (Below.refl _ _).alloc (Nat.le_refl _) _
          have HP6 : Hid (Blk w6 P 78 [.int .i64 x, .int .i64 y]) := hide (by rw [hw6, ← hPe]; exact Blk.new _ _ _)
          have HB6 := hide (HBr.out.trans (hbx.mono HBr.out.size))
          have HK6 := hide (HKr.out.later hbx)
          have HO6 := hide (HOr.out.later hbx)
          have HU6 := hide (HUr.out.later hbx)
          have HA6 := hide (HAr.out.later hbx)
          have HL6 := hide (HLr.out.later hbx)
          have hPlt : w.heap.size + 1 + 1 < P := by rw [← hPe]; exact HUr.out.lt
          rw [hPe]
          clear hw6 hbx hPe
          refine (lead_any _ _ _ f _ _ _ s x y _ (HZ.out.later HB6.out) HP.out hxn hyn).mono ?_
          rintro e w7 ⟨rfl, hb7⟩
          rw [HUE.out, HVE.out]
          have HP7 := hide (HP6.out.later hb7)
          have HB7 := hide (HB6.out.trans (hb7.mono HB6.out.size))
          have HK7 := hide (HK6.out.later hb7)
          have HO7 := hide (HO6.out.later hb7)
          have HU7 := hide (HU6.out.later hb7)
          have HA7 := hide (HA6.out.later hb7)
          have HL7 := hide (HL6.out.later hb7)
          clear hb7
          obtain ⟨V, hMV, hV⟩ := HL7.out.map
          obtain ⟨kl, hkey⟩ := mp_key w7 u v (by omega) (by omega)
          have hlook := hMV.look (t := 113) Try.underlying113 (colZero w7) hkey
          rw [hV (u, v)] at hlook
          have hrow := HL7.out.rows (u, v)
          obtain ⟨len, hlen⟩ : ∃ len, (ledL f s n k (u, v)).length = len := ⟨_, rfl⟩
          have hlen1 : 1 ≤ len := by rw [← hlen]; exact List.length_pos_of_mem hmem
          have hlenk : len ≤ k := by rw [← hlen]; exact ledL_len f s n k (u, v)
          rw [hlen] at hrow
          have hform : ∃ gg cap, G (u, v) = .slice (some ⟨gg, 0, none⟩) len cap := by
            rcases hrow.2 with ⟨_, h0⟩ | ⟨gg, cap, cur, hv9, _⟩
            · omega
            · exact ⟨gg, cap, hv9⟩
          obtain ⟨gg, cap, hG⟩ := hform
          have hcells := hrow.cells (g := gg) (by rw [hG]; rfl)
          have hgg : L0 ≤ gg := (hrow.lt gg (by rw [hG]; rfl)).1
          rw [hG] at hlook
          have hlook' : (Instr.lookup 113 (.map (some (w.heap.size + 1 + 1 + 1))) (.agg #[.int .i64 (u : Int), .int .i64 (v : Int)]) false).run Try.prog w7 = .ok (.slice (some ⟨gg, 0, none⟩) len cap) w7 := hlook
          have HLEN := hide hlen
          have HCELLS := hide hcells
          clear hMV hV hkey hlook hrow hG hlen hcells hmem
          by_cases h1l : 1 < len
          · have hsec := pcs_second n (ledL f s n k (u, v)) (by rw [HLEN.out]; exact h1l)
            have c2 := HCELLS.out 2 _ hsec.1
            have c3 := HCELLS.out 3 _ hsec.2
            simp only [Addr.add, Nat.zero_add] at c2 c3
            have hfst : FstCol f s n j ((ledL f s n k (u, v)).getD 1 0) := by
              have h := FstCol.of_list (f := f) (s := s) (n := n) (k := j) (by rw [HN.out]; exact hltj) HALL.out (by rw [HN.out, HQ.out, HLEN.out]; exact h1l)
              rw [HN.out, HQ.out] at h
              exact h
            obtain ⟨b2, hb2⟩ : ∃ b2, (ledL f s n k (u, v)).getD 1 0 = b2 := ⟨_, rfl⟩
            rw [hb2] at c2 c3 hfst
            obtain ⟨x2, hx2⟩ : ∃ x2, b2 / n = x2 := ⟨_, rfl⟩
            obtain ⟨y2, hy2⟩ : ∃ y2, b2 % n = y2 := ⟨_, rfl⟩
            rw [hx2] at c2
            rw [hy2] at c3
            have HF := hide hfst
            have HX2 := hide hx2
            have HY2 := hide hy2
            have h1z : (1 : Int) < len := by omega
            have p0 := HP7.out.cell 0 _ rfl
            have p1 := HP7.out.cell 1 _ rfl
            have o0 := HO7.out.cell 0 _ rfl
            have o1 := HO7.out.cell 1 _ rfl
            have o2 := HO7.out.frozen 0
            have o3 := HO7.out.frozen 1
            have u0 := HU7.out.cell 0 _ rfl
            have u1 := HU7.out.cell 1 _ rfl
            have u2 := HU7.out.frozen 0
            have u3 := HU7.out.frozen 1
            have c2' : w7.cell? ⟨gg, 2, none⟩ = some (.int .i64 x2) := by simpa using c2
            have c3' : w7.cell? ⟨gg, 3, none⟩ = some (.int .i64 y2) := by simpa using c3
            have d1 : w.heap.size + 1 ≠ P := by omega
            have d2 : w.heap.size + 1 + 1 ≠ P := by omega
            have d3 : w.heap.size + 1 ≠ gg := by omega
            have d4 : w.heap.size + 1 + 1 ≠ gg := by omega
            have d5 := d1.symm
            have d6 := d2.symm
            have d7 := d3.symm
            have d8 := d4.symm
            have n1 : w.heap.size + 1 ≠ w.heap.size + 1 + 1 := by omega
            have n2 := n1.symm
            clear hfst hb2 hx2 hy2 hsec c2 c3
            go_wp2_with fail
            go_region
            clear d1 d2 d3 d4 d5 d6 d7 d8 n1 n2 p0 p1 c2' c3' o0 o1 o2 o3 u0 u1 u2 u3
            all_goals go_wp2_with fail
            all_goals refine bp_gen fun wf hwf => ?_
            all_goals have HRF : Blk wf (w.heap.size + 1) 78 [.int .i64 x, .int .i64 y] := by rw [hwf]; exact (((((HO7.out.set 0 _).set 1 _).far (p := ⟨w.heap.size + 1 + 1, 0, none⟩) (by show w.heap.size + 1 ≠ w.heap.size + 1 + 1; omega) _).far (p := ⟨w.heap.size + 1 + 1, 1, none⟩) (by show w.heap.size + 1 ≠ w.heap.size + 1 + 1; omega) _)).drew
            all_goals have HSF : Blk wf (w.heap.size + 1 + 1) 78 [.int .i64 x2, .int .i64 y2] := by rw [hwf]; exact (((((HU7.out.far (p := ⟨w.heap.size + 1, 0, none⟩) (by show w.heap.size + 1 + 1 ≠ w.heap.size + 1; omega) _).far (p := ⟨w.heap.size + 1, 1, none⟩) (by show w.heap.size + 1 + 1 ≠ w.heap.size + 1; omega) _).set 0 _).set 1 _)).drew
            all_goals have HBF : Below w.heap.size w wf := by rw [hwf]; exact ((((HB7.out.setCell (by show w.heap.size ≤ w.heap.size + 1; omega) _).setCell (by show w.heap.size ≤ w.heap.size + 1; omega) _).setCell (by show w.heap.size ≤ w.heap.size + 1 + 1; omega) _).setCell (by show w.heap.size ≤ w.heap.size + 1 + 1; omega) _).drew
            all_goals have q0 := HRF.cell 0 _ rfl
            all_goals have q1 := HRF.cell 1 _ rfl
            all_goals have q2 := HSF.cell 0 _ rfl
            all_goals have q3 := HSF.cell 1 _ rfl
            all_goals clear hwf
            all_goals exact bodyPost_ret (v := .tuple #[.agg #[.int .i64 x, .int .i64 y], .agg #[.int .i64 x2, .int .i64 y2], .bool true]) (by simp [results, Try.results77, go_sem, q0, q1, q2, q3]) rfl ⟨HBF, .inr ⟨j, b2, HF.out, by rw [HX.out, HY.out, HX2.out, HY2.out]⟩⟩
          · have hl1 : len = 1 := by omega
            subst hl1
            go_wp2_with fail
            go_roundw
            case rel => exact ⟨j + 1, by omega, by go_num, HB7.out, HK7.out, HO7.out, HU7.out, HA7.out, HL7.out, fun i hi => by
              by_cases e : i = j
              · rw [e, HQ.out, HN.out, HLEN.out]; exact Nat.le_refl _
              · exact HALL.out i (by omega)⟩
            case measure => simp [intOf]; omega
        · have hjn : j = k := by omega
          subst hjn
          have hnc : NoCol f s n := NoCol.of_list (fun i hi => HALL.out i (by rw [← HN.out]; exact hi))
          have o0 := HOr.out.cell 0 _ rfl
          have o1 := HOr.out.cell 1 _ rfl
          have o2 := HOr.out.frozen 0
          have o3 := HOr.out.frozen 1
          have u0 := HUr.out.cell 0 _ rfl
          have u1 := HUr.out.cell 1 _ rfl
          have u2 := HUr.out.frozen 0
          have u3 := HUr.out.frozen 1
          have HNC := hide hnc
          clear hnc
          go_wp2_with fail
          clear o0 o1 o2 o3 u0 u1 u2 u3
          refine bp_gen fun wf hwf => ?_
          have HRF : Blk wf (w.heap.size + 1) 78 [.int .i64 0, .int .i64 0] := by rw [hwf]; exact (((((HOr.out.set 0 _).set 1 _).far (p := ⟨w.heap.size + 1 + 1, 0, none⟩) (by show w.heap.size + 1 ≠ w.heap.size + 1 + 1; omega) _).far (p := ⟨w.heap.size + 1 + 1, 1, none⟩) (by show w.heap.size + 1 ≠ w.heap.size + 1 + 1; omega) _))
          have HSF : Blk wf (w.heap.size + 1 + 1) 78 [.int .i64 0, .int .i64 0] := by rw [hwf]; exact (((((HUr.out.far (p := ⟨w.heap.size + 1, 0, none⟩) (by show w.heap.size + 1 + 1 ≠ w.heap.size + 1; omega) _).far (p := ⟨w.heap.size + 1, 1, none⟩) (by show w.heap.size + 1 + 1 ≠ w.heap.size + 1; omega) _).set 0 _).set 1 _))
          have HBF : Below w.heap.size w wf := by rw [hwf]; exact ((((HBr.out.setCell (by show w.heap.size ≤ w.heap.size + 1; omega) _).setCell (by show w.heap.size ≤ w.heap.size + 1; omega) _).setCell (by show w.heap.size ≤ w.heap.size + 1 + 1; omega) _).setCell (by show w.heap.size ≤ w.heap.size + 1 + 1; omega) _)
          have q0 := HRF.cell 0 _ rfl
          have q1 := HRF.cell 1 _ rfl
          have q2 := HSF.cell 0 _ rfl
          have q3 := HSF.cell 1 _ rfl
          clear hwf
          exact bodyPost_ret (v := .tuple #[.agg #[.int .i64 0, .int .i64 0], .agg #[.int .i64 0, .int .i64 0], .bool false]) (by simp [results, Try.results77, go_sem, q0, q1, q2, q3]) rfl ⟨HBF, .inl ⟨HNC.out, rfl⟩⟩
end Go.Proofs.Ytclgjkmoeeklkaa
namespace Go.Proofs.Ytclgjkmoeeklkaa
open Go Go.RowKit
set_option maxHeartbeats 1000000
theorem isI_any (A : Option Addr) (n c : Nat) (f : List (List Int)) (B : Option Addr) (m d : Nat) (s : List (List Int)) (r : Bool) (w : World) (hz : ZArg 1048576 w A n f B m s) (hr : IsRes f s r) :
    Calls Try.prog 37 #[.agg #[.slice A n c, .slice B m d]] w fun e w' => e = .returned (.bool r) ∧ Below w.heap.size w w' := by
  have HZ := hide hz
  have HB0 := hide ((Below.refl _ w).alloc (Nat.le_refl _) (Obj.cells #[Value.slice A n c, Value.slice B m d] 43))
  have HK0 := hide (Blk.new w 43 [.slice A n c, .slice B m d])
  have hcs := hr.cases hz.sz.fl
  clear hr hz
  rcases hcs with ⟨hp, rfl⟩ | ⟨hp, T, hT, hq⟩
  · have HP := hide hp
    clear hp
    go_enter Try.func37, Try.ntmps37
    go_wp2_with fail
    refine (mapI_any _ _ _ f _ _ _ s false _ (HZ.out.later HB0.out) (by simp [HP.out])).mono ?_
    rintro e w1 ⟨rfl, hb1⟩
    have HB1 := hide (HB0.out.trans (hb1.mono HB0.out.size))
    have HK1 := hide (HK0.out.later hb1)
    have k0 := HK1.out.cell 0 _ rfl
    have k1 := HK1.out.cell 1 _ rfl
    clear hb1
    go_wp2_with fail
    go_ret
    exact ⟨rfl, HB1.out⟩
  · have HP := hide hp
    have HT := hide hT
    clear hp hT
    have hq2 : (T < n * n * n ∧ r = false) ∨ (T = n * n * n ∧ (Hid (∃ a b, FstCol f s n a b) ∧ r = false ∨ Hid (NoCol f s n) ∧ r = true)) := by
      rcases hq with ⟨h1, ⟨_, h⟩ | ⟨_, h⟩⟩ | ⟨h1, ⟨h2, h⟩ | ⟨h2, h⟩⟩
      · exact .inl ⟨h1, h⟩
      · exact .inl ⟨h1, h⟩
      · exact .inr ⟨h1, .inl ⟨hide h2, h⟩⟩
      · exact .inr ⟨h1, .inr ⟨hide h2, h⟩⟩
    clear hq
    rcases hq2 with ⟨hlt, rfl⟩ | ⟨hte, ⟨HC, rfl⟩ | ⟨HC, rfl⟩⟩
    · go_enter Try.func37, Try.ntmps37
      go_wp2_with fail
      refine (mapI_any _ _ _ f _ _ _ s true _ (HZ.out.later HB0.out) (by simp [HP.out])).mono ?_
      rintro e w1 ⟨rfl, hb1⟩
      have HB1 := hide (HB0.out.trans (hb1.mono HB0.out.size))
      have HK1 := hide (HK0.out.later hb1)
      have k0 := HK1.out.cell 0 _ rfl
      have k1 := HK1.out.cell 1 _ rfl
      clear hb1
      go_wp2_with fail
      refine (fault_any _ _ _ f _ _ _ s T _ (HZ.out.later HB1.out) HP.out HT.out).mono ?_
      rintro e w2 ⟨t, ok, rfl, hb2, hres⟩
      have HB2 := hide (HB1.out.trans (hb2.mono HB1.out.size))
      have HK2 := hide (HK1.out.later hb2)
      have hok : ok = true := by rcases hres with ⟨h1, h2, _⟩ | ⟨h1, h2⟩ <;> first | exact h1 | omega
      subst hok
      clear hb2 hres k0 k1
      unfold tv
      obtain ⟨x, y, z⟩ := t
      have k0 := fun o => (HK2.out.alloc o).cell 0 _ rfl
      have k1 := fun o => (HK2.out.alloc o).cell 1 _ rfl
      go_wp2_with fail
      clear k0 k1
      refine bp_gen fun wf hwf => ?_
      have HBF : Below w.heap.size w wf := by rw [hwf]; exact HB2.out.alloc HB2.out.size _
      clear hwf
      go_ret
      exact ⟨rfl, HBF⟩
    · go_enter Try.func37, Try.ntmps37
      go_wp2_with fail
      refine (mapI_any _ _ _ f _ _ _ s true _ (HZ.out.later HB0.out) (by simp [HP.out])).mono ?_
      rintro e w1 ⟨rfl, hb1⟩
      have HB1 := hide (HB0.out.trans (hb1.mono HB0.out.size))
      have HK1 := hide (HK0.out.later hb1)
      have k0 := HK1.out.cell 0 _ rfl
      have k1 := HK1.out.cell 1 _ rfl
      clear hb1
      go_wp2_with fail
      refine (fault_any _ _ _ f _ _ _ s T _ (HZ.out.later HB1.out) HP.out HT.out).mono ?_
      rintro e w2 ⟨t, ok, rfl, hb2, hres⟩
      have HB2 := hide (HB1.out.trans (hb2.mono HB1.out.size))
      have HK2 := hide (HK1.out.later hb2)
      have hok : ok = false := by rcases hres with ⟨h1, h2, _⟩ | ⟨h1, h2⟩ <;> first | exact h1 | omega
      subst hok
      clear hb2 hres k0 k1
      unfold tv
      obtain ⟨x, y, z⟩ := t
      have k0 := fun o => (HK2.out.alloc o).cell 0 _ rfl
      have k1 := fun o => (HK2.out.alloc o).cell 1 _ rfl
      go_wp2_with fail
      clear k0 k1
      refine calls_gen fun w4 hw4 => ?_
      replace HB2 : Hid (Below w.heap.size w w4) := hide (by rw [hw4]; exact HB2.out.alloc HB2.out.size _)
      clear hw4 HK2
      refine (coll_any _ _ _ f _ _ _ s _ (HZ.out.later HB2.out) HP.out).mono ?_
      rintro e w3 ⟨hb3, hres⟩
      have HB3 := hide (HB2.out.trans (hb3.mono HB2.out.size))
      clear hb3
      obtain ⟨a, b, hf⟩ := HC.out
      rcases hres with ⟨hno, _⟩ | ⟨a', b', _, rfl⟩
      · exact absurd hno hf.not
      · go_wp2_with fail
        refine bp_gen fun wf hwf => ?_
        have HBF : Below w.heap.size w wf := by rw [hwf]; exact (HB3.out.alloc HB3.out.size _).alloc (by have := HB3.out.size; simp; omega) _
        clear hwf
        go_ret
        exact ⟨rfl, HBF⟩
    · go_enter Try.func37, Try.ntmps37
      go_wp2_with fail
      refine (mapI_any _ _ _ f _ _ _ s true _ (HZ.out.later HB0.out) (by simp [HP.out])).mono ?_
      rintro e w1 ⟨rfl, hb1⟩
      have HB1 := hide (HB0.out.trans (hb1.mono HB0.out.size))
      have HK1 := hide (HK0.out.later hb1)
      have k0 := HK1.out.cell 0 _ rfl
      have k1 := HK1.out.cell 1 _ rfl
      clear hb1
      go_wp2_with fail
      refine (fault_any _ _ _ f _ _ _ s T _ (HZ.out.later HB1.out) HP.out HT.out).mono ?_
      rintro e w2 ⟨t, ok, rfl, hb2, hres⟩
      have HB2 := hide (HB1.out.trans (hb2.mono HB1.out.size))
      have HK2 := hide (HK1.out.later hb2)
      have hok : ok = false := by rcases hres with ⟨h1, h2, _⟩ | ⟨h1, h2⟩ <;> first | exact h1 | omega
      subst hok
      clear hb2 hres k0 k1
      unfold tv
      obtain ⟨x, y, z⟩ := t
      have k0 := fun o => (HK2.out.alloc o).cell 0 _ rfl
      have k1 := fun o => (HK2.out.alloc o).cell 1 _ rfl
      go_wp2_with fail
      clear k0 k1
      refine calls_gen fun w4 hw4 => ?_
      replace HB2 : Hid (Below w.heap.size w w4) := hide (by rw [hw4]; exact HB2.out.alloc HB2.out.size _)
      clear hw4 HK2
      refine (coll_any _ _ _ f _ _ _ s _ (HZ.out.later HB2.out) HP.out).mono ?_
      rintro e w3 ⟨hb3, hres⟩
      have HB3 := hide (HB2.out.trans (hb3.mono HB2.out.size))
      clear hb3
      rcases hres with ⟨_, rfl⟩ | ⟨a', b', hf2, _⟩
      · go_wp2_with fail
        refine bp_gen fun wf hwf => ?_
        have HBF : Below w.heap.size w wf := by rw [hwf]; exact (HB3.out.alloc HB3.out.size _).alloc (by have := HB3.out.size; simp; omega) _
        clear hwf
        go_ret
        exact ⟨rfl, HBF⟩
      · exact absurd HC.out hf2.not
end Go.Proofs.Ytclgjkmoeeklkaa
namespace Go.Proofs.Ytclgjkmoeeklkaa
open Go Go.RowKit
set_option maxHeartbeats 1000000

theorem ntInfo : (Try.prog.info? 2).map (fun i => (i.zero, i.size, i.bytes)) = some (some (.int .i64 0), 1, 8) := by kernel_rfl
theorem ntInfo2 : (Try.prog.info? 40).map (fun i => (i.zero, i.size, i.bytes)) = some (some (.slice none 0 0), 1, 24) := by kernel_rfl

structure NtRel (w wr : World) (n k : Nat) : Prop where
  below : Below w.heap.size w wr
  size : wr.heap.size = w.heap.size + 1 + k
  top : wr.rowIs w.heap.size 40 n (fun i => if i < k then .slice (some ⟨w.heap.size + 1 + i, 0, none⟩) n n else .slice none 0 0)
  row : ∀ i, i < k → wr.rowIs (w.heap.size + 1 + i) 2 n (fun _ => .int .i64 0)

theorem NtRel.start (w : World) (n : Nat) : NtRel w (w.alloc (.cells (madeCells #[.slice none 0 0] n) 40)) n 0 :=
  ⟨(Below.refl _ _).alloc (Nat.le_refl _) _, by simp, (World.rowIs_made w _ n _).congr (fun j _ => by simp), fun i hi => absurd hi (Nat.not_lt_zero _)⟩

theorem NtRel.step {w wr : World} {n k : Nat} (h : NtRel w wr n k) (_hk : k < n) :
    NtRel w ((wr.alloc (.cells (madeCells #[.int .i64 0] n) 2)).setCell ⟨w.heap.size, k, none⟩ (.slice (some ⟨wr.heap.size, 0, none⟩) n n)) n (k + 1) := by
  have hsz := h.size
  have hnew := World.rowIs_made wr (.int .i64 0) n 2
  rw [hsz] at hnew
  refine ⟨(h.below.alloc (by omega) _).setCell (Nat.le_refl _) _, by simp [World.setCell]; omega, ((h.top.alloc _).set k _).congr (fun j _ => ?_), fun i hi => ?_⟩
  · by_cases e : j = k
    · subst e; rw [if_pos rfl, if_pos (by omega), hsz]
    · rw [if_neg e]
      by_cases hlt : j < k
      · rw [if_pos hlt, if_pos (by omega)]
      · rw [if_neg hlt, if_neg (by omega)]
  · by_cases e : i = k
    · subst e
      exact hnew.setOther (by show w.heap.size + 1 + i ≠ w.heap.size; omega) _
    · exact ((h.row i (by omega)).alloc _).setOther (by show w.heap.size + 1 + i ≠ w.heap.size; omega) _

theorem newTable_any (n : Nat) (w : World) (hb : n ≤ 1048576) :
    Calls Try.prog 116 #[.int .i64 n] w fun e w' => e = .returned (.slice (some ⟨w.heap.size, 0, none⟩) n n) ∧ Below w.heap.size w w' ∧ TabF 40 2 w' w.heap.size (fun i => w.heap.size + 1 + i) n (fun _ _ => 0) ∧ w'.heap.size = w.heap.size + 1 + n := by
  have hmk := run_make_row' (P := Try.prog) 22 40 (.slice none 0 0) 24 Try.underlying22 ntInfo2 rfl .i64 .i64 n (by omega) (by omega)
  have hmk2 := run_make_row' (P := Try.prog) 40 2 (.int .i64 0) 8 Try.underlying40 ntInfo rfl .i64 .i64 n (by omega) (by omega)
  go_enter Try.func116, Try.ntmps116
  go_wp2_with fail
  clear hmk
  go_loopw [9] (fun i wr => ∃ k : Nat, k ≤ n ∧ i = .int .i64 k ∧ NtRel w wr n k) (fun i _ => n - (intOf i).toNat)
  case atStart => exact ⟨0, Nat.zero_le _, rfl, NtRel.start w n⟩
  case round =>
    obtain ⟨k, hk, rfl, hrel⟩ := hrel
    have HR := hide hrel
    clear hrel
    by_cases hlt : k < n
    · have hltz : (k : Int) < n := by omega
      have h1 : ∀ o, (wr.alloc o).cell? ⟨w.heap.size, k, none⟩ = some (.slice none 0 0) := fun o => by
        have := (HR.out.top.alloc o).cell hlt
        simpa using this
      have h2 : ∀ o, (wr.alloc o).frozen? ⟨w.heap.size, k, none⟩ = false := fun o => (HR.out.top.alloc o).frozen k
      go_wp2_with fail
      go_roundw
      case rel => exact ⟨k + 1, by omega, by go_num, HR.out.step hlt⟩
      case measure => simp [intOf]; omega
    · have hkn : k = n := by omega
      subst hkn
      go_wp2_with fail
      go_ret
      have h := HR.out
      exact ⟨rfl, h.below, ⟨⟨fun _ => k, .of_row (h.top.congr (fun j hj => by rw [if_pos hj]))⟩, fun i hi => .of_row (h.row i hi), fun i _ => by omega, fun i j _ _ hne => by omega⟩, h.size⟩
end Go.Proofs.Ytclgjkmoeeklkaa
namespace Go.Proofs.Ytclgjkmoeeklkaa
open Go Go.RowKit
set_option maxHeartbeats 1000000

def updF (f : Nat → Nat → Int) (x y : Nat) (v : Int) : Nat → Nat → Int := fun a b => if a = x ∧ b = y then v else f a b

theorem TabF.drew {ts t : TypeId} {w : World} {g : Nat} {G : Nat → Nat} {n : Nat} {f : Nat → Nat → Int} (h : TabF ts t w g G n f) : TabF ts t w.drew g G n f := ⟨h.top, h.row, h.ne, h.inj⟩
theorem Touch.drew {lo hi : Nat} {w w' : World} (h : Touch lo hi w w') : Touch lo hi w w'.drew := ⟨h.os, h.tape, h.output, h.size, h.block⟩
theorem Touch.store {lo hi : Nat} {w w' : World} (h : Touch lo hi w w') {p : Addr} (h1 : lo ≤ p.block) (h2 : p.block < hi) (v : Value) : Touch lo hi w (w'.setCell p v) :=
  ⟨h.os, h.tape, h.output, by simpa [World.setCell] using h.size, fun k hk hne => (Below.heap_setCell w' p v k (by omega)).trans (h.block k hk hne)⟩
theorem TabF.far1 {ts t : TypeId} {w : World} {g : Nat} {G : Nat → Nat} {n : Nat} {f : Nat → Nat → Int} (h : TabF ts t w g G n f) {p : Addr} (hg : g ≠ p.block) (hG : ∀ i, i < n → G i ≠ p.block) (v : Value) : TabF ts t (w.setCell p v) g G n f := by
  obtain ⟨C, r⟩ := h.top
  exact ⟨⟨C, r.far hg v⟩, fun i hi => (h.row i hi).far (hG i hi) v, h.ne, h.inj⟩

theorem set_any (lo mid hi : Nat) (g1 g2 : Nat) (G1 G2 : Nat → Nat) (n c1 c2 : Nat) (f1 f2 : Nat → Nat → Int) (x y : Nat) (u v : Int) (w : World) (h1 : TabF 40 2 w g1 G1 n f1) (h2 : TabF 40 2 w g2 G2 n f2)
    (r1 : lo ≤ g1 ∧ g1 < mid) (r2 : ∀ i, i < n → lo ≤ G1 i ∧ G1 i < mid) (r3 : mid ≤ g2 ∧ g2 < hi) (r4 : ∀ i, i < n → mid ≤ G2 i ∧ G2 i < hi) (r5 : hi ≤ w.heap.size) (_hnb : n ≤ 12) (hx : x < n) (hy : y < n) :
    Calls Try.prog 117 #[.agg #[.slice (some ⟨g1, 0, none⟩) n c1, .slice (some ⟨g2, 0, none⟩) n c2], .agg #[.int .i64 x, .int .i64 y], .agg #[.int .i64 u, .int .i64 v]] w fun e w' => e = .returned (.tuple #[]) ∧ Touch lo hi w w' ∧ TabF 40 2 w' g1 G1 n (updF f1 x y u) ∧ TabF 40 2 w' g2 G2 n (updF f2 x y v) := by
  have H1 := hide h1
  have H2 := hide h2
  have R2 := hide r2
  have R4 := hide r4
  have rx1 := r2 x hx
  have rx2 := r4 x hx
  clear h1 h2 r2 r4
  go_enter Try.func117, Try.ntmps117
  go_wp2_with fail
  refine wp_gen fun w1 hw1 => ?_
  have hbb : Below w.heap.size w w1 := by rw [hw1]; exact (((Below.refl _ _).alloc (Nat.le_refl _) _).alloc (by simp) _).alloc (by simp; omega) _
  have HT1 : Hid (Touch lo hi w w1) := hide (Touch.of_below hbb)
  have hk0 : Blk w1 w.heap.size 43 [.slice (some ⟨g1, 0, none⟩) n c1, .slice (some ⟨g2, 0, none⟩) n c2] := by rw [hw1]; exact ((Blk.new _ _ _).alloc _).alloc _
  have hk1 : Blk w1 (w.heap.size + 1) 78 [.int .i64 x, .int .i64 y] := by rw [hw1]; have h := (Blk.new (w.alloc (Obj.cells #[.slice (some ⟨g1, 0, none⟩) n c1, .slice (some ⟨g2, 0, none⟩) n c2] 43)) 78 [.int .i64 x, .int .i64 y]).alloc (Obj.cells #[Value.int IntKind.i64 u, Value.int IntKind.i64 v] 78); simpa using h
  have hk2 : Blk w1 (w.heap.size + 1 + 1) 78 [.int .i64 u, .int .i64 v] := by rw [hw1]; have h := (Blk.new ((w.alloc (Obj.cells #[.slice (some ⟨g1, 0, none⟩) n c1, .slice (some ⟨g2, 0, none⟩) n c2] 43)).alloc (Obj.cells #[Value.int IntKind.i64 x, Value.int IntKind.i64 y] 78)) 78 [.int .i64 u, .int .i64 v]); simpa using h
  have HK0 := hide hk0
  have HK1 := hide hk1
  have HK2 := hide hk2
  have HM1 := hide (H1.out.later hbb)
  have HM2 := hide (H2.out.later hbb)
  obtain ⟨C1, t1⟩ := HM1.out.top
  obtain ⟨C2, t2⟩ := HM2.out.top
  obtain ⟨b1, hb1⟩ : ∃ b, G1 x = b := ⟨_, rfl⟩
  obtain ⟨b2, hb2⟩ : ∃ b, G2 x = b := ⟨_, rfl⟩
  rw [hb1] at rx1
  rw [hb2] at rx2
  have a0 := hk0.cell 0 _ rfl
  have a1 := hk0.cell 1 _ rfl
  have a2 := hk1.cell 0 _ rfl
  have a3 := hk1.cell 1 _ rfl
  have a4 := hk2.cell 0 _ rfl
  have a5 := hk2.cell 1 _ rfl
  have a6 : w1.cell? ⟨g1, x, none⟩ = some (.slice (some ⟨b1, 0, none⟩) n (C1 x)) := by rw [← hb1]; exact t1.cell hx
  have a7 : w1.cell? ⟨g2, x, none⟩ = some (.slice (some ⟨b2, 0, none⟩) n (C2 x)) := by rw [← hb2]; exact t2.cell hx
  have a8 : w1.cell? ⟨b1, y, none⟩ = some (.int .i64 (f1 x y)) := by rw [← hb1]; exact (HM1.out.row x hx).cell hy
  have a9 : w1.cell? ⟨b2, y, none⟩ = some (.int .i64 (f2 x y)) := by rw [← hb2]; exact (HM2.out.row x hx).cell hy
  have e8 : w1.frozen? ⟨b1, y, none⟩ = false := by rw [← hb1]; exact (HM1.out.row x hx).frozen y
  have e9 : w1.frozen? ⟨b2, y, none⟩ = false := by rw [← hb2]; exact (HM2.out.row x hx).frozen y
  have hg1b1 : g1 ≠ b1 := by rw [← hb1]; exact HM1.out.ne x hx
  have hg2b2 : g2 ≠ b2 := by rw [← hb2]; exact HM2.out.ne x hx
  obtain ⟨z1, hz1⟩ : ∃ z, f1 x y = z := ⟨_, rfl⟩
  obtain ⟨z2, hz2⟩ : ∃ z, f2 x y = z := ⟨_, rfl⟩
  rw [hz1] at a8
  rw [hz2] at a9
  have HB1 := hide hb1
  have HB2 := hide hb2
  have m0 : b1 ≠ w.heap.size := by omega
  have m1 : b1 ≠ w.heap.size + 1 := by omega
  have m2 : b1 ≠ w.heap.size + 1 + 1 := by omega
  have m3 : b1 ≠ g2 := by omega
  have m4 : b1 ≠ b2 := by omega
  have m5 : b2 ≠ w.heap.size := by omega
  have m6 : b2 ≠ w.heap.size + 1 := by omega
  have m7 : b2 ≠ w.heap.size + 1 + 1 := by omega
  have m8 : b2 ≠ g1 := by omega
  have m9 := hg1b1.symm
  have m10 := hg2b2.symm
  have l0 := m0.symm
  have l1 := m1.symm
  have l2 := m2.symm
  have l3 := m3.symm
  have l4 := m4.symm
  have l5 := m5.symm
  have l6 := m6.symm
  have l7 := m7.symm
  have l8 := m8.symm
  have hxz : (x : Int) < n := by omega
  have hyz : (y : Int) < n := by omega
  have hxz0 : (0 : Int) ≤ x := by omega
  have hyz0 : (0 : Int) ≤ y := by omega
  clear hw1 hk0 hk1 hk2 hbb t1 t2 hb1 hb2 hz1 hz2
  go_region_held3 (fun w' => w'.cell? ⟨w.heap.size, 0, none⟩ = some (.slice (some ⟨g1, 0, none⟩) n c1) ∧ w'.cell? ⟨w.heap.size, 1, none⟩ = some (.slice (some ⟨g2, 0, none⟩) n c2) ∧ w'.cell? ⟨w.heap.size + 1, 0, none⟩ = some (.int .i64 x) ∧ w'.cell? ⟨w.heap.size + 1, 1, none⟩ = some (.int .i64 y) ∧ w'.cell? ⟨w.heap.size + 1 + 1, 0, none⟩ = some (.int .i64 u) ∧ w'.cell? ⟨w.heap.size + 1 + 1, 1, none⟩ = some (.int .i64 v) ∧ w'.cell? ⟨g1, x, none⟩ = some (.slice (some ⟨b1, 0, none⟩) n (C1 x)) ∧ w'.cell? ⟨g2, x, none⟩ = some (.slice (some ⟨b2, 0, none⟩) n (C2 x))) (first | exact ⟨a0, a1, a2, a3, a4, a5, a6, a7⟩ | go_keep) (first | fail)
  go_wp2_with fail
  refine wp_gen fun w2 hw2 => ?_
  have HN1 : Hid (TabF 40 2 w2 g1 G1 n (updF f1 x y u)) := hide (by rw [hw2, ← HB1.out]; exact (HM1.out.set x y u hx).drew)
  have HN2 : Hid (TabF 40 2 w2 g2 G2 n f2) := hide (by rw [hw2]; exact (HM2.out.far1 (p := ⟨b1, y, none⟩) l3 (fun i hi => by have := R4.out i hi; show G2 i ≠ b1; omega) _).drew)
  have HT2 : Hid (Touch lo hi w w2) := hide (by rw [hw2]; exact (HT1.out.store (p := ⟨b1, y, none⟩) rx1.1 (by show b1 < hi; omega) _).drew)
  have hj0 : Blk w2 w.heap.size 43 [.slice (some ⟨g1, 0, none⟩) n c1, .slice (some ⟨g2, 0, none⟩) n c2] := by rw [hw2]; exact (HK0.out.far (p := ⟨b1, y, none⟩) l0 _).drew
  have hj1 : Blk w2 (w.heap.size + 1) 78 [.int .i64 x, .int .i64 y] := by rw [hw2]; exact (HK1.out.far (p := ⟨b1, y, none⟩) l1 _).drew
  have hj2 : Blk w2 (w.heap.size + 1 + 1) 78 [.int .i64 u, .int .i64 v] := by rw [hw2]; exact (HK2.out.far (p := ⟨b1, y, none⟩) l2 _).drew
  clear a0 a1 a2 a3 a4 a5 a6 a7 a8 a9 e8 e9 hw2
  have a0 := hj0.cell 0 _ rfl
  have a1 := hj0.cell 1 _ rfl
  have a2 := hj1.cell 0 _ rfl
  have a3 := hj1.cell 1 _ rfl
  have a4 := hj2.cell 0 _ rfl
  have a5 := hj2.cell 1 _ rfl
  obtain ⟨C2, t2⟩ := HN2.out.top
  have a7 : w2.cell? ⟨g2, x, none⟩ = some (.slice (some ⟨b2, 0, none⟩) n (C2 x)) := by rw [← HB2.out]; exact t2.cell hx
  have a9 : w2.cell? ⟨b2, y, none⟩ = some (.int .i64 (f2 x y)) := by rw [← HB2.out]; exact (HN2.out.row x hx).cell hy
  have e9 : w2.frozen? ⟨b2, y, none⟩ = false := by rw [← HB2.out]; exact (HN2.out.row x hx).frozen y
  clear hj0 hj1 hj2 t2
  go_region_held3 (fun w' => w'.cell? ⟨w.heap.size, 0, none⟩ = some (.slice (some ⟨g1, 0, none⟩) n c1) ∧ w'.cell? ⟨w.heap.size, 1, none⟩ = some (.slice (some ⟨g2, 0, none⟩) n c2) ∧ w'.cell? ⟨w.heap.size + 1, 0, none⟩ = some (.int .i64 x) ∧ w'.cell? ⟨w.heap.size + 1, 1, none⟩ = some (.int .i64 y) ∧ w'.cell? ⟨w.heap.size + 1 + 1, 0, none⟩ = some (.int .i64 u) ∧ w'.cell? ⟨w.heap.size + 1 + 1, 1, none⟩ = some (.int .i64 v) ∧ w'.cell? ⟨g2, x, none⟩ = some (.slice (some ⟨b2, 0, none⟩) n (C2 x))) (first | exact ⟨a0, a1, a2, a3, a4, a5, a7⟩ | go_keep) (first | fail)
  clear m0 m1 m2 m3 m4 m5 m6 m7 m8 m9 m10 l0 l1 l2 l3 l4 l5 l6 l7 l8
  go_wp2_with fail
  refine bp_gen fun wf hwf => ?_
  have HF1 : Hid (TabF 40 2 wf g1 G1 n (updF f1 x y u)) := hide (by rw [hwf]; exact (HN1.out.far1 (p := ⟨b2, y, none⟩) (by show g1 ≠ b2; omega) (fun i hi => by have := R2.out i hi; show G1 i ≠ b2; omega) _).drew)
  have HF2 : Hid (TabF 40 2 wf g2 G2 n (updF f2 x y v)) := hide (by rw [hwf, ← HB2.out]; exact (HN2.out.set x y v hx).drew)
  have HTF : Hid (Touch lo hi w wf) := hide (by rw [hwf]; exact (HT2.out.store (p := ⟨b2, y, none⟩) (by show lo ≤ b2; omega) rx2.2 _).drew)
  clear hwf
  go_end0
  exact ⟨rfl, HTF.out, HF1.out, HF2.out⟩
end Go.Proofs.Ytclgjkmoeeklkaa
namespace Go.Proofs.Ytclgjkmoeeklkaa
open Go Go.RowKit
set_option maxHeartbeats 1000000

/-- What is asked of the function value: at each pair of elements, in each later world, it hands back the pair of both functions' values, and leaves what there was. -/
def PairFn (P : Program) (F : FuncId) (lb : Array Value) (n : Nat) (h1 h2 : Nat → Nat → Int) (w : World) : Prop :=
  ∀ (W : World) (x y : Nat), x < n → y < n → Below w.heap.size w W → Calls P F (#[.agg #[.int .i64 x, .int .i64 y]] ++ lb) W fun e w' => e = .returned (.agg #[.int .i64 (h1 x y), .int .i64 (h2 x y)]) ∧ Below W.heap.size W w'

/-- After k pairs. -/
def pmTo (h : Nat → Nat → Int) (n k : Nat) : Nat → Nat → Int := fun a b => if a * n + b < k then h a b else 0
theorem pmTo_upd (h : Nat → Nat → Int) (n k x y : Nat) (hx : k / n = x) (hy : k % n = y) (_hyn : y < n) : ∀ a b, a < n → b < n → updF (pmTo h n k) x y (h x y) a b = pmTo h n (k + 1) a b := by
  intro a b _ hb
  have hk : k = x * n + y := by rw [← hx, ← hy]; exact (pair_eta n k).symm
  unfold updF pmTo
  by_cases e : a = x ∧ b = y
  · obtain ⟨rfl, rfl⟩ := e
    rw [if_pos ⟨rfl, rfl⟩, if_pos (by omega)]
  · rw [if_neg e]
    have hne : a * n + b ≠ k := fun hh => e (by
      have h1 := pair_div n a b hb
      have h2 := pair_mod n a b hb
      rw [hh] at h1 h2
      omega)
    by_cases h2 : a * n + b < k
    · rw [if_pos h2, if_pos (by omega)]
    · rw [if_neg h2, if_neg (by omega)]

set_option maxRecDepth 100000 in
theorem pmo_any (F : FuncId) (lb : Array Value) (n : Nat) (h1 h2 : Nat → Nat → Int) (w : World) (eg : ∀ args w, (callFunc F args).run Try.prog w = .ok (.enter F args) w) (h0 : 1 ≤ n) (h12 : n ≤ 12) (hp : PairFn Try.prog F lb n h1 h2 w) :
    Calls Try.prog 84 #[.int .i64 n, .func (.func F) #[] lb] w fun e w' => ∃ A c B d, e = .returned (.agg #[.slice A n c, .slice B n d]) ∧ Below w.heap.size w w' ∧ ObjZ 40 2 w.heap.size w'.heap.size w' A (grid n h1) B (grid n h2) := by
  have HPF := hide hp
  clear hp
  obtain ⟨N, hN⟩ : ∃ N, n * n = N := ⟨_, rfl⟩
  have hN144 : N ≤ 144 := by rw [← hN]; exact sq_le n h12
  have HN := hide hN
  clear hN
  go_enter Try.func84, Try.ntmps84
  go_wp2_with fail
  refine calls_gen fun w0 hw0 => ?_
  have HB0 : Hid (Below w.heap.size w w0) := hide (by rw [hw0]; exact (Below.refl _ _).alloc (Nat.le_refl _) _)
  have HK0 : Hid (Blk w0 w.heap.size 43 [.slice none 0 0, .slice none 0 0]) := hide (by rw [hw0]; exact Blk.new _ _ _)
  have Z0 : Hid (w0.heap.size = w.heap.size + 1) := hide (by rw [hw0]; simp)
  clear hw0
  refine (newTable_any n _ (by omega)).mono ?_
  rintro e w1 ⟨rfl, hb1, ht1, hs1⟩
  have HB1 := hide (HB0.out.trans (hb1.mono HB0.out.size))
  have HK1 := hide (HK0.out.later hb1)
  have HT1 := hide ht1
  have Z1 := hide hs1
  clear hb1 ht1 hs1
  go_wp2_with fail
  refine (newTable_any n _ (by omega)).mono ?_
  rintro e w2 ⟨rfl, hb2, ht2, hs2⟩
  have HB2 := hide (HB1.out.trans (hb2.mono HB1.out.size))
  have HK2 := hide (HK1.out.later hb2)
  have HT12 := hide (HT1.out.later hb2)
  have HT2 := hide ht2
  have Z2 := hide hs2
  clear hb2 ht2 hs2
  go_wp2_with fail
  refine calls_gen fun w3 hw3 => ?_
  have hb3 : Below w2.heap.size w2 w3 := by rw [hw3]; exact (Below.refl _ _).alloc (Nat.le_refl _) _
  have HB3 := hide (HB2.out.trans (hb3.mono HB2.out.size))
  have HK3 := hide (HK2.out.later hb3)
  have HS3 : Hid (Blk w3 w2.heap.size 43 [.slice (some ⟨w0.heap.size, 0, none⟩) n n, .slice (some ⟨w1.heap.size, 0, none⟩) n n]) := hide (by rw [hw3]; exact Blk.new _ _ _)
  have HT13 := hide (HT12.out.later hb3)
  have HT23 := hide (HT2.out.later hb3)
  have Z3 : Hid (w3.heap.size = w2.heap.size + 1) := hide (by rw [hw3]; simp)
  clear hw3 hb3
  refine (pairsOf_any n N _ h0 h12 HN.out).mono ?_
  rintro e w4 ⟨g, rfl, hb4, hg4, hpa⟩
  have HB4 := hide (HB3.out.trans (hb4.mono HB3.out.size))
  have HK4 := hide (HK3.out.later hb4)
  have HS4 := hide (HS3.out.later hb4)
  have HT14 := hide (HT13.out.later hb4)
  have HT24 := hide (HT23.out.later hb4)
  have HPA4 := hide hpa
  have hs4 := hb4.size
  clear hb4 hpa
  go_wp2_with fail
  go_loopw [16] (fun i wr => ∃ k : Nat, k ≤ N ∧ i = .int .i64 k ∧ Below w.heap.size w wr ∧ w4.heap.size ≤ wr.heap.size ∧ Blk wr w.heap.size 43 [.slice none 0 0, .slice none 0 0] ∧ Blk wr w2.heap.size 43 [.slice (some ⟨w0.heap.size, 0, none⟩) n n, .slice (some ⟨w1.heap.size, 0, none⟩) n n] ∧ PairsAt wr g n ∧ TabF 40 2 wr w0.heap.size (fun i => w0.heap.size + 1 + i) n (pmTo h1 n k) ∧ TabF 40 2 wr w1.heap.size (fun i => w1.heap.size + 1 + i) n (pmTo h2 n k)) (fun i _ => N - (intOf i).toNat)
  case atStart => exact ⟨0, Nat.zero_le _, rfl, HB4.out, Nat.le_refl _, HK4.out, HS4.out, HPA4.out, HT14.out.congr (fun a b _ _ => by simp [pmTo]), HT24.out.congr (fun a b _ _ => by simp [pmTo])⟩
  case round =>
    obtain ⟨k, hk, rfl, hbe, hsz, hkk, hss, hpa, ht1, ht2⟩ := hrel
    have HB := hide hbe
    have HK := hide hkk
    have HS := hide hss
    have HPA := hide hpa
    have HT1 := hide ht1
    have HT2 := hide ht2
    clear hbe hkk hss hpa ht1 ht2
    by_cases hlt : k < N
    · have hkz : (k : Int) < N := by omega
      obtain ⟨p0, p1⟩ := HPA.out.2 k (by rw [HN.out]; exact hlt)
      have hxn : k / n < n := div_lt_sq (by rw [HN.out]; exact hlt)
      have hyn : k % n < n := mod_lt_sq (by rw [HN.out]; exact hlt)
      obtain ⟨x, hx⟩ : ∃ x, k / n = x := ⟨_, rfl⟩
      obtain ⟨y, hy⟩ : ∃ y, k % n = y := ⟨_, rfl⟩
      rw [hx] at p0 hxn
      rw [hy] at p1 hyn
      have HX := hide hx
      have HY := hide hy
      clear hx hy
      go_wp2_with fail
      refine wp_gen fun w5 hw5 => ?_
      obtain ⟨P, hPe⟩ : ∃ P, wr.heap.size = P := ⟨_, rfl⟩
      have hb5 : Below wr.heap.size wr w5 := by rw [hw5]; exact (Below.refl _ _).alloc (Nat.le_refl _) _
      have HPP : Hid (w4.heap.size ≤ P) := hide (by rw [← hPe]; exact hsz)
      have HBc := hide (HB.out.trans (hb5.mono HB.out.size))
      have HKc := hide (HK.out.later hb5)
      have HSc := hide (HS.out.later hb5)
      have HAc := hide (HPA.out.later hb5)
      have HT1c := hide (HT1.out.later hb5)
      have HT2c := hide (HT2.out.later hb5)
      have HPc : Hid (Blk w5 P 78 [.int .i64 x, .int .i64 y]) := hide (by rw [hw5, ← hPe]; exact Blk.new _ _ _)
      have hszc : w4.heap.size ≤ w5.heap.size := by have := hb5.size; omega
      rw [hPe]
      clear hw5 hb5 p0 p1 hPe
      have k0 := HSc.out.cell 0 _ rfl
      have k1 := HSc.out.cell 1 _ rfl
      have k2 := HPc.out.cell 0 _ rfl
      have k3 := HPc.out.cell 1 _ rfl
      go_region_held3 (fun w' => w'.cell? ⟨w2.heap.size, 0, none⟩ = some (.slice (some ⟨w0.heap.size, 0, none⟩) n n) ∧ w'.cell? ⟨w2.heap.size, 1, none⟩ = some (.slice (some ⟨w1.heap.size, 0, none⟩) n n) ∧ w'.cell? ⟨P, 0, none⟩ = some (.int .i64 x) ∧ w'.cell? ⟨P, 1, none⟩ = some (.int .i64 y)) (first | exact ⟨k0, k1, k2, k3⟩ | go_keep) (first | (go_at_fn F; go_must (refine calls_gen fun wc hwc => ?_; have hbx : Below w5.heap.size w5 wc := (by rw [hwc]; first | exact Below.refl _ _ | exact (Below.refl _ _).drew); replace HBc := hide (HBc.out.trans (hbx.mono HBc.out.size)); replace HKc := hide (HKc.out.later hbx); replace HSc := hide (HSc.out.later hbx); replace HAc := hide (HAc.out.later hbx); replace HT1c := hide (HT1c.out.later hbx); replace HT2c := hide (HT2c.out.later hbx); replace HPc := hide (HPc.out.later hbx); replace hszc : w4.heap.size ≤ wc.heap.size := (by have := hbx.size; omega); clear hwc hbx; refine (HPF.out wc x y hxn hyn HBc.out).mono ?_; rintro e wd ⟨rfl, hbd⟩; replace HBc := hide (HBc.out.trans (hbd.mono HBc.out.size)); replace HKc := hide (HKc.out.later hbd); replace HSc := hide (HSc.out.later hbd); replace HAc := hide (HAc.out.later hbd); replace HT1c := hide (HT1c.out.later hbd); replace HT2c := hide (HT2c.out.later hbd); replace HPc := hide (HPc.out.later hbd); replace hszc : w4.heap.size ≤ wd.heap.size := (by have := hbd.size; omega); clear hbd; have k0 := HSc.out.cell 0 _ rfl; have k1 := HSc.out.cell 1 _ rfl; have k2 := HPc.out.cell 0 _ rfl; have k3 := HPc.out.cell 1 _ rfl)) | (go_at_call 117; go_must (refine (set_any w0.heap.size w1.heap.size w2.heap.size _ _ _ _ n _ _ _ _ x y _ _ _ HT1c.out HT2c.out (by have z1 := Z1.out; omega) (fun i hi => by have z1 := Z1.out; omega) (by have z2 := Z2.out; omega) (fun i hi => by have z2 := Z2.out; omega) (by have z3 := Z3.out; omega) h12 hxn hyn).mono ?_; rintro e wd ⟨rfl, htd, ht1, ht2⟩; replace HBc := hide (htd.below HBc.out HBc.out.size (by have z0 := Z0.out; omega)); replace HKc := hide (HKc.out.touch htd (.inl (by have z0 := Z0.out; omega))); replace HSc := hide (HSc.out.touch htd (.inr (Nat.le_refl _))); replace HPc := hide (HPc.out.touch htd (.inr (by have := HPP.out; have z3 := Z3.out; omega))); replace HAc : Hid (PairsAt wd g n) := hide (HAc.out.touch htd (.inr (by have z3 := Z3.out; omega))); replace HT1c := hide ht1; replace HT2c := hide ht2; replace hszc : w4.heap.size ≤ wd.heap.size := (by have := htd.size; omega); clear htd ht1 ht2; have k0 := HSc.out.cell 0 _ rfl; have k1 := HSc.out.cell 1 _ rfl; have k2 := HPc.out.cell 0 _ rfl; have k3 := HPc.out.cell 1 _ rfl)))
      go_wp2_with fail
      go_roundw
      case rel => exact ⟨k + 1, by omega, by go_num, HBc.out, hszc, HKc.out, HSc.out, HAc.out, HT1c.out.congr (pmTo_upd h1 n k x y HX.out HY.out hyn), HT2c.out.congr (pmTo_upd h2 n k x y HX.out HY.out hyn)⟩
      case measure => simp [intOf]; omega
    · have hkn : k = N := by omega
      subst hkn
      have k0 := HS.out.cell 0 _ rfl
      have k1 := HS.out.cell 1 _ rfl
      have k2 := HK.out.cell 0 _ rfl
      have k3 := HK.out.cell 1 _ rfl
      have k4 := HK.out.frozen 0
      have k5 := HK.out.frozen 1
      go_wp2_with fail
      refine bp_gen fun wf hwf => ?_
      have HRF : Blk wf w.heap.size 43 [.slice (some ⟨w0.heap.size, 0, none⟩) n n, .slice (some ⟨w1.heap.size, 0, none⟩) n n] := by rw [hwf]; exact ((HK.out.set 0 _).set 1 _)
      have HBF : Below w.heap.size w wf := by rw [hwf]; exact ((HB.out.setCell (p := ⟨w.heap.size, 0, none⟩) (Nat.le_refl _) _).setCell (p := ⟨w.heap.size, 1, none⟩) (Nat.le_refl _) _)
      have z0 := Z0.out
      have z1 := Z1.out
      have z2 := Z2.out
      have z3 := Z3.out
      have HF1 : TabF 40 2 wf w0.heap.size (fun i => w0.heap.size + 1 + i) n h1 := by rw [hwf]; exact ((HT1.out.far1 (p := ⟨w.heap.size, 0, none⟩) (by show w0.heap.size ≠ w.heap.size; omega) (fun i hi => by show w0.heap.size + 1 + i ≠ w.heap.size; omega) _).far1 (p := ⟨w.heap.size, 1, none⟩) (by show w0.heap.size ≠ w.heap.size; omega) (fun i hi => by show w0.heap.size + 1 + i ≠ w.heap.size; omega) _).congr (fun a b ha hb => by unfold pmTo; rw [if_pos (by rw [← HN.out]; exact pair_lt n a b ha hb)])
      have HF2 : TabF 40 2 wf w1.heap.size (fun i => w1.heap.size + 1 + i) n h2 := by rw [hwf]; exact ((HT2.out.far1 (p := ⟨w.heap.size, 0, none⟩) (by show w1.heap.size ≠ w.heap.size; omega) (fun i hi => by show w1.heap.size + 1 + i ≠ w.heap.size; omega) _).far1 (p := ⟨w.heap.size, 1, none⟩) (by show w1.heap.size ≠ w.heap.size; omega) (fun i hi => by show w1.heap.size + 1 + i ≠ w.heap.size; omega) _).congr (fun a b ha hb => by unfold pmTo; rw [if_pos (by rw [← HN.out]; exact pair_lt n a b ha hb)])
      have hsf : wf.heap.size = wr.heap.size := by rw [hwf]; simp [World.setCell]
      have q0 := HRF.cell 0 _ rfl
      have q1 := HRF.cell 1 _ rfl
      clear hwf k0 k1 k2 k3 k4 k5
      exact bodyPost_ret (v := .agg #[.slice (some ⟨w0.heap.size, 0, none⟩) n n, .slice (some ⟨w1.heap.size, 0, none⟩) n n]) (by simp [results, Try.results84, go_sem, q0, q1]) rfl ⟨_, _, _, _, rfl, HBF, w1.heap.size, by omega, by omega, HF1.obj (by omega) (by omega) (fun i hi => by omega), HF2.obj (by omega) (by omega) (fun i hi => by omega)⟩
end Go.Proofs.Ytclgjkmoeeklkaa
namespace Go.Proofs.Ytclgjkmoeeklkaa
open Go Go.RowKit Go.ChangeShapes Go.WideShapes
open Classical
set_option maxRecDepth 100000
theorem MapV.update {w : World} {b n : Nat} {V : Value → Option Value} {t e : TypeId} (h : MapV w b n V) (ht : Try.prog.underlying t = some (.map 78 e)) (hn : n < maxLen) {key : Value} {kl : Lit} (hkey : keyOf Try.prog 78 key = some kl) (val : Value) :
    ∃ w', (Instr.mapUpdate t (.map (some b)) key val).run Try.prog w = .ok () w' ∧ MapV w' b (n + 1) (fun k => if k = key then some val else V k) ∧ w.grownBy w' (some b) := by
  obtain ⟨D, how, hV⟩ := h
  have how0 := how
  obtain ⟨es, clock, hb, F, hs, rfl⟩ := how
  obtain ⟨w', hU, how2, hg⟩ := how0.update mp_keyed ht hn hkey (show tokR val = some (.held val, []) from rfl)
  refine ⟨w', hU, ⟨_, how2, fun key' kl' hkey' => ?_⟩, hg⟩
  by_cases e : key' = key
  · subst e
    have e2 : kl' = kl := by rw [hkey] at hkey'; injection hkey' with hkey'; exact hkey'.symm
    subst e2
    rw [Maps.atKey_put_same ⟨_, rfl⟩ (mp_keyed.key hkey)]
    simp
  · have hne : kl' ≠ kl := fun e2 => e (mp_keyed.inj hkey' (e2 ▸ hkey))
    rw [Maps.atKey_put_other hne, hV key' kl' hkey']
    simp [e]
end Go.Proofs.Ytclgjkmoeeklkaa
namespace Go.Proofs.Ytclgjkmoeeklkaa
open Go Go.RowKit

theorem grid_sz {n : Nat} (h : n ≤ 1048576) (f g : Nat → Nat → Int) : ZSz 1048576 (grid n f) (grid n f).length (grid n g) (grid n g).length :=
  ⟨rfl, by rw [grid_length]; exact h, fun i hi => by rw [grid_length] at hi; rw [grid_row_length _ _ _ hi]; exact h, rfl, by rw [grid_length]; exact h, fun i hi => by rw [grid_length] at hi; rw [grid_row_length _ _ _ hi]; exact h⟩
theorem nil_sz : ZSz 1048576 [] ([] : List (List Int)).length [] ([] : List (List Int)).length := ⟨rfl, by simp, by simp, rfl, by simp, by simp⟩

/-- A pair of tables where all is well, else a code. -/
def GRes (good : Prop) (n : Nat) (h1 h2 : Nat → Nat → Int) (err : Int) (zf zg : List (List Int)) (code : Int) : Prop := (good ∧ zf = grid n h1 ∧ zg = grid n h2 ∧ code = 0) ∨ (¬ good ∧ zf = [] ∧ zg = [] ∧ code = err)
theorem GRes.ex (good : Prop) (n : Nat) (h1 h2 : Nat → Nat → Int) (err : Int) (hn : good → n ≤ 1048576) : ∃ zf zg code, GRes good n h1 h2 err zf zg code ∧ ZSz 1048576 zf zf.length zg zg.length := by
  by_cases h : good
  · exact ⟨_, _, _, .inl ⟨h, rfl, rfl, rfl⟩, grid_sz (hn h) _ _⟩
  · exact ⟨_, _, _, .inr ⟨h, rfl, rfl, rfl⟩, nil_sz⟩

def mir1 (s : List (List Int)) : Nat → Nat → Int := fun x y => ((ap s y x : Nat) : Int)
def MirRes (f s : List (List Int)) : List (List Int) → List (List Int) → Int → Prop := GRes (PMap f s) f.length (mir1 s) (mir1 f) 1
theorem MirRes.ex (f s : List (List Int)) : ∃ zf zg code, MirRes f s zf zg code ∧ ZSz 1048576 zf zf.length zg zg.length := GRes.ex _ _ _ _ _ (fun h => by have := h.1.2.1; omega)
theorem mir_turn {s : List (List Int)} (h : Tbl s) : grid s.length (mir1 s) = turnL s := by
  unfold turnL
  refine grid_congr _ _ _ fun a b ha hb => ?_
  unfold mir1
  rw [h.ap_eq rfl hb ha]
def FlipRes (n : Int) : List (List Int) → List (List Int) → Int → Prop := GRes (1 ≤ n ∧ n ≤ 12) n.toNat (fun _ y => (y : Int)) (fun x _ => (x : Int)) 2
theorem FlipRes.ex (n : Int) : ∃ zf zg code, FlipRes n zf zg code ∧ ZSz 1048576 zf zf.length zg zg.length := GRes.ex _ _ _ _ _ (fun h => by omega)
end Go.Proofs.Ytclgjkmoeeklkaa
namespace Go.Proofs.Ytclgjkmoeeklkaa
open Go Go.RowKit
set_option maxHeartbeats 1000000
/-- The number of the pair that is led to (x, y). -/
def bk (f s : List (List Int)) (n x y : Nat) : Nat := ((List.range (n * n)).find? (fun k => decide (ledK f s n k = (x, y)))).getD 0
theorem led_lt {f s : List (List Int)} {n : Nat} (hp : PMap f s) (hn : f.length = n) {k : Nat} (hk : k < n * n) : (ledK f s n k).1 < n ∧ (ledK f s n k).2 < n := by
  have hn0 : 0 < n := by rcases Nat.eq_zero_or_pos n with e | e; (subst e; simp at hk); exact e
  have hx : k / n < n := Nat.div_lt_of_lt_mul hk
  have hy : k % n < n := Nat.mod_lt _ hn0
  exact ⟨hp.1.ap_lt hn hx hy, hp.2.1.ap_lt (by rw [← hp.2.2]; exact hn) hx hy⟩
theorem bk_led {f s : List (List Int)} {n : Nat} (hc : NoCol f s n) {k x y : Nat} (hk : k < n * n) (h : ledK f s n k = (x, y)) : bk f s n x y = k := by
  unfold bk
  cases e : (List.range (n * n)).find? (fun k => decide (ledK f s n k = (x, y))) with
  | none =>
    rw [List.find?_eq_none] at e
    exact absurd h (by simpa using e k (List.mem_range.2 hk))
  | some j =>
    have h1 := List.find?_some e
    have h2 := List.mem_range.1 (List.mem_of_find?_eq_some e)
    simp at h1
    show j = k
    refine Classical.byContradiction (fun hne => hc j k h2 hk hne ?_)
    rw [h1, h]
theorem bk_spec {f s : List (List Int)} {n : Nat} (hp : PMap f s) (hn : f.length = n) (hc : NoCol f s n) {x y : Nat} (hx : x < n) (hy : y < n) : bk f s n x y < n * n ∧ ledK f s n (bk f s n x y) = (x, y) := by
  have hnd : ((List.range (n * n)).map fun k => (ledK f s n k).1 * n + (ledK f s n k).2).Nodup := by
    rw [List.nodup_iff_pairwise_ne, List.pairwise_map]
    refine List.Pairwise.imp_of_mem ?_ List.pairwise_lt_range
    intro a b ha hb hab e
    have ha := List.mem_range.1 ha
    have hb := List.mem_range.1 hb
    have la := led_lt hp hn ha
    have lb := led_lt hp hn hb
    refine hc a b ha hb (by omega) ?_
    have e1 : ((ledK f s n a).1 * n + (ledK f s n a).2) / n = (ledK f s n a).1 := pair_div n _ _ la.2
    have e2 : ((ledK f s n b).1 * n + (ledK f s n b).2) / n = (ledK f s n b).1 := pair_div n _ _ lb.2
    have e3 : ((ledK f s n a).1 * n + (ledK f s n a).2) % n = (ledK f s n a).2 := pair_mod n _ _ la.2
    have e4 : ((ledK f s n b).1 * n + (ledK f s n b).2) % n = (ledK f s n b).2 := pair_mod n _ _ lb.2
    rw [e] at e1 e3
    exact Prod.ext (e1.symm.trans e2) (e3.symm.trans e4)
  have hrow : ∀ a b, a < n → b < n → a * n + b < n * n := fun a b ha hb => by
    have h9 := Nat.mul_le_mul_right n (show a + 1 ≤ n from ha)
    rw [Nat.add_mul, Nat.one_mul] at h9
    omega
  obtain ⟨l, hl⟩ := subset_perm _ (List.range (n * n)) hnd (fun a ha => by
    obtain ⟨k, hk, e⟩ := List.mem_map.1 ha
    have hk := List.mem_range.1 hk
    have la := led_lt hp hn hk
    rw [← e]
    exact List.mem_range.2 (hrow _ _ la.1 la.2))
  have hll := hl.length_eq
  simp at hll
  subst hll
  have hm : x * n + y ∈ ((List.range (n * n)).map fun k => (ledK f s n k).1 * n + (ledK f s n k).2) := by
    have h := hl.mem_iff.1 (List.mem_range.2 (hrow x y hx hy))
    simpa using h
  obtain ⟨k, hk, e⟩ := List.mem_map.1 hm
  have hk := List.mem_range.1 hk
  have la := led_lt hp hn hk
  have e1 : ((ledK f s n k).1 * n + (ledK f s n k).2) / n = (ledK f s n k).1 := pair_div n _ _ la.2
  have e3 : ((ledK f s n k).1 * n + (ledK f s n k).2) % n = (ledK f s n k).2 := pair_mod n _ _ la.2
  rw [e, pair_div n x y hy] at e1
  rw [e, pair_mod n x y hy] at e3
  have hxy : ledK f s n k = (x, y) := Prod.ext e1.symm e3.symm
  rw [bk_led hc hk hxy]
  exact ⟨hk, hxy⟩
def bk1 (f s : List (List Int)) (n : Nat) : Nat → Nat → Int := fun x y => ((bk f s n x y / n : Nat) : Int)
def bk2 (f s : List (List Int)) (n : Nat) : Nat → Nat → Int := fun x y => ((bk f s n x y % n : Nat) : Int)
def BkRes (f s : List (List Int)) : List (List Int) → List (List Int) → Int → Prop := GRes (SolF f s) f.length (bk1 f s f.length) (bk2 f s f.length) 1
theorem BkRes.ex (f s : List (List Int)) : ∃ zf zg code, BkRes f s zf zg code ∧ ZSz 1048576 zf zf.length zg zg.length := GRes.ex _ _ _ _ _ (fun h => by have := h.1.1.2.1; omega)
end Go.Proofs.Ytclgjkmoeeklkaa
namespace Go.Proofs.Ytclgjkmoeeklkaa
open Go Go.RowKit
set_option maxHeartbeats 2000000
theorem bkZero (u : World) : (zeroValue 78).run Try.prog u = .ok (.agg #[.int .i64 0, .int .i64 0]) u := by kernel_rfl
set_option maxRecDepth 100000 in
theorem bkC_any (f s : List (List Int)) (n b M c : Nat) (V : Value → Option Value) (w : World) (h12 : n ≤ 12) (hk : Blk w b 85 [.map (some M)]) (hm : MapV w M c V) (hV : ∀ x y, x < n → y < n → V (pkey x y) = some (pkey (bk f s n x y / n) (bk f s n x y % n))) :
    PairFn Try.prog 85 #[.pointer (some ⟨b, 0, none⟩)] n (bk1 f s n) (bk2 f s n) w := by
  intro W x y hx hy hb
  have HK := hide (hk.later hb)
  have HM := hide (hm.later hb)
  have hv := hV x y hx hy
  clear hk hb hm hV
  show Calls Try.prog 85 #[.agg #[.int .i64 x, .int .i64 y], .pointer (some ⟨b, 0, none⟩)] W _
  unfold bk1 bk2
  obtain ⟨u, hu⟩ : ∃ u, bk f s n x y / n = u := ⟨_, rfl⟩
  obtain ⟨v, hvv⟩ : ∃ v, bk f s n x y % n = v := ⟨_, rfl⟩
  rw [hu, hvv] at hv
  rw [hu, hvv]
  clear hu hvv
  obtain ⟨kl, hkey⟩ := mp_key W x y (by omega) (by omega)
  obtain ⟨W2, hW2⟩ : ∃ W2, W2 = (W.alloc (Obj.cells #[Value.int IntKind.i64 x, Value.int IntKind.i64 y] 78)).alloc (Obj.cells #[Value.int IntKind.i64 0, Value.int IntKind.i64 0] 78) := ⟨_, rfl⟩
  have hb2 : Below W.heap.size W W2 := by rw [hW2]; exact ((Below.refl _ _).alloc (Nat.le_refl _) _).alloc (by simp) _
  have hl := (HM.out.later hb2).look (t := 85) Try.underlying85 (bkZero W2) hkey
  rw [hv] at hl
  have hl2 : (Instr.lookup 85 (.map (some M)) (.agg #[.int .i64 (x : Int), .int .i64 (y : Int)]) false).run Try.prog W2 = .ok (.agg #[.int .i64 (u : Int), .int .i64 (v : Int)]) W2 := hl
  rw [hW2] at hl2
  have k0 := fun o1 o2 => ((HK.out.alloc o1).alloc o2).cell 0 _ rfl
  clear hl hv hb2 hW2 hkey
  go_enter Try.func85, Try.ntmps85
  go_wp2_with fail
  clear hl2 k0
  refine bp_gen fun wf hwf => ?_
  have HRF : Blk wf (W.heap.size + 1) 78 [.int .i64 u, .int .i64 v] := by rw [hwf]; have h := Blk.new (W.alloc (Obj.cells #[Value.int IntKind.i64 x, Value.int IntKind.i64 y] 78)) 78 [.int .i64 u, .int .i64 v]; simpa using h
  have HBF : Below W.heap.size W wf := by rw [hwf]; exact ((Below.refl _ _).alloc (Nat.le_refl _) _).alloc (by simp) _
  have q0 := HRF.cell 0 _ rfl
  have q1 := HRF.cell 1 _ rfl
  clear hwf
  exact bodyPost_ret (v := .agg #[.int .i64 u, .int .i64 v]) (by simp [results, Try.results85, go_sem, q0, q1]) rfl ⟨rfl, HBF⟩
end Go.Proofs.Ytclgjkmoeeklkaa
namespace Go.Proofs.Ytclgjkmoeeklkaa
open Go Go.RowKit
open Classical
set_option maxHeartbeats 4000000
/-- The map after k pairs. -/
noncomputable def bkV (f s : List (List Int)) (n : Nat) : Nat → Value → Option Value
  | 0 => fun _ => none
  | k + 1 => fun key => if key = pkey (ledK f s n k).1 (ledK f s n k).2 then some (pkey (k / n) (k % n)) else bkV f s n k key
theorem bkV_at {f s : List (List Int)} {n : Nat} (hc : NoCol f s n) : ∀ k, k ≤ n * n → ∀ j, j < k → bkV f s n k (pkey (ledK f s n j).1 (ledK f s n j).2) = some (pkey (j / n) (j % n))
  | 0, _, j, hj => absurd hj (Nat.not_lt_zero _)
  | k + 1, hk, j, hj => by
    unfold bkV
    by_cases e : j = k
    · subst e
      rw [if_pos rfl]
    · rw [if_neg (fun h => hc j k (by omega) (by omega) e (Prod.ext (pkey_inj h).1 (pkey_inj h).2))]
      exact bkV_at hc k (by omega) j (by omega)
theorem bkV_all {f s : List (List Int)} {n : Nat} (hp : PMap f s) (hn : f.length = n) (hc : NoCol f s n) : ∀ x y, x < n → y < n → bkV f s n (n * n) (pkey x y) = some (pkey (bk f s n x y / n) (bk f s n x y % n)) := fun x y hx hy => by
  have h := bk_spec hp hn hc hx hy
  have h2 := bkV_at hc (n * n) (Nat.le_refl _) _ h.1
  rw [h.2] at h2
  exact h2

theorem bkV_next {f s : List (List Int)} {n k b x y u v : Nat} {w : World} (hq : ledK f s n k = (u, v)) (hx : k / n = x) (hy : k % n = y) (h : MapV w b (k + 1) (fun key => if key = pkey u v then some (pkey x y) else bkV f s n k key)) : MapV w b (k + 1) (bkV f s n (k + 1)) := by
  refine h.congr (fun key => ?_)
  show _ = (if key = pkey (ledK f s n k).1 (ledK f s n k).2 then some (pkey (k / n) (k % n)) else bkV f s n k key)
  rw [hq, hx, hy]
theorem pairsAt_of {w w' : World} {g n : Nat} (hs : w.heap.size ≤ w'.heap.size) (h : PairsAt w g n) (e : w'.heap[g]? = w.heap[g]?) : PairsAt w' g n := by
  refine ⟨Nat.lt_of_lt_of_le h.1 hs, fun j hj => ?_⟩
  rw [World.cell?_of_block (a := ⟨g, j * 2, none⟩) e, World.cell?_of_block (a := ⟨g, j * 2 + 1, none⟩) e]
  exact h.2 j hj

set_option maxRecDepth 100000 in
theorem bkI_any (A : Option Addr) (n c : Nat) (f : List (List Int)) (B : Option Addr) (m d : Nat) (s : List (List Int)) (zf zg : List (List Int)) (code : Int) (kz kw : Nat) (w : World) (hz : ZArg 1048576 w A n f B m s) (hr : BkRes f s zf zg code) (hk : ZSz 1048576 zf kz zg kw) :
    Calls Try.prog 39 #[.agg #[.slice A n c, .slice B m d]] w (ZPost 40 2 kz kw zf zg code w) := by
  have hnb := hz.sz.nb
  have HZ := hide hz
  have HFL := hide hz.sz.fl
  rcases hr with ⟨hp, rfl, rfl, rfl⟩ | ⟨hp, rfl, rfl, rfl⟩
  · have HS := hide hp
    have HP := hide hp.1
    have hc := hp.2.1
    rw [hz.sz.fl] at hc
    have HC := hide hc
    have h12 := hz.small hp.1
    obtain rfl : kz = n := by rw [← hk.fl, grid_length, HFL.out]
    obtain rfl : kw = kz := by rw [← hk.sl, grid_length, HFL.out]
    clear hp hz hk hc
    obtain ⟨N, hN⟩ : ∃ N, kw * kw = N := ⟨_, rfl⟩
    have hN144 : N ≤ 144 := by rw [← hN]; exact sq_le kw h12.2
    have HN := hide hN
    clear hN
    have hmm := @run_makeMap Try.prog
    go_enter Try.func39, Try.ntmps39
    go_wp2_with fail
    refine calls_gen fun w0 hw0 => ?_
    have hb0 : Below w.heap.size w w0 := by rw [hw0]; exact ((Below.refl _ _).alloc (Nat.le_refl _) _).alloc (by simp) _
    have HB0 := hide hb0
    have HK0 : Hid (Blk w0 w.heap.size 43 [.slice A kw c, .slice B m d]) := hide (by rw [hw0]; exact (Blk.new _ _ _).alloc _)
    have HR0 : Hid (Blk w0 (w.heap.size + 1) 43 [.slice none 0 0, .slice none 0 0]) := hide (by rw [hw0]; have h := Blk.new (w.alloc (Obj.cells #[Value.slice A kw c, Value.slice B m d] 43)) 43 [.slice none 0 0, .slice none 0 0]; simpa using h)
    clear hw0 hb0
    refine (isI_any _ _ _ f _ _ _ s true _ (HZ.out.later HB0.out) (by simp [IsRes, HS.out])).mono ?_
    rintro e w1 ⟨rfl, hb1⟩
    have HB1 := hide (HB0.out.trans (hb1.mono HB0.out.size))
    have HK1 := hide (HK0.out.later hb1)
    have HR1 := hide (HR0.out.later hb1)
    have k0 := fun o1 o2 => ((HK1.out.alloc o1).alloc o2).cell 0 _ rfl
    have k1 := fun o1 o2 => ((HK1.out.alloc o1).alloc o2).cell 1 _ rfl
    clear hb1
    go_wp2_with fail
    clear k0 k1 hmm
    refine calls_gen fun w2 hw2 => ?_
    have hb2 : Below w1.heap.size w1 w2 := by rw [hw2]; exact ((Below.refl _ _).alloc (Nat.le_refl _) _).alloc (by simp) _
    have HM2 : Hid (MapV w2 w1.heap.size 0 (fun _ => none)) := hide (by rw [hw2]; exact (MapV.made w1).later ((Below.refl _ _).alloc (Nat.le_refl _) _))
    have HT2 : Hid (Blk w2 (w1.heap.size + 1) 85 [.map (some w1.heap.size)]) := hide (by rw [hw2]; have h := Blk.new (w1.alloc (Obj.map #[] 0)) 85 [.map (some w1.heap.size)]; simpa using h)
    have HB2 := hide hb2
    clear hw2 hb2
    refine (size_any _ _ _ _ _ _ _ hnb).mono ?_
    rintro e w3 ⟨rfl, hb3⟩
    have HB3 := hide (HB2.out.trans (hb3.mono HB2.out.size))
    have HM3 := hide (HM2.out.later hb3)
    have HT3 := hide (HT2.out.later hb3)
    clear hb3
    go_wp2_with fail
    refine (pairsOf_any kw N _ h12.1 h12.2 HN.out).mono ?_
    rintro e w4 ⟨g, rfl, hb4, hg4, hpa⟩
    have HB4 := hide (HB3.out.trans (hb4.mono HB3.out.size))
    have HM4 := hide (HM3.out.later hb4)
    have HT4 := hide (HT3.out.later hb4)
    have HA4 := hide hpa
    have hMg : w1.heap.size + 1 < g := by have := HT3.out.lt; omega
    clear hb4 hpa
    go_wp2_with fail
    go_outline
    go_loopw [16] (fun i wr => ∃ k : Nat, k ≤ N ∧ i = .int .i64 k ∧ Below w1.heap.size w1 wr ∧ Blk wr (w1.heap.size + 1) 85 [.map (some w1.heap.size)] ∧ PairsAt wr g kw ∧ MapV wr w1.heap.size k (bkV f s kw k)) (fun i _ => N - (intOf i).toNat)
    case atStart => exact ⟨0, Nat.zero_le _, rfl, HB4.out, HT4.out, HA4.out, HM4.out⟩
    case round =>
      obtain ⟨k, hk, rfl, hbe, htt, hpa, hmm⟩ := hrel
      have HB := hide hbe
      have HT := hide htt
      have HPA := hide hpa
      have HMM := hide hmm
      clear hbe htt hpa hmm
      by_cases hlt : k < N
      · have hkz : (k : Int) < N := by omega
        obtain ⟨p0, p1⟩ := HPA.out.2 k (by rw [HN.out]; exact hlt)
        have hxn : k / kw < kw := div_lt_sq (by rw [HN.out]; exact hlt)
        have hyn : k % kw < kw := mod_lt_sq (by rw [HN.out]; exact hlt)
        obtain ⟨x, hx⟩ : ∃ x, k / kw = x := ⟨_, rfl⟩
        obtain ⟨y, hy⟩ : ∃ y, k % kw = y := ⟨_, rfl⟩
        rw [hx] at p0 hxn
        rw [hy] at p1 hyn
        have hu := HP.out.lt1 HFL.out hxn hyn
        have hv := HP.out.lt2 HFL.out hxn hyn
        have hq : ledK f s kw k = (ap f x y, ap s x y) := by unfold ledK; rw [hx, hy]
        obtain ⟨u, hue⟩ : ∃ u, ap f x y = u := ⟨_, rfl⟩
        obtain ⟨v, hve⟩ : ∃ v, ap s x y = v := ⟨_, rfl⟩
        rw [hue, hve] at hq
        rw [hue] at hu
        rw [hve] at hv
        have HX := hide hx
        have HY := hide hy
        have HQ := hide hq
        have HUE := hide hue
        have HVE := hide hve
        clear hq hue hve hx hy
        go_wp2_with fail
        clear p0 p1
        refine wp_gen fun w5 hw5 => ?_
        obtain ⟨P, hPe⟩ : ∃ P, wr.heap.size = P := ⟨_, rfl⟩
        have hbx : Below wr.heap.size wr w5 := by rw [hw5]; exact (Below.refl _ _).alloc (Nat.le_refl _) _
        have HPp : Hid (Blk w5 P 78 [.int .i64 x, .int .i64 y]) := hide (by rw [hw5, ← hPe]; exact Blk.new _ _ _)
        have HBp := hide (HB.out.trans (hbx.mono HB.out.size))
        have HBb := hide (HT.out.later hbx)
        have HA := hide (HPA.out.later hbx)
        have HM := hide (HMM.out.later hbx)
        rw [hPe]
        have hPn : w1.heap.size + 1 < P := by rw [← hPe]; exact HT.out.lt
        have hn1 : w.heap.size < w1.heap.size := HK1.out.lt
        clear hw5 hbx hPe
        have k0 := (HK1.out.later HBp.out).cell 0 _ rfl
        have k1 := (HK1.out.later HBp.out).cell 1 _ rfl
        have k2 := HBb.out.cell 0 _ rfl
        have p0 := HPp.out.cell 0 _ rfl
        have p1 := HPp.out.cell 1 _ rfl
        go_region_held3 (fun w' => w'.cell? ⟨w.heap.size, 0, none⟩ = some (.slice A kw c) ∧ w'.cell? ⟨w.heap.size, 1, none⟩ = some (.slice B m d) ∧ w'.cell? ⟨w1.heap.size + 1, 0, none⟩ = some (.map (some w1.heap.size)) ∧ w'.cell? ⟨P, 0, none⟩ = some (.int .i64 x) ∧ w'.cell? ⟨P, 1, none⟩ = some (.int .i64 y)) (first | exact ⟨k0, k1, k2, p0, p1⟩ | exact ⟨m0, m1, m2, m3, m4⟩ | go_keep) (first | (go_at_call 83; go_must (refine calls_gen fun wc hwc => ?_; (first | (have hbx := drew_below hwc) | (have hbx := eq_below hwc)); replace HBp := hide (HBp.out.trans (hbx.mono HBp.out.size)); replace HBb := hide (HBb.out.later hbx); replace HA := hide (HA.out.later hbx); replace HM := hide (HM.out.later hbx); replace HPp := hide (HPp.out.later hbx); clear hwc hbx; refine (lead_any _ _ _ f _ _ _ s x y _ (HZ.out.later (HB1.out.trans (HBp.out.mono HB1.out.size))) HP.out hxn hyn).mono ?_; rintro e wd ⟨rfl, hbd⟩; replace HBp := hide (HBp.out.trans (hbd.mono HBp.out.size)); replace HBb := hide (HBb.out.later hbd); replace HA := hide (HA.out.later hbd); replace HM := hide (HM.out.later hbd); replace HPp := hide (HPp.out.later hbd); clear hbd; rw [HUE.out, HVE.out]; obtain ⟨kl, hkey⟩ := mp_key wd u v (by omega) (by omega); obtain ⟨wu, hup0, hmu, hgu⟩ := HM.out.update (t := 85) Try.underlying85 (by unfold maxLen; omega) hkey (pkey x y); have hup : (Instr.mapUpdate 85 (.map (some w1.heap.size)) (.agg #[.int .i64 (u : Int), .int .i64 (v : Int)]) (.agg #[.int .i64 (x : Int), .int .i64 (y : Int)])).run Try.prog wd = .ok () wu := hup0; have HMU := hide hmu; have hfr : ∀ i, i < wd.heap.size → i ≠ w1.heap.size → wu.heap[i]? = wd.heap[i]? := fun i h1 h2 => hgu.block i h1 (fun e => by injection e with e; omega); have HBu : Hid (Below w1.heap.size w1 wu) := hide (HBp.out.grown hgu HBp.out.size (fun j e => by injection e with e; omega)); have HKu : Hid (Blk wu w.heap.size 43 [.slice A kw c, .slice B m d]) := hide ((hfr _ (HK1.out.later HBp.out).lt (by omega)).trans (HK1.out.later HBp.out)); have HTu : Hid (Blk wu (w1.heap.size + 1) 85 [.map (some w1.heap.size)]) := hide ((hfr _ HBb.out.lt (by omega)).trans HBb.out); have HPu : Hid (Blk wu P 78 [.int .i64 x, .int .i64 y]) := hide ((hfr _ HPp.out.lt (by omega)).trans HPp.out); have HAu : Hid (PairsAt wu g kw) := hide (pairsAt_of hgu.size HA.out (hfr g HA.out.1 (by omega))); have m0 := HKu.out.cell 0 _ rfl; have m1 := HKu.out.cell 1 _ rfl; have m2 := HTu.out.cell 0 _ rfl; have m3 := HPu.out.cell 0 _ rfl; have m4 := HPu.out.cell 1 _ rfl; clear hup0 hmu hgu hkey hfr; have k0 := (HK1.out.later HBp.out).cell 0 _ rfl; have k1 := (HK1.out.later HBp.out).cell 1 _ rfl; have k2 := HBb.out.cell 0 _ rfl; have p0 := HPp.out.cell 0 _ rfl; have p1 := HPp.out.cell 1 _ rfl)))
        all_goals go_wp2_with fail
        all_goals go_roundw
        case rel => exact ⟨k + 1, by omega, by go_num, HBu.out, HTu.out, HAu.out, bkV_next HQ.out HX.out HY.out HMU.out⟩
        case measure => simp [intOf]; omega
      · have hkn : k = N := by omega
        subst hkn
        have HK := hide (HK1.out.later HB.out)
        have HR := hide (HR1.out.later HB.out)
        have k0 := HK.out.cell 0 _ rfl
        have k1 := HK.out.cell 1 _ rfl
        go_wp2_with fail
        clear k0 k1
        refine (size_any _ _ _ _ _ _ _ hnb).mono ?_
        rintro e w5 ⟨rfl, hb5⟩
        have HB5 := hide (HB.out.trans (hb5.mono HB.out.size))
        have HM5 := hide (HMM.out.later hb5)
        have HT5 := hide (HT.out.later hb5)
        have HR5 := hide (HR.out.later hb5)
        clear hb5
        go_wp2_with fail
        have hall := bkV_all HP.out HFL.out HC.out
        rw [HN.out] at hall
        refine (pmo_any 85 _ _ (bk1 f s kw) (bk2 f s kw) _ (enters_of Try.func85 (by kernel_rfl) rfl) h12.1 h12.2 (bkC_any f s kw (w1.heap.size + 1) w1.heap.size k _ _ h12.2 HT5.out HM5.out hall)).mono ?_
        rintro e w6 ⟨A3, c3, B3, d3, rfl, hb6, ho6⟩
        have HB6 := hide (HB1.out.trans ((HB5.out.trans (hb6.mono HB5.out.size)).mono HB1.out.size))
        have HB51 := hide (HB1.out.trans (HB5.out.mono HB1.out.size))
        have HR6 := hide (HR5.out.later hb6)
        have HO6 := hide ho6
        have HRL := hide HR5.out.lt
        have k2 := HR6.out.cell 0 _ rfl
        have k3 := HR6.out.cell 1 _ rfl
        have k4 := HR6.out.frozen 0
        have k5 := HR6.out.frozen 1
        clear hb6 ho6 hall
        go_wp2_with fail
        refine bp_gen fun wf hwf => ?_
        obtain ⟨q0, q1, hbf, hof⟩ := zend hwf HR6.out (by omega) HRL.out HB6.out HB51.out.size HO6.out
        clear hwf k2 k3 k4 k5
        rw [HFL.out]
        exact bodyPost_ret (v := .tuple #[.agg #[.slice A3 kw c3, .slice B3 kw d3], .int .i64 0]) (by simp [results, Try.results39, go_sem, q0, q1]) rfl ⟨_, _, _, _, rfl, hbf, hof⟩
  · have HP := hide hp
    obtain rfl : kz = 0 := by simpa using hk.fl.symm
    obtain rfl : kw = 0 := by simpa using hk.sl.symm
    clear hp hz hk
    go_enter Try.func39, Try.ntmps39
    go_wp2_with fail
    refine calls_gen fun w0 hw0 => ?_
    have hb0 : Below w.heap.size w w0 := by rw [hw0]; exact ((Below.refl _ _).alloc (Nat.le_refl _) _).alloc (by simp) _
    have HB0 := hide hb0
    have HR0 : Hid (Blk w0 (w.heap.size + 1) 43 [.slice none 0 0, .slice none 0 0]) := hide (by rw [hw0]; have h := Blk.new (w.alloc (Obj.cells #[Value.slice A n c, Value.slice B m d] 43)) 43 [.slice none 0 0, .slice none 0 0]; simpa using h)
    clear hw0 hb0
    refine (isI_any _ _ _ f _ _ _ s false _ (HZ.out.later HB0.out) (by simp [IsRes, HP.out])).mono ?_
    rintro e w1 ⟨rfl, hb1⟩
    have HB1 := hide (HB0.out.trans (hb1.mono HB0.out.size))
    have HR1 := hide (HR0.out.later hb1)
    have k2 := HR1.out.cell 0 _ rfl
    have k3 := HR1.out.cell 1 _ rfl
    have k4 := HR1.out.frozen 0
    have k5 := HR1.out.frozen 1
    clear hb1
    go_wp2_with fail
    refine bp_gen fun wf hwf => ?_
    obtain ⟨q0, q1, hbf, hof⟩ := zend (ts := 40) (t := 2) (w2 := w1) hwf HR1.out (by omega) HR1.out.lt HB1.out HB1.out.size (ObjZ.empty (Nat.le_refl _))
    clear hwf k2 k3 k4 k5
    exact bodyPost_ret (v := .tuple #[.agg #[.slice none 0 0, .slice none 0 0], .int .i64 1]) (by simp [results, Try.results39, go_sem, q0, q1]) rfl ⟨_, _, _, _, rfl, hbf, hof⟩
end Go.Proofs.Ytclgjkmoeeklkaa
namespace Go.Proofs.Ytclgjkmoeeklkaa
open Go Go.RowKit
set_option maxHeartbeats 1000000

def hdr (G : Nat → Nat) (n x : Nat) : List Value := (List.range x).map fun i => .slice (some ⟨G i, 0, none⟩) n n
theorem hdr_length (G : Nat → Nat) (n x : Nat) : (hdr G n x).length = x := by simp [hdr]
theorem hdr_succ (G : Nat → Nat) (n x R : Nat) : hdr (fun i => if i = x then R else G i) n (x + 1) = hdr G n x ++ [.slice (some ⟨R, 0, none⟩) n n] := by
  unfold hdr
  rw [List.range_succ, List.map_append]
  congr 1
  · refine List.map_congr_left fun i hi => ?_
    have := List.mem_range.1 hi
    show Value.slice (some ⟨if i = x then R else G i, 0, none⟩) n n = _
    rw [if_neg (by omega)]
  · simp
section
variable {ts t tz : TypeId} {B : Nat} {w w' w1 : World} {ob : Nat} {v1 v2 v' : Value} {x1 x2 n : Nat} {G1 G2 : Nat → Nat}
/-- Two tables of zeros that the call builds row by row, in the box ob. -/
structure Emp (ts t : TypeId) (B : Nat) (w : World) (ob : Nat) (v1 v2 : Value) (x1 x2 n : Nat) (G1 G2 : Nat → Nat) : Prop where
  low : ob < B
  bsz : B ≤ w.heap.size
  o1 : w.ownsRow B ts 1 v1 x1 (hdr G1 n x1)
  o2 : w.ownsRow B ts 1 v2 x2 (hdr G2 n x2)
  ne : ∀ g, v1.ownBlock = some g → v2.ownBlock ≠ some g
  r1 : ∀ i, i < x1 → B ≤ G1 i ∧ PreIs w (G1 i) t n (fun _ => .int .i64 0)
  r2 : ∀ i, i < x2 → B ≤ G2 i ∧ PreIs w (G2 i) t n (fun _ => .int .i64 0)
  i1 : ∀ i j, i < x1 → j < x1 → i ≠ j → G1 i ≠ G1 j
  i2 : ∀ i j, i < x2 → j < x2 → i ≠ j → G2 i ≠ G2 j
  i12 : ∀ i j, i < x1 → j < x2 → G1 i ≠ G2 j

theorem Emp.start (w : World) (ts t : TypeId) (n : Nat) (h : ob < w.heap.size) : Emp ts t w.heap.size w ob (.slice none 0 0) (.slice none 0 0) 0 0 n (fun _ => 0) (fun _ => 0) :=
  ⟨h, Nat.le_refl _, World.ownsRow_nil _ _ _ _, World.ownsRow_nil _ _ _ _, fun g hg => by simp [Value.ownBlock] at hg, fun i hi => absurd hi (Nat.not_lt_zero _), fun i hi => absurd hi (Nat.not_lt_zero _), fun i j hi => absurd hi (Nat.not_lt_zero _), fun i j hi => absurd hi (Nat.not_lt_zero _), fun i j hi => absurd hi (Nat.not_lt_zero _)⟩

theorem PreIs.later' {b : Nat} {f : Nat → Value} (r : PreIs w b t n f) (hb : Below w.heap.size w w') : PreIs w' b t n f := r.of_block (hb.block b r.lt)

theorem Emp.swapped (h : Emp ts t B w ob v1 v2 x1 x2 n G1 G2) : Emp ts t B w ob v2 v1 x2 x1 n G2 G1 :=
  ⟨h.low, h.bsz, h.o2, h.o1, fun g h1 h2 => h.ne g h2 h1, h.r2, h.r1, h.i2, h.i1, fun i j hi hj e => h.i12 j i hj hi e.symm⟩

theorem pre_ne_own {b g : Nat} {f : Nat → Value} {v : Value} {k : Nat} {xs : List Value} (hne : ts ≠ t) (r : PreIs w b t n f) (h : w.ownsRow B ts 1 v k xs) (hg : v.ownBlock = some g) : b ≠ g := by
  intro e
  subst e
  obtain ⟨_, _, cur, h1⟩ := own_type h hg
  obtain ⟨cur', h2, _⟩ := r
  rw [h1] at h2
  injection h2 with h2
  injection h2 with _ h2
  exact hne h2

theorem Emp.kept (h : Emp ts t B w ob v1 v2 x1 x2 n G1 G2) {cs : List Value} (hk : Blk w ob tz cs) {W : World} (hbw : Below w.heap.size w W) (hg : W.grownBy w1 v1.ownBlock) : Blk w1 ob tz cs :=
  (hg.block ob (Nat.lt_of_lt_of_le hk.lt hbw.size) (fun e => by
    have := (own_type h.o1 e.symm).2.1
    have := h.low
    omega)).trans (hk.later hbw)
theorem Emp.keptR (h : Emp ts t B w ob v1 v2 x1 x2 n G1 G2) {b : Nat} {cs : List Value} (hk : Blk w b tz cs) (hb : b < B) (hne : b ≠ ob) {W : World} (hbw : Below w.heap.size w W) (hg : W.grownBy w1 v1.ownBlock) (q : Nat) (u : Value) : Blk (w1.setCell ⟨ob, q, none⟩ u) b tz cs :=
  (Below.heap_setCell w1 ⟨ob, q, none⟩ u b hne).trans ((hg.block b (Nat.lt_of_lt_of_le hk.lt hbw.size) (fun e => by
    have := (own_type h.o1 e.symm).2.1
    omega)).trans (hk.later hbw))
/-- What a row more in one list leaves. -/
theorem Emp.push (hne : ts ≠ t) (h : Emp ts t B w ob v1 v2 x1 x2 n G1 G2) {q : Nat} {W : World} (hbw : Below w.heap.size w W) (hWs : W.heap.size = w.heap.size + 1 + 1) (hWr : PreIs W w.heap.size t n (fun _ => .int .i64 0))
    (hown : w1.ownsRow B ts 1 v' (x1 + 1) (hdr G1 n x1 ++ [.slice (some ⟨w.heap.size, 0, none⟩) n n])) (hg : W.grownBy w1 v1.ownBlock)
    (hat : v'.ownBlock = v1.ownBlock ∨ v'.ownBlock = some (w.heap.size + 1 + 1)) :
    Emp ts t B (w1.setCell ⟨ob, q, none⟩ v') ob v' v2 (x1 + 1) x2 n (fun i => if i = x1 then w.heap.size else G1 i) G2 := by
  have hsz := hg.size
  rw [hWs] at hsz
  have hlow := h.low
  have hbsz := h.bsz
  have keep : ∀ b, b < w.heap.size → v1.ownBlock ≠ some b → b ≠ ob → (w1.setCell ⟨ob, q, none⟩ v').heap[b]? = w.heap[b]? := fun b h1 h2 h3 =>
    (Below.heap_setCell w1 ⟨ob, q, none⟩ v' b h3).trans ((hg.block b (by omega) (fun e => h2 e.symm)).trans (hbw.block b h1))
  have krow : ∀ b, B ≤ b → PreIs w b t n (fun _ => .int .i64 0) → PreIs (w1.setCell ⟨ob, q, none⟩ v') b t n (fun _ => .int .i64 0) := fun b hB r =>
    r.of_block (keep b r.lt (fun e => pre_ne_own hne r h.o1 e rfl) (by omega))
  have hnew : PreIs (w1.setCell ⟨ob, q, none⟩ v') w.heap.size t n (fun _ => .int .i64 0) := by
    refine hWr.of_block ((Below.heap_setCell w1 ⟨ob, q, none⟩ v' w.heap.size (by show w.heap.size ≠ ob; omega)).trans (hg.block _ (by omega) (fun e => ?_)))
    have := (own_type h.o1 e.symm).1
    omega
  refine ⟨hlow, by simp [World.setCell]; omega, ownsRow_setCell_below (by rw [hdr_succ]; exact hown) hlow _, ownsRow_setCell_below ((ownsRow_below h.o2 hbw).kept hg ?_) hlow _, fun g h1 h2 => ?_, fun i hi => ?_, fun i hi => ?_, fun i j hi hj hij => ?_, h.i2, fun i j hi hj => ?_⟩
  · by_cases e : v2.ownBlock = none
    · exact .inl e
    · refine .inr (fun e2 => ?_)
      cases e3 : v2.ownBlock with
      | none => exact e e3
      | some g => exact h.ne g (e2.symm.trans e3) e3
  · rcases hat with e | e
    · exact h.ne g (e.symm.trans h1) h2
    · rw [h1] at e
      injection e with e
      have := (own_type h.o2 h2).1
      omega
  · by_cases e : i = x1
    · subst e; simp only [if_pos rfl]; exact ⟨hbsz, hnew⟩
    · simp only [if_neg e]
      have hr := h.r1 i (by omega)
      exact ⟨hr.1, krow _ hr.1 hr.2⟩
  · have hr := h.r2 i hi
    exact ⟨hr.1, krow _ hr.1 hr.2⟩
  · by_cases e : i = x1
    · by_cases e2 : j = x1
      · omega
      · simp only [if_pos e, if_neg e2]
        have := (h.r1 j (by omega)).2.lt
        omega
    · by_cases e2 : j = x1
      · simp only [if_neg e, if_pos e2]
        have := (h.r1 i (by omega)).2.lt
        omega
      · simp only [if_neg e, if_neg e2]
        exact h.i1 i j (by omega) (by omega) hij
  · by_cases e : i = x1
    · simp only [if_pos e]
      have := (h.r2 j hj).2.lt
      omega
    · simp only [if_neg e]
      exact h.i12 i j (by omega) hj

theorem Emp.lowset (h : Emp ts t B w ob v1 v2 x1 x2 n G1 G2) {p : Addr} (hp : p.block < B) (u : Value) : Emp ts t B (w.setCell p u) ob v1 v2 x1 x2 n G1 G2 :=
  ⟨h.low, by simpa [World.setCell] using h.bsz, ownsRow_setCell_below h.o1 hp _, ownsRow_setCell_below h.o2 hp _, h.ne, fun i hi => ⟨(h.r1 i hi).1, (h.r1 i hi).2.far (by have := (h.r1 i hi).1; omega) _⟩, fun i hi => ⟨(h.r2 i hi).1, (h.r2 i hi).2.far (by have := (h.r2 i hi).1; omega) _⟩, h.i1, h.i2, h.i12⟩
/-- Two tables that have no block in common, all from lo on. -/
structure Duo (ts t : TypeId) (lo : Nat) (w : World) (n : Nat) (g1 : Nat) (G1 : Nat → Nat) (f1 : Nat → Nat → Int) (g2 : Nat) (G2 : Nat → Nat) (f2 : Nat → Nat → Int) : Prop where
  t1 : TabF ts t w g1 G1 n f1
  t2 : TabF ts t w g2 G2 n f2
  l1 : lo ≤ g1 ∧ ∀ i, i < n → lo ≤ G1 i
  l2 : lo ≤ g2 ∧ ∀ i, i < n → lo ≤ G2 i
  ne : g1 ≠ g2
  n12 : ∀ i, i < n → g1 ≠ G2 i
  n21 : ∀ i, i < n → g2 ≠ G1 i
  rows : ∀ i j, i < n → j < n → G1 i ≠ G2 j
theorem tabF_of {g c : Nat} (hne : ts ≠ t) (ho : w.ownsRow B ts 1 (.slice (some ⟨g, 0, none⟩) n c) n (hdr G1 n n)) (hr : ∀ i, i < n → B ≤ G1 i ∧ PreIs w (G1 i) t n (fun _ => .int .i64 0)) (hi : ∀ i j, i < n → j < n → i ≠ j → G1 i ≠ G1 j) : TabF ts t w g G1 n (fun _ _ => 0) := by
  obtain ⟨_, _, cur, hh⟩ := own_type ho (g := g) rfl
  refine ⟨⟨fun _ => n, cur, hh, fun i hin => ?_⟩, fun i hin => (hr i hin).2, fun i hin e => pre_ne_own hne (hr i hin).2 ho rfl e.symm, hi⟩
  have h := ho.cells (g := g) rfl i (.slice (some ⟨G1 i, 0, none⟩) n n) (by unfold hdr; simp [hin])
  have e : ((⟨g, 0, none⟩ : Addr).add i) = ⟨g, i, none⟩ := by
    unfold Addr.add
    split
    · rename_i e; rw [e]
    · simp
  rw [e, cell_of_row w g i cur ts (0, 0) hh] at h
  exact h
theorem Emp.duo {g1 g2 c1 c2 lo : Nat} (h : Emp ts t B w ob (.slice (some ⟨g1, 0, none⟩) n c1) (.slice (some ⟨g2, 0, none⟩) n c2) n n n G1 G2) (hne : ts ≠ t) (hlo : lo ≤ B) : Duo ts t lo w n g1 G1 (fun _ _ => 0) g2 G2 (fun _ _ => 0) :=
  ⟨tabF_of hne h.o1 h.r1 h.i1, tabF_of hne h.o2 h.r2 h.i2, ⟨Nat.le_trans hlo (own_type h.o1 (g := g1) rfl).2.1, fun i hi => Nat.le_trans hlo (h.r1 i hi).1⟩, ⟨Nat.le_trans hlo (own_type h.o2 (g := g2) rfl).2.1, fun i hi => Nat.le_trans hlo (h.r2 i hi).1⟩, fun e => h.ne g1 rfl (by rw [e]; rfl), fun i hi e => pre_ne_own hne (h.r2 i hi).2 h.o1 rfl e.symm, fun i hi e => pre_ne_own hne (h.r1 i hi).2 h.o2 rfl e.symm, h.i12⟩
end
end Go.Proofs.Ytclgjkmoeeklkaa
namespace Go.Proofs.Ytclgjkmoeeklkaa
open Go Go.RowKit
set_option maxHeartbeats 2000000
theorem em_new {w : World} {v : Value} {t : TypeId} : ∀ j u, [v][j]? = some u → (w.alloc (.cells #[v] t)).cell? ((⟨w.heap.size, 0, none⟩ : Addr).add j) = some u := by
  intro j u hj
  match j, hj with
  | 0, hj => simp at hj; subst hj; simp [Addr.add, World.cell?_alloc_new]

theorem em_new2 {w : World} {o : Obj} {v : Value} {t : TypeId} : ∀ j u, [v][j]? = some u → ((w.alloc o).alloc (.cells #[v] t)).drew.cell? ((⟨w.heap.size + 1, 0, none⟩ : Addr).add j) = some u := by
  intro j u hj
  have h := em_new (w := w.alloc o) (v := v) (t := t) j u hj
  have e : (w.alloc o).heap.size = w.heap.size + 1 := by simp
  rw [e] at h
  exact h
/-- The world in which a row is appended. -/
theorem em_world (w : World) (n : Nat) (u : Value) (ts t : TypeId) : Below w.heap.size w ((w.alloc (.cells (madeCells #[.int .i64 0] n) t)).alloc (.cells #[u] ts)).drew ∧ ((w.alloc (.cells (madeCells #[.int .i64 0] n) t)).alloc (.cells #[u] ts)).drew.heap.size = w.heap.size + 1 + 1 ∧ PreIs ((w.alloc (.cells (madeCells #[.int .i64 0] n) t)).alloc (.cells #[u] ts)).drew w.heap.size t n (fun _ => .int .i64 0) := by
  have h0 := PreIs.of_row (World.rowIs_made w (.int .i64 0) n t)
  have h1 : Below w.heap.size w ((w.alloc (.cells (madeCells #[.int .i64 0] n) t)).alloc (.cells #[u] ts)) := ((Below.refl _ _).alloc (Nat.le_refl _) _).alloc (by simp) _
  refine ⟨h1.drew, by simp [World.drew], ?_⟩
  exact (h0.later' ((Below.refl _ _).alloc (Nat.le_refl _) _) : PreIs ((w.alloc (.cells (madeCells #[.int .i64 0] n) t)).alloc (.cells #[u] ts)) w.heap.size t n (fun _ => .int .i64 0))

def EmPost (n : Nat) (w : World) (e : Ending) (w' : World) : Prop := ∃ g1 c1 g2 c2 G1 G2, e = .returned (.agg #[.slice (some ⟨g1, 0, none⟩) n c1, .slice (some ⟨g2, 0, none⟩) n c2]) ∧ Below w.heap.size w w' ∧ Duo 40 2 w.heap.size w' n g1 G1 (fun _ _ => 0) g2 G2 (fun _ _ => 0)
set_option maxRecDepth 100000 in
theorem emptyS_any (n : Nat) (w : World) (h1 : 1 ≤ n) (h12 : n ≤ 12) :
    Calls Try.prog 115 #[.int .i64 n] w (EmPost n w) := by
  have hmk := run_make_row' (P := Try.prog) 40 2 (.int .i64 0) 8 Try.underlying40 ntInfo rfl .i64 .i64 n (by omega) (by omega)
  obtain ⟨i2, hj, hy0, hy1, hy2⟩ := info_parts ntInfo2
  go_enter Try.func115, Try.ntmps115
  go_wp2_with fail
  refine wp_gen fun w0 hw0 => ?_
  have hb0 : Below w.heap.size w w0 := by rw [hw0]; exact ((Below.refl _ _).alloc (Nat.le_refl _) _).alloc (by simp) _
  have HB0 := hide hb0
  have HR0 : Hid (Blk w0 w.heap.size 43 [.slice none 0 0, .slice none 0 0]) := hide (by rw [hw0]; exact (Blk.new _ _ _).alloc _)
  have HO0 : Hid (Blk w0 (w.heap.size + 1) 43 [.slice none 0 0, .slice none 0 0]) := hide (by rw [hw0]; have h := Blk.new (w.alloc (Obj.cells #[Value.slice none 0 0, Value.slice none 0 0] 43)) 43 [.slice none 0 0, .slice none 0 0]; simpa using h)
  have hs0 : w0.heap.size = w.heap.size + 1 + 1 := by rw [hw0]; simp
  have he := Emp.start w0 40 2 n HO0.out.lt
  rw [hs0] at he
  have HE0 := hide he
  clear hw0 hb0 he
  go_loopw [4] (fun i wr => ∃ (x : Nat) (v1 v2 : Value) (G1 G2 : Nat → Nat), x ≤ n ∧ i = .int .i64 x ∧ Below w.heap.size w wr ∧ Blk wr w.heap.size 43 [.slice none 0 0, .slice none 0 0] ∧ Blk wr (w.heap.size + 1) 43 [v1, v2] ∧ Emp 40 2 (w.heap.size + 1 + 1) wr (w.heap.size + 1) v1 v2 x x n G1 G2) (fun i _ => n - (intOf i).toNat)
  case atStart => exact ⟨0, _, _, _, _, Nat.zero_le _, rfl, HB0.out, HR0.out, HO0.out, HE0.out⟩
  case round =>
    obtain ⟨x, v1, v2, G1, G2, hx, rfl, hbe, hrr, hoo, hem⟩ := hrel
    have HB := hide hbe
    have HR := hide hrr
    have HO := hide hoo
    have HE := hide hem
    clear hbe hrr hoo hem
    by_cases hlt : x < n
    · have hxz : (x : Int) < n := by omega
      have k0 := HO.out.cell 0 _ rfl
      have k1 := HO.out.cell 1 _ rfl
      have k2 := HO.out.frozen 0
      have k3 := HO.out.frozen 1
      have k4 := fun o => (HO.out.alloc o).cell 0 _ rfl
      have k5 := fun o1 o2 => ((HO.out.alloc o1).alloc o2).cell 0 _ rfl
      go_wp2_with fail
      have HOW1 := hide HE.out.o1
      have hobl := HO.out.lt
      go_region_law (first | (refine step_append_lies _ (by rfl) _ _ _ (by rfl) (w.heap.size + 1 + 1) 40 i2 _ 1 24 Try.underlying22 hj hy0 hy1 hy2 rfl (by omega) v1 x (hdr G1 n x) (by rfl) ((HOW1.out.alloc _).alloc _) ⟨wr.heap.size + 1, 0, none⟩ 1 1 [.slice (some ⟨wr.heap.size, 0, none⟩) n n] (by rfl) (by rfl) (by first | exact em_new | exact em_new2) (by simp [Value.oneCell']) (by omega) (by unfold maxLen; omega) (by omega) (by simp; omega) (wr.heap.size + 1 + 1) (by simp) ?_; intro gg cap w5 hown5 hgrow5 hat5 hlt5; obtain ⟨hw1, hw2, hw3⟩ := em_world wr n (.slice (some ⟨wr.heap.size, 0, none⟩) n n) 40 2; have hbk := HE.out.kept HO.out hw1 hgrow5; have k0 := hbk.cell 0 _ rfl; have k1 := hbk.cell 1 _ rfl; have k2 := hbk.frozen 0; have k3 := hbk.frozen 1))
      all_goals
        have HE3 := hide (HE.out.push (q := 0) (by decide) hw1 hw2 hw3 hown5 hgrow5 (hat5.imp (fun e => e.symm) (fun e => by rw [e]; rfl)))
        have hr3 : Blk (w5.setCell ⟨w.heap.size + 1, 0, none⟩ (.slice (some ⟨gg, 0, none⟩) (x + 1) cap)) w.heap.size 43 [.slice none 0 0, .slice none 0 0] := HE.out.keptR HR.out (by omega) (by omega) hw1 hgrow5 _ _
        have hb3 : Below w.heap.size w (w5.setCell ⟨w.heap.size + 1, 0, none⟩ (.slice (some ⟨gg, 0, none⟩) (x + 1) cap)) := ((HB.out.trans (hw1.mono HB.out.size)).grown hgrow5 (Nat.le_trans HB.out.size hw1.size) (fun j e => by have := (own_type HE.out.o1 e).2.1; omega)).setCell (p := ⟨w.heap.size + 1, 0, none⟩) (by show w.heap.size ≤ w.heap.size + 1; omega) _
        have ho3 : Blk (w5.setCell ⟨w.heap.size + 1, 0, none⟩ (.slice (some ⟨gg, 0, none⟩) (x + 1) cap)) (w.heap.size + 1) 43 [.slice (some ⟨gg, 0, none⟩) (x + 1) cap, v2] := hbk.set 0 _
        have HR3 := hide hr3
        have HB3 := hide hb3
        have HO3 := hide ho3
        clear k0 k1 k2 k3 k4 k5 hr3 hb3 ho3 hown5 hgrow5 hat5 hlt5 hw1 hw2 hw3 hbk hobl HOW1
        generalize hw6 : w5.setCell ⟨w.heap.size + 1, 0, none⟩ (.slice (some ⟨gg, 0, none⟩) (x + 1) cap) = w6 at HE3 HR3 HB3 HO3 ⊢
        clear hw6
        have k0 := HO3.out.cell 0 _ rfl
        have k1 := HO3.out.cell 1 _ rfl
        have k2 := HO3.out.frozen 0
        have k3 := HO3.out.frozen 1
        have k4 := fun o => (HO3.out.alloc o).cell 1 _ rfl
        have k5 := fun o1 o2 => ((HO3.out.alloc o1).alloc o2).cell 1 _ rfl
        go_wp2_with fail
        have HE4 := hide HE3.out.swapped
        have HOW2 := hide HE4.out.o1
        have hobl := HO3.out.lt
        go_region_law (first | (refine step_append_lies _ (by rfl) _ _ _ (by rfl) (w.heap.size + 1 + 1) 40 i2 _ 1 24 Try.underlying22 hj hy0 hy1 hy2 rfl (by omega) v2 x (hdr G2 n x) (by rfl) ((HOW2.out.alloc _).alloc _) ⟨w6.heap.size + 1, 0, none⟩ 1 1 [.slice (some ⟨w6.heap.size, 0, none⟩) n n] (by rfl) (by rfl) (by first | exact em_new | exact em_new2) (by simp [Value.oneCell']) (by omega) (by unfold maxLen; omega) (by omega) (by simp; omega) (w6.heap.size + 1 + 1) (by simp) ?_; intro gg2 cap2 w7 hown7 hgrow7 hat7 hlt7; obtain ⟨hw1, hw2, hw3⟩ := em_world w6 n (.slice (some ⟨w6.heap.size, 0, none⟩) n n) 40 2; have hbk := HE4.out.kept HO3.out hw1 hgrow7; have k0 := hbk.cell 0 _ rfl; have k1 := hbk.cell 1 _ rfl; have k2 := hbk.frozen 0; have k3 := hbk.frozen 1))
        all_goals
          have HE5 := hide (HE4.out.push (q := 1) (by decide) hw1 hw2 hw3 hown7 hgrow7 (hat7.imp (fun e => e.symm) (fun e => by rw [e]; rfl)))
          have hr5 : Blk (w7.setCell ⟨w.heap.size + 1, 1, none⟩ (.slice (some ⟨gg2, 0, none⟩) (x + 1) cap2)) w.heap.size 43 [.slice none 0 0, .slice none 0 0] := HE4.out.keptR HR3.out (by omega) (by omega) hw1 hgrow7 _ _
          have hb5 : Below w.heap.size w (w7.setCell ⟨w.heap.size + 1, 1, none⟩ (.slice (some ⟨gg2, 0, none⟩) (x + 1) cap2)) := ((HB3.out.trans (hw1.mono HB3.out.size)).grown hgrow7 (Nat.le_trans HB3.out.size hw1.size) (fun j e => by have := (own_type HE4.out.o1 e).2.1; omega)).setCell (p := ⟨w.heap.size + 1, 1, none⟩) (by show w.heap.size ≤ w.heap.size + 1; omega) _
          have ho5 : Blk (w7.setCell ⟨w.heap.size + 1, 1, none⟩ (.slice (some ⟨gg2, 0, none⟩) (x + 1) cap2)) (w.heap.size + 1) 43 [.slice (some ⟨gg, 0, none⟩) (x + 1) cap, .slice (some ⟨gg2, 0, none⟩) (x + 1) cap2] := hbk.set 1 _
          have HR5 := hide hr5
          have HB5 := hide hb5
          have HO5 := hide ho5
          clear k0 k1 k2 k3 k4 k5 hr5 hb5 ho5 hown7 hgrow7 hat7 hlt7 hw1 hw2 hw3 hbk hobl HOW2
          go_wp2_with fail
          go_roundw
          case rel => exact ⟨x + 1, _, _, _, _, by omega, by go_num, HB5.out, HR5.out, HO5.out, HE5.out.swapped⟩
          case measure => simp [intOf]; omega
    · have hxn : x = n := by omega
      subst hxn
      have k0 := HO.out.cell 0 _ rfl
      have k1 := HO.out.cell 1 _ rfl
      have k2 := HR.out.cell 0 _ rfl
      have k3 := HR.out.cell 1 _ rfl
      have k4 := HR.out.frozen 0
      have k5 := HR.out.frozen 1
      obtain ⟨g1, c1, hv1⟩ : ∃ g c, v1 = .slice (some ⟨g, 0, none⟩) x c := by
        rcases HE.out.o1.2 with ⟨_, h0⟩ | ⟨g, cap, cur, hv, _⟩
        · omega
        · exact ⟨g, cap, hv⟩
      obtain ⟨g2, c2, hv2⟩ : ∃ g c, v2 = .slice (some ⟨g, 0, none⟩) x c := by
        rcases HE.out.o2.2 with ⟨_, h0⟩ | ⟨g, cap, cur, hv, _⟩
        · omega
        · exact ⟨g, cap, hv⟩
      subst hv1
      subst hv2
      go_wp2_with fail
      clear k0 k1 k2 k3 k4 k5
      refine bp_gen fun wf hwf => ?_
      have HRF : Blk wf w.heap.size 43 [.slice (some ⟨g1, 0, none⟩) x c1, .slice (some ⟨g2, 0, none⟩) x c2] := by rw [hwf]; exact (HR.out.set 0 _).set 1 _
      have HBF : Below w.heap.size w wf := by rw [hwf]; exact (HB.out.setCell (p := ⟨w.heap.size, 0, none⟩) (Nat.le_refl _) _).setCell (p := ⟨w.heap.size, 1, none⟩) (Nat.le_refl _) _
      have HEF : Emp 40 2 (w.heap.size + 1 + 1) wf (w.heap.size + 1) (.slice (some ⟨g1, 0, none⟩) x c1) (.slice (some ⟨g2, 0, none⟩) x c2) x x x G1 G2 := by rw [hwf]; exact (HE.out.lowset (by show w.heap.size < w.heap.size + 1 + 1; omega) _).lowset (by show w.heap.size < w.heap.size + 1 + 1; omega) _
      have q0 := HRF.cell 0 _ rfl
      have q1 := HRF.cell 1 _ rfl
      clear hwf
      exact bodyPost_ret (v := .agg #[.slice (some ⟨g1, 0, none⟩) x c1, .slice (some ⟨g2, 0, none⟩) x c2]) (by simp [results, Try.results115, go_sem, q0, q1]) rfl (by unfold EmPost; exact ⟨g1, c1, g2, c2, G1, G2, rfl, HBF, HEF.duo (by decide) (by omega)⟩)
end Go.Proofs.Ytclgjkmoeeklkaa
namespace Go.Proofs.Ytclgjkmoeeklkaa
open Go Go.RowKit
set_option maxHeartbeats 4000000

section
variable {ts t : TypeId} {lo n g1 g2 : Nat} {w w' : World} {G1 G2 : Nat → Nat} {f1 f2 : Nat → Nat → Int}
theorem Duo.later (h : Duo ts t lo w n g1 G1 f1 g2 G2 f2) (hb : Below w.heap.size w w') : Duo ts t lo w' n g1 G1 f1 g2 G2 f2 :=
  ⟨h.t1.later hb, h.t2.later hb, h.l1, h.l2, h.ne, h.n12, h.n21, h.rows⟩
theorem Duo.set1 (h : Duo ts t lo w n g1 G1 f1 g2 G2 f2) (i j : Nat) (v : Int) (hi : i < n) : Duo ts t lo (w.setCell ⟨G1 i, j, none⟩ (.int .i64 v)) n g1 G1 (fun a b => if a = i ∧ b = j then v else f1 a b) g2 G2 f2 :=
  ⟨h.t1.set i j v hi, h.t2.far1 (p := ⟨G1 i, j, none⟩) (h.n21 i hi) (fun a ha e => h.rows i a hi ha e.symm) _, h.l1, h.l2, h.ne, h.n12, h.n21, h.rows⟩
theorem Duo.set2 (h : Duo ts t lo w n g1 G1 f1 g2 G2 f2) (i j : Nat) (v : Int) (hi : i < n) : Duo ts t lo (w.setCell ⟨G2 i, j, none⟩ (.int .i64 v)) n g1 G1 f1 g2 G2 (fun a b => if a = i ∧ b = j then v else f2 a b) :=
  ⟨h.t1.far1 (p := ⟨G2 i, j, none⟩) (h.n12 i hi) (fun a ha e => h.rows a i ha hi e) _, h.t2.set i j v hi, h.l1, h.l2, h.ne, h.n12, h.n21, h.rows⟩
theorem Duo.congr {h1 h2 : Nat → Nat → Int} (h : Duo ts t lo w n g1 G1 f1 g2 G2 f2) (e1 : ∀ a b, a < n → b < n → f1 a b = h1 a b) (e2 : ∀ a b, a < n → b < n → f2 a b = h2 a b) : Duo ts t lo w n g1 G1 h1 g2 G2 h2 :=
  ⟨h.t1.congr e1, h.t2.congr e2, h.l1, h.l2, h.ne, h.n12, h.n21, h.rows⟩
theorem Duo.objW (h : Duo ts t lo w n g1 G1 f1 g2 G2 f2) {hi : Nat} (hhi : w.heap.size ≤ hi) : ObjW ts t lo hi w (some ⟨g1, 0, none⟩) (grid n f1) (some ⟨g2, 0, none⟩) (grid n f2) :=
  ⟨h.t1.obj h.l1.1 (Nat.lt_of_lt_of_le h.t1.lt hhi) (fun i hin => ⟨h.l1.2 i hin, Nat.lt_of_lt_of_le (h.t1.row i hin).lt hhi⟩), h.t2.obj h.l2.1 (Nat.lt_of_lt_of_le h.t2.lt hhi) (fun i hin => ⟨h.l2.2 i hin, Nat.lt_of_lt_of_le (h.t2.row i hin).lt hhi⟩)⟩
end
/-- After k pairs. -/
def bkTo (f s : List (List Int)) (n k : Nat) (h : Nat → Nat → Int) : Nat → Nat → Int := fun a b => if bk f s n a b < k then h a b else 0
theorem bkTo_zero (f s : List (List Int)) (n : Nat) (h : Nat → Nat → Int) (a b : Nat) : (0 : Int) = bkTo f s n 0 h a b := by unfold bkTo; simp
theorem bkTo_all {f s : List (List Int)} {n : Nat} (hp : PMap f s) (hn : f.length = n) (hc : NoCol f s n) (h : Nat → Nat → Int) (a b : Nat) (ha : a < n) (hb : b < n) : bkTo f s n (n * n) h a b = h a b := by
  unfold bkTo
  rw [if_pos (bk_spec hp hn hc ha hb).1]
theorem bkTo_next {f s : List (List Int)} {n : Nat} (hp : PMap f s) (hn : f.length = n) (hc : NoCol f s n) (h : Nat → Nat → Int) {k u v : Nat} (hk : k < n * n) (hq : ledK f s n k = (u, v)) {z : Int} (hz : h u v = z) (a b : Nat) (ha : a < n) (hb : b < n) : (if a = u ∧ b = v then z else bkTo f s n k h a b) = bkTo f s n (k + 1) h a b := by
  have hbk := bk_led hc hk hq
  by_cases e : a = u ∧ b = v
  · obtain ⟨rfl, rfl⟩ := e
    rw [if_pos ⟨rfl, rfl⟩]
    unfold bkTo
    rw [hbk, if_pos (by omega)]
    exact hz.symm
  · rw [if_neg e]
    unfold bkTo
    have hne : bk f s n a b ≠ k := fun e2 => e (by
      have h2 := (bk_spec hp hn hc ha hb).2
      rw [e2, hq] at h2
      injection h2 with h3 h4
      exact ⟨h3.symm, h4.symm⟩)
    by_cases e3 : bk f s n a b < k
    · rw [if_pos e3, if_pos (by omega)]
    · rw [if_neg e3, if_neg (by omega)]

def BkPost (n : Nat) (zf zg : List (List Int)) (w : World) (e : Ending) (w' : World) : Prop := ∃ A c B d, e = .returned (.agg #[.slice A n c, .slice B n d]) ∧ Below w.heap.size w w' ∧ ObjW 40 2 w.heap.size w'.heap.size w' A zf B zg
set_option maxRecDepth 100000 in
theorem bkS_any (A : Option Addr) (n c : Nat) (f : List (List Int)) (B : Option Addr) (m d : Nat) (s : List (List Int)) (w : World) (hz : ZArg 1048576 w A n f B m s) (hp : PMap f s) (hc : NoCol f s n) :
    Calls Try.prog 80 #[.agg #[.slice A n c, .slice B m d]] w (BkPost n (grid n (bk1 f s n)) (grid n (bk2 f s n)) w) := by
  have HZ := hide hz
  have HFL := hide hz.sz.fl
  have HP := hide hp
  have h12 := hz.small hp
  obtain rfl := hz.same hp
  have HC := hide hc
  clear hz hp hc
  go_enter Try.func80, Try.ntmps80
  go_wp2_with fail
  refine calls_gen fun w0 hw0 => ?_
  have hb0 : Below w.heap.size w w0 := by rw [hw0]; exact ((Below.refl _ _).alloc (Nat.le_refl _) _).alloc (by simp) _
  have HB0 := hide hb0
  have HK0 : Hid (Blk w0 w.heap.size 43 [.slice A m c, .slice B m d]) := hide (by rw [hw0]; exact (Blk.new _ _ _).alloc _)
  have HR0 : Hid (Blk w0 (w.heap.size + 1) 43 [.slice none 0 0, .slice none 0 0]) := hide (by rw [hw0]; have h := Blk.new (w.alloc (Obj.cells #[Value.slice A m c, Value.slice B m d] 43)) 43 [.slice none 0 0, .slice none 0 0]; simpa using h)
  clear hw0 hb0
  refine (emptyS_any m _ h12.1 h12.2).mono ?_
  unfold EmPost
  rintro e w1 ⟨g1, c1, g2, c2, G1, G2, rfl, hb1, hd⟩
  have HB1 := hide (HB0.out.trans (hb1.mono HB0.out.size))
  have HK1 := hide (HK0.out.later hb1)
  have HR1 := hide (HR0.out.later hb1)
  have HD1 := hide hd
  have hlo : w.heap.size + 1 < w0.heap.size := HR0.out.lt
  have hG1 : ∀ i, i < m → G1 i < w1.heap.size := fun i hi => (hd.t1.row i hi).lt
  have hG2 : ∀ i, i < m → G2 i < w1.heap.size := fun i hi => (hd.t2.row i hi).lt
  have HG1 := hide hG1
  have HG2 := hide hG2
  clear hb1 hd hG1 hG2
  go_wp2_with fail
  refine wp_gen fun w2 hw2 => ?_
  have hb2 : Below w1.heap.size w1 w2 := by rw [hw2]; exact (Below.refl _ _).alloc (Nat.le_refl _) _
  have HO2 : Hid (Blk w2 w1.heap.size 43 [.slice (some ⟨g1, 0, none⟩) m c1, .slice (some ⟨g2, 0, none⟩) m c2]) := hide (by rw [hw2]; exact Blk.new _ _ _)
  have HB2 := hide (HB1.out.trans (hb2.mono HB1.out.size))
  have HK2 := hide (HK1.out.later hb2)
  have HR2 := hide (HR1.out.later hb2)
  have HD2 := hide ((HD1.out.later hb2).congr (fun a b _ _ => bkTo_zero f s m (bk1 f s m) a b) (fun a b _ _ => bkTo_zero f s m (bk2 f s m) a b))
  clear hw2 hb2
  go_loopw [5] (fun i wr => ∃ x : Nat, x ≤ m ∧ i = .int .i64 x ∧ Below w.heap.size w wr ∧ Blk wr w.heap.size 43 [.slice A m c, .slice B m d] ∧ Blk wr (w.heap.size + 1) 43 [.slice none 0 0, .slice none 0 0] ∧ Blk wr w1.heap.size 43 [.slice (some ⟨g1, 0, none⟩) m c1, .slice (some ⟨g2, 0, none⟩) m c2] ∧ Duo 40 2 w0.heap.size wr m g1 G1 (bkTo f s m (x * m) (bk1 f s m)) g2 G2 (bkTo f s m (x * m) (bk2 f s m))) (fun i _ => m - (intOf i).toNat)
  case atStart => exact ⟨0, Nat.zero_le _, rfl, HB2.out, HK2.out, HR2.out, HO2.out, by rw [Nat.zero_mul]; exact HD2.out⟩
  case round =>
    obtain ⟨x, hx, rfl, hbe, hkk, hrr, hoo, hdd⟩ := hrel
    have HB := hide hbe
    have HK := hide hkk
    have HR := hide hrr
    have HO := hide hoo
    have HD := hide hdd
    clear hbe hkk hrr hoo hdd
    by_cases hlt : x < m
    · have hxz : (x : Int) < m := by omega
      go_wp2_with fail
      obtain ⟨wo, rfl⟩ : ∃ wo : World, wo = wr := ⟨_, rfl⟩
      go_loopw [6] (fun i wi => ∃ y : Nat, y ≤ m ∧ i = .int .i64 y ∧ Below w.heap.size w wi ∧ Blk wi w.heap.size 43 [.slice A m c, .slice B m d] ∧ Blk wi (w.heap.size + 1) 43 [.slice none 0 0, .slice none 0 0] ∧ Blk wi w1.heap.size 43 [.slice (some ⟨g1, 0, none⟩) m c1, .slice (some ⟨g2, 0, none⟩) m c2] ∧ Duo 40 2 w0.heap.size wi m g1 G1 (bkTo f s m (x * m + y) (bk1 f s m)) g2 G2 (bkTo f s m (x * m + y) (bk2 f s m))) (fun i _ => m - (intOf i).toNat)
      case atStart => exact ⟨0, Nat.zero_le _, rfl, HB.out, HK.out, HR.out, HO.out, HD.out⟩
      case round =>
        obtain ⟨y, hy, rfl, hbi, hki, hri, hoi, hdi⟩ := hrel
        have HBI := hide hbi
        have HKI := hide hki
        have HRI := hide hri
        have HOI := hide hoi
        have HDI := hide hdi
        clear hbi hki hri hoi hdi
        by_cases hlty : y < m
        · have hyz : (y : Int) < m := by omega
          obtain ⟨b, o, b2, o2, bx, ox, cx, by', oy, cy, rfl, rfl, h1, h2, h3, h4, l1, l2, l3, l4⟩ := HZ.out.reads HP.out hlt hlty
          have hu := HP.out.lt1 HFL.out hlt hlty
          have hv := HP.out.lt2 HFL.out hlt hlty
          have hKN : x * m + y < m * m := by
            have h9 := Nat.mul_le_mul_right m (show x + 1 ≤ m from hlt)
            rw [Nat.add_mul, Nat.one_mul] at h9
            omega
          have hq : ledK f s m (x * m + y) = (ap f x y, ap s x y) := by unfold ledK; rw [pair_div m x y hlty, pair_mod m x y hlty]
          obtain ⟨u, hue⟩ : ∃ u, ap f x y = u := ⟨_, rfl⟩
          obtain ⟨v, hve⟩ : ∃ v, ap s x y = v := ⟨_, rfl⟩
          rw [hue] at h3 hu hq
          rw [hve] at h4 hv hq
          have hb9 := bk_led HC.out hKN hq
          have z1 : bk1 f s m u v = (x : Int) := by unfold bk1; rw [hb9, pair_div m x y hlty]
          have z2 : bk2 f s m u v = (y : Int) := by unfold bk2; rw [hb9, pair_mod m x y hlty]
          have HQ := hide hq
          have HZ1 := hide z1
          have HZ2 := hide z2
          have huz : (u : Int) < m := by omega
          have hvz : (v : Int) < m := by omega
          obtain ⟨C1, r1⟩ := HDI.out.t1.top
          obtain ⟨C2, r2⟩ := HDI.out.t2.top
          have c1' := r1.cell hu
          have c2' := r2.cell hu
          have j1 := (HDI.out.t1.row u hu).cell hv
          have j2 := (HDI.out.t1.row u hu).frozen v
          have j3 := (HDI.out.t2.row u hu).cell hv
          have j4 := (HDI.out.t2.row u hu).frozen v
          have lG1 := HDI.out.l1.2 u hu
          have lG2 := HDI.out.l2.2 u hu
          have n1 : w.heap.size ≠ G1 u := by omega
          have n2 := n1.symm
          have n3 : b2 ≠ G1 u := by omega
          have n4 := n3.symm
          have n5 : by' ≠ G1 u := by omega
          have n6 := n5.symm
          have n7 : G2 u ≠ G1 u := fun e => HDI.out.rows u u hu hu e.symm
          have n8 := n7.symm
          have h1' := (HBI.out.cell (p := ⟨b, o + x, none⟩) l1).trans h1
          have h2' := (HBI.out.cell (p := ⟨b2, o2 + x, none⟩) l2).trans h2
          have h3' := (HBI.out.cell (p := ⟨bx, ox + y, none⟩) l3).trans h3
          have h4' := (HBI.out.cell (p := ⟨by', oy + y, none⟩) l4).trans h4
          have k0 := HKI.out.cell 0 _ rfl
          have k1 := HKI.out.cell 1 _ rfl
          have k2 := HOI.out.cell 0 _ rfl
          have k3 := HOI.out.cell 1 _ rfl
          have HN8 := hide n8
          clear hue hve hq hb9 z1 z2 h1 h2 h3 h4 l1 l2 l3 l4 r1 r2
          go_wp2_with fail
          go_quiet (fail)
          go_wp2_with fail
          clear c1' c2' j1 j2 j3 j4 h1' h2' h3' h4' k0 k1 k2 k3
          have hW : Below wr.heap.size wr (wr.drewN nq) := (Quiet.of wr nq).below _
          have hgu1 := HG1.out u hu
          have hgu2 := HG2.out u hu
          go_roundw
          case rel =>
            refine ⟨y + 1, by omega, by go_num, ((HBI.out.trans (hW.mono HBI.out.size)).setCell (p := ⟨G1 u, v, none⟩) (by show w.heap.size ≤ G1 u; omega) _).setCell (p := ⟨G2 u, v, none⟩) (by show w.heap.size ≤ G2 u; omega) _, ((HKI.out.later hW).far (p := ⟨G1 u, v, none⟩) (by show w.heap.size ≠ G1 u; omega) _).far (p := ⟨G2 u, v, none⟩) (by show w.heap.size ≠ G2 u; omega) _, ((HRI.out.later hW).far (p := ⟨G1 u, v, none⟩) (by show w.heap.size + 1 ≠ G1 u; omega) _).far (p := ⟨G2 u, v, none⟩) (by show w.heap.size + 1 ≠ G2 u; omega) _, ((HOI.out.later hW).far (p := ⟨G1 u, v, none⟩) (by show w1.heap.size ≠ G1 u; omega) _).far (p := ⟨G2 u, v, none⟩) (by show w1.heap.size ≠ G2 u; omega) _, ?_⟩
            have hd := ((HDI.out.later hW).set1 u v (x : Int) hu).set2 u v (y : Int) hu
            exact hd.congr (bkTo_next HP.out HFL.out HC.out (bk1 f s m) hKN HQ.out HZ1.out) (bkTo_next HP.out HFL.out HC.out (bk2 f s m) hKN HQ.out HZ2.out)
          case measure => simp [intOf]; omega
        · have hyn : y = m := by omega
          subst hyn
          go_wp2_with fail
          go_roundw
          case rel => exact ⟨x + 1, by omega, by go_num, HBI.out, HKI.out, HRI.out, HOI.out, by rw [Nat.add_mul, Nat.one_mul]; exact HDI.out⟩
          case measure => simp [intOf]; omega
    · have hxn : x = m := by omega
      subst hxn
      have k0 := HO.out.cell 0 _ rfl
      have k1 := HO.out.cell 1 _ rfl
      have k2 := HR.out.cell 0 _ rfl
      have k3 := HR.out.cell 1 _ rfl
      have k4 := HR.out.frozen 0
      have k5 := HR.out.frozen 1
      go_wp2_with fail
      refine bp_gen fun wf hwf => ?_
      have HDF := HD.out.congr (bkTo_all HP.out HFL.out HC.out (bk1 f s x)) (bkTo_all HP.out HFL.out HC.out (bk2 f s x))
      obtain ⟨q0, q1, hbf, hof⟩ := wend hwf HR.out (by omega) hlo HB.out HB0.out.size (HDF.objW (Nat.le_refl _))
      clear hwf k0 k1 k2 k3 k4 k5
      exact bodyPost_ret (v := .agg #[.slice (some ⟨g1, 0, none⟩) x c1, .slice (some ⟨g2, 0, none⟩) x c2]) (by simp [results, Try.results80, go_sem, q0, q1]) rfl (by unfold BkPost; exact ⟨_, _, _, _, rfl, hbf, hof⟩)
end Go.Proofs.Ytclgjkmoeeklkaa
namespace Go.Proofs.Ytclgjkmoeeklkaa
open Go Go.RowKit
set_option maxHeartbeats 2000000
theorem sqf_div {m a : Nat} (h : a < m * m) : a / m < m := Nat.div_lt_of_lt_mul h
theorem sqf_mod {m a : Nat} (h : a < m * m) : a % m < m := Nat.mod_lt _ (by rcases Nat.eq_zero_or_pos m with e | e; (subst e; simp at h); exact e)
theorem tdivN (a m : Nat) : Int.tdiv (a : Int) (m : Int) = ((a / m : Nat) : Int) := (Int.ofNat_tdiv a m).symm
theorem tmodN (a m : Nat) : Int.tmod (a : Int) (m : Int) = ((a % m : Nat) : Int) := (Int.ofNat_tmod a m).symm

set_option maxRecDepth 100000 in
theorem collS_any (A : Option Addr) (n c : Nat) (f : List (List Int)) (B : Option Addr) (m d : Nat) (s : List (List Int)) (w : World) (hz : ZArg 1048576 w A n f B m s) (hp : PMap f s) :
    Calls Try.prog 75 #[.agg #[.slice A n c, .slice B m d]] w fun e w' => ∃ g k zs, e = .returned (.slice (some ⟨g, 0, none⟩) k k) ∧ Below w.heap.size w w' ∧ w.heap.size ≤ g ∧ OwnB 2 w' g zs ∧ ((NoCol f s n ∧ zs = [] ∧ k = 0) ∨ ∃ a b, FstCol f s n a b ∧ zs = [((a / n : Nat) : Int), ((a % n : Nat) : Int), ((b / n : Nat) : Int), ((b % n : Nat) : Int)] ∧ k = 4) := by
  have hnb := hz.sz.nb
  have HZ := hide hz
  have HB0 := hide ((Below.refl _ w).alloc (Nat.le_refl _) (Obj.cells #[Value.slice A n c, Value.slice B m d] 43))
  have HK0 := hide (Blk.new w 43 [.slice A n c, .slice B m d])
  have HFL := hide hz.sz.fl
  have HP := hide hp
  have h12 := hz.small hp
  obtain rfl := hz.same hp
  have hm0 : (m : Int) ≠ 0 := by omega
  have hm1 : (m : Int) ≠ -1 := by omega
  clear hp hz
  obtain ⟨N, hN⟩ : ∃ N, m * m = N := ⟨_, rfl⟩
  have hN144 : N ≤ 144 := by rw [← hN]; exact Nat.mul_le_mul h12.2 h12.2
  have hNz : (m : Int) * (m : Int) = (N : Int) := by rw [← hN]; exact (Int.natCast_mul m m).symm
  have HN := hide hN
  clear hN
  go_enter Try.func75, Try.ntmps75
  go_wp2_with fail
  go_loopw [4] (fun i wr => ∃ x : Nat, x ≤ N ∧ i = .int .i64 x ∧ Below w.heap.size w wr ∧ Blk wr w.heap.size 43 [.slice A m c, .slice B m d] ∧ ∀ i j, i < x → j < N → j ≠ i → ledK f s m i ≠ ledK f s m j) (fun i _ => N - (intOf i).toNat)
  case atStart => exact ⟨0, Nat.zero_le _, rfl, HB0.out, HK0.out, fun a b ha => absurd ha (Nat.not_lt_zero _)⟩
  case round =>
    obtain ⟨a, ha, rfl, hbe, hkk, hall⟩ := hrel
    have HB := hide hbe
    have HK := hide hkk
    have HALL := hide hall
    clear hbe hkk hall
    by_cases hlt : a < N
    · have haz : (a : Int) < N := by omega
      go_wp2_with fail
      obtain ⟨wo, rfl⟩ : ∃ wo : World, wo = wr := ⟨_, rfl⟩
      go_loopw [5] (fun i wi => ∃ y : Nat, y ≤ N ∧ i = .int .i64 y ∧ Below w.heap.size w wi ∧ Blk wi w.heap.size 43 [.slice A m c, .slice B m d] ∧ ∀ j, j < y → j ≠ a → ledK f s m a ≠ ledK f s m j) (fun i _ => N - (intOf i).toNat)
      case atStart => exact ⟨0, Nat.zero_le _, rfl, HB.out, HK.out, fun b hb => absurd hb (Nat.not_lt_zero _)⟩
      case round =>
        obtain ⟨b, hb, rfl, hbi, hki, halli⟩ := hrel
        have HBI := hide hbi
        have HKI := hide hki
        have HALLI := hide halli
        clear hbi hki halli
        by_cases hlty : b < N
        · have hbz : (b : Int) < N := by omega
          have td1 := tdivN a m
          have td2 := tmodN a m
          have td3 := tdivN b m
          have td4 := tmodN b m
          obtain ⟨x, hx⟩ : ∃ x, a / m = x := ⟨_, rfl⟩
          obtain ⟨y, hy⟩ : ∃ y, a % m = y := ⟨_, rfl⟩
          obtain ⟨u, hu⟩ : ∃ u, b / m = u := ⟨_, rfl⟩
          obtain ⟨v, hv⟩ : ∃ v, b % m = v := ⟨_, rfl⟩
          have hxn : x < m := by rw [← hx]; exact sqf_div (by rw [HN.out]; exact hlt)
          have hyn : y < m := by rw [← hy]; exact sqf_mod (by rw [HN.out]; exact hlt)
          have hun : u < m := by rw [← hu]; exact sqf_div (by rw [HN.out]; exact hlty)
          have hvn : v < m := by rw [← hv]; exact sqf_mod (by rw [HN.out]; exact hlty)
          rw [hx] at td1
          rw [hy] at td2
          rw [hu] at td3
          rw [hv] at td4
          have HX := hide hx
          have HY := hide hy
          have HU := hide hu
          have HV := hide hv
          clear hx hy hu hv
          go_wp2_with fail
          go_region
          clear td1 td2 td3 td4
          have k0 := HKI.out.cell 0 _ rfl
          have k1 := HKI.out.cell 1 _ rfl
          obtain ⟨bb, o, b2, o2, bx, ox, cx, by', oy, cy, rfl, rfl, h1, h2, h3, h4, _, _, _, _⟩ := (HZ.out.later HBI.out).reads HP.out hxn hyn
          obtain ⟨b', o', b2', o2', bu, ou, cu, bv, ov, cv, e1, e2, g1, g2, g3, g4, _, _, _, _⟩ := (HZ.out.later HBI.out).reads HP.out hun hvn
          injection e1 with e1
          injection e1 with e1 e3 _
          injection e2 with e2
          injection e2 with e2 e4 _
          subst e1
          subst e3
          subst e2
          subst e4
          obtain ⟨p1, hp1⟩ : ∃ zz, ap f x y = zz := ⟨_, rfl⟩
          obtain ⟨p2, hp2⟩ : ∃ zz, ap s x y = zz := ⟨_, rfl⟩
          obtain ⟨q1, hq1⟩ : ∃ zz, ap f u v = zz := ⟨_, rfl⟩
          obtain ⟨q2, hq2⟩ : ∃ zz, ap s u v = zz := ⟨_, rfl⟩
          rw [hp1] at h3
          rw [hp2] at h4
          rw [hq1] at g3
          rw [hq2] at g4
          have hka : ledK f s m a = (p1, p2) := by unfold ledK; rw [HX.out, HY.out, hp1, hp2]
          have hkb : ledK f s m b = (q1, q2) := by unfold ledK; rw [HU.out, HV.out, hq1, hq2]
          have HKA := hide hka
          have HKB := hide hkb
          clear hka hkb hp1 hp2 hq1 hq2
          have hxz : (x : Int) < m := by omega
          have hyz : (y : Int) < m := by omega
          have huz : (u : Int) < m := by omega
          have hvz : (v : Int) < m := by omega
          have hcs : (((a : Int) != (b : Int)) = false ∧ Hid (b = a)) ∨ (((a : Int) != (b : Int)) = true ∧ ((p1 : Int) == (q1 : Int)) = false ∧ Hid (ledK f s m a ≠ ledK f s m b)) ∨ (((a : Int) != (b : Int)) = true ∧ ((p1 : Int) == (q1 : Int)) = true ∧ ((p2 : Int) == (q2 : Int)) = false ∧ Hid (ledK f s m a ≠ ledK f s m b)) ∨ (((a : Int) != (b : Int)) = true ∧ ((p1 : Int) == (q1 : Int)) = true ∧ ((p2 : Int) == (q2 : Int)) = true ∧ Hid (b ≠ a ∧ ledK f s m a = ledK f s m b)) := by
            by_cases z0 : b = a
            · exact .inl ⟨by simp [z0], hide z0⟩
            · by_cases z1 : p1 = q1
              · by_cases z2 : p2 = q2
                · exact .inr (.inr (.inr ⟨by simp; omega, by simp [z1], by simp [z2], hide ⟨z0, by rw [HKA.out, HKB.out, z1, z2]⟩⟩))
                · exact .inr (.inr (.inl ⟨by simp; omega, by simp [z1], by simp; omega, hide (by rw [HKA.out, HKB.out]; intro e; injection e with _ e; exact z2 e)⟩))
              · exact .inr (.inl ⟨by simp; omega, by simp; omega, hide (by rw [HKA.out, HKB.out]; intro e; injection e with e _; exact z1 e)⟩)
          rcases hcs with ⟨t1, HT⟩ | ⟨t1, t2, HT⟩ | ⟨t1, t2, t3, HT⟩ | ⟨t1, t2, t3, HT⟩
          · go_wp2_with fail
            go_quiet (fail)
            clear h1 h2 h3 h4 g1 g2 g3 g4 k0 k1
            have hBN := bdrewN HBI.out (1 + nq)
            have hKN := HKI.out.drewN (1 + nq)
            have HBN := hide hBN
            have HKN := hide hKN
            clear hBN hKN
            go_wp2_with fail
            go_roundw
            case rel =>
              exact ⟨b + 1, by omega, by go_num, HBN.out, HKN.out, fun j hj hne => by
                by_cases e : j = b
                · exact absurd (e.trans HT.out) hne
                · exact HALLI.out j (by omega) hne⟩
            case measure => simp [intOf]; omega
          · go_wp2_with fail
            go_quiet (fail)
            clear h1 h2 h3 h4 g1 g2 g3 g4 k0 k1
            have hBN := bdrewN HBI.out (1 + nq)
            have hKN := HKI.out.drewN (1 + nq)
            have HBN := hide hBN
            have HKN := hide hKN
            clear hBN hKN
            go_wp2_with fail
            go_roundw
            case rel =>
              exact ⟨b + 1, by omega, by go_num, HBN.out, HKN.out, fun j hj hne => by
                by_cases e : j = b
                · rw [e]; exact HT.out
                · exact HALLI.out j (by omega) hne⟩
            case measure => simp [intOf]; omega
          · go_wp2_with fail
            go_quiet (fail)
            clear h1 h2 h3 h4 g1 g2 g3 g4 k0 k1
            have hBN := bdrewN HBI.out (1 + nq)
            have hKN := HKI.out.drewN (1 + nq)
            have HBN := hide hBN
            have HKN := hide hKN
            clear hBN hKN
            go_wp2_with fail
            go_roundw
            case rel =>
              exact ⟨b + 1, by omega, by go_num, HBN.out, HKN.out, fun j hj hne => by
                by_cases e : j = b
                · rw [e]; exact HT.out
                · exact HALLI.out j (by omega) hne⟩
            case measure => simp [intOf]; omega
          · go_wp2_with fail
            go_quiet (fail)
            clear h1 h2 h3 h4 g1 g2 g3 g4 k0 k1
            have hBN := bdrewN HBI.out (1 + nq)
            have hKN := HKI.out.drewN (1 + nq)
            have HBN := hide hBN
            have HKN := hide hKN
            clear hBN hKN
            go_wp2_with fail
            refine bp_gen fun wf hwf => ?_
            have HBF : Below w.heap.size w wf := by rw [hwf]; exact HBN.out.alloc HBN.out.size _
            have HOF : OwnB 2 wf (wr.drewN (1 + nq)).heap.size [(x : Int), (y : Int), (u : Int), (v : Int)] := by
              rw [hwf]
              refine ⟨_, heap_alloc_new _ _, fun i hi => ?_⟩
              simp at hi
              rcases i with _ | _ | _ | _ | i
              · rfl
              · rfl
              · rfl
              · rfl
              · omega
            have hlo : w.heap.size ≤ (wr.drewN (1 + nq)).heap.size := HBN.out.size
            clear hwf
            have HFC : Hid (FstCol f s m a b) := hide ⟨by rw [HN.out]; exact hlt, by rw [HN.out]; exact hlty, fun e => HT.out.1 e.symm, HT.out.2, fun i hi j hj => HALL.out i j hi (by rw [← HN.out]; exact hj), fun j hj hne => HALLI.out j hj hne⟩
            go_ret
            exact ⟨_, 4, _, rfl, HBF, hlo, HOF, .inr ⟨a, b, HFC.out, by rw [HX.out, HY.out, HU.out, HV.out], rfl⟩⟩
        · have hyn : b = N := by omega
          subst hyn
          go_wp2_with fail
          go_roundw
          case rel =>
            refine ⟨a + 1, by omega, by go_num, HBI.out, HKI.out, fun i j hi hj hne => ?_⟩
            by_cases e : i = a
            · subst e; exact HALLI.out j hj hne
            · exact HALL.out i j (by omega) hj hne
          case measure => simp [intOf]; omega
    · have hxn : a = N := by omega
      subst hxn
      go_wp2_with fail
      refine bp_gen fun wf hwf => ?_
      have HBF : Below w.heap.size w wf := by rw [hwf]; exact HB.out.alloc HB.out.size _
      have HOF : OwnB 2 wf wr.heap.size [] := by rw [hwf]; exact ⟨_, heap_alloc_new _ _, fun i hi => absurd hi (Nat.not_lt_zero _)⟩
      have hlo : w.heap.size ≤ wr.heap.size := HB.out.size
      clear hwf
      go_ret
      exact ⟨_, 0, [], rfl, HBF, hlo, HOF, .inl ⟨fun i j hi hj hne => HALL.out i j (by rw [← HN.out]; exact hi) (by rw [← HN.out]; exact hj) (fun e => hne e.symm), rfl, rfl⟩⟩
end Go.Proofs.Ytclgjkmoeeklkaa
namespace Go.Proofs.Ytclgjkmoeeklkaa
open Go Go.RowKit
set_option maxHeartbeats 1000000
theorem isS_any (A : Option Addr) (n c : Nat) (f : List (List Int)) (B : Option Addr) (m d : Nat) (s : List (List Int)) (r : Bool) (w : World) (hz : ZArg 1048576 w A n f B m s) (hr : IsRes f s r) :
    Calls Try.prog 78 #[.agg #[.slice A n c, .slice B m d]] w fun e w' => e = .returned (.bool r) ∧ Below w.heap.size w w' := by
  have HZ := hide hz
  have HB0 := hide ((Below.refl _ w).alloc (Nat.le_refl _) (Obj.cells #[Value.slice A n c, Value.slice B m d] 43))
  have HK0 := hide (Blk.new w 43 [.slice A n c, .slice B m d])
  have hcs := hr.cases hz.sz.fl
  clear hr hz
  rcases hcs with ⟨hp, rfl⟩ | ⟨hp, T, hT, hq⟩
  · have HP := hide hp
    clear hp
    go_enter Try.func78, Try.ntmps78
    go_wp2_with fail
    refine (mapS_any _ _ _ f _ _ _ s false _ (HZ.out.later HB0.out) (by simp [HP.out])).mono ?_
    rintro e w1 ⟨rfl, hb1⟩
    have HB1 := hide (HB0.out.trans (hb1.mono HB0.out.size))
    have HK1 := hide (HK0.out.later hb1)
    have k0 := HK1.out.cell 0 _ rfl
    have k1 := HK1.out.cell 1 _ rfl
    clear hb1
    go_wp2_with fail
    go_ret
    exact ⟨rfl, HB1.out⟩
  · have HP := hide hp
    have HT := hide hT
    clear hp hT
    have hq2 : (Hid (∃ a b, FstCol f s n a b) ∧ r = false) ∨ (Hid (NoCol f s n) ∧ ((T < n * n * n ∧ r = false) ∨ (T = n * n * n ∧ r = true))) := by
      rcases hq with ⟨h1, ⟨h2, h⟩ | ⟨h2, h⟩⟩ | ⟨h1, ⟨h2, h⟩ | ⟨h2, h⟩⟩
      · exact .inr ⟨hide h2, .inl ⟨h1, h⟩⟩
      · exact .inl ⟨hide h2, h⟩
      · exact .inl ⟨hide h2, h⟩
      · exact .inr ⟨hide h2, .inr ⟨h1, h⟩⟩
    clear hq
    rcases hq2 with ⟨HC, rfl⟩ | ⟨HC, ⟨hlt, rfl⟩ | ⟨hte, rfl⟩⟩
    · go_enter Try.func78, Try.ntmps78
      go_wp2_with fail
      refine (mapS_any _ _ _ f _ _ _ s true _ (HZ.out.later HB0.out) (by simp [HP.out])).mono ?_
      rintro e w1 ⟨rfl, hb1⟩
      have HB1 := hide (HB0.out.trans (hb1.mono HB0.out.size))
      have HK1 := hide (HK0.out.later hb1)
      have k0 := HK1.out.cell 0 _ rfl
      have k1 := HK1.out.cell 1 _ rfl
      clear hb1
      go_wp2_with fail
      refine (collS_any _ _ _ f _ _ _ s _ (HZ.out.later HB1.out) HP.out).mono ?_
      rintro e w2 ⟨g, q, ys, rfl, hb2, _, _, hres⟩
      have HB2 := hide (HB1.out.trans (hb2.mono HB1.out.size))
      have HK2 := hide (HK1.out.later hb2)
      have hq9 : q = 4 := by obtain ⟨a, b, hf⟩ := HC.out; rcases hres with ⟨hno, _⟩ | ⟨a', b', _, _, h⟩; exact absurd hno hf.not; exact h
      subst hq9
      clear hb2 hres k0 k1
      have k0 := HK2.out.cell 0 _ rfl
      have k1 := HK2.out.cell 1 _ rfl
      go_wp2_with fail
      go_ret
      exact ⟨rfl, HB2.out⟩
    · go_enter Try.func78, Try.ntmps78
      go_wp2_with fail
      refine (mapS_any _ _ _ f _ _ _ s true _ (HZ.out.later HB0.out) (by simp [HP.out])).mono ?_
      rintro e w1 ⟨rfl, hb1⟩
      have HB1 := hide (HB0.out.trans (hb1.mono HB0.out.size))
      have HK1 := hide (HK0.out.later hb1)
      have k0 := HK1.out.cell 0 _ rfl
      have k1 := HK1.out.cell 1 _ rfl
      clear hb1
      go_wp2_with fail
      refine (collS_any _ _ _ f _ _ _ s _ (HZ.out.later HB1.out) HP.out).mono ?_
      rintro e w2 ⟨g, q, ys, rfl, hb2, _, _, hres⟩
      have HB2 := hide (HB1.out.trans (hb2.mono HB1.out.size))
      have HK2 := hide (HK1.out.later hb2)
      have hq9 : q = 0 := by rcases hres with ⟨_, _, h⟩ | ⟨a', b', hf2, _⟩; exact h; exact absurd HC.out hf2.not
      subst hq9
      clear hb2 hres k0 k1
      have k0 := HK2.out.cell 0 _ rfl
      have k1 := HK2.out.cell 1 _ rfl
      go_wp2_with fail
      refine (faultS_any _ _ _ f _ _ _ s T _ (HZ.out.later HB2.out) HP.out HT.out).mono ?_
      rintro e w3 ⟨g3, q3, ys3, rfl, hb3, _, _, hres⟩
      have HB3 := hide (HB2.out.trans (hb3.mono HB2.out.size))
      have hq9 : q3 = 3 := by rcases hres with ⟨h1, _, h2⟩ | ⟨h1, _, h2⟩ <;> omega
      subst hq9
      clear hb3 hres k0 k1
      go_wp2_with fail
      go_ret
      exact ⟨rfl, HB3.out⟩
    · go_enter Try.func78, Try.ntmps78
      go_wp2_with fail
      refine (mapS_any _ _ _ f _ _ _ s true _ (HZ.out.later HB0.out) (by simp [HP.out])).mono ?_
      rintro e w1 ⟨rfl, hb1⟩
      have HB1 := hide (HB0.out.trans (hb1.mono HB0.out.size))
      have HK1 := hide (HK0.out.later hb1)
      have k0 := HK1.out.cell 0 _ rfl
      have k1 := HK1.out.cell 1 _ rfl
      clear hb1
      go_wp2_with fail
      refine (collS_any _ _ _ f _ _ _ s _ (HZ.out.later HB1.out) HP.out).mono ?_
      rintro e w2 ⟨g, q, ys, rfl, hb2, _, _, hres⟩
      have HB2 := hide (HB1.out.trans (hb2.mono HB1.out.size))
      have HK2 := hide (HK1.out.later hb2)
      have hq9 : q = 0 := by rcases hres with ⟨_, _, h⟩ | ⟨a', b', hf2, _⟩; exact h; exact absurd HC.out hf2.not
      subst hq9
      clear hb2 hres k0 k1
      have k0 := HK2.out.cell 0 _ rfl
      have k1 := HK2.out.cell 1 _ rfl
      go_wp2_with fail
      refine (faultS_any _ _ _ f _ _ _ s T _ (HZ.out.later HB2.out) HP.out HT.out).mono ?_
      rintro e w3 ⟨g3, q3, ys3, rfl, hb3, _, _, hres⟩
      have HB3 := hide (HB2.out.trans (hb3.mono HB2.out.size))
      have hq9 : q3 = 0 := by rcases hres with ⟨h1, _, h2⟩ | ⟨h1, _, h2⟩ <;> omega
      subst hq9
      clear hb3 hres k0 k1
      go_wp2_with fail
      go_ret
      exact ⟨rfl, HB3.out⟩
end Go.Proofs.Ytclgjkmoeeklkaa
namespace Go.Proofs.Ytclgjkmoeeklkaa
open Go Go.RowKit
set_option maxHeartbeats 2000000
set_option maxRecDepth 100000 in
theorem bkWS_any (A : Option Addr) (n c : Nat) (f : List (List Int)) (B : Option Addr) (m d : Nat) (s : List (List Int)) (zf zg : List (List Int)) (code : Int) (kz kw : Nat) (w : World) (hz : ZArg 1048576 w A n f B m s) (hr : BkRes f s zf zg code) (hk : ZSz 1048576 zf kz zg kw) :
    Calls Try.prog 38 #[.agg #[.slice A n c, .slice B m d]] w (WPost 40 2 kz kw zf zg code w) := by
  have HZ := hide hz
  have HFL := hide hz.sz.fl
  rcases hr with ⟨hp, rfl, rfl, rfl⟩ | ⟨hp, rfl, rfl, rfl⟩
  · have HS := hide hp
    have hc := hp.2.1
    rw [hz.sz.fl] at hc
    have HC := hide hc
    obtain rfl : kz = n := by rw [← hk.fl, grid_length, HFL.out]
    obtain rfl : kw = kz := by rw [← hk.sl, grid_length, HFL.out]
    clear hp hz hk hc
    go_enter Try.func38, Try.ntmps38
    go_wp2_with fail
    refine calls_gen fun w0 hw0 => ?_
    have hb0 : Below w.heap.size w w0 := by rw [hw0]; exact ((Below.refl _ _).alloc (Nat.le_refl _) _).alloc (by simp) _
    have HB0 := hide hb0
    have HK0 : Hid (Blk w0 w.heap.size 43 [.slice A kw c, .slice B m d]) := hide (by rw [hw0]; exact (Blk.new _ _ _).alloc _)
    have HR0 : Hid (Blk w0 (w.heap.size + 1) 43 [.slice none 0 0, .slice none 0 0]) := hide (by rw [hw0]; have h := Blk.new (w.alloc (Obj.cells #[Value.slice A kw c, Value.slice B m d] 43)) 43 [.slice none 0 0, .slice none 0 0]; simpa using h)
    clear hw0 hb0
    refine (isS_any _ _ _ f _ _ _ s true _ (HZ.out.later HB0.out) (by simp [IsRes, HS.out])).mono ?_
    rintro e w1 ⟨rfl, hb1⟩
    have HB1 := hide (HB0.out.trans (hb1.mono HB0.out.size))
    have HK1 := hide (HK0.out.later hb1)
    have HR1 := hide (HR0.out.later hb1)
    have k0 := HK1.out.cell 0 _ rfl
    have k1 := HK1.out.cell 1 _ rfl
    clear hb1
    go_wp2_with fail
    clear k0 k1
    refine (bkS_any _ _ _ f _ _ _ s _ (HZ.out.later HB1.out) HS.out.1 HC.out).mono ?_
    unfold BkPost
    rintro e w3 ⟨A3, c3, B3, d3, rfl, hb3, ho3⟩
    have HB3 := hide (HB1.out.trans (hb3.mono HB1.out.size))
    have HR3 := hide (HR1.out.later hb3)
    have HO3 := hide ho3
    have k2 := HR3.out.cell 0 _ rfl
    have k3 := HR3.out.cell 1 _ rfl
    have k4 := HR3.out.frozen 0
    have k5 := HR3.out.frozen 1
    clear hb3 ho3
    go_wp2_with fail
    refine bp_gen fun wf hwf => ?_
    obtain ⟨q0, q1, hbf, hof⟩ := wend hwf HR3.out (by omega) HR1.out.lt HB3.out HB1.out.size HO3.out
    clear hwf k2 k3 k4 k5
    rw [HFL.out]
    exact bodyPost_ret (v := .tuple #[.agg #[.slice A3 kw c3, .slice B3 kw d3], .int .i64 0]) (by simp [results, Try.results38, go_sem, q0, q1]) rfl ⟨_, _, _, _, rfl, hbf, hof⟩
  · have HP := hide hp
    obtain rfl : kz = 0 := by simpa using hk.fl.symm
    obtain rfl : kw = 0 := by simpa using hk.sl.symm
    clear hp hz hk
    go_enter Try.func38, Try.ntmps38
    go_wp2_with fail
    refine calls_gen fun w0 hw0 => ?_
    have hb0 : Below w.heap.size w w0 := by rw [hw0]; exact ((Below.refl _ _).alloc (Nat.le_refl _) _).alloc (by simp) _
    have HB0 := hide hb0
    have HR0 : Hid (Blk w0 (w.heap.size + 1) 43 [.slice none 0 0, .slice none 0 0]) := hide (by rw [hw0]; have h := Blk.new (w.alloc (Obj.cells #[Value.slice A n c, Value.slice B m d] 43)) 43 [.slice none 0 0, .slice none 0 0]; simpa using h)
    clear hw0 hb0
    refine (isS_any _ _ _ f _ _ _ s false _ (HZ.out.later HB0.out) (by simp [IsRes, HP.out])).mono ?_
    rintro e w1 ⟨rfl, hb1⟩
    have HB1 := hide (HB0.out.trans (hb1.mono HB0.out.size))
    have HR1 := hide (HR0.out.later hb1)
    have k2 := HR1.out.cell 0 _ rfl
    have k3 := HR1.out.cell 1 _ rfl
    have k4 := HR1.out.frozen 0
    have k5 := HR1.out.frozen 1
    clear hb1
    go_wp2_with fail
    refine bp_gen fun wf hwf => ?_
    obtain ⟨q0, q1, hbf, hof⟩ := wend (ts := 40) (t := 2) (w2 := w1) hwf HR1.out (by omega) HR1.out.lt HB1.out HB1.out.size ObjW.empty
    clear hwf k2 k3 k4 k5
    exact bodyPost_ret (v := .tuple #[.agg #[.slice none 0 0, .slice none 0 0], .int .i64 1]) (by simp [results, Try.results38, go_sem, q0, q1]) rfl ⟨_, _, _, _, rfl, hbf, hof⟩
end Go.Proofs.Ytclgjkmoeeklkaa
